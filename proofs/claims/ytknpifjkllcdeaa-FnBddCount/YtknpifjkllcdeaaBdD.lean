/-
  Diagrams: the program puts nodes one behind the other, each once.
-/
import Derived.Test.YtknpifjkllcdeaaBdM
import Derived.Test.YtknpifjkllcdeaaRowN
namespace Go.Proofs.Ytknpifjkllcdeaa
open Go.RowKit Go.Deep
set_option linter.unusedVariables false

attribute [local go_sem] Oper.semAt_some

/-- What is drawn, in memory. -/
structure BldN (w : World) (Bb Bm lo : Nat) (vars : Int) (va : Value) (D : DataW Nat) (ns : List Nd) : Prop where
  box : w.heap[Bb]? = some (.cells #[.int .i64 vars, va, .map (some Bm)] 105 (0, 0))
  row : w.ownsRow lo 50 3 va ns.length (ndV ns)
  map : w.ownsMap Try.prog 50 (plainElem Try.prog 3) Bm ns.length D
  ok : FoundN D ns

section
variable {w w' : World} {Bb Bm lo : Nat} {vars : Int} {va : Value} {D : DataW Nat} {ns : List Nd}
theorem BldN.lt (h : BldN w Bb Bm lo vars va D ns) : Bb < w.heap.size := (Array.getElem?_eq_some_iff.1 h.box).1
theorem BldN.c0 (h : BldN w Bb Bm lo vars va D ns) : w.cell? ⟨Bb, 0, none⟩ = some (.int .i64 vars) := by simp [World.cell?, h.box]
theorem BldN.c1 (h : BldN w Bb Bm lo vars va D ns) : w.cell? ⟨Bb, 1, none⟩ = some va := by simp [World.cell?, h.box]
theorem BldN.c2 (h : BldN w Bb Bm lo vars va D ns) : w.cell? ⟨Bb, 2, none⟩ = some (.map (some Bm)) := by simp [World.cell?, h.box]
theorem BldN.below (h : BldN w Bb Bm lo vars va D ns) (hb : Below w.heap.size w w') : BldN w' Bb Bm lo vars va D ns := by
  refine ⟨(hb.block Bb h.lt).trans h.box, row_below h.row hb, ?_, h.ok⟩
  have hlt := h.map.lt
  obtain ⟨es, clock, h1, h2⟩ := h.map
  exact ⟨es, clock, (hb.block Bm hlt).trans h1, h2⟩
theorem rowN_ne_map {b : Nat} {n : Nat} {zs : List Value} (h : w.ownsRow lo 50 3 va n zs) {es : Array MapEntry} {ck : Nat} (hb : w.heap[b]? = some (.map es ck)) : va.ownBlock ≠ some b := fun e => by
  rcases h.2 with ⟨h5, _⟩ | ⟨g, cap, cur, h5, _, hh, _⟩
  · rw [h5] at e; cases e
  · rw [h5] at e
    have e' : g = b := Option.some.inj e
    subst e'
    rw [hh] at hb
    cases hb
/-- The map is no block of cells. -/
theorem BldN.apart (h : BldN w Bb Bm lo vars va D ns) : Bb ≠ Bm ∧ va.ownBlock ≠ some Bm ∧ va.ownBlock ≠ some Bb := by
  obtain ⟨es, clock, h1, h2⟩ := h.map
  exact ⟨fun e => (by subst e; have h3 := h.box; rw [h1] at h3; cases h3), rowN_ne_map h.row h1, row_ne h.row h.box (by decide)⟩
end

/-- One node more behind the others, the map not told of it yet. -/
structure MidN (w : World) (Bb Bm lo : Nat) (vars : Int) (va : Value) (D : DataW Nat) (ns : List Nd) (n : Nat) : Prop where
  box : w.heap[Bb]? = some (.cells #[.int .i64 vars, va, .map (some Bm)] 105 (0, 0))
  row : w.ownsRow lo 50 3 va ns.length (ndV ns)
  map : w.ownsMap Try.prog 50 (plainElem Try.prog 3) Bm n D

theorem BldN.mid {w w1 w' : World} {Bb Bm lo : Nat} {vars : Int} {va vb : Value} {D : DataW Nat} {ns : List Nd} {p : Nd} (h : BldN w Bb Bm lo vars va D ns) (hb : Below w.heap.size w w1) (hg : w1.grownBy w' va.ownBlock) (hr : w'.ownsRow lo 50 3 vb (ns.length + 1) (ndV (ns ++ [p]))) :
    MidN (w'.setCell ⟨Bb, 1, none⟩ vb) Bb Bm lo vars vb D (ns ++ [p]) ns.length ∧ Chg (fun k => k = Bb ∨ k = Bm ∨ va.ownBlock = some k) w (w'.setCell ⟨Bb, 1, none⟩ vb) := by
  have h1 := h.below hb
  obtain ⟨es, clock, hm, hm2⟩ := h1.map
  have n1 := row_ne h1.row h1.box (by decide)
  have n2 := rowN_ne_map h1.row hm
  have hbx : w'.heap[Bb]? = some (.cells #[.int .i64 vars, va, .map (some Bm)] 105 (0, 0)) := (hg.block Bb h1.lt (fun e => n1 e.symm)).trans h1.box
  have hmx : w'.heap[Bm]? = some (.map es clock) := (hg.block Bm h1.map.lt (fun e => n2 e.symm)).trans hm
  have hne : Bm ≠ Bb := fun e => by rw [e, hbx] at hmx; cases hmx
  refine ⟨⟨by simp [World.setCell, Array.getElem?_modify, hbx], ?_, ⟨es, clock, (blk_setCell_other _ _ _ _ hne).trans hmx, hm2⟩⟩, ?_⟩
  · have hr' : w'.ownsRow lo 50 3 vb (ns ++ [p]).length (ndV (ns ++ [p])) := by rw [List.length_append]; exact hr
    exact row_of_block hr' (fun k e => blk_setCell_other _ _ _ _ (fun e2 => row_ne hr hbx (by decide) (by rw [e, e2])))
  · exact ((Chg.of_below hb).trans ((chg_of_grown hg).mono (fun k e => .inr (.inr e)))).trans ((Chg.set _ _ _ _).mono (fun k e => .inl e))

theorem MidN.bld {w w' : World} {Bb Bm lo n : Nat} {vars : Int} {va : Value} {D D' : DataW Nat} {ns : List Nd} (h : MidN w Bb Bm lo vars va D ns n) (hg : w.grownBy w' (some Bm)) (hm : w'.ownsMap Try.prog 50 (plainElem Try.prog 3) Bm ns.length D') (hf : FoundN D' ns) : BldN w' Bb Bm lo vars va D' ns := by
  obtain ⟨es, clock, h1, h2⟩ := h.map
  have hne : Bb ≠ Bm := fun e => by have h3 := h.box; rw [e, h1] at h3; cases h3
  exact ⟨(hg.block Bb (Array.getElem?_eq_some_iff.1 h.box).1 (fun e => hne (Option.some.inj e))).trans h.box, row_of_block h.row (fun k e => hg.block k (World.ownsRow.lt h.row k e).2 (fun e2 => rowN_ne_map h.row h1 (by rw [e]; exact e2))), hm, hf⟩

def PlacePost (Bb Bm lo : Nat) (vars : Int) (va : Value) (ns : List Nd) (p : Nd) (w : World) (e : Ending) (w' : World) : Prop :=
  ∃ aa' ca' D', e = .returned (.int .i64 (putB ns p).2) ∧ BldN w' Bb Bm lo vars (.slice aa' (putB ns p).1.length ca') D' (putB ns p).1 ∧ Chg (fun k => k = Bb ∨ k = Bm ∨ va.ownBlock = some k) w w'

theorem zero_intN (w : World) : (zeroValue 3).run Try.prog w = .ok (.int .i64 0) w := by kernel_rfl

set_option maxRecDepth 100000 in
set_option maxHeartbeats 4000000 in
theorem placeOf_any (Bb Bm lo : Nat) (vars : Int) (aa : Option Addr) (ca : Nat) (D : DataW Nat) (ns : List Nd) (x y z : Int) (w : World) (hB : BldN w Bb Bm lo vars (.slice aa ns.length ca) D ns) (hF : FitN (x, y, z)) (hn : ns.length ≤ 100) (hlo : lo ≤ w.heap.size) :
    Calls Try.prog 119 #[.pointer (some ⟨Bb, 0, none⟩), .agg #[.int .i64 x, .int .i64 y, .int .i64 z]] w (PlacePost Bb Bm lo vars (.slice aa ns.length ca) ns (x, y, z) w) := by
  have HB := hideN hB
  have HF := hideN hF
  obtain ⟨ia, hia, hza0, hza1, hza2⟩ := info_parts info_nd
  obtain ⟨V, hV⟩ : ∃ V, V = w.alloc (.cells #[.int .i64 x, .int .i64 y, .int .i64 z] 50) := ⟨_, rfl⟩
  have y0 : V.cell? ⟨w.heap.size, 0, none⟩ = some (.int .i64 x) := by rw [hV]; simp
  have y1 : V.cell? ⟨w.heap.size, 1, none⟩ = some (.int .i64 y) := by rw [hV]; simp
  have y2 : V.cell? ⟨w.heap.size, 2, none⟩ = some (.int .i64 z) := by rw [hV]; simp
  have HBV : Hid (Below w.heap.size w V) := by rw [hV]; exact belOne _ _
  have HB1 := hideN (HB.out.below HBV.out)
  have hlV : w.heap.size < V.heap.size := cell_lt y0
  have s2 := HB1.out.c2
  have s4 := HB1.out.lt
  obtain ⟨v, ps, hrun, hv⟩ := (World.ownsMap.drew HB1.out.map).look_ok ndKeyed Try.underlying103 (zero_intN V.drew) (plainElem_int Try.underlying3 (by decide)) (keyOf_nd (x, y, z) HF.out)
  obtain ⟨c, rfl, hc, hwc⟩ := plainElem_int_inv Try.underlying3 hv
  have HFO := hideN (HB1.out.ok.2 (x, y, z) HF.out)
  obtain ⟨f, hf⟩ : ∃ f, Maps.has D (keyN (x, y, z)) = f := ⟨_, rfl⟩
  rw [hf] at hrun HFO
  have HAC : Hid (D.atKey (keyN (x, y, z)) (.lit (.int .i64 0)) = .lit (.int .i64 c)) := congrArg Prod.fst hc
  have HV := hideN hV
  clear hv hc hf hB hF hV
  go_enter Try.func119, Try.ntmps119
  go_wp2_with fail
  rw [← HV.out]
  refine region_S (fin := 10) (S := fun V => V.cell? ⟨Bb, 2, none⟩ = some (.map (some Bm)) ∧ V.cell? ⟨w.heap.size, 0, none⟩ = some (.int .i64 x) ∧ V.cell? ⟨w.heap.size, 1, none⟩ = some (.int .i64 y) ∧ V.cell? ⟨w.heap.size, 2, none⟩ = some (.int .i64 z) ∧ (Instr.lookup 103 (.map (some Bm)) (.agg #[.int .i64 x, .int .i64 y, .int .i64 z]) true).run Try.prog V = .ok (.tuple #[.int .i64 c, .bool f]) V) (by kernel_rfl) ⟨s2, y0, y1, y2, hrun⟩ (fun hHeld => ?_)
  clear hHeld
  refine takeS (i := 0) (v := .pointer (some ⟨Bb, 0, none⟩)) rfl (by kernel_rfl) (by kernel_rfl) (by kernel_rfl) (by kernel_rfl) (fun _ _ _ h => h) (Or.inl ⟨by rfl, fun w hS => by obtain ⟨s2, y0, y1, y2, hrun⟩ := hS; go_simp⟩) ⟨s2, y0, y1, y2, hrun⟩ ?_
  simp only [List.getElem_toArray, List.getElem_cons_zero, Act.put, List.setIfInBounds_toArray, List.set_cons_zero, List.set_cons_succ]
  refine takeS (i := 1) (v := .pointer (some ⟨Bb, 0, none⟩)) rfl (by kernel_rfl) (by kernel_rfl) (by kernel_rfl) (by kernel_rfl) (fun _ _ _ h => h) (Or.inl ⟨by rfl, fun w hS => by obtain ⟨s2, y0, y1, y2, hrun⟩ := hS; go_simp⟩) ⟨s2, y0, y1, y2, hrun⟩ ?_
  simp only [List.getElem_toArray, List.getElem_cons_zero, List.getElem_cons_succ, Act.put, List.setIfInBounds_toArray, List.set_cons_zero, List.set_cons_succ]
  refine takeS (i := 2) (v := .pointer (some ⟨Bb, 2, none⟩)) rfl (by kernel_rfl) (by kernel_rfl) (by kernel_rfl) (by kernel_rfl) (fun _ _ _ h => h) (Or.inl ⟨by rfl, fun w hS => by obtain ⟨s2, y0, y1, y2, hrun⟩ := hS; go_simp⟩) ⟨s2, y0, y1, y2, hrun⟩ ?_
  simp only [List.getElem_toArray, List.getElem_cons_zero, List.getElem_cons_succ, Act.put, List.setIfInBounds_toArray, List.set_cons_zero, List.set_cons_succ]
  refine takeS (i := 3) (v := .map (some Bm)) rfl (by kernel_rfl) (by kernel_rfl) (by kernel_rfl) (by kernel_rfl) (fun _ _ _ h => h) (Or.inl ⟨by rfl, fun w hS => by obtain ⟨s2, y0, y1, y2, hrun⟩ := hS; go_simp⟩) ⟨s2, y0, y1, y2, hrun⟩ ?_
  simp only [List.getElem_toArray, List.getElem_cons_zero, List.getElem_cons_succ, Act.put, List.setIfInBounds_toArray, List.set_cons_zero, List.set_cons_succ]
  refine takeS (i := 4) (v := .agg #[.int .i64 x, .int .i64 y, .int .i64 z]) rfl (by kernel_rfl) (by kernel_rfl) (by kernel_rfl) (by kernel_rfl) (fun _ _ _ h => h) (Or.inl ⟨by rfl, fun w hS => by obtain ⟨s2, y0, y1, y2, hrun⟩ := hS; go_simp⟩) ⟨s2, y0, y1, y2, hrun⟩ ?_
  simp only [List.getElem_toArray, List.getElem_cons_zero, List.getElem_cons_succ, Act.put, List.setIfInBounds_toArray, List.set_cons_zero, List.set_cons_succ]
  refine takeS (i := 5) (v := .tuple #[.int .i64 c, .bool f]) rfl (by kernel_rfl) (by kernel_rfl) (by kernel_rfl) (by kernel_rfl) (fun _ _ _ h => h) (Or.inl ⟨by rfl, fun w hS => by obtain ⟨s2, y0, y1, y2, hrun⟩ := hS; go_simp⟩) ⟨s2, y0, y1, y2, hrun⟩ ?_
  simp only [List.getElem_toArray, List.getElem_cons_zero, List.getElem_cons_succ, Act.put, List.setIfInBounds_toArray, List.set_cons_zero, List.set_cons_succ]
  refine takeS (i := 6) (v := .tuple #[.int .i64 c, .bool f]) rfl (by kernel_rfl) (by kernel_rfl) (by kernel_rfl) (by kernel_rfl) (fun _ _ _ h => h) (Or.inl ⟨by rfl, fun w hS => by obtain ⟨s2, y0, y1, y2, hrun⟩ := hS; go_simp⟩) ⟨s2, y0, y1, y2, hrun⟩ ?_
  simp only [List.getElem_toArray, List.getElem_cons_zero, List.getElem_cons_succ, Act.put, List.setIfInBounds_toArray, List.set_cons_zero, List.set_cons_succ]
  refine takeS (i := 7) (v := .int .i64 c) rfl (by kernel_rfl) (by kernel_rfl) (by kernel_rfl) (by kernel_rfl) (fun _ _ _ h => h) (Or.inl ⟨by rfl, fun w hS => by obtain ⟨s2, y0, y1, y2, hrun⟩ := hS; go_simp⟩) ⟨s2, y0, y1, y2, hrun⟩ ?_
  simp only [List.getElem_toArray, List.getElem_cons_zero, List.getElem_cons_succ, Act.put, List.setIfInBounds_toArray, List.set_cons_zero, List.set_cons_succ]
  refine takeS (i := 8) (v := .bool f) rfl (by kernel_rfl) (by kernel_rfl) (by kernel_rfl) (by kernel_rfl) (fun _ _ _ h => h) (Or.inl ⟨by rfl, fun w hS => by obtain ⟨s2, y0, y1, y2, hrun⟩ := hS; go_simp⟩) ⟨s2, y0, y1, y2, hrun⟩ ?_
  simp only [List.getElem_toArray, List.getElem_cons_zero, List.getElem_cons_succ, Act.put, List.setIfInBounds_toArray, List.set_cons_zero, List.set_cons_succ]
  refine takeS (i := 9) (v := .int .i64 c) rfl (by kernel_rfl) (by kernel_rfl) (by kernel_rfl) (by kernel_rfl) (fun _ _ _ h => h) (Or.inl ⟨by rfl, fun w hS => by obtain ⟨s2, y0, y1, y2, hrun⟩ := hS; go_simp⟩) ⟨s2, y0, y1, y2, hrun⟩ ?_
  simp only [List.getElem_toArray, List.getElem_cons_zero, List.getElem_cons_succ, Act.put, List.setIfInBounds_toArray, List.set_cons_zero, List.set_cons_succ]
  refine oneS (i := 10) (by kernel_rfl) rfl (by rfl) ?_
  simp only [List.getElem_toArray, List.getElem_cons_zero, List.getElem_cons_succ]
  go_simp
  refine doneS (by kernel_rfl) ?_ _
  clear hrun
  cases f with
  | true =>
    have hw : placeB ns (x, y, z) < ns.length := by have h := HFO.out.1; simpa using h
    have hcv : c = 2 + (placeB ns (x, y, z) : Int) := by have h := HFO.out.2 hw; rw [HAC.out] at h; simpa using h
    have HR : Hid (∀ W, Below w.heap.size w W → PlacePost Bb Bm lo vars (.slice aa ns.length ca) ns (x, y, z) w (.returned (.int .i64 c)) W) := fun W hW => by
      have e : putB ns (x, y, z) = (ns, c) := by unfold putB; rw [if_pos hw, hcv]
      refine ⟨aa, ca, D, by rw [e], ?_, Chg.of_below hW⟩
      rw [e]
      exact HB.out.below hW
    clear hcv hw
    go_wp2_with fail
    go_ret
    exact HR.out _ (by exact below_drewN HBV.out 1)
  | false =>
    have hnw : ¬ placeB ns (x, y, z) < ns.length := by have h := HFO.out.1; simpa using h
    have HBD : Hid (BldN V.drew Bb Bm lo vars (.slice aa ns.length ca) D ns) := HB1.out.below (below_drewN (Below.refl _ _) 1)
    have HBW : Hid (Below w.heap.size w V.drew) := below_drewN HBV.out 1
    have y0 : V.drew.cell? ⟨w.heap.size, 0, none⟩ = some (.int .i64 x) := y0
    have y1 : V.drew.cell? ⟨w.heap.size, 1, none⟩ = some (.int .i64 y) := y1
    have y2 : V.drew.cell? ⟨w.heap.size, 2, none⟩ = some (.int .i64 z) := y2
    have hlV : w.heap.size < V.drew.heap.size := hlV
    have HNW := hideN hnw
    have HPB : Hid (putB ns (x, y, z) = (ns ++ [(x, y, z)], 2 + (ns.length : Int))) := by show _ = _; unfold putB; rw [if_neg hnw]
    clear hwc HFO HAC s2 s4 HB1 HBV hnw HV
    generalize V.drew = V at *
    have s1 := HBD.out.c1
    have s4 := HBD.out.lt
    have w1 : IntKind.i64.wrap (2 + (ns.length : Int)) = 2 + (ns.length : Int) := by rw [IntKind.wrap_i64]; omega
    go_wp2_with fail
    refine region_S (fin := 10) (S := fun V => V.cell? ⟨Bb, 1, none⟩ = some (.slice aa ns.length ca) ∧ V.cell? ⟨w.heap.size, 0, none⟩ = some (.int .i64 x) ∧ V.cell? ⟨w.heap.size, 1, none⟩ = some (.int .i64 y) ∧ V.cell? ⟨w.heap.size, 2, none⟩ = some (.int .i64 z)) (by kernel_rfl) ⟨s1, y0, y1, y2⟩ (fun hHeld => ?_)
    clear hHeld
    refine takeS (i := 0) (v := .pointer (some ⟨Bb, 0, none⟩)) rfl (by kernel_rfl) (by kernel_rfl) (by kernel_rfl) (by kernel_rfl) (fun _ _ _ h => h) (Or.inl ⟨by rfl, fun w hS => by obtain ⟨s1, y0, y1, y2⟩ := hS; go_simp⟩) ⟨s1, y0, y1, y2⟩ ?_
    simp only [List.getElem_toArray, List.getElem_cons_zero, Act.put, List.setIfInBounds_toArray, List.set_cons_zero, List.set_cons_succ]
    refine takeS (i := 1) (v := .pointer (some ⟨Bb, 0, none⟩)) rfl (by kernel_rfl) (by kernel_rfl) (by kernel_rfl) (by kernel_rfl) (fun _ _ _ h => h) (Or.inl ⟨by rfl, fun w hS => by obtain ⟨s1, y0, y1, y2⟩ := hS; go_simp⟩) ⟨s1, y0, y1, y2⟩ ?_
    simp only [List.getElem_toArray, List.getElem_cons_zero, List.getElem_cons_succ, Act.put, List.setIfInBounds_toArray, List.set_cons_zero, List.set_cons_succ]
    refine takeS (i := 2) (v := .pointer (some ⟨Bb, 0, none⟩)) rfl (by kernel_rfl) (by kernel_rfl) (by kernel_rfl) (by kernel_rfl) (fun _ _ _ h => h) (Or.inl ⟨by rfl, fun w hS => by obtain ⟨s1, y0, y1, y2⟩ := hS; go_simp⟩) ⟨s1, y0, y1, y2⟩ ?_
    simp only [List.getElem_toArray, List.getElem_cons_zero, List.getElem_cons_succ, Act.put, List.setIfInBounds_toArray, List.set_cons_zero, List.set_cons_succ]
    refine takeS (i := 3) (v := .pointer (some ⟨Bb, 1, none⟩)) rfl (by kernel_rfl) (by kernel_rfl) (by kernel_rfl) (by kernel_rfl) (fun _ _ _ h => h) (Or.inl ⟨by rfl, fun w hS => by obtain ⟨s1, y0, y1, y2⟩ := hS; go_simp⟩) ⟨s1, y0, y1, y2⟩ ?_
    simp only [List.getElem_toArray, List.getElem_cons_zero, List.getElem_cons_succ, Act.put, List.setIfInBounds_toArray, List.set_cons_zero, List.set_cons_succ]
    refine takeS (i := 4) (v := .slice aa ns.length ca) rfl (by kernel_rfl) (by kernel_rfl) (by kernel_rfl) (by kernel_rfl) (fun _ _ _ h => h) (Or.inl ⟨by rfl, fun w hS => by obtain ⟨s1, y0, y1, y2⟩ := hS; go_simp⟩) ⟨s1, y0, y1, y2⟩ ?_
    simp only [List.getElem_toArray, List.getElem_cons_zero, List.getElem_cons_succ, Act.put, List.setIfInBounds_toArray, List.set_cons_zero, List.set_cons_succ]
    refine takeS (i := 5) (v := .agg #[.int .i64 x, .int .i64 y, .int .i64 z]) rfl (by kernel_rfl) (by kernel_rfl) (by kernel_rfl) (by kernel_rfl) (fun _ _ _ h => h) (Or.inl ⟨by rfl, fun w hS => by obtain ⟨s1, y0, y1, y2⟩ := hS; go_simp⟩) ⟨s1, y0, y1, y2⟩ ?_
    simp only [List.getElem_toArray, List.getElem_cons_zero, List.getElem_cons_succ, Act.put, List.setIfInBounds_toArray, List.set_cons_zero, List.set_cons_succ]
    refine oneS (i := 6) (by kernel_rfl) rfl (by rfl) ?_
    simp only [List.getElem_toArray, List.getElem_cons_zero, List.getElem_cons_succ]
    go_simp
    have HBE : Hid (Below V.heap.size V (V.drew.alloc (.cells #[.int .i64 x, .int .i64 y, .int .i64 z] 50))) := belNext (below_drewN (Below.refl _ _) 1) (belOne _ _)
    have HRD := hideN (row_below HBD.out.row HBE.out)
    refine oneS (i := 7) (by kernel_rfl) rfl (by rfl) ?_
    simp only [List.getElem_toArray, List.getElem_cons_zero, List.getElem_cons_succ]
    refine wp_append_lies _ (.tmp 29) (.tmp 31) 23 rfl lo 50 ia (.agg #[.int .i64 0, .int .i64 0, .int .i64 0]) 3 24 Try.underlying23 hia hza0 hza1 hza2 rfl (by decide) (.slice aa ns.length ca) ns.length (ndV ns) rfl HRD.out ⟨V.heap.size, 0, none⟩ 1 1 [.int .i64 x, .int .i64 y, .int .i64 z] rfl rfl (by exact news3 V _ _ _ _) (nd_oneCell _ _ _) (by decide) (by unfold maxLen; omega) (by omega) (by simp; omega) _ rfl ?_
    intro g gcap w9 hown9 hgrow9 hat9 hlt9
    have hnr : (Value.slice aa ns.length ca).ownBlock ≠ some w.heap.size := fun e => by have := (World.ownsRow.lt HB.out.row _ e).2; omega
    have hyb := hgrow9.block w.heap.size (Nat.lt_of_lt_of_le hlV HBE.out.size) (fun e2 => hnr e2.symm)
    have q0 : w9.cell? ⟨w.heap.size, 0, none⟩ = some (.int .i64 x) := by rw [cellOfBlock hyb]; exact (HBE.out.cell (p := ⟨w.heap.size, 0, none⟩) hlV).trans y0
    have q1 : w9.cell? ⟨w.heap.size, 1, none⟩ = some (.int .i64 y) := by rw [cellOfBlock hyb]; exact (HBE.out.cell (p := ⟨w.heap.size, 1, none⟩) hlV).trans y1
    have q5 : w9.cell? ⟨w.heap.size, 2, none⟩ = some (.int .i64 z) := by rw [cellOfBlock hyb]; exact (HBE.out.cell (p := ⟨w.heap.size, 2, none⟩) hlV).trans y2
    have hbb := hgrow9.block Bb (Nat.lt_of_lt_of_le s4 HBE.out.size) (fun e2 => HBD.out.apart.2.2 e2.symm)
    have q2 : w9.cell? ⟨Bb, 1, none⟩ = some (.slice aa ns.length ca) := by rw [cellOfBlock hbb]; exact (HBE.out.cell (p := ⟨Bb, 1, none⟩) s4).trans s1
    have q3 : w9.frozen? ⟨Bb, 1, none⟩ = false := by simp [World.frozen?, hbb.trans ((HBE.out.block Bb s4).trans HBD.out.box)]
    have q4 : Bb < w9.heap.size := cell_lt q2
    have HMI := hideN (HBD.out.mid (p := (x, y, z)) (vb := .slice (some ⟨g, 0, none⟩) (ns.length + 1) gcap) HBE.out hgrow9 (by rw [ndV_snoc]; exact hown9))
    have hq9 : w.heap.size < w9.heap.size := cell_lt q0
    clear hown9 hgrow9 hat9 hlt9 hyb hbb y0 y1 y2 s1 s4 hnr HRD hlV
    refine ⟨fun _ => ⟨q2, q0, q1, q5⟩, ?_⟩
    simp only [Act.put, List.setIfInBounds_toArray, List.set_cons_zero, List.set_cons_succ]
    refine oneS (i := 8) (by kernel_rfl) rfl (by rfl) ?_
    simp only [List.getElem_toArray, List.getElem_cons_zero, List.getElem_cons_succ]
    go_simp
    refine takeS (i := 9) (v := .pointer (some ⟨Bb, 1, none⟩)) rfl (by kernel_rfl) (by kernel_rfl) (by kernel_rfl) (by kernel_rfl) (fun _ _ _ h => h) (Or.inl ⟨by rfl, fun w hS => by obtain ⟨q2, q0, q1, q5⟩ := hS; go_simp⟩) ⟨q2, q0, q1, q5⟩ ?_
    simp only [List.getElem_toArray, List.getElem_cons_zero, List.getElem_cons_succ, Act.put, List.setIfInBounds_toArray, List.set_cons_zero, List.set_cons_succ]
    refine oneS (i := 10) (by kernel_rfl) rfl (by rfl) ?_
    simp only [List.getElem_toArray, List.getElem_cons_zero, List.getElem_cons_succ]
    go_simp
    refine doneS (by kernel_rfl) ?_ _
    have HNB : Hid (w.heap.size ≠ Bb) := fun e => by have := HB.out.lt; omega
    have y0 : (w9.setCell ⟨Bb, 1, none⟩ (.slice (some ⟨g, 0, none⟩) (ns.length + 1) gcap)).cell? ⟨w.heap.size, 0, none⟩ = some (.int .i64 x) := by rw [cellOfBlock (blk_setCell_other _ _ _ _ HNB.out)]; exact q0
    have y1 : (w9.setCell ⟨Bb, 1, none⟩ (.slice (some ⟨g, 0, none⟩) (ns.length + 1) gcap)).cell? ⟨w.heap.size, 1, none⟩ = some (.int .i64 y) := by rw [cellOfBlock (blk_setCell_other _ _ _ _ HNB.out)]; exact q1
    have y2 : (w9.setCell ⟨Bb, 1, none⟩ (.slice (some ⟨g, 0, none⟩) (ns.length + 1) gcap)).cell? ⟨w.heap.size, 2, none⟩ = some (.int .i64 z) := by rw [cellOfBlock (blk_setCell_other _ _ _ _ HNB.out)]; exact q5
    have hlV : w.heap.size < (w9.setCell ⟨Bb, 1, none⟩ (.slice (some ⟨g, 0, none⟩) (ns.length + 1) gcap)).heap.size := by simpa using hq9
    clear q0 q1 q2 q3 q4 q5 hq9
    generalize w9.setCell ⟨Bb, 1, none⟩ (.slice (some ⟨g, 0, none⟩) (ns.length + 1) gcap) = U at *
    have s2 : U.cell? ⟨Bb, 2, none⟩ = some (.map (some Bm)) := by simp [World.cell?, HMI.out.1.box]
    have s4 : Bb < U.heap.size := cell_lt s2
    obtain ⟨w11, hrun, hown11, hgrow11⟩ := (World.ownsMap.drew HMI.out.1.map).update ndKeyed Try.underlying103 (by unfold maxLen; omega) (keyOf_nd (x, y, z) HF.out) (plainElem_int Try.underlying3 (wf_smallN (x := 2 + (ns.length : Int)) (by omega) (by omega)))
    simp only [ndOf] at hrun
    go_wp2_with fail
    refine region_S (fin := 6) (S := fun V => V.cell? ⟨Bb, 2, none⟩ = some (.map (some Bm)) ∧ V.cell? ⟨w.heap.size, 0, none⟩ = some (.int .i64 x) ∧ V.cell? ⟨w.heap.size, 1, none⟩ = some (.int .i64 y) ∧ V.cell? ⟨w.heap.size, 2, none⟩ = some (.int .i64 z)) (by kernel_rfl) ⟨s2, y0, y1, y2⟩ (fun hHeld => ?_)
    clear hHeld
    refine takeS (i := 0) (v := .pointer (some ⟨Bb, 0, none⟩)) rfl (by kernel_rfl) (by kernel_rfl) (by kernel_rfl) (by kernel_rfl) (fun _ _ _ h => h) (Or.inl ⟨by rfl, fun w hS => by obtain ⟨s2, y0, y1, y2⟩ := hS; go_simp⟩) ⟨s2, y0, y1, y2⟩ ?_
    simp only [List.getElem_toArray, List.getElem_cons_zero, Act.put, List.setIfInBounds_toArray, List.set_cons_zero, List.set_cons_succ]
    refine takeS (i := 1) (v := .pointer (some ⟨Bb, 0, none⟩)) rfl (by kernel_rfl) (by kernel_rfl) (by kernel_rfl) (by kernel_rfl) (fun _ _ _ h => h) (Or.inl ⟨by rfl, fun w hS => by obtain ⟨s2, y0, y1, y2⟩ := hS; go_simp⟩) ⟨s2, y0, y1, y2⟩ ?_
    simp only [List.getElem_toArray, List.getElem_cons_zero, List.getElem_cons_succ, Act.put, List.setIfInBounds_toArray, List.set_cons_zero, List.set_cons_succ]
    refine takeS (i := 2) (v := .pointer (some ⟨Bb, 2, none⟩)) rfl (by kernel_rfl) (by kernel_rfl) (by kernel_rfl) (by kernel_rfl) (fun _ _ _ h => h) (Or.inl ⟨by rfl, fun w hS => by obtain ⟨s2, y0, y1, y2⟩ := hS; go_simp⟩) ⟨s2, y0, y1, y2⟩ ?_
    simp only [List.getElem_toArray, List.getElem_cons_zero, List.getElem_cons_succ, Act.put, List.setIfInBounds_toArray, List.set_cons_zero, List.set_cons_succ]
    refine takeS (i := 3) (v := .map (some Bm)) rfl (by kernel_rfl) (by kernel_rfl) (by kernel_rfl) (by kernel_rfl) (fun _ _ _ h => h) (Or.inl ⟨by rfl, fun w hS => by obtain ⟨s2, y0, y1, y2⟩ := hS; go_simp⟩) ⟨s2, y0, y1, y2⟩ ?_
    simp only [List.getElem_toArray, List.getElem_cons_zero, List.getElem_cons_succ, Act.put, List.setIfInBounds_toArray, List.set_cons_zero, List.set_cons_succ]
    refine takeS (i := 4) (v := .agg #[.int .i64 x, .int .i64 y, .int .i64 z]) rfl (by kernel_rfl) (by kernel_rfl) (by kernel_rfl) (by kernel_rfl) (fun _ _ _ h => h) (Or.inl ⟨by rfl, fun w hS => by obtain ⟨s2, y0, y1, y2⟩ := hS; go_simp⟩) ⟨s2, y0, y1, y2⟩ ?_
    simp only [List.getElem_toArray, List.getElem_cons_zero, List.getElem_cons_succ, Act.put, List.setIfInBounds_toArray, List.set_cons_zero, List.set_cons_succ]
    refine takeS (i := 5) (v := .int .i64 (2 + (ns.length : Int))) rfl (by kernel_rfl) (by kernel_rfl) (by kernel_rfl) (by kernel_rfl) (fun _ _ _ h => h) (Or.inl ⟨by rfl, fun w hS => by obtain ⟨s2, y0, y1, y2⟩ := hS; go_simp⟩) ⟨s2, y0, y1, y2⟩ ?_
    simp only [List.getElem_toArray, List.getElem_cons_zero, List.getElem_cons_succ, Act.put, List.setIfInBounds_toArray, List.set_cons_zero, List.set_cons_succ]
    refine oneS (i := 6) (by kernel_rfl) rfl (by rfl) ?_
    simp only [List.getElem_toArray, List.getElem_cons_zero, List.getElem_cons_succ]
    go_simp
    refine doneS (by kernel_rfl) ?_ _
    have HFI : Hid (BldN w11 Bb Bm lo vars (.slice (some ⟨g, 0, none⟩) (ns.length + 1) gcap) (D.put (keyN (x, y, z)) (.lit (.int .i64 (2 + (ns.length : Int))))) (ns ++ [(x, y, z)])) := by
      have hm : MidN U.drew Bb Bm lo vars (.slice (some ⟨g, 0, none⟩) (ns.length + 1) gcap) D (ns ++ [(x, y, z)]) ns.length := ⟨HMI.out.1.box, HMI.out.1.row, HMI.out.1.map⟩
      refine hm.bld hgrow11 ?_ (FoundN.snoc HBD.out.ok HF.out HNW.out)
      rw [List.length_append]
      exact hown11
    have HCF : Hid (Chg (fun k => k = Bb ∨ k = Bm ∨ (Value.slice aa ns.length ca).ownBlock = some k) w w11) := by
      have h1 := (Chg.of_below HBW.out).trans HMI.out.2
      have h2 : Chg (fun k => k = Bb ∨ k = Bm ∨ (Value.slice aa ns.length ca).ownBlock = some k) w U.drew := h1.trans (Chg.of_below (below_drewN (Below.refl _ _) 1))
      exact h2.trans ((chg_of_grown hgrow11).mono (fun k e => .inr (.inl (Option.some.inj e).symm)))
    clear hown11 hgrow11 hrun s2 s4 y0 y1 y2 hlV HMI
    go_wp2_with fail
    go_ret
    refine ⟨some ⟨g, 0, none⟩, gcap, D.put (keyN (x, y, z)) (.lit (.int .i64 (2 + (ns.length : Int)))), by rw [HPB.out]; rfl, ?_, HCF.out⟩
    rw [HPB.out]
    have hlen : (ns ++ [(x, y, z)]).length = ns.length + 1 := by simp
    simp only [hlen]
    exact HFI.out

end Go.Proofs.Ytknpifjkllcdeaa

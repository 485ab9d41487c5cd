/-
  Diagrams: the program puts nodes one behind the other, each once.
  Diagrams: the program draws the diagram of a table.
-/
import Derived.Test.YtknpifjkllcdeaaBdM
import Derived.Test.YtknpifjkllcdeaaRowN
namespace Go.Proofs.Ytknpifjkllcdeaa
open Go.RowKit Go.Deep
set_option linter.unusedVariables false

attribute [local go_sem] Oper.semAt_some

/-- What is drawn, in memory. -/
structure BldN (w : World) (Bb Bm lo : Nat) (vars : Int) (va : Value) (D : DataW Nat) (ns : List Nd) : Prop where
  box : w.heap[Bb]? = some (.cells #[.int .i64 vars, va, .map (some Bm)] 105 (0, 0))
  row : w.ownsRow lo 50 3 va ns.length (ndV ns)
  map : w.ownsMap Try.prog 50 (plainElem Try.prog 3) Bm ns.length D
  ok : FoundN D ns

section
variable {w w' : World} {Bb Bm lo : Nat} {vars : Int} {va : Value} {D : DataW Nat} {ns : List Nd}
theorem BldN.lt (h : BldN w Bb Bm lo vars va D ns) : Bb < w.heap.size := (Array.getElem?_eq_some_iff.1 h.box).1
theorem BldN.c0 (h : BldN w Bb Bm lo vars va D ns) : w.cell? ⟨Bb, 0, none⟩ = some (.int .i64 vars) := by simp [World.cell?, h.box]
theorem BldN.c1 (h : BldN w Bb Bm lo vars va D ns) : w.cell? ⟨Bb, 1, none⟩ = some va := by simp [World.cell?, h.box]
theorem BldN.c2 (h : BldN w Bb Bm lo vars va D ns) : w.cell? ⟨Bb, 2, none⟩ = some (.map (some Bm)) := by simp [World.cell?, h.box]
theorem BldN.below (h : BldN w Bb Bm lo vars va D ns) (hb : Below w.heap.size w w') : BldN w' Bb Bm lo vars va D ns := by
  refine ⟨(hb.block Bb h.lt).trans h.box, row_below h.row hb, ?_, h.ok⟩
  have hlt := h.map.lt
  obtain ⟨es, clock, h1, h2⟩ := h.map
  exact ⟨es, clock, (hb.block Bm hlt).trans h1, h2⟩
theorem rowN_ne_map {b : Nat} {n : Nat} {zs : List Value} (h : w.ownsRow lo 50 3 va n zs) {es : Array MapEntry} {ck : Nat} (hb : w.heap[b]? = some (.map es ck)) : va.ownBlock ≠ some b := fun e => by
  rcases h.2 with ⟨h5, _⟩ | ⟨g, cap, cur, h5, _, hh, _⟩
  · rw [h5] at e; cases e
  · rw [h5] at e
    have e' : g = b := Option.some.inj e
    subst e'
    rw [hh] at hb
    cases hb
/-- The map is no block of cells. -/
theorem BldN.apart (h : BldN w Bb Bm lo vars va D ns) : Bb ≠ Bm ∧ va.ownBlock ≠ some Bm ∧ va.ownBlock ≠ some Bb := by
  obtain ⟨es, clock, h1, h2⟩ := h.map
  exact ⟨fun e => (by subst e; have h3 := h.box; rw [h1] at h3; cases h3), rowN_ne_map h.row h1, row_ne h.row h.box (by decide)⟩
end

/-- One node more behind the others, the map not told of it yet. -/
structure MidN (w : World) (Bb Bm lo : Nat) (vars : Int) (va : Value) (D : DataW Nat) (ns : List Nd) (n : Nat) : Prop where
  box : w.heap[Bb]? = some (.cells #[.int .i64 vars, va, .map (some Bm)] 105 (0, 0))
  row : w.ownsRow lo 50 3 va ns.length (ndV ns)
  map : w.ownsMap Try.prog 50 (plainElem Try.prog 3) Bm n D

theorem BldN.mid {w w1 w' : World} {Bb Bm lo : Nat} {vars : Int} {va vb : Value} {D : DataW Nat} {ns : List Nd} {p : Nd} (h : BldN w Bb Bm lo vars va D ns) (hb : Below w.heap.size w w1) (hg : w1.grownBy w' va.ownBlock) (hr : w'.ownsRow lo 50 3 vb (ns.length + 1) (ndV (ns ++ [p]))) :
    MidN (w'.setCell ⟨Bb, 1, none⟩ vb) Bb Bm lo vars vb D (ns ++ [p]) ns.length ∧ Chg (fun k => k = Bb ∨ k = Bm ∨ va.ownBlock = some k) w (w'.setCell ⟨Bb, 1, none⟩ vb) := by
  have h1 := h.below hb
  obtain ⟨es, clock, hm, hm2⟩ := h1.map
  have n1 := row_ne h1.row h1.box (by decide)
  have n2 := rowN_ne_map h1.row hm
  have hbx : w'.heap[Bb]? = some (.cells #[.int .i64 vars, va, .map (some Bm)] 105 (0, 0)) := (hg.block Bb h1.lt (fun e => n1 e.symm)).trans h1.box
  have hmx : w'.heap[Bm]? = some (.map es clock) := (hg.block Bm h1.map.lt (fun e => n2 e.symm)).trans hm
  have hne : Bm ≠ Bb := fun e => by rw [e, hbx] at hmx; cases hmx
  refine ⟨⟨by simp [World.setCell, Array.getElem?_modify, hbx], ?_, ⟨es, clock, (blk_setCell_other _ _ _ _ hne).trans hmx, hm2⟩⟩, ?_⟩
  · have hr' : w'.ownsRow lo 50 3 vb (ns ++ [p]).length (ndV (ns ++ [p])) := by rw [List.length_append]; exact hr
    exact row_of_block hr' (fun k e => blk_setCell_other _ _ _ _ (fun e2 => row_ne hr hbx (by decide) (by rw [e, e2])))
  · exact ((Chg.of_below hb).trans ((chg_of_grown hg).mono (fun k e => .inr (.inr e)))).trans ((Chg.set _ _ _ _).mono (fun k e => .inl e))

theorem MidN.bld {w w' : World} {Bb Bm lo n : Nat} {vars : Int} {va : Value} {D D' : DataW Nat} {ns : List Nd} (h : MidN w Bb Bm lo vars va D ns n) (hg : w.grownBy w' (some Bm)) (hm : w'.ownsMap Try.prog 50 (plainElem Try.prog 3) Bm ns.length D') (hf : FoundN D' ns) : BldN w' Bb Bm lo vars va D' ns := by
  obtain ⟨es, clock, h1, h2⟩ := h.map
  have hne : Bb ≠ Bm := fun e => by have h3 := h.box; rw [e, h1] at h3; cases h3
  exact ⟨(hg.block Bb (Array.getElem?_eq_some_iff.1 h.box).1 (fun e => hne (Option.some.inj e))).trans h.box, row_of_block h.row (fun k e => hg.block k (World.ownsRow.lt h.row k e).2 (fun e2 => rowN_ne_map h.row h1 (by rw [e]; exact e2))), hm, hf⟩

def PlacePost (Bb Bm lo : Nat) (vars : Int) (va : Value) (ns : List Nd) (p : Nd) (w : World) (e : Ending) (w' : World) : Prop :=
  ∃ aa' ca' D', e = .returned (.int .i64 (putB ns p).2) ∧ BldN w' Bb Bm lo vars (.slice aa' (putB ns p).1.length ca') D' (putB ns p).1 ∧ Chg (fun k => k = Bb ∨ k = Bm ∨ va.ownBlock = some k) w w'

theorem zero_intN (w : World) : (zeroValue 3).run Try.prog w = .ok (.int .i64 0) w := by kernel_rfl

set_option maxRecDepth 100000 in
set_option maxHeartbeats 4000000 in
theorem placeOf_any (Bb Bm lo : Nat) (vars : Int) (aa : Option Addr) (ca : Nat) (D : DataW Nat) (ns : List Nd) (x y z : Int) (w : World) (hB : BldN w Bb Bm lo vars (.slice aa ns.length ca) D ns) (hF : FitN (x, y, z)) (hn : ns.length ≤ 100) (hlo : lo ≤ w.heap.size) :
    Calls Try.prog 119 #[.pointer (some ⟨Bb, 0, none⟩), .agg #[.int .i64 x, .int .i64 y, .int .i64 z]] w (PlacePost Bb Bm lo vars (.slice aa ns.length ca) ns (x, y, z) w) := by
  have HB := hideN hB
  have HF := hideN hF
  obtain ⟨ia, hia, hza0, hza1, hza2⟩ := info_parts info_nd
  obtain ⟨V, hV⟩ : ∃ V, V = w.alloc (.cells #[.int .i64 x, .int .i64 y, .int .i64 z] 50) := ⟨_, rfl⟩
  have y0 : V.cell? ⟨w.heap.size, 0, none⟩ = some (.int .i64 x) := by rw [hV]; simp
  have y1 : V.cell? ⟨w.heap.size, 1, none⟩ = some (.int .i64 y) := by rw [hV]; simp
  have y2 : V.cell? ⟨w.heap.size, 2, none⟩ = some (.int .i64 z) := by rw [hV]; simp
  have HBV : Hid (Below w.heap.size w V) := by rw [hV]; exact belOne _ _
  have HB1 := hideN (HB.out.below HBV.out)
  have hlV : w.heap.size < V.heap.size := cell_lt y0
  have s2 := HB1.out.c2
  have s4 := HB1.out.lt
  obtain ⟨v, ps, hrun, hv⟩ := (World.ownsMap.drew HB1.out.map).look_ok ndKeyed Try.underlying103 (zero_intN V.drew) (plainElem_int Try.underlying3 (by decide)) (keyOf_nd (x, y, z) HF.out)
  obtain ⟨c, rfl, hc, hwc⟩ := plainElem_int_inv Try.underlying3 hv
  have HFO := hideN (HB1.out.ok.2 (x, y, z) HF.out)
  obtain ⟨f, hf⟩ : ∃ f, Maps.has D (keyN (x, y, z)) = f := ⟨_, rfl⟩
  rw [hf] at hrun HFO
  have HAC : Hid (D.atKey (keyN (x, y, z)) (.lit (.int .i64 0)) = .lit (.int .i64 c)) := congrArg Prod.fst hc
  have HV := hideN hV
  clear hv hc hf hB hF hV
  go_enter Try.func119, Try.ntmps119
  go_wp2_with fail
  rw [← HV.out]
  refine region_S (fin := 10) (S := fun V => V.cell? ⟨Bb, 2, none⟩ = some (.map (some Bm)) ∧ V.cell? ⟨w.heap.size, 0, none⟩ = some (.int .i64 x) ∧ V.cell? ⟨w.heap.size, 1, none⟩ = some (.int .i64 y) ∧ V.cell? ⟨w.heap.size, 2, none⟩ = some (.int .i64 z) ∧ (Instr.lookup 103 (.map (some Bm)) (.agg #[.int .i64 x, .int .i64 y, .int .i64 z]) true).run Try.prog V = .ok (.tuple #[.int .i64 c, .bool f]) V) (by kernel_rfl) ⟨s2, y0, y1, y2, hrun⟩ (fun hHeld => ?_)
  clear hHeld
  refine takeS (i := 0) (v := .pointer (some ⟨Bb, 0, none⟩)) rfl (by kernel_rfl) (by kernel_rfl) (by kernel_rfl) (by kernel_rfl) (fun _ _ _ h => h) (Or.inl ⟨by rfl, fun w hS => by obtain ⟨s2, y0, y1, y2, hrun⟩ := hS; go_simp⟩) ⟨s2, y0, y1, y2, hrun⟩ ?_
  simp only [List.getElem_toArray, List.getElem_cons_zero, Act.put, List.setIfInBounds_toArray, List.set_cons_zero, List.set_cons_succ]
  refine takeS (i := 1) (v := .pointer (some ⟨Bb, 0, none⟩)) rfl (by kernel_rfl) (by kernel_rfl) (by kernel_rfl) (by kernel_rfl) (fun _ _ _ h => h) (Or.inl ⟨by rfl, fun w hS => by obtain ⟨s2, y0, y1, y2, hrun⟩ := hS; go_simp⟩) ⟨s2, y0, y1, y2, hrun⟩ ?_
  simp only [List.getElem_toArray, List.getElem_cons_zero, List.getElem_cons_succ, Act.put, List.setIfInBounds_toArray, List.set_cons_zero, List.set_cons_succ]
  refine takeS (i := 2) (v := .pointer (some ⟨Bb, 2, none⟩)) rfl (by kernel_rfl) (by kernel_rfl) (by kernel_rfl) (by kernel_rfl) (fun _ _ _ h => h) (Or.inl ⟨by rfl, fun w hS => by obtain ⟨s2, y0, y1, y2, hrun⟩ := hS; go_simp⟩) ⟨s2, y0, y1, y2, hrun⟩ ?_
  simp only [List.getElem_toArray, List.getElem_cons_zero, List.getElem_cons_succ, Act.put, List.setIfInBounds_toArray, List.set_cons_zero, List.set_cons_succ]
  refine takeS (i := 3) (v := .map (some Bm)) rfl (by kernel_rfl) (by kernel_rfl) (by kernel_rfl) (by kernel_rfl) (fun _ _ _ h => h) (Or.inl ⟨by rfl, fun w hS => by obtain ⟨s2, y0, y1, y2, hrun⟩ := hS; go_simp⟩) ⟨s2, y0, y1, y2, hrun⟩ ?_
  simp only [List.getElem_toArray, List.getElem_cons_zero, List.getElem_cons_succ, Act.put, List.setIfInBounds_toArray, List.set_cons_zero, List.set_cons_succ]
  refine takeS (i := 4) (v := .agg #[.int .i64 x, .int .i64 y, .int .i64 z]) rfl (by kernel_rfl) (by kernel_rfl) (by kernel_rfl) (by kernel_rfl) (fun _ _ _ h => h) (Or.inl ⟨by rfl, fun w hS => by obtain ⟨s2, y0, y1, y2, hrun⟩ := hS; go_simp⟩) ⟨s2, y0, y1, y2, hrun⟩ ?_
  simp only [List.getElem_toArray, List.getElem_cons_zero, List.getElem_cons_succ, Act.put, List.setIfInBounds_toArray, List.set_cons_zero, List.set_cons_succ]
  refine takeS (i := 5) (v := .tuple #[.int .i64 c, .bool f]) rfl (by kernel_rfl) (by kernel_rfl) (by kernel_rfl) (by kernel_rfl) (fun _ _ _ h => h) (Or.inl ⟨by rfl, fun w hS => by obtain ⟨s2, y0, y1, y2, hrun⟩ := hS; go_simp⟩) ⟨s2, y0, y1, y2, hrun⟩ ?_
  simp only [List.getElem_toArray, List.getElem_cons_zero, List.getElem_cons_succ, Act.put, List.setIfInBounds_toArray, List.set_cons_zero, List.set_cons_succ]
  refine takeS (i := 6) (v := .tuple #[.int .i64 c, .bool f]) rfl (by kernel_rfl) (by kernel_rfl) (by kernel_rfl) (by kernel_rfl) (fun _ _ _ h => h) (Or.inl ⟨by rfl, fun w hS => by obtain ⟨s2, y0, y1, y2, hrun⟩ := hS; go_simp⟩) ⟨s2, y0, y1, y2, hrun⟩ ?_
  simp only [List.getElem_toArray, List.getElem_cons_zero, List.getElem_cons_succ, Act.put, List.setIfInBounds_toArray, List.set_cons_zero, List.set_cons_succ]
  refine takeS (i := 7) (v := .int .i64 c) rfl (by kernel_rfl) (by kernel_rfl) (by kernel_rfl) (by kernel_rfl) (fun _ _ _ h => h) (Or.inl ⟨by rfl, fun w hS => by obtain ⟨s2, y0, y1, y2, hrun⟩ := hS; go_simp⟩) ⟨s2, y0, y1, y2, hrun⟩ ?_
  simp only [List.getElem_toArray, List.getElem_cons_zero, List.getElem_cons_succ, Act.put, List.setIfInBounds_toArray, List.set_cons_zero, List.set_cons_succ]
  refine takeS (i := 8) (v := .bool f) rfl (by kernel_rfl) (by kernel_rfl) (by kernel_rfl) (by kernel_rfl) (fun _ _ _ h => h) (Or.inl ⟨by rfl, fun w hS => by obtain ⟨s2, y0, y1, y2, hrun⟩ := hS; go_simp⟩) ⟨s2, y0, y1, y2, hrun⟩ ?_
  simp only [List.getElem_toArray, List.getElem_cons_zero, List.getElem_cons_succ, Act.put, List.setIfInBounds_toArray, List.set_cons_zero, List.set_cons_succ]
  refine takeS (i := 9) (v := .int .i64 c) rfl (by kernel_rfl) (by kernel_rfl) (by kernel_rfl) (by kernel_rfl) (fun _ _ _ h => h) (Or.inl ⟨by rfl, fun w hS => by obtain ⟨s2, y0, y1, y2, hrun⟩ := hS; go_simp⟩) ⟨s2, y0, y1, y2, hrun⟩ ?_
  simp only [List.getElem_toArray, List.getElem_cons_zero, List.getElem_cons_succ, Act.put, List.setIfInBounds_toArray, List.set_cons_zero, List.set_cons_succ]
  refine oneS (i := 10) (by kernel_rfl) rfl (by rfl) ?_
  simp only [List.getElem_toArray, List.getElem_cons_zero, List.getElem_cons_succ]
  go_simp
  refine doneS (by kernel_rfl) ?_ _
  clear hrun
  cases f with
  | true =>
    have hw : placeB ns (x, y, z) < ns.length := by have h := HFO.out.1; simpa using h
    have hcv : c = 2 + (placeB ns (x, y, z) : Int) := by have h := HFO.out.2 hw; rw [HAC.out] at h; simpa using h
    have HR : Hid (∀ W, Below w.heap.size w W → PlacePost Bb Bm lo vars (.slice aa ns.length ca) ns (x, y, z) w (.returned (.int .i64 c)) W) := fun W hW => by
      have e : putB ns (x, y, z) = (ns, c) := by unfold putB; rw [if_pos hw, hcv]
      refine ⟨aa, ca, D, by rw [e], ?_, Chg.of_below hW⟩
      rw [e]
      exact HB.out.below hW
    clear hcv hw
    go_wp2_with fail
    go_ret
    exact HR.out _ (by exact below_drewN HBV.out 1)
  | false =>
    have hnw : ¬ placeB ns (x, y, z) < ns.length := by have h := HFO.out.1; simpa using h
    have HBD : Hid (BldN V.drew Bb Bm lo vars (.slice aa ns.length ca) D ns) := HB1.out.below (below_drewN (Below.refl _ _) 1)
    have HBW : Hid (Below w.heap.size w V.drew) := below_drewN HBV.out 1
    have y0 : V.drew.cell? ⟨w.heap.size, 0, none⟩ = some (.int .i64 x) := y0
    have y1 : V.drew.cell? ⟨w.heap.size, 1, none⟩ = some (.int .i64 y) := y1
    have y2 : V.drew.cell? ⟨w.heap.size, 2, none⟩ = some (.int .i64 z) := y2
    have hlV : w.heap.size < V.drew.heap.size := hlV
    have HNW := hideN hnw
    have HPB : Hid (putB ns (x, y, z) = (ns ++ [(x, y, z)], 2 + (ns.length : Int))) := by show _ = _; unfold putB; rw [if_neg hnw]
    clear hwc HFO HAC s2 s4 HB1 HBV hnw HV
    generalize V.drew = V at *
    have s1 := HBD.out.c1
    have s4 := HBD.out.lt
    have w1 : IntKind.i64.wrap (2 + (ns.length : Int)) = 2 + (ns.length : Int) := by rw [IntKind.wrap_i64]; omega
    go_wp2_with fail
    refine region_S (fin := 10) (S := fun V => V.cell? ⟨Bb, 1, none⟩ = some (.slice aa ns.length ca) ∧ V.cell? ⟨w.heap.size, 0, none⟩ = some (.int .i64 x) ∧ V.cell? ⟨w.heap.size, 1, none⟩ = some (.int .i64 y) ∧ V.cell? ⟨w.heap.size, 2, none⟩ = some (.int .i64 z)) (by kernel_rfl) ⟨s1, y0, y1, y2⟩ (fun hHeld => ?_)
    clear hHeld
    refine takeS (i := 0) (v := .pointer (some ⟨Bb, 0, none⟩)) rfl (by kernel_rfl) (by kernel_rfl) (by kernel_rfl) (by kernel_rfl) (fun _ _ _ h => h) (Or.inl ⟨by rfl, fun w hS => by obtain ⟨s1, y0, y1, y2⟩ := hS; go_simp⟩) ⟨s1, y0, y1, y2⟩ ?_
    simp only [List.getElem_toArray, List.getElem_cons_zero, Act.put, List.setIfInBounds_toArray, List.set_cons_zero, List.set_cons_succ]
    refine takeS (i := 1) (v := .pointer (some ⟨Bb, 0, none⟩)) rfl (by kernel_rfl) (by kernel_rfl) (by kernel_rfl) (by kernel_rfl) (fun _ _ _ h => h) (Or.inl ⟨by rfl, fun w hS => by obtain ⟨s1, y0, y1, y2⟩ := hS; go_simp⟩) ⟨s1, y0, y1, y2⟩ ?_
    simp only [List.getElem_toArray, List.getElem_cons_zero, List.getElem_cons_succ, Act.put, List.setIfInBounds_toArray, List.set_cons_zero, List.set_cons_succ]
    refine takeS (i := 2) (v := .pointer (some ⟨Bb, 0, none⟩)) rfl (by kernel_rfl) (by kernel_rfl) (by kernel_rfl) (by kernel_rfl) (fun _ _ _ h => h) (Or.inl ⟨by rfl, fun w hS => by obtain ⟨s1, y0, y1, y2⟩ := hS; go_simp⟩) ⟨s1, y0, y1, y2⟩ ?_
    simp only [List.getElem_toArray, List.getElem_cons_zero, List.getElem_cons_succ, Act.put, List.setIfInBounds_toArray, List.set_cons_zero, List.set_cons_succ]
    refine takeS (i := 3) (v := .pointer (some ⟨Bb, 1, none⟩)) rfl (by kernel_rfl) (by kernel_rfl) (by kernel_rfl) (by kernel_rfl) (fun _ _ _ h => h) (Or.inl ⟨by rfl, fun w hS => by obtain ⟨s1, y0, y1, y2⟩ := hS; go_simp⟩) ⟨s1, y0, y1, y2⟩ ?_
    simp only [List.getElem_toArray, List.getElem_cons_zero, List.getElem_cons_succ, Act.put, List.setIfInBounds_toArray, List.set_cons_zero, List.set_cons_succ]
    refine takeS (i := 4) (v := .slice aa ns.length ca) rfl (by kernel_rfl) (by kernel_rfl) (by kernel_rfl) (by kernel_rfl) (fun _ _ _ h => h) (Or.inl ⟨by rfl, fun w hS => by obtain ⟨s1, y0, y1, y2⟩ := hS; go_simp⟩) ⟨s1, y0, y1, y2⟩ ?_
    simp only [List.getElem_toArray, List.getElem_cons_zero, List.getElem_cons_succ, Act.put, List.setIfInBounds_toArray, List.set_cons_zero, List.set_cons_succ]
    refine takeS (i := 5) (v := .agg #[.int .i64 x, .int .i64 y, .int .i64 z]) rfl (by kernel_rfl) (by kernel_rfl) (by kernel_rfl) (by kernel_rfl) (fun _ _ _ h => h) (Or.inl ⟨by rfl, fun w hS => by obtain ⟨s1, y0, y1, y2⟩ := hS; go_simp⟩) ⟨s1, y0, y1, y2⟩ ?_
    simp only [List.getElem_toArray, List.getElem_cons_zero, List.getElem_cons_succ, Act.put, List.setIfInBounds_toArray, List.set_cons_zero, List.set_cons_succ]
    refine oneS (i := 6) (by kernel_rfl) rfl (by rfl) ?_
    simp only [List.getElem_toArray, List.getElem_cons_zero, List.getElem_cons_succ]
    go_simp
    have HBE : Hid (Below V.heap.size V (V.drew.alloc (.cells #[.int .i64 x, .int .i64 y, .int .i64 z] 50))) := belNext (below_drewN (Below.refl _ _) 1) (belOne _ _)
    have HRD := hideN (row_below HBD.out.row HBE.out)
    refine oneS (i := 7) (by kernel_rfl) rfl (by rfl) ?_
    simp only [List.getElem_toArray, List.getElem_cons_zero, List.getElem_cons_succ]
    refine wp_append_lies _ (.tmp 29) (.tmp 31) 23 rfl lo 50 ia (.agg #[.int .i64 0, .int .i64 0, .int .i64 0]) 3 24 Try.underlying23 hia hza0 hza1 hza2 rfl (by decide) (.slice aa ns.length ca) ns.length (ndV ns) rfl HRD.out ⟨V.heap.size, 0, none⟩ 1 1 [.int .i64 x, .int .i64 y, .int .i64 z] rfl rfl (by exact news3 V _ _ _ _) (nd_oneCell _ _ _) (by decide) (by unfold maxLen; omega) (by omega) (by simp; omega) _ rfl ?_
    intro g gcap w9 hown9 hgrow9 hat9 hlt9
    have hnr : (Value.slice aa ns.length ca).ownBlock ≠ some w.heap.size := fun e => by have := (World.ownsRow.lt HB.out.row _ e).2; omega
    have hyb := hgrow9.block w.heap.size (Nat.lt_of_lt_of_le hlV HBE.out.size) (fun e2 => hnr e2.symm)
    have q0 : w9.cell? ⟨w.heap.size, 0, none⟩ = some (.int .i64 x) := by rw [cellOfBlock hyb]; exact (HBE.out.cell (p := ⟨w.heap.size, 0, none⟩) hlV).trans y0
    have q1 : w9.cell? ⟨w.heap.size, 1, none⟩ = some (.int .i64 y) := by rw [cellOfBlock hyb]; exact (HBE.out.cell (p := ⟨w.heap.size, 1, none⟩) hlV).trans y1
    have q5 : w9.cell? ⟨w.heap.size, 2, none⟩ = some (.int .i64 z) := by rw [cellOfBlock hyb]; exact (HBE.out.cell (p := ⟨w.heap.size, 2, none⟩) hlV).trans y2
    have hbb := hgrow9.block Bb (Nat.lt_of_lt_of_le s4 HBE.out.size) (fun e2 => HBD.out.apart.2.2 e2.symm)
    have q2 : w9.cell? ⟨Bb, 1, none⟩ = some (.slice aa ns.length ca) := by rw [cellOfBlock hbb]; exact (HBE.out.cell (p := ⟨Bb, 1, none⟩) s4).trans s1
    have q3 : w9.frozen? ⟨Bb, 1, none⟩ = false := by simp [World.frozen?, hbb.trans ((HBE.out.block Bb s4).trans HBD.out.box)]
    have q4 : Bb < w9.heap.size := cell_lt q2
    have HMI := hideN (HBD.out.mid (p := (x, y, z)) (vb := .slice (some ⟨g, 0, none⟩) (ns.length + 1) gcap) HBE.out hgrow9 (by rw [ndV_snoc]; exact hown9))
    have hq9 : w.heap.size < w9.heap.size := cell_lt q0
    clear hown9 hgrow9 hat9 hlt9 hyb hbb y0 y1 y2 s1 s4 hnr HRD hlV
    refine ⟨fun _ => ⟨q2, q0, q1, q5⟩, ?_⟩
    simp only [Act.put, List.setIfInBounds_toArray, List.set_cons_zero, List.set_cons_succ]
    refine oneS (i := 8) (by kernel_rfl) rfl (by rfl) ?_
    simp only [List.getElem_toArray, List.getElem_cons_zero, List.getElem_cons_succ]
    go_simp
    refine takeS (i := 9) (v := .pointer (some ⟨Bb, 1, none⟩)) rfl (by kernel_rfl) (by kernel_rfl) (by kernel_rfl) (by kernel_rfl) (fun _ _ _ h => h) (Or.inl ⟨by rfl, fun w hS => by obtain ⟨q2, q0, q1, q5⟩ := hS; go_simp⟩) ⟨q2, q0, q1, q5⟩ ?_
    simp only [List.getElem_toArray, List.getElem_cons_zero, List.getElem_cons_succ, Act.put, List.setIfInBounds_toArray, List.set_cons_zero, List.set_cons_succ]
    refine oneS (i := 10) (by kernel_rfl) rfl (by rfl) ?_
    simp only [List.getElem_toArray, List.getElem_cons_zero, List.getElem_cons_succ]
    go_simp
    refine doneS (by kernel_rfl) ?_ _
    have HNB : Hid (w.heap.size ≠ Bb) := fun e => by have := HB.out.lt; omega
    have y0 : (w9.setCell ⟨Bb, 1, none⟩ (.slice (some ⟨g, 0, none⟩) (ns.length + 1) gcap)).cell? ⟨w.heap.size, 0, none⟩ = some (.int .i64 x) := by rw [cellOfBlock (blk_setCell_other _ _ _ _ HNB.out)]; exact q0
    have y1 : (w9.setCell ⟨Bb, 1, none⟩ (.slice (some ⟨g, 0, none⟩) (ns.length + 1) gcap)).cell? ⟨w.heap.size, 1, none⟩ = some (.int .i64 y) := by rw [cellOfBlock (blk_setCell_other _ _ _ _ HNB.out)]; exact q1
    have y2 : (w9.setCell ⟨Bb, 1, none⟩ (.slice (some ⟨g, 0, none⟩) (ns.length + 1) gcap)).cell? ⟨w.heap.size, 2, none⟩ = some (.int .i64 z) := by rw [cellOfBlock (blk_setCell_other _ _ _ _ HNB.out)]; exact q5
    have hlV : w.heap.size < (w9.setCell ⟨Bb, 1, none⟩ (.slice (some ⟨g, 0, none⟩) (ns.length + 1) gcap)).heap.size := by simpa using hq9
    clear q0 q1 q2 q3 q4 q5 hq9
    generalize w9.setCell ⟨Bb, 1, none⟩ (.slice (some ⟨g, 0, none⟩) (ns.length + 1) gcap) = U at *
    have s2 : U.cell? ⟨Bb, 2, none⟩ = some (.map (some Bm)) := by simp [World.cell?, HMI.out.1.box]
    have s4 : Bb < U.heap.size := cell_lt s2
    obtain ⟨w11, hrun, hown11, hgrow11⟩ := (World.ownsMap.drew HMI.out.1.map).update ndKeyed Try.underlying103 (by unfold maxLen; omega) (keyOf_nd (x, y, z) HF.out) (plainElem_int Try.underlying3 (wf_smallN (x := 2 + (ns.length : Int)) (by omega) (by omega)))
    simp only [ndOf] at hrun
    go_wp2_with fail
    refine region_S (fin := 6) (S := fun V => V.cell? ⟨Bb, 2, none⟩ = some (.map (some Bm)) ∧ V.cell? ⟨w.heap.size, 0, none⟩ = some (.int .i64 x) ∧ V.cell? ⟨w.heap.size, 1, none⟩ = some (.int .i64 y) ∧ V.cell? ⟨w.heap.size, 2, none⟩ = some (.int .i64 z)) (by kernel_rfl) ⟨s2, y0, y1, y2⟩ (fun hHeld => ?_)
    clear hHeld
    refine takeS (i := 0) (v := .pointer (some ⟨Bb, 0, none⟩)) rfl (by kernel_rfl) (by kernel_rfl) (by kernel_rfl) (by kernel_rfl) (fun _ _ _ h => h) (Or.inl ⟨by rfl, fun w hS => by obtain ⟨s2, y0, y1, y2⟩ := hS; go_simp⟩) ⟨s2, y0, y1, y2⟩ ?_
    simp only [List.getElem_toArray, List.getElem_cons_zero, Act.put, List.setIfInBounds_toArray, List.set_cons_zero, List.set_cons_succ]
    refine takeS (i := 1) (v := .pointer (some ⟨Bb, 0, none⟩)) rfl (by kernel_rfl) (by kernel_rfl) (by kernel_rfl) (by kernel_rfl) (fun _ _ _ h => h) (Or.inl ⟨by rfl, fun w hS => by obtain ⟨s2, y0, y1, y2⟩ := hS; go_simp⟩) ⟨s2, y0, y1, y2⟩ ?_
    simp only [List.getElem_toArray, List.getElem_cons_zero, List.getElem_cons_succ, Act.put, List.setIfInBounds_toArray, List.set_cons_zero, List.set_cons_succ]
    refine takeS (i := 2) (v := .pointer (some ⟨Bb, 2, none⟩)) rfl (by kernel_rfl) (by kernel_rfl) (by kernel_rfl) (by kernel_rfl) (fun _ _ _ h => h) (Or.inl ⟨by rfl, fun w hS => by obtain ⟨s2, y0, y1, y2⟩ := hS; go_simp⟩) ⟨s2, y0, y1, y2⟩ ?_
    simp only [List.getElem_toArray, List.getElem_cons_zero, List.getElem_cons_succ, Act.put, List.setIfInBounds_toArray, List.set_cons_zero, List.set_cons_succ]
    refine takeS (i := 3) (v := .map (some Bm)) rfl (by kernel_rfl) (by kernel_rfl) (by kernel_rfl) (by kernel_rfl) (fun _ _ _ h => h) (Or.inl ⟨by rfl, fun w hS => by obtain ⟨s2, y0, y1, y2⟩ := hS; go_simp⟩) ⟨s2, y0, y1, y2⟩ ?_
    simp only [List.getElem_toArray, List.getElem_cons_zero, List.getElem_cons_succ, Act.put, List.setIfInBounds_toArray, List.set_cons_zero, List.set_cons_succ]
    refine takeS (i := 4) (v := .agg #[.int .i64 x, .int .i64 y, .int .i64 z]) rfl (by kernel_rfl) (by kernel_rfl) (by kernel_rfl) (by kernel_rfl) (fun _ _ _ h => h) (Or.inl ⟨by rfl, fun w hS => by obtain ⟨s2, y0, y1, y2⟩ := hS; go_simp⟩) ⟨s2, y0, y1, y2⟩ ?_
    simp only [List.getElem_toArray, List.getElem_cons_zero, List.getElem_cons_succ, Act.put, List.setIfInBounds_toArray, List.set_cons_zero, List.set_cons_succ]
    refine takeS (i := 5) (v := .int .i64 (2 + (ns.length : Int))) rfl (by kernel_rfl) (by kernel_rfl) (by kernel_rfl) (by kernel_rfl) (fun _ _ _ h => h) (Or.inl ⟨by rfl, fun w hS => by obtain ⟨s2, y0, y1, y2⟩ := hS; go_simp⟩) ⟨s2, y0, y1, y2⟩ ?_
    simp only [List.getElem_toArray, List.getElem_cons_zero, List.getElem_cons_succ, Act.put, List.setIfInBounds_toArray, List.set_cons_zero, List.set_cons_succ]
    refine oneS (i := 6) (by kernel_rfl) rfl (by rfl) ?_
    simp only [List.getElem_toArray, List.getElem_cons_zero, List.getElem_cons_succ]
    go_simp
    refine doneS (by kernel_rfl) ?_ _
    have HFI : Hid (BldN w11 Bb Bm lo vars (.slice (some ⟨g, 0, none⟩) (ns.length + 1) gcap) (D.put (keyN (x, y, z)) (.lit (.int .i64 (2 + (ns.length : Int))))) (ns ++ [(x, y, z)])) := by
      have hm : MidN U.drew Bb Bm lo vars (.slice (some ⟨g, 0, none⟩) (ns.length + 1) gcap) D (ns ++ [(x, y, z)]) ns.length := ⟨HMI.out.1.box, HMI.out.1.row, HMI.out.1.map⟩
      refine hm.bld hgrow11 ?_ (FoundN.snoc HBD.out.ok HF.out HNW.out)
      rw [List.length_append]
      exact hown11
    have HCF : Hid (Chg (fun k => k = Bb ∨ k = Bm ∨ (Value.slice aa ns.length ca).ownBlock = some k) w w11) := by
      have h1 := (Chg.of_below HBW.out).trans HMI.out.2
      have h2 : Chg (fun k => k = Bb ∨ k = Bm ∨ (Value.slice aa ns.length ca).ownBlock = some k) w U.drew := h1.trans (Chg.of_below (below_drewN (Below.refl _ _) 1))
      exact h2.trans ((chg_of_grown hgrow11).mono (fun k e => .inr (.inl (Option.some.inj e).symm)))
    clear hown11 hgrow11 hrun s2 s4 y0 y1 y2 hlV HMI
    go_wp2_with fail
    go_ret
    refine ⟨some ⟨g, 0, none⟩, gcap, D.put (keyN (x, y, z)) (.lit (.int .i64 (2 + (ns.length : Int)))), by rw [HPB.out]; rfl, ?_, HCF.out⟩
    rw [HPB.out]
    have hlen : (ns ++ [(x, y, z)]).length = ns.length + 1 := by simp
    simp only [hlen]
    exact HFI.out

end Go.Proofs.Ytknpifjkllcdeaa

namespace Go.Proofs.Ytknpifjkllcdeaa
open Go.RowKit Go.Deep
set_option linter.unusedVariables false

attribute [local go_sem] Oper.semAt_some

/-- A table in memory, from a place on. -/
structure Tab (W : World) (Bt off cap : Nat) (t : List Bool) : Prop where
  le : t.length ≤ cap
  cell : ∀ i, i < t.length → W.cell? ⟨Bt, off + i, none⟩ = some (.bool (t.getD i false))

theorem Tab.below {W W' : World} {lo Bt off cap : Nat} {t : List Bool} (h : Tab W Bt off cap t) (hlt : Bt < lo) (hb : Below lo W W') : Tab W' Bt off cap t := ⟨h.le, fun i hi => (hb.cell (p := ⟨Bt, off + i, none⟩) hlt).trans (h.cell i hi)⟩
theorem Tab.take {W : World} {Bt off cap : Nat} {t : List Bool} (h : Tab W Bt off cap t) (n : Nat) : Tab W Bt off cap (t.take n) := by
  have := h.le
  refine ⟨by rw [List.length_take]; omega, fun i hi => ?_⟩
  rw [List.length_take] at hi
  rw [getD_take (by omega)]
  exact h.cell i (by omega)
theorem Tab.drop {W : World} {Bt off cap : Nat} {t : List Bool} (h : Tab W Bt off cap t) (n : Nat) : Tab W Bt (off + n) (cap - n) (t.drop n) := by
  have := h.le
  refine ⟨by rw [List.length_drop]; omega, fun i hi => ?_⟩
  rw [List.length_drop] at hi
  rw [getD_drop, Nat.add_assoc]
  exact h.cell (n + i) (by omega)

theorem drawB_succ (k v : Nat) (t : List Bool) (ns : List Nd) (h : Nat) (hh : 2 ^ k = h) : drawB (k + 1) v t ns =
    if (drawB k (v + 1) (t.take h) ns).2 = (drawB k (v + 1) (t.drop h) (drawB k (v + 1) (t.take h) ns).1).2 then
      ((drawB k (v + 1) (t.drop h) (drawB k (v + 1) (t.take h) ns).1).1, (drawB k (v + 1) (t.take h) ns).2)
    else putB (drawB k (v + 1) (t.drop h) (drawB k (v + 1) (t.take h) ns).1).1 ((v : Int), (drawB k (v + 1) (t.take h) ns).2, (drawB k (v + 1) (t.drop h) (drawB k (v + 1) (t.take h) ns).1).2) := by
  subst hh; rw [drawB]

set_option maxHeartbeats 400000 in
theorem numberOf_any (b : Bool) (w : World) :
    Calls Try.prog 118 #[.bool b] w fun e w' => e = .returned (.int .i64 (numB b)) ∧ w' = w := by
  cases b
  all_goals
    go_enter Try.func118, Try.ntmps118
    go_wp2
    go_ret
    exact ⟨rfl, rfl⟩

/-- What drawing leaves. -/
def DrawPostN (lo Bb Bm : Nat) (vars : Int) (l : List Nd) (x : Int) (w : World) (e : Ending) (w' : World) : Prop :=
  ∃ aa n ca D, e = .returned (.int .i64 x) ∧ l.length = n ∧ BldN w' Bb Bm lo vars (.slice aa n ca) D l ∧ Below lo w w'

set_option maxRecDepth 100000 in
set_option maxHeartbeats 4000000 in
theorem draw_any (lo Bb Bm n Bt : Nat) (hBb : lo ≤ Bb) (hBm : lo ≤ Bm) (hBt : Bt < lo) (hn6 : n ≤ 6) : ∀ (k v off cap m na ca : Nat) (t : List Bool) (aa : Option Addr) (D : DataW Nat) (ns : List Nd) (w : World) (vi : Int), vi = (v : Int) → v + k = n → t.length = m → m = 2 ^ k → Tab w Bt off cap t → ns.length = na → BldN w Bb Bm lo n (.slice aa na ca) D ns → na + 2 ^ k ≤ 65 → lo ≤ w.heap.size →
    Calls Try.prog 100 #[.pointer (some ⟨Bb, 0, none⟩), .int .i64 vi, .slice (some ⟨Bt, off, none⟩) m cap] w (DrawPostN lo Bb Bm n (drawB k v t ns).1 (drawB k v t ns).2 w) := by
  intro k
  induction k with
  | zero =>
    intro v off cap m na ca t aa D ns w vi hvi hv ht hm hT hna hB hle hlo
    subst hvi
    obtain rfl : v = n := by omega
    obtain rfl : m = 1 := by simpa using hm
    have d0 := hT.cell 0 (by omega)
    rw [Nat.add_zero] at d0
    have c0 := hB.c0
    have hcap := hT.le
    have HR : Hid (DrawPostN lo Bb Bm v (drawB 0 v t ns).1 (drawB 0 v t ns).2 w (.returned (.int .i64 (numB (t.getD 0 false)))) w) := ⟨aa, na, ca, D, rfl, hna, hB, Below.refl _ _⟩
    have hlt := hB.lt
    generalize t.getD 0 false = x at *
    clear hT hB hm
    go_enter Try.func100, Try.ntmps100
    go_wp2_with fail
    refine (numberOf_any _ _).mono ?_
    rintro e w' ⟨rfl, hw'⟩
    obtain rfl := hw'.symm
    go_wp2
    go_ret
    exact HR.out
  | succ k ih =>
    intro v off cap m na ca t aa D ns w vi hvi hv ht hm hT hna hB hle hlo
    subst hvi
    obtain ⟨h, hh⟩ : ∃ h, 2 ^ k = h := ⟨_, rfl⟩
    have hmh : m = h + h := by rw [hm, Nat.pow_succ, hh]; omega
    have hh1 : 1 ≤ h := by rw [← hh]; exact Nat.one_le_two_pow
    have hle2 : na + (h + h) ≤ 65 := by rw [← hmh, hm]; exact hle
    have HD := hideN (drawB_succ k v t ns h hh)
    have HT := hideN hT
    have HB := hideN hB
    have c0 := hB.c0
    have hlt := hB.lt
    have hcap := hT.le
    rw [ht] at hcap
    have e0 : ((v : Int) == (n : Int)) = false := by simp; omega
    have HT2 := hideN ht
    have HNA := hideN hna
    have HIH := hideN ih
    have HH := hideN hh
    have HV := hideN hv
    have hvn : v ≤ 6 := by omega
    have w1 : IntKind.i64.wrap ((v : Int) + 1) = (v : Int) + 1 := by rw [IntKind.wrap_i64]; omega
    have w2 : ((m : Int)).tdiv 2 = (h : Int) := by rw [Int.tdiv_eq_ediv_of_nonneg (by omega)]; omega
    have hmm := hideN hm
    have HMH := hideN hmh
    have hhm : h < m := by omega
    have hhc : h < cap := by omega
    clear hT hB hm ht hna ih hh hv hle hmh
    go_enter Try.func100, Try.ntmps100
    go_wp2_with fail
    refine (HIH.out (v + 1) off cap h na ca (t.take h) aa D ns w ((v : Int) + 1) (by push_cast; rfl) (by have := HV.out; omega) (by have := HT2.out; rw [List.length_take]; omega) HH.out.symm (HT.out.take h) HNA.out HB.out (by rw [HH.out]; omega) hlo).mono ?_
    rintro e wa ⟨aa1, n1, ca1, D1, rfl, hn1, hB1, hb1⟩
    obtain ⟨b1, b2, b3, b4⟩ := drawB_len k (v + 1) (t.take h) ns
    rw [HH.out] at b2
    generalize (drawB k (v + 1) (t.take h) ns).2 = x1 at *
    generalize (drawB k (v + 1) (t.take h) ns).1 = l1 at *
    rw [hn1, HNA.out] at b1 b2
    rw [hn1] at b4
    have HN1 := hideN hn1
    have HB1 := hideN hB1
    have HBe1 := hideN hb1
    have hlo1 : lo ≤ wa.heap.size := Nat.le_trans hlo hb1.size
    have hmh2 : m - h = h := by have := HMH.out; omega
    have HML := hideN hmh2
    have w3 : IntKind.i64.wrap ((v : Int) + 1) = (v : Int) + 1 := w1
    clear hn1 hB1 hb1 w1 c0 hlt hmh2
    go_wp2_with fail
    refine (HIH.out (v + 1) (off + h) (cap - h) (m - h) n1 ca1 (t.drop h) aa1 D1 l1 wa ((v : Int) + 1) (by push_cast; rfl) (by have := HV.out; omega) (by have := HT2.out; rw [List.length_drop]; omega) (by rw [HML.out, HH.out]) ((HT.out.below hBt HBe1.out).drop h) HN1.out HB1.out (by rw [HH.out]; omega) hlo1).mono ?_
    rintro e wb ⟨aa2, n2, ca2, D2, rfl, hn2, hB2, hb2⟩
    obtain ⟨d1, d2, d3, d4⟩ := drawB_len k (v + 1) (t.drop h) l1
    rw [HH.out] at d2
    generalize (drawB k (v + 1) (t.drop h) l1).2 = x2 at *
    generalize (drawB k (v + 1) (t.drop h) l1).1 = l2 at *
    rw [hn2, HN1.out] at d1 d2
    rw [hn2] at d4
    have HN2 := hideN hn2
    have HB2 := hideN hB2
    have HBe2 : Hid (Below lo w wb) := HBe1.out.trans hb2
    have hlo2 : lo ≤ wb.heap.size := Nat.le_trans hlo1 hb2.size
    clear hn2 hB2 hb2 w3
    by_cases hx : x1 = x2
    · subst hx
      have HR : Hid (DrawPostN lo Bb Bm n (drawB (k + 1) v t ns).1 (drawB (k + 1) v t ns).2 w (.returned (.int .i64 x1)) wb) := by
        show DrawPostN _ _ _ _ _ _ _ _ _
        rw [HD.out, if_pos rfl]
        exact ⟨aa2, n2, ca2, D2, rfl, HN2.out, HB2.out, HBe2.out⟩
      go_wp2
      go_ret
      exact HR.out
    · have e2 : (x1 == x2) = false := by simpa using hx
      go_wp2_with fail
      have hnl := HN2.out
      subst hnl
      refine (placeOf_any Bb Bm lo n aa2 ca2 D2 l2 (v : Int) x1 x2 wb HB2.out ⟨⟨by omega, by show (v : Int) ≤ 100; omega⟩, ⟨b3, by show x1 ≤ 1000; omega⟩, d3, by show x2 ≤ 1000; omega⟩ (by omega) hlo2).mono ?_
      rintro e wc ⟨aa3, ca3, D3, rfl, hB3, hc3⟩
      have HR : Hid (DrawPostN lo Bb Bm n (drawB (k + 1) v t ns).1 (drawB (k + 1) v t ns).2 w (.returned (.int .i64 (putB l2 ((v : Int), x1, x2)).2)) wc) := by
        show DrawPostN _ _ _ _ _ _ _ _ _
        rw [HD.out, if_neg hx]
        refine ⟨aa3, _, ca3, D3, rfl, rfl, hB3, Chg.below HBe2.out hlo2 hc3 ?_⟩
        rintro k (rfl | rfl | e)
        · exact hBb
        · exact hBm
        · exact (World.ownsRow.lt HB2.out.row _ e).1
      clear hB3 hc3
      generalize (putB l2 ((v : Int), x1, x2)).2 = x3 at *
      go_wp2
      go_ret
      exact HR.out

/-- A block that holds a diagram. -/
def BlkD (w : World) (b : Nat) (a0 a1 a2 : Value) : Prop := w.heap[b]? = some (.cells #[a0, a1, a2] 25 (0, 0))

section
variable {w w' : World} {b : Nat} {a0 a1 a2 : Value}
theorem BlkD.lt (h : BlkD w b a0 a1 a2) : b < w.heap.size := (Array.getElem?_eq_some_iff.1 h).1
theorem BlkD.c0 (h : BlkD w b a0 a1 a2) : w.cell? ⟨b, 0, none⟩ = some a0 := by unfold BlkD at h; simp [World.cell?, h]
theorem BlkD.c1 (h : BlkD w b a0 a1 a2) : w.cell? ⟨b, 1, none⟩ = some a1 := by unfold BlkD at h; simp [World.cell?, h]
theorem BlkD.c2 (h : BlkD w b a0 a1 a2) : w.cell? ⟨b, 2, none⟩ = some a2 := by unfold BlkD at h; simp [World.cell?, h]
theorem BlkD.f (h : BlkD w b a0 a1 a2) (i : Nat) : w.frozen? ⟨b, i, none⟩ = false := by unfold BlkD at h; simp [World.frozen?, h]
theorem BlkD.set0 (h : BlkD w b a0 a1 a2) (u : Value) : BlkD (w.setCell ⟨b, 0, none⟩ u) b u a1 a2 := by unfold BlkD at *; simp [World.setCell, Array.getElem?_modify, h]
theorem BlkD.set1 (h : BlkD w b a0 a1 a2) (u : Value) : BlkD (w.setCell ⟨b, 1, none⟩ u) b a0 u a2 := by unfold BlkD at *; simp [World.setCell, Array.getElem?_modify, h]
theorem BlkD.set2 (h : BlkD w b a0 a1 a2) (u : Value) : BlkD (w.setCell ⟨b, 2, none⟩ u) b a0 a1 u := by unfold BlkD at *; simp [World.setCell, Array.getElem?_modify, h]
theorem BlkD.new (w : World) (a0 a1 a2 : Value) : BlkD (w.alloc (.cells #[a0, a1, a2] 25)) w.heap.size a0 a1 a2 := World.alloc_heap_new _ _
theorem BlkD.below (h : BlkD w b a0 a1 a2) (hb : Below w.heap.size w w') : BlkD w' b a0 a1 a2 := (hb.block b h.lt).trans h
/-- All three, stored one behind the other. -/
def set3 (w : World) (b : Nat) (u0 u1 u2 : Value) : World := ((w.setCell ⟨b, 0, none⟩ u0).setCell ⟨b, 1, none⟩ u1).setCell ⟨b, 2, none⟩ u2
theorem BlkD.set (h : BlkD w b a0 a1 a2) (u0 u1 u2 : Value) : BlkD (set3 w b u0 u1 u2) b u0 u1 u2 := ((h.set0 u0).set1 u1).set2 u2
theorem set3_other {k : Nat} (u0 u1 u2 : Value) (h : k ≠ b) : (set3 w b u0 u1 u2).heap[k]? = w.heap[k]? := by
  unfold set3
  rw [blk_setCell_other _ _ _ _ h, blk_setCell_other _ _ _ _ h, blk_setCell_other _ _ _ _ h]
theorem set3_below {n : Nat} {w0 : World} (h : Below n w0 w) (hb : n ≤ b) (u0 u1 u2 : Value) : Below n w0 (set3 w b u0 u1 u2) := ((h.setCell (p := ⟨b, 0, none⟩) hb u0).setCell (p := ⟨b, 1, none⟩) hb u1).setCell (p := ⟨b, 2, none⟩) hb u2
end

/-- The diagram drawn: how many variables, its nodes in memory of the call's own, where it is. -/
def BddPost (vars : Int) (l : List Nd) (x : Int) (w : World) (e : Ending) (w' : World) : Prop :=
  ∃ aa n ca, e = .returned (.agg #[.int .i64 vars, .slice aa n ca, .int .i64 x]) ∧ l.length = n ∧ w'.ownsRow w.heap.size 50 3 (.slice aa n ca) n (ndV l) ∧ Below w.heap.size w w'

set_option maxRecDepth 100000 in
set_option maxHeartbeats 4000000 in
theorem drawnOf_any (n Bt off cap m : Nat) (t : List Bool) (w : World) (hn6 : n ≤ 6) (ht : t.length = m) (hm : m = 2 ^ n) (hT : Tab w Bt off cap t) (hBt : Bt < w.heap.size) :
    Calls Try.prog 63 #[.int .i64 (n : Int), .slice (some ⟨Bt, off, none⟩) m cap] w (BddPost n (drawB n 0 t []).1 (drawB n 0 t []).2 w) := by
  have HT := hideN hT
  have HT2 := hideN ht
  have HM := hideN hm
  have hmm := @run_makeMap Try.prog
  clear hT ht hm
  go_enter Try.func63, Try.ntmps63
  go_wp2_with fail
  have hs : ((w.alloc (.cells #[.int .i64 0, .slice none 0 0, .int .i64 0] 25)).alloc (.map #[] 0)).heap.size = w.heap.size + 1 + 1 := by simp
  have hBx : BldN (((w.alloc (.cells #[.int .i64 0, .slice none 0 0, .int .i64 0] 25)).alloc (.map #[] 0)).alloc (.cells #[.int .i64 (n : Int), .slice none 0 0, .map (some (w.heap.size + 1))] 105)) (w.heap.size + 1 + 1) (w.heap.size + 1) (w.heap.size + 1) n (.slice none 0 0) (.map []) [] := by
    refine ⟨?_, World.ownsRow_nil _ _ _ _, ?_, FoundN.nil⟩
    · have h := World.alloc_heap_new ((w.alloc (.cells #[.int .i64 0, .slice none 0 0, .int .i64 0] 25)).alloc (.map #[] 0)) (.cells #[.int .i64 (n : Int), .slice none 0 0, .map (some (w.heap.size + 1))] 105)
      rw [hs] at h
      exact h
    · have h := World.ownsMap_made (H := Nat) (P := Try.prog) (w.alloc (.cells #[.int .i64 0, .slice none 0 0, .int .i64 0] 25)) 50 (plainElem Try.prog 3)
      rw [World.size_alloc] at h
      exact World.ownsMap.alloc h _
  have hQ : BlkD (((w.alloc (.cells #[.int .i64 0, .slice none 0 0, .int .i64 0] 25)).alloc (.map #[] 0)).alloc (.cells #[.int .i64 (n : Int), .slice none 0 0, .map (some (w.heap.size + 1))] 105)) w.heap.size (.int .i64 0) (.slice none 0 0) (.int .i64 0) := ((BlkD.new _ _ _ _).below (belOne _ _)).below (belOne _ _)
  have hbl : Below w.heap.size w (((w.alloc (.cells #[.int .i64 0, .slice none 0 0, .int .i64 0] 25)).alloc (.map #[] 0)).alloc (.cells #[.int .i64 (n : Int), .slice none 0 0, .map (some (w.heap.size + 1))] 105)) := belNext (belNext (belOne _ _) (belOne _ _)) (belOne _ _)
  have hsz : (((w.alloc (.cells #[.int .i64 0, .slice none 0 0, .int .i64 0] 25)).alloc (.map #[] 0)).alloc (.cells #[.int .i64 (n : Int), .slice none 0 0, .map (some (w.heap.size + 1))] 105)).heap.size = w.heap.size + 3 := by simp
  generalize (((w.alloc (.cells #[.int .i64 0, .slice none 0 0, .int .i64 0] 25)).alloc (.map #[] 0)).alloc (.cells #[.int .i64 (n : Int), .slice none 0 0, .map (some (w.heap.size + 1))] 105)) = W3 at *
  refine (draw_any (w.heap.size + 1) (w.heap.size + 1 + 1) (w.heap.size + 1) n Bt (by omega) (by omega) (by omega) hn6 n 0 off cap m 0 0 t none (.map []) [] W3 0 rfl (by omega) HT2.out HM.out (HT.out.below hBt hbl) rfl hBx (by have : 2 ^ n ≤ 2 ^ 6 := Nat.pow_le_pow_right (by decide) hn6; omega) (by omega)).mono ?_
  rintro e w1 ⟨aa1, n1, ca1, D1, rfl, hn1, hB1, hb1⟩
  generalize (drawB n 0 t []).2 = x at *
  generalize (drawB n 0 t []).1 = l at *
  have hQ1 : BlkD w1 w.heap.size (.int .i64 0) (.slice none 0 0) (.int .i64 0) := (hb1.block _ (by omega)).trans hQ
  have c1 := hB1.c1
  have c2 := hB1.lt
  have m0 := hQ1.c0
  have m1 := hQ1.c1
  have m2 := hQ1.c2
  have m3 := hQ1.f 0
  have m4 := hQ1.f 1
  have m5 := hQ1.f 2
  have m6 := hQ1.lt
  have HQ2 := hideN (hQ1.set (.int .i64 (n : Int)) (.slice aa1 n1 ca1) (.int .i64 x))
  have HN1 := hideN hn1
  have HR : Hid ((set3 w1 w.heap.size (.int .i64 (n : Int)) (.slice aa1 n1 ca1) (.int .i64 x)).ownsRow w.heap.size 50 3 (.slice aa1 n1 ca1) n1 (ndV l)) := by
    have h := hB1.row
    rw [hn1] at h
    exact row_base (row_of_block h (fun k e => set3_other _ _ _ (by have := (World.ownsRow.lt h k e).1; omega))) (by omega)
  have HBE : Hid (Below w.heap.size w (set3 w1 w.heap.size (.int .i64 (n : Int)) (.slice aa1 n1 ca1) (.int .i64 x))) := set3_below (hbl.trans (hb1.mono (by omega))) (Nat.le_refl _) _ _ _
  clear hB1 hb1 hQ1 hQ hbl hBx hn1 hmm hs hsz
  go_wp2
  have q := HQ2.out
  have u0 := q.c0
  have u1 := q.c1
  have u2 := q.c2
  unfold set3 at u0 u1 u2
  refine bodyPost_ret (v := .agg #[.int .i64 (n : Int), .slice aa1 n1 ca1, .int .i64 x]) (by simp [results, Try.results63, go_sem, u0, u1, u2]) rfl ⟨aa1, n1, ca1, rfl, HN1.out, HR.out, HBE.out⟩

end Go.Proofs.Ytknpifjkllcdeaa

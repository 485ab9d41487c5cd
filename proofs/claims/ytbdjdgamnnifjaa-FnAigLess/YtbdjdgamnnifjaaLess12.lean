/-
  A circuit without what is needless: the program's builder puts ands one behind the other, each once.
-/
import Derived.Test.YtbdjdgamnnifjaaLess8X
namespace Go.Proofs.Ytbdjdgamnnifjaa
open Go.RowKit Go.Deep Go.Shelf
set_option linter.unusedVariables false

attribute [local go_sem] Oper.semAt_some

/-- The builder in memory. -/
structure Bld (w : World) (Bb Bm lo F : Nat) (va : Value) (D : DataW Nat) (xs : List (Int × Int)) : Prop where
  box : w.heap[Bb]? = some (.cells #[.int .i64 (F : Int), va, .map (some Bm)] 128 (0, 0))
  row : w.ownsRow lo 65 2 va xs.length (andV xs)
  map : w.ownsMap Try.prog 65 (plainElem Try.prog 79) Bm xs.length D
  ok : FoundOk F D xs

section
variable {w w' : World} {Bb Bm lo F : Nat} {va : Value} {D : DataW Nat} {xs : List (Int × Int)}
theorem Bld.lt (h : Bld w Bb Bm lo F va D xs) : Bb < w.heap.size := (Array.getElem?_eq_some_iff.1 h.box).1
theorem Bld.c0 (h : Bld w Bb Bm lo F va D xs) : w.cell? ⟨Bb, 0, none⟩ = some (.int .i64 (F : Int)) := by simp [World.cell?, h.box]
theorem Bld.c1 (h : Bld w Bb Bm lo F va D xs) : w.cell? ⟨Bb, 1, none⟩ = some va := by simp [World.cell?, h.box]
theorem Bld.c2 (h : Bld w Bb Bm lo F va D xs) : w.cell? ⟨Bb, 2, none⟩ = some (.map (some Bm)) := by simp [World.cell?, h.box]
theorem Bld.fz (h : Bld w Bb Bm lo F va D xs) (i : Nat) : w.frozen? ⟨Bb, i, none⟩ = false := by simp [World.frozen?, h.box]
theorem Bld.below (h : Bld w Bb Bm lo F va D xs) (hb : Below w.heap.size w w') : Bld w' Bb Bm lo F va D xs := by
  refine ⟨(hb.block Bb h.lt).trans h.box, row_below h.row hb, ?_, h.ok⟩
  have hlt := h.map.lt
  obtain ⟨es, clock, h1, h2⟩ := h.map
  exact ⟨es, clock, (hb.block Bm hlt).trans h1, h2⟩
/-- The map is no block of cells. -/
theorem Bld.apart (h : Bld w Bb Bm lo F va D xs) : Bb ≠ Bm ∧ va.ownBlock ≠ some Bm ∧ va.ownBlock ≠ some Bb := by
  obtain ⟨es, clock, h1, h2⟩ := h.map
  refine ⟨fun e => (by subst e; have h3 := h.box; rw [h1] at h3; cases h3), fun e => ?_, fun e => ?_⟩
  · rcases h.row.2 with ⟨h5, _⟩ | ⟨g, cap, cur, h5, _, hh, _⟩
    · rw [h5] at e; cases e
    · rw [h5] at e
      have e' : g = Bm := Option.some.inj e
      subst e'
      rw [hh] at h1
      cases h1
  · rcases h.row.2 with ⟨h5, _⟩ | ⟨g, cap, cur, h5, _, hh, _⟩
    · rw [h5] at e; cases e
    · rw [h5] at e
      have e' : g = Bb := Option.some.inj e
      subst e'
      have h3 := h.box
      rw [hh] at h3
      simp at h3
end

/-- One and more behind the others, the map not told of it yet. -/
structure Mid (w : World) (Bb Bm lo F : Nat) (va : Value) (D : DataW Nat) (xs : List (Int × Int)) (n : Nat) : Prop where
  box : w.heap[Bb]? = some (.cells #[.int .i64 (F : Int), va, .map (some Bm)] 128 (0, 0))
  row : w.ownsRow lo 65 2 va xs.length (andV xs)
  map : w.ownsMap Try.prog 65 (plainElem Try.prog 79) Bm n D

theorem row_ne_box {w : World} {lo b : Nat} {va : Value} {n : Nat} {zs : List Value} (h : w.ownsRow lo 65 2 va n zs) {cs : Array Value} {fz : Nat × Nat} (hb : w.heap[b]? = some (.cells cs 128 fz)) : va.ownBlock ≠ some b := fun e => by
  rcases h.2 with ⟨h5, _⟩ | ⟨g, cap, cur, h5, _, hh, _⟩
  · rw [h5] at e; cases e
  · rw [h5] at e
    have e' : g = b := Option.some.inj e
    subst e'
    rw [hh] at hb
    simp at hb
theorem row_ne_map {w : World} {lo b : Nat} {va : Value} {n : Nat} {zs : List Value} (h : w.ownsRow lo 65 2 va n zs) {es : Array MapEntry} {ck : Nat} (hb : w.heap[b]? = some (.map es ck)) : va.ownBlock ≠ some b := fun e => by
  rcases h.2 with ⟨h5, _⟩ | ⟨g, cap, cur, h5, _, hh, _⟩
  · rw [h5] at e; cases e
  · rw [h5] at e
    have e' : g = b := Option.some.inj e
    subst e'
    rw [hh] at hb
    cases hb

theorem Bld.mid {w w1 w' : World} {Bb Bm lo F : Nat} {va vb : Value} {D : DataW Nat} {xs : List (Int × Int)} {p : Int × Int} (h : Bld w Bb Bm lo F va D xs) (hb : Below w.heap.size w w1) (hg : w1.grownBy w' va.ownBlock) (hr : w'.ownsRow lo 65 2 vb (xs.length + 1) (andV (xs ++ [p]))) :
    Mid (w'.setCell ⟨Bb, 1, none⟩ vb) Bb Bm lo F vb D (xs ++ [p]) xs.length ∧ Chg (fun k => k = Bb ∨ k = Bm ∨ va.ownBlock = some k) w (w'.setCell ⟨Bb, 1, none⟩ vb) := by
  have h1 := h.below hb
  obtain ⟨es, clock, hm, hm2⟩ := h1.map
  have n1 := row_ne_box h1.row h1.box
  have n2 := row_ne_map h1.row hm
  have hbx : w'.heap[Bb]? = some (.cells #[.int .i64 (F : Int), va, .map (some Bm)] 128 (0, 0)) := (hg.block Bb h1.lt (fun e => n1 e.symm)).trans h1.box
  have hmx : w'.heap[Bm]? = some (.map es clock) := (hg.block Bm h1.map.lt (fun e => n2 e.symm)).trans hm
  have hne : Bm ≠ Bb := fun e => by rw [e, hbx] at hmx; cases hmx
  refine ⟨⟨by simp [World.setCell, Array.getElem?_modify, hbx], ?_, ⟨es, clock, (blk_setCell_other _ _ _ _ hne).trans hmx, hm2⟩⟩, ?_⟩
  · have hr' : w'.ownsRow lo 65 2 vb (xs ++ [p]).length (andV (xs ++ [p])) := by rw [List.length_append]; exact hr
    exact row_of_block hr' (fun k e => blk_setCell_other _ _ _ _ (fun e2 => row_ne_box hr hbx (by rw [e, e2])))
  · exact ((Chg.of_below hb).trans ((chg_of_grown hg).mono (fun k e => .inr (.inr e)))).trans ((Chg.set _ _ _ _).mono (fun k e => .inl e))

theorem Mid.bld {w w' : World} {Bb Bm lo F n : Nat} {va : Value} {D D' : DataW Nat} {xs : List (Int × Int)} (h : Mid w Bb Bm lo F va D xs n) (hg : w.grownBy w' (some Bm)) (hm : w'.ownsMap Try.prog 65 (plainElem Try.prog 79) Bm xs.length D') (hf : FoundOk F D' xs) : Bld w' Bb Bm lo F va D' xs := by
  obtain ⟨es, clock, h1, h2⟩ := h.map
  have hne : Bb ≠ Bm := fun e => by have h3 := h.box; rw [e, h1] at h3; cases h3
  exact ⟨(hg.block Bb (Array.getElem?_eq_some_iff.1 h.box).1 (fun e => hne (Option.some.inj e))).trans h.box, row_of_block h.row (fun k e => hg.block k (World.ownsRow.lt h.row k e).2 (fun e2 => row_ne_map h.row h1 (by rw [e]; exact e2))), hm, hf⟩

/-- What the builder answers, and its ands behind that. -/
def andStep (F : Nat) (xs : List (Int × Int)) (x y : Int) : Int × List (Int × Int) :=
  if andL F xs (lo2 x y) (hi2 x y) < 0 then (2 * ((F : Int) + (xs.length : Int)), xs ++ [(lo2 x y, hi2 x y)]) else (andL F xs (lo2 x y) (hi2 x y), xs)

theorem foldStep_and (F : Nat) (st : List Int × List (Int × Int)) (p : Int × Int) : foldStep F st p = (st.1 ++ [(andStep F st.2 (mapL st.1 p.1) (mapL st.1 p.2)).1], (andStep F st.2 (mapL st.1 p.1) (mapL st.1 p.2)).2) := by
  unfold foldStep andStep
  simp only
  split <;> rfl

def AndPost (Bb Bm lo F : Nat) (va : Value) (xs : List (Int × Int)) (x y : Int) (w : World) (e : Ending) (w' : World) : Prop :=
  ∃ aa' ca' D', e = .returned (.int .i64 (andStep F xs x y).1) ∧ Bld w' Bb Bm lo F (.slice aa' (andStep F xs x y).2.length ca') D' (andStep F xs x y).2 ∧ Chg (fun k => k = Bb ∨ k = Bm ∨ va.ownBlock = some k) w w'

theorem AndPost.old {Bb Bm lo F : Nat} {aa : Option Addr} {ca : Nat} {D : DataW Nat} {xs : List (Int × Int)} {x y r : Int} {w w' : World} (hB : Bld w Bb Bm lo F (.slice aa xs.length ca) D xs) (hb : Below w.heap.size w w') (h : andL F xs (lo2 x y) (hi2 x y) = r) (h0 : 0 ≤ r) : AndPost Bb Bm lo F (.slice aa xs.length ca) xs x y w (.returned (.int .i64 r)) w' := by
  have e : andStep F xs x y = (r, xs) := by unfold andStep; rw [h, if_neg (by omega)]
  refine ⟨aa, ca, D, by rw [e], ?_, Chg.of_below hb⟩
  rw [e]
  exact hB.below hb

theorem lo_hi_lt {A B : Int} (h : A < B) : lo2 A B = A ∧ hi2 A B = B ∧ lo2 B A = A ∧ hi2 B A = B := by
  unfold lo2 hi2
  rw [if_neg (by omega), if_neg (by omega), if_pos h, if_pos h]
  exact ⟨rfl, rfl, rfl, rfl⟩

theorem zero_meaning (w : World) : (zeroValue 79).run Try.prog w = .ok (.int .i64 0) w := by kernel_rfl

theorem opp_lt {A B : Int} (h : A < B) (h0 : 0 ≤ A) : (A = opp B) ↔ (A + 1 = B ∧ A % 2 = 0) := by
  unfold opp
  split <;> omega

set_option maxRecDepth 100000 in
set_option maxHeartbeats 4000000 in
/-- Of two that differ. -/
theorem and_lt (Bb Bm lo F : Nat) (aa : Option Addr) (ca : Nat) (D : DataW Nat) (xs : List (Int × Int)) (A B x y : Int) (w : World) (hB : Bld w Bb Bm lo F (.slice aa xs.length ca) D xs) (hxy : (A = x ∧ B = y) ∨ (B = x ∧ A = y)) (hlt : A < B) (h0 : 0 ≤ A) (h1 : B ≤ 199) (hn : xs.length ≤ 60) (hF : F ≤ 40) (hlo : lo ≤ w.heap.size) :
    Calls Try.prog 111 #[.pointer (some ⟨Bb, 0, none⟩), .int .i64 x, .int .i64 y] w (AndPost Bb Bm lo F (.slice aa xs.length ca) xs x y w) := by
  have HB := hideN hB
  obtain ⟨l1, l2, l3, l4⟩ := lo_hi_lt hlt
  have hl : lo2 x y = A ∧ hi2 x y = B := by rcases hxy with ⟨rfl, rfl⟩ | ⟨rfl, rfl⟩ <;> exact ⟨by assumption, by assumption⟩
  have HPO : Hid (∀ W r, Below w.heap.size w W → andL F xs A B = r → 0 ≤ r → AndPost Bb Bm lo F (.slice aa xs.length ca) xs x y w (.returned (.int .i64 r)) W) := fun W r hW hr hr0 => AndPost.old HB.out hW (by rw [hl.1, hl.2]; exact hr) hr0
  have HOP : Hid (∀ W, Calls Try.prog 105 #[.int .i64 B] W fun e w' => e = .returned (.int .i64 (opp B)) ∧ w' = W) := fun W => oppos_any B W (by omega) (by omega)
  have HMO : Hid (∀ W, Calls Try.prog 78 #[.int .i64 ((F : Int) + (xs.length : Int))] W fun e w' => e = .returned (.int .i64 (2 * ((F : Int) + (xs.length : Int)))) ∧ w' = W) := fun W => meaningOf_any _ W (by omega) (by omega)
  have HAL : Hid (andL F xs A B = if A = 0 ∨ (A + 1 = B ∧ A % 2 = 0) then 0 else if A = 1 ∨ A = B then B else if whereA xs (A, B) < xs.length then 2 * ((F : Int) + (whereA xs (A, B) : Int)) else -1) := by show _ = _; unfold andL; rfl
  have HAB : Hid (Fits (A, B)) := ⟨⟨h0, by show A ≤ 1000; omega⟩, by show 0 ≤ B; omega, by show B ≤ 1000; omega⟩
  have HLH : Hid (lo2 x y = A ∧ hi2 x y = B) := hl
  have HST : Hid (andL F xs A B = -1 → andStep F xs x y = (2 * ((F : Int) + (xs.length : Int)), xs ++ [(A, B)])) := fun h => by
    unfold andStep
    rw [hl.1, hl.2, h, if_pos (by omega)]
  have hOL := opp_lt hlt h0
  obtain ⟨O, hO⟩ : ∃ O, opp B = O := ⟨_, rfl⟩
  rw [hO] at HOP hOL
  have ene : (A == B) = false := by simp; omega
  obtain ⟨ia, hia, hza0, hza1, hza2⟩ := info_parts info_and
  clear hB l1 l2 l3 l4 hl hO
  rcases hxy with ⟨rfl, rfl⟩ | ⟨rfl, rfl⟩
  all_goals
    by_cases c0 : A = 0
    · have e0 : (A == 0) = true := by simpa using c0
      go_enter Try.func111, Try.ntmps111
      go_wp2_with fail
      go_ret
      exact HPO.out _ _ (Below.refl _ _) (by rw [HAL.out, if_pos (.inl c0)]) (Int.le_refl _)
    · have e0 : (A == 0) = false := by simpa using c0
      go_enter Try.func111, Try.ntmps111
      go_wp2_with fail
      refine (HOP.out _).mono ?_
      rintro e w' ⟨rfl, hw'⟩
      obtain rfl := hw'.symm
      by_cases c1 : A = O
      · have e1 : (A == O) = true := by simpa using c1
        go_wp2_with fail
        go_ret
        exact HPO.out _ _ (Below.refl _ _) (by rw [HAL.out, if_pos (.inr (hOL.1 c1))]) (Int.le_refl _)
      · have e1 : (A == O) = false := by simpa using c1
        by_cases c2 : A = 1
        · have e2 : (A == 1) = true := by simpa using c2
          go_wp2_with fail
          go_ret
          exact HPO.out _ _ (Below.refl _ _) (by rw [HAL.out, if_neg (fun h => h.elim c0 (fun h => c1 (hOL.2 h))), if_pos (.inl c2)]) (by omega)
        · have e2 : (A == 1) = false := by simpa using c2
          go_wp2_with fail
          obtain ⟨V, hV⟩ : ∃ V, V = w.alloc (.cells #[.int .i64 A, .int .i64 B] 65) := ⟨_, rfl⟩
          rw [← hV]
          have y0 : V.cell? ⟨w.heap.size, 0, none⟩ = some (.int .i64 A) := by rw [hV]; simp
          have y1 : V.cell? ⟨w.heap.size, 1, none⟩ = some (.int .i64 B) := by rw [hV]; simp
          have HBV : Hid (Below w.heap.size w V) := by rw [hV]; exact belOne _ _
          have HB1 := hideN (HB.out.below HBV.out)
          have hlV : w.heap.size < V.heap.size := cell_lt y0
          have s0 := HB1.out.c0
          have s1 := HB1.out.c1
          have s2 := HB1.out.c2
          have s4 := HB1.out.lt
          obtain ⟨v, ps, hrun, hv⟩ := (World.ownsMap.drew HB1.out.map).look_ok andKeyed Try.underlying126 (zero_meaning V.drew) (plainElem_int Try.underlying79 (by decide)) (keyOf_and (A, B) HAB.out)
          obtain ⟨c, rfl, hc, hwc⟩ := plainElem_int_inv Try.underlying79 hv
          have HFO := hideN (HB1.out.ok.2 (A, B) HAB.out)
          obtain ⟨f, hf⟩ : ∃ f, Maps.has D (keyA (A, B)) = f := ⟨_, rfl⟩
          rw [hf] at hrun HFO
          have HAC : Hid (D.atKey (keyA (A, B)) (.lit (.int .i64 0)) = .lit (.int .i64 c)) := congrArg Prod.fst hc
          have HLL : Hid (andL F xs A B = if whereA xs (A, B) < xs.length then 2 * ((F : Int) + (whereA xs (A, B) : Int)) else -1) := by show _ = _; rw [HAL.out, if_neg (fun h => h.elim c0 (fun h => c1 (hOL.2 h))), if_neg (fun h => h.elim c2 (fun h => by omega))]
          clear hV hv hc hf HOP hOL e0 e1 e2 ene
          refine region_S (fin := 10) (S := fun V => V.cell? ⟨Bb, 2, none⟩ = some (.map (some Bm)) ∧ V.cell? ⟨w.heap.size, 0, none⟩ = some (.int .i64 A) ∧ V.cell? ⟨w.heap.size, 1, none⟩ = some (.int .i64 B) ∧ (Instr.lookup 126 (.map (some Bm)) (.agg #[.int .i64 A, .int .i64 B]) true).run Try.prog V = .ok (.tuple #[.int .i64 c, .bool f]) V) (by kernel_rfl) ⟨s2, y0, y1, hrun⟩ (fun hHeld => ?_)
          clear hHeld
          refine takeS (i := 0) (v := .pointer (some ⟨Bb, 0, none⟩)) rfl (by kernel_rfl) (by kernel_rfl) (by kernel_rfl) (by kernel_rfl) (fun _ _ _ h => h) (Or.inl ⟨by rfl, fun w hS => by obtain ⟨s2, y0, y1, hrun⟩ := hS; go_simp⟩) ⟨s2, y0, y1, hrun⟩ ?_
          simp only [List.getElem_toArray, List.getElem_cons_zero, Act.put, List.setIfInBounds_toArray, List.set_cons_zero, List.set_cons_succ]
          refine takeS (i := 1) (v := .pointer (some ⟨Bb, 0, none⟩)) rfl (by kernel_rfl) (by kernel_rfl) (by kernel_rfl) (by kernel_rfl) (fun _ _ _ h => h) (Or.inl ⟨by rfl, fun w hS => by obtain ⟨s2, y0, y1, hrun⟩ := hS; go_simp⟩) ⟨s2, y0, y1, hrun⟩ ?_
          simp only [List.getElem_toArray, List.getElem_cons_zero, List.getElem_cons_succ, Act.put, List.setIfInBounds_toArray, List.set_cons_zero, List.set_cons_succ]
          refine takeS (i := 2) (v := .pointer (some ⟨Bb, 2, none⟩)) rfl (by kernel_rfl) (by kernel_rfl) (by kernel_rfl) (by kernel_rfl) (fun _ _ _ h => h) (Or.inl ⟨by rfl, fun w hS => by obtain ⟨s2, y0, y1, hrun⟩ := hS; go_simp⟩) ⟨s2, y0, y1, hrun⟩ ?_
          simp only [List.getElem_toArray, List.getElem_cons_zero, List.getElem_cons_succ, Act.put, List.setIfInBounds_toArray, List.set_cons_zero, List.set_cons_succ]
          refine takeS (i := 3) (v := .map (some Bm)) rfl (by kernel_rfl) (by kernel_rfl) (by kernel_rfl) (by kernel_rfl) (fun _ _ _ h => h) (Or.inl ⟨by rfl, fun w hS => by obtain ⟨s2, y0, y1, hrun⟩ := hS; go_simp⟩) ⟨s2, y0, y1, hrun⟩ ?_
          simp only [List.getElem_toArray, List.getElem_cons_zero, List.getElem_cons_succ, Act.put, List.setIfInBounds_toArray, List.set_cons_zero, List.set_cons_succ]
          refine takeS (i := 4) (v := .agg #[.int .i64 A, .int .i64 B]) rfl (by kernel_rfl) (by kernel_rfl) (by kernel_rfl) (by kernel_rfl) (fun _ _ _ h => h) (Or.inl ⟨by rfl, fun w hS => by obtain ⟨s2, y0, y1, hrun⟩ := hS; go_simp⟩) ⟨s2, y0, y1, hrun⟩ ?_
          simp only [List.getElem_toArray, List.getElem_cons_zero, List.getElem_cons_succ, Act.put, List.setIfInBounds_toArray, List.set_cons_zero, List.set_cons_succ]
          refine takeS (i := 5) (v := .tuple #[.int .i64 c, .bool f]) rfl (by kernel_rfl) (by kernel_rfl) (by kernel_rfl) (by kernel_rfl) (fun _ _ _ h => h) (Or.inl ⟨by rfl, fun w hS => by obtain ⟨s2, y0, y1, hrun⟩ := hS; go_simp⟩) ⟨s2, y0, y1, hrun⟩ ?_
          simp only [List.getElem_toArray, List.getElem_cons_zero, List.getElem_cons_succ, Act.put, List.setIfInBounds_toArray, List.set_cons_zero, List.set_cons_succ]
          refine takeS (i := 6) (v := .tuple #[.int .i64 c, .bool f]) rfl (by kernel_rfl) (by kernel_rfl) (by kernel_rfl) (by kernel_rfl) (fun _ _ _ h => h) (Or.inl ⟨by rfl, fun w hS => by obtain ⟨s2, y0, y1, hrun⟩ := hS; go_simp⟩) ⟨s2, y0, y1, hrun⟩ ?_
          simp only [List.getElem_toArray, List.getElem_cons_zero, List.getElem_cons_succ, Act.put, List.setIfInBounds_toArray, List.set_cons_zero, List.set_cons_succ]
          refine takeS (i := 7) (v := .int .i64 c) rfl (by kernel_rfl) (by kernel_rfl) (by kernel_rfl) (by kernel_rfl) (fun _ _ _ h => h) (Or.inl ⟨by rfl, fun w hS => by obtain ⟨s2, y0, y1, hrun⟩ := hS; go_simp⟩) ⟨s2, y0, y1, hrun⟩ ?_
          simp only [List.getElem_toArray, List.getElem_cons_zero, List.getElem_cons_succ, Act.put, List.setIfInBounds_toArray, List.set_cons_zero, List.set_cons_succ]
          refine takeS (i := 8) (v := .bool f) rfl (by kernel_rfl) (by kernel_rfl) (by kernel_rfl) (by kernel_rfl) (fun _ _ _ h => h) (Or.inl ⟨by rfl, fun w hS => by obtain ⟨s2, y0, y1, hrun⟩ := hS; go_simp⟩) ⟨s2, y0, y1, hrun⟩ ?_
          simp only [List.getElem_toArray, List.getElem_cons_zero, List.getElem_cons_succ, Act.put, List.setIfInBounds_toArray, List.set_cons_zero, List.set_cons_succ]
          refine takeS (i := 9) (v := .int .i64 c) rfl (by kernel_rfl) (by kernel_rfl) (by kernel_rfl) (by kernel_rfl) (fun _ _ _ h => h) (Or.inl ⟨by rfl, fun w hS => by obtain ⟨s2, y0, y1, hrun⟩ := hS; go_simp⟩) ⟨s2, y0, y1, hrun⟩ ?_
          simp only [List.getElem_toArray, List.getElem_cons_zero, List.getElem_cons_succ, Act.put, List.setIfInBounds_toArray, List.set_cons_zero, List.set_cons_succ]
          refine oneS (i := 10) (by kernel_rfl) rfl (by rfl) ?_
          simp only [List.getElem_toArray, List.getElem_cons_zero, List.getElem_cons_succ]
          go_simp
          refine doneS (by kernel_rfl) ?_ _
          clear hrun
          cases f with
          | true =>
            have hw : whereA xs (A, B) < xs.length := by have h := HFO.out.1; simpa using h
            have hcv : c = 2 * ((F : Int) + (whereA xs (A, B) : Int)) := by have h := HFO.out.2 hw; rw [HAC.out] at h; simpa using h
            go_wp2_with fail
            go_ret
            exact HPO.out _ _ (by exact below_drewN HBV.out 1) (by rw [HLL.out, if_pos hw, hcv]) (by omega)
          | false =>
            have hnw : ¬ whereA xs (A, B) < xs.length := by have h := HFO.out.1; simpa using h
            have HBD : Hid (Bld V.drew Bb Bm lo F (.slice aa xs.length ca) D xs) := HB1.out.below (below_drewN (Below.refl _ _) 1)
            have HBW : Hid (Below w.heap.size w V.drew) := below_drewN HBV.out 1
            have y0 : V.drew.cell? ⟨w.heap.size, 0, none⟩ = some (.int .i64 A) := y0
            have y1 : V.drew.cell? ⟨w.heap.size, 1, none⟩ = some (.int .i64 B) := y1
            have hlV : w.heap.size < V.drew.heap.size := hlV
            have HNW := hideN hnw
            clear hwc HFO HAC HPO s0 s1 s2 s4 HB1 HBV hnw
            generalize V.drew = V at *
            have s0 := HBD.out.c0
            have s1 := HBD.out.c1
            have s2 := HBD.out.c2
            have s4 := HBD.out.lt
            have w1 : IntKind.i64.wrap ((F : Int) + (xs.length : Int)) = (F : Int) + (xs.length : Int) := by rw [IntKind.wrap_i64]; omega
            go_wp2_with fail
            refine region_S (fin := 11) (S := fun V => V.cell? ⟨Bb, 0, none⟩ = some (.int .i64 (F : Int)) ∧ V.cell? ⟨Bb, 1, none⟩ = some (.slice aa xs.length ca)) (by kernel_rfl) ⟨s0, s1⟩ (fun hHeld => ?_)
            clear hHeld
            refine takeS (i := 0) (v := .pointer (some ⟨Bb, 0, none⟩)) rfl (by kernel_rfl) (by kernel_rfl) (by kernel_rfl) (by kernel_rfl) (fun _ _ _ h => h) (Or.inl ⟨by rfl, fun w hS => by obtain ⟨s0, s1⟩ := hS; go_simp⟩) ⟨s0, s1⟩ ?_
            simp only [List.getElem_toArray, List.getElem_cons_zero, Act.put, List.setIfInBounds_toArray, List.set_cons_zero, List.set_cons_succ]
            refine takeS (i := 1) (v := .pointer (some ⟨Bb, 0, none⟩)) rfl (by kernel_rfl) (by kernel_rfl) (by kernel_rfl) (by kernel_rfl) (fun _ _ _ h => h) (Or.inl ⟨by rfl, fun w hS => by obtain ⟨s0, s1⟩ := hS; go_simp⟩) ⟨s0, s1⟩ ?_
            simp only [List.getElem_toArray, List.getElem_cons_zero, List.getElem_cons_succ, Act.put, List.setIfInBounds_toArray, List.set_cons_zero, List.set_cons_succ]
            refine takeS (i := 2) (v := .pointer (some ⟨Bb, 0, none⟩)) rfl (by kernel_rfl) (by kernel_rfl) (by kernel_rfl) (by kernel_rfl) (fun _ _ _ h => h) (Or.inl ⟨by rfl, fun w hS => by obtain ⟨s0, s1⟩ := hS; go_simp⟩) ⟨s0, s1⟩ ?_
            simp only [List.getElem_toArray, List.getElem_cons_zero, List.getElem_cons_succ, Act.put, List.setIfInBounds_toArray, List.set_cons_zero, List.set_cons_succ]
            refine takeS (i := 3) (v := .int .i64 (F : Int)) rfl (by kernel_rfl) (by kernel_rfl) (by kernel_rfl) (by kernel_rfl) (fun _ _ _ h => h) (Or.inl ⟨by rfl, fun w hS => by obtain ⟨s0, s1⟩ := hS; go_simp⟩) ⟨s0, s1⟩ ?_
            simp only [List.getElem_toArray, List.getElem_cons_zero, List.getElem_cons_succ, Act.put, List.setIfInBounds_toArray, List.set_cons_zero, List.set_cons_succ]
            refine takeS (i := 4) (v := .pointer (some ⟨Bb, 0, none⟩)) rfl (by kernel_rfl) (by kernel_rfl) (by kernel_rfl) (by kernel_rfl) (fun _ _ _ h => h) (Or.inl ⟨by rfl, fun w hS => by obtain ⟨s0, s1⟩ := hS; go_simp⟩) ⟨s0, s1⟩ ?_
            simp only [List.getElem_toArray, List.getElem_cons_zero, List.getElem_cons_succ, Act.put, List.setIfInBounds_toArray, List.set_cons_zero, List.set_cons_succ]
            refine takeS (i := 5) (v := .pointer (some ⟨Bb, 0, none⟩)) rfl (by kernel_rfl) (by kernel_rfl) (by kernel_rfl) (by kernel_rfl) (fun _ _ _ h => h) (Or.inl ⟨by rfl, fun w hS => by obtain ⟨s0, s1⟩ := hS; go_simp⟩) ⟨s0, s1⟩ ?_
            simp only [List.getElem_toArray, List.getElem_cons_zero, List.getElem_cons_succ, Act.put, List.setIfInBounds_toArray, List.set_cons_zero, List.set_cons_succ]
            refine takeS (i := 6) (v := .pointer (some ⟨Bb, 1, none⟩)) rfl (by kernel_rfl) (by kernel_rfl) (by kernel_rfl) (by kernel_rfl) (fun _ _ _ h => h) (Or.inl ⟨by rfl, fun w hS => by obtain ⟨s0, s1⟩ := hS; go_simp⟩) ⟨s0, s1⟩ ?_
            simp only [List.getElem_toArray, List.getElem_cons_zero, List.getElem_cons_succ, Act.put, List.setIfInBounds_toArray, List.set_cons_zero, List.set_cons_succ]
            refine takeS (i := 7) (v := .slice aa xs.length ca) rfl (by kernel_rfl) (by kernel_rfl) (by kernel_rfl) (by kernel_rfl) (fun _ _ _ h => h) (Or.inl ⟨by rfl, fun w hS => by obtain ⟨s0, s1⟩ := hS; go_simp⟩) ⟨s0, s1⟩ ?_
            simp only [List.getElem_toArray, List.getElem_cons_zero, List.getElem_cons_succ, Act.put, List.setIfInBounds_toArray, List.set_cons_zero, List.set_cons_succ]
            refine takeS (i := 8) (v := .int .i64 (xs.length : Int)) rfl (by kernel_rfl) (by kernel_rfl) (by kernel_rfl) (by kernel_rfl) (fun _ _ _ h => h) (Or.inl ⟨by rfl, fun w hS => by obtain ⟨s0, s1⟩ := hS; go_simp⟩) ⟨s0, s1⟩ ?_
            simp only [List.getElem_toArray, List.getElem_cons_zero, List.getElem_cons_succ, Act.put, List.setIfInBounds_toArray, List.set_cons_zero, List.set_cons_succ]
            refine takeS (i := 9) (v := .int .i64 ((F : Int) + (xs.length : Int))) rfl (by kernel_rfl) (by kernel_rfl) (by kernel_rfl) (by kernel_rfl) (fun _ _ _ h => h) (Or.inl ⟨by rfl, fun w hS => by obtain ⟨s0, s1⟩ := hS; go_simp⟩) ⟨s0, s1⟩ ?_
            simp only [List.getElem_toArray, List.getElem_cons_zero, List.getElem_cons_succ, Act.put, List.setIfInBounds_toArray, List.set_cons_zero, List.set_cons_succ]
            refine oneS (i := 10) (by kernel_rfl) rfl (by rfl) ?_
            simp only [List.getElem_toArray, List.getElem_cons_zero, List.getElem_cons_succ]
            go_simp
            refine (HMO.out _).mono ?_
            rintro e w' ⟨rfl, hw'⟩
            obtain rfl := hw'.symm
            refine ⟨⟨s0, s1⟩, ?_⟩
            refine oneS (i := 11) (by kernel_rfl) rfl (by rfl) ?_
            simp only [List.getElem_toArray, List.getElem_cons_zero, List.getElem_cons_succ]
            go_simp
            refine doneS (by kernel_rfl) ?_ _
            have HBD2 : Hid (Bld V.drew Bb Bm lo F (.slice aa xs.length ca) D xs) := HBD.out.below (below_drewN (Below.refl _ _) 1)
            have HBW2 : Hid (Below w.heap.size w V.drew) := below_drewN HBW.out 1
            have y0 : V.drew.cell? ⟨w.heap.size, 0, none⟩ = some (.int .i64 A) := y0
            have y1 : V.drew.cell? ⟨w.heap.size, 1, none⟩ = some (.int .i64 B) := y1
            have hlV : w.heap.size < V.drew.heap.size := hlV
            clear s0 s1 s2 s4 HBD HBW w1 HMO
            generalize V.drew = V at *
            have s1 := HBD2.out.c1
            have s4 := HBD2.out.lt
            go_wp2_with fail
            refine region_S (fin := 10) (S := fun V => V.cell? ⟨Bb, 1, none⟩ = some (.slice aa xs.length ca) ∧ V.cell? ⟨w.heap.size, 0, none⟩ = some (.int .i64 A) ∧ V.cell? ⟨w.heap.size, 1, none⟩ = some (.int .i64 B)) (by kernel_rfl) ⟨s1, y0, y1⟩ (fun hHeld => ?_)
            clear hHeld
            refine takeS (i := 0) (v := .pointer (some ⟨Bb, 0, none⟩)) rfl (by kernel_rfl) (by kernel_rfl) (by kernel_rfl) (by kernel_rfl) (fun _ _ _ h => h) (Or.inl ⟨by rfl, fun w hS => by obtain ⟨s1, y0, y1⟩ := hS; go_simp⟩) ⟨s1, y0, y1⟩ ?_
            simp only [List.getElem_toArray, List.getElem_cons_zero, Act.put, List.setIfInBounds_toArray, List.set_cons_zero, List.set_cons_succ]
            refine takeS (i := 1) (v := .pointer (some ⟨Bb, 0, none⟩)) rfl (by kernel_rfl) (by kernel_rfl) (by kernel_rfl) (by kernel_rfl) (fun _ _ _ h => h) (Or.inl ⟨by rfl, fun w hS => by obtain ⟨s1, y0, y1⟩ := hS; go_simp⟩) ⟨s1, y0, y1⟩ ?_
            simp only [List.getElem_toArray, List.getElem_cons_zero, List.getElem_cons_succ, Act.put, List.setIfInBounds_toArray, List.set_cons_zero, List.set_cons_succ]
            refine takeS (i := 2) (v := .pointer (some ⟨Bb, 0, none⟩)) rfl (by kernel_rfl) (by kernel_rfl) (by kernel_rfl) (by kernel_rfl) (fun _ _ _ h => h) (Or.inl ⟨by rfl, fun w hS => by obtain ⟨s1, y0, y1⟩ := hS; go_simp⟩) ⟨s1, y0, y1⟩ ?_
            simp only [List.getElem_toArray, List.getElem_cons_zero, List.getElem_cons_succ, Act.put, List.setIfInBounds_toArray, List.set_cons_zero, List.set_cons_succ]
            refine takeS (i := 3) (v := .pointer (some ⟨Bb, 1, none⟩)) rfl (by kernel_rfl) (by kernel_rfl) (by kernel_rfl) (by kernel_rfl) (fun _ _ _ h => h) (Or.inl ⟨by rfl, fun w hS => by obtain ⟨s1, y0, y1⟩ := hS; go_simp⟩) ⟨s1, y0, y1⟩ ?_
            simp only [List.getElem_toArray, List.getElem_cons_zero, List.getElem_cons_succ, Act.put, List.setIfInBounds_toArray, List.set_cons_zero, List.set_cons_succ]
            refine takeS (i := 4) (v := .slice aa xs.length ca) rfl (by kernel_rfl) (by kernel_rfl) (by kernel_rfl) (by kernel_rfl) (fun _ _ _ h => h) (Or.inl ⟨by rfl, fun w hS => by obtain ⟨s1, y0, y1⟩ := hS; go_simp⟩) ⟨s1, y0, y1⟩ ?_
            simp only [List.getElem_toArray, List.getElem_cons_zero, List.getElem_cons_succ, Act.put, List.setIfInBounds_toArray, List.set_cons_zero, List.set_cons_succ]
            refine takeS (i := 5) (v := .agg #[.int .i64 A, .int .i64 B]) rfl (by kernel_rfl) (by kernel_rfl) (by kernel_rfl) (by kernel_rfl) (fun _ _ _ h => h) (Or.inl ⟨by rfl, fun w hS => by obtain ⟨s1, y0, y1⟩ := hS; go_simp⟩) ⟨s1, y0, y1⟩ ?_
            simp only [List.getElem_toArray, List.getElem_cons_zero, List.getElem_cons_succ, Act.put, List.setIfInBounds_toArray, List.set_cons_zero, List.set_cons_succ]
            refine oneS (i := 6) (by kernel_rfl) rfl (by rfl) ?_
            simp only [List.getElem_toArray, List.getElem_cons_zero, List.getElem_cons_succ]
            go_simp
            have HBE : Hid (Below V.heap.size V (V.alloc (.cells #[.int .i64 A, .int .i64 B] 65)).drew) := below_drewN (belOne _ _) 1
            have HRD := hideN (row_below HBD2.out.row HBE.out)
            refine oneS (i := 7) (by kernel_rfl) rfl (by rfl) ?_
            simp only [List.getElem_toArray, List.getElem_cons_zero, List.getElem_cons_succ]
            refine wp_append_lies _ (.tmp 62) (.tmp 64) 31 rfl lo 65 ia (.agg #[.int .i64 0, .int .i64 0]) 2 16 Try.underlying31 hia hza0 hza1 hza2 rfl (by decide) (.slice aa xs.length ca) xs.length (andV xs) rfl HRD.out ⟨V.heap.size, 0, none⟩ 1 1 [.int .i64 A, .int .i64 B] rfl rfl (by exact news2 V _ _ _) (and_oneCell _ _) (by decide) (by unfold maxLen; omega) (by omega) (by simp; omega) _ rfl ?_
            intro g gcap w9 hown9 hgrow9 hat9 hlt9
            have hnr : (Value.slice aa xs.length ca).ownBlock ≠ some w.heap.size := fun e => by have := (World.ownsRow.lt HB.out.row _ e).2; omega
            have hyb := hgrow9.block w.heap.size (Nat.lt_of_lt_of_le hlV HBE.out.size) (fun e2 => hnr e2.symm)
            have q0 : w9.cell? ⟨w.heap.size, 0, none⟩ = some (.int .i64 A) := by rw [cellOfBlock hyb]; exact (HBE.out.cell (p := ⟨w.heap.size, 0, none⟩) hlV).trans y0
            have q1 : w9.cell? ⟨w.heap.size, 1, none⟩ = some (.int .i64 B) := by rw [cellOfBlock hyb]; exact (HBE.out.cell (p := ⟨w.heap.size, 1, none⟩) hlV).trans y1
            have hbb := hgrow9.block Bb (Nat.lt_of_lt_of_le s4 HBE.out.size) (fun e2 => HBD2.out.apart.2.2 e2.symm)
            have q2 : w9.cell? ⟨Bb, 1, none⟩ = some (.slice aa xs.length ca) := by rw [cellOfBlock hbb]; exact (HBE.out.cell (p := ⟨Bb, 1, none⟩) s4).trans s1
            have q3 : w9.frozen? ⟨Bb, 1, none⟩ = false := by simp [World.frozen?, hbb.trans ((HBE.out.block Bb s4).trans HBD2.out.box)]
            have q4 : Bb < w9.heap.size := cell_lt q2
            have HMI := hideN (HBD2.out.mid (p := (A, B)) (vb := .slice (some ⟨g, 0, none⟩) (xs.length + 1) gcap) HBE.out hgrow9 (by rw [andV_snoc]; exact hown9))
            have hq9 : w.heap.size < w9.heap.size := cell_lt q0
            clear hown9 hgrow9 hat9 hlt9 hyb hbb y0 y1 s1 s4 hnr HRD hlV
            refine ⟨fun _ => ⟨q2, q0, q1⟩, ?_⟩
            simp only [Act.put, List.setIfInBounds_toArray, List.set_cons_zero, List.set_cons_succ]
            refine oneS (i := 8) (by kernel_rfl) rfl (by rfl) ?_
            simp only [List.getElem_toArray, List.getElem_cons_zero, List.getElem_cons_succ]
            go_simp
            refine takeS (i := 9) (v := .pointer (some ⟨Bb, 1, none⟩)) rfl (by kernel_rfl) (by kernel_rfl) (by kernel_rfl) (by kernel_rfl) (fun _ _ _ h => h) (Or.inl ⟨by rfl, fun w hS => by obtain ⟨q2, q0, q1⟩ := hS; go_simp⟩) ⟨q2, q0, q1⟩ ?_
            simp only [List.getElem_toArray, List.getElem_cons_zero, List.getElem_cons_succ, Act.put, List.setIfInBounds_toArray, List.set_cons_zero, List.set_cons_succ]
            refine oneS (i := 10) (by kernel_rfl) rfl (by rfl) ?_
            simp only [List.getElem_toArray, List.getElem_cons_zero, List.getElem_cons_succ]
            go_simp
            refine doneS (by kernel_rfl) ?_ _
            have HNB : Hid (w.heap.size ≠ Bb) := fun e => by have := HB.out.lt; omega
            have y0 : (w9.setCell ⟨Bb, 1, none⟩ (.slice (some ⟨g, 0, none⟩) (xs.length + 1) gcap)).cell? ⟨w.heap.size, 0, none⟩ = some (.int .i64 A) := by rw [cellOfBlock (blk_setCell_other _ _ _ _ HNB.out)]; exact q0
            have y1 : (w9.setCell ⟨Bb, 1, none⟩ (.slice (some ⟨g, 0, none⟩) (xs.length + 1) gcap)).cell? ⟨w.heap.size, 1, none⟩ = some (.int .i64 B) := by rw [cellOfBlock (blk_setCell_other _ _ _ _ HNB.out)]; exact q1
            have hlV : w.heap.size < (w9.setCell ⟨Bb, 1, none⟩ (.slice (some ⟨g, 0, none⟩) (xs.length + 1) gcap)).heap.size := by simpa using hq9
            clear q0 q1 q2 q3 q4 hq9
            generalize w9.setCell ⟨Bb, 1, none⟩ (.slice (some ⟨g, 0, none⟩) (xs.length + 1) gcap) = U at *
            have s2 : U.cell? ⟨Bb, 2, none⟩ = some (.map (some Bm)) := by simp [World.cell?, HMI.out.1.box]
            have s4 : Bb < U.heap.size := cell_lt s2
            obtain ⟨w11, hrun, hown11, hgrow11⟩ := (World.ownsMap.drew HMI.out.1.map).update andKeyed Try.underlying126 (by unfold maxLen; omega) (keyOf_and (A, B) HAB.out) (plainElem_int Try.underlying79 (wf_small (x := 2 * ((F : Int) + (xs.length : Int))) (by omega) (by omega)))
            go_wp2_with fail
            refine region_S (fin := 6) (S := fun V => V.cell? ⟨Bb, 2, none⟩ = some (.map (some Bm)) ∧ V.cell? ⟨w.heap.size, 0, none⟩ = some (.int .i64 A) ∧ V.cell? ⟨w.heap.size, 1, none⟩ = some (.int .i64 B)) (by kernel_rfl) ⟨s2, y0, y1⟩ (fun hHeld => ?_)
            clear hHeld
            refine takeS (i := 0) (v := .pointer (some ⟨Bb, 0, none⟩)) rfl (by kernel_rfl) (by kernel_rfl) (by kernel_rfl) (by kernel_rfl) (fun _ _ _ h => h) (Or.inl ⟨by rfl, fun w hS => by obtain ⟨s2, y0, y1⟩ := hS; go_simp⟩) ⟨s2, y0, y1⟩ ?_
            simp only [List.getElem_toArray, List.getElem_cons_zero, Act.put, List.setIfInBounds_toArray, List.set_cons_zero, List.set_cons_succ]
            refine takeS (i := 1) (v := .pointer (some ⟨Bb, 0, none⟩)) rfl (by kernel_rfl) (by kernel_rfl) (by kernel_rfl) (by kernel_rfl) (fun _ _ _ h => h) (Or.inl ⟨by rfl, fun w hS => by obtain ⟨s2, y0, y1⟩ := hS; go_simp⟩) ⟨s2, y0, y1⟩ ?_
            simp only [List.getElem_toArray, List.getElem_cons_zero, List.getElem_cons_succ, Act.put, List.setIfInBounds_toArray, List.set_cons_zero, List.set_cons_succ]
            refine takeS (i := 2) (v := .pointer (some ⟨Bb, 2, none⟩)) rfl (by kernel_rfl) (by kernel_rfl) (by kernel_rfl) (by kernel_rfl) (fun _ _ _ h => h) (Or.inl ⟨by rfl, fun w hS => by obtain ⟨s2, y0, y1⟩ := hS; go_simp⟩) ⟨s2, y0, y1⟩ ?_
            simp only [List.getElem_toArray, List.getElem_cons_zero, List.getElem_cons_succ, Act.put, List.setIfInBounds_toArray, List.set_cons_zero, List.set_cons_succ]
            refine takeS (i := 3) (v := .map (some Bm)) rfl (by kernel_rfl) (by kernel_rfl) (by kernel_rfl) (by kernel_rfl) (fun _ _ _ h => h) (Or.inl ⟨by rfl, fun w hS => by obtain ⟨s2, y0, y1⟩ := hS; go_simp⟩) ⟨s2, y0, y1⟩ ?_
            simp only [List.getElem_toArray, List.getElem_cons_zero, List.getElem_cons_succ, Act.put, List.setIfInBounds_toArray, List.set_cons_zero, List.set_cons_succ]
            refine takeS (i := 4) (v := .agg #[.int .i64 A, .int .i64 B]) rfl (by kernel_rfl) (by kernel_rfl) (by kernel_rfl) (by kernel_rfl) (fun _ _ _ h => h) (Or.inl ⟨by rfl, fun w hS => by obtain ⟨s2, y0, y1⟩ := hS; go_simp⟩) ⟨s2, y0, y1⟩ ?_
            simp only [List.getElem_toArray, List.getElem_cons_zero, List.getElem_cons_succ, Act.put, List.setIfInBounds_toArray, List.set_cons_zero, List.set_cons_succ]
            refine takeS (i := 5) (v := .int .i64 (2 * ((F : Int) + (xs.length : Int)))) rfl (by kernel_rfl) (by kernel_rfl) (by kernel_rfl) (by kernel_rfl) (fun _ _ _ h => h) (Or.inl ⟨by rfl, fun w hS => by obtain ⟨s2, y0, y1⟩ := hS; go_simp⟩) ⟨s2, y0, y1⟩ ?_
            simp only [List.getElem_toArray, List.getElem_cons_zero, List.getElem_cons_succ, Act.put, List.setIfInBounds_toArray, List.set_cons_zero, List.set_cons_succ]
            refine oneS (i := 6) (by kernel_rfl) rfl (by rfl) ?_
            simp only [List.getElem_toArray, List.getElem_cons_zero, List.getElem_cons_succ]
            go_simp
            refine doneS (by kernel_rfl) ?_ _
            have HFI : Hid (Bld w11 Bb Bm lo F (.slice (some ⟨g, 0, none⟩) (xs.length + 1) gcap) (D.put (keyA (A, B)) (.lit (.int .i64 (2 * ((F : Int) + (xs.length : Int)))))) (xs ++ [(A, B)])) := by
              have hm : Mid U.drew Bb Bm lo F (.slice (some ⟨g, 0, none⟩) (xs.length + 1) gcap) D (xs ++ [(A, B)]) xs.length := ⟨HMI.out.1.box, HMI.out.1.row, HMI.out.1.map⟩
              refine hm.bld hgrow11 ?_ (FoundOk.snoc HBD2.out.ok HAB.out HNW.out)
              rw [List.length_append]
              exact hown11
            have HCF : Hid (Chg (fun k => k = Bb ∨ k = Bm ∨ (Value.slice aa xs.length ca).ownBlock = some k) w w11) := by
              have h1 := (Chg.of_below HBW2.out).trans HMI.out.2
              have h2 : Chg (fun k => k = Bb ∨ k = Bm ∨ (Value.slice aa xs.length ca).ownBlock = some k) w U.drew := h1.trans (Chg.of_below (below_drewN (Below.refl _ _) 1))
              exact h2.trans ((chg_of_grown hgrow11).mono (fun k e => .inr (.inl (Option.some.inj e).symm)))
            clear hown11 hgrow11 hrun s2 s4 y0 y1 hlV HMI
            go_wp2_with fail
            go_ret
            have hst := HST.out (by rw [HLL.out, if_neg HNW.out])
            refine ⟨some ⟨g, 0, none⟩, gcap, D.put (keyA (A, B)) (.lit (.int .i64 (2 * ((F : Int) + (xs.length : Int))))), by rw [hst]; rfl, ?_, HCF.out⟩
            rw [hst]
            have hlen : (xs ++ [(A, B)]).length = xs.length + 1 := by simp
            simp only [hlen]
            exact HFI.out

set_option maxRecDepth 100000 in
set_option maxHeartbeats 4000000 in
/-- Of one and the same. -/
theorem and_eq (Bb Bm lo F : Nat) (aa : Option Addr) (ca : Nat) (D : DataW Nat) (xs : List (Int × Int)) (x : Int) (w : World) (hB : Bld w Bb Bm lo F (.slice aa xs.length ca) D xs) (h0 : 0 ≤ x) (h1 : x ≤ 199) :
    Calls Try.prog 111 #[.pointer (some ⟨Bb, 0, none⟩), .int .i64 x, .int .i64 x] w (AndPost Bb Bm lo F (.slice aa xs.length ca) xs x x w) := by
  have HB := hideN hB
  have hl : lo2 x x = x ∧ hi2 x x = x := by unfold lo2 hi2; simp
  have HPO : Hid (∀ W r, Below w.heap.size w W → andL F xs x x = r → 0 ≤ r → AndPost Bb Bm lo F (.slice aa xs.length ca) xs x x w (.returned (.int .i64 r)) W) := fun W r hW hr hr0 => AndPost.old HB.out hW (by rw [hl.1, hl.2]; exact hr) hr0
  have HOP : Hid (∀ W, Calls Try.prog 105 #[.int .i64 x] W fun e w' => e = .returned (.int .i64 (opp x)) ∧ w' = W) := fun W => oppos_any x W (by omega) (by omega)
  have HAL : Hid (andL F xs x x = if x = 0 then 0 else x) := by
    show _ = _
    unfold andL
    by_cases c : x = 0
    · rw [if_pos (.inl c), if_pos c]
    · rw [if_neg (by omega), if_pos (.inr rfl), if_neg c]
  have hne : x ≠ opp x := by unfold opp; split <;> omega
  obtain ⟨O, hO⟩ : ∃ O, opp x = O := ⟨_, rfl⟩
  rw [hO] at HOP hne
  have e1 : (x == O) = false := by simpa using hne
  clear hB hl hO hne
  by_cases c0 : x = 0
  · have e0 : (x == 0) = true := by simpa using c0
    go_enter Try.func111, Try.ntmps111
    go_wp2_with fail
    go_ret
    exact HPO.out _ _ (Below.refl _ _) (by rw [HAL.out, if_pos c0]) (Int.le_refl _)
  · have e0 : (x == 0) = false := by simpa using c0
    go_enter Try.func111, Try.ntmps111
    go_wp2_with fail
    refine (HOP.out _).mono ?_
    rintro e w' ⟨rfl, hw'⟩
    obtain rfl := hw'.symm
    by_cases c2 : x = 1
    · have e2 : (x == 1) = true := by simpa using c2
      go_wp2_with fail
      go_ret
      exact HPO.out _ _ (Below.refl _ _) (by rw [HAL.out, if_neg c0]; exact c2) (by omega)
    · have e2 : (x == 1) = false := by simpa using c2
      go_wp2_with fail
      go_ret
      exact HPO.out _ _ (Below.refl _ _) (by rw [HAL.out, if_neg c0]) h0

theorem and_any (Bb Bm lo F : Nat) (aa : Option Addr) (ca : Nat) (D : DataW Nat) (xs : List (Int × Int)) (x y : Int) (w : World) (hB : Bld w Bb Bm lo F (.slice aa xs.length ca) D xs) (hx0 : 0 ≤ x) (hx1 : x ≤ 199) (hy0 : 0 ≤ y) (hy1 : y ≤ 199) (hn : xs.length ≤ 60) (hF : F ≤ 40) (hlo : lo ≤ w.heap.size) :
    Calls Try.prog 111 #[.pointer (some ⟨Bb, 0, none⟩), .int .i64 x, .int .i64 y] w (AndPost Bb Bm lo F (.slice aa xs.length ca) xs x y w) := by
  by_cases e : x = y
  · subst e; exact and_eq Bb Bm lo F aa ca D xs x w hB hx0 hx1
  · by_cases h : x < y
    · exact and_lt Bb Bm lo F aa ca D xs x y x y w hB (.inl ⟨rfl, rfl⟩) h hx0 hy1 hn hF hlo
    · exact and_lt Bb Bm lo F aa ca D xs y x x y w hB (.inr ⟨rfl, rfl⟩) (by omega) hy0 hx1 hn hF hlo

end Go.Proofs.Ytbdjdgamnnifjaa

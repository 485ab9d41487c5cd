/-
  Diagrams: the program draws the diagram of a table.
-/
import Derived.Test.YtknpifjkllcdeaaBdD
namespace Go.Proofs.Ytknpifjkllcdeaa
open Go.RowKit Go.Deep
set_option linter.unusedVariables false

attribute [local go_sem] Oper.semAt_some

/-- A table in memory, from a place on. -/
structure Tab (W : World) (Bt off cap : Nat) (t : List Bool) : Prop where
  le : t.length ≤ cap
  cell : ∀ i, i < t.length → W.cell? ⟨Bt, off + i, none⟩ = some (.bool (t.getD i false))

theorem Tab.below {W W' : World} {lo Bt off cap : Nat} {t : List Bool} (h : Tab W Bt off cap t) (hlt : Bt < lo) (hb : Below lo W W') : Tab W' Bt off cap t := ⟨h.le, fun i hi => (hb.cell (p := ⟨Bt, off + i, none⟩) hlt).trans (h.cell i hi)⟩
theorem Tab.take {W : World} {Bt off cap : Nat} {t : List Bool} (h : Tab W Bt off cap t) (n : Nat) : Tab W Bt off cap (t.take n) := by
  have := h.le
  refine ⟨by rw [List.length_take]; omega, fun i hi => ?_⟩
  rw [List.length_take] at hi
  rw [getD_take (by omega)]
  exact h.cell i (by omega)
theorem Tab.drop {W : World} {Bt off cap : Nat} {t : List Bool} (h : Tab W Bt off cap t) (n : Nat) : Tab W Bt (off + n) (cap - n) (t.drop n) := by
  have := h.le
  refine ⟨by rw [List.length_drop]; omega, fun i hi => ?_⟩
  rw [List.length_drop] at hi
  rw [getD_drop, Nat.add_assoc]
  exact h.cell (n + i) (by omega)

theorem drawB_succ (k v : Nat) (t : List Bool) (ns : List Nd) (h : Nat) (hh : 2 ^ k = h) : drawB (k + 1) v t ns =
    if (drawB k (v + 1) (t.take h) ns).2 = (drawB k (v + 1) (t.drop h) (drawB k (v + 1) (t.take h) ns).1).2 then
      ((drawB k (v + 1) (t.drop h) (drawB k (v + 1) (t.take h) ns).1).1, (drawB k (v + 1) (t.take h) ns).2)
    else putB (drawB k (v + 1) (t.drop h) (drawB k (v + 1) (t.take h) ns).1).1 ((v : Int), (drawB k (v + 1) (t.take h) ns).2, (drawB k (v + 1) (t.drop h) (drawB k (v + 1) (t.take h) ns).1).2) := by
  subst hh; rw [drawB]

set_option maxHeartbeats 400000 in
theorem numberOf_any (b : Bool) (w : World) :
    Calls Try.prog 118 #[.bool b] w fun e w' => e = .returned (.int .i64 (numB b)) ∧ w' = w := by
  cases b
  all_goals
    go_enter Try.func118, Try.ntmps118
    go_wp2
    go_ret
    exact ⟨rfl, rfl⟩

/-- What drawing leaves. -/
def DrawPostN (lo Bb Bm : Nat) (vars : Int) (l : List Nd) (x : Int) (w : World) (e : Ending) (w' : World) : Prop :=
  ∃ aa n ca D, e = .returned (.int .i64 x) ∧ l.length = n ∧ BldN w' Bb Bm lo vars (.slice aa n ca) D l ∧ Below lo w w'

set_option maxRecDepth 100000 in
set_option maxHeartbeats 4000000 in
theorem draw_any (lo Bb Bm n Bt : Nat) (hBb : lo ≤ Bb) (hBm : lo ≤ Bm) (hBt : Bt < lo) (hn6 : n ≤ 6) : ∀ (k v off cap m na ca : Nat) (t : List Bool) (aa : Option Addr) (D : DataW Nat) (ns : List Nd) (w : World) (vi : Int), vi = (v : Int) → v + k = n → t.length = m → m = 2 ^ k → Tab w Bt off cap t → ns.length = na → BldN w Bb Bm lo n (.slice aa na ca) D ns → na + 2 ^ k ≤ 65 → lo ≤ w.heap.size →
    Calls Try.prog 100 #[.pointer (some ⟨Bb, 0, none⟩), .int .i64 vi, .slice (some ⟨Bt, off, none⟩) m cap] w (DrawPostN lo Bb Bm n (drawB k v t ns).1 (drawB k v t ns).2 w) := by
  intro k
  induction k with
  | zero =>
    intro v off cap m na ca t aa D ns w vi hvi hv ht hm hT hna hB hle hlo
    subst hvi
    obtain rfl : v = n := by omega
    obtain rfl : m = 1 := by simpa using hm
    have d0 := hT.cell 0 (by omega)
    rw [Nat.add_zero] at d0
    have c0 := hB.c0
    have hcap := hT.le
    have HR : Hid (DrawPostN lo Bb Bm v (drawB 0 v t ns).1 (drawB 0 v t ns).2 w (.returned (.int .i64 (numB (t.getD 0 false)))) w) := ⟨aa, na, ca, D, rfl, hna, hB, Below.refl _ _⟩
    have hlt := hB.lt
    generalize t.getD 0 false = x at *
    clear hT hB hm
    go_enter Try.func100, Try.ntmps100
    go_wp2_with fail
    refine (numberOf_any _ _).mono ?_
    rintro e w' ⟨rfl, hw'⟩
    obtain rfl := hw'.symm
    go_wp2
    go_ret
    exact HR.out
  | succ k ih =>
    intro v off cap m na ca t aa D ns w vi hvi hv ht hm hT hna hB hle hlo
    subst hvi
    obtain ⟨h, hh⟩ : ∃ h, 2 ^ k = h := ⟨_, rfl⟩
    have hmh : m = h + h := by rw [hm, Nat.pow_succ, hh]; omega
    have hh1 : 1 ≤ h := by rw [← hh]; exact Nat.one_le_two_pow
    have hle2 : na + (h + h) ≤ 65 := by rw [← hmh, hm]; exact hle
    have HD := hideN (drawB_succ k v t ns h hh)
    have HT := hideN hT
    have HB := hideN hB
    have c0 := hB.c0
    have hlt := hB.lt
    have hcap := hT.le
    rw [ht] at hcap
    have e0 : ((v : Int) == (n : Int)) = false := by simp; omega
    have HT2 := hideN ht
    have HNA := hideN hna
    have HIH := hideN ih
    have HH := hideN hh
    have HV := hideN hv
    have hvn : v ≤ 6 := by omega
    have w1 : IntKind.i64.wrap ((v : Int) + 1) = (v : Int) + 1 := by rw [IntKind.wrap_i64]; omega
    have w2 : ((m : Int)).tdiv 2 = (h : Int) := by rw [Int.tdiv_eq_ediv_of_nonneg (by omega)]; omega
    have hmm := hideN hm
    have HMH := hideN hmh
    have hhm : h < m := by omega
    have hhc : h < cap := by omega
    clear hT hB hm ht hna ih hh hv hle hmh
    go_enter Try.func100, Try.ntmps100
    go_wp2_with fail
    refine (HIH.out (v + 1) off cap h na ca (t.take h) aa D ns w ((v : Int) + 1) (by push_cast; rfl) (by have := HV.out; omega) (by have := HT2.out; rw [List.length_take]; omega) HH.out.symm (HT.out.take h) HNA.out HB.out (by rw [HH.out]; omega) hlo).mono ?_
    rintro e wa ⟨aa1, n1, ca1, D1, rfl, hn1, hB1, hb1⟩
    obtain ⟨b1, b2, b3, b4⟩ := drawB_len k (v + 1) (t.take h) ns
    rw [HH.out] at b2
    generalize (drawB k (v + 1) (t.take h) ns).2 = x1 at *
    generalize (drawB k (v + 1) (t.take h) ns).1 = l1 at *
    rw [hn1, HNA.out] at b1 b2
    rw [hn1] at b4
    have HN1 := hideN hn1
    have HB1 := hideN hB1
    have HBe1 := hideN hb1
    have hlo1 : lo ≤ wa.heap.size := Nat.le_trans hlo hb1.size
    have hmh2 : m - h = h := by have := HMH.out; omega
    have HML := hideN hmh2
    have w3 : IntKind.i64.wrap ((v : Int) + 1) = (v : Int) + 1 := w1
    clear hn1 hB1 hb1 w1 c0 hlt hmh2
    go_wp2_with fail
    refine (HIH.out (v + 1) (off + h) (cap - h) (m - h) n1 ca1 (t.drop h) aa1 D1 l1 wa ((v : Int) + 1) (by push_cast; rfl) (by have := HV.out; omega) (by have := HT2.out; rw [List.length_drop]; omega) (by rw [HML.out, HH.out]) ((HT.out.below hBt HBe1.out).drop h) HN1.out HB1.out (by rw [HH.out]; omega) hlo1).mono ?_
    rintro e wb ⟨aa2, n2, ca2, D2, rfl, hn2, hB2, hb2⟩
    obtain ⟨d1, d2, d3, d4⟩ := drawB_len k (v + 1) (t.drop h) l1
    rw [HH.out] at d2
    generalize (drawB k (v + 1) (t.drop h) l1).2 = x2 at *
    generalize (drawB k (v + 1) (t.drop h) l1).1 = l2 at *
    rw [hn2, HN1.out] at d1 d2
    rw [hn2] at d4
    have HN2 := hideN hn2
    have HB2 := hideN hB2
    have HBe2 : Hid (Below lo w wb) := HBe1.out.trans hb2
    have hlo2 : lo ≤ wb.heap.size := Nat.le_trans hlo1 hb2.size
    clear hn2 hB2 hb2 w3
    by_cases hx : x1 = x2
    · subst hx
      have HR : Hid (DrawPostN lo Bb Bm n (drawB (k + 1) v t ns).1 (drawB (k + 1) v t ns).2 w (.returned (.int .i64 x1)) wb) := by
        show DrawPostN _ _ _ _ _ _ _ _ _
        rw [HD.out, if_pos rfl]
        exact ⟨aa2, n2, ca2, D2, rfl, HN2.out, HB2.out, HBe2.out⟩
      go_wp2
      go_ret
      exact HR.out
    · have e2 : (x1 == x2) = false := by simpa using hx
      go_wp2_with fail
      have hnl := HN2.out
      subst hnl
      refine (placeOf_any Bb Bm lo n aa2 ca2 D2 l2 (v : Int) x1 x2 wb HB2.out ⟨⟨by omega, by show (v : Int) ≤ 100; omega⟩, ⟨b3, by show x1 ≤ 1000; omega⟩, d3, by show x2 ≤ 1000; omega⟩ (by omega) hlo2).mono ?_
      rintro e wc ⟨aa3, ca3, D3, rfl, hB3, hc3⟩
      have HR : Hid (DrawPostN lo Bb Bm n (drawB (k + 1) v t ns).1 (drawB (k + 1) v t ns).2 w (.returned (.int .i64 (putB l2 ((v : Int), x1, x2)).2)) wc) := by
        show DrawPostN _ _ _ _ _ _ _ _ _
        rw [HD.out, if_neg hx]
        refine ⟨aa3, _, ca3, D3, rfl, rfl, hB3, Chg.below HBe2.out hlo2 hc3 ?_⟩
        rintro k (rfl | rfl | e)
        · exact hBb
        · exact hBm
        · exact (World.ownsRow.lt HB2.out.row _ e).1
      clear hB3 hc3
      generalize (putB l2 ((v : Int), x1, x2)).2 = x3 at *
      go_wp2
      go_ret
      exact HR.out

/-- A block that holds a diagram. -/
def BlkD (w : World) (b : Nat) (a0 a1 a2 : Value) : Prop := w.heap[b]? = some (.cells #[a0, a1, a2] 25 (0, 0))

section
variable {w w' : World} {b : Nat} {a0 a1 a2 : Value}
theorem BlkD.lt (h : BlkD w b a0 a1 a2) : b < w.heap.size := (Array.getElem?_eq_some_iff.1 h).1
theorem BlkD.c0 (h : BlkD w b a0 a1 a2) : w.cell? ⟨b, 0, none⟩ = some a0 := by unfold BlkD at h; simp [World.cell?, h]
theorem BlkD.c1 (h : BlkD w b a0 a1 a2) : w.cell? ⟨b, 1, none⟩ = some a1 := by unfold BlkD at h; simp [World.cell?, h]
theorem BlkD.c2 (h : BlkD w b a0 a1 a2) : w.cell? ⟨b, 2, none⟩ = some a2 := by unfold BlkD at h; simp [World.cell?, h]
theorem BlkD.f (h : BlkD w b a0 a1 a2) (i : Nat) : w.frozen? ⟨b, i, none⟩ = false := by unfold BlkD at h; simp [World.frozen?, h]
theorem BlkD.set0 (h : BlkD w b a0 a1 a2) (u : Value) : BlkD (w.setCell ⟨b, 0, none⟩ u) b u a1 a2 := by unfold BlkD at *; simp [World.setCell, Array.getElem?_modify, h]
theorem BlkD.set1 (h : BlkD w b a0 a1 a2) (u : Value) : BlkD (w.setCell ⟨b, 1, none⟩ u) b a0 u a2 := by unfold BlkD at *; simp [World.setCell, Array.getElem?_modify, h]
theorem BlkD.set2 (h : BlkD w b a0 a1 a2) (u : Value) : BlkD (w.setCell ⟨b, 2, none⟩ u) b a0 a1 u := by unfold BlkD at *; simp [World.setCell, Array.getElem?_modify, h]
theorem BlkD.new (w : World) (a0 a1 a2 : Value) : BlkD (w.alloc (.cells #[a0, a1, a2] 25)) w.heap.size a0 a1 a2 := World.alloc_heap_new _ _
theorem BlkD.below (h : BlkD w b a0 a1 a2) (hb : Below w.heap.size w w') : BlkD w' b a0 a1 a2 := (hb.block b h.lt).trans h
/-- All three, stored one behind the other. -/
def set3 (w : World) (b : Nat) (u0 u1 u2 : Value) : World := ((w.setCell ⟨b, 0, none⟩ u0).setCell ⟨b, 1, none⟩ u1).setCell ⟨b, 2, none⟩ u2
theorem BlkD.set (h : BlkD w b a0 a1 a2) (u0 u1 u2 : Value) : BlkD (set3 w b u0 u1 u2) b u0 u1 u2 := ((h.set0 u0).set1 u1).set2 u2
theorem set3_other {k : Nat} (u0 u1 u2 : Value) (h : k ≠ b) : (set3 w b u0 u1 u2).heap[k]? = w.heap[k]? := by
  unfold set3
  rw [blk_setCell_other _ _ _ _ h, blk_setCell_other _ _ _ _ h, blk_setCell_other _ _ _ _ h]
theorem set3_below {n : Nat} {w0 : World} (h : Below n w0 w) (hb : n ≤ b) (u0 u1 u2 : Value) : Below n w0 (set3 w b u0 u1 u2) := ((h.setCell (p := ⟨b, 0, none⟩) hb u0).setCell (p := ⟨b, 1, none⟩) hb u1).setCell (p := ⟨b, 2, none⟩) hb u2
end

/-- The diagram drawn: how many variables, its nodes in memory of the call's own, where it is. -/
def BddPost (vars : Int) (l : List Nd) (x : Int) (w : World) (e : Ending) (w' : World) : Prop :=
  ∃ aa n ca, e = .returned (.agg #[.int .i64 vars, .slice aa n ca, .int .i64 x]) ∧ l.length = n ∧ w'.ownsRow w.heap.size 50 3 (.slice aa n ca) n (ndV l) ∧ Below w.heap.size w w'

set_option maxRecDepth 100000 in
set_option maxHeartbeats 4000000 in
theorem drawnOf_any (n Bt off cap m : Nat) (t : List Bool) (w : World) (hn6 : n ≤ 6) (ht : t.length = m) (hm : m = 2 ^ n) (hT : Tab w Bt off cap t) (hBt : Bt < w.heap.size) :
    Calls Try.prog 63 #[.int .i64 (n : Int), .slice (some ⟨Bt, off, none⟩) m cap] w (BddPost n (drawB n 0 t []).1 (drawB n 0 t []).2 w) := by
  have HT := hideN hT
  have HT2 := hideN ht
  have HM := hideN hm
  have hmm := @run_makeMap Try.prog
  clear hT ht hm
  go_enter Try.func63, Try.ntmps63
  go_wp2_with fail
  have hs : ((w.alloc (.cells #[.int .i64 0, .slice none 0 0, .int .i64 0] 25)).alloc (.map #[] 0)).heap.size = w.heap.size + 1 + 1 := by simp
  have hBx : BldN (((w.alloc (.cells #[.int .i64 0, .slice none 0 0, .int .i64 0] 25)).alloc (.map #[] 0)).alloc (.cells #[.int .i64 (n : Int), .slice none 0 0, .map (some (w.heap.size + 1))] 105)) (w.heap.size + 1 + 1) (w.heap.size + 1) (w.heap.size + 1) n (.slice none 0 0) (.map []) [] := by
    refine ⟨?_, World.ownsRow_nil _ _ _ _, ?_, FoundN.nil⟩
    · have h := World.alloc_heap_new ((w.alloc (.cells #[.int .i64 0, .slice none 0 0, .int .i64 0] 25)).alloc (.map #[] 0)) (.cells #[.int .i64 (n : Int), .slice none 0 0, .map (some (w.heap.size + 1))] 105)
      rw [hs] at h
      exact h
    · have h := World.ownsMap_made (H := Nat) (P := Try.prog) (w.alloc (.cells #[.int .i64 0, .slice none 0 0, .int .i64 0] 25)) 50 (plainElem Try.prog 3)
      rw [World.size_alloc] at h
      exact World.ownsMap.alloc h _
  have hQ : BlkD (((w.alloc (.cells #[.int .i64 0, .slice none 0 0, .int .i64 0] 25)).alloc (.map #[] 0)).alloc (.cells #[.int .i64 (n : Int), .slice none 0 0, .map (some (w.heap.size + 1))] 105)) w.heap.size (.int .i64 0) (.slice none 0 0) (.int .i64 0) := ((BlkD.new _ _ _ _).below (belOne _ _)).below (belOne _ _)
  have hbl : Below w.heap.size w (((w.alloc (.cells #[.int .i64 0, .slice none 0 0, .int .i64 0] 25)).alloc (.map #[] 0)).alloc (.cells #[.int .i64 (n : Int), .slice none 0 0, .map (some (w.heap.size + 1))] 105)) := belNext (belNext (belOne _ _) (belOne _ _)) (belOne _ _)
  have hsz : (((w.alloc (.cells #[.int .i64 0, .slice none 0 0, .int .i64 0] 25)).alloc (.map #[] 0)).alloc (.cells #[.int .i64 (n : Int), .slice none 0 0, .map (some (w.heap.size + 1))] 105)).heap.size = w.heap.size + 3 := by simp
  generalize (((w.alloc (.cells #[.int .i64 0, .slice none 0 0, .int .i64 0] 25)).alloc (.map #[] 0)).alloc (.cells #[.int .i64 (n : Int), .slice none 0 0, .map (some (w.heap.size + 1))] 105)) = W3 at *
  refine (draw_any (w.heap.size + 1) (w.heap.size + 1 + 1) (w.heap.size + 1) n Bt (by omega) (by omega) (by omega) hn6 n 0 off cap m 0 0 t none (.map []) [] W3 0 rfl (by omega) HT2.out HM.out (HT.out.below hBt hbl) rfl hBx (by have : 2 ^ n ≤ 2 ^ 6 := Nat.pow_le_pow_right (by decide) hn6; omega) (by omega)).mono ?_
  rintro e w1 ⟨aa1, n1, ca1, D1, rfl, hn1, hB1, hb1⟩
  generalize (drawB n 0 t []).2 = x at *
  generalize (drawB n 0 t []).1 = l at *
  have hQ1 : BlkD w1 w.heap.size (.int .i64 0) (.slice none 0 0) (.int .i64 0) := (hb1.block _ (by omega)).trans hQ
  have c1 := hB1.c1
  have c2 := hB1.lt
  have m0 := hQ1.c0
  have m1 := hQ1.c1
  have m2 := hQ1.c2
  have m3 := hQ1.f 0
  have m4 := hQ1.f 1
  have m5 := hQ1.f 2
  have m6 := hQ1.lt
  have HQ2 := hideN (hQ1.set (.int .i64 (n : Int)) (.slice aa1 n1 ca1) (.int .i64 x))
  have HN1 := hideN hn1
  have HR : Hid ((set3 w1 w.heap.size (.int .i64 (n : Int)) (.slice aa1 n1 ca1) (.int .i64 x)).ownsRow w.heap.size 50 3 (.slice aa1 n1 ca1) n1 (ndV l)) := by
    have h := hB1.row
    rw [hn1] at h
    exact row_base (row_of_block h (fun k e => set3_other _ _ _ (by have := (World.ownsRow.lt h k e).1; omega))) (by omega)
  have HBE : Hid (Below w.heap.size w (set3 w1 w.heap.size (.int .i64 (n : Int)) (.slice aa1 n1 ca1) (.int .i64 x))) := set3_below (hbl.trans (hb1.mono (by omega))) (Nat.le_refl _) _ _ _
  clear hB1 hb1 hQ1 hQ hbl hBx hn1 hmm hs hsz
  go_wp2
  have q := HQ2.out
  have u0 := q.c0
  have u1 := q.c1
  have u2 := q.c2
  unfold set3 at u0 u1 u2
  refine bodyPost_ret (v := .agg #[.int .i64 (n : Int), .slice aa1 n1 ca1, .int .i64 x]) (by simp [results, Try.results63, go_sem, u0, u1, u2]) rfl ⟨aa1, n1, ca1, rfl, HN1.out, HR.out, HBE.out⟩

end Go.Proofs.Ytknpifjkllcdeaa

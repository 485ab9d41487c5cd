/-
  Slices of slices of truths: how large they are, copies, comparisons, one that comes in.
  A run of a circuit: what AigRun calls, of the program and of the model.
-/
import Derived.Test.YtbdjdgamnnifjaaAigK
import Derived.Test.YtbdjdgamnnifjaaAigOpen
import Derived.Test.YtbdjdgamnnifjaaAigValuesLaw
import Derived.Deep.Grids
import Derived.Test.YtbdjdgamnnifjaaAigM
namespace Go.Proofs.Ytbdjdgamnnifjaa
open Go.ChangeShapes Go.WideShapes Go.ChangeAt Go.RowKit Go.Deep Go.Joins
set_option linter.unusedVariables false

theorem info_bools : (Try.prog.info? 27).map (fun i => (i.zero, i.size, i.bytes)) = some (some (.slice none 0 0), 1, 24) := by kernel_rfl
theorem cells_bools : Try.prog.cellsOf 27 = 1 := by kernel_rfl

/-- The value is a slice of slices of these truths. -/
def IsBRows (w : World) (v : Value) (xss : List (List Bool)) : Prop :=
  ∃ ao cap, v = .slice ao xss.length cap ∧ (xss ≠ [] → ∃ b off, ao = some ⟨b, off, none⟩ ∧ ∀ i, i < xss.length → ∃ r, w.cell? ⟨b, off + i, none⟩ = some r ∧ IsBits w r (xss.getD i []))

/-- How many truths there are in the rows together. -/
def sumB (xss : List (List Bool)) : Nat := (xss.map List.length).sum

theorem sumB_take_succ (xss : List (List Bool)) (k : Nat) (h : k < xss.length) : sumB (xss.take (k + 1)) = sumB (xss.take k) + (xss.getD k []).length := by
  unfold sumB
  rw [List.take_succ_eq_append_getElem h, List.map_append, List.sum_append]
  simp only [List.map_cons, List.map_nil, List.sum_cons, List.sum_nil, Nat.add_zero, List.getD, List.getElem?_eq_getElem h, Option.getD_some]

theorem sumB_take_le (xss : List (List Bool)) (k : Nat) : sumB (xss.take k) ≤ sumB xss := by
  have h : ((xss.take k ++ xss.drop k).map List.length).sum = (xss.map List.length).sum := by rw [List.take_append_drop]
  rw [List.map_append, List.sum_append] at h
  unfold sumB
  omega

theorem rowB_le (xss : List (List Bool)) (k : Nat) (h : k < xss.length) : (xss.getD k []).length ≤ sumB xss := by
  have h1 := sumB_take_succ xss k h
  have h2 := sumB_take_le xss (k + 1)
  omega

theorem IsBRows.below {w w' : World} {v : Value} {xss : List (List Bool)} (h : IsBRows w v xss) (hb : Below w.heap.size w w') : IsBRows w' v xss := by
  obtain ⟨ao, cap, rfl, h⟩ := h
  refine ⟨ao, cap, rfl, fun hne => ?_⟩
  obtain ⟨b, off, rfl, hc⟩ := h hne
  refine ⟨b, off, rfl, fun i hi => ?_⟩
  obtain ⟨r, h1, h2⟩ := hc i hi
  exact ⟨r, by rw [hb.cell (cell_lt h1)]; exact h1, h2.below hb⟩

theorem IsBRows.drewN {w : World} {v : Value} {xss : List (List Bool)} (h : IsBRows w v xss) (n : Nat) : IsBRows (w.drewN n) v xss := h

set_option maxHeartbeats 400000 in
theorem szBoolS_any (ao : Option Addr) (n cap : Nat) (left : Int) (w : World) (hn : n ≤ maxLen) (h0 : 0 ≤ left) (h1 : left ≤ 1048576) :
    Calls Try.prog 62 #[.slice ao n cap, .int .i64 left] w fun e w' => e = .returned (.int .i64 (if (n : Int) ≤ left then left - n else -1)) ∧ w' = w := by
  unfold maxLen at hn
  by_cases h : (n : Int) ≤ left
  · rw [if_pos h]
    go_enter Try.func62, Try.ntmps62
    go_wp2
    go_ret
    exact ⟨rfl, rfl⟩
  · rw [if_neg h]
    go_enter Try.func62, Try.ntmps62
    go_wp2
    go_ret
    exact ⟨rfl, rfl⟩

/-- What szBoolSS answers. -/
def szB (xss : List (List Bool)) (left : Int) : Int := if (xss.length + sumB xss : Int) ≤ left then left - (xss.length + sumB xss : Int) else -1

set_option maxHeartbeats 1000000 in
theorem szBoolSS_any (v : Value) (xss : List (List Bool)) (left : Int) (w : World) (hv : IsBRows w v xss) (hn : xss.length ≤ maxLen) (hr : ∀ xs ∈ xss, xs.length ≤ maxLen) (h0 : 0 ≤ left) (h1 : left ≤ 1048576) :
    Calls Try.prog 23 #[v, .int .i64 left] w fun e w' => e = .returned (.int .i64 (szB xss left)) ∧ w' = w := by
  obtain ⟨ao, cap, rfl, hv⟩ := hv
  generalize hN : xss.length = n at *
  unfold maxLen at hn
  by_cases h : (n : Int) ≤ left
  · by_cases hne : n = 0
    · subst hne
      obtain rfl : xss = [] := List.length_eq_zero_iff.1 hN
      clear hv hr hN
      have hs : szB [] left = left := by unfold szB sumB; simp; omega
      rw [hs]
      go_enter Try.func23, Try.ntmps23
      go_wp2
      go_rounds 1
      go_ret
      exact ⟨rfl, rfl⟩
    · obtain ⟨b, off, rfl, hc⟩ := hv (by intro e; subst e; simp at hN; omega)
      have HC : Hid (∀ i, i < n → ∃ r, w.cell? ⟨b, off + i, none⟩ = some r ∧ IsBits w r (xss.getD i [])) := hc
      have HR : Hid (∀ xs ∈ xss, xs.length ≤ maxLen) := hr
      have HN : Hid (xss.length = n) := hN
      clear hc hv hr hN
      go_enter Try.func23, Try.ntmps23
      go_wp2
      go_loop [1, 5] (fun l i => ∃ k : Nat, k ≤ n ∧ i = .int .i64 k ∧ 0 ≤ left - n - sumB (xss.take k) ∧ l = .int .i64 (left - n - sumB (xss.take k))) (fun _ i => n - (intOf i).toNat)
      case atStart => exact ⟨0, Nat.zero_le _, rfl, by simp [sumB]; omega, by simp [sumB]⟩
      case round =>
        obtain ⟨k, hk, rfl, hpos, rfl⟩ := hrel
        by_cases hlt : k < n
        · obtain ⟨r, hcell, hints⟩ := HC.out k hlt
          obtain ⟨a1, c1, rfl, _⟩ := hints
          have hts := sumB_take_succ xss k (by rw [HN.out]; exact hlt)
          have hall := sumB_take_le xss (k + 1)
          have hm : (xss.getD k []).length ≤ maxLen := HR.out _ (by rw [List.getD, List.getElem?_eq_getElem (by rw [HN.out]; exact hlt)]; simp)
          generalize hM : (xss.getD k []).length = m at *
          generalize hS : sumB (xss.take k) = t at *
          generalize hS1 : sumB (xss.take (k + 1)) = t1 at *
          have HS1 : Hid (sumB (xss.take (k + 1)) = t1) := hS1
          have HT : Hid (t1 = t + m) := hts
          clear hS hS1 hM hts
          by_cases hfit : (m : Int) ≤ left - n - t
          · go_wp2_with (go_at_call 62; refine (szBoolS_any _ _ _ _ _ hm (by omega) (by omega)).mono ?_; rintro e w' ⟨rfl, rfl⟩)
            go_round
            case rel => exact ⟨k + 1, by omega, by go_num, by rw [HS1.out, HT.out]; omega, by rw [HS1.out, HT.out]; go_num⟩
            case measure => simp [intOf]; omega
          · have hz : szB xss left = -1 := by
              have := HT.out
              have := HN.out
              unfold szB
              rw [if_neg (by omega)]
            have HZ : Hid (szB xss left = -1) := hz
            clear hz
            go_wp2_with (go_at_call 62; refine (szBoolS_any _ _ _ _ _ hm (by omega) (by omega)).mono ?_; rintro e w' ⟨rfl, rfl⟩)
            go_ret
            exact ⟨ret_int HZ.out.symm, rfl⟩
        · have hz : szB xss left = left - n - sumB (xss.take k) := by
            have := HN.out
            have hk' : xss.take k = xss := List.take_of_length_le (by omega)
            rw [hk'] at hpos ⊢
            unfold szB
            rw [if_pos (by omega)]
            omega
          have HZ : Hid (szB xss left = left - n - sumB (xss.take k)) := hz
          clear hz
          go_wp2
          go_ret
          exact ⟨ret_int HZ.out.symm, rfl⟩
  · have hs : szB xss left = -1 := by unfold szB; rw [if_neg (by omega)]
    rw [hs]
    clear hv hr
    go_enter Try.func23, Try.ntmps23
    go_wp2
    go_ret
    exact ⟨rfl, rfl⟩

/-- A copy of lists of truths: from block B on, the rows behind it. -/
structure CopyB (w : World) (B : Nat) (xss : List (List Bool)) : Prop where
  topB : w.rowIs B 27 xss.length (fun i => .slice (some ⟨B + 1 + i, 0, none⟩) (xss.getD i []).length (xss.getD i []).length)
  rows : ∀ i, i < xss.length → w.rowIs (B + 1 + i) 4 (xss.getD i []).length (fun j => .bool ((xss.getD i []).getD j false))

theorem IsBits.of_copy {w : World} {b : Nat} {xs : List Bool} (h : w.rowIs b 4 xs.length (fun j => .bool (xs.getD j false))) : IsBits w (.slice (some ⟨b, 0, none⟩) xs.length xs.length) xs :=
  ⟨_, _, rfl, fun _ => ⟨b, 0, rfl, fun i hi => by rw [Nat.zero_add]; exact h.cell hi⟩⟩

theorem CopyB.isRows {w : World} {B : Nat} {xss : List (List Bool)} (h : CopyB w B xss) : IsBRows w (.slice (some ⟨B, 0, none⟩) xss.length xss.length) xss :=
  ⟨_, _, rfl, fun _ => ⟨B, 0, rfl, fun i hi => ⟨_, by rw [Nat.zero_add]; exact h.topB.cell hi, IsBits.of_copy (h.rows i hi)⟩⟩⟩

theorem CopyB.below {w w' : World} {B : Nat} {xss : List (List Bool)} (h : CopyB w B xss) (hb : Below w.heap.size w w') : CopyB w' B xss :=
  ⟨h.topB.of_block (hb.block _ h.topB.lt), fun i hi => (h.rows i hi).of_block (hb.block _ (h.rows i hi).lt)⟩

theorem CopyB.setBelow {w : World} {B : Nat} {xss : List (List Bool)} (h : CopyB w B xss) {a : Addr} (ha : a.block < B) (u : Value) : CopyB (w.setCell a u) B xss :=
  ⟨h.topB.setOther (by omega) u, fun i hi => (h.rows i hi).setOther (by omega) u⟩

/-- Of the copy, so many rows are there. -/
def topB (B : Nat) (xss : List (List Bool)) (k : Nat) : Nat → Value := fun i => if i < k then .slice (some ⟨B + 1 + i, 0, none⟩) (xss.getD i []).length (xss.getD i []).length else .slice none 0 0

theorem topB_set {w : World} {B : Nat} {t : TypeId} {n : Nat} {xss : List (List Bool)} {k : Nat} (h : w.rowIs B t n (topB B xss k)) :
    (w.setCell ⟨B, k, none⟩ (.slice (some ⟨B + 1 + k, 0, none⟩) (xss.getD k []).length (xss.getD k []).length)).rowIs B t n (topB B xss (k + 1)) := by
  refine (h.set k _).congr (fun i _ => ?_)
  unfold topB
  by_cases e : i = k
  · subst e; simp
  · rw [if_neg e]
    by_cases hlt : i < k
    · rw [if_pos hlt, if_pos (by omega)]
    · rw [if_neg hlt, if_neg (by omega)]

/-- What holds when so many rows are copied. -/
structure HalfB (w wr : World) (xss : List (List Bool)) (k : Nat) : Prop where
  bel : Below w.heap.size w wr
  size : wr.heap.size = w.heap.size + 1 + k
  topB : wr.rowIs w.heap.size 27 xss.length (topB w.heap.size xss k)
  rows : ∀ i, i < k → wr.rowIs (w.heap.size + 1 + i) 4 (xss.getD i []).length (fun j => .bool ((xss.getD i []).getD j false))

theorem halfB_step {w wr w1 : World} {xss : List (List Bool)} {k : Nat} (h : HalfB w wr xss k) (hb : Below wr.heap.size wr w1) (hs : w1.heap.size = wr.heap.size + 1)
    (hr : w1.rowIs wr.heap.size 4 (xss.getD k []).length (fun j => .bool ((xss.getD k []).getD j false))) :
    HalfB w (w1.setCell ⟨w.heap.size, k, none⟩ (.slice (some ⟨wr.heap.size, 0, none⟩) (xss.getD k []).length (xss.getD k []).length)) xss (k + 1) := by
  have hz := h.size
  refine ⟨(h.bel.trans (hb.mono (by omega))).setCell (Nat.le_refl _) _, by simp [hs, hz]; omega, ?_, fun i hi => ?_⟩
  · rw [hz]
    exact topB_set (h.topB.of_block (hb.block _ (by omega)))
  · by_cases e : i = k
    · subst e
      rw [hz] at hr
      exact hr.setOther (by show w.heap.size + 1 + i ≠ w.heap.size; omega) _
    · exact ((h.rows i (by omega)).of_block (hb.block _ (by omega))).setOther (by show w.heap.size + 1 + i ≠ w.heap.size; omega) _

set_option maxHeartbeats 1000000 in
theorem toBoolSS_any (v : Value) (xss : List (List Bool)) (w : World) (hv : IsBRows w v xss) (hn : xss.length + sumB xss ≤ 1048576) :
    Calls Try.prog 25 #[v] w fun e w' => e = .returned (.slice (some ⟨w.heap.size, 0, none⟩) xss.length xss.length) ∧ Below w.heap.size w w' ∧ w'.heap.size = w.heap.size + 1 + xss.length ∧ CopyB w' w.heap.size xss := by
  have HV : Hid (IsBRows w v xss) := hv
  obtain ⟨ao, cap, rfl, hv⟩ := hv
  have hw : ∀ i, i < xss.length → (xss.getD i []).length ≤ 1048576 := fun i hi => by have := rowB_le xss i hi; omega
  have HW : Hid (∀ i, i < xss.length → (xss.getD i []).length ≤ 1048576) := hw
  clear hw
  have HD : Hid (∀ k wr, HalfB w wr xss k → xss.length ≤ k → CopyB wr w.heap.size xss) := fun k wr h hk =>
    ⟨h.topB.congr (fun i hi => by unfold topB; rw [if_pos (by omega)]), fun i hi => h.rows i (by omega)⟩
  have HA : Hid (HalfB w (w.alloc (.cells (madeCells #[.slice none 0 0] xss.length) 27)) xss 0) :=
    ⟨(Below.refl _ _).alloc (Nat.le_refl _) _, by simp, (World.rowIs_made w _ xss.length 27).congr (fun j _ => by simp [topB]), fun i hi => by omega⟩
  generalize hN : xss.length = n at *
  have hmk := run_make_row' (P := Try.prog) 43 27 (.slice none 0 0) 24 Try.underlying43 info_bools rfl .i64 .i64 n (by omega) (by omega)
  have HN : Hid (xss.length = n) := hN
  clear hN
  by_cases hne : 0 < n
  · obtain ⟨b, off, rfl, hc⟩ := hv (by intro e; have := HN.out; subst e; simp at this; omega)
    have HC : Hid (∀ i, i < n → ∃ r, w.cell? ⟨b, off + i, none⟩ = some r ∧ IsBits w r (xss.getD i [])) := hc
    clear hc hv
    go_enter Try.func25, Try.ntmps25
    go_wp2
    go_loopw [4] (fun i wr => ∃ k : Nat, k ≤ n ∧ i = .int .i64 k ∧ HalfB w wr xss k) (fun i _ => n - (intOf i).toNat)
    case atStart => exact ⟨0, Nat.zero_le _, rfl, HA.out⟩
    case round =>
      obtain ⟨k, hk, rfl, hf⟩ := hrel
      by_cases hlt : k < n
      · obtain ⟨r, hcell, hints⟩ := HC.out k hlt
        have hc1 : wr.cell? ⟨b, off + k, none⟩ = some r := (hf.bel.cell (cell_lt hcell)).trans hcell
        have hi1 : Hid (IsBits wr r (xss.getD k [])) := hints.below hf.bel
        have hm := HW.out k hlt
        obtain ⟨a1, c1, rfl, _⟩ := hints
        have HF : Hid (HalfB w wr xss k) := hf
        have hsz : w.heap.size < wr.heap.size := by have := hf.size; omega
        clear hcell hf
        go_wp2_with fail
        refine (toBoolS_any _ (xss.getD k []) _ hi1.out (by omega)).mono ?_
        rintro e w1 ⟨rfl, hb1, hs1, hr1⟩
        have hst := halfB_step HF.out hb1 hs1 hr1
        have hcB : ∃ u, w1.cell? ⟨w.heap.size, k, none⟩ = some u := ⟨_, (HF.out.topB.of_block (hb1.block _ hsz)).cell (by rw [HN.out]; exact hlt)⟩
        have hfB : w1.frozen? ⟨w.heap.size, k, none⟩ = false := (HF.out.topB.of_block (hb1.block _ hsz)).frozen k
        have HST : Hid (HalfB w (w1.setCell ⟨w.heap.size, k, none⟩ (.slice (some ⟨wr.heap.size, 0, none⟩) (xss.getD k []).length (xss.getD k []).length)) xss (k + 1)) := hst
        obtain ⟨u, hu⟩ := hcB
        clear hst hb1 hs1 hr1 hi1
        go_wp2
        go_roundw
        case rel => exact ⟨k + 1, by omega, by go_num, HST.out⟩
        case measure => simp [intOf]; omega
      · have hd := HD.out k wr hf (by omega)
        have hb := hf.bel
        have hs : wr.heap.size = w.heap.size + 1 + n := by have := hf.size; omega
        go_wp2
        go_ret
        exact ⟨rfl, hb, hs, hd⟩
  · have hd := HD.out 0 _ HA.out (by omega)
    go_enter Try.func25, Try.ntmps25
    go_wp2
    go_rounds 1
    go_ret
    exact ⟨rfl, HA.out.bel, by simp [HA.out.size]; omega, hd⟩

set_option maxHeartbeats 1000000 in
theorem eqBoolSS_same (v1 v2 : Value) (xss : List (List Bool)) (w : World) (h1 : IsBRows w v1 xss) (h2 : IsBRows w v2 xss) (hn : xss.length + sumB xss ≤ 1048576) :
    Calls Try.prog 27 #[v1, v2] w fun e w' => e = .returned (.bool true) ∧ ∃ n, w' = w.drewN n := by
  obtain ⟨ao1, cap1, rfl, h1⟩ := h1
  obtain ⟨ao2, cap2, rfl, h2⟩ := h2
  have HW : Hid (∀ i, i < xss.length → (xss.getD i []).length ≤ maxLen) := fun i hi => by have := rowB_le xss i hi; unfold maxLen; omega
  generalize hN : xss.length = n at *
  have HN : Hid (xss.length = n) := hN
  clear hN
  by_cases hne : 0 < n
  · have hx : xss ≠ [] := by intro e; have := HN.out; subst e; simp at this; omega
    obtain ⟨b1, off1, rfl, hc1⟩ := h1 hx
    obtain ⟨b2, off2, rfl, hc2⟩ := h2 hx
    have HC1 : Hid (∀ i, i < n → ∃ r, w.cell? ⟨b1, off1 + i, none⟩ = some r ∧ IsBits w r (xss.getD i [])) := hc1
    have HC2 : Hid (∀ i, i < n → ∃ r, w.cell? ⟨b2, off2 + i, none⟩ = some r ∧ IsBits w r (xss.getD i [])) := hc2
    clear hc1 hc2 h1 h2 hx
    go_enter Try.func27, Try.ntmps27
    go_wp2
    go_loopw [5] (fun i wr => ∃ k : Nat, k ≤ n ∧ i = .int .i64 k ∧ ∃ m, wr = w.drewN m) (fun i _ => n - (intOf i).toNat)
    case atStart => exact ⟨0, Nat.zero_le _, rfl, 0, rfl⟩
    case round =>
      obtain ⟨k, hk, rfl, hwr⟩ := hrel
      by_cases hlt : k < n
      · obtain ⟨r1, hd1, hi1⟩ : ∃ r, wr.cell? ⟨b1, off1 + k, none⟩ = some r ∧ IsBits wr r (xss.getD k []) := by obtain ⟨m, rfl⟩ := hwr; exact HC1.out k hlt
        obtain ⟨r2, hd2, hi2⟩ : ∃ r, wr.cell? ⟨b2, off2 + k, none⟩ = some r ∧ IsBits wr r (xss.getD k []) := by obtain ⟨m, rfl⟩ := hwr; exact HC2.out k hlt
        have hm := HW.out k hlt
        have HWR : Hid (∃ m, wr = w.drewN m) := hwr
        clear hwr
        generalize xss.getD k [] = ys at *
        have HI1 : Hid (IsBits wr r1 ys) := hi1
        have HI2 : Hid (IsBits wr r2 ys) := hi2
        obtain ⟨a1, c1, rfl, _⟩ := hi1
        obtain ⟨a2, c2, rfl, _⟩ := hi2
        have HM : Hid (ys.length ≤ maxLen) := hm
        clear hm
        go_wp2
        go_quiet ((go_at_call 16; exact Calls.quiet_of (eqBoolS_same _ _ _ _ (HI1.out.drewN _) (HI2.out.drewN _) HM.out)))
        go_wp2
        go_roundw
        case rel => exact ⟨k + 1, by omega, by go_num, drewN_more HWR.out _⟩
        case measure => simp [intOf]; omega
      · have HWR : Hid (∃ m, wr = w.drewN m) := hwr
        clear hwr
        go_wp2
        go_ret
        exact ⟨rfl, HWR.out⟩
  · clear h1 h2
    go_enter Try.func27, Try.ntmps27
    go_wp2
    go_rounds 1
    go_ret
    exact ⟨rfl, 0, rfl⟩

theorem isBRows_of_trod {H : Type} {enc : TypeId × Value → H} {w : World} {base : Nat} {held : Bool} {fuel : Nat} {v : Value} {x : DataW H × List MemPlace} (h : DataW.trod enc Try.prog w base (fun _ => true) held fuel 43 [v] = some x) :
    ∃ xss, IsBRows w v xss ∧ xss.length ≤ maxLen ∧ ∀ xs ∈ xss, xs.length ≤ maxLen := by
  rcases open_bool_rows Try.underlying43 Try.underlying27 Try.underlying4 cells_bools cells_bool h with ⟨hcs, _⟩ | ⟨a, len, cap, A, L, C, B, hcs, _, hl, hm, _, hr⟩
  · simp at hcs
    subst hcs
    exact ⟨[], ⟨_, _, rfl, fun hne => absurd rfl hne⟩, by simp, by simp⟩
  · simp at hcs
    subst hcs
    have hlen : ((List.range len).map fun r => (List.range (L r)).map (B r)).length = len := by simp
    refine ⟨(List.range len).map fun r => (List.range (L r)).map (B r), ⟨some a, cap, by rw [hlen], fun hne => ?_⟩, by rw [hlen]; omega, fun xs hx => ?_⟩
    · have hpos : 0 < len := by
        rcases Nat.eq_zero_or_pos len with e | e
        · subst e; simp at hne
        · exact e
      obtain ⟨b, off, rfl, hc⟩ := addr_plain (n := len) (f := fun r => .slice (A r) (L r) (C r)) hpos (fun i hi => (hr i (by omega)).1)
      refine ⟨b, off, rfl, fun i hi => ?_⟩
      rw [hlen] at hi
      refine ⟨_, hc i hi, ?_⟩
      obtain ⟨_, h1, h2, h4, h5⟩ := hr i (by omega)
      have hget : ((List.range len).map fun r => (List.range (L r)).map (B r)).getD i [] = (List.range (L i)).map (B i) := by simp [List.getD, hi]
      rw [hget]
      have hli : ((List.range (L i)).map (B i)).length = L i := by simp
      refine ⟨A i, C i, by rw [hli], fun hne => ?_⟩
      have hposi : 0 < L i := by
        rcases Nat.eq_zero_or_pos (L i) with e | e
        · rw [e] at hne; simp at hne
        · exact e
      cases hA : A i with
      | none => have := h4 hA; omega
      | some a' =>
        obtain ⟨_, hcc⟩ := h5 a' hA
        obtain ⟨b', off', rfl, hc'⟩ := addr_plain (n := L i) (f := fun j => .bool (B i j)) hposi (fun j hj => hcc j (by omega))
        refine ⟨b', off', rfl, fun j hj => ?_⟩
        rw [hli] at hj
        rw [hc' j hj]
        simp [List.getD, hj]
    · simp at hx
      obtain ⟨r, hr1, rfl⟩ := hx
      obtain ⟨_, h1, h2, _⟩ := hr r (by omega)
      simp
      omega

end Go.Proofs.Ytbdjdgamnnifjaa

namespace Go.Proofs.Ytbdjdgamnnifjaa
open Go.RowKit Go.Deep Go.Shelf
set_option linter.unusedVariables false

attribute [local go_sem] Oper.semAt_some

/-- Whether any is so. -/
def anyOf (vs : List Bool) : Bool := vs.any id
theorem anyOf_take_succ (vs : List Bool) (k : Nat) (h : k < vs.length) : anyOf (vs.take (k + 1)) = (anyOf (vs.take k) || vs.getD k false) := by
  unfold anyOf
  rw [List.take_succ_eq_append_getElem h, List.any_append]
  simp [List.getD, List.getElem?_eq_getElem h]
theorem anyOf_of_take {vs : List Bool} {k : Nat} (h : anyOf (vs.take k) = true) : anyOf vs = true := by
  unfold anyOf at *
  rw [List.any_eq_true] at *
  obtain ⟨x, hx, hp⟩ := h
  exact ⟨x, List.mem_of_mem_take hx, hp⟩

set_option maxHeartbeats 1000000 in
theorem l3Any_any (v : Value) (vs : List Bool) (w : World) (hv : IsBits w v vs) (hl : vs.length ≤ 100) :
    Calls Try.prog 64 #[v] w fun e w' => e = .returned (.bool (anyOf vs)) ∧ w' = w := by
  obtain ⟨ao, cap, rfl, hv⟩ := hv
  generalize hN : vs.length = n at *
  have HN : Hid (vs.length = n) := hN
  clear hN
  by_cases hne : 0 < n
  · obtain ⟨b, off, rfl, hc⟩ := hv (by intro e; have := HN.out; subst e; simp at this; omega)
    have HC : Hid (∀ i, i < n → w.cell? ⟨b, off + i, none⟩ = some (.bool (vs.getD i false))) := hc
    clear hc hv
    go_enter Try.func64, Try.ntmps64
    go_wp2
    go_loop [3] (fun i => ∃ k : Nat, k ≤ n ∧ i = .int .i64 k ∧ Hid (anyOf (vs.take k) = false)) (fun i => n - (intOf i).toNat)
    case atStart => exact ⟨0, Nat.zero_le _, rfl, rfl⟩
    case round =>
      obtain ⟨k, hk, rfl, hf⟩ := hrel
      by_cases hlt : k < n
      · have hd := HC.out k hlt
        have HS : Hid (anyOf (vs.take (k + 1)) = vs.getD k false) := by show anyOf (vs.take (k + 1)) = _; rw [anyOf_take_succ vs k (by rw [HN.out]; exact hlt), hf.out, Bool.false_or]
        generalize vs.getD k false = x at *
        cases x with
        | true =>
          have HT : Hid (anyOf vs = true) := anyOf_of_take HS.out
          go_wp2
          go_ret
          exact ⟨by rw [HT.out]; rfl, rfl⟩
        | false =>
          go_wp2
          go_round
          case rel => exact ⟨k + 1, by omega, by go_num, HS.out⟩
          case measure => simp [intOf]; omega
      · have HT : Hid (anyOf vs = false) := by
          have h := hf.out
          rwa [List.take_of_length_le (by rw [HN.out]; omega)] at h
        go_wp2
        go_ret
        exact ⟨by rw [HT.out]; rfl, rfl⟩
  · obtain rfl : vs = [] := List.length_eq_zero_iff.1 (by rw [HN.out]; omega)
    clear hv HN
    obtain rfl : n = 0 := by omega
    go_enter Try.func64, Try.ntmps64
    go_wp2
    go_rounds 1
    go_ret
    exact ⟨rfl, rfl⟩

set_option maxHeartbeats 1000000 in
theorem index_true (v : Value) (vs : List Bool) (w : World) (hv : IsBits w v vs) (hl : vs.length ≤ 100) :
    Calls Try.prog 101 #[v, .bool true] w fun e w' => (∃ q : Int, e = .returned (.int .i64 q) ∧ -1 ≤ q ∧ q ≤ 100 ∧ decide (0 ≤ q) = anyOf vs) ∧ w' = w := by
  obtain ⟨ao, cap, rfl, hv⟩ := hv
  generalize hN : vs.length = n at *
  have HN : Hid (vs.length = n) := hN
  clear hN
  by_cases hne : 0 < n
  · obtain ⟨b, off, rfl, hc⟩ := hv (by intro e; have := HN.out; subst e; simp at this; omega)
    have HC : Hid (∀ i, i < n → w.cell? ⟨b, off + i, none⟩ = some (.bool (vs.getD i false))) := hc
    clear hc hv
    go_enter Try.func101, Try.ntmps101
    go_wp2
    go_loop [8] (fun i => ∃ k : Nat, k ≤ n ∧ i = .int .i64 k ∧ Hid (anyOf (vs.take k) = false)) (fun i => n - (intOf i).toNat)
    case atStart => exact ⟨0, Nat.zero_le _, rfl, rfl⟩
    case round =>
      obtain ⟨k, hk, rfl, hf⟩ := hrel
      by_cases hlt : k < n
      · have hd := HC.out k hlt
        have HS : Hid (anyOf (vs.take (k + 1)) = vs.getD k false) := by show anyOf (vs.take (k + 1)) = _; rw [anyOf_take_succ vs k (by rw [HN.out]; exact hlt), hf.out, Bool.false_or]
        generalize vs.getD k false = x at *
        cases x with
        | true =>
          have HT : Hid (anyOf vs = true) := anyOf_of_take HS.out
          go_wp2
          go_ret
          exact ⟨⟨k, rfl, by omega, by omega, by rw [HT.out]; simp⟩, rfl⟩
        | false =>
          go_wp2
          go_round
          case rel => exact ⟨k + 1, by omega, by go_num, HS.out⟩
          case measure => simp [intOf]; omega
      · have HT : Hid (anyOf vs = false) := by
          have h := hf.out
          rwa [List.take_of_length_le (by rw [HN.out]; omega)] at h
        go_wp2
        go_ret
        exact ⟨⟨-1, rfl, by omega, by omega, by rw [HT.out]; rfl⟩, rfl⟩
  · obtain rfl : vs = [] := List.length_eq_zero_iff.1 (by rw [HN.out]; omega)
    clear hv HN
    obtain rfl : n = 0 := by omega
    go_enter Try.func101, Try.ntmps101
    go_wp2
    go_rounds 1
    go_ret
    exact ⟨⟨-1, rfl, by omega, by omega, rfl⟩, rfl⟩

set_option maxHeartbeats 1000000 in
theorem contains_true (v : Value) (vs : List Bool) (w : World) (hv : IsBits w v vs) (hl : vs.length ≤ 100) :
    Calls Try.prog 66 #[v, .bool true] w fun e w' => e = .returned (.bool (anyOf vs)) ∧ w' = w := by
  have HV : Hid (IsBits w v vs) := hv
  obtain ⟨ao, cap, rfl, _⟩ := hv
  go_enter Try.func66, Try.ntmps66
  go_wp2_with fail
  refine (index_true _ vs _ HV.out hl).mono ?_
  rintro e w' ⟨⟨q, rfl, h1, h2, hd⟩, rfl⟩
  generalize hx : anyOf vs = x at *
  have HX : Hid (anyOf vs = x) := hx
  clear hx
  go_wp2
  go_ret
  exact ⟨by rw [HX.out]; rfl, rfl⟩

/-- What so many latches are at first. -/
def initsL (ls : List (Int × Bool)) (k : Nat) : List Bool := (ls.take k).map Prod.snd
theorem initsL_succ (ls : List (Int × Bool)) (k : Nat) (h : k < ls.length) : initsL ls (k + 1) = initsL ls k ++ [(ls.getD k (0, false)).2] := by
  unfold initsL
  rw [List.take_succ_eq_append_getElem h, List.map_append]
  simp [List.getD, List.getElem?_eq_getElem h]
theorem initsL_length (ls : List (Int × Bool)) (k : Nat) (h : k ≤ ls.length) : (initsL ls k).length = k := by unfold initsL; simp; omega
theorem initsL_all (ls : List (Int × Bool)) : initsL ls ls.length = ls.map Prod.snd := by simp [initsL]

set_option maxRecDepth 100000 in
set_option maxHeartbeats 2000000 in
theorem l3Init_any (inp : Int) (al aa ab : Option Addr) (cl ca cb : Nat) (ls : List (Int × Bool)) (xs : List (Int × Int)) (bs : List Int) (w : World) (hC : IsCir w al aa ab cl ca cb ls xs bs) (h2 : ls.length ≤ 8) :
    Calls Try.prog 63 #[.agg #[.int .i64 inp, .slice al ls.length cl, .slice aa xs.length ca, .slice ab bs.length cb]] w (ValPost (ls.map Prod.snd) w) := by
  have HC : Hid (∀ w', Below w.heap.size w w' → IsCir w' al aa ab cl ca cb ls xs bs) := fun w' h => hC.below h
  have HO0 : Hid (Own4 (w.alloc (.cells #[.int .i64 inp, .slice al ls.length cl, .slice aa xs.length ca, .slice ab bs.length cb] 33)) w.heap.size 33 (.int .i64 inp) (.slice al ls.length cl) (.slice aa xs.length ca) (.slice ab bs.length cb)) := Own4.new _ _ _ _ _ _
  have HS0 : Hid (Below w.heap.size w ((w.alloc (.cells #[.int .i64 inp, .slice al ls.length cl, .slice aa xs.length ca, .slice ab bs.length cb] 33)).alloc (.cells #[] 4)) ∧ Own4 ((w.alloc (.cells #[.int .i64 inp, .slice al ls.length cl, .slice aa xs.length ca, .slice ab bs.length cb] 33)).alloc (.cells #[] 4)) w.heap.size 33 (.int .i64 inp) (.slice al ls.length cl) (.slice aa xs.length ca) (.slice ab bs.length cb) ∧ Ownb ((w.alloc (.cells #[.int .i64 inp, .slice al ls.length cl, .slice aa xs.length ca, .slice ab bs.length cb] 33)).alloc (.cells #[] 4)) w.heap.size (.slice (some ⟨w.heap.size + 1, 0, none⟩) 0 0) []) := by
    have h := ownb_empty (w.alloc (.cells #[.int .i64 inp, .slice al ls.length cl, .slice aa xs.length ca, .slice ab bs.length cb] 33))
    rw [World.size_alloc] at h
    exact ⟨belNext (belOne _ _) (belOne _ _), HO0.out.below (belOne _ _), h.base (by omega)⟩
  clear hC
  go_enter Try.func63, Try.ntmps63
  go_wp2
  go_loopw [3, 4] (fun o i wr => ∃ a m cp k, k ≤ ls.length ∧ i = .int .i64 (k : Nat) ∧ o = .slice a m cp ∧ Hid ((initsL ls k).length = m) ∧ Sst w wr (initsL ls k) (.slice a m cp) (.int .i64 inp) (.slice al ls.length cl) (.slice aa xs.length ca) (.slice ab bs.length cb)) (fun _ i _ => ls.length - (intOf i).toNat)
  case atStart => exact ⟨_, 0, 0, 0, Nat.zero_le _, rfl, rfl, rfl, HS0.out.2.2, HS0.out.1, HS0.out.2.1⟩
  case round =>
    obtain ⟨a, m, cp, k, hk, rfl, rfl, hm, hS⟩ := hrel
    have hm8 : m ≤ 8 := by rw [← hm.out, initsL_length _ _ hk]; omega
    have c0 := hS.cir.four.c0
    have c1 := hS.cir.four.c1
    have c2 := hS.cir.four.c2
    have c3 := hS.cir.four.c3
    have c4 := hS.cir.lt
    by_cases hkl : k < ls.length
    · have hCr := HC.out _ hS.bel
      obtain ⟨b, off, rfl, hbl, hx1, hx2⟩ : ∃ b off, al = some ⟨b, off, none⟩ ∧ b < wr.heap.size ∧ wr.cell? ⟨b, off + k * 2, none⟩ = some (.int .i64 (ls.getD k (0, false)).1) ∧ wr.cell? ⟨b, off + k * 2 + 1, none⟩ = some (.bool (ls.getD k (0, false)).2) := by
        obtain ⟨ao', cap', he, h⟩ := hCr.isL
        obtain ⟨b, off, ha, hc⟩ := h (by intro e; subst e; simp at hkl)
        injection he with e1 e2 e3
        exact ⟨b, off, e1.trans ha, cell_lt (hc k hkl).1, hc k hkl⟩
      have hsucc := initsL_succ ls k hkl
      clear hCr
      generalize ls.getD k (0, false) = qq at *
      obtain ⟨q, y⟩ := qq
      have hx1 : wr.cell? ⟨b, off + k * 2, none⟩ = some (.int .i64 q) := hx1
      have hx2 : wr.cell? ⟨b, off + k * 2 + 1, none⟩ = some (.bool y) := hx2
      have HS : Hid (initsL ls (k + 1) = initsL ls k ++ [y]) := hsucc
      have HST : Hid (Sst w wr (initsL ls k) (.slice a m cp) (.int .i64 inp) (.slice (some ⟨b, off, none⟩) ls.length cl) (.slice aa xs.length ca) (.slice ab bs.length cb)) := hS
      have HT2 : Hid (Sst w (wr.alloc (.cells #[.bool y] 4)) (initsL ls k) (.slice a m cp) (.int .i64 inp) (.slice (some ⟨b, off, none⟩) ls.length cl) (.slice aa xs.length ca) (.slice ab bs.length cb)) := HST.out.below (belOne _ _)
      have HTB : Hid (IsBits (wr.alloc (.cells #[.bool y] 4)) (.slice (some ⟨wr.heap.size, 0, none⟩) 1 1) [y]) := bits_new _ y _ (by simp)
      clear hsucc hS
      go_wp2_with (at_builtin; refine wpList_push rfl _ _ rfl w.heap.size _ _ (initsL ls k) y rfl rfl HT2.out.row HT2.out.bel.size HTB.out m hm (by omega) ?_; intro g5 cp5 w5 hv5 hg5; have S5 : Hid (Sst w w5 (initsL ls k ++ [y]) (.slice (some ⟨g5, 0, none⟩) (m + 1) cp5) (.int .i64 inp) (.slice (some ⟨b, off, none⟩) ls.length cl) (.slice aa xs.length ca) (.slice ab bs.length cb)) := HT2.out.more hv5 hg5; clear hv5 hg5)
      go_roundw
      case rel => exact ⟨_, m + 1, cp5, k + 1, by omega, by go_num, rfl, by show (initsL ls (k + 1)).length = m + 1; rw [HS.out, List.length_append, hm.out]; rfl, by rw [HS.out]; exact S5.out⟩
      case measure => simp [intOf]; omega
    · obtain rfl : k = ls.length := by omega
      have HST := hS
      rw [initsL_all] at HST hm
      have HST2 : Hid (Sst w wr (ls.map Prod.snd) (.slice a m cp) (.int .i64 inp) (.slice al ls.length cl) (.slice aa xs.length ca) (.slice ab bs.length cb)) := HST
      clear hS HST
      go_wp2
      go_ret
      exact ⟨a, m, cp, rfl, hm.out, HST2.out.row, HST2.out.bel⟩

set_option maxRecDepth 100000 in
set_option maxHeartbeats 2000000 in
theorem initsOf_any (inp : Int) (al aa ab : Option Addr) (cl ca cb : Nat) (ls : List (Int × Bool)) (xs : List (Int × Int)) (bs : List Int) (w : World) (hC : IsCir w al aa ab cl ca cb ls xs bs) (h2 : ls.length ≤ 8) :
    Calls Try.prog 65 #[.agg #[.int .i64 inp, .slice al ls.length cl, .slice aa xs.length ca, .slice ab bs.length cb]] w (ValPost (ls.map Prod.snd) w) := by
  have HC : Hid (∀ w', Below w.heap.size w w' → IsCir w' al aa ab cl ca cb ls xs bs) := fun w' h => hC.below h
  have HO0 : Hid (Own4 (w.alloc (.cells #[.int .i64 inp, .slice al ls.length cl, .slice aa xs.length ca, .slice ab bs.length cb] 33)) w.heap.size 33 (.int .i64 inp) (.slice al ls.length cl) (.slice aa xs.length ca) (.slice ab bs.length cb)) := Own4.new _ _ _ _ _ _
  clear hC
  go_enter Try.func65, Try.ntmps65
  go_wp2
  go_loopw [3, 9] (fun o i wr => ∃ a m cp k, k ≤ ls.length ∧ i = .int .i64 (k : Nat) ∧ o = .slice a m cp ∧ Hid ((initsL ls k).length = m) ∧ Sst w wr (initsL ls k) (.slice a m cp) (.int .i64 inp) (.slice al ls.length cl) (.slice aa xs.length ca) (.slice ab bs.length cb)) (fun _ i _ => ls.length - (intOf i).toNat)
  case atStart => exact ⟨none, 0, 0, 0, Nat.zero_le _, rfl, rfl, rfl, ownb_nil _ _, belOne _ _, HO0.out⟩
  case round =>
    obtain ⟨a, m, cp, k, hk, rfl, rfl, hm, hS⟩ := hrel
    have hm8 : m ≤ 8 := by rw [← hm.out, initsL_length _ _ hk]; omega
    have c0 := hS.cir.four.c0
    have c1 := hS.cir.four.c1
    have c2 := hS.cir.four.c2
    have c3 := hS.cir.four.c3
    have c4 := hS.cir.lt
    by_cases hkl : k < ls.length
    · have hCr := HC.out _ hS.bel
      obtain ⟨b, off, rfl, hbl, hx1, hx2⟩ : ∃ b off, al = some ⟨b, off, none⟩ ∧ b < wr.heap.size ∧ wr.cell? ⟨b, off + k * 2, none⟩ = some (.int .i64 (ls.getD k (0, false)).1) ∧ wr.cell? ⟨b, off + k * 2 + 1, none⟩ = some (.bool (ls.getD k (0, false)).2) := by
        obtain ⟨ao', cap', he, h⟩ := hCr.isL
        obtain ⟨b, off, ha, hc⟩ := h (by intro e; subst e; simp at hkl)
        injection he with e1 e2 e3
        exact ⟨b, off, e1.trans ha, cell_lt (hc k hkl).1, hc k hkl⟩
      have hsucc := initsL_succ ls k hkl
      clear hCr
      generalize ls.getD k (0, false) = qq at *
      obtain ⟨q, y⟩ := qq
      have hx1 : wr.cell? ⟨b, off + k * 2, none⟩ = some (.int .i64 q) := hx1
      have hx2 : wr.cell? ⟨b, off + k * 2 + 1, none⟩ = some (.bool y) := hx2
      have HS : Hid (initsL ls (k + 1) = initsL ls k ++ [y]) := hsucc
      have HST : Hid (Sst w wr (initsL ls k) (.slice a m cp) (.int .i64 inp) (.slice (some ⟨b, off, none⟩) ls.length cl) (.slice aa xs.length ca) (.slice ab bs.length cb)) := hS
      have HT2 : Hid (Sst w ((wr.alloc (.cells #[.int .i64 q, .bool y] 86)).alloc (.cells #[.bool y] 4)) (initsL ls k) (.slice a m cp) (.int .i64 inp) (.slice (some ⟨b, off, none⟩) ls.length cl) (.slice aa xs.length ca) (.slice ab bs.length cb)) := (HST.out.below (belOne _ (.cells #[.int .i64 q, .bool y] 86))).below (belOne _ _)
      have HTB : Hid (IsBits ((wr.alloc (.cells #[.int .i64 q, .bool y] 86)).alloc (.cells #[.bool y] 4)) (.slice (some ⟨wr.heap.size + 1, 0, none⟩) 1 1) [y]) := bits_new _ y _ (by simp)
      clear hsucc hS
      go_wp2_with (at_builtin; refine wpList_push rfl _ _ rfl w.heap.size _ _ (initsL ls k) y rfl rfl HT2.out.row HT2.out.bel.size HTB.out m hm (by omega) ?_; intro g5 cp5 w5 hv5 hg5; have S5 : Hid (Sst w w5 (initsL ls k ++ [y]) (.slice (some ⟨g5, 0, none⟩) (m + 1) cp5) (.int .i64 inp) (.slice (some ⟨b, off, none⟩) ls.length cl) (.slice aa xs.length ca) (.slice ab bs.length cb)) := HT2.out.more hv5 hg5; clear hv5 hg5)
      go_roundw
      case rel => exact ⟨_, m + 1, cp5, k + 1, by omega, by go_num, rfl, by show (initsL ls (k + 1)).length = m + 1; rw [HS.out, List.length_append, hm.out]; rfl, by rw [HS.out]; exact S5.out⟩
      case measure => simp [intOf]; omega
    · obtain rfl : k = ls.length := by omega
      have HST := hS
      rw [initsL_all] at HST hm
      have HST2 : Hid (Sst w wr (ls.map Prod.snd) (.slice a m cp) (.int .i64 inp) (.slice al ls.length cl) (.slice aa xs.length ca) (.slice ab bs.length cb)) := HST
      clear hS HST
      go_wp2
      go_ret
      exact ⟨a, m, cp, rfl, hm.out, HST2.out.row, HST2.out.bel⟩

end Go.Proofs.Ytbdjdgamnnifjaa

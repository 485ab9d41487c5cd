/-
  Copies of what comes in: toIntS, toIntSS, toCnf.
-/
import Derived.Test.YtidkijffdgdnlaaBase
namespace Go.Proofs.Ytidkijffdgdnlaa
open Go.RowKit Go.Deep

/-- Of the copy, so many cells are filled. -/
def part (xs : List Int) (k : Nat) : Nat → Value := fun i => if i < k then .int .i64 (xs.getD i 0) else .int .i64 0

theorem part_set {w : World} {b : Nat} {t : TypeId} {n : Nat} {xs : List Int} {k : Nat} (h : w.rowIs b t n (part xs k)) : (w.setCell ⟨b, k, none⟩ (.int .i64 (xs.getD k 0))).rowIs b t n (part xs (k + 1)) := by
  refine (h.set k _).congr (fun i _ => ?_)
  unfold part
  by_cases e : i = k
  · subst e; simp
  · rw [if_neg e]
    by_cases hlt : i < k
    · rw [if_pos hlt, if_pos (by omega)]
    · rw [if_neg hlt, if_neg (by omega)]

set_option maxHeartbeats 1000000 in
theorem toIntS_any (v : Value) (xs : List Int) (w : World) (hv : IsInts w v xs) (hn : xs.length ≤ 1048576) :
    Calls Try.prog 27 #[v] w fun e w' => e = .returned (.slice (some ⟨w.heap.size, 0, none⟩) xs.length xs.length) ∧ Below w.heap.size w w' ∧ w'.heap.size = w.heap.size + 1 ∧ w'.rowIs w.heap.size 3 xs.length (fun i => .int .i64 (xs.getD i 0)) := by
  obtain ⟨ao, cap, rfl, hv⟩ := hv
  generalize hN : xs.length = n at *
  have hmk := run_make_row' (P := Try.prog) 39 3 (.int .i64 0) 8 Try.underlying39 info_int rfl .i64 .i64 n (by omega) (by omega)
  have HN : Hid (xs.length = n) := hN
  clear hN
  by_cases hne : 0 < n
  · obtain ⟨b, off, rfl, hc⟩ := hv (by intro e; have := HN.out; subst e; simp at this; omega)
    have HC : Hid (∀ i, i < n → w.cell? ⟨b, off + i, none⟩ = some (.int .i64 (xs.getD i 0))) := hc
    clear hc hv
    go_enter Try.func27, Try.ntmps27
    go_wp2
    go_loopw [4] (fun i wr => ∃ k : Nat, k ≤ n ∧ i = .int .i64 k ∧ Below w.heap.size w wr ∧ wr.heap.size = w.heap.size + 1 ∧ wr.rowIs w.heap.size 3 n (part xs k)) (fun i _ => n - (intOf i).toNat)
    case atStart => exact ⟨0, Nat.zero_le _, rfl, (Below.refl _ _).alloc (Nat.le_refl _) _, by simp, (World.rowIs_made w _ n 3).congr (fun j _ => by simp [part])⟩
    case round =>
      obtain ⟨k, hk, rfl, hb, hsz, hrow⟩ := hrel
      by_cases hlt : k < n
      · have hcell := HC.out k hlt
        have hc1 : wr.cell? ⟨b, off + k, none⟩ = some (.int .i64 (xs.getD k 0)) := (hb.cell (cell_lt hcell)).trans hcell
        have hc2 := hrow.cell hlt
        have hfz := hrow.frozen k
        have hstep := part_set hrow
        have HB : Hid (Below w.heap.size w wr) := hb
        have HS : Hid (wr.heap.size = w.heap.size + 1) := hsz
        have HST : Hid ((wr.setCell ⟨w.heap.size, k, none⟩ (.int .i64 (xs.getD k 0))).rowIs w.heap.size 3 n (part xs (k + 1))) := hstep
        clear hcell hrow hb hsz hstep
        generalize xs.getD k 0 = x at *
        go_wp2
        go_roundw
        case rel => exact ⟨k + 1, by omega, by go_num, HB.out.setCell (Nat.le_refl _) _, by simp [HS.out], HST.out⟩
        case measure => simp [intOf]; omega
      · have hrow' : wr.rowIs w.heap.size 3 n (fun i => .int .i64 (xs.getD i 0)) := hrow.congr (fun i hi => by unfold part; rw [if_pos (by omega)])
        go_wp2
        go_ret
        exact ⟨rfl, hb, hsz, hrow'⟩
  · go_enter Try.func27, Try.ntmps27
    go_wp2
    go_rounds 1
    go_ret
    exact ⟨rfl, (Below.refl _ _).alloc (Nat.le_refl _) _, by simp, (World.rowIs_made w _ n 3).congr (fun j _ => by omega)⟩

/-- A copy of lists of numbers: from block B on, the rows behind it. -/
structure Copy (w : World) (B : Nat) (xss : List (List Int)) : Prop where
  top : w.rowIs B 39 xss.length (fun i => .slice (some ⟨B + 1 + i, 0, none⟩) (xss.getD i []).length (xss.getD i []).length)
  rows : ∀ i, i < xss.length → w.rowIs (B + 1 + i) 3 (xss.getD i []).length (fun j => .int .i64 ((xss.getD i []).getD j 0))

theorem IsInts.of_row {w : World} {b : Nat} {xs : List Int} (h : w.rowIs b 3 xs.length (fun j => .int .i64 (xs.getD j 0))) : IsInts w (.slice (some ⟨b, 0, none⟩) xs.length xs.length) xs :=
  ⟨_, _, rfl, fun _ => ⟨b, 0, rfl, fun i hi => by rw [Nat.zero_add]; exact h.cell hi⟩⟩

theorem Copy.isRows {w : World} {B : Nat} {xss : List (List Int)} (h : Copy w B xss) : IsRows w (.slice (some ⟨B, 0, none⟩) xss.length xss.length) xss :=
  ⟨_, _, rfl, fun _ => ⟨B, 0, rfl, fun i hi => ⟨_, by rw [Nat.zero_add]; exact h.top.cell hi, IsInts.of_row (h.rows i hi)⟩⟩⟩

theorem Copy.below {w w' : World} {B : Nat} {xss : List (List Int)} (h : Copy w B xss) (hb : Below w.heap.size w w') : Copy w' B xss :=
  ⟨h.top.of_block (hb.block _ h.top.lt), fun i hi => (h.rows i hi).of_block (hb.block _ (h.rows i hi).lt)⟩

theorem Copy.setBelow {w : World} {B : Nat} {xss : List (List Int)} (h : Copy w B xss) {a : Addr} (ha : a.block < B) (u : Value) : Copy (w.setCell a u) B xss :=
  ⟨h.top.setOther (by omega) u, fun i hi => (h.rows i hi).setOther (by omega) u⟩

/-- Of the copy, so many rows are there. -/
def top (B : Nat) (xss : List (List Int)) (k : Nat) : Nat → Value := fun i => if i < k then .slice (some ⟨B + 1 + i, 0, none⟩) (xss.getD i []).length (xss.getD i []).length else .slice none 0 0

theorem top_set {w : World} {B : Nat} {t : TypeId} {n : Nat} {xss : List (List Int)} {k : Nat} (h : w.rowIs B t n (top B xss k)) :
    (w.setCell ⟨B, k, none⟩ (.slice (some ⟨B + 1 + k, 0, none⟩) (xss.getD k []).length (xss.getD k []).length)).rowIs B t n (top B xss (k + 1)) := by
  refine (h.set k _).congr (fun i _ => ?_)
  unfold top
  by_cases e : i = k
  · subst e; simp
  · rw [if_neg e]
    by_cases hlt : i < k
    · rw [if_pos hlt, if_pos (by omega)]
    · rw [if_neg hlt, if_neg (by omega)]

/-- What holds when so many rows are copied. -/
structure Half (w wr : World) (xss : List (List Int)) (k : Nat) : Prop where
  bel : Below w.heap.size w wr
  size : wr.heap.size = w.heap.size + 1 + k
  top : wr.rowIs w.heap.size 39 xss.length (top w.heap.size xss k)
  rows : ∀ i, i < k → wr.rowIs (w.heap.size + 1 + i) 3 (xss.getD i []).length (fun j => .int .i64 ((xss.getD i []).getD j 0))

theorem half_step {w wr w1 : World} {xss : List (List Int)} {k : Nat} (h : Half w wr xss k) (hb : Below wr.heap.size wr w1) (hs : w1.heap.size = wr.heap.size + 1)
    (hr : w1.rowIs wr.heap.size 3 (xss.getD k []).length (fun j => .int .i64 ((xss.getD k []).getD j 0))) :
    Half w (w1.setCell ⟨w.heap.size, k, none⟩ (.slice (some ⟨wr.heap.size, 0, none⟩) (xss.getD k []).length (xss.getD k []).length)) xss (k + 1) := by
  have hz := h.size
  refine ⟨(h.bel.trans (hb.mono (by omega))).setCell (Nat.le_refl _) _, by simp [hs, hz]; omega, ?_, fun i hi => ?_⟩
  · rw [hz]
    exact top_set (h.top.of_block (hb.block _ (by omega)))
  · by_cases e : i = k
    · subst e
      rw [hz] at hr
      exact hr.setOther (by show w.heap.size + 1 + i ≠ w.heap.size; omega) _
    · exact ((h.rows i (by omega)).of_block (hb.block _ (by omega))).setOther (by show w.heap.size + 1 + i ≠ w.heap.size; omega) _

set_option maxHeartbeats 1000000 in
theorem toIntSS_any (v : Value) (xss : List (List Int)) (w : World) (hv : IsRows w v xss) (hn : xss.length + sumLen xss ≤ 1048576) :
    Calls Try.prog 20 #[v] w fun e w' => e = .returned (.slice (some ⟨w.heap.size, 0, none⟩) xss.length xss.length) ∧ Below w.heap.size w w' ∧ w'.heap.size = w.heap.size + 1 + xss.length ∧ Copy w' w.heap.size xss := by
  have HV : Hid (IsRows w v xss) := hv
  obtain ⟨ao, cap, rfl, hv⟩ := hv
  have hw : ∀ i, i < xss.length → (xss.getD i []).length ≤ 1048576 := fun i hi => by have := row_le xss i hi; omega
  have HW : Hid (∀ i, i < xss.length → (xss.getD i []).length ≤ 1048576) := hw
  clear hw
  have HD : Hid (∀ k wr, Half w wr xss k → xss.length ≤ k → Copy wr w.heap.size xss) := fun k wr h hk =>
    ⟨h.top.congr (fun i hi => by unfold top; rw [if_pos (by omega)]), fun i hi => h.rows i (by omega)⟩
  have HA : Hid (Half w (w.alloc (.cells (madeCells #[.slice none 0 0] xss.length) 39)) xss 0) :=
    ⟨(Below.refl _ _).alloc (Nat.le_refl _) _, by simp, (World.rowIs_made w _ xss.length 39).congr (fun j _ => by simp [top]), fun i hi => by omega⟩
  generalize hN : xss.length = n at *
  have hmk := run_make_row' (P := Try.prog) 22 39 (.slice none 0 0) 24 Try.underlying22 info_ints rfl .i64 .i64 n (by omega) (by omega)
  have HN : Hid (xss.length = n) := hN
  clear hN
  by_cases hne : 0 < n
  · obtain ⟨b, off, rfl, hc⟩ := hv (by intro e; have := HN.out; subst e; simp at this; omega)
    have HC : Hid (∀ i, i < n → ∃ r, w.cell? ⟨b, off + i, none⟩ = some r ∧ IsInts w r (xss.getD i [])) := hc
    clear hc hv
    go_enter Try.func20, Try.ntmps20
    go_wp2
    go_loopw [4] (fun i wr => ∃ k : Nat, k ≤ n ∧ i = .int .i64 k ∧ Half w wr xss k) (fun i _ => n - (intOf i).toNat)
    case atStart => exact ⟨0, Nat.zero_le _, rfl, HA.out⟩
    case round =>
      obtain ⟨k, hk, rfl, hf⟩ := hrel
      by_cases hlt : k < n
      · obtain ⟨r, hcell, hints⟩ := HC.out k hlt
        have hc1 : wr.cell? ⟨b, off + k, none⟩ = some r := (hf.bel.cell (cell_lt hcell)).trans hcell
        have hi1 : Hid (IsInts wr r (xss.getD k [])) := hints.below hf.bel
        have hm := HW.out k hlt
        obtain ⟨a1, c1, rfl, _⟩ := hints
        have HF : Hid (Half w wr xss k) := hf
        have hsz : w.heap.size < wr.heap.size := by have := hf.size; omega
        clear hcell hf
        go_wp2_with fail
        refine (toIntS_any _ (xss.getD k []) _ hi1.out (by omega)).mono ?_
        rintro e w1 ⟨rfl, hb1, hs1, hr1⟩
        have hst := half_step HF.out hb1 hs1 hr1
        have hcB : ∃ u, w1.cell? ⟨w.heap.size, k, none⟩ = some u := ⟨_, (HF.out.top.of_block (hb1.block _ hsz)).cell (by rw [HN.out]; exact hlt)⟩
        have hfB : w1.frozen? ⟨w.heap.size, k, none⟩ = false := (HF.out.top.of_block (hb1.block _ hsz)).frozen k
        have HST : Hid (Half w (w1.setCell ⟨w.heap.size, k, none⟩ (.slice (some ⟨wr.heap.size, 0, none⟩) (xss.getD k []).length (xss.getD k []).length)) xss (k + 1)) := hst
        obtain ⟨u, hu⟩ := hcB
        clear hst hb1 hs1 hr1 hi1
        go_wp2
        go_roundw
        case rel => exact ⟨k + 1, by omega, by go_num, HST.out⟩
        case measure => simp [intOf]; omega
      · have hd := HD.out k wr hf (by omega)
        have hb := hf.bel
        have hs : wr.heap.size = w.heap.size + 1 + n := by have := hf.size; omega
        go_wp2
        go_ret
        exact ⟨rfl, hb, hs, hd⟩
  · have hd := HD.out 0 _ HA.out (by omega)
    go_enter Try.func20, Try.ntmps20
    go_wp2
    go_rounds 1
    go_ret
    exact ⟨rfl, HA.out.bel, by simp [HA.out.size]; omega, hd⟩

set_option maxHeartbeats 1000000 in
theorem toCnf_any (vars : Int) (v : Value) (xss : List (List Int)) (w : World) (hv : IsRows w v xss) (hn : xss.length + sumLen xss ≤ 1048576) :
    Calls Try.prog 8 #[.agg #[.int .i64 vars, v]] w fun e w' => e = .returned (.agg #[.int .i64 vars, .slice (some ⟨w.heap.size + 3, 0, none⟩) xss.length xss.length]) ∧ Below w.heap.size w w' ∧ Copy w' (w.heap.size + 3) xss := by
  have HV : Hid (∀ w', Below w.heap.size w w' → IsRows w' v xss) := fun w' h => hv.below h
  obtain ⟨ao, cap, rfl, _⟩ := hv
  go_enter Try.func8, Try.ntmps8
  go_wp2_with fail
  refine (toIntSS_any _ xss _ (HV.out _ ((((Below.refl _ _).alloc (Nat.le_refl _) _).alloc (by simp) _).alloc (by simp; omega) _)) hn).mono ?_
  rintro e w1 ⟨rfl, hb1, hs1, hcp⟩
  obtain ⟨hc, hf⟩ := bcell hb1
  have hz : w.heap.size + 1 + 1 < w1.heap.size := by have := hb1.size; simp at this; omega
  simp only [World.size_alloc] at hc hf hcp
  have HB : Hid (Below w.heap.size w w1) := ((((Below.refl _ _).alloc (Nat.le_refl _) _).alloc (by simp) _).alloc (by simp; omega) _).trans (hb1.mono (by simp; omega))
  have HCP : Hid (Copy w1 (w.heap.size + 1 + 1 + 1) xss) := hcp
  clear hb1 hs1 hcp
  go_wp2
  refine bodyPost_ret (v := .agg #[.int .i64 vars, .slice (some ⟨w.heap.size + 1 + 1 + 1, 0, none⟩) xss.length xss.length]) (by simp [results, Try.results8, go_sem, hc]) rfl ⟨rfl, ?_, ?_⟩
  · exact ((HB.out.setCell (by show w.heap.size ≤ w.heap.size + 1 + 1; omega) _).setCell (by show w.heap.size ≤ w.heap.size + 1; omega) _).setCell (by show w.heap.size ≤ w.heap.size + 1; omega) _
  · exact ((HCP.out.setBelow (by show w.heap.size + 1 + 1 < w.heap.size + 1 + 1 + 1; omega) _).setBelow (by show w.heap.size + 1 < w.heap.size + 1 + 1 + 1; omega) _).setBelow (by show w.heap.size + 1 < w.heap.size + 1 + 1 + 1; omega) _

end Go.Proofs.Ytidkijffdgdnlaa

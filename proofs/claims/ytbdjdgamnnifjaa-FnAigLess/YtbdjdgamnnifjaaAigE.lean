/-
  Copies of circuits that come in: toLatchS, toAndS, toIntS, toAig.
-/
import Derived.Test.YtbdjdgamnnifjaaAigD
namespace Go.Proofs.Ytbdjdgamnnifjaa
open Go.RowKit Go.Deep
set_option linter.unusedVariables false

/-- Two cells an element. -/
def two (f0 f1 : Nat → Value) : Nat → Value := fun i => if i % 2 = 0 then f0 (i / 2) else f1 (i / 2)

theorem two_even (f0 f1 : Nat → Value) (k : Nat) : two f0 f1 (k * 2) = f0 k := by
  unfold two; rw [if_pos (by omega)]; congr 1; omega
theorem two_odd (f0 f1 : Nat → Value) (k : Nat) : two f0 f1 (k * 2 + 1) = f1 k := by
  unfold two; rw [if_neg (by omega)]; congr 1; omega
theorem two_congr {f0 f1 g0 g1 : Nat → Value} {n : Nat} (h0 : ∀ i, i < n → f0 i = g0 i) (h1 : ∀ i, i < n → f1 i = g1 i) : ∀ i, i < n * 2 → two f0 f1 i = two g0 g1 i := fun i hi => by
  unfold two
  split
  · exact h0 _ (by omega)
  · exact h1 _ (by omega)

/-- Of a copy, so many elements are filled. -/
def upTo (k : Nat) (f : Nat → Value) (z : Value) : Nat → Value := fun i => if i < k then f i else z

theorem upTo_set {w : World} {b : Nat} {t : TypeId} {n k : Nat} {f0 f1 : Nat → Value} {z0 z1 : Value} (h : w.rowIs b t (n * 2) (two (upTo k f0 z0) (upTo k f1 z1))) :
    ((w.setCell ⟨b, k * 2, none⟩ (f0 k)).setCell ⟨b, k * 2 + 1, none⟩ (f1 k)).rowIs b t (n * 2) (two (upTo (k + 1) f0 z0) (upTo (k + 1) f1 z1)) := by
  refine ((h.set (k * 2) (f0 k)).set (k * 2 + 1) (f1 k)).congr (fun i _ => ?_)
  by_cases e1 : i = k * 2 + 1
  · subst e1
    rw [if_pos rfl, two_odd]
    unfold upTo
    rw [if_pos (by omega)]
  · rw [if_neg e1]
    by_cases e0 : i = k * 2
    · subst e0
      rw [if_pos rfl, two_even]
      unfold upTo
      rw [if_pos (by omega)]
    · rw [if_neg e0]
      unfold two upTo
      by_cases hp : i % 2 = 0
      · rw [if_pos hp, if_pos hp]
        by_cases hlt : i / 2 < k
        · rw [if_pos hlt, if_pos (by omega)]
        · rw [if_neg hlt, if_neg (by omega)]
      · rw [if_neg hp, if_neg hp]
        by_cases hlt : i / 2 < k
        · rw [if_pos hlt, if_pos (by omega)]
        · rw [if_neg hlt, if_neg (by omega)]

theorem rowIs_made2 (w : World) (z0 z1 : Value) (n : Nat) (t : TypeId) : (w.alloc (.cells (madeCells #[z0, z1] (n * 2)) t)).rowIs w.heap.size t (n * 2) (two (fun _ => z0) (fun _ => z1)) := by
  refine ⟨_, blk_alloc_new _ _, size_madeCells _ _, fun i hi => ?_⟩
  simp only [madeCells, two]
  rcases Nat.mod_two_eq_zero_or_one i with h | h <;> simp [h, hi]

theorem run_make_two {P : Program} (t e : TypeId) (z0 z1 : Value) (bytes : Nat) (ht : P.underlying t = some (.slice e)) (hinfo : (P.info? e).map (fun i => (i.zero, i.size, i.bytes)) = some (some (.agg #[z0, z1]), 2, bytes))
    (n : Nat) (hbytes : bytes * n ≤ 281474976710656) (h63 : n ≤ 9223372036854775807) (w : World) :
    (Instr.makeSlice t (.int .i64 (n : Int)) (.int .i64 (n : Int))).run P w = .ok (.slice (some ⟨w.heap.size, 0, none⟩) n n) (w.alloc (.cells (madeCells #[z0, z1] (n * 2)) e)) := by
  obtain ⟨i, hi, hzz⟩ := Option.map_eq_some_iff.1 hinfo
  simp only [Prod.mk.injEq] at hzz
  obtain ⟨hz, hs, hb⟩ := hzz
  have hb' : (i.bytes : Int) * (n : Int) ≤ 281474976710656 := by
    have h : ((i.bytes * n : Nat) : Int) ≤ 281474976710656 := by rw [hb]; omega
    rwa [Int.natCast_mul] at h
  have hr := run_make (P := P) w t e i _ ht hi hz .i64 .i64 n n (by omega) (Int.le_refl _) hb' (by omega)
  simp only [Int.toNat_natCast, hs, Value.cells] at hr
  exact hr

theorem info_and : (Try.prog.info? 65).map (fun i => (i.zero, i.size, i.bytes)) = some (some (.agg #[.int .i64 0, .int .i64 0]), 2, 16) := by kernel_rfl
theorem info_latch : (Try.prog.info? 86).map (fun i => (i.zero, i.size, i.bytes)) = some (some (.agg #[.int .i64 0, .bool false]), 2, 16) := by kernel_rfl

def andF (xs : List (Int × Int)) : Nat → Value := two (fun i => .int .i64 (xs.getD i (0, 0)).1) (fun i => .int .i64 (xs.getD i (0, 0)).2)
def latchF (ls : List (Int × Bool)) : Nat → Value := two (fun i => .int .i64 (ls.getD i (0, false)).1) (fun i => .bool (ls.getD i (0, false)).2)

theorem IsAnds.of_row {w : World} {b : Nat} {xs : List (Int × Int)} (h : w.rowIs b 65 (xs.length * 2) (andF xs)) : IsAnds w (.slice (some ⟨b, 0, none⟩) xs.length xs.length) xs :=
  ⟨_, _, rfl, fun _ => ⟨b, 0, rfl, fun i hi => by
    have h0 := h.cell (i := i * 2) (by omega)
    have h1 := h.cell (i := i * 2 + 1) (by omega)
    unfold andF at h0 h1
    rw [two_even] at h0
    rw [two_odd] at h1
    exact ⟨by rw [Nat.zero_add]; exact h0, by rw [Nat.zero_add]; exact h1⟩⟩⟩
theorem IsLatches.of_row {w : World} {b : Nat} {ls : List (Int × Bool)} (h : w.rowIs b 86 (ls.length * 2) (latchF ls)) : IsLatches w (.slice (some ⟨b, 0, none⟩) ls.length ls.length) ls :=
  ⟨_, _, rfl, fun _ => ⟨b, 0, rfl, fun i hi => by
    have h0 := h.cell (i := i * 2) (by omega)
    have h1 := h.cell (i := i * 2 + 1) (by omega)
    unfold latchF at h0 h1
    rw [two_even] at h0
    rw [two_odd] at h1
    exact ⟨by rw [Nat.zero_add]; exact h0, by rw [Nat.zero_add]; exact h1⟩⟩⟩

set_option maxHeartbeats 1000000 in
theorem toAnd_any (a : Int) (b : Int) (w : World) :
    Calls Try.prog 95 #[.agg #[.int .i64 a, .int .i64 b]] w fun e w' => e = .returned (.agg #[.int .i64 a, .int .i64 b]) ∧ Below w.heap.size w w' := by
  go_enter Try.func95, Try.ntmps95
  go_wp2
  refine bodyPost_ret (v := .agg #[.int .i64 a, .int .i64 b]) (by simp [results, Try.results95, go_sem]) rfl ⟨rfl, ?_⟩
  exact belNext (belNext (belOne _ _) (belOne _ _)) (belOne _ _)

set_option maxHeartbeats 2000000 in
theorem toAndS_any (v : Value) (xs : List (Int × Int)) (w : World) (hv : IsAnds w v xs) (hn : xs.length ≤ 1048576) :
    Calls Try.prog 53 #[v] w fun e w' => e = .returned (.slice (some ⟨w.heap.size, 0, none⟩) xs.length xs.length) ∧ Below w.heap.size w w' ∧ w'.rowIs w.heap.size 65 (xs.length * 2) (andF xs) := by
  obtain ⟨ao, cap, rfl, hv⟩ := hv
  have hmk := run_make_two (P := Try.prog) 31 65 (.int .i64 0) (.int .i64 0) 16 Try.underlying31 info_and xs.length (by omega) (by omega)
  have HA : Hid ((w.alloc (.cells (madeCells #[.int .i64 0, (.int .i64 0)] (xs.length * 2)) 65)).rowIs w.heap.size 65 (xs.length * 2) (two (upTo 0 (fun i => .int .i64 (xs.getD i (0, 0)).1) (.int .i64 0)) (upTo 0 (fun i => .int .i64 (xs.getD i (0, 0)).2) (.int .i64 0)))) := (rowIs_made2 w _ _ xs.length _).congr (two_congr (fun i _ => by simp [upTo]) (fun i _ => by simp [upTo]))
  have HD : Hid (∀ wr : World, ∀ k, xs.length ≤ k → wr.rowIs w.heap.size 65 (xs.length * 2) (two (upTo k (fun i => .int .i64 (xs.getD i (0, 0)).1) (.int .i64 0)) (upTo k (fun i => .int .i64 (xs.getD i (0, 0)).2) (.int .i64 0))) → wr.rowIs w.heap.size 65 (xs.length * 2) (andF xs)) := fun wr k hk h =>
    h.congr (two_congr (fun i hi => by unfold upTo; rw [if_pos (by omega)]) (fun i hi => by unfold upTo; rw [if_pos (by omega)]))
  by_cases hne : 0 < xs.length
  · obtain ⟨b, off, rfl, hc⟩ := hv (by intro e; subst e; simp at hne)
    have HC : Hid (∀ i, i < xs.length → w.cell? ⟨b, off + i * 2, none⟩ = some (.int .i64 (xs.getD i (0, 0)).1) ∧ w.cell? ⟨b, off + i * 2 + 1, none⟩ = some (.int .i64 (xs.getD i (0, 0)).2)) := hc
    clear hc hv
    go_enter Try.func53, Try.ntmps53
    go_wp2
    go_loopw [4] (fun i wr => ∃ k : Nat, k ≤ xs.length ∧ i = .int .i64 k ∧ Below w.heap.size w wr ∧ wr.rowIs w.heap.size 65 (xs.length * 2) (two (upTo k (fun i => .int .i64 (xs.getD i (0, 0)).1) (.int .i64 0)) (upTo k (fun i => .int .i64 (xs.getD i (0, 0)).2) (.int .i64 0)))) (fun i _ => xs.length - (intOf i).toNat)
    case atStart => exact ⟨0, Nat.zero_le _, rfl, belOne _ _, HA.out⟩
    case round =>
      obtain ⟨k, hk, rfl, hb, hrow⟩ := hrel
      by_cases hlt : k < xs.length
      · obtain ⟨hc1, hc2⟩ := HC.out k hlt
        have hx1 := (hb.cell (cell_lt hc1)).trans hc1
        have hx2 := (hb.cell (cell_lt hc2)).trans hc2
        have HB : Hid (Below w.heap.size w wr) := hb
        have HRW : Hid (wr.rowIs w.heap.size 65 (xs.length * 2) (two (upTo k (fun i => .int .i64 (xs.getD i (0, 0)).1) (.int .i64 0)) (upTo k (fun i => .int .i64 (xs.getD i (0, 0)).2) (.int .i64 0)))) := hrow
        have HST : Hid (∀ w1 : World, Below wr.heap.size wr w1 → ((w1.setCell ⟨w.heap.size, k * 2, none⟩ (.int .i64 (xs.getD k (0, 0)).1)).setCell ⟨w.heap.size, k * 2 + 1, none⟩ (.int .i64 (xs.getD k (0, 0)).2)).rowIs w.heap.size 65 (xs.length * 2) (two (upTo (k + 1) (fun i => .int .i64 (xs.getD i (0, 0)).1) (.int .i64 0)) (upTo (k + 1) (fun i => .int .i64 (xs.getD i (0, 0)).2) (.int .i64 0)))) := fun w1 h1 =>
          upTo_set (f0 := fun i => .int .i64 (xs.getD i (0, 0)).1) (f1 := fun i => .int .i64 (xs.getD i (0, 0)).2) (hrow.of_block (h1.block _ hrow.lt))
        have hrl := hrow.lt
        have hsz : w.heap.size ≤ wr.heap.size := hb.size
        clear hb hrow hc1 hc2
        generalize xs.getD k (0, 0) = q at *
        obtain ⟨q1, q2⟩ := q
        have hx1' : wr.cell? ⟨b, off + k * 2, none⟩ = some (.int .i64 q1) := hx1
        have hx2' : wr.cell? ⟨b, off + k * 2 + 1, none⟩ = some (.int .i64 q2) := hx2
        clear hx1 hx2
        go_wp2_with fail
        refine (toAnd_any q1 q2 _).mono ?_
        rintro e w1 ⟨rfl, hb1⟩
        have HST1 := HST.out w1 hb1
        have hw1 := HRW.out.of_block (hb1.block _ hrl)
        have d0 := hw1.cell (i := k * 2) (by omega)
        have d1 := hw1.cell (i := k * 2 + 1) (by omega)
        have d2 := hw1.frozen (k * 2)
        have d3 := hw1.frozen (k * 2 + 1)
        have HB1 : Hid (Below w.heap.size w w1) := belNext HB.out hb1
        have HS1 : Hid (((w1.setCell ⟨w.heap.size, k * 2, none⟩ (.int .i64 q1)).setCell ⟨w.heap.size, k * 2 + 1, none⟩ (.int .i64 q2)).rowIs w.heap.size 65 (xs.length * 2) (two (upTo (k + 1) (fun i => .int .i64 (xs.getD i (0, 0)).1) (.int .i64 0)) (upTo (k + 1) (fun i => .int .i64 (xs.getD i (0, 0)).2) (.int .i64 0)))) := HST1
        clear hb1 HST1 hw1 hx1' hx2'
        go_wp2
        go_roundw
        case rel => exact ⟨k + 1, by omega, by go_num, (HB1.out.setCell (p := ⟨w.heap.size, k * 2, none⟩) (Nat.le_refl _) _).setCell (p := ⟨w.heap.size, k * 2 + 1, none⟩) (Nat.le_refl _) _, HS1.out⟩
        case measure => simp [intOf]; omega
      · have hd := HD.out wr k (by omega) hrow
        go_wp2
        go_ret
        exact ⟨rfl, hb, hd⟩
  · have hd := HD.out _ 0 (by omega) HA.out
    go_enter Try.func53, Try.ntmps53
    go_wp2
    go_rounds 1
    go_ret
    exact ⟨rfl, belOne _ _, hd⟩

set_option maxHeartbeats 1000000 in
theorem toLatch_any (a : Int) (b : Bool) (w : World) :
    Calls Try.prog 94 #[.agg #[.int .i64 a, .bool b]] w fun e w' => e = .returned (.agg #[.int .i64 a, .bool b]) ∧ Below w.heap.size w w' := by
  go_enter Try.func94, Try.ntmps94
  go_wp2
  refine bodyPost_ret (v := .agg #[.int .i64 a, .bool b]) (by simp [results, Try.results94, go_sem]) rfl ⟨rfl, ?_⟩
  exact belNext (belNext (belOne _ _) (belOne _ _)) (belOne _ _)

set_option maxHeartbeats 2000000 in
theorem toLatchS_any (v : Value) (xs : List (Int × Bool)) (w : World) (hv : IsLatches w v xs) (hn : xs.length ≤ 1048576) :
    Calls Try.prog 52 #[v] w fun e w' => e = .returned (.slice (some ⟨w.heap.size, 0, none⟩) xs.length xs.length) ∧ Below w.heap.size w w' ∧ w'.rowIs w.heap.size 86 (xs.length * 2) (latchF xs) := by
  obtain ⟨ao, cap, rfl, hv⟩ := hv
  have hmk := run_make_two (P := Try.prog) 30 86 (.int .i64 0) (.bool false) 16 Try.underlying30 info_latch xs.length (by omega) (by omega)
  have HA : Hid ((w.alloc (.cells (madeCells #[.int .i64 0, (.bool false)] (xs.length * 2)) 86)).rowIs w.heap.size 86 (xs.length * 2) (two (upTo 0 (fun i => .int .i64 (xs.getD i (0, false)).1) (.int .i64 0)) (upTo 0 (fun i => .bool (xs.getD i (0, false)).2) (.bool false)))) := (rowIs_made2 w _ _ xs.length _).congr (two_congr (fun i _ => by simp [upTo]) (fun i _ => by simp [upTo]))
  have HD : Hid (∀ wr : World, ∀ k, xs.length ≤ k → wr.rowIs w.heap.size 86 (xs.length * 2) (two (upTo k (fun i => .int .i64 (xs.getD i (0, false)).1) (.int .i64 0)) (upTo k (fun i => .bool (xs.getD i (0, false)).2) (.bool false))) → wr.rowIs w.heap.size 86 (xs.length * 2) (latchF xs)) := fun wr k hk h =>
    h.congr (two_congr (fun i hi => by unfold upTo; rw [if_pos (by omega)]) (fun i hi => by unfold upTo; rw [if_pos (by omega)]))
  by_cases hne : 0 < xs.length
  · obtain ⟨b, off, rfl, hc⟩ := hv (by intro e; subst e; simp at hne)
    have HC : Hid (∀ i, i < xs.length → w.cell? ⟨b, off + i * 2, none⟩ = some (.int .i64 (xs.getD i (0, false)).1) ∧ w.cell? ⟨b, off + i * 2 + 1, none⟩ = some (.bool (xs.getD i (0, false)).2)) := hc
    clear hc hv
    go_enter Try.func52, Try.ntmps52
    go_wp2
    go_loopw [4] (fun i wr => ∃ k : Nat, k ≤ xs.length ∧ i = .int .i64 k ∧ Below w.heap.size w wr ∧ wr.rowIs w.heap.size 86 (xs.length * 2) (two (upTo k (fun i => .int .i64 (xs.getD i (0, false)).1) (.int .i64 0)) (upTo k (fun i => .bool (xs.getD i (0, false)).2) (.bool false)))) (fun i _ => xs.length - (intOf i).toNat)
    case atStart => exact ⟨0, Nat.zero_le _, rfl, belOne _ _, HA.out⟩
    case round =>
      obtain ⟨k, hk, rfl, hb, hrow⟩ := hrel
      by_cases hlt : k < xs.length
      · obtain ⟨hc1, hc2⟩ := HC.out k hlt
        have hx1 := (hb.cell (cell_lt hc1)).trans hc1
        have hx2 := (hb.cell (cell_lt hc2)).trans hc2
        have HB : Hid (Below w.heap.size w wr) := hb
        have HRW : Hid (wr.rowIs w.heap.size 86 (xs.length * 2) (two (upTo k (fun i => .int .i64 (xs.getD i (0, false)).1) (.int .i64 0)) (upTo k (fun i => .bool (xs.getD i (0, false)).2) (.bool false)))) := hrow
        have HST : Hid (∀ w1 : World, Below wr.heap.size wr w1 → ((w1.setCell ⟨w.heap.size, k * 2, none⟩ (.int .i64 (xs.getD k (0, false)).1)).setCell ⟨w.heap.size, k * 2 + 1, none⟩ (.bool (xs.getD k (0, false)).2)).rowIs w.heap.size 86 (xs.length * 2) (two (upTo (k + 1) (fun i => .int .i64 (xs.getD i (0, false)).1) (.int .i64 0)) (upTo (k + 1) (fun i => .bool (xs.getD i (0, false)).2) (.bool false)))) := fun w1 h1 =>
          upTo_set (f0 := fun i => .int .i64 (xs.getD i (0, false)).1) (f1 := fun i => .bool (xs.getD i (0, false)).2) (hrow.of_block (h1.block _ hrow.lt))
        have hrl := hrow.lt
        have hsz : w.heap.size ≤ wr.heap.size := hb.size
        clear hb hrow hc1 hc2
        generalize xs.getD k (0, false) = q at *
        obtain ⟨q1, q2⟩ := q
        have hx1' : wr.cell? ⟨b, off + k * 2, none⟩ = some (.int .i64 q1) := hx1
        have hx2' : wr.cell? ⟨b, off + k * 2 + 1, none⟩ = some (.bool q2) := hx2
        clear hx1 hx2
        go_wp2_with fail
        refine (toLatch_any q1 q2 _).mono ?_
        rintro e w1 ⟨rfl, hb1⟩
        have HST1 := HST.out w1 hb1
        have hw1 := HRW.out.of_block (hb1.block _ hrl)
        have d0 := hw1.cell (i := k * 2) (by omega)
        have d1 := hw1.cell (i := k * 2 + 1) (by omega)
        have d2 := hw1.frozen (k * 2)
        have d3 := hw1.frozen (k * 2 + 1)
        have HB1 : Hid (Below w.heap.size w w1) := belNext HB.out hb1
        have HS1 : Hid (((w1.setCell ⟨w.heap.size, k * 2, none⟩ (.int .i64 q1)).setCell ⟨w.heap.size, k * 2 + 1, none⟩ (.bool q2)).rowIs w.heap.size 86 (xs.length * 2) (two (upTo (k + 1) (fun i => .int .i64 (xs.getD i (0, false)).1) (.int .i64 0)) (upTo (k + 1) (fun i => .bool (xs.getD i (0, false)).2) (.bool false)))) := HST1
        clear hb1 HST1 hw1 hx1' hx2'
        go_wp2
        go_roundw
        case rel => exact ⟨k + 1, by omega, by go_num, (HB1.out.setCell (p := ⟨w.heap.size, k * 2, none⟩) (Nat.le_refl _) _).setCell (p := ⟨w.heap.size, k * 2 + 1, none⟩) (Nat.le_refl _) _, HS1.out⟩
        case measure => simp [intOf]; omega
      · have hd := HD.out wr k (by omega) hrow
        go_wp2
        go_ret
        exact ⟨rfl, hb, hd⟩
  · have hd := HD.out _ 0 (by omega) HA.out
    go_enter Try.func52, Try.ntmps52
    go_wp2
    go_rounds 1
    go_ret
    exact ⟨rfl, belOne _ _, hd⟩

/-- Of the copy, so many cells are filled. -/
def part (xs : List Int) (k : Nat) : Nat → Value := fun i => if i < k then .int .i64 (xs.getD i 0) else .int .i64 0

theorem part_set {w : World} {b : Nat} {t : TypeId} {n : Nat} {xs : List Int} {k : Nat} (h : w.rowIs b t n (part xs k)) : (w.setCell ⟨b, k, none⟩ (.int .i64 (xs.getD k 0))).rowIs b t n (part xs (k + 1)) := by
  refine (h.set k _).congr (fun i _ => ?_)
  unfold part
  by_cases e : i = k
  · subst e; simp
  · rw [if_neg e]
    by_cases hlt : i < k
    · rw [if_pos hlt, if_pos (by omega)]
    · rw [if_neg hlt, if_neg (by omega)]

set_option maxHeartbeats 1000000 in
theorem toIntS_any (v : Value) (xs : List Int) (w : World) (hv : IsInts w v xs) (hn : xs.length ≤ 1048576) :
    Calls Try.prog 54 #[v] w fun e w' => e = .returned (.slice (some ⟨w.heap.size, 0, none⟩) xs.length xs.length) ∧ Below w.heap.size w w' ∧ w'.heap.size = w.heap.size + 1 ∧ w'.rowIs w.heap.size 3 xs.length (fun i => .int .i64 (xs.getD i 0)) := by
  obtain ⟨ao, cap, rfl, hv⟩ := hv
  generalize hN : xs.length = n at *
  have hmk := run_make_row' (P := Try.prog) 24 3 (.int .i64 0) 8 Try.underlying24 info_int rfl .i64 .i64 n (by omega) (by omega)
  have HN : Hid (xs.length = n) := hN
  clear hN
  by_cases hne : 0 < n
  · obtain ⟨b, off, rfl, hc⟩ := hv (by intro e; have := HN.out; subst e; simp at this; omega)
    have HC : Hid (∀ i, i < n → w.cell? ⟨b, off + i, none⟩ = some (.int .i64 (xs.getD i 0))) := hc
    clear hc hv
    go_enter Try.func54, Try.ntmps54
    go_wp2
    go_loopw [4] (fun i wr => ∃ k : Nat, k ≤ n ∧ i = .int .i64 k ∧ Below w.heap.size w wr ∧ wr.heap.size = w.heap.size + 1 ∧ wr.rowIs w.heap.size 3 n (part xs k)) (fun i _ => n - (intOf i).toNat)
    case atStart => exact ⟨0, Nat.zero_le _, rfl, (Below.refl _ _).alloc (Nat.le_refl _) _, by simp, (World.rowIs_made w _ n 3).congr (fun j _ => by simp [part])⟩
    case round =>
      obtain ⟨k, hk, rfl, hb, hsz, hrow⟩ := hrel
      by_cases hlt : k < n
      · have hcell := HC.out k hlt
        have hc1 : wr.cell? ⟨b, off + k, none⟩ = some (.int .i64 (xs.getD k 0)) := (hb.cell (cell_lt hcell)).trans hcell
        have hc2 := hrow.cell hlt
        have hfz := hrow.frozen k
        have hstep := part_set hrow
        have HB : Hid (Below w.heap.size w wr) := hb
        have HS : Hid (wr.heap.size = w.heap.size + 1) := hsz
        have HST : Hid ((wr.setCell ⟨w.heap.size, k, none⟩ (.int .i64 (xs.getD k 0))).rowIs w.heap.size 3 n (part xs (k + 1))) := hstep
        clear hcell hrow hb hsz hstep
        generalize xs.getD k 0 = x at *
        go_wp2
        go_roundw
        case rel => exact ⟨k + 1, by omega, by go_num, HB.out.setCell (Nat.le_refl _) _, by simp [HS.out], HST.out⟩
        case measure => simp [intOf]; omega
      · have hrow' : wr.rowIs w.heap.size 3 n (fun i => .int .i64 (xs.getD i 0)) := hrow.congr (fun i hi => by unfold part; rw [if_pos (by omega)])
        go_wp2
        go_ret
        exact ⟨rfl, hb, hsz, hrow'⟩
  · go_enter Try.func54, Try.ntmps54
    go_wp2
    go_rounds 1
    go_ret
    exact ⟨rfl, (Below.refl _ _).alloc (Nat.le_refl _) _, by simp, (World.rowIs_made w _ n 3).congr (fun j _ => by omega)⟩

theorem IsInts.of_row {w : World} {b : Nat} {xs : List Int} (h : w.rowIs b 3 xs.length (fun j => .int .i64 (xs.getD j 0))) : IsInts w (.slice (some ⟨b, 0, none⟩) xs.length xs.length) xs :=
  ⟨_, _, rfl, fun _ => ⟨b, 0, rfl, fun i hi => by rw [Nat.zero_add]; exact h.cell hi⟩⟩

/-- A circuit's three lists, each in a block of its own. -/
structure CirAt (w : World) (bl ba bb : Nat) (ls : List (Int × Bool)) (xs : List (Int × Int)) (bs : List Int) : Prop where
  rl : w.rowIs bl 86 (ls.length * 2) (latchF ls)
  ra : w.rowIs ba 65 (xs.length * 2) (andF xs)
  rb : w.rowIs bb 3 bs.length (fun i => .int .i64 (bs.getD i 0))

theorem CirAt.below {w w' : World} {bl ba bb : Nat} {ls : List (Int × Bool)} {xs : List (Int × Int)} {bs : List Int} (h : CirAt w bl ba bb ls xs bs) (hb : Below w.heap.size w w') : CirAt w' bl ba bb ls xs bs :=
  ⟨h.rl.of_block (hb.block _ h.rl.lt), h.ra.of_block (hb.block _ h.ra.lt), h.rb.of_block (hb.block _ h.rb.lt)⟩

theorem CirAt.setOther {w : World} {bl ba bb : Nat} {ls : List (Int × Bool)} {xs : List (Int × Int)} {bs : List Int} (h : CirAt w bl ba bb ls xs bs) {a : Addr} (h1 : bl ≠ a.block) (h2 : ba ≠ a.block) (h3 : bb ≠ a.block) (u : Value) : CirAt (w.setCell a u) bl ba bb ls xs bs :=
  ⟨h.rl.setOther h1 u, h.ra.setOther h2 u, h.rb.setOther h3 u⟩

theorem CirAt.isCir {w : World} {bl ba bb : Nat} {ls : List (Int × Bool)} {xs : List (Int × Int)} {bs : List Int} (h : CirAt w bl ba bb ls xs bs) (hl : ls.length ≤ 1048576) (ha : xs.length ≤ 1048576) (hb : bs.length ≤ 1048576) :
    IsCir w (some ⟨bl, 0, none⟩) (some ⟨ba, 0, none⟩) (some ⟨bb, 0, none⟩) ls.length xs.length bs.length ls xs bs :=
  ⟨IsLatches.of_row h.rl, IsAnds.of_row h.ra, IsInts.of_row h.rb, fun b off e => by cases e; exact h.rl.lt, fun b off e => by cases e; exact h.ra.lt, fun b off e => by cases e; exact h.rb.lt,
    by unfold maxLen; omega, by unfold maxLen; omega, by unfold maxLen; omega⟩

/-- A block of four cells that can be written. -/
def Own4 (w : World) (b : Nat) (t : TypeId) (a0 a1 a2 a3 : Value) : Prop := w.heap[b]? = some (.cells #[a0, a1, a2, a3] t (0, 0))

theorem Own4.lt {w : World} {b : Nat} {t : TypeId} {a0 a1 a2 a3 : Value} (h : Own4 w b t a0 a1 a2 a3) : b < w.heap.size := (Array.getElem?_eq_some_iff.1 h).1
theorem Own4.four {w : World} {b : Nat} {t : TypeId} {a0 a1 a2 a3 : Value} (h : Own4 w b t a0 a1 a2 a3) : Four w b a0 a1 a2 a3 :=
  ⟨h.lt, by simp [World.cell?, show w.heap[b]? = _ from h], by simp [World.cell?, show w.heap[b]? = _ from h], by simp [World.cell?, show w.heap[b]? = _ from h], by simp [World.cell?, show w.heap[b]? = _ from h]⟩
theorem Own4.fz {w : World} {b : Nat} {t : TypeId} {a0 a1 a2 a3 : Value} (h : Own4 w b t a0 a1 a2 a3) (i : Nat) : w.frozen? ⟨b, i, none⟩ = false := by simp [World.frozen?, show w.heap[b]? = _ from h]
theorem Own4.below {w w' : World} {b : Nat} {t : TypeId} {a0 a1 a2 a3 : Value} (h : Own4 w b t a0 a1 a2 a3) (hb : Below w.heap.size w w') : Own4 w' b t a0 a1 a2 a3 := (hb.block b h.lt).trans h
theorem Own4.new (w : World) (t : TypeId) (a0 a1 a2 a3 : Value) : Own4 (w.alloc (.cells #[a0, a1, a2, a3] t)) w.heap.size t a0 a1 a2 a3 := World.alloc_heap_new w _
theorem Own4.other {w : World} {b : Nat} {t : TypeId} {a0 a1 a2 a3 : Value} (h : Own4 w b t a0 a1 a2 a3) {a : Addr} (hne : b ≠ a.block) (u : Value) : Own4 (w.setCell a u) b t a0 a1 a2 a3 := (blk_setCell_other _ _ _ _ hne).trans h
theorem Own4.set1 {w : World} {b : Nat} {t : TypeId} {a0 a1 a2 a3 : Value} (h : Own4 w b t a0 a1 a2 a3) (u : Value) : Own4 (w.setCell ⟨b, 1, none⟩ u) b t a0 u a2 a3 := by
  unfold Own4 at *; simp [World.setCell, Array.getElem?_modify, h]
theorem Own4.set2 {w : World} {b : Nat} {t : TypeId} {a0 a1 a2 a3 : Value} (h : Own4 w b t a0 a1 a2 a3) (u : Value) : Own4 (w.setCell ⟨b, 2, none⟩ u) b t a0 a1 u a3 := by
  unfold Own4 at *; simp [World.setCell, Array.getElem?_modify, h]
theorem Own4.set3 {w : World} {b : Nat} {t : TypeId} {a0 a1 a2 a3 : Value} (h : Own4 w b t a0 a1 a2 a3) (u : Value) : Own4 (w.setCell ⟨b, 3, none⟩ u) b t a0 a1 a2 u := by
  unfold Own4 at *; simp [World.setCell, Array.getElem?_modify, h]
theorem Own4.set0 {w : World} {b : Nat} {t : TypeId} {a0 a1 a2 a3 : Value} (h : Own4 w b t a0 a1 a2 a3) (u : Value) : Own4 (w.setCell ⟨b, 0, none⟩ u) b t u a1 a2 a3 := by
  unfold Own4 at *; simp [World.setCell, Array.getElem?_modify, h]

theorem below_set {w w' : World} (h : Below w.heap.size w w') {a : Addr} (ha : w.heap.size ≤ a.block) (u : Value) : Below w.heap.size w (w'.setCell a u) := h.setCell ha u

/-- What toAig answers. -/
def CopyPost (inp : Int) (ls : List (Int × Bool)) (xs : List (Int × Int)) (bs : List Int) (w : World) (e : Ending) (w' : World) : Prop :=
  ∃ bl ba bb, e = .returned (.agg #[.int .i64 inp, .slice (some ⟨bl, 0, none⟩) ls.length ls.length, .slice (some ⟨ba, 0, none⟩) xs.length xs.length, .slice (some ⟨bb, 0, none⟩) bs.length bs.length]) ∧
    Below w.heap.size w w' ∧ w.heap.size ≤ bl ∧ bl < ba ∧ ba < bb ∧ CirAt w' bl ba bb ls xs bs

set_option maxHeartbeats 2000000 in
theorem toAig_any (inp : Int) (al aa ab : Option Addr) (cl ca cb : Nat) (ls : List (Int × Bool)) (xs : List (Int × Int)) (bs : List Int) (w : World) (hC : IsCir w al aa ab cl ca cb ls xs bs) (hl : ls.length ≤ 1048576) (ha : xs.length ≤ 1048576) (hb : bs.length ≤ 1048576) :
    Calls Try.prog 13 #[.agg #[.int .i64 inp, .slice al ls.length cl, .slice aa xs.length ca, .slice ab bs.length cb]] w (CopyPost inp ls xs bs w) := by
  have HC : Hid (∀ w', Below w.heap.size w w' → IsCir w' al aa ab cl ca cb ls xs bs) := fun w' h => hC.below h
  clear hC
  go_enter Try.func13, Try.ntmps13
  have HI0 : Hid (Own4 (((w.alloc (.cells #[.int .i64 inp, .slice al ls.length cl, .slice aa xs.length ca, .slice ab bs.length cb] 26)).alloc (.cells #[.int .i64 0, .slice none 0 0, .slice none 0 0, .slice none 0 0] 33)).alloc (.cells #[.int .i64 inp, .slice none 0 0, .slice none 0 0, .slice none 0 0] 33)) w.heap.size 26 (.int .i64 inp) (.slice al ls.length cl) (.slice aa xs.length ca) (.slice ab bs.length cb)) := ((Own4.new w _ _ _ _ _).below (belOne _ _)).below (belOne _ _)
  have HR0 : Hid (Own4 (((w.alloc (.cells #[.int .i64 inp, .slice al ls.length cl, .slice aa xs.length ca, .slice ab bs.length cb] 26)).alloc (.cells #[.int .i64 0, .slice none 0 0, .slice none 0 0, .slice none 0 0] 33)).alloc (.cells #[.int .i64 inp, .slice none 0 0, .slice none 0 0, .slice none 0 0] 33)) (w.heap.size + 1) 33 (.int .i64 0) (.slice none 0 0) (.slice none 0 0) (.slice none 0 0)) := by
    have h := (Own4.new (w.alloc (.cells #[.int .i64 inp, .slice al ls.length cl, .slice aa xs.length ca, .slice ab bs.length cb] 26)) 33 (.int .i64 0) (.slice none 0 0) (.slice none 0 0) (.slice none 0 0)).below (belOne _ (.cells #[.int .i64 inp, .slice none 0 0, .slice none 0 0, .slice none 0 0] 33))
    rw [World.size_alloc] at h
    exact h
  have HO0 : Hid (Own4 (((w.alloc (.cells #[.int .i64 inp, .slice al ls.length cl, .slice aa xs.length ca, .slice ab bs.length cb] 26)).alloc (.cells #[.int .i64 0, .slice none 0 0, .slice none 0 0, .slice none 0 0] 33)).alloc (.cells #[.int .i64 inp, .slice none 0 0, .slice none 0 0, .slice none 0 0] 33)) (w.heap.size + 1 + 1) 33 (.int .i64 inp) (.slice none 0 0) (.slice none 0 0) (.slice none 0 0)) := by
    have h := Own4.new ((w.alloc (.cells #[.int .i64 inp, .slice al ls.length cl, .slice aa xs.length ca, .slice ab bs.length cb] 26)).alloc (.cells #[.int .i64 0, .slice none 0 0, .slice none 0 0, .slice none 0 0] 33)) 33 (.int .i64 inp) (.slice none 0 0) (.slice none 0 0) (.slice none 0 0)
    rw [World.size_alloc, World.size_alloc] at h
    exact h
  have HB0 : Hid (Below w.heap.size w (((w.alloc (.cells #[.int .i64 inp, .slice al ls.length cl, .slice aa xs.length ca, .slice ab bs.length cb] 26)).alloc (.cells #[.int .i64 0, .slice none 0 0, .slice none 0 0, .slice none 0 0] 33)).alloc (.cells #[.int .i64 inp, .slice none 0 0, .slice none 0 0, .slice none 0 0] 33))) := belNext (belNext (belOne _ _) (belOne _ _)) (belOne _ _)
  go_wp2_with fail
  refine (toLatchS_any _ ls _ (HC.out _ HB0.out).isL hl).mono ?_
  rintro e w1 ⟨rfl, hb1, hr1⟩
  have HI1 : Hid (Own4 w1 w.heap.size 26 (.int .i64 inp) (.slice al ls.length cl) (.slice aa xs.length ca) (.slice ab bs.length cb)) := HI0.out.below hb1
  have HR1 : Hid (Own4 w1 (w.heap.size + 1) 33 (.int .i64 0) (.slice none 0 0) (.slice none 0 0) (.slice none 0 0)) := HR0.out.below hb1
  have HO1 : Hid (Own4 w1 (w.heap.size + 1 + 1) 33 (.int .i64 inp) (.slice none 0 0) (.slice none 0 0) (.slice none 0 0)) := HO0.out.below hb1
  have HB1 : Hid (Below w.heap.size w w1) := belNext HB0.out hb1
  simp only [World.size_alloc] at hr1 ⊢
  have HL1 : Hid (w1.rowIs (w.heap.size + 1 + 1 + 1) 86 (ls.length * 2) (latchF ls)) := hr1
  clear hb1 hr1
  have i0 := HI1.out.four.c0
  have i1 := HI1.out.four.c1
  have i2 := HI1.out.four.c2
  have i3 := HI1.out.four.c3
  have o1 := HO1.out.four.c1
  have z1 := HO1.out.fz 1
  go_wp2_with fail
  have HI2 : Hid (Own4 (w1.setCell ⟨w.heap.size + 1 + 1, 1, none⟩ (.slice (some ⟨w.heap.size + 1 + 1 + 1, 0, none⟩) ls.length ls.length)) w.heap.size 26 (.int .i64 inp) (.slice al ls.length cl) (.slice aa xs.length ca) (.slice ab bs.length cb)) := HI1.out.other (by show w.heap.size ≠ w.heap.size + 1 + 1; omega) _
  have HR2 : Hid (Own4 (w1.setCell ⟨w.heap.size + 1 + 1, 1, none⟩ (.slice (some ⟨w.heap.size + 1 + 1 + 1, 0, none⟩) ls.length ls.length)) (w.heap.size + 1) 33 (.int .i64 0) (.slice none 0 0) (.slice none 0 0) (.slice none 0 0)) := HR1.out.other (by show w.heap.size + 1 ≠ w.heap.size + 1 + 1; omega) _
  have HO2 : Hid (Own4 (w1.setCell ⟨w.heap.size + 1 + 1, 1, none⟩ (.slice (some ⟨w.heap.size + 1 + 1 + 1, 0, none⟩) ls.length ls.length)) (w.heap.size + 1 + 1) 33 (.int .i64 inp) (.slice (some ⟨w.heap.size + 1 + 1 + 1, 0, none⟩) ls.length ls.length) (.slice none 0 0) (.slice none 0 0)) := HO1.out.set1 _
  have HB2 : Hid (Below w.heap.size w (w1.setCell ⟨w.heap.size + 1 + 1, 1, none⟩ (.slice (some ⟨w.heap.size + 1 + 1 + 1, 0, none⟩) ls.length ls.length))) := below_set HB1.out (by show w.heap.size ≤ w.heap.size + 1 + 1; omega) _
  have HL2 : Hid ((w1.setCell ⟨w.heap.size + 1 + 1, 1, none⟩ (.slice (some ⟨w.heap.size + 1 + 1 + 1, 0, none⟩) ls.length ls.length)).rowIs (w.heap.size + 1 + 1 + 1) 86 (ls.length * 2) (latchF ls)) := HL1.out.setOther (by show w.heap.size + 1 + 1 + 1 ≠ w.heap.size + 1 + 1; omega) _
  clear i0 i1 i2 i3 o1 z1
  generalize w1.setCell ⟨w.heap.size + 1 + 1, 1, none⟩ (.slice (some ⟨w.heap.size + 1 + 1 + 1, 0, none⟩) ls.length ls.length) = W2 at *
  have hs2 : w.heap.size + 1 + 1 + 1 < W2.heap.size := HL2.out.lt
  refine (toAndS_any _ xs _ (HC.out _ HB2.out).isA ha).mono ?_
  rintro e w3 ⟨rfl, hb3, hr3⟩
  have HI3 : Hid (Own4 w3 w.heap.size 26 (.int .i64 inp) (.slice al ls.length cl) (.slice aa xs.length ca) (.slice ab bs.length cb)) := HI2.out.below hb3
  have HR3 : Hid (Own4 w3 (w.heap.size + 1) 33 (.int .i64 0) (.slice none 0 0) (.slice none 0 0) (.slice none 0 0)) := HR2.out.below hb3
  have HO3 : Hid (Own4 w3 (w.heap.size + 1 + 1) 33 (.int .i64 inp) (.slice (some ⟨w.heap.size + 1 + 1 + 1, 0, none⟩) ls.length ls.length) (.slice none 0 0) (.slice none 0 0)) := HO2.out.below hb3
  have HB3 : Hid (Below w.heap.size w w3) := belNext HB2.out hb3
  have HL3 : Hid (w3.rowIs (w.heap.size + 1 + 1 + 1) 86 (ls.length * 2) (latchF ls)) := HL2.out.of_block (hb3.block _ HL2.out.lt)
  have HA3 : Hid (w3.rowIs W2.heap.size 65 (xs.length * 2) (andF xs)) := hr3
  clear hb3 hr3
  have i0 := HI3.out.four.c0
  have i1 := HI3.out.four.c1
  have i2 := HI3.out.four.c2
  have i3 := HI3.out.four.c3
  have o2 := HO3.out.four.c2
  have z2 := HO3.out.fz 2
  go_wp2_with fail
  have HI4 : Hid (Own4 (w3.setCell ⟨w.heap.size + 1 + 1, 2, none⟩ (.slice (some ⟨W2.heap.size, 0, none⟩) xs.length xs.length)) w.heap.size 26 (.int .i64 inp) (.slice al ls.length cl) (.slice aa xs.length ca) (.slice ab bs.length cb)) := HI3.out.other (by show w.heap.size ≠ w.heap.size + 1 + 1; omega) _
  have HR4 : Hid (Own4 (w3.setCell ⟨w.heap.size + 1 + 1, 2, none⟩ (.slice (some ⟨W2.heap.size, 0, none⟩) xs.length xs.length)) (w.heap.size + 1) 33 (.int .i64 0) (.slice none 0 0) (.slice none 0 0) (.slice none 0 0)) := HR3.out.other (by show w.heap.size + 1 ≠ w.heap.size + 1 + 1; omega) _
  have HO4 : Hid (Own4 (w3.setCell ⟨w.heap.size + 1 + 1, 2, none⟩ (.slice (some ⟨W2.heap.size, 0, none⟩) xs.length xs.length)) (w.heap.size + 1 + 1) 33 (.int .i64 inp) (.slice (some ⟨w.heap.size + 1 + 1 + 1, 0, none⟩) ls.length ls.length) (.slice (some ⟨W2.heap.size, 0, none⟩) xs.length xs.length) (.slice none 0 0)) := HO3.out.set2 _
  have HB4 : Hid (Below w.heap.size w (w3.setCell ⟨w.heap.size + 1 + 1, 2, none⟩ (.slice (some ⟨W2.heap.size, 0, none⟩) xs.length xs.length))) := below_set HB3.out (by show w.heap.size ≤ w.heap.size + 1 + 1; omega) _
  have HL4 : Hid ((w3.setCell ⟨w.heap.size + 1 + 1, 2, none⟩ (.slice (some ⟨W2.heap.size, 0, none⟩) xs.length xs.length)).rowIs (w.heap.size + 1 + 1 + 1) 86 (ls.length * 2) (latchF ls)) := HL3.out.setOther (by show w.heap.size + 1 + 1 + 1 ≠ w.heap.size + 1 + 1; omega) _
  have HA4 : Hid ((w3.setCell ⟨w.heap.size + 1 + 1, 2, none⟩ (.slice (some ⟨W2.heap.size, 0, none⟩) xs.length xs.length)).rowIs W2.heap.size 65 (xs.length * 2) (andF xs)) := HA3.out.setOther (by show W2.heap.size ≠ w.heap.size + 1 + 1; omega) _
  clear i0 i1 i2 i3 o2 z2
  generalize (w3.setCell ⟨w.heap.size + 1 + 1, 2, none⟩ (.slice (some ⟨W2.heap.size, 0, none⟩) xs.length xs.length)) = W4 at *
  have hs4 : W2.heap.size < W4.heap.size := HA4.out.lt
  refine (toIntS_any _ bs _ (HC.out _ HB4.out).isB hb).mono ?_
  rintro e w5 ⟨rfl, hb5, _, hr5⟩
  have HI5 : Hid (Own4 w5 w.heap.size 26 (.int .i64 inp) (.slice al ls.length cl) (.slice aa xs.length ca) (.slice ab bs.length cb)) := HI4.out.below hb5
  have HR5 : Hid (Own4 w5 (w.heap.size + 1) 33 (.int .i64 0) (.slice none 0 0) (.slice none 0 0) (.slice none 0 0)) := HR4.out.below hb5
  have HO5 : Hid (Own4 w5 (w.heap.size + 1 + 1) 33 (.int .i64 inp) (.slice (some ⟨w.heap.size + 1 + 1 + 1, 0, none⟩) ls.length ls.length) (.slice (some ⟨W2.heap.size, 0, none⟩) xs.length xs.length) (.slice none 0 0)) := HO4.out.below hb5
  have HB5 : Hid (Below w.heap.size w w5) := belNext HB4.out hb5
  have HC5 : Hid (CirAt w5 (w.heap.size + 1 + 1 + 1) W2.heap.size W4.heap.size ls xs bs) := ⟨HL4.out.of_block (hb5.block _ HL4.out.lt), HA4.out.of_block (hb5.block _ HA4.out.lt), hr5⟩
  clear hb5 hr5
  have i0 := HI5.out.four.c0
  have i1 := HI5.out.four.c1
  have i2 := HI5.out.four.c2
  have i3 := HI5.out.four.c3
  have o0 := HO5.out.four.c0
  have o1 := HO5.out.four.c1
  have o2 := HO5.out.four.c2
  have o3 := HO5.out.four.c3
  have z3 := HO5.out.fz 3
  have r0 := HR5.out.four.c0
  have r1 := HR5.out.four.c1
  have r2 := HR5.out.four.c2
  have r3 := HR5.out.four.c3
  have y0 := HR5.out.fz 0
  have y1 := HR5.out.fz 1
  have y2 := HR5.out.fz 2
  have y3 := HR5.out.fz 3
  go_wp2
  have HR6 : Own4 (((((w5.setCell ⟨w.heap.size + 1 + 1, 3, none⟩ (.slice (some ⟨W4.heap.size, 0, none⟩) bs.length bs.length)).setCell ⟨w.heap.size + 1, 0, none⟩ (.int .i64 inp)).setCell ⟨w.heap.size + 1, 1, none⟩ (.slice (some ⟨w.heap.size + 1 + 1 + 1, 0, none⟩) ls.length ls.length)).setCell ⟨w.heap.size + 1, 2, none⟩ (.slice (some ⟨W2.heap.size, 0, none⟩) xs.length xs.length)).setCell ⟨w.heap.size + 1, 3, none⟩ (.slice (some ⟨W4.heap.size, 0, none⟩) bs.length bs.length)) (w.heap.size + 1) 33 (.int .i64 inp) (.slice (some ⟨w.heap.size + 1 + 1 + 1, 0, none⟩) ls.length ls.length) (.slice (some ⟨W2.heap.size, 0, none⟩) xs.length xs.length) (.slice (some ⟨W4.heap.size, 0, none⟩) bs.length bs.length) := ((((HR5.out.other (by show w.heap.size + 1 ≠ w.heap.size + 1 + 1; omega) _).set0 _).set1 _).set2 _).set3 _
  have HC6 : CirAt (((((w5.setCell ⟨w.heap.size + 1 + 1, 3, none⟩ (.slice (some ⟨W4.heap.size, 0, none⟩) bs.length bs.length)).setCell ⟨w.heap.size + 1, 0, none⟩ (.int .i64 inp)).setCell ⟨w.heap.size + 1, 1, none⟩ (.slice (some ⟨w.heap.size + 1 + 1 + 1, 0, none⟩) ls.length ls.length)).setCell ⟨w.heap.size + 1, 2, none⟩ (.slice (some ⟨W2.heap.size, 0, none⟩) xs.length xs.length)).setCell ⟨w.heap.size + 1, 3, none⟩ (.slice (some ⟨W4.heap.size, 0, none⟩) bs.length bs.length)) (w.heap.size + 1 + 1 + 1) W2.heap.size W4.heap.size ls xs bs := ((((HC5.out.setOther (by show w.heap.size + 1 + 1 + 1 ≠ w.heap.size + 1 + 1; omega) (by show W2.heap.size ≠ w.heap.size + 1 + 1; omega) (by show W4.heap.size ≠ w.heap.size + 1 + 1; omega) _).setOther (by show w.heap.size + 1 + 1 + 1 ≠ w.heap.size + 1; omega) (by show W2.heap.size ≠ w.heap.size + 1; omega) (by show W4.heap.size ≠ w.heap.size + 1; omega) _).setOther (by show w.heap.size + 1 + 1 + 1 ≠ w.heap.size + 1; omega) (by show W2.heap.size ≠ w.heap.size + 1; omega) (by show W4.heap.size ≠ w.heap.size + 1; omega) _).setOther (by show w.heap.size + 1 + 1 + 1 ≠ w.heap.size + 1; omega) (by show W2.heap.size ≠ w.heap.size + 1; omega) (by show W4.heap.size ≠ w.heap.size + 1; omega) _).setOther (by show w.heap.size + 1 + 1 + 1 ≠ w.heap.size + 1; omega) (by show W2.heap.size ≠ w.heap.size + 1; omega) (by show W4.heap.size ≠ w.heap.size + 1; omega) _
  have HB6 : Below w.heap.size w (((((w5.setCell ⟨w.heap.size + 1 + 1, 3, none⟩ (.slice (some ⟨W4.heap.size, 0, none⟩) bs.length bs.length)).setCell ⟨w.heap.size + 1, 0, none⟩ (.int .i64 inp)).setCell ⟨w.heap.size + 1, 1, none⟩ (.slice (some ⟨w.heap.size + 1 + 1 + 1, 0, none⟩) ls.length ls.length)).setCell ⟨w.heap.size + 1, 2, none⟩ (.slice (some ⟨W2.heap.size, 0, none⟩) xs.length xs.length)).setCell ⟨w.heap.size + 1, 3, none⟩ (.slice (some ⟨W4.heap.size, 0, none⟩) bs.length bs.length)) := below_set (below_set (below_set (below_set (below_set HB5.out (by show w.heap.size ≤ w.heap.size + 1 + 1; omega) _) (by show w.heap.size ≤ w.heap.size + 1; omega) _) (by show w.heap.size ≤ w.heap.size + 1; omega) _) (by show w.heap.size ≤ w.heap.size + 1; omega) _) (by show w.heap.size ≤ w.heap.size + 1; omega) _
  generalize (((((w5.setCell ⟨w.heap.size + 1 + 1, 3, none⟩ (.slice (some ⟨W4.heap.size, 0, none⟩) bs.length bs.length)).setCell ⟨w.heap.size + 1, 0, none⟩ (.int .i64 inp)).setCell ⟨w.heap.size + 1, 1, none⟩ (.slice (some ⟨w.heap.size + 1 + 1 + 1, 0, none⟩) ls.length ls.length)).setCell ⟨w.heap.size + 1, 2, none⟩ (.slice (some ⟨W2.heap.size, 0, none⟩) xs.length xs.length)).setCell ⟨w.heap.size + 1, 3, none⟩ (.slice (some ⟨W4.heap.size, 0, none⟩) bs.length bs.length)) = W6 at *
  have q0 := HR6.four.c0
  have q1 := HR6.four.c1
  have q2 := HR6.four.c2
  have q3 := HR6.four.c3
  exact bodyPost_ret (v := .agg #[.int .i64 inp, .slice (some ⟨w.heap.size + 1 + 1 + 1, 0, none⟩) ls.length ls.length, .slice (some ⟨W2.heap.size, 0, none⟩) xs.length xs.length, .slice (some ⟨W4.heap.size, 0, none⟩) bs.length bs.length]) (by simp [results, Try.results13, go_sem, q0, q1, q2, q3]) rfl ⟨_, _, _, rfl, HB6, by omega, hs2, hs4, HC6⟩

end Go.Proofs.Ytbdjdgamnnifjaa

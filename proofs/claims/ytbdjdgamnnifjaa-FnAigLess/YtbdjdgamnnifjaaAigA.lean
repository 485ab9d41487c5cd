/-
  Circuits in memory; the program's small functions on them.
-/
import Derived.Test.YtbdjdgamnnifjaaBase
import Derived.Deep.QuietTactic
import Derived.BigQuiet
import Derived.Deep.RegionWith
namespace Go.Proofs.Ytbdjdgamnnifjaa
open Go.RowKit Go.Deep

/-- The value is a slice of these pairs of numbers. -/
def IsAnds (w : World) (v : Value) (xs : List (Int × Int)) : Prop :=
  ∃ ao cap, v = .slice ao xs.length cap ∧ (xs ≠ [] → ∃ b off, ao = some ⟨b, off, none⟩ ∧ ∀ i, i < xs.length → w.cell? ⟨b, off + i * 2, none⟩ = some (.int .i64 (xs.getD i (0, 0)).1) ∧ w.cell? ⟨b, off + i * 2 + 1, none⟩ = some (.int .i64 (xs.getD i (0, 0)).2))

/-- The value is a slice of these latches. -/
def IsLatches (w : World) (v : Value) (xs : List (Int × Bool)) : Prop :=
  ∃ ao cap, v = .slice ao xs.length cap ∧ (xs ≠ [] → ∃ b off, ao = some ⟨b, off, none⟩ ∧ ∀ i, i < xs.length → w.cell? ⟨b, off + i * 2, none⟩ = some (.int .i64 (xs.getD i (0, false)).1) ∧ w.cell? ⟨b, off + i * 2 + 1, none⟩ = some (.bool (xs.getD i (0, false)).2))

theorem IsAnds.below {w w' : World} {v : Value} {xs : List (Int × Int)} (h : IsAnds w v xs) (hb : Below w.heap.size w w') : IsAnds w' v xs := by
  obtain ⟨ao, cap, rfl, h⟩ := h
  refine ⟨ao, cap, rfl, fun hne => ?_⟩
  obtain ⟨b, off, rfl, hc⟩ := h hne
  exact ⟨b, off, rfl, fun i hi => ⟨by rw [hb.cell (cell_lt (hc i hi).1)]; exact (hc i hi).1, by rw [hb.cell (cell_lt (hc i hi).2)]; exact (hc i hi).2⟩⟩

theorem IsLatches.below {w w' : World} {v : Value} {xs : List (Int × Bool)} (h : IsLatches w v xs) (hb : Below w.heap.size w w') : IsLatches w' v xs := by
  obtain ⟨ao, cap, rfl, h⟩ := h
  refine ⟨ao, cap, rfl, fun hne => ?_⟩
  obtain ⟨b, off, rfl, hc⟩ := h hne
  exact ⟨b, off, rfl, fun i hi => ⟨by rw [hb.cell (cell_lt (hc i hi).1)]; exact (hc i hi).1, by rw [hb.cell (cell_lt (hc i hi).2)]; exact (hc i hi).2⟩⟩

/-- A block of four cells, as a struct of four fields lies in memory. -/
structure Four (w : World) (b : Nat) (a0 a1 a2 a3 : Value) : Prop where
  lt : b < w.heap.size
  c0 : w.cell? ⟨b, 0, none⟩ = some a0
  c1 : w.cell? ⟨b, 1, none⟩ = some a1
  c2 : w.cell? ⟨b, 2, none⟩ = some a2
  c3 : w.cell? ⟨b, 3, none⟩ = some a3

theorem Four.below {w w' : World} {b : Nat} {a0 a1 a2 a3 : Value} (h : Four w b a0 a1 a2 a3) (hb : Below w.heap.size w w') : Four w' b a0 a1 a2 a3 :=
  ⟨Nat.lt_of_lt_of_le h.lt hb.size, (hb.cell (p := ⟨b, 0, none⟩) h.lt).trans h.c0, (hb.cell (p := ⟨b, 1, none⟩) h.lt).trans h.c1, (hb.cell (p := ⟨b, 2, none⟩) h.lt).trans h.c2, (hb.cell (p := ⟨b, 3, none⟩) h.lt).trans h.c3⟩

theorem Four.new (w : World) (a0 a1 a2 a3 : Value) (t : TypeId) : Four (w.alloc (.cells #[a0, a1, a2, a3] t)) w.heap.size a0 a1 a2 a3 := ⟨by simp, by simp, by simp, by simp, by simp⟩

/-- A number of 64 bits. -/
def I64 (x : Int) : Prop := -9223372036854775808 ≤ x ∧ x < 9223372036854775808

theorem ret_b {a b : Bool} (h : a = b) : Ending.returned (.bool a) = .returned (.bool b) := by rw [h]

/-- Half of a number, as the machine reckons it. -/
def halfW (x : Int) : Int := wrap64 (x.tdiv 2)

theorem halfW_eq {x : Int} (h0 : 0 ≤ x) (h : I64 x) : halfW x = x / 2 := by
  unfold I64 at h
  rw [halfW, wrap64, ← IntKind.wrap_i64]
  exact IntWalk.i64_quo x 2 ⟨h0, by omega, by omega⟩

/-- Whether what is meant is one of the nodes ahead of a number. -/
def aheadB (x n : Int) : Bool := decide (0 ≤ x) && decide (x < 2 * n)
def aheadG (x n : Int) : Bool := decide (0 ≤ x) && decide (halfW x < n)

theorem aheadG_eq {x n : Int} (h : I64 x) : aheadG x n = aheadB x n := by
  unfold aheadG aheadB
  by_cases h0 : 0 ≤ x
  · rw [halfW_eq h0 h]
    have : (x / 2 < n) ↔ (x < 2 * n) := by omega
    simp [h0, this]
  · simp [h0]

set_option maxHeartbeats 400000 in
theorem node_any (x : Int) (w : World) :
    Calls Try.prog 72 #[.int .i64 x] w fun e w' => e = .returned (.int .i64 (halfW x)) ∧ w' = w := by
  go_enter Try.func72, Try.ntmps72
  go_wp2
  go_ret
  exact ⟨rfl, rfl⟩

set_option maxHeartbeats 400000 in
theorem firstAnd_any (inp : Int) (al aa ab : Option Addr) (nl cl na ca nb cb : Nat) (w : World) (h0 : 0 ≤ inp) (h1 : inp ≤ 8) (h2 : nl ≤ 8) :
    Calls Try.prog 97 #[.agg #[.int .i64 inp, .slice al nl cl, .slice aa na ca, .slice ab nb cb]] w fun e w' => e = .returned (.int .i64 (1 + inp + nl)) ∧ Below w.heap.size w w' := by
  go_enter Try.func97, Try.ntmps97
  go_wp2
  go_ret
  exact ⟨rfl, belOne _ _⟩

set_option maxHeartbeats 400000 in
theorem andNodes_any (inp : Int) (al aa ab : Option Addr) (nl cl na ca nb cb : Nat) (w : World) :
    Calls Try.prog 55 #[.agg #[.int .i64 inp, .slice al nl cl, .slice aa na ca, .slice ab nb cb]] w fun e w' => e = .returned (.func (.func 96) #[] #[.pointer (some ⟨w.heap.size, 0, none⟩)]) ∧ w' = w.alloc (.cells #[.int .i64 inp, .slice al nl cl, .slice aa na ca, .slice ab nb cb] 33) := by
  go_enter Try.func55, Try.ntmps55
  go_wp2
  go_ret
  exact ⟨rfl, rfl⟩

set_option maxHeartbeats 400000 in
theorem ends_any (inp : Int) (al aa ab : Option Addr) (nl cl na ca nb cb : Nat) (w : World) :
    Calls Try.prog 91 #[.agg #[.int .i64 inp, .slice al nl cl, .slice aa na ca, .slice ab nb cb]] w fun e w' => e = .returned (.func (.func 115) #[] #[.pointer (some ⟨w.heap.size, 0, none⟩)]) ∧ w' = w.alloc (.cells #[.int .i64 inp, .slice al nl cl, .slice aa na ca, .slice ab nb cb] 33) := by
  go_enter Try.func91, Try.ntmps91
  go_wp2
  go_ret
  exact ⟨rfl, rfl⟩

set_option maxHeartbeats 400000 in
theorem isAhead_any (x n : Int) (w : World) :
    Calls Try.prog 70 #[.int .i64 x, .int .i64 n] w fun e w' => e = .returned (.bool (aheadG x n)) ∧ w' = w := by
  by_cases h0 : 0 ≤ x
  · have hr : aheadG x n = decide (halfW x < n) := by unfold aheadG; simp [h0]
    rw [hr]
    clear hr
    generalize hq : halfW x = q
    have HQ : Hid (halfW x = q) := hq
    clear hq
    go_enter Try.func70, Try.ntmps70
    go_wp2_with (go_at_call 72; refine (node_any _ _).mono ?_; rintro e w' ⟨rfl, rfl⟩; rw [HQ.out])
    go_ret
    exact ⟨rfl, rfl⟩
  · have hr : aheadG x n = false := by unfold aheadG; simp [h0]
    rw [hr]
    clear hr
    go_enter Try.func70, Try.ntmps70
    go_wp2
    go_ret
    exact ⟨rfl, rfl⟩

end Go.Proofs.Ytbdjdgamnnifjaa

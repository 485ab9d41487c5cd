/-
  The first way of a diagram: BddFirst, of the program and of the model.
-/
import Derived.Test.YtknpifjkllcdeaaBdCb
import Derived.Test.YtknpifjkllcdeaaBdNp
import Derived.Test.YtknpifjkllcdeaaBdU
namespace Go.Proofs.Ytknpifjkllcdeaa
open Go.RowKit Go.Deep
set_option linter.unusedVariables false

attribute [local go_sem] Oper.semAt_some

/-- Where the first way of a diagram is, and whether there is one; the way itself. -/
def firstN (vi : Int) (ns : List Nd) (root : Int) : Nat := firstW vi.toNat (isN ns root)
def firstB (vi : Int) (ns : List Nd) (root : Int) : Bool := bddB vi ns root && decide (firstN vi ns root < 2 ^ vi.toNat)
def firstL (vi : Int) (ns : List Nd) (root : Int) : List Bool := if firstB vi ns root = true then wayL vi.toNat (firstN vi ns root) else []

theorem firstL_le (vi : Int) (ns : List Nd) (root : Int) : (firstL vi ns root).length ≤ 64 := by
  unfold firstL
  split
  · rename_i h
    unfold firstB at h
    rw [Bool.and_eq_true] at h
    obtain ⟨vars, rfl, h6, -⟩ := bdd_split h.1
    rw [wayL_length, Int.toNat_natCast]
    omega
  · simp

/-- An answer of truths that owns its memory, and a truth. -/
def FirstPost (L : List Bool) (f : Bool) (w : World) (e : Ending) (w' : World) : Prop :=
  ∃ ao cap, e = .returned (.tuple #[.slice ao L.length cap, .bool f]) ∧ Ownb w' w.heap.size (.slice ao L.length cap) L ∧ Below w.heap.size w w' ∧ (f = true → ∃ b, ao = some ⟨b, 0, none⟩)

theorem ownb_of_row {w : World} {b n base : Nat} {L : List Bool} (h : w.rowIs b 4 n (fun i => .bool (L.getD i false))) (hl : L.length = n) (hn : n ≤ 64) (hb : base ≤ b) : Ownb w base (.slice (some ⟨b, 0, none⟩) n n) L := by
  obtain ⟨cur, hh, hs, hc⟩ := h
  unfold Ownb
  rw [hl]
  refine ⟨by simp [hl], .inr ⟨b, n, cur, rfl, hb, hh, Nat.le_refl _, by unfold maxLen; omega, by omega, ?_⟩⟩
  apply List.ext_getElem
  · simp [hl, hs]
  · intro i h1 h2
    have hi : i < n := by simpa [hl] using h2
    have h3 := hc i hi
    have h4 : i < cur.size := by omega
    rw [Array.getElem?_eq_getElem h4] at h3
    injection h3 with h3
    simp [h3, List.getD, List.getElem?_eq_getElem (show i < L.length by omega)]

set_option maxHeartbeats 2000000 in
theorem next_any (vars x B : Nat) (y z a b : Int) (W : World) (hB : W.cell? ⟨B, 0, none⟩ = some (.int .i64 (vars : Int))) (h6 : vars ≤ 6) (hx : x < vars) (ha : 0 ≤ a) (ha2 : a ≤ 64) (hb : 0 ≤ b) (hb2 : b ≤ 64) :
    Calls Try.prog 72 #[.agg #[.int .i64 (x : Int), .int .i64 y, .int .i64 z], .int .i64 a, .int .i64 b, .pointer (some ⟨B, 0, none⟩)] W fun e w' => e = .returned (.int .i64 (min a (b + ((2 ^ (vars - 1 - x) : Nat) : Int)))) ∧ Below W.heap.size W w' := by
  obtain ⟨W1, hW1⟩ : ∃ W1, W1 = W.alloc (.cells #[.int .i64 (x : Int), .int .i64 y, .int .i64 z] 50) := ⟨_, rfl⟩
  have HB1 : Hid (Below W.heap.size W W1) := by rw [hW1]; exact belOne _ _
  have HWT := hideN (weightOf_any vars x W1 hx h6)
  have hE64 : 2 ^ (vars - 1 - x) ≤ 32 := by show _ ≤ 2 ^ 5; exact Nat.pow_le_pow_right (by decide) (by omega)
  obtain ⟨E, hE⟩ : ∃ E, 2 ^ (vars - 1 - x) = E := ⟨_, rfl⟩
  rw [hE] at HWT hE64 ⊢
  have HW1 := hideN hW1
  have hbl : B < W.heap.size := cell_lt hB
  clear hW1 hE
  go_enter Try.func72, Try.ntmps72
  go_wp2_with fail
  rw [← HW1.out]
  refine HWT.out.mono ?_
  rintro e w1 ⟨rfl, rfl⟩
  have hmin : ∀ c : Int, (c = a ∧ a ≤ b + (E : Int)) ∨ (c = b + (E : Int) ∧ b + (E : Int) ≤ a) → Ending.returned (.int .i64 c) = Ending.returned (.int .i64 (min a (b + (E : Int)))) := fun c hc => by
    have : c = min a (b + (E : Int)) := by omega
    rw [this]
  have HMIN := hideN hmin
  clear hmin
  go_wp2
  all_goals go_ret
  all_goals refine ⟨HMIN.out _ ?_, HB1.out⟩
  all_goals omega

theorem next_says (w : World) (vars B : Nat) (h6 : vars ≤ 6) {a1 a2 : Value} (hB : BlkD w B (.int .i64 (vars : Int)) a1 a2) : SayI w 72 #[.pointer (some ⟨B, 0, none⟩)] vars (nextF vars) :=
  ⟨fun args W => enters_of Try.func72 (by kernel_rfl) rfl args W, fun W hW x y z a b hx h1 h2 h3 h4 => by
    have h := next_any vars x B y z a b W (hB.below hW).c0 h6 hx h1 h2 h3 h4
    unfold nextF
    rw [Int.toNat_natCast]
    exact h⟩

end Go.Proofs.Ytknpifjkllcdeaa

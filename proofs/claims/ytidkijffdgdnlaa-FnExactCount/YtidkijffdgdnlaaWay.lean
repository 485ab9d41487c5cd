/-
  The way that a number says, bit by bit, and how many ways there are: plain facts, and the model's l2Way.
-/
import Derived.Test.YtidkijffdgdnlaaHolds2
namespace Go.Proofs.Ytidkijffdgdnlaa
open Go.RowKit Go.Deep
set_option linter.unusedVariables false

def wayOf (vars n : Nat) : List Bool := (List.range vars).map (fun i => n.testBit i)
def countB (vars : Nat) (xss : List (List Int)) (m : Nat) : Nat := ((List.range m).filter (fun n => allB (wayOf vars n) xss)).length

theorem wayOf_length (vars n : Nat) : (wayOf vars n).length = vars := by simp [wayOf]
theorem wayOf_getD (vars n i : Nat) (h : i < vars) : (wayOf vars n).getD i false = n.testBit i := by simp [wayOf, List.getD, h]
theorem countB_succ (vars : Nat) (xss : List (List Int)) (m : Nat) : countB vars xss (m + 1) = countB vars xss m + if allB (wayOf vars m) xss = true then 1 else 0 := by
  unfold countB
  rw [List.range_succ, List.filter_append, List.length_append]
  cases h : allB (wayOf vars m) xss <;> simp [h]
theorem countB_le (vars : Nat) (xss : List (List Int)) (m : Nat) : countB vars xss m ≤ m := by
  unfold countB
  have := List.length_filter_le (fun n => allB (wayOf vars n) xss) (List.range m)
  simpa using this

theorem bit_of (n k : Nat) : (((n / 2 ^ k : Nat) : Int) % 2 == 1) = n.testBit k := by
  rw [Nat.testBit_eq_decide_div_mod_eq]
  have h : (((n / 2 ^ k : Nat) : Int) % 2) = ((n / 2 ^ k % 2 : Nat) : Int) := by omega
  rw [h]
  rcases Nat.mod_two_eq_zero_or_one (n / 2 ^ k) with e | e <;> rw [e] <;> rfl

theorem half_of (n k : Nat) : n / 2 ^ k / 2 = n / 2 ^ (k + 1) := by
  rw [Nat.div_div_eq_div_mul, Nat.pow_succ]

/-- Of the way, so many truths are there. -/
def bitsOf (n k : Nat) : Nat → Value := fun i => if i < k then .bool (n.testBit i) else .bool false

theorem bitsOf_set {w : World} {b : Nat} {t : TypeId} {m n k : Nat} (h : w.rowIs b t m (bitsOf n k)) : (w.setCell ⟨b, k, none⟩ (.bool (n.testBit k))).rowIs b t m (bitsOf n (k + 1)) := by
  refine (h.set k _).congr (fun i _ => ?_)
  unfold bitsOf
  by_cases e : i = k
  · subst e; simp
  · rw [if_neg e]
    by_cases hlt : i < k
    · rw [if_pos hlt, if_pos (by omega)]
    · rw [if_neg hlt, if_neg (by omega)]

set_option maxHeartbeats 1000000 in
theorem l2Way_any (vars n : Nat) (w : World) (hv : vars ≤ 60) (hn : n ≤ 4096) :
    Calls Try.prog 25 #[.int .i64 vars, .int .i64 n] w fun e w' => e = .returned (.slice (some ⟨w.heap.size, 0, none⟩) vars vars) ∧ Below w.heap.size w w' ∧ w'.rowIs w.heap.size 4 vars (bitsOf n vars) := by
  have hmk := run_make_row' (P := Try.prog) 31 4 (.bool false) 1 Try.underlying31 info_bool rfl .i64 .i64 vars (by omega) (by omega)
  go_enter Try.func25, Try.ntmps25
  go_wp2
  go_loopw [1, 6] (fun m i wr => ∃ k : Nat, k ≤ vars ∧ i = .int .i64 k ∧ m = .int .i64 (n / 2 ^ k : Nat) ∧ Below w.heap.size w wr ∧ wr.rowIs w.heap.size 4 vars (bitsOf n k)) (fun _ i _ => vars - (intOf i).toNat)
  case atStart => exact ⟨0, Nat.zero_le _, rfl, by simp, (Below.refl _ _).alloc (Nat.le_refl _) _, (World.rowIs_made w _ vars 4).congr (fun j _ => by simp [bitsOf])⟩
  case round =>
    obtain ⟨k, hk, rfl, rfl, hb, hrow⟩ := hrel
    have hle : n / 2 ^ k ≤ 4096 := Nat.le_trans (Nat.div_le_self _ _) hn
    by_cases hlt : k < vars
    · have hc2 := hrow.cell hlt
      have hfz := hrow.frozen k
      have HB : Hid (Below w.heap.size w wr) := hb
      have HST : Hid ((wr.setCell ⟨w.heap.size, k, none⟩ (.bool (n.testBit k))).rowIs w.heap.size 4 vars (bitsOf n (k + 1))) := bitsOf_set hrow
      have hbit := bit_of n k
      have HBIT : Hid ((((n / 2 ^ k : Nat) : Int) % 2 == 1) = n.testBit k) := hbit
      have HH : Hid (n / 2 ^ k / 2 = n / 2 ^ (k + 1)) := half_of n k
      clear hrow hb hbit
      generalize n.testBit k = tb at *
      generalize n / 2 ^ k = q at *
      go_wp2
      go_roundw
      case rel => exact ⟨k + 1, by omega, by go_num, by rw [← HH.out]; go_num, HB.out.setCell (Nat.le_refl _) _, by rw [HBIT.out]; exact HST.out⟩
      case measure => simp [intOf]; omega
    · have hrow' : wr.rowIs w.heap.size 4 vars (bitsOf n vars) := hrow.congr (fun i hi => by unfold bitsOf; rw [if_pos (by omega), if_pos (by omega)])
      go_wp2
      go_ret
      exact ⟨rfl, hb, hrow'⟩

end Go.Proofs.Ytidkijffdgdnlaa

/-
  A circuit without what is needless: the program's small functions: opposite, now.
-/
import Derived.Test.YtlahnihpdidanaaLess7
namespace Go.Proofs.Ytlahnihpdidanaa
open Go.RowKit Go.Deep Go.Shelf
set_option linter.unusedVariables false

attribute [local go_sem] Oper.semAt_some

theorem bits_xor1 (x : Int) (h0 : 0 ≤ x) (h1 : x ≤ 200) : Go.bits .xor .i64 x 1 = opp x := by
  obtain ⟨n, rfl⟩ := Int.eq_ofNat_of_zero_le h0
  have h : ∀ m : Fin 201, Go.bits .xor .i64 ((m.val : Nat) : Int) 1 = opp ((m.val : Nat) : Int) := by decide +kernel
  exact h ⟨n, by omega⟩

set_option maxHeartbeats 400000 in
theorem oppos_any (x : Int) (w : World) (h0 : 0 ≤ x) (h1 : x ≤ 200) :
    Calls Try.prog 105 #[.int .i64 x] w fun e w' => e = .returned (.int .i64 (opp x)) ∧ w' = w := by
  have hb := bits_xor1 x h0 h1
  clear h0 h1
  go_enter Try.func105, Try.ntmps105
  go_wp2
  go_ret
  exact ⟨rfl, rfl⟩

set_option maxHeartbeats 1000000 in
/-- What a meaning has become. -/
theorem now_any (v : Value) (to : List Int) (x : Int) (n m : Nat) (w : World) (hv : IsInts w v to) (ht : ToOk to n m) (h0 : 0 ≤ x) (h1 : x < 2 * (n : Int)) (hn : n ≤ 100) (hm : m ≤ 100) :
    Calls Try.prog 109 #[.int .i64 x, v] w fun e w' => e = .returned (.int .i64 (mapL to x)) ∧ w' = w := by
  obtain ⟨ao, cap, rfl, hv⟩ := hv
  have hlen := ht.len
  obtain ⟨b, off, rfl, hc⟩ := hv (by intro e; subst e; simp at hlen; omega)
  obtain ⟨k, hk⟩ : ∃ k : Nat, x / 2 = (k : Int) := ⟨(x / 2).toNat, by omega⟩
  have hkl : k < to.length := by omega
  have hcell := hc k hkl
  have hr : mapL to x = if (x % 2 == 1) = true then opp (to.getD k 0) else to.getD k 0 := by
    unfold mapL; rw [hk, Int.toNat_natCast]
    simp
  have hval := ht.val k (by omega)
  have hh : halfW x = (k : Int) := by rw [halfW_eq h0 (by unfold I64; omega), hk]
  have HN : Hid (∀ w, Calls Try.prog 72 #[.int .i64 x] w fun e w' => e = .returned (.int .i64 (k : Int)) ∧ w' = w) := fun w => by rw [← hh]; exact node_any x w
  rw [hr]
  obtain ⟨g, hg⟩ : ∃ g, (x % 2 == 1) = g := ⟨_, rfl⟩
  rw [hg]
  have HO : Hid (∀ w, Calls Try.prog 98 #[.int .i64 x] w fun e w' => e = .returned (.bool g) ∧ w' = w) := fun w => by rw [← hg]; exact isOpposite_any x w h0 (by omega)
  have HP : Hid (∀ w, Calls Try.prog 105 #[.int .i64 (to.getD k 0)] w fun e w' => e = .returned (.int .i64 (opp (to.getD k 0))) ∧ w' = w) := fun w => oppos_any _ w hval.1 (by omega)
  clear hc hv hr hk hg hh hval h1 hn hm
  generalize to.getD k 0 = y at *
  generalize to.length = q at *
  clear hlen ht h0
  go_enter Try.func109, Try.ntmps109
  go_wp2_with fail
  refine (HO.out _).mono ?_
  rintro e w' ⟨rfl, hw'⟩
  obtain rfl := hw'.symm
  cases g with
  | false =>
    go_wp2_with fail
    refine (HN.out _).mono ?_
    rintro e w' ⟨rfl, hw'⟩
    obtain rfl := hw'.symm
    go_wp2_with fail
    go_ret
    exact ⟨rfl, rfl⟩
  | true =>
    go_wp2_with fail
    refine (HN.out _).mono ?_
    rintro e w' ⟨rfl, hw'⟩
    obtain rfl := hw'.symm
    go_wp2_with fail
    refine (HP.out _).mono ?_
    rintro e w' ⟨rfl, hw'⟩
    obtain rfl := hw'.symm
    go_wp2_with fail
    go_ret
    exact ⟨rfl, rfl⟩

end Go.Proofs.Ytlahnihpdidanaa

/-
  How large what comes in is: szIntS, szIntSS, szCnf.
-/
import Derived.Test.YtidkijffdgdnlaaBase
namespace Go.Proofs.Ytidkijffdgdnlaa
open Go.RowKit Go.Deep

set_option maxHeartbeats 400000 in
theorem szIntS_any (ao : Option Addr) (n cap : Nat) (left : Int) (w : World) (hn : n ≤ maxLen) (h0 : 0 ≤ left) (h1 : left ≤ 1048576) :
    Calls Try.prog 26 #[.slice ao n cap, .int .i64 left] w fun e w' => e = .returned (.int .i64 (if (n : Int) ≤ left then left - n else -1)) ∧ w' = w := by
  unfold maxLen at hn
  by_cases h : (n : Int) ≤ left
  · rw [if_pos h]
    go_enter Try.func26, Try.ntmps26
    go_wp2
    go_ret
    exact ⟨rfl, rfl⟩
  · rw [if_neg h]
    go_enter Try.func26, Try.ntmps26
    go_wp2
    go_ret
    exact ⟨rfl, rfl⟩

/-- What szIntSS answers. -/
def szOf (xss : List (List Int)) (left : Int) : Int := if (xss.length + sumLen xss : Int) ≤ left then left - (xss.length + sumLen xss : Int) else -1

set_option maxHeartbeats 1000000 in
theorem szIntSS_any (v : Value) (xss : List (List Int)) (left : Int) (w : World) (hv : IsRows w v xss) (hn : xss.length ≤ maxLen) (hr : ∀ xs ∈ xss, xs.length ≤ maxLen) (h0 : 0 ≤ left) (h1 : left ≤ 1048576) :
    Calls Try.prog 17 #[v, .int .i64 left] w fun e w' => e = .returned (.int .i64 (szOf xss left)) ∧ w' = w := by
  obtain ⟨ao, cap, rfl, hv⟩ := hv
  generalize hN : xss.length = n at *
  unfold maxLen at hn
  by_cases h : (n : Int) ≤ left
  · by_cases hne : n = 0
    · subst hne
      obtain rfl : xss = [] := List.length_eq_zero_iff.1 hN
      clear hv hr hN
      have hs : szOf [] left = left := by unfold szOf sumLen; simp; omega
      rw [hs]
      go_enter Try.func17, Try.ntmps17
      go_wp2
      go_rounds 1
      go_ret
      exact ⟨rfl, rfl⟩
    · obtain ⟨b, off, rfl, hc⟩ := hv (by intro e; subst e; simp at hN; omega)
      have HC : Hid (∀ i, i < n → ∃ r, w.cell? ⟨b, off + i, none⟩ = some r ∧ IsInts w r (xss.getD i [])) := hc
      have HR : Hid (∀ xs ∈ xss, xs.length ≤ maxLen) := hr
      have HN : Hid (xss.length = n) := hN
      clear hc hv hr hN
      go_enter Try.func17, Try.ntmps17
      go_wp2
      go_loop [1, 5] (fun l i => ∃ k : Nat, k ≤ n ∧ i = .int .i64 k ∧ 0 ≤ left - n - sumLen (xss.take k) ∧ l = .int .i64 (left - n - sumLen (xss.take k))) (fun _ i => n - (intOf i).toNat)
      case atStart => exact ⟨0, Nat.zero_le _, rfl, by simp [sumLen]; omega, by simp [sumLen]⟩
      case round =>
        obtain ⟨k, hk, rfl, hpos, rfl⟩ := hrel
        by_cases hlt : k < n
        · obtain ⟨r, hcell, hints⟩ := HC.out k hlt
          obtain ⟨a1, c1, rfl, _⟩ := hints
          have hts := sumLen_take_succ xss k (by rw [HN.out]; exact hlt)
          have hall := sumLen_take_le xss (k + 1)
          have hm : (xss.getD k []).length ≤ maxLen := HR.out _ (by rw [List.getD, List.getElem?_eq_getElem (by rw [HN.out]; exact hlt)]; simp)
          generalize hM : (xss.getD k []).length = m at *
          generalize hS : sumLen (xss.take k) = t at *
          generalize hS1 : sumLen (xss.take (k + 1)) = t1 at *
          have HS1 : Hid (sumLen (xss.take (k + 1)) = t1) := hS1
          have HT : Hid (t1 = t + m) := hts
          clear hS hS1 hM hts
          by_cases hfit : (m : Int) ≤ left - n - t
          · go_wp2_with (go_at_call 26; refine (szIntS_any _ _ _ _ _ hm (by omega) (by omega)).mono ?_; rintro e w' ⟨rfl, rfl⟩)
            go_round
            case rel => exact ⟨k + 1, by omega, by go_num, by rw [HS1.out, HT.out]; omega, by rw [HS1.out, HT.out]; go_num⟩
            case measure => simp [intOf]; omega
          · have hz : szOf xss left = -1 := by
              have := HT.out
              have := HN.out
              unfold szOf
              rw [if_neg (by omega)]
            have HZ : Hid (szOf xss left = -1) := hz
            clear hz
            go_wp2_with (go_at_call 26; refine (szIntS_any _ _ _ _ _ hm (by omega) (by omega)).mono ?_; rintro e w' ⟨rfl, rfl⟩)
            go_ret
            exact ⟨ret_int HZ.out.symm, rfl⟩
        · have hz : szOf xss left = left - n - sumLen (xss.take k) := by
            have := HN.out
            have hk' : xss.take k = xss := List.take_of_length_le (by omega)
            rw [hk'] at hpos ⊢
            unfold szOf
            rw [if_pos (by omega)]
            omega
          have HZ : Hid (szOf xss left = left - n - sumLen (xss.take k)) := hz
          clear hz
          go_wp2
          go_ret
          exact ⟨ret_int HZ.out.symm, rfl⟩
  · have hs : szOf xss left = -1 := by unfold szOf; rw [if_neg (by omega)]
    rw [hs]
    clear hv hr
    go_enter Try.func17, Try.ntmps17
    go_wp2
    go_ret
    exact ⟨rfl, rfl⟩

set_option maxHeartbeats 1000000 in
theorem szCnf_any (vars : Int) (v : Value) (xss : List (List Int)) (left : Int) (w : World) (hv : IsRows w v xss) (hn : xss.length ≤ maxLen) (hr : ∀ xs ∈ xss, xs.length ≤ maxLen) (h0 : 0 ≤ left) (h1 : left ≤ 1048576) :
    Calls Try.prog 6 #[.agg #[.int .i64 vars, v], .int .i64 left] w fun e w' => e = .returned (.int .i64 (szOf xss left)) ∧ Below w.heap.size w w' := by
  have hb : ∀ o, Below w.heap.size w (w.alloc o) := fun o => (Below.refl _ _).alloc (Nat.le_refl _) _
  have HV : Hid (∀ o, IsRows (w.alloc o) v xss) := fun o => hv.below (hb o)
  obtain ⟨ao, cap, rfl, _⟩ := hv
  have HR : Hid (∀ xs ∈ xss, xs.length ≤ maxLen) := hr
  clear hr hb
  have hz : 0 ≤ szOf xss left ∨ szOf xss left = -1 := by unfold szOf; split <;> omega
  have hz2 : szOf xss left ≤ 1048576 := by unfold szOf; split <;> omega
  generalize hZ : szOf xss left = z at *
  have HZ : Hid (szOf xss left = z) := hZ
  clear hZ
  have hbb : Hid (∀ o, Below w.heap.size w (w.alloc o)) := fun o => (Below.refl _ _).alloc (Nat.le_refl _) _
  by_cases hneg : z < 0
  · go_enter Try.func6, Try.ntmps6
    go_wp2_with (go_at_call 17; refine (szIntSS_any _ xss _ _ (HV.out _) hn HR.out h0 h1).mono ?_; rintro e w' ⟨rfl, rfl⟩; rw [HZ.out])
    go_ret
    exact ⟨ret_int (by omega), hbb.out _⟩
  · go_enter Try.func6, Try.ntmps6
    go_wp2_with (go_at_call 17; refine (szIntSS_any _ xss _ _ (HV.out _) hn HR.out h0 h1).mono ?_; rintro e w' ⟨rfl, rfl⟩; rw [HZ.out])
    go_ret
    exact ⟨rfl, hbb.out _⟩

end Go.Proofs.Ytidkijffdgdnlaa

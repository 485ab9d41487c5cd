/-
  The model's Count is the plain count of ways.
-/
import Derived.Test.YtidkijffdgdnlaaWay
import Derived.Deep.RegionWith
namespace Go.Proofs.Ytidkijffdgdnlaa
open Go.RowKit Go.Deep
set_option linter.unusedVariables false

/-- What Count answers. -/
def cntOf (vars : Int) (xss : List (List Int)) : Int := if okB vars xss = true ∧ vars ≤ 12 then (countB vars.toNat xss (2 ^ vars.toNat) : Int) else -1

theorem isBools_way {w : World} {b vars n : Nat} (h : w.rowIs b 4 vars (bitsOf n vars)) : IsBools w (.slice (some ⟨b, 0, none⟩) vars vars) (wayOf vars n) := by
  refine ⟨some ⟨b, 0, none⟩, vars, by rw [wayOf_length], fun _ => ⟨b, 0, rfl, fun i hi => ?_⟩⟩
  rw [wayOf_length] at hi
  rw [Nat.zero_add, h.cell hi, wayOf_getD _ _ _ hi]
  unfold bitsOf
  rw [if_pos hi]

theorem two_pow_le {v : Nat} (h : v ≤ 12) : 2 ^ v ≤ 4096 := by
  have := Nat.pow_le_pow_right (n := 2) (by omega) h
  simpa using this

set_option maxHeartbeats 2000000 in
theorem specCount_any (vars : Int) (v : Value) (xss : List (List Int)) (w : World) (hv : IsRows w v xss) (hn : xss.length ≤ maxLen) (hm : ∀ i, i < xss.length → (xss.getD i []).length ≤ maxLen) :
    Calls Try.prog 15 #[.agg #[.int .i64 vars, v]] w fun e w' => e = .returned (.int .i64 (cntOf vars xss)) ∧ Below w.heap.size w w' := by
  have HV : Hid (∀ w', Below w.heap.size w w' → IsRows w' v xss) := fun w' h => hv.below h
  obtain ⟨ao, cap, rfl, _⟩ := hv
  have HW : Hid (∀ i, i < xss.length → (xss.getD i []).length ≤ maxLen) := hm
  have HL : Hid (xss.length ≤ maxLen) := hn
  clear hm hn
  have hb0 : Hid (Below w.heap.size w (w.alloc (.cells #[.int .i64 vars, .slice ao xss.length cap] 27))) := belOne _ _
  have ht0 : Hid (Two (w.alloc (.cells #[.int .i64 vars, .slice ao xss.length cap] 27)) w.heap.size (.int .i64 vars) (.slice ao xss.length cap)) := Two.new _ _ _ _
  cases hok : okB vars xss with
  | false =>
    have hr : cntOf vars xss = -1 := by unfold cntOf; rw [hok]; simp
    rw [hr]
    have HOK : Hid (okB vars xss = false) := hok
    clear hok hr
    go_enter Try.func15, Try.ntmps15
    go_wp2_with fail
    refine (specCnfOk_any _ _ xss _ (HV.out _ hb0.out) HL.out HW.out).mono ?_
    rintro e w1 ⟨rfl, hb1⟩
    rw [HOK.out]
    have HB1 : Hid (Below w.heap.size w w1) := belNext hb0.out hb1
    clear hb1
    go_wp2
    go_ret
    exact ⟨rfl, HB1.out⟩
  | true =>
    obtain ⟨h0, h60, _⟩ := vars_of_ok hok
    have hlits := lits_of_ok hok
    have HOK : Hid (okB vars xss = true) := hok
    by_cases h12 : vars ≤ 12
    · obtain ⟨n, rfl⟩ := Int.eq_ofNat_of_zero_le h0
      have hr : cntOf n xss = (countB n xss (2 ^ n) : Int) := by unfold cntOf; rw [if_pos ⟨hok, h12⟩]; simp
      rw [hr]
      have HLITS : Hid (∀ xs ∈ xss, ∀ x ∈ xs, litB ((n : Nat) : Int) x = true) := hlits
      clear hok hr hlits
      have hp12 : 2 ^ n ≤ 4096 := two_pow_le (by omega)
      have HPOW : Hid (∀ k, k < n → 2 ^ k ≤ 4096) := fun k hk => two_pow_le (by omega)
      go_enter Try.func15, Try.ntmps15
      go_wp2_with fail
      refine (specCnfOk_any _ _ xss _ (HV.out _ hb0.out) HL.out HW.out).mono ?_
      rintro e w1 ⟨rfl, hb1⟩
      rw [HOK.out]
      have HB1 : Hid (Below w.heap.size w w1) := belNext hb0.out hb1
      have HT1 : Hid (Two w1 w.heap.size (.int .i64 n) (.slice ao xss.length cap)) := ht0.out.below hb1
      clear hb1
      have hl1 := HT1.out.lt
      have hc10 := HT1.out.c0
      have hc11 := HT1.out.c1
      go_wp2_with fail
      go_loop [3, 4] (fun a i => ∃ k : Nat, k ≤ n ∧ i = .int .i64 k ∧ a = .int .i64 (2 ^ k : Nat)) (fun _ i => n - (intOf i).toNat)
      case atStart => exact ⟨0, Nat.zero_le _, rfl, rfl⟩
      case round =>
        obtain ⟨k, hk, rfl, rfl⟩ := hrel
        by_cases hlt : k < n
        · have hpk := HPOW.out k hlt
          have HP : Hid (2 ^ (k + 1) = 2 * 2 ^ k) := by rw [Hid, Nat.pow_succ, Nat.mul_comm]
          generalize 2 ^ k = q at *
          go_wp2
          go_round
          case rel => exact ⟨k + 1, by omega, by go_num, by rw [HP.out]; go_num⟩
          case measure => simp [intOf]; omega
        · obtain rfl : k = n := by omega
          generalize hP : 2 ^ k = p at *
          have HPP : Hid (2 ^ k = p) := hP
          clear hP
          have HK : Hid (k ≤ 60) := by show k ≤ 60; omega
          go_wp2
          go_loopw [5, 6] (fun o i wr => ∃ m : Nat, m ≤ p ∧ i = .int .i64 m ∧ o = .int .i64 (countB k xss m : Nat) ∧ Below w.heap.size w wr ∧ Two wr w.heap.size (.int .i64 k) (.slice ao xss.length cap)) (fun _ i _ => p - (intOf i).toNat)
          case atStart => exact ⟨0, Nat.zero_le _, rfl, rfl, HB1.out, HT1.out⟩
          case round =>
            obtain ⟨m, hm, rfl, rfl, hb, ht⟩ := hrel
            have hcl := countB_le k xss m
            have hcs := countB_succ k xss m
            by_cases hmp : m < p
            · have HB : Hid (Below w.heap.size w wr) := hb
              have HT : Hid (Two wr w.heap.size (.int .i64 k) (.slice ao xss.length cap)) := ht
              have hx0 := ht.lt
              have hx1 := ht.c0
              have hx2 := ht.c1
              have HLEN : Hid ((wayOf k m).length = k) := wayOf_length k m
              clear hb ht hl1 hc10 hc11
              cases hall : allB (wayOf k m) xss with
              | true =>
                have HALL : Hid (allB (wayOf k m) xss = true) := hall
                rw [if_pos hall] at hcs
                have HCS : Hid (countB k xss (m + 1) = countB k xss m + 1) := hcs
                clear hall hcs
                generalize countB k xss m = c at *
                go_wp2
                go_region_with (first
                  | (go_at_call 25; refine (l2Way_any k m _ HK.out (by omega)).mono ?_; rintro e w2 ⟨rfl, hb2', hrow2⟩; have hb2 := undrew hb2'; have HB2 : Hid (Below w.heap.size w w2) := belNext HB.out hb2; have HT2 : Hid (Two w2 w.heap.size (.int .i64 k) (.slice ao xss.length cap)) := HT.out.below hb2; have HI2 : Hid (IsBools w2 (.slice (some ⟨wr.heap.size, 0, none⟩) k k) (wayOf k m)) := isBools_way hrow2; have hy0 := HT2.out.lt; have hy1 := HT2.out.c0; have hy2 := HT2.out.c1; clear hb2 hb2' hrow2)
                  | (go_at_call 23; refine (l1All_any _ _ xss _ (wayOf k m) _ (HV.out _ HB2.out) HL.out HW.out HI2.out (by rw [HLEN.out]; exact HK.out) (by rw [HLEN.out]; exact HLITS.out)).mono ?_; rintro e w3 ⟨rfl, hb3⟩; rw [HALL.out]; have HB3 : Hid (Below w.heap.size w w3) := belNext HB2.out hb3; have HT3 : Hid (Two w3 w.heap.size (.int .i64 k) (.slice ao xss.length cap)) := HT2.out.below hb3; clear hb3))
                all_goals
                  go_wp2
                  go_roundw
                  case rel => exact ⟨m + 1, by omega, by go_num, by rw [HCS.out]; go_num, HB3.out, HT3.out⟩
                  case measure => simp [intOf]; omega
              | false =>
                have HALL : Hid (allB (wayOf k m) xss = false) := hall
                rw [if_neg (by rw [hall]; simp)] at hcs
                have HCS : Hid (countB k xss (m + 1) = countB k xss m + 0) := hcs
                clear hall hcs
                generalize countB k xss m = c at *
                go_wp2
                go_region_with (first
                  | (go_at_call 25; refine (l2Way_any k m _ HK.out (by omega)).mono ?_; rintro e w2 ⟨rfl, hb2', hrow2⟩; have hb2 := undrew hb2'; have HB2 : Hid (Below w.heap.size w w2) := belNext HB.out hb2; have HT2 : Hid (Two w2 w.heap.size (.int .i64 k) (.slice ao xss.length cap)) := HT.out.below hb2; have HI2 : Hid (IsBools w2 (.slice (some ⟨wr.heap.size, 0, none⟩) k k) (wayOf k m)) := isBools_way hrow2; have hy0 := HT2.out.lt; have hy1 := HT2.out.c0; have hy2 := HT2.out.c1; clear hb2 hb2' hrow2)
                  | (go_at_call 23; refine (l1All_any _ _ xss _ (wayOf k m) _ (HV.out _ HB2.out) HL.out HW.out HI2.out (by rw [HLEN.out]; exact HK.out) (by rw [HLEN.out]; exact HLITS.out)).mono ?_; rintro e w3 ⟨rfl, hb3⟩; rw [HALL.out]; have HB3 : Hid (Below w.heap.size w w3) := belNext HB2.out hb3; have HT3 : Hid (Two w3 w.heap.size (.int .i64 k) (.slice ao xss.length cap)) := HT2.out.below hb3; clear hb3))
                all_goals
                  go_wp2
                  go_roundw
                  case rel => exact ⟨m + 1, by omega, by go_num, by rw [HCS.out]; go_num, HB3.out, HT3.out⟩
                  case measure => simp [intOf]; omega
            · obtain rfl : m = p := by omega
              clear hcs
              have HB : Hid (Below w.heap.size w wr) := hb
              clear hb ht
              go_wp2
              go_ret
              exact ⟨ret_int (by rw [HPP.out]), HB.out⟩
    · have hr : cntOf vars xss = -1 := by unfold cntOf; rw [if_neg (fun h => h12 h.2)]
      rw [hr]
      clear hok hr hlits
      go_enter Try.func15, Try.ntmps15
      go_wp2_with fail
      refine (specCnfOk_any _ _ xss _ (HV.out _ hb0.out) HL.out HW.out).mono ?_
      rintro e w1 ⟨rfl, hb1⟩
      rw [HOK.out]
      have HB1 : Hid (Below w.heap.size w w1) := belNext hb0.out hb1
      have HT1 : Hid (Two w1 w.heap.size (.int .i64 vars) (.slice ao xss.length cap)) := ht0.out.below hb1
      clear hb1
      have hl1 := HT1.out.lt
      have hc10 := HT1.out.c0
      have hc11 := HT1.out.c1
      go_wp2
      go_ret
      exact ⟨rfl, HB1.out⟩

end Go.Proofs.Ytidkijffdgdnlaa

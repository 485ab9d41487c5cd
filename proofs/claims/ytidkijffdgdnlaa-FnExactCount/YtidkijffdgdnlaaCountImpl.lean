/-
  The program's Count is the plain count of ways.
-/
import Derived.Test.YtidkijffdgdnlaaCountSpec
namespace Go.Proofs.Ytidkijffdgdnlaa
open Go.RowKit Go.Deep
set_option linter.unusedVariables false

/-- Of the way, so many truths are new; the others are as they were. -/
def over (m j : Nat) (f : Nat → Value) : Nat → Value := fun i => if i < j then .bool (m.testBit i) else f i

theorem over_set {w : World} {b : Nat} {t : TypeId} {n m j : Nat} {f : Nat → Value} (h : w.rowIs b t n (over m j f)) : (w.setCell ⟨b, j, none⟩ (.bool (m.testBit j))).rowIs b t n (over m (j + 1) f) := by
  refine (h.set j _).congr (fun i _ => ?_)
  unfold over
  by_cases e : i = j
  · subst e; simp
  · rw [if_neg e]
    by_cases hlt : i < j
    · rw [if_pos hlt, if_pos (by omega)]
    · rw [if_neg hlt, if_neg (by omega)]

theorem Two.setOther {w : World} {b : Nat} {a0 a1 : Value} (h : Two w b a0 a1) {a : Addr} (ha : b ≠ a.block) (u : Value) : Two (w.setCell a u) b a0 a1 :=
  ⟨by have := h.lt; simpa [World.setCell] using this, by rw [World.cell?_of_block (w := w) (Below.heap_setCell w a u b ha)]; exact h.c0, by rw [World.cell?_of_block (w := w) (Below.heap_setCell w a u b ha)]; exact h.c1⟩

theorem shl_small {n : Nat} (h : n ≤ 12) : wrap64 ((2 : Int) ^ n) = ((2 ^ n : Nat) : Int) := by
  have h1 := two_pow_le h
  have h2 : ((2 : Int) ^ n) = ((2 ^ n : Nat) : Int) := by simp
  rw [h2]
  generalize 2 ^ n = q at *
  unfold wrap64
  omega

theorem and_one_i64 (x : Int) (h0 : 0 ≤ x) (h1 : x < 2147483648) : Go.bits .and .i64 x 1 = x % 2 := by
  have h := bits_mask .i64 31 (by decide) (fun n h₀ h₁ => by rw [IntKind.wrap_i64]; omega) 1 (by decide) x h0 (by simpa using h1)
  simpa using h

theorem shr_bit (m j : Nat) (h : m ≤ 4096) : (Go.bits .and .i64 ((m : Int) / 2 ^ j) 1 == 1) = m.testBit j := by
  have e : (m : Int) / 2 ^ j = ((m / 2 ^ j : Nat) : Int) := by simp
  have hle : m / 2 ^ j ≤ 4096 := Nat.le_trans (Nat.div_le_self _ _) h
  rw [e, and_one_i64 _ (Int.natCast_nonneg _) (by generalize m / 2 ^ j = q at hle ⊢; omega)]
  exact bit_of m j

set_option maxHeartbeats 2000000 in
theorem implCount_any (vars : Int) (v : Value) (xss : List (List Int)) (w : World) (hv : IsRows w v xss) (hn : xss.length ≤ maxLen) (hm : ∀ i, i < xss.length → (xss.getD i []).length ≤ maxLen) :
    Calls Try.prog 16 #[.agg #[.int .i64 vars, v]] w fun e w' => e = .returned (.int .i64 (cntOf vars xss)) ∧ Below w.heap.size w w' := by
  have HV : Hid (∀ w', Below w.heap.size w w' → IsRows w' v xss) := fun w' h => hv.below h
  obtain ⟨ao, cap, rfl, _⟩ := hv
  have HW : Hid (∀ i, i < xss.length → (xss.getD i []).length ≤ maxLen) := hm
  have HL : Hid (xss.length ≤ maxLen) := hn
  clear hm hn
  have hb0 : Hid (Below w.heap.size w (w.alloc (.cells #[.int .i64 vars, .slice ao xss.length cap] 27))) := belOne _ _
  have ht0 : Hid (Two (w.alloc (.cells #[.int .i64 vars, .slice ao xss.length cap] 27)) w.heap.size (.int .i64 vars) (.slice ao xss.length cap)) := Two.new _ _ _ _
  cases hok : okB vars xss with
  | false =>
    have hr : cntOf vars xss = -1 := by unfold cntOf; rw [hok]; simp
    rw [hr]
    have HOK : Hid (okB vars xss = false) := hok
    clear hok hr
    go_enter Try.func16, Try.ntmps16
    go_wp2_with fail
    refine (implCnfOk_any _ _ xss _ (HV.out _ hb0.out) HL.out HW.out).mono ?_
    rintro e w1 ⟨rfl, hb1⟩
    rw [HOK.out]
    have HB1 : Hid (Below w.heap.size w w1) := belNext hb0.out hb1
    clear hb1
    go_wp2
    go_ret
    exact ⟨rfl, HB1.out⟩
  | true =>
    obtain ⟨h0, h60, _⟩ := vars_of_ok hok
    have hlits := lits_of_ok hok
    have HOK : Hid (okB vars xss = true) := hok
    by_cases h12 : vars ≤ 12
    · obtain ⟨n, rfl⟩ := Int.eq_ofNat_of_zero_le h0
      have hr : cntOf n xss = (countB n xss (2 ^ n) : Int) := by unfold cntOf; rw [if_pos ⟨hok, h12⟩]; simp
      rw [hr]
      have HLITS : Hid (∀ xs ∈ xss, ∀ x ∈ xs, litB ((n : Nat) : Int) x = true) := hlits
      clear hok hr hlits
      have hp12 : 2 ^ n ≤ 4096 := two_pow_le (by omega)
      have hmk := run_make_row' (P := Try.prog) 31 4 (.bool false) 1 Try.underlying31 info_bool rfl .i64 .i64 n (by omega) (by omega)
      go_enter Try.func16, Try.ntmps16
      go_wp2_with fail
      refine (implCnfOk_any _ _ xss _ (HV.out _ hb0.out) HL.out HW.out).mono ?_
      rintro e w1 ⟨rfl, hb1⟩
      rw [HOK.out]
      have HB1 : Hid (Below w.heap.size w w1) := belNext hb0.out hb1
      have HT1 : Hid (Two w1 w.heap.size (.int .i64 n) (.slice ao xss.length cap)) := ht0.out.below hb1
      clear hb1
      have hl1 := HT1.out.lt
      have hc10 := HT1.out.c0
      have hc11 := HT1.out.c1
      have HSH : Hid (wrap64 ((2 : Int) ^ n) = ((2 ^ n : Nat) : Int)) := shl_small (by omega)
      go_wp2_with fail
      rw [HSH.out]
      generalize hP : 2 ^ n = p at *
      have HPP : Hid (2 ^ n = p) := hP
      have HK : Hid (n ≤ 60) := by show n ≤ 60; omega
      clear hP
      go_loopw [4, 21] (fun o i wr => ∃ m : Nat, m ≤ p ∧ i = .int .i64 m ∧ o = .int .i64 (countB n xss m : Nat) ∧ Below w.heap.size w wr ∧ Two wr w.heap.size (.int .i64 n) (.slice ao xss.length cap) ∧ ∃ f, wr.rowIs w1.heap.size 4 n f) (fun _ i _ => p - (intOf i).toNat)
      case atStart => exact ⟨0, Nat.zero_le _, rfl, rfl, belNext HB1.out (belOne _ _), HT1.out.below (belOne _ _), _, World.rowIs_made w1 _ n 4⟩
      case round =>
        obtain ⟨m, hm, rfl, rfl, hb, ht, f, hrow⟩ := hrel
        have hcl := countB_le n xss m
        have hcs := countB_succ n xss m
        rename World => wo
        by_cases hmp : m < p
        · have HB : Hid (Below w.heap.size w wo) := hb
          have HT : Hid (Two wo w.heap.size (.int .i64 n) (.slice ao xss.length cap)) := ht
          have HROW : Hid (wo.rowIs w1.heap.size 4 n f) := hrow
          have HCS : Hid (countB n xss (m + 1) = countB n xss m + if allB (wayOf n m) xss = true then 1 else 0) := hcs
          have HLEN : Hid ((wayOf n m).length = n) := wayOf_length n m
          clear hb ht hrow hcs hc10 hc11
          generalize hC : countB n xss m = c at *
          clear hC
          go_wp2
          go_loopw [26] (fun i wi => ∃ j : Nat, j ≤ n ∧ i = .int .i64 j ∧ Below w.heap.size w wi ∧ Two wi w.heap.size (.int .i64 n) (.slice ao xss.length cap) ∧ wi.rowIs w1.heap.size 4 n (over m j f)) (fun i _ => n - (intOf i).toNat)
          case atStart => exact ⟨0, Nat.zero_le _, rfl, HB.out, HT.out, HROW.out.congr (fun i _ => by simp [over])⟩
          case round =>
            rename World => wi
            obtain ⟨j, hj, rfl, hb, ht, hrow⟩ := hrel
            by_cases hjn : j < n
            · have hcell := hrow.cell hjn
              have hfz := hrow.frozen j
              have HBi : Hid (Below w.heap.size w wi) := hb
              have HTi : Hid (Two wi w.heap.size (.int .i64 n) (.slice ao xss.length cap)) := ht
              have HST : Hid ((wi.setCell ⟨w1.heap.size, j, none⟩ (.bool (m.testBit j))).rowIs w1.heap.size 4 n (over m (j + 1) f)) := over_set hrow
              clear hb ht hrow
              generalize over m j f j = old at *
              have HBIT : Hid ((Go.bits .and .i64 ((m : Int) / 2 ^ j) 1 == 1) = m.testBit j) := shr_bit m j (by omega)
              go_wp2
              go_roundw
              case rel => exact ⟨j + 1, by omega, by go_num, HBi.out.setCell (by show w.heap.size ≤ w1.heap.size; omega) _, HTi.out.setOther (by show w.heap.size ≠ w1.heap.size; omega) _, by rw [HBIT.out]; exact HST.out⟩
              case measure => simp [intOf]; omega
            · have HI : Hid (IsBools wi (.slice (some ⟨w1.heap.size, 0, none⟩) n n) (wayOf n m)) := isBools_way (hrow.congr (fun i hi => by unfold over bitsOf; rw [if_pos (by omega), if_pos (by omega)]))
              have HBi : Hid (Below w.heap.size w wi) := hb
              have HTi : Hid (Two wi w.heap.size (.int .i64 n) (.slice ao xss.length cap)) := ht
              have HRi : Hid (wi.rowIs w1.heap.size 4 n (over m j f)) := hrow
              have hy0 := ht.lt
              have hy1 := ht.c0
              have hy2 := ht.c1
              clear hb ht hrow
              cases hall : allB (wayOf n m) xss with
              | true =>
                have HALL : Hid (allB (wayOf n m) xss = true) := hall
                have HC2 : Hid (countB n xss (m + 1) = c + 1) := by show countB n xss (m + 1) = c + 1; rw [HCS.out, if_pos hall]
                clear hall
                go_wp2_with (go_at_call 24; refine (allHold_any _ xss _ (wayOf n m) _ (HV.out _ HBi.out) HL.out HW.out HI.out (by rw [HLEN.out]; exact HK.out) (by rw [HLEN.out]; exact HLITS.out)).mono ?_; rintro e w3 ⟨rfl, rfl⟩; rw [HALL.out])
                go_roundw
                case rel => exact ⟨m + 1, by omega, by go_num, by rw [HC2.out]; go_num, HBi.out, HTi.out, _, HRi.out⟩
                case measure => simp [intOf]; omega
              | false =>
                have HALL : Hid (allB (wayOf n m) xss = false) := hall
                have HC2 : Hid (countB n xss (m + 1) = c) := by show countB n xss (m + 1) = c; rw [HCS.out, if_neg (by rw [hall]; simp)]; rfl
                clear hall
                go_wp2_with (go_at_call 24; refine (allHold_any _ xss _ (wayOf n m) _ (HV.out _ HBi.out) HL.out HW.out HI.out (by rw [HLEN.out]; exact HK.out) (by rw [HLEN.out]; exact HLITS.out)).mono ?_; rintro e w3 ⟨rfl, rfl⟩; rw [HALL.out])
                go_roundw
                case rel => exact ⟨m + 1, by omega, by go_num, by rw [HC2.out], HBi.out, HTi.out, _, HRi.out⟩
                case measure => simp [intOf]; omega
        · obtain rfl : m = p := by omega
          clear hcs
          have HB : Hid (Below w.heap.size w wo) := hb
          clear hb ht
          go_wp2
          go_ret
          exact ⟨ret_int (by rw [HPP.out]), HB.out⟩
    · have hr : cntOf vars xss = -1 := by unfold cntOf; rw [if_neg (fun h => h12 h.2)]
      rw [hr]
      clear hok hr hlits
      go_enter Try.func16, Try.ntmps16
      go_wp2_with fail
      refine (implCnfOk_any _ _ xss _ (HV.out _ hb0.out) HL.out HW.out).mono ?_
      rintro e w1 ⟨rfl, hb1⟩
      rw [HOK.out]
      have HB1 : Hid (Below w.heap.size w w1) := belNext hb0.out hb1
      have HT1 : Hid (Two w1 w.heap.size (.int .i64 vars) (.slice ao xss.length cap)) := ht0.out.below hb1
      clear hb1
      have hl1 := HT1.out.lt
      have hc10 := HT1.out.c0
      have hc11 := HT1.out.c1
      go_wp2
      go_ret
      exact ⟨rfl, HB1.out⟩

end Go.Proofs.Ytidkijffdgdnlaa

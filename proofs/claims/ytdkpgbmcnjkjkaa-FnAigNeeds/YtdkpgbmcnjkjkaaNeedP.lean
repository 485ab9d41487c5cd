/-
  The law FnAigNeeds (what something needs decides it): a circuit and something that is meant are drawn from the bytes that come in; the law answers true at every such argument. No condition: every argument that can be read.
-/
import Derived.Test.YtdkpgbmcnjkjkaaNeedQ
import Derived.Deep.RegionHeld3
import Derived.Deep.DeepCutAuto
namespace Go.Proofs.Ytdkpgbmcnjkjkaa
open Go.ChangeShapes Go.WideShapes Go.ChangeAt Go.RowKit Go.Deep Go.Joins
set_option linter.unusedVariables false

set_option maxRecDepth 100000 in
set_option maxHeartbeats 16000000 in
theorem fnAigNeeds_walk (v : Value) (bs : List Int) (u : Value) (ms : List Int) (w : World) (hv : IsBytes w v bs) (hu : IsBytes w u ms) (hal : ∀ ao n cap b off, v = .slice ao n cap → ao = some ⟨b, off, none⟩ → b < w.heap.size) (hml : bs.length ≤ maxLen) (hmu : ms.length ≤ maxLen) :
    Calls Try.prog 10 #[v, u] w fun e w' => e = .returned (.bool true) ∧ Below w.heap.size w w' := by
  unfold maxLen at hml hmu
  have HV0 : Hid (IsBytes w v bs) := hv
  have HU0 : Hid (IsBytes w u ms) := hu
  have HAL : Hid (∀ ao n cap b off, v = .slice ao n cap → ao = some ⟨b, off, none⟩ → b < w.heap.size) := hal
  obtain ⟨aoc, capc, rfl, -⟩ := hv
  obtain ⟨aou, capu, rfl, -⟩ := hu
  clear hal
  by_cases hbig : bs.length ≤ 1048576
  case neg =>
    go_enter Try.func10, Try.ntmps10
    go_wp2
    go_ret
    exact ⟨rfl, Below.refl _ _⟩
  by_cases hbig2 : ms.length ≤ 1048576
  case neg =>
    go_enter Try.func10, Try.ntmps10
    go_wp2
    go_ret
    exact ⟨rfl, Below.refl _ _⟩
  go_enter Try.func10, Try.ntmps10
  go_wp2_with fail
  refine (drawAigNeeds_any _ bs _ HV0.out hbig HAL.out).mono ?_
  rintro e w0 ⟨inp, al, aa, ab, cl, ca, cb, ls, xs, cs, lit, rfl, hD, hlit0, hlit1⟩
  have hlo := hD.lo
  have hhi := hD.hi
  have hll := hD.ll
  have hla := hD.la
  have hlb := hD.lb
  have L64 : Hid (∀ p ∈ ls, I64 p.1) := hD.l64
  have A64 : Hid (∀ p ∈ xs, I64 p.1 ∧ I64 p.2) := hD.a64
  have B64 : Hid (∀ x ∈ cs, I64 x) := hD.b64
  have HLI : Hid (I64 lit) := by show I64 lit; unfold I64; omega
  obtain ⟨W1, hW1⟩ : ∃ W1, W1 = w0.alloc (.cells #[.int .i64 inp, .slice al ls.length cl, .slice aa xs.length ca, .slice ab cs.length cb] 33) := ⟨_, rfl⟩
  have HF1 : Hid (Four W1 w0.heap.size (.int .i64 inp) (.slice al ls.length cl) (.slice aa xs.length ca) (.slice ab cs.length cb)) := by rw [hW1]; exact Four.new _ _ _ _ _ _
  have HBW : Hid (Below w.heap.size w W1) := by rw [hW1]; exact belNext hD.bel (belOne _ _)
  have HV : Hid (∀ w', Below W1.heap.size W1 w' → IsCir w' al aa ab cl ca cb ls xs cs) := fun w' h => by subst hW1; exact hD.cir.below (belNext (belOne _ _) h)
  have HU : Hid (∀ w', Below W1.heap.size W1 w' → IsBytes w' (.slice aou ms.length capu) ms) := fun w' h => HU0.out.below (belNext HBW.out h)
  have HB1 : Hid (Below W1.heap.size W1 W1) := Below.refl _ _
  have HW1 : Hid (W1 = w0.alloc (.cells #[.int .i64 inp, .slice al ls.length cl, .slice aa xs.length ca, .slice ab cs.length cb] 33)) := hW1
  clear hD hW1
  obtain ⟨k, hk⟩ : ∃ k, okC inp ls xs cs = k := ⟨_, rfl⟩
  have HK : Hid (okC inp ls xs cs = k) := hk
  have HKS : Hid (okS inp ls xs cs = k) := by show okS inp ls xs cs = k; rw [← okC_eq L64.out A64.out B64.out]; exact hk
  clear hk
  go_wp2_with fail
  rw [← HW1.out]
  refine (implAigNeeds_any inp al aa ab cl ca cb ls xs cs lit _ (HV.out _ HB1.out) A64.out HLI.out).mono ?_
  rintro e w2 ⟨a2, m2, c2, vs, rfl, hm2, hm2l, ho2, hb2, hn2⟩
  have HO2 : Hid (IsInts w2 (.slice a2 m2 c2) vs) := ho2.isInts
  have HM2 : Hid (vs.length = m2) := hm2
  have HN2 : Hid (IsNeeds inp ls xs cs lit vs) := hn2
  have hv100 : vs.length ≤ 100 := by omega
  have HB2 : Hid (Below W1.heap.size W1 w2) := hb2
  have HF2 : Hid (Four w2 w0.heap.size (.int .i64 inp) (.slice al ls.length cl) (.slice aa xs.length ca) (.slice ab cs.length cb)) := HF1.out.below hb2
  clear hb2 ho2 hm2 hn2
  have c20 := HF2.out.c0
  have c21 := HF2.out.c1
  have c22 := HF2.out.c2
  have c23 := HF2.out.c3
  have c24 := HF2.out.lt
  go_wp2_with fail
  refine (specAigNeeds_any inp _ _ _ _ _ _ ls xs cs lit _ (HV.out _ HB2.out) L64.out A64.out B64.out).mono ?_
  rintro e w3 ⟨a3, m3, c3, us, rfl, hm3, hm3l, ho3, hb3, hn3⟩
  obtain rfl : us = vs := hn3.uniq HN2.out
  have HO3 : Hid (IsInts w3 (.slice a3 m3 c3) us) := ho3.isInts
  have HL3 : Hid (IsInts w3 (.slice a2 m2 c2) us) := HO2.out.below hb3
  have HB3 : Hid (Below W1.heap.size W1 w3) := belNext HB2.out hb3
  have HF3 : Hid (Four w3 w0.heap.size (.int .i64 inp) (.slice al ls.length cl) (.slice aa xs.length ca) (.slice ab cs.length cb)) := HF2.out.below hb3
  clear hb3 ho3 hm3 hn3 c20 c21 c22 c23 c24
  go_wp2_with fail
  refine (rgInts_below _ _ us _ HL3.out HO3.out hv100).mono ?_
  rintro e w4 ⟨rfl, hb4⟩
  have HL4 : Hid (IsInts w4 (.slice a2 m2 c2) us) := HL3.out.below hb4
  have HB4 : Hid (Below W1.heap.size W1 w4) := belNext HB3.out hb4
  have HF4 : Hid (Four w4 w0.heap.size (.int .i64 inp) (.slice al ls.length cl) (.slice aa xs.length ca) (.slice ab cs.length cb)) := HF3.out.below hb4
  clear hb4
  have c20 := HF4.out.c0
  have c21 := HF4.out.c1
  have c22 := HF4.out.c2
  have c23 := HF4.out.c3
  have c24 := HF4.out.lt
  go_wp2_with fail
  refine (specAigOk_any inp al aa ab cl ca cb ls xs cs _ (HV.out _ HB4.out)).mono ?_
  rintro e w5 ⟨he, hb5⟩
  rw [HKS.out] at he
  subst he
  have HL5 : Hid (IsInts w5 (.slice a2 m2 c2) us) := HL4.out.below hb5
  have HB5 : Hid (Below W1.heap.size W1 w5) := belNext HB4.out hb5
  have HF5 : Hid (Four w5 w0.heap.size (.int .i64 inp) (.slice al ls.length cl) (.slice aa xs.length ca) (.slice ab cs.length cb)) := HF4.out.below hb5
  clear hb5 c20 c21 c22 c23 c24
  have c20 := HF5.out.c0
  have c21 := HF5.out.c1
  have c22 := HF5.out.c2
  have c23 := HF5.out.c3
  have c24 := HF5.out.lt
  by_cases hgood : k = true ∧ 0 ≤ lit ∧ lit / 2 ≤ inp + (ls.length : Int) + (xs.length : Int)
  case neg =>
    have tail : k = false ∨ (k = true ∧ lit < 0) ∨ (k = true ∧ 0 ≤ lit ∧ inp + (ls.length : Int) + (xs.length : Int) < lit / 2) := by
      cases k
      · exact .inl rfl
      · by_cases h : lit < 0
        · exact .inr (.inl ⟨rfl, h⟩)
        · refine .inr (.inr ⟨rfl, by omega, ?_⟩)
          by_cases h2 : lit / 2 ≤ inp + (ls.length : Int) + (xs.length : Int)
          · exact absurd ⟨rfl, by omega, h2⟩ hgood
          · omega
    clear hgood
    rcases tail with rfl | ⟨rfl, hl0⟩ | ⟨rfl, hl0, hl1⟩
    all_goals
      go_wp2_with fail
      refine (specAigNeeds_any inp _ _ _ _ _ _ ls xs cs lit _ (HV.out _ HB5.out) L64.out A64.out B64.out).mono ?_
      rintro e w6 ⟨a6, m6, c6, ts, rfl, hm6, hm6l, ho6, hb6, hn6⟩
      obtain rfl : ts = us := hn6.uniq HN2.out
      have HO6 : Hid (IsInts w6 (.slice a6 m6 c6) ts) := ho6.isInts
      have HL6 : Hid (IsInts w6 (.slice a2 m2 c2) ts) := HL5.out.below hb6
      have HB6 : Hid (Below W1.heap.size W1 w6) := belNext HB5.out hb6
      clear hb6 ho6 hm6 hn6
      go_wp2_with fail
      refine (rgInts_below _ _ ts _ HL6.out HO6.out hv100).mono ?_
      rintro e w7 ⟨rfl, hb7⟩
      have HB7 : Hid (Below W1.heap.size W1 w7) := belNext HB6.out hb7
      clear hb7
      go_wp2
      go_ret
      exact ⟨rfl, belNext HBW.out HB7.out⟩
  case pos =>
    obtain ⟨rfl, hl0, hl1⟩ := hgood
    obtain ⟨z0, z1, z2, z3, z4⟩ := sizes_ok HK.out
    obtain ⟨i0, rfl⟩ : ∃ i0 : Nat, inp = (i0 : Int) := ⟨inp.toNat, by omega⟩
    obtain ⟨N, hN⟩ : ∃ N, i0 + ls.length = N := ⟨_, rfl⟩
    have hNi : (i0 : Int) + (ls.length : Int) = (N : Int) := by omega
    have hN16 : N ≤ 16 := by omega
    have HNN : Hid (i0 + ls.length = N) := hN
    have HBB : Hid (Both ((w5.alloc (.cells #[] 4)).alloc (.cells #[] 4)) w5.heap.size 0 (.slice (some ⟨w5.heap.size, 0, none⟩) 0 0) (.slice (some ⟨w5.heap.size + 1, 0, none⟩) 0 0) [] []) := both_empty w5 0
    have HBL : Hid (Below w5.heap.size w5 ((w5.alloc (.cells #[] 4)).alloc (.cells #[] 4))) := belNext (belOne _ _) (belOne _ _)
    clear hN
    go_wp2_with fail
    go_loopw [9, 10, 11] (fun X Y i wr => ∃ gx cx gy cy q, q ≤ N ∧ i = .int .i64 (q : Nat) ∧ X = .slice (some ⟨gx, 0, none⟩) q cx ∧ Y = .slice (some ⟨gy, 0, none⟩) q cy ∧ Hid (Both wr w5.heap.size 0 (.slice (some ⟨gx, 0, none⟩) q cx) (.slice (some ⟨gy, 0, none⟩) q cy) (tab (oddB ms) q) (tab (fun i => oddB ms i == hasB us ((i : Int) + 1)) q)) ∧ Hid (Below w5.heap.size w5 wr)) (fun _ _ i _ => N - (intOf i).toNat)
    case atStart => exact ⟨_, 0, _, 0, 0, Nat.zero_le _, rfl, rfl, rfl, HBB, HBL⟩
    case round =>
      rename World => wg
      obtain ⟨gx, cx, gy, cy, q, hq, rfl, rfl, rfl, hBO, hBE⟩ := hrel
      by_cases hlt : q < N
      · obtain ⟨o, ho⟩ : ∃ o, oddB ms q = o := ⟨_, rfl⟩
        obtain ⟨hh, hhe⟩ : ∃ hh, hasB us ((q : Int) + 1) = hh := ⟨_, rfl⟩
        have HO : Hid (oddB ms q = o) := ho
        have HH : Hid (hasB us ((q : Int) + 1) = hh) := hhe
        have HXT : Hid (tab (oddB ms) (q + 1) = tab (oddB ms) q ++ [o]) := by show _ = _; rw [tab_succ, ho]
        have HYT : Hid (tab (fun i => oddB ms i == hasB us ((i : Int) + 1)) (q + 1) = tab (fun i => oddB ms i == hasB us ((i : Int) + 1)) q ++ [o == hh]) := by show _ = _; rw [tab_succ, ho, hhe]
        have HXL : Hid ((tab (oddB ms) q).length = q) := tab_length _ _
        have HYL : Hid ((tab (fun i => oddB ms i == hasB us ((i : Int) + 1)) q).length = q) := tab_length _ _
        have HCL : Hid (∀ w', Below wg.heap.size wg w' → IsInts w' (.slice a2 m2 c2) us) := fun w' h => HL5.out.below (belNext hBE.out h)
        have hbs := hBE.out.size
        clear hhe c20 c21 c22 c23 c24
        have HB0 : Hid (Both (wg.alloc (.cells #[.bool o] 4)) w5.heap.size 0 (.slice (some ⟨gx, 0, none⟩) q cx) (.slice (some ⟨gy, 0, none⟩) q cy) (tab (oddB ms) q) (tab (fun i => oddB ms i == hasB us ((i : Int) + 1)) q)) := hBO.out.below (belOne _ _)
        have HE0 : Hid (Below w5.heap.size w5 (wg.alloc (.cells #[.bool o] 4))) := belNext hBE.out (belOne _ _)
        have hsz0 : w5.heap.size ≤ (wg.alloc (.cells #[.bool o] 4)).heap.size := HE0.out.size
        have HBO := hBO
        clear hBO
        by_cases hin : q < ms.length
        · obtain ⟨z, b, off, rfl, hz0, hz1, hcz, hoz⟩ : ∃ z b off, aou = some ⟨b, off, none⟩ ∧ 0 ≤ z ∧ z ≤ 255 ∧ wg.cell? ⟨b, off + q, none⟩ = some (.int .u8 z) ∧ o = decide (z % 2 = 1) := by
            obtain ⟨ao, cap, he, _, h3, h4⟩ := HU.out _ (belNext HB5.out hBE.out)
            cases he
            obtain ⟨b, off, ha, hc⟩ := h3 (by intro e; subst e; simp at hin)
            refine ⟨ms.getD q 0, b, off, ha, (h4 q hin).1, (h4 q hin).2, hc q hin, ?_⟩
            rw [← ho]; unfold oddB; simp [hin]
          clear ho
          obtain ⟨m, hm⟩ : ∃ m, z % 2 = m := ⟨_, rfl⟩
          have hm0 : 0 ≤ m := by omega
          have hm1 : m ≤ 1 := by omega
          have hzt : z.tmod 2 = m := by rw [Int.tmod_eq_emod_of_nonneg hz0]; exact hm
          have hzo : (m == 1) = o := by rw [hoz, hm]; rcases (show m = 0 ∨ m = 1 by omega) with e | e <;> subst e <;> rfl
          clear hoz
          go_wp2_with (first
            | (at_builtin; refine wpList_push2 rfl _ _ rfl w5.heap.size _ _ _ (o == hh) rfl rfl HBC.out.y hsz2 (bits_one _ _) q HYL (by omega) ?_; intro g3 cp3 wC hown3 hgr3 hat3)
            | (at_builtin; refine wpList_push2 rfl _ _ rfl w5.heap.size _ _ _ o rfl rfl HB0.out.x hsz0 (bits_one _ _) q HXL (by omega) ?_; intro g1 cp1 wA hown1 hgr1 hat1; have HBA := hideD (HB0.out.pushX hown1 hgr1 hat1); have HEA : Hid (Below w5.heap.size w5 wA) := HB0.out.grown HE0.out hsz0 hgr1; have hbsA := HEA.out.size; clear hown1 hgr1 hat1)
            | (go_at_call 41; refine (rgHas_any _ us _ _ (HL5.out.below HEA.out) (by omega)).mono ?_; rintro e wB ⟨he, hw'⟩; rw [HH.out] at he; subst he; subst hw'; have HBC := hideD (HBA.out.below (belOne wB (.cells #[.bool (o == hh)] 4))); have HE2 : Hid (Below w5.heap.size w5 (wB.alloc (.cells #[.bool (o == hh)] 4))) := belNext HEA.out (belOne _ _); have hsz2 := HE2.out.size))
          have HBD := hideD (HBC.out.swap.pushX hown3 hgr3 hat3).swap
          have HED : Hid (Below w5.heap.size w5 wC) := HBC.out.swap.grown HE2.out hsz2 hgr3
          clear hown3 hgr3 hat3
          go_wp2_with fail
          go_roundw
          case rel => exact ⟨g1, cp1, g3, cp3, q + 1, by omega, by go_num, rfl, rfl, by rw [HXT.out, HYT.out]; exact HBD, HED⟩
          case measure => simp [intOf]; omega
        · obtain rfl : o = false := by rw [← ho]; unfold oddB; simp [hin]
          clear ho
          have HYT2 : Hid (tab (fun i => oddB ms i == hasB us ((i : Int) + 1)) (q + 1) = tab (fun i => oddB ms i == hasB us ((i : Int) + 1)) q ++ [!hh]) := by show _ = _; rw [HYT.out]; cases hh <;> rfl
          go_wp2_with (first
            | (at_builtin; refine wpList_push2 rfl _ _ rfl w5.heap.size _ _ _ (!hh) rfl rfl HBC.out.y hsz2 (bits_one _ _) q HYL (by omega) ?_; intro g3 cp3 wC hown3 hgr3 hat3)
            | (at_builtin; refine wpList_push2 rfl _ _ rfl w5.heap.size _ _ _ false rfl rfl HB0.out.x hsz0 (bits_one _ _) q HXL (by omega) ?_; intro g1 cp1 wA hown1 hgr1 hat1; have HBA := hideD (HB0.out.pushX hown1 hgr1 hat1); have HEA : Hid (Below w5.heap.size w5 wA) := HB0.out.grown HE0.out hsz0 hgr1; have hbsA := HEA.out.size; clear hown1 hgr1 hat1)
            | (go_at_call 41; refine (rgHas_any _ us _ _ (HL5.out.below HEA.out) (by omega)).mono ?_; rintro e wB ⟨he, hw'⟩; rw [HH.out] at he; subst he; subst hw'; have HBC := hideD (HBA.out.below (belOne wB (.cells #[.bool (!hh)] 4))); have HE2 : Hid (Below w5.heap.size w5 (wB.alloc (.cells #[.bool (!hh)] 4))) := belNext HEA.out (belOne _ _); have hsz2 := HE2.out.size))
          have HBD := hideD (HBC.out.swap.pushX hown3 hgr3 hat3).swap
          have HED : Hid (Below w5.heap.size w5 wC) := HBC.out.swap.grown HE2.out hsz2 hgr3
          clear hown3 hgr3 hat3
          go_wp2_with fail
          go_roundw
          case rel => exact ⟨g1, cp1, g3, cp3, q + 1, by omega, by go_num, rfl, rfl, by rw [HXT.out, HYT2.out]; exact HBD, HED⟩
          case measure => simp [intOf]; omega
      · obtain rfl : q = N := by omega
        have HXL : Hid ((tab (oddB ms) q).length = q) := tab_length _ _
        have HYL : Hid ((tab (fun i => oddB ms i == hasB us ((i : Int) + 1)) q).length = q) := tab_length _ _
        have HF6 : Hid (Four wg w0.heap.size (.int .i64 (i0 : Int)) (.slice al ls.length cl) (.slice aa xs.length ca) (.slice ab cs.length cb)) := HF5.out.below hBE.out
        have HB6 : Hid (Below W1.heap.size W1 wg) := belNext HB5.out hBE.out
        have hcx : q ≤ cx := own_cap hBO.out.x (by rw [HXL.out]; exact Nat.le_refl _)
        have hcy : q ≤ cy := own_cap hBO.out.y (by rw [HYL.out]; exact Nat.le_refl _)
        clear c20 c21 c22 c23 c24
        have c20 := HF6.out.c0
        have c21 := HF6.out.c1
        have c22 := HF6.out.c2
        have c23 := HF6.out.c3
        have c24 := HF6.out.lt
        have hI0 : (0 : Int) ≤ (i0 : Int) := by omega
        have hI1 : (i0 : Int) ≤ (q : Int) := by omega
        have hI2 : (q : Int) ≤ (cx : Int) := by omega
        have hI3 : (q : Int) ≤ (cy : Int) := by omega
        have hI4 : (i0 : Int) ≤ (cx : Int) := by omega
        have hI5 : (i0 : Int) ≤ (cy : Int) := by omega
        have HLQ : Hid (q - i0 = ls.length) := by have := HNN.out; show _ = _; omega
        go_wp2_with fail
        have HOK : Hid (okC (i0 : Int) ls xs cs = true) := HK.out
        obtain ⟨apx, hapx⟩ : ∃ ap : Option Addr, (if cx = i0 then some ⟨gx, 0, none⟩ else some ⟨gx, i0, none⟩) = ap := ⟨_, rfl⟩
        obtain ⟨apy, hapy⟩ : ∃ ap : Option Addr, (if cy = i0 then some ⟨gy, 0, none⟩ else some ⟨gy, i0, none⟩) = ap := ⟨_, rfl⟩
        have HVX : Hid (∀ (zs : List Bool) V, zs.length = q → IsCir V al aa ab cl ca cb ls xs cs → Ownb V w5.heap.size (.slice (some ⟨gx, 0, none⟩) q cx) zs → Calls Try.prog 15 #[.agg #[.int .i64 (i0 : Int), .slice al ls.length cl, .slice aa xs.length ca, .slice ab cs.length cb], .slice apx (q - i0) (cx - i0), .slice (some ⟨gx, 0, none⟩) i0 cx] V (ValPost (valF ([false] ++ zs) xs xs.length) V)) := fun zs V h0 h1 h2 => by rw [← hapx]; exact values_row i0 al aa ab cl ca cb ls xs cs gx q cx w5.heap.size zs V h1 HOK.out A64.out h0 HNN.out (by omega) h2
        have HVY : Hid (∀ (zs : List Bool) V, zs.length = q → IsCir V al aa ab cl ca cb ls xs cs → Ownb V w5.heap.size (.slice (some ⟨gy, 0, none⟩) q cy) zs → Calls Try.prog 15 #[.agg #[.int .i64 (i0 : Int), .slice al ls.length cl, .slice aa xs.length ca, .slice ab cs.length cb], .slice apy (q - i0) (cy - i0), .slice (some ⟨gy, 0, none⟩) i0 cy] V (ValPost (valF ([false] ++ zs) xs xs.length) V)) := fun zs V h0 h1 h2 => by rw [← hapy]; exact values_row i0 al aa ab cl ca cb ls xs cs gy q cy w5.heap.size zs V h1 HOK.out A64.out h0 HNN.out (by omega) h2
        go_region_held3 (fun w' => w'.cell? ⟨w0.heap.size, 0, none⟩ = some (.int .i64 (i0 : Int)) ∧ w'.cell? ⟨w0.heap.size, 1, none⟩ = some (.slice al ls.length cl) ∧ w'.cell? ⟨w0.heap.size, 2, none⟩ = some (.slice aa xs.length ca) ∧ w'.cell? ⟨w0.heap.size, 3, none⟩ = some (.slice ab cs.length cb))
          (first | exact ⟨by assumption, by assumption, by assumption, by assumption⟩ | (go_keep; done))
          (first | (go_simp; go_at_call 15; refine (HVX.out (tab (oddB ms) q) _ HXL.out (HV.out _ (by first | exact HB6.out | exact HB6.out.drew)) (by exact hBO.out.x)).mono ?_; rintro e w8 ⟨a8, m8, c8, rfl, hm8, ho8, hbz⟩; have hb8 : Below wg.heap.size wg w8 := (by first | exact hbz | exact undrew hbz); have HO8 : Hid (Ownb w8 wg.heap.size (.slice a8 m8 c8) (valF ([false] ++ tab (oddB ms) q) xs xs.length)) := ho8; have HM8 : Hid ((valF ([false] ++ tab (oddB ms) q) xs xs.length).length = m8) := hm8; have HB8 : Hid (Below W1.heap.size W1 w8) := belNext HB6.out hb8; have HBO8 := hideD (hBO.out.below hb8); have HE8 : Hid (Below w5.heap.size w5 w8) := belNext hBE.out hb8; have HF8 := hideD (HF6.out.below hb8); have t0 := HF8.out.c0; have t1 := HF8.out.c1; have t2 := HF8.out.c2; have t3 := HF8.out.c3; clear hbz hb8 ho8 hm8))
        clear c20 c21 c22 c23 c24 t0 t1 t2 t3
        have c80 := HF8.out.c0
        have c81 := HF8.out.c1
        have c82 := HF8.out.c2
        have c83 := HF8.out.c3
        have c84 := HF8.out.lt
        go_wp2_with fail
        go_region_held3 (fun w' => w'.cell? ⟨w0.heap.size, 0, none⟩ = some (.int .i64 (i0 : Int)) ∧ w'.cell? ⟨w0.heap.size, 1, none⟩ = some (.slice al ls.length cl) ∧ w'.cell? ⟨w0.heap.size, 2, none⟩ = some (.slice aa xs.length ca) ∧ w'.cell? ⟨w0.heap.size, 3, none⟩ = some (.slice ab cs.length cb))
          (first | exact ⟨by assumption, by assumption, by assumption, by assumption⟩ | (go_keep; done))
          (first | (go_simp; go_at_call 15; refine (HVY.out (tab (fun i => oddB ms i == hasB us ((i : Int) + 1)) q) _ HYL.out (HV.out _ (by first | exact HB8.out | exact HB8.out.drew)) (by exact HBO8.out.y)).mono ?_; rintro e w9 ⟨a9, m9, c9, rfl, hm9, ho9, hbz⟩; have hb9 : Below w8.heap.size w8 w9 := (by first | exact hbz | exact undrew hbz); have HO9 : Hid (Ownb w9 wg.heap.size (.slice a8 m8 c8) (valF ([false] ++ tab (oddB ms) q) xs xs.length)) := HO8.out.below hb9; have HB9 : Hid (Below W1.heap.size W1 w9) := belNext HB8.out hb9; have HBO9 := hideD (HBO8.out.below hb9); have HE9 : Hid (Below w5.heap.size w5 w9) := belNext HE8.out hb9; have HF9 := hideD (HF8.out.below hb9); have t0 := HF9.out.c0; have t1 := HF9.out.c1; have t2 := HF9.out.c2; have t3 := HF9.out.c3; clear hbz hb9 ho9 hm9))
        clear c80 c81 c82 c83 c84 t0 t1 t2 t3
        have hgy : w5.heap.size ≤ gy ∧ gy < wg.heap.size := hBO.out.y.blk gy rfl
        go_wp2_with fail
        go_loopw [15] (fun i wr => ∃ p yl, p ≤ q ∧ i = .int .i64 (p : Nat) ∧ Hid (yl.length = q) ∧ Hid (∀ j, j < p → yl.getD j false = (oddB ms j == hasB us ((j : Int) + 1))) ∧ Hid (Both wr w5.heap.size 0 (.slice (some ⟨gx, 0, none⟩) q cx) (.slice (some ⟨gy, 0, none⟩) q cy) (tab (oddB ms) q) yl) ∧ Hid (Below w5.heap.size w5 wr) ∧ Hid (Ownb wr wg.heap.size (.slice a8 m8 c8) (valF ([false] ++ tab (oddB ms) q) xs xs.length))) (fun i _ => q - (intOf i).toNat)
        case atStart => exact ⟨0, _, Nat.zero_le _, rfl, HYL, fun j hj => by omega, HBO9, HE9, HO9⟩
        case round =>
          rename World => wh
          obtain ⟨p, yl, hp, rfl, hyl, hyv, hBh, hEh, hOh⟩ := hrel
          by_cases hlp : p < q
          · have d0 : wh.cell? ⟨gx, p, none⟩ = some (.bool (oddB ms p)) := by have h := hBh.out.x.cellG p (by rw [HXL.out]; exact hlp); rw [tab_get _ _ _ hlp] at h; exact h
            have d1 := hBh.out.y.cellG p (by rw [hyl.out]; exact hlp)
            have d2 := hBh.out.y.frozenG p
            obtain ⟨hh, hhe⟩ : ∃ hh, hasB us ((p : Int) + 1) = hh := ⟨_, rfl⟩
            obtain ⟨o, ho⟩ : ∃ o, oddB ms p = o := ⟨_, rfl⟩
            rw [ho] at d0
            have HH : Hid (hasB us ((p : Int) + 1) = hh) := hhe
            have HST : Hid (∀ b, b = (o == hh) → (yl.set p b).length = q ∧ (∀ j, j < p + 1 → (yl.set p b).getD j false = (oddB ms j == hasB us ((j : Int) + 1))) ∧ Both (wh.setCell ⟨gy, p, none⟩ (.bool b)) w5.heap.size 0 (.slice (some ⟨gx, 0, none⟩) q cx) (.slice (some ⟨gy, 0, none⟩) q cy) (tab (oddB ms) q) (yl.set p b) ∧ Below w5.heap.size w5 (wh.setCell ⟨gy, p, none⟩ (.bool b)) ∧ Ownb (wh.setCell ⟨gy, p, none⟩ (.bool b)) wg.heap.size (.slice a8 m8 c8) (valF ([false] ++ tab (oddB ms) q) xs xs.length)) := fun b hb => by
              refine ⟨by rw [List.length_set]; exact hyl.out, fun j hj => ?_, hBh.out.setY p (by rw [hyl.out]; exact hlp) b, hEh.out.setCell (p := ⟨gy, p, none⟩) hgy.1 _, hOh.out.of_block (fun k e => blk_setCell_other _ _ _ _ (fun e2 => by have e3 : k = gy := e2; have := (hOh.out.blk k e).1; omega))⟩
              by_cases e : j = p
              · subst e
                rw [ho, hhe, hb, List.getD, List.getElem?_set_self (by rw [hyl.out]; exact hlp)]
                rfl
              · rw [List.getD, List.getElem?_set_ne (fun h => e h.symm)]
                exact hyv.out j (by omega)
            have HLW : Hid (IsInts wh (.slice a2 m2 c2) us) := HL5.out.below hEh.out
            clear ho hhe hBh hEh hOh hyv hyl
            generalize yl.getD p false = yo at *
            go_wp2_with fail
            refine (rgHas_any _ us _ _ HLW.out (by omega)).mono ?_
            rintro e wi ⟨he, hw'⟩
            rw [HH.out] at he
            subst he
            subst hw'
            cases hh
            · obtain ⟨e1, e2, e3, e4, e5⟩ := HST.out (!o) (by cases o <;> rfl)
              have E1 := hideD e1
              have E2 := hideD e2
              have E3 := hideD e3
              have E4 := hideD e4
              have E5 := hideD e5
              clear e1 e2 e3 e4 e5
              go_wp2_with fail
              go_roundw
              case rel => exact ⟨p + 1, _, by omega, by go_num, E1, E2, E3, E4, E5⟩
              case measure => simp [intOf]; omega
            · obtain ⟨e1, e2, e3, e4, e5⟩ := HST.out o (by cases o <;> rfl)
              have E1 := hideD e1
              have E2 := hideD e2
              have E3 := hideD e3
              have E4 := hideD e4
              have E5 := hideD e5
              clear e1 e2 e3 e4 e5
              go_wp2_with fail
              go_roundw
              case rel => exact ⟨p + 1, _, by omega, by go_num, E1, E2, E3, E4, E5⟩
              case measure => simp [intOf]; omega
          · obtain rfl : p = q := by omega
            have HBh : Hid (Below W1.heap.size W1 wh) := belNext HB5.out hEh.out
            have HFh := hideD (HF5.out.below hEh.out)
            have t0 := HFh.out.c0
            have t1 := HFh.out.c1
            have t2 := HFh.out.c2
            have t3 := HFh.out.c3
            have t4 := HFh.out.lt
            go_wp2_with fail
            go_region_held3 (fun w' => w'.cell? ⟨w0.heap.size, 0, none⟩ = some (.int .i64 (i0 : Int)) ∧ w'.cell? ⟨w0.heap.size, 1, none⟩ = some (.slice al ls.length cl) ∧ w'.cell? ⟨w0.heap.size, 2, none⟩ = some (.slice aa xs.length ca) ∧ w'.cell? ⟨w0.heap.size, 3, none⟩ = some (.slice ab cs.length cb))
              (first | exact ⟨by assumption, by assumption, by assumption, by assumption⟩ | (go_keep; done))
              (first | (go_simp; go_at_call 15; refine (HVY.out yl _ hyl.out (HV.out _ (by first | exact HBh.out | exact HBh.out.drew)) (by exact hBh.out.y)).mono ?_; rintro e w11 ⟨a11, m11, c11, rfl, hm11, ho11, hbz⟩; have hb11 : Below wh.heap.size wh w11 := (by first | exact hbz | exact undrew hbz); have HO11 : Hid (Ownb w11 wg.heap.size (.slice a8 m8 c8) (valF ([false] ++ tab (oddB ms) p) xs xs.length)) := hOh.out.below hb11; have HP11 : Hid (Ownb w11 wh.heap.size (.slice a11 m11 c11) (valF ([false] ++ yl) xs xs.length)) := ho11; have HM11 : Hid ((valF ([false] ++ yl) xs xs.length).length = m11) := hm11; have HE11 : Hid (Below w5.heap.size w5 w11) := belNext hEh.out hb11; have HF11 := hideD (HFh.out.below hb11); have s0 := HF11.out.c0; have s1 := HF11.out.c1; have s2 := HF11.out.c2; have s3 := HF11.out.c3; clear hbz hb11 ho11 hm11))
            clear t0 t1 t2 t3 t4 s0 s1 s2 s3
            obtain ⟨S, F, hF, hLS, hvs⟩ := HN2.out.1 ⟨HOK.out, hl0, by omega⟩
            have hFp : F = 1 + p := by have := HNN.out; omega
            have hah : Ahead F xs := ahead_ok HOK.out A64.out hF
            have hFx : F + xs.length ≤ 100 := by omega
            obtain ⟨nd, hnd⟩ : ∃ nd : Nat, lit / 2 = (nd : Int) := ⟨(lit / 2).toNat, by omega⟩
            have hndF : nd < F + xs.length := by omega
            have hSnd : S nd = true := by have h := hLS.has; rw [show (lit / 2).toNat = nd by omega] at h; exact h
            have hsl1 : ([false] ++ tab (oddB ms) p).length = F := by rw [List.length_append, HXL.out, hFp]; rfl
            have hsl2 : ([false] ++ yl).length = F := by rw [List.length_append, hyl.out, hFp]; rfl
            have hag := agree hLS.cl hah ([false] ++ tab (oddB ms) p) ([false] ++ yl) hsl1 hsl2 (fun j hj hS => by
              rcases Nat.eq_zero_or_pos j with e | e
              · subst e; rfl
              · obtain ⟨k, rfl⟩ : ∃ k, j = k + 1 := ⟨j - 1, by omega⟩
                have hk : k < p := by omega
                have hhas : hasB us ((k : Int) + 1) = true := by rw [hvs]; have h := pickN_has S (F + xs.length) (k + 1) (by omega) (by omega); rw [hS] at h; exact h
                show (tab (oddB ms) p).getD k false = yl.getD k false
                rw [tab_get _ _ _ hk, hyv.out k hk, hhas]
                cases oddB ms k <;> rfl) nd hndF hSnd
            have hlen1 := valF_length ([false] ++ tab (oddB ms) p) xs xs.length (Nat.le_refl _)
            have hlen2 := valF_length ([false] ++ yl) xs xs.length (Nat.le_refl _)
            rw [hsl1] at hlen1
            rw [hsl2] at hlen2
            obtain ⟨g8, cp8, hg8, _, _⟩ := HO11.out.cons_form (by omega)
            obtain ⟨g11, cp11, hg11, _, _⟩ := HP11.out.cons_form (by omega)
            rw [hlen1] at hg8
            rw [hlen2] at hg11
            injection hg8 with e1 e2 e3
            injection hg11 with e4 e5 e6
            subst e1 e2 e3 e4 e5 e6
            have r1 := HO11.out.cellG nd (by omega)
            have r2 := HP11.out.cellG nd (by omega)
            rw [hag] at r1
            have hul : us.length ≤ F + xs.length := by rw [hvs]; exact pickN_le _ _
            have HLW : Hid (∀ n, IsInts (w11.drewN n) (.slice a2 m2 c2) us) := fun n => (HL5.out.below HE11.out).drewN n
            have hqt : lit.tdiv 2 = (nd : Int) := by rw [Int.tdiv_eq_ediv_of_nonneg hl0]; exact hnd
            have hw1 : IntKind.i64.wrap (nd : Int) = (nd : Int) := by rw [IntKind.wrap_i64]; omega
            have hm2F : (m2 : Int) ≤ ((F + xs.length : Nat) : Int) := by have := HM2.out; omega
            have HHN : Hid (0 < nd → hasB us (nd : Int) = true) := fun h => by rw [hvs, pickN_has S (F + xs.length) nd hndF h]; exact hSnd
            have hndI : (nd : Int) < ((F + xs.length : Nat) : Int) := by omega
            generalize (valF ([false] ++ yl) xs xs.length).getD nd false = vb at *
            clear hag hlen1 hlen2 hsl1 hsl2 hah hvs hLS hyv hyl hF hFp
            generalize F + xs.length = M at *
            have hdl : decide ((m2 : Int) ≤ (M : Int)) = true := by simpa using hm2F
            have HEND : Hid (∀ n, Below w.heap.size w (w11.drewN n)) := fun n => below_drewN (belNext HBW.out (belNext HB5.out HE11.out)) n
            by_cases hl2 : lit < 2
            · have hd : decide (lit < 2) = true := by simpa using hl2
              go_wp2_with fail
              go_quiet (fail)
              go_wp2
              go_ret
              exact ⟨by simp, HEND.out _⟩
            · have hd : decide (lit < 2) = false := by simpa using hl2
              have HHZ : Hid (∀ n, Calls Try.prog 41 #[.slice a2 m2 c2, .int .i64 (nd : Int)] (w11.drewN n) fun e w' => e = .returned (.bool true) ∧ w' = w11.drewN n) := fun n => by
                have h := rgHas_any _ us (nd : Int) _ (HLW.out n) (by omega)
                rw [HHN.out (by omega)] at h
                exact h
              go_wp2_with fail
              go_quiet ((go_at_call 41; exact Calls.quiet_of_same (HHZ.out _)))
              go_wp2
              go_ret
              exact ⟨by simp, HEND.out _⟩

set_option maxRecDepth 100000 in
theorem fnAigNeeds_lifted (os : Os) (started : os.Started) (H : Type) (enc : TypeId × Value → H) :
    ReturnsInHanded {} Try.checked os 10 .any (Rows.fnAigNeedsSpec.pre6 enc Try.prog Try.f10 Rows.fnAigNeedsRow.domain false) (Rows.fnAigNeedsSpec.post enc Try.prog Try.f10 false true false false) := by
  refine returnsInHanded_of_change (C := Try.checked) own started (by kernel_rfl) Try.func10
    (ChangeSpec.witness6 (enc := enc) (C := Try.checked) false ⟨#[], #[.slice none 0 0, .slice none 0 0], []⟩ 8 (by kernel_rfl) (by kernel_rfl) (by kernel_rfl) (by kernel_rfl)) ?_
  intro W base args ds gs before hval0 hW hcnd _
  have hval : ∀ (j : Nat) t v, Try.f10.params[j]? = some t → args[j]? = some v → Value.okWide Try.prog W .any base t v := hval0
  have hW' := hW
  obtain ⟨p, q, hA0, hV, rfl, hfz, hnd⟩ := hW
  have hA : DataW.TrodAll enc Try.prog W 0 (fun _ => true) true Try.f10.params.toList args.toList ds p := hA0
  rw [Try.params10] at hA hval
  obtain ⟨v0, vs0, d0, ds0, p0, q0, hargs, rfl, rfl, h0, r0⟩ := trodAll_cons hA
  obtain ⟨v1, vs1, d1, ds1, p1, q1, rfl, rfl, rfl, h1, r1⟩ := trodAll_cons r0
  obtain ⟨rfl, rfl, rfl⟩ := trodAll_nil r1
  obtain rfl : args = #[v0, v1] := by cases args; simp_all
  obtain ⟨rfl, rfl⟩ := trodVars_none hV
  have k0 := h0
  have k1 := h1
  have lt0 : ∀ x ∈ p0, x.block < W.heap.size := by obtain ⟨m, hm⟩ := k0; exact DataW.trod_lt m _ _ _ hm
  have lt1 : ∀ x ∈ p1, x.block < W.heap.size := by obtain ⟨m, hm⟩ := k1; exact DataW.trod_lt m _ _ _ hm
  have hv0 := hval 0 53 v0 rfl rfl
  obtain ⟨ao, len, cap, rfl⟩ := okWide_slice Try.underlying53 hv0
  obtain ⟨fuel, hf⟩ := h0
  obtain ⟨bs, hbs, hml⟩ := isBytes_of_trod (by simpa [Value.cells] using hf)
  obtain ⟨ao1, len1, cap1, rfl⟩ := okWide_slice Try.underlying53 (hval 1 53 v1 rfl rfl)
  obtain ⟨fuel1, hf1⟩ := h1
  obtain ⟨ms, hms, hmu⟩ := isBytes_of_trod (by simpa [Value.cells] using hf1)
  clear hA0 hval0
  refine (fnAigNeeds_walk _ bs _ ms W hbs hms (fun ao' n' cap' b off h1 h2 => by cases h1; subst h2; exact okWide_slice_lt Try.underlying53 hv0) hml hmu).mono fun e W' ⟨he, bel⟩ => ?_
  subst he
  exact ⟨_, rfl, _, _, _, [], _, [], hW', trodAll_mk1 (shut_bool Try.underlying4 _),
    (trodAll_cons_mk (Below.trod laidOut (by kernel_rfl) (of_decide_eq_true (by kernel_rfl)) k0 bel lt0) (trodAll_cons_mk (Below.trod laidOut (by kernel_rfl) (of_decide_eq_true (by kernel_rfl)) k1 bel lt1) trodAll_mk0)), rfl, bel.frame _, fun h => by cases h⟩

theorem fnAigNeeds_holds : Rows.FnAigNeedsSaid :=
  OpenClaim.holds_of_wide 10 Try.f10 rfl rfl rfl rfl rfl rfl rfl ⟨rfl, rfl, rfl, rfl, rfl⟩ rfl rfl rfl rfl rfl (by kernel_rfl) Try.func10 (by kernel_rfl)
    (of_decide_eq_true (by kernel_rfl)) (by unfold Func.isWrapper; first | (rw [if_pos (by decide +kernel)]; kernel_rfl) | (rw [if_neg (by decide +kernel)]; exact ⟨rfl, rfl⟩))
    (fun os started H enc _ => fnAigNeeds_lifted os started H enc)

end Go.Proofs.Ytdkpgbmcnjkjkaa

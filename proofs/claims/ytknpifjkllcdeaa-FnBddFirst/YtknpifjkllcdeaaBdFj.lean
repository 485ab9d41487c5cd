/-
  The first way of a diagram: BddFirst, the walks.
-/
import Derived.Test.YtknpifjkllcdeaaBdFi
import Derived.Test.YtknpifjkllcdeaaBdSp
namespace Go.Proofs.Ytknpifjkllcdeaa
open Go.RowKit Go.Deep
set_option linter.unusedVariables false

attribute [local go_sem] Oper.semAt_some

set_option maxRecDepth 100000 in
set_option maxHeartbeats 8000000 in
theorem implBddFirst_any (vi root : Int) (ao : Option Addr) (n cap : Nat) (ns : List Nd) (w : World) (hN : Nds w ao n cap ns) (h64 : ∀ q ∈ ns, I64N q) (hr : I64 root) :
    Calls Try.prog 26 #[.agg #[.int .i64 vi, .slice ao n cap, .int .i64 root]] w (FirstPost (firstL vi ns root) (firstB vi ns root) w) := by
  have hmf : ∀ (fn : Fn) (first cap : Array Value) (w : World), (Instr.makeFunc fn first cap).run Try.prog w = .ok (.func fn first cap) w := fun _ _ _ _ => rfl
  obtain ⟨W1, hW1⟩ : ∃ W1, W1 = w.alloc (.cells #[.int .i64 vi, .slice ao n cap, .int .i64 root] 25) := ⟨_, rfl⟩
  have HB1 : Hid (Below w.heap.size w W1) := by rw [hW1]; exact belOne _ _
  have HK := hideN (show BlkD W1 w.heap.size (.int .i64 vi) (.slice ao n cap) (.int .i64 root) by rw [hW1]; exact BlkD.new _ _ _ _)
  have HOK := hideN (implBddOk_any vi root ao n cap ns W1 (hN.below HB1.out) h64 hr)
  have HN := hideN (fun V (hV : Below w.heap.size w V) => hN.below hV)
  have HLEN := hideN hN.len
  have HW1 := hideN hW1
  have c0 := HK.out.c0
  have c1 := HK.out.c1
  have c2 := HK.out.c2
  have c3 := HK.out.lt
  clear hN hW1 h64 hr
  cases hbd : bddB vi ns root with
  | false =>
    have HE : Hid (firstB vi ns root = false) := by show _ = _; unfold firstB; rw [hbd]; rfl
    have HE2 : Hid (firstL vi ns root = []) := by show _ = _; unfold firstL; rw [HE.out]; rfl
    rw [hbd] at HOK
    rw [HE.out, HE2.out]
    clear hbd
    go_enter Try.func26, Try.ntmps26
    go_wp2_with fail
    rw [← HW1.out]
    refine HOK.out.mono ?_
    rintro e w1 ⟨rfl, hb⟩
    have HB := hideN (belNext HB1.out hb)
    clear hb c0 c1 c2 c3
    go_wp2_with fail
    exact bodyPost_ret (v := .tuple #[.slice none 0 0, .bool false]) (by simp [results, Try.results26, go_sem]) rfl ⟨none, 0, rfl, World.ownsRow_nil _ _ _ _, HB.out, fun h => by cases h⟩
  | true =>
  obtain ⟨vars, rfl, h6, hn64, hok, hr0, hr1⟩ := bdd_split hbd
  have hn : n ≤ 64 := by rw [← HLEN.out]; exact hn64
  have hr1n : root < 2 + (n : Int) := by rw [← HLEN.out]; exact hr1
  have HOKN : Hid (∀ i, i < n → nodeB (vars : Int) ns i = true) := fun i hi => hok i (by have := HLEN.out; omega)
  rw [hbd] at HOK
  obtain ⟨F, hF⟩ : ∃ F, firstN (vars : Int) ns root = F := ⟨_, rfl⟩
  have HTF : Hid ((toldF (nextF vars) ((2 ^ vars : Nat) : Int) 0 ns n).getD root.toNat 0 = (F : Int)) := by
    show _ = _
    rw [told_first HOKN.out root.toNat (by omega), ← hF]
    unfold firstN isN
    rw [HLEN.out, Int.toNat_natCast]
  have ht := two_wrap vars h6
  have hE1 : firstB (vars : Int) ns root = decide (F < 2 ^ vars) := by unfold firstB; rw [hbd, hF, Int.toNat_natCast]; rfl
  have hE2 : firstL (vars : Int) ns root = if decide (F < 2 ^ vars) = true then wayL vars F else [] := by unfold firstL; rw [hE1, hF, Int.toNat_natCast]
  obtain ⟨M, hM⟩ : ∃ M, 2 ^ vars = M := ⟨_, rfl⟩
  have hM64 : M ≤ 64 := by rw [← hM]; show _ ≤ 2 ^ 6; exact Nat.pow_le_pow_right (by decide) h6
  rw [hM] at ht HTF hE1 hE2
  have HE1 := hideN hE1
  have HE2 := hideN hE2
  have HTM := hideN (fun W hW B (hB : BlkD W B (.int .i64 (vars : Int)) (.slice ao n cap) (.int .i64 root)) => toldInt_any vars n cap 72 #[.pointer (some ⟨B, 0, none⟩)] (nextF vars) (M : Int) 0 root ao ns W (HN.out _ hW) hn HOKN.out hr0 hr1n (by omega) (by omega) (fun p a b h1 h2 h3 h4 => by unfold nextF; have : 0 ≤ ((2 ^ (vars - 1 - p.1.toNat) : Nat) : Int) := Int.natCast_nonneg _; omega) (next_says W vars B h6 hB))
  have HWL := hideN (wayL_length vars F)
  clear hbd hok hn64 hr1 hF hE1 hE2 hM
  go_enter Try.func26, Try.ntmps26
  go_wp2_with fail
  rw [← HW1.out]
  refine HOK.out.mono ?_
  rintro e w1 ⟨rfl, hb⟩
  have HB := hideN (belNext HB1.out hb)
  have HK1 := hideN (HK.out.below hb)
  clear hb c0 c1 c2 c3
  have c0 := HK1.out.c0
  have c1 := HK1.out.c1
  have c2 := HK1.out.c2
  have c3 := HK1.out.lt
  go_wp2_with fail
  simp only [ht]
  refine (HTM.out w1 HB.out _ HK1.out).mono ?_
  rintro e w2 ⟨rfl, hb2⟩
  rw [HTF.out]
  have HB2 := hideN (belNext HB.out hb2)
  have HK2 := hideN (HK1.out.below hb2)
  clear hb2 c0 c1 c2 c3
  have c0 := HK2.out.c0
  have c3 := HK2.out.lt
  by_cases hFM : F < M
  · have hd : decide (F < M) = true := by simp [hFM]
    have hg : ¬ ((M : Int) ≤ (F : Int)) := by omega
    go_wp2_with fail
    refine (wayAt_any vars F w2 h6 (by omega)).mono ?_
    rintro e w3 ⟨rfl, hb3, hr3⟩
    have HO := hideN (ownb_of_row hr3 HWL.out (by omega) HB2.out.size)
    have HB3 := hideN (belNext HB2.out hb3)
    clear hb3 hr3 c0 c3
    go_wp2_with fail
    exact bodyPost_ret (v := .tuple #[.slice (some ⟨w2.heap.size, 0, none⟩) vars vars, .bool true]) (by simp [results, Try.results26, go_sem]) rfl (by show FirstPost _ _ w _ _; rw [HE1.out, HE2.out, hd, if_pos rfl]; exact ⟨some ⟨w2.heap.size, 0, none⟩, vars, by rw [HWL.out], by rw [HWL.out]; exact HO.out, HB3.out, fun _ => ⟨_, rfl⟩⟩)
  · have hd : decide (F < M) = false := by simp; omega
    have hg : (M : Int) ≤ (F : Int) := by omega
    go_wp2_with fail
    exact bodyPost_ret (v := .tuple #[.slice none 0 0, .bool false]) (by simp [results, Try.results26, go_sem]) rfl (by show FirstPost _ _ w _ _; rw [HE1.out, HE2.out, hd, if_neg (by decide)]; exact ⟨none, 0, rfl, World.ownsRow_nil _ _ _ _, HB2.out, fun h => by cases h⟩)

set_option maxRecDepth 100000 in
set_option maxHeartbeats 8000000 in
theorem specBddFirst_any (vi root : Int) (ao : Option Addr) (n cap : Nat) (ns : List Nd) (w : World) (hN : Nds w ao n cap ns) (h64 : ∀ q ∈ ns, I64N q) (hr : I64 root) (hnl : n ≤ 4194304) :
    Calls Try.prog 24 #[.agg #[.int .i64 vi, .slice ao n cap, .int .i64 root]] w (FirstPost (firstL vi ns root) (firstB vi ns root) w) := by
  obtain ⟨W1, hW1⟩ : ∃ W1, W1 = w.alloc (.cells #[.int .i64 vi, .slice ao n cap, .int .i64 root] 25) := ⟨_, rfl⟩
  have HB1 : Hid (Below w.heap.size w W1) := by rw [hW1]; exact belOne _ _
  have HK := hideN (show BlkD W1 w.heap.size (.int .i64 vi) (.slice ao n cap) (.int .i64 root) by rw [hW1]; exact BlkD.new _ _ _ _)
  have HTB := hideN (specBddTable_any vi root ao n cap ns W1 (hN.below HB1.out) h64 hr hnl)
  have HTL := hideN (tabS_le vi ns root)
  have HW1 := hideN hW1
  have c0 := HK.out.c0
  have c1 := HK.out.c1
  have c2 := HK.out.c2
  have c3 := HK.out.lt
  have HFA : Hid (bddB vi ns root = false → tabS vi ns root = [] ∧ firstB vi ns root = false ∧ firstL vi ns root = []) := fun h => by
    have h1 : firstB vi ns root = false := by unfold firstB; rw [h]; rfl
    exact ⟨by unfold tabS; rw [h]; rfl, h1, by unfold firstL; rw [h1]; rfl⟩
  have HTR : Hid (bddB vi ns root = true → ∃ vars : Nat, vi = (vars : Int) ∧ vars ≤ 6 ∧ (tabS vi ns root).length = 2 ^ vars ∧ (∀ i, i < 2 ^ vars → (tabS vi ns root).getD i false = isN ns root (wayL vars i)) ∧ firstB vi ns root = decide (firstN vi ns root < 2 ^ vars) ∧ (firstL vi ns root = if decide (firstN vi ns root < 2 ^ vars) = true then wayL vars (firstN vi ns root) else []) ∧ (∀ p, p < firstN vi ns root → isN ns root (wayL vars p) = false) ∧ (firstN vi ns root < 2 ^ vars → isN ns root (wayL vars (firstN vi ns root)) = true) ∧ firstN vi ns root ≤ 2 ^ vars) := fun h => by
    obtain ⟨vars, rfl, h6, -⟩ := bdd_split h
    have h1 : firstB (vars : Int) ns root = decide (firstN (vars : Int) ns root < 2 ^ vars) := by unfold firstB; rw [h, Int.toNat_natCast]; rfl
    have h2 := first_spec vars (isN ns root)
    refine ⟨vars, rfl, h6, by unfold tabS; rw [if_pos h, Int.toNat_natCast, tabN_length], fun i hi => ?_, h1, by unfold firstL; rw [h1, Int.toNat_natCast], ?_, ?_, ?_⟩
    · unfold tabS
      rw [if_pos h, Int.toNat_natCast, ← tabN_tabF, tabF_get vars _ _ _ hi]
    · unfold firstN; rw [Int.toNat_natCast]; exact h2.1
    · unfold firstN; rw [Int.toNat_natCast]; exact h2.2
    · unfold firstN; rw [Int.toNat_natCast]; exact first_le _ _
  clear hN hW1 h64 hr
  go_enter Try.func24, Try.ntmps24
  go_wp2_with fail
  rw [← HW1.out]
  refine HTB.out.mono ?_
  rintro e w1 ⟨ta, tc, rfl, hot, hb⟩
  have HB := hideN (belNext HB1.out hb)
  have HK1 := hideN (HK.out.below hb)
  have HOT := hideN hot.isBits
  clear hb hot c0 c1 c2 c3
  obtain ⟨T, hT⟩ : ∃ T, tabS vi ns root = T := ⟨_, rfl⟩
  rw [hT] at HOT HTL HFA HTR ⊢
  obtain ⟨M, hM⟩ : ∃ M, T.length = M := ⟨_, rfl⟩
  have hM64 : M ≤ 64 := by rw [← hM]; exact HTL.out
  have HM := hideN hM
  rw [hM]
  clear hT hM
  go_wp2_with fail
  go_loopw [5] (fun i wr => ∃ k : Nat, k ≤ M ∧ i = .int .i64 (k : Int) ∧ Hid (∀ j, j < k → T.getD j false = false) ∧ wr = w1) (fun i _ => M - (intOf i).toNat)
  case atStart => exact ⟨0, Nat.zero_le _, rfl, fun j hj => by omega, rfl⟩
  case round =>
    obtain ⟨k, hk, rfl, hno, rfl⟩ := hrel
    by_cases hlt : k < M
    · have hne : T ≠ [] := fun e => by have := HM.out; rw [e] at this; simp only [List.length_nil] at this; omega
      obtain ⟨ao2, cap2, he, hc2⟩ := HOT.out
      obtain ⟨b, off, hab, hcc⟩ := hc2 hne
      injection he with e1 e2 e3
      obtain rfl : ta = some ⟨b, off, none⟩ := e1.trans hab
      have htc : M ≤ M := Nat.le_refl _
      have hx := hcc k (by rw [HM.out]; exact hlt)
      cases hp : T.getD k false with
      | true =>
        rw [hp] at hx
        have hbt : bddB vi ns root = true := by
          cases h : bddB vi ns root with
          | true => rfl
          | false => have := (HFA.out h).1; rw [this] at hp; simp at hp
        obtain ⟨vars, rfl, h6, hl, hg, hfb, hfl, hf1, hf2, hf3⟩ := HTR.out hbt
        have hMv : M = 2 ^ vars := by rw [← HM.out, hl]
        have hkF : firstN (vars : Int) ns root = k := by
          rcases Nat.lt_trichotomy (firstN (vars : Int) ns root) k with h | h | h
          · have h1 := hno.out _ h
            rw [hg _ (by omega), hf2 (by omega)] at h1
            cases h1
          · exact h
          · have h1 := hf1 k h
            rw [← hg k (by omega), hp] at h1
            cases h1
        have HFB : Hid (firstB (vars : Int) ns root = true) := by show _ = _; rw [hfb, hkF]; simp; omega
        have HFL : Hid (firstL (vars : Int) ns root = wayL vars k) := by show _ = _; rw [hfl, hkF, if_pos (by simp; omega)]
        have HWL := hideN (wayL_length vars k)
        have c0 := HK1.out.c0
        have c3 := HK1.out.lt
        clear hp hbt hl hg hfb hfl hf1 hf2 hf3 hMv hkF hcc hc2 hab e1 e2 e3
        go_wp2_with fail
        refine (l11Way_any vars k wr h6 (by omega)).mono ?_
        rintro e w3 ⟨rfl, hb3, hr3⟩
        have HO := hideN (ownb_of_row hr3 HWL.out (by omega) HB.out.size)
        have HB3 := hideN (belNext HB.out hb3)
        clear hb3 hr3 c0 c3
        go_wp2_with fail
        exact bodyPost_ret (v := .tuple #[.slice (some ⟨wr.heap.size, 0, none⟩) vars vars, .bool true]) (by simp [results, Try.results24, go_sem]) rfl (by show FirstPost _ _ w _ _; rw [HFB.out, HFL.out]; exact ⟨some ⟨wr.heap.size, 0, none⟩, vars, by rw [HWL.out], by rw [HWL.out]; exact HO.out, HB3.out, fun _ => ⟨_, rfl⟩⟩)
      | false =>
        rw [hp] at hx
        have HST : Hid (∀ j, j < k + 1 → T.getD j false = false) := fun j hj => by
          by_cases e : j = k
          · subst e; exact hp
          · exact hno.out j (by omega)
        clear hp hcc hc2 hab e1 e2 e3
        go_wp2
        go_roundw
        case rel => exact ⟨k + 1, by omega, by go_num, HST, by first | rfl | trivial⟩
        case measure => simp [intOf]; omega
    · obtain rfl : k = M := by omega
      have HFF : Hid (firstB vi ns root = false ∧ firstL vi ns root = []) := by
        cases h : bddB vi ns root with
        | false => exact (HFA.out h).2
        | true =>
          obtain ⟨vars, rfl, h6, hl, hg, hfb, hfl, hf1, hf2, hf3⟩ := HTR.out h
          have hMv : k = 2 ^ vars := by rw [← HM.out, hl]
          have hnf : ¬ firstN (vars : Int) ns root < 2 ^ vars := fun hh => by
            have h1 := hno.out _ (show firstN (vars : Int) ns root < k by omega)
            rw [hg _ hh, hf2 hh] at h1
            cases h1
          exact ⟨by rw [hfb]; simp; omega, by rw [hfl, if_neg (by simp; omega)]⟩
      go_wp2_with fail
      exact bodyPost_ret (v := .tuple #[.slice (some ⟨wr.heap.size, 0, none⟩) 0 0, .bool false]) (by simp [results, Try.results24, go_sem]) rfl (by show FirstPost _ _ w _ _; rw [HFF.out.1, HFF.out.2]; exact ⟨some ⟨wr.heap.size, 0, none⟩, 0, rfl, (ownb_empty wr).base HB.out.size, belNext HB.out (belOne _ _), fun h => by cases h⟩)

end Go.Proofs.Ytknpifjkllcdeaa

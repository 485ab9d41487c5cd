/-
  An expression as a text, by the model: l5Bind, l5In, l5Show, ExpShow.
-/
import Derived.Test.YthbjihamhfahcaaDoorShD
import Derived.Test.YthbjihamhfahcaaDoorExpO
namespace Go.Proofs.YthbjihamhfahcaaDoor
open Go.RowKit Go.Deep
set_option linter.unusedVariables false

attribute [local go_sem] Oper.semAt_some

/-- How much an expression binds, as the model tells it. -/
def bindM : ExpT → Int
  | .node k _ s _ => if k = 7 then -1 else if k = 6 then signL s.toList else if k = 5 then 4 else 5

theorem signL_le (l : List UInt8) : -1 ≤ signL l ∧ signL l ≤ 3 := by unfold signL; repeat' split <;> omega

theorem bind_less (t : ExpT) (m : Int) (hm : m ≤ 4) : bindM t < m ↔ bindT t < m + 1 := by
  obtain ⟨k, n, s, ks⟩ := t
  show (if k = 7 then (-1 : Int) else if k = 6 then signL s.toList else if k = 5 then 4 else 5) < m ↔ (if k = 7 then (0 : Int) else if k = 6 then signL s.toList + 1 else 5) < m + 1
  by_cases h7 : k = 7
  · rw [if_pos h7, if_pos h7]; omega
  by_cases h6 : k = 6
  · rw [if_neg h7, if_pos h6, if_neg h7, if_pos h6]; omega
  rw [if_neg h7, if_neg h6, if_neg h7, if_neg h6]
  split <;> omega

theorem all_kid {t : ExpT} : ∀ {ks : List ExpT}, allL ks = true → t ∈ ks → allT t = true := by
  intro ks
  induction ks with
  | nil => intro _ h; cases h
  | cons a r ih =>
    intro h hm
    rw [allL, Bool.and_eq_true] at h
    rcases List.mem_cons.1 hm with rfl | hm
    · exact h.1
    · exact ih h.2 hm

set_option maxRecDepth 100000 in
set_option maxHeartbeats 4000000 in
theorem l5Bind_any (lo : Nat) (t : ExpT) (v : Value) (w : World) (hE : IsE w lo t v) : Calls Tryd.prog 28 #[v] w fun e w' => e = .returned (.int .i64 (bindM t)) ∧ Below w.heap.size w w' := by
  obtain ⟨k, n, s, ks⟩ := t
  obtain ⟨ao, cap, rfl, _, _⟩ := isE_node.1 hE
  obtain ⟨W1, hW1⟩ : ∃ W1, W1 = w.alloc (.cells #[.int .i64 k, .int .i64 n, .string s, .slice ao ks.length cap] 29) := ⟨_, rfl⟩
  have HB1 : Hid (Below w.heap.size w W1) := by rw [hW1]; exact belOne _ _
  have HLV := hideN (fun V => l5Level_any s V)
  have HW1 := hideN hW1
  have hB : bindM (.node k n s ks) = if k = 7 then -1 else if k = 6 then signL s.toList else if k = 5 then 4 else 5 := rfl
  rw [hB]
  clear hB
  generalize ks.length = m at *
  generalize signL s.toList = l at *
  clear hE hW1
  by_cases h7 : k = 7
  · subst h7
    rw [if_pos rfl]
    go_enter Tryd.func28, Tryd.ntmps28
    go_wp2_with fail
    go_ret
    exact ⟨rfl, belOne _ _⟩
  by_cases h6 : k = 6
  · subst h6
    rw [if_neg h7, if_pos rfl]
    go_enter Tryd.func28, Tryd.ntmps28
    go_wp2_with fail
    try rw [← HW1.out]
    refine (HLV.out W1).mono ?_
    rintro e w2 ⟨rfl, hb2⟩
    have HB2 := hideN (belNext HB1.out hb2)
    clear hb2
    go_wp2_with fail
    go_ret
    exact ⟨rfl, HB2.out⟩
  by_cases h5 : k = 5
  · subst h5
    rw [if_neg h7, if_neg h6, if_pos rfl]
    go_enter Tryd.func28, Tryd.ntmps28
    go_wp2_with fail
    go_ret
    exact ⟨rfl, belOne _ _⟩
  rw [if_neg h7, if_neg h6, if_neg h5]
  go_enter Tryd.func28, Tryd.ntmps28
  go_wp2_with fail
  go_ret
  exact ⟨rfl, belOne _ _⟩

set_option maxRecDepth 100000 in
set_option maxHeartbeats 4000000 in
theorem l5In_of (lo : Nat) (t : ExpT) (v : Value) (x : ByteArray) (m : Int) (hm : m ≤ 4) (hx : x.size ≤ 2000000) (w : World) (hE : IsE w lo t v) (hS : ∀ V, Below w.heap.size w V → Calls Tryd.prog 11 #[v] V (TextPost x V)) :
    Calls Tryd.prog 20 #[v, .int .i64 m] w (TextPost (inP (m + 1) (bindT t, x)) w) := by
  obtain ⟨k, n, s, ao, mm, cap, rfl⟩ := hE.agg
  obtain ⟨W1, hW1⟩ : ∃ W1, W1 = w.alloc (.cells #[.int .i64 k, .int .i64 n, .string s, .slice ao mm cap] 29) := ⟨_, rfl⟩
  have HB1 : Hid (Below w.heap.size w W1) := by rw [hW1]; exact belOne _ _
  have HK : Hid (BlkE W1 w.heap.size (.int .i64 k) (.int .i64 n) (.string s) (.slice ao mm cap) 29) := by rw [hW1]; exact BlkE.new _ _ _ _ _ _
  have HBD := hideN (fun V (hV : Below w.heap.size w V) => l5Bind_any lo t _ V (IsE.below hE hV))
  have HS := hideN hS
  have hiff := bind_less t m hm
  obtain ⟨q, hq⟩ : ∃ q, decide (bindM t < m) = q := ⟨_, rfl⟩
  have hv : inP (m + 1) (bindT t, x) = if q = true then ⟨#[40]⟩ ++ x ++ ⟨#[41]⟩ else x := by
    unfold inP
    by_cases hc : bindM t < m
    · have hq2 : q = true := by rw [← hq]; exact decide_eq_true hc
      rw [hq2]; exact if_pos (hiff.1 hc)
    · have hq2 : q = false := by rw [← hq]; exact decide_eq_false hc
      rw [hq2]; exact if_neg (fun h => hc (hiff.2 h))
  rw [hv]
  have HW1 := hideN hW1
  have hz1 : 1 + x.size ≤ 9223372036854775807 := by omega
  have hz2 : 1 + x.size ≤ 9223372036854775806 := by omega
  have hz3 : (1 : Int) + (x.size : Int) ≤ 9223372036854775807 := by omega
  have hz4 : (1 : Int) + (x.size : Int) + 1 ≤ 9223372036854775807 := by omega
  generalize bindM t = bm at *
  clear hE hW1 hiff hv hS hx
  unfold TextPost at *
  cases q with
  | true =>
    rw [if_pos rfl]
    go_enter Tryd.func20, Tryd.ntmps20
    go_wp2_with fail
    try rw [← HW1.out]
    refine (HS.out W1 HB1.out).mono ?_
    rintro e w2 ⟨rfl, hb2⟩
    have HB2 := hideN (belNext HB1.out hb2)
    have b0 := (HK.out.below hb2).c0
    have b1 := (HK.out.below hb2).c1
    have b2 := (HK.out.below hb2).c2
    have b3 := (HK.out.below hb2).c3
    clear hb2
    go_wp2_with fail
    refine (HBD.out w2 HB2.out).mono ?_
    rintro e w3 ⟨rfl, hb3⟩
    have HB3 := hideN (belNext HB2.out hb3)
    clear hb3 b0 b1 b2 b3
    go_wp2_with fail
    go_ret
    exact ⟨rfl, HB3.out⟩
  | false =>
    rw [if_neg (by simp)]
    clear hz1 hz2 hz3 hz4
    go_enter Tryd.func20, Tryd.ntmps20
    go_wp2_with fail
    try rw [← HW1.out]
    refine (HS.out W1 HB1.out).mono ?_
    rintro e w2 ⟨rfl, hb2⟩
    have HB2 := hideN (belNext HB1.out hb2)
    have b0 := (HK.out.below hb2).c0
    have b1 := (HK.out.below hb2).c1
    have b2 := (HK.out.below hb2).c2
    have b3 := (HK.out.below hb2).c3
    clear hb2
    go_wp2_with fail
    refine (HBD.out w2 HB2.out).mono ?_
    rintro e w3 ⟨rfl, hb3⟩
    have HB3 := hideN (belNext HB2.out hb3)
    clear hb3 b0 b1 b2 b3
    go_wp2_with fail
    go_ret
    exact ⟨rfl, HB3.out⟩

set_option maxRecDepth 100000 in
set_option maxHeartbeats 40000000 in
theorem l5Show_any (lo : Nat) : ∀ (t : ExpT), totE t ≤ 1048576 → allT t = true → sizeT t ≤ 60 → ∀ (v : Value) (w : World), IsE w lo t v → Calls Tryd.prog 11 #[v] w (TextPost (showT t) w) := by
  refine ExpT.ind (fun k n s ks ih ht hA hszn v w hE => ?_)
  obtain ⟨ao, cap, rfl, ⟨_, _, hs, hc, hcm⟩, hL⟩ := isE_node.1 hE
  rw [allT, oneB_split] at hA
  simp only [Bool.and_eq_true, decide_eq_true_eq] at hA
  obtain ⟨⟨_, hkn, hj⟩, halls⟩ := hA
  rw [sizeT] at hszn
  rw [totE] at ht
  have hkid : ∀ j, j < ks.length → (∀ u V, IsE V lo (ks.getD j e0) u → Calls Tryd.prog 11 #[u] V (TextPost (showT (ks.getD j e0)) V)) ∧ (showT (ks.getD j e0)).size ≤ 1100000 ∧ (∀ u V m, m ≤ 4 → IsE V lo (ks.getD j e0) u → Calls Tryd.prog 20 #[u, .int .i64 m] V (TextPost (inP (m + 1) (bindT (ks.getD j e0), showT (ks.getD j e0))) V)) := by
    intro j hj
    have hm : ks.getD j e0 ∈ ks := by rw [List.getD, List.getElem?_eq_getElem hj]; simp
    have h1 := totL_mem hm
    have h3 := sizeL_take_succ ks j hj
    have h4 := sizeL_take_le ks (j + 1)
    have ha : allT (ks.getD j e0) = true := all_kid halls hm
    have h5 := show_size _ ha
    have hS : ∀ u V, IsE V lo (ks.getD j e0) u → Calls Tryd.prog 11 #[u] V (TextPost (showT (ks.getD j e0)) V) := fun u V hu => ih (ks.getD j e0) hm (by omega) ha (by omega) u V hu
    exact ⟨hS, by omega, fun u V m hm hu => l5In_of lo _ u _ m hm (by omega) V hu (fun V' hV' => hS u V' (IsE.below hu hV'))⟩
  have hif : ∀ j, j < ks.length → (showL ks).getD j noP = (bindT (ks.getD j e0), showT (ks.getD j e0)) := fun j hj => showL_get ks j hj
  have hss : s.size ≤ 1048576 := by omega
  obtain ⟨kn, hknn⟩ : ∃ kn, ks.length = kn := ⟨_, rfl⟩
  obtain ⟨W1, hW1⟩ : ∃ W1, W1 = w.alloc (.cells #[.int .i64 k, .int .i64 n, .string s, .slice ao ks.length cap] 29) := ⟨_, rfl⟩
  have HB1 : Hid (Below w.heap.size w W1) := by rw [hW1]; exact belOne _ _
  have HK : Hid (BlkE W1 w.heap.size (.int .i64 k) (.int .i64 n) (.string s) (.slice ao ks.length cap) 29) := by rw [hW1]; exact BlkE.new _ _ _ _ _ _
  have HW1 := hideN hW1
  rw [showT]
  clear ih hE halls ht hW1 hszn
  by_cases h1 : k = 1
  · subst h1
    have hn : 0 ≤ n ∧ n ≤ 999 := by unfold joinB at hj; simpa using hj
    obtain ⟨i, rfl⟩ : ∃ i : Nat, n = (i : Int) := ⟨n.toNat, by omega⟩
    have hX : showOne 1 (i : Int) s (showL ks) = ⟨(Lib.decDigits i).toArray⟩ := by
      unfold showOne Lib.itoa
      rw [if_pos rfl, if_neg (by omega)]
      rfl
    rw [hX]
    have HCL := hideN (fun V => l1Dec_any i (by omega) V)
    obtain ⟨X, hX⟩ : ∃ X : ByteArray, ⟨(Lib.decDigits i).toArray⟩ = X := ⟨_, rfl⟩
    rw [hX] at HCL ⊢
    clear hX hkid hif hL hkn hj hs hss hc hcm hn hknn
    generalize ks.length = m at *
    unfold TextPost at *
    go_enter Tryd.func11, Tryd.ntmps11
    go_wp2_with fail
    try rw [← HW1.out]
    refine (HCL.out W1).mono ?_
    rintro e w2 ⟨rfl, hb2⟩
    have HB2 := hideN (belNext HB1.out hb2)
    clear hb2
    go_wp2_with fail
    go_ret
    exact ⟨rfl, HB2.out⟩
  by_cases h2 : k = 2
  · subst h2
    have hX : showOne 2 n s (showL ks) = ⟨#[116, 114, 117, 101]⟩ := by unfold showOne; simp
    rw [hX]
    clear hX hkid hif hL hkn hj hs hss hc hcm
    generalize ks.length = m at *
    unfold TextPost
    go_enter Tryd.func11, Tryd.ntmps11
    go_wp2_with fail
    go_ret
    exact ⟨rfl, belOne _ _⟩
  by_cases h3 : k = 3
  · subst h3
    have hX : showOne 3 n s (showL ks) = ⟨#[102, 97, 108, 115, 101]⟩ := by unfold showOne; simp
    rw [hX]
    clear hX hkid hif hL hkn hj hs hss hc hcm
    generalize ks.length = m at *
    unfold TextPost
    go_enter Tryd.func11, Tryd.ntmps11
    go_wp2_with fail
    go_ret
    exact ⟨rfl, belOne _ _⟩
  by_cases h4 : k = 4
  · subst h4
    have hX : showOne 4 n s (showL ks) = s := by unfold showOne; simp
    rw [hX]
    clear hX hkid hif hL hkn hj hs hss hc hcm
    generalize ks.length = m at *
    unfold TextPost
    go_enter Tryd.func11, Tryd.ntmps11
    go_wp2_with fail
    go_ret
    exact ⟨rfl, belOne _ _⟩
  by_cases h5 : k = 5
  · subst h5
    have hl : ks.length = 1 := hkn
    obtain ⟨b, off, rfl, hlo, hcs⟩ := hL (by omega)
    obtain ⟨hS0, hz0, hI0⟩ := hkid 0 (by omega)
    have g0 := hif 0 (by omega)
    obtain ⟨u0, ⟨u00, u01, u02, u03, rfl, c00, c01, c02, c03⟩, he0⟩ := hcs 0 (by omega)
    have HE0 := hideN he0
    rw [show off + 0 * 4 = off by omega] at c00 c01 c02 c03
    have hbl : b < w.heap.size := cell_lt c00
    have hX : showOne 5 n s (showL ks) = ⟨#[33]⟩ ++ inP 5 (bindT (ks.getD 0 e0), showT (ks.getD 0 e0)) := by unfold showOne; simp only [g0]; simp
    rw [hX]
    obtain ⟨b0, hb0'⟩ : ∃ b, bindT (ks.getD 0 e0) = b := ⟨_, rfl⟩
    obtain ⟨z0, hz0'⟩ : ∃ z, showT (ks.getD 0 e0) = z := ⟨_, rfl⟩
    obtain ⟨t0, ht0'⟩ : ∃ t, ks.getD 0 e0 = t := ⟨_, rfl⟩
    rw [hb0', hz0', ht0'] at hI0
    rw [hz0', ht0'] at hS0
    rw [hz0'] at hz0
    rw [ht0'] at HE0 he0
    rw [hb0', hz0']
    have hP := inP_size 5 (b0, z0)
    have HIN := fun V hu => hI0 (.agg #[u00, u01, u02, u03]) V 4 (by omega) hu
    obtain ⟨Y, hY⟩ : ∃ Y, inP 5 (b0, z0) = Y := ⟨_, rfl⟩
    rw [hY] at hP ⊢
    have HIN2 : Hid (∀ V, IsE V lo t0 (.agg #[u00, u01, u02, u03]) → Calls Tryd.prog 20 #[.agg #[u00, u01, u02, u03], .int .i64 4] V (TextPost Y V)) := by rw [← hY]; exact HIN
    have hp0 : Y.size ≤ 2000000 := by simp at hP; omega
    have hr1 : 1 + Y.size ≤ 9223372036854775807 := by omega
    have hr2 : (1 : Int) + (Y.size : Int) ≤ 9223372036854775807 := by omega
    rw [hl] at HK HW1 ⊢
    clear hX hkid hif hS0 hI0 hz0 g0 hb0' hz0' ht0' hY hP HIN he0 hcs hL hkn hj hs hss hlo hknn
    unfold TextPost at *
    go_enter Tryd.func11, Tryd.ntmps11
    go_wp2_with fail
    try rw [← HW1.out]
    refine (HIN2.out W1 (IsE.below HE0.out HB1.out)).mono ?_
    rintro e w2 ⟨rfl, hb2⟩
    have HB2 := hideN (belNext HB1.out hb2)
    clear hb2
    go_wp2_with fail
    go_ret
    exact ⟨rfl, HB2.out⟩
  by_cases h6 : k = 6
  · subst h6
    have hl : ks.length = 2 := hkn
    obtain ⟨b, off, rfl, hlo, hcs⟩ := hL (by omega)
    obtain ⟨hS0, hz0, hI0⟩ := hkid 0 (by omega)
    have g0 := hif 0 (by omega)
    obtain ⟨u0, ⟨u00, u01, u02, u03, rfl, c00, c01, c02, c03⟩, he0⟩ := hcs 0 (by omega)
    have HE0 := hideN he0
    rw [show off + 0 * 4 = off by omega] at c00 c01 c02 c03
    obtain ⟨hS1, hz1, hI1⟩ := hkid 1 (by omega)
    have g1 := hif 1 (by omega)
    obtain ⟨u1, ⟨u10, u11, u12, u13, rfl, c10, c11, c12, c13⟩, he1⟩ := hcs 1 (by omega)
    have HE1 := hideN he1
    rw [show off + 1 * 4 = off + 4 by omega] at c10 c11 c12 c13
    rw [show off + 4 + 1 = off + 5 by omega] at c11
    rw [show off + 4 + 2 = off + 6 by omega] at c12
    rw [show off + 4 + 3 = off + 7 by omega] at c13
    have hbl : b < w.heap.size := cell_lt c00
    obtain ⟨l, hl6⟩ : ∃ l, signL s.toList = l := ⟨_, rfl⟩
    have hls := signL_le s.toList
    rw [hl6] at hls
    have hX : showOne 6 n s (showL ks) = inP (l + 1) (bindT (ks.getD 0 e0), showT (ks.getD 0 e0)) ++ ⟨#[32]⟩ ++ s ++ ⟨#[32]⟩ ++ inP (l + 1 + 1) (bindT (ks.getD 1 e0), showT (ks.getD 1 e0)) := by unfold showOne; simp only [g0, g1, hl6]; simp
    rw [hX]
    obtain ⟨b0, hb0'⟩ : ∃ b, bindT (ks.getD 0 e0) = b := ⟨_, rfl⟩
    obtain ⟨z0, hz0'⟩ : ∃ z, showT (ks.getD 0 e0) = z := ⟨_, rfl⟩
    obtain ⟨t0, ht0'⟩ : ∃ t, ks.getD 0 e0 = t := ⟨_, rfl⟩
    rw [hb0', hz0', ht0'] at hI0
    rw [hz0', ht0'] at hS0
    rw [hz0'] at hz0
    rw [ht0'] at HE0 he0
    obtain ⟨b1, hb1'⟩ : ∃ b, bindT (ks.getD 1 e0) = b := ⟨_, rfl⟩
    obtain ⟨z1, hz1'⟩ : ∃ z, showT (ks.getD 1 e0) = z := ⟨_, rfl⟩
    obtain ⟨t1, ht1'⟩ : ∃ t, ks.getD 1 e0 = t := ⟨_, rfl⟩
    rw [hb1', hz1', ht1'] at hI1
    rw [hz1', ht1'] at hS1
    rw [hz1'] at hz1
    rw [ht1'] at HE1 he1
    rw [hb0', hz0', hb1', hz1']
    have hP0 := inP_size (l + 1) (b0, z0)
    have hP1 := inP_size (l + 1 + 1) (b1, z1)
    have HIN0 := fun V hu => hI0 (.agg #[u00, u01, u02, u03]) V l (by omega) hu
    have HIN1 := fun V hu => hI1 (.agg #[u10, u11, u12, u13]) V (l + 1) (by omega) hu
    obtain ⟨Y0, hY0⟩ : ∃ Y, inP (l + 1) (b0, z0) = Y := ⟨_, rfl⟩
    obtain ⟨Y1, hY1⟩ : ∃ Y, inP (l + 1 + 1) (b1, z1) = Y := ⟨_, rfl⟩
    rw [hY0] at hP0
    rw [hY1] at hP1
    rw [hY0, hY1]
    have HA0 : Hid (∀ V, IsE V lo t0 (.agg #[u00, u01, u02, u03]) → Calls Tryd.prog 20 #[.agg #[u00, u01, u02, u03], .int .i64 l] V (TextPost Y0 V)) := by rw [← hY0]; exact HIN0
    have HA1 : Hid (∀ V, IsE V lo t1 (.agg #[u10, u11, u12, u13]) → Calls Tryd.prog 20 #[.agg #[u10, u11, u12, u13], .int .i64 (l + 1)] V (TextPost Y1 V)) := by rw [← hY1]; exact HIN1
    have HLV := hideN (fun V => l5Level_any s V)
    rw [hl6] at HLV
    have hp0 : Y0.size ≤ 2000000 := by simp at hP0; omega
    have hp1 : Y1.size ≤ 2000000 := by simp at hP1; omega
    have hr1 : Y0.size ≤ 9223372036854775806 := by omega
    have hr2 : Y0.size + 1 + s.size ≤ 9223372036854775807 := by omega
    have hr3 : Y0.size + 1 + s.size ≤ 9223372036854775806 := by omega
    have hr4 : Y0.size + 1 + s.size + 1 + Y1.size ≤ 9223372036854775807 := by omega
    have hr5 : IntKind.i64.wrap (l + 1) = l + 1 := by rw [IntKind.wrap_i64]; omega
    rw [hl] at HK HW1
    have HC1 : Hid (∀ V, Below W1.heap.size W1 V → V.cell? ⟨w.heap.size, 2, none⟩ = some (.string s) ∧ V.cell? ⟨w.heap.size, 3, none⟩ = some (.slice (some ⟨b, off, none⟩) 2 cap) ∧ V.cell? ⟨b, off, none⟩ = some u00 ∧ V.cell? ⟨b, off + 1, none⟩ = some u01 ∧ V.cell? ⟨b, off + 2, none⟩ = some u02 ∧ V.cell? ⟨b, off + 3, none⟩ = some u03 ∧ V.cell? ⟨b, off + 4, none⟩ = some u10 ∧ V.cell? ⟨b, off + 5, none⟩ = some u11 ∧ V.cell? ⟨b, off + 6, none⟩ = some u12 ∧ V.cell? ⟨b, off + 7, none⟩ = some u13) := fun V hV => ⟨(HK.out.below hV).c2, (HK.out.below hV).c3, ((belNext HB1.out hV).cell hbl).trans c00, ((belNext HB1.out hV).cell hbl).trans c01, ((belNext HB1.out hV).cell hbl).trans c02, ((belNext HB1.out hV).cell hbl).trans c03, ((belNext HB1.out hV).cell hbl).trans c10, ((belNext HB1.out hV).cell hbl).trans c11, ((belNext HB1.out hV).cell hbl).trans c12, ((belNext HB1.out hV).cell hbl).trans c13⟩
    clear hX hkid hif hS0 hI0 hz0 g0 hb0' hz0' ht0' hY0 hP0 HIN0 he0 hS1 hI1 hz1 g1 hb1' hz1' ht1' hY1 hP1 HIN1 he1 hcs hL hkn hj hs hlo hl6 hknn c00 c01 c02 c03 c10 c11 c12 c13
    rw [hl]
    unfold TextPost at *
    go_enter Tryd.func11, Tryd.ntmps11
    go_wp2_with fail
    try rw [← HW1.out]
    refine (HLV.out W1).mono ?_
    rintro e w2 ⟨rfl, hb2⟩
    have HB2 := hideN hb2
    clear hb2
    go_wp2_with fail
    have hd2 := below_drewN HB2.out 1
    obtain ⟨b2, b3, c00, c01, c02, c03, c10, c11, c12, c13⟩ := HC1.out w2.drew hd2
    refine region_U (fin := 19) (S := fun V' => V'.cell? ⟨w.heap.size, 2, none⟩ = some (.string s) ∧ V'.cell? ⟨w.heap.size, 3, none⟩ = some (.slice (some ⟨b, off, none⟩) 2 cap) ∧ V'.cell? ⟨b, off, none⟩ = some u00 ∧ V'.cell? ⟨b, off + 1, none⟩ = some u01 ∧ V'.cell? ⟨b, off + 2, none⟩ = some u02 ∧ V'.cell? ⟨b, off + 3, none⟩ = some u03 ∧ V'.cell? ⟨b, off + 4, none⟩ = some u10 ∧ V'.cell? ⟨b, off + 5, none⟩ = some u11 ∧ V'.cell? ⟨b, off + 6, none⟩ = some u12 ∧ V'.cell? ⟨b, off + 7, none⟩ = some u13) (by kernel_rfl) ⟨b2, b3, c00, c01, c02, c03, c10, c11, c12, c13⟩ (fun hHeld => ?_)
    clear hHeld
    refine takeU (i := 0) (v := .pointer (some ⟨w.heap.size, 3, none⟩)) rfl (by rfl) (by kernel_rfl) (by kernel_rfl) (reach_one (by kernel_rfl)) (by kernel_rfl) (by kernel_rfl) (fun _ _ _ h => h) (Or.inl ⟨by rfl, fun w hS => by obtain ⟨b2, b3, c00, c01, c02, c03, c10, c11, c12, c13⟩ := hS; go_simp⟩) ⟨b2, b3, c00, c01, c02, c03, c10, c11, c12, c13⟩ ?_
    simp only [List.getElem_toArray, List.getElem_cons_zero, Act.put, List.setIfInBounds_toArray, List.set_cons_zero, List.set_cons_succ]
    refine takeU (i := 1) (v := .slice (some ⟨b, off, none⟩) 2 cap) rfl (by rfl) (by kernel_rfl) (by kernel_rfl) (reach_one (by kernel_rfl)) (by kernel_rfl) (by kernel_rfl) (fun _ _ _ h => h) (Or.inl ⟨by rfl, fun w hS => by obtain ⟨b2, b3, c00, c01, c02, c03, c10, c11, c12, c13⟩ := hS; go_simp⟩) ⟨b2, b3, c00, c01, c02, c03, c10, c11, c12, c13⟩ ?_
    simp only [List.getElem_toArray, List.getElem_cons_zero, List.getElem_cons_succ, Act.put, List.setIfInBounds_toArray, List.set_cons_zero, List.set_cons_succ]
    refine takeU (i := 2) (v := .pointer (some ⟨b, off, none⟩)) rfl (by rfl) (by kernel_rfl) (by kernel_rfl) (reach_one (by kernel_rfl)) (by kernel_rfl) (by kernel_rfl) (fun _ _ _ h => h) (Or.inl ⟨by rfl, fun w hS => by obtain ⟨b2, b3, c00, c01, c02, c03, c10, c11, c12, c13⟩ := hS; go_simp⟩) ⟨b2, b3, c00, c01, c02, c03, c10, c11, c12, c13⟩ ?_
    simp only [List.getElem_toArray, List.getElem_cons_zero, List.getElem_cons_succ, Act.put, List.setIfInBounds_toArray, List.set_cons_zero, List.set_cons_succ]
    refine takeU (i := 3) (v := .agg #[u00, u01, u02, u03]) rfl (by rfl) (by kernel_rfl) (by kernel_rfl) (reach_one (by kernel_rfl)) (by kernel_rfl) (by kernel_rfl) (fun _ _ _ h => h) (Or.inl ⟨by rfl, fun w hS => by obtain ⟨b2, b3, c00, c01, c02, c03, c10, c11, c12, c13⟩ := hS; go_simp⟩) ⟨b2, b3, c00, c01, c02, c03, c10, c11, c12, c13⟩ ?_
    simp only [List.getElem_toArray, List.getElem_cons_zero, List.getElem_cons_succ, Act.put, List.setIfInBounds_toArray, List.set_cons_zero, List.set_cons_succ]
    refine takeU (i := 4) (v := .int .i64 l) rfl (by rfl) (by kernel_rfl) (by kernel_rfl) (reach_one (by kernel_rfl)) (by kernel_rfl) (by kernel_rfl) (fun _ _ _ h => h) (Or.inl ⟨by rfl, fun w hS => by obtain ⟨b2, b3, c00, c01, c02, c03, c10, c11, c12, c13⟩ := hS; go_simp⟩) ⟨b2, b3, c00, c01, c02, c03, c10, c11, c12, c13⟩ ?_
    simp only [List.getElem_toArray, List.getElem_cons_zero, List.getElem_cons_succ, Act.put, List.setIfInBounds_toArray, List.set_cons_zero, List.set_cons_succ]
    refine takeU (i := 7) (v := .pointer (some ⟨w.heap.size, 2, none⟩)) rfl (by rfl) (by kernel_rfl) (by kernel_rfl) (reach_one (by kernel_rfl)) (by kernel_rfl) (by kernel_rfl) (fun _ _ _ h => h) (Or.inl ⟨by rfl, fun w hS => by obtain ⟨b2, b3, c00, c01, c02, c03, c10, c11, c12, c13⟩ := hS; go_simp⟩) ⟨b2, b3, c00, c01, c02, c03, c10, c11, c12, c13⟩ ?_
    simp only [List.getElem_toArray, List.getElem_cons_zero, List.getElem_cons_succ, Act.put, List.setIfInBounds_toArray, List.set_cons_zero, List.set_cons_succ]
    refine takeU (i := 8) (v := .string s) rfl (by rfl) (by kernel_rfl) (by kernel_rfl) (reach_one (by kernel_rfl)) (by kernel_rfl) (by kernel_rfl) (fun _ _ _ h => h) (Or.inl ⟨by rfl, fun w hS => by obtain ⟨b2, b3, c00, c01, c02, c03, c10, c11, c12, c13⟩ := hS; go_simp⟩) ⟨b2, b3, c00, c01, c02, c03, c10, c11, c12, c13⟩ ?_
    simp only [List.getElem_toArray, List.getElem_cons_zero, List.getElem_cons_succ, Act.put, List.setIfInBounds_toArray, List.set_cons_zero, List.set_cons_succ]
    refine takeU (i := 11) (v := .pointer (some ⟨w.heap.size, 3, none⟩)) rfl (by rfl) (by kernel_rfl) (by kernel_rfl) (reach_one (by kernel_rfl)) (by kernel_rfl) (by kernel_rfl) (fun _ _ _ h => h) (Or.inl ⟨by rfl, fun w hS => by obtain ⟨b2, b3, c00, c01, c02, c03, c10, c11, c12, c13⟩ := hS; go_simp⟩) ⟨b2, b3, c00, c01, c02, c03, c10, c11, c12, c13⟩ ?_
    simp only [List.getElem_toArray, List.getElem_cons_zero, List.getElem_cons_succ, Act.put, List.setIfInBounds_toArray, List.set_cons_zero, List.set_cons_succ]
    refine takeU (i := 12) (v := .slice (some ⟨b, off, none⟩) 2 cap) rfl (by rfl) (by kernel_rfl) (by kernel_rfl) (reach_one (by kernel_rfl)) (by kernel_rfl) (by kernel_rfl) (fun _ _ _ h => h) (Or.inl ⟨by rfl, fun w hS => by obtain ⟨b2, b3, c00, c01, c02, c03, c10, c11, c12, c13⟩ := hS; go_simp⟩) ⟨b2, b3, c00, c01, c02, c03, c10, c11, c12, c13⟩ ?_
    simp only [List.getElem_toArray, List.getElem_cons_zero, List.getElem_cons_succ, Act.put, List.setIfInBounds_toArray, List.set_cons_zero, List.set_cons_succ]
    refine takeU (i := 13) (v := .pointer (some ⟨b, off + 4, none⟩)) rfl (by rfl) (by kernel_rfl) (by kernel_rfl) (reach_one (by kernel_rfl)) (by kernel_rfl) (by kernel_rfl) (fun _ _ _ h => h) (Or.inl ⟨by rfl, fun w hS => by obtain ⟨b2, b3, c00, c01, c02, c03, c10, c11, c12, c13⟩ := hS; go_simp⟩) ⟨b2, b3, c00, c01, c02, c03, c10, c11, c12, c13⟩ ?_
    simp only [List.getElem_toArray, List.getElem_cons_zero, List.getElem_cons_succ, Act.put, List.setIfInBounds_toArray, List.set_cons_zero, List.set_cons_succ]
    refine takeU (i := 14) (v := .agg #[u10, u11, u12, u13]) rfl (by rfl) (by kernel_rfl) (by kernel_rfl) (reach_one (by kernel_rfl)) (by kernel_rfl) (by kernel_rfl) (fun _ _ _ h => h) (Or.inl ⟨by rfl, fun w hS => by obtain ⟨b2, b3, c00, c01, c02, c03, c10, c11, c12, c13⟩ := hS; go_simp⟩) ⟨b2, b3, c00, c01, c02, c03, c10, c11, c12, c13⟩ ?_
    simp only [List.getElem_toArray, List.getElem_cons_zero, List.getElem_cons_succ, Act.put, List.setIfInBounds_toArray, List.set_cons_zero, List.set_cons_succ]
    refine takeU (i := 15) (v := .int .i64 l) rfl (by rfl) (by kernel_rfl) (by kernel_rfl) (reach_one (by kernel_rfl)) (by kernel_rfl) (by kernel_rfl) (fun _ _ _ h => h) (Or.inl ⟨by rfl, fun w hS => by obtain ⟨b2, b3, c00, c01, c02, c03, c10, c11, c12, c13⟩ := hS; go_simp⟩) ⟨b2, b3, c00, c01, c02, c03, c10, c11, c12, c13⟩ ?_
    simp only [List.getElem_toArray, List.getElem_cons_zero, List.getElem_cons_succ, Act.put, List.setIfInBounds_toArray, List.set_cons_zero, List.set_cons_succ]
    refine takeU (i := 16) (v := .int .i64 (l + 1)) rfl (by rfl) (by kernel_rfl) (by kernel_rfl) (reach_one (by kernel_rfl)) (by kernel_rfl) (by kernel_rfl) (fun _ _ _ h => h) (Or.inl ⟨by rfl, fun w hS => by obtain ⟨b2, b3, c00, c01, c02, c03, c10, c11, c12, c13⟩ := hS; go_simp⟩) ⟨b2, b3, c00, c01, c02, c03, c10, c11, c12, c13⟩ ?_
    simp only [List.getElem_toArray, List.getElem_cons_zero, List.getElem_cons_succ, Act.put, List.setIfInBounds_toArray, List.set_cons_zero, List.set_cons_succ]
    refine oneU (i := 5) (by kernel_rfl) rfl (by rfl) ?_
    simp only [List.getElem_toArray, List.getElem_cons_zero, List.getElem_cons_succ]
    go_simp
    refine (HA0.out _ (IsE.below HE0.out (belNext HB1.out hd2))).mono ?_
    rintro e V3 ⟨rfl, hb3⟩
    have HB3 := hideN (belNext hd2 hb3)
    clear b2 b3 c00 c01 c02 c03 c10 c11 c12 c13
    obtain ⟨b2, b3, c00, c01, c02, c03, c10, c11, c12, c13⟩ := HC1.out V3 HB3.out
    first | refine ⟨⟨b2, b3, c00, c01, c02, c03, c10, c11, c12, c13⟩, ?_⟩ | skip
    clear hb3
    refine takeU (i := 6) (v := .string (Y0 ++ ⟨#[32]⟩)) rfl (by rfl) (by kernel_rfl) (by kernel_rfl) (reach_one (by kernel_rfl)) (by kernel_rfl) (by kernel_rfl) (fun _ _ _ h => h) (Or.inl ⟨by rfl, fun w hS => by obtain ⟨b2, b3, c00, c01, c02, c03, c10, c11, c12, c13⟩ := hS; go_simp⟩) ⟨b2, b3, c00, c01, c02, c03, c10, c11, c12, c13⟩ ?_
    simp only [List.getElem_toArray, List.getElem_cons_zero, List.getElem_cons_succ, Act.put, List.setIfInBounds_toArray, List.set_cons_zero, List.set_cons_succ]
    refine takeU (i := 9) (v := .string (Y0 ++ ⟨#[32]⟩ ++ s)) rfl (by rfl) (by kernel_rfl) (by kernel_rfl) (reach_one (by kernel_rfl)) (by kernel_rfl) (by kernel_rfl) (fun _ _ _ h => h) (Or.inl ⟨by rfl, fun w hS => by obtain ⟨b2, b3, c00, c01, c02, c03, c10, c11, c12, c13⟩ := hS; go_simp⟩) ⟨b2, b3, c00, c01, c02, c03, c10, c11, c12, c13⟩ ?_
    simp only [List.getElem_toArray, List.getElem_cons_zero, List.getElem_cons_succ, Act.put, List.setIfInBounds_toArray, List.set_cons_zero, List.set_cons_succ]
    refine takeU (i := 10) (v := .string (Y0 ++ ⟨#[32]⟩ ++ s ++ ⟨#[32]⟩)) rfl (by rfl) (by kernel_rfl) (by kernel_rfl) (reach_one (by kernel_rfl)) (by kernel_rfl) (by kernel_rfl) (fun _ _ _ h => h) (Or.inl ⟨by rfl, fun w hS => by obtain ⟨b2, b3, c00, c01, c02, c03, c10, c11, c12, c13⟩ := hS; go_simp⟩) ⟨b2, b3, c00, c01, c02, c03, c10, c11, c12, c13⟩ ?_
    simp only [List.getElem_toArray, List.getElem_cons_zero, List.getElem_cons_succ, Act.put, List.setIfInBounds_toArray, List.set_cons_zero, List.set_cons_succ]
    refine oneU (i := 17) (by kernel_rfl) rfl (by rfl) ?_
    simp only [List.getElem_toArray, List.getElem_cons_zero, List.getElem_cons_succ]
    go_simp
    refine (HA1.out V3 (IsE.below HE1.out (belNext HB1.out HB3.out))).mono ?_
    rintro e V4 ⟨rfl, hb4⟩
    have HB4 := hideN (belNext HB3.out hb4)
    clear b2 b3 c00 c01 c02 c03 c10 c11 c12 c13
    obtain ⟨b2, b3, c00, c01, c02, c03, c10, c11, c12, c13⟩ := HC1.out V4 HB4.out
    first | refine ⟨⟨b2, b3, c00, c01, c02, c03, c10, c11, c12, c13⟩, ?_⟩ | skip
    clear hb4
    refine takeU (i := 18) (v := .string (Y0 ++ ⟨#[32]⟩ ++ s ++ ⟨#[32]⟩ ++ Y1)) rfl (by rfl) (by kernel_rfl) (by kernel_rfl) (reach_one (by kernel_rfl)) (by kernel_rfl) (by kernel_rfl) (fun _ _ _ h => h) (Or.inl ⟨by rfl, fun w hS => by obtain ⟨b2, b3, c00, c01, c02, c03, c10, c11, c12, c13⟩ := hS; go_simp⟩) ⟨b2, b3, c00, c01, c02, c03, c10, c11, c12, c13⟩ ?_
    simp only [List.getElem_toArray, List.getElem_cons_zero, List.getElem_cons_succ, Act.put, List.setIfInBounds_toArray, List.set_cons_zero, List.set_cons_succ]
    refine oneU (i := 19) (by kernel_rfl) rfl (by rfl) ?_
    simp only [List.getElem_toArray, List.getElem_cons_zero, List.getElem_cons_succ]
    go_simp
    refine doneU (by kernel_rfl) ?_ _
    go_wp2_with fail
    go_ret
    exact ⟨rfl, belNext HB1.out HB4.out⟩
  by_cases h7 : k = 7
  · subst h7
    have hl : ks.length = 3 := hkn
    obtain ⟨b, off, rfl, hlo, hcs⟩ := hL (by omega)
    obtain ⟨hS0, hz0, hI0⟩ := hkid 0 (by omega)
    have g0 := hif 0 (by omega)
    obtain ⟨u0, ⟨u00, u01, u02, u03, rfl, c00, c01, c02, c03⟩, he0⟩ := hcs 0 (by omega)
    have HE0 := hideN he0
    rw [show off + 0 * 4 = off by omega] at c00 c01 c02 c03
    obtain ⟨hS1, hz1, hI1⟩ := hkid 1 (by omega)
    have g1 := hif 1 (by omega)
    obtain ⟨u1, ⟨u10, u11, u12, u13, rfl, c10, c11, c12, c13⟩, he1⟩ := hcs 1 (by omega)
    have HE1 := hideN he1
    rw [show off + 1 * 4 = off + 4 by omega] at c10 c11 c12 c13
    rw [show off + 4 + 1 = off + 5 by omega] at c11
    rw [show off + 4 + 2 = off + 6 by omega] at c12
    rw [show off + 4 + 3 = off + 7 by omega] at c13
    obtain ⟨hS2, hz2, hI2⟩ := hkid 2 (by omega)
    have g2 := hif 2 (by omega)
    obtain ⟨u2, ⟨u20, u21, u22, u23, rfl, c20, c21, c22, c23⟩, he2⟩ := hcs 2 (by omega)
    have HE2 := hideN he2
    rw [show off + 2 * 4 = off + 8 by omega] at c20 c21 c22 c23
    rw [show off + 8 + 1 = off + 9 by omega] at c21
    rw [show off + 8 + 2 = off + 10 by omega] at c22
    rw [show off + 8 + 3 = off + 11 by omega] at c23
    have hbl : b < w.heap.size := cell_lt c00
    have hX : showOne 7 n s (showL ks) = ⟨#[105, 102, 32]⟩ ++ showT (ks.getD 0 e0) ++ ⟨#[32, 116, 104, 101, 110, 32]⟩ ++ showT (ks.getD 1 e0) ++ ⟨#[32, 101, 108, 115, 101, 32]⟩ ++ showT (ks.getD 2 e0) := by unfold showOne; simp only [g0, g1, g2]; simp
    rw [hX]
    obtain ⟨b0, hb0'⟩ : ∃ b, bindT (ks.getD 0 e0) = b := ⟨_, rfl⟩
    obtain ⟨z0, hz0'⟩ : ∃ z, showT (ks.getD 0 e0) = z := ⟨_, rfl⟩
    obtain ⟨t0, ht0'⟩ : ∃ t, ks.getD 0 e0 = t := ⟨_, rfl⟩
    rw [hb0', hz0', ht0'] at hI0
    rw [hz0', ht0'] at hS0
    rw [hz0'] at hz0
    rw [ht0'] at HE0 he0
    obtain ⟨b1, hb1'⟩ : ∃ b, bindT (ks.getD 1 e0) = b := ⟨_, rfl⟩
    obtain ⟨z1, hz1'⟩ : ∃ z, showT (ks.getD 1 e0) = z := ⟨_, rfl⟩
    obtain ⟨t1, ht1'⟩ : ∃ t, ks.getD 1 e0 = t := ⟨_, rfl⟩
    rw [hb1', hz1', ht1'] at hI1
    rw [hz1', ht1'] at hS1
    rw [hz1'] at hz1
    rw [ht1'] at HE1 he1
    obtain ⟨b2, hb2'⟩ : ∃ b, bindT (ks.getD 2 e0) = b := ⟨_, rfl⟩
    obtain ⟨z2, hz2'⟩ : ∃ z, showT (ks.getD 2 e0) = z := ⟨_, rfl⟩
    obtain ⟨t2, ht2'⟩ : ∃ t, ks.getD 2 e0 = t := ⟨_, rfl⟩
    rw [hb2', hz2', ht2'] at hI2
    rw [hz2', ht2'] at hS2
    rw [hz2'] at hz2
    rw [ht2'] at HE2 he2
    rw [hz0', hz1', hz2']
    have HA0 := hideN (fun V hu => hS0 (.agg #[u00, u01, u02, u03]) V hu)
    have HA1 := hideN (fun V hu => hS1 (.agg #[u10, u11, u12, u13]) V hu)
    have HA2 := hideN (fun V hu => hS2 (.agg #[u20, u21, u22, u23]) V hu)
    have hr1 : 3 + z0.size ≤ 9223372036854775807 := by omega
    have hr2 : 3 + z0.size ≤ 9223372036854775801 := by omega
    have hr3 : 3 + z0.size + 6 + z1.size ≤ 9223372036854775807 := by omega
    have hr4 : 3 + z0.size + 6 + z1.size ≤ 9223372036854775801 := by omega
    have hr5 : 3 + z0.size + 6 + z1.size + 6 + z2.size ≤ 9223372036854775807 := by omega
    rw [hl] at HK HW1
    have HC1 : Hid (∀ V, Below W1.heap.size W1 V → V.cell? ⟨w.heap.size, 2, none⟩ = some (.string s) ∧ V.cell? ⟨w.heap.size, 3, none⟩ = some (.slice (some ⟨b, off, none⟩) 3 cap) ∧ V.cell? ⟨b, off, none⟩ = some u00 ∧ V.cell? ⟨b, off + 1, none⟩ = some u01 ∧ V.cell? ⟨b, off + 2, none⟩ = some u02 ∧ V.cell? ⟨b, off + 3, none⟩ = some u03 ∧ V.cell? ⟨b, off + 4, none⟩ = some u10 ∧ V.cell? ⟨b, off + 5, none⟩ = some u11 ∧ V.cell? ⟨b, off + 6, none⟩ = some u12 ∧ V.cell? ⟨b, off + 7, none⟩ = some u13 ∧ V.cell? ⟨b, off + 8, none⟩ = some u20 ∧ V.cell? ⟨b, off + 9, none⟩ = some u21 ∧ V.cell? ⟨b, off + 10, none⟩ = some u22 ∧ V.cell? ⟨b, off + 11, none⟩ = some u23) := fun V hV => ⟨(HK.out.below hV).c2, (HK.out.below hV).c3, ((belNext HB1.out hV).cell hbl).trans c00, ((belNext HB1.out hV).cell hbl).trans c01, ((belNext HB1.out hV).cell hbl).trans c02, ((belNext HB1.out hV).cell hbl).trans c03, ((belNext HB1.out hV).cell hbl).trans c10, ((belNext HB1.out hV).cell hbl).trans c11, ((belNext HB1.out hV).cell hbl).trans c12, ((belNext HB1.out hV).cell hbl).trans c13, ((belNext HB1.out hV).cell hbl).trans c20, ((belNext HB1.out hV).cell hbl).trans c21, ((belNext HB1.out hV).cell hbl).trans c22, ((belNext HB1.out hV).cell hbl).trans c23⟩
    clear hX hkid hif hS0 hI0 g0 hb0' hz0' ht0' he0 hS1 hI1 g1 hb1' hz1' ht1' he1 hS2 hI2 g2 hb2' hz2' ht2' he2 hcs hL hkn hj hs hlo hknn c00 c01 c02 c03 c10 c11 c12 c13 c20 c21 c22 c23
    rw [hl]
    unfold TextPost at *
    go_enter Tryd.func11, Tryd.ntmps11
    go_wp2_with fail
    try rw [← HW1.out]
    have hd1 := below_drewN (Below.refl W1.heap.size W1) 1
    obtain ⟨b2, b3, c00, c01, c02, c03, c10, c11, c12, c13, c20, c21, c22, c23⟩ := HC1.out W1.drew hd1
    refine region_U (fin := 20) (S := fun V' => V'.cell? ⟨w.heap.size, 2, none⟩ = some (.string s) ∧ V'.cell? ⟨w.heap.size, 3, none⟩ = some (.slice (some ⟨b, off, none⟩) 3 cap) ∧ V'.cell? ⟨b, off, none⟩ = some u00 ∧ V'.cell? ⟨b, off + 1, none⟩ = some u01 ∧ V'.cell? ⟨b, off + 2, none⟩ = some u02 ∧ V'.cell? ⟨b, off + 3, none⟩ = some u03 ∧ V'.cell? ⟨b, off + 4, none⟩ = some u10 ∧ V'.cell? ⟨b, off + 5, none⟩ = some u11 ∧ V'.cell? ⟨b, off + 6, none⟩ = some u12 ∧ V'.cell? ⟨b, off + 7, none⟩ = some u13 ∧ V'.cell? ⟨b, off + 8, none⟩ = some u20 ∧ V'.cell? ⟨b, off + 9, none⟩ = some u21 ∧ V'.cell? ⟨b, off + 10, none⟩ = some u22 ∧ V'.cell? ⟨b, off + 11, none⟩ = some u23) (by kernel_rfl) ⟨b2, b3, c00, c01, c02, c03, c10, c11, c12, c13, c20, c21, c22, c23⟩ (fun hHeld => ?_)
    clear hHeld
    refine takeU (i := 0) (v := .pointer (some ⟨w.heap.size, 3, none⟩)) rfl (by rfl) (by kernel_rfl) (by kernel_rfl) (reach_one (by kernel_rfl)) (by kernel_rfl) (by kernel_rfl) (fun _ _ _ h => h) (Or.inl ⟨by rfl, fun w hS => by obtain ⟨b2, b3, c00, c01, c02, c03, c10, c11, c12, c13, c20, c21, c22, c23⟩ := hS; go_simp⟩) ⟨b2, b3, c00, c01, c02, c03, c10, c11, c12, c13, c20, c21, c22, c23⟩ ?_
    simp only [List.getElem_toArray, List.getElem_cons_zero, Act.put, List.setIfInBounds_toArray, List.set_cons_zero, List.set_cons_succ]
    refine takeU (i := 1) (v := .slice (some ⟨b, off, none⟩) 3 cap) rfl (by rfl) (by kernel_rfl) (by kernel_rfl) (reach_one (by kernel_rfl)) (by kernel_rfl) (by kernel_rfl) (fun _ _ _ h => h) (Or.inl ⟨by rfl, fun w hS => by obtain ⟨b2, b3, c00, c01, c02, c03, c10, c11, c12, c13, c20, c21, c22, c23⟩ := hS; go_simp⟩) ⟨b2, b3, c00, c01, c02, c03, c10, c11, c12, c13, c20, c21, c22, c23⟩ ?_
    simp only [List.getElem_toArray, List.getElem_cons_zero, List.getElem_cons_succ, Act.put, List.setIfInBounds_toArray, List.set_cons_zero, List.set_cons_succ]
    refine takeU (i := 2) (v := .pointer (some ⟨b, off, none⟩)) rfl (by rfl) (by kernel_rfl) (by kernel_rfl) (reach_one (by kernel_rfl)) (by kernel_rfl) (by kernel_rfl) (fun _ _ _ h => h) (Or.inl ⟨by rfl, fun w hS => by obtain ⟨b2, b3, c00, c01, c02, c03, c10, c11, c12, c13, c20, c21, c22, c23⟩ := hS; go_simp⟩) ⟨b2, b3, c00, c01, c02, c03, c10, c11, c12, c13, c20, c21, c22, c23⟩ ?_
    simp only [List.getElem_toArray, List.getElem_cons_zero, List.getElem_cons_succ, Act.put, List.setIfInBounds_toArray, List.set_cons_zero, List.set_cons_succ]
    refine takeU (i := 3) (v := .agg #[u00, u01, u02, u03]) rfl (by rfl) (by kernel_rfl) (by kernel_rfl) (reach_one (by kernel_rfl)) (by kernel_rfl) (by kernel_rfl) (fun _ _ _ h => h) (Or.inl ⟨by rfl, fun w hS => by obtain ⟨b2, b3, c00, c01, c02, c03, c10, c11, c12, c13, c20, c21, c22, c23⟩ := hS; go_simp⟩) ⟨b2, b3, c00, c01, c02, c03, c10, c11, c12, c13, c20, c21, c22, c23⟩ ?_
    simp only [List.getElem_toArray, List.getElem_cons_zero, List.getElem_cons_succ, Act.put, List.setIfInBounds_toArray, List.set_cons_zero, List.set_cons_succ]
    refine takeU (i := 7) (v := .pointer (some ⟨w.heap.size, 3, none⟩)) rfl (by rfl) (by kernel_rfl) (by kernel_rfl) (reach_one (by kernel_rfl)) (by kernel_rfl) (by kernel_rfl) (fun _ _ _ h => h) (Or.inl ⟨by rfl, fun w hS => by obtain ⟨b2, b3, c00, c01, c02, c03, c10, c11, c12, c13, c20, c21, c22, c23⟩ := hS; go_simp⟩) ⟨b2, b3, c00, c01, c02, c03, c10, c11, c12, c13, c20, c21, c22, c23⟩ ?_
    simp only [List.getElem_toArray, List.getElem_cons_zero, List.getElem_cons_succ, Act.put, List.setIfInBounds_toArray, List.set_cons_zero, List.set_cons_succ]
    refine takeU (i := 8) (v := .slice (some ⟨b, off, none⟩) 3 cap) rfl (by rfl) (by kernel_rfl) (by kernel_rfl) (reach_one (by kernel_rfl)) (by kernel_rfl) (by kernel_rfl) (fun _ _ _ h => h) (Or.inl ⟨by rfl, fun w hS => by obtain ⟨b2, b3, c00, c01, c02, c03, c10, c11, c12, c13, c20, c21, c22, c23⟩ := hS; go_simp⟩) ⟨b2, b3, c00, c01, c02, c03, c10, c11, c12, c13, c20, c21, c22, c23⟩ ?_
    simp only [List.getElem_toArray, List.getElem_cons_zero, List.getElem_cons_succ, Act.put, List.setIfInBounds_toArray, List.set_cons_zero, List.set_cons_succ]
    refine takeU (i := 9) (v := .pointer (some ⟨b, off + 4, none⟩)) rfl (by rfl) (by kernel_rfl) (by kernel_rfl) (reach_one (by kernel_rfl)) (by kernel_rfl) (by kernel_rfl) (fun _ _ _ h => h) (Or.inl ⟨by rfl, fun w hS => by obtain ⟨b2, b3, c00, c01, c02, c03, c10, c11, c12, c13, c20, c21, c22, c23⟩ := hS; go_simp⟩) ⟨b2, b3, c00, c01, c02, c03, c10, c11, c12, c13, c20, c21, c22, c23⟩ ?_
    simp only [List.getElem_toArray, List.getElem_cons_zero, List.getElem_cons_succ, Act.put, List.setIfInBounds_toArray, List.set_cons_zero, List.set_cons_succ]
    refine takeU (i := 10) (v := .agg #[u10, u11, u12, u13]) rfl (by rfl) (by kernel_rfl) (by kernel_rfl) (reach_one (by kernel_rfl)) (by kernel_rfl) (by kernel_rfl) (fun _ _ _ h => h) (Or.inl ⟨by rfl, fun w hS => by obtain ⟨b2, b3, c00, c01, c02, c03, c10, c11, c12, c13, c20, c21, c22, c23⟩ := hS; go_simp⟩) ⟨b2, b3, c00, c01, c02, c03, c10, c11, c12, c13, c20, c21, c22, c23⟩ ?_
    simp only [List.getElem_toArray, List.getElem_cons_zero, List.getElem_cons_succ, Act.put, List.setIfInBounds_toArray, List.set_cons_zero, List.set_cons_succ]
    refine takeU (i := 14) (v := .pointer (some ⟨w.heap.size, 3, none⟩)) rfl (by rfl) (by kernel_rfl) (by kernel_rfl) (reach_one (by kernel_rfl)) (by kernel_rfl) (by kernel_rfl) (fun _ _ _ h => h) (Or.inl ⟨by rfl, fun w hS => by obtain ⟨b2, b3, c00, c01, c02, c03, c10, c11, c12, c13, c20, c21, c22, c23⟩ := hS; go_simp⟩) ⟨b2, b3, c00, c01, c02, c03, c10, c11, c12, c13, c20, c21, c22, c23⟩ ?_
    simp only [List.getElem_toArray, List.getElem_cons_zero, List.getElem_cons_succ, Act.put, List.setIfInBounds_toArray, List.set_cons_zero, List.set_cons_succ]
    refine takeU (i := 15) (v := .slice (some ⟨b, off, none⟩) 3 cap) rfl (by rfl) (by kernel_rfl) (by kernel_rfl) (reach_one (by kernel_rfl)) (by kernel_rfl) (by kernel_rfl) (fun _ _ _ h => h) (Or.inl ⟨by rfl, fun w hS => by obtain ⟨b2, b3, c00, c01, c02, c03, c10, c11, c12, c13, c20, c21, c22, c23⟩ := hS; go_simp⟩) ⟨b2, b3, c00, c01, c02, c03, c10, c11, c12, c13, c20, c21, c22, c23⟩ ?_
    simp only [List.getElem_toArray, List.getElem_cons_zero, List.getElem_cons_succ, Act.put, List.setIfInBounds_toArray, List.set_cons_zero, List.set_cons_succ]
    refine takeU (i := 16) (v := .pointer (some ⟨b, off + 8, none⟩)) rfl (by rfl) (by kernel_rfl) (by kernel_rfl) (reach_one (by kernel_rfl)) (by kernel_rfl) (by kernel_rfl) (fun _ _ _ h => h) (Or.inl ⟨by rfl, fun w hS => by obtain ⟨b2, b3, c00, c01, c02, c03, c10, c11, c12, c13, c20, c21, c22, c23⟩ := hS; go_simp⟩) ⟨b2, b3, c00, c01, c02, c03, c10, c11, c12, c13, c20, c21, c22, c23⟩ ?_
    simp only [List.getElem_toArray, List.getElem_cons_zero, List.getElem_cons_succ, Act.put, List.setIfInBounds_toArray, List.set_cons_zero, List.set_cons_succ]
    refine takeU (i := 17) (v := .agg #[u20, u21, u22, u23]) rfl (by rfl) (by kernel_rfl) (by kernel_rfl) (reach_one (by kernel_rfl)) (by kernel_rfl) (by kernel_rfl) (fun _ _ _ h => h) (Or.inl ⟨by rfl, fun w hS => by obtain ⟨b2, b3, c00, c01, c02, c03, c10, c11, c12, c13, c20, c21, c22, c23⟩ := hS; go_simp⟩) ⟨b2, b3, c00, c01, c02, c03, c10, c11, c12, c13, c20, c21, c22, c23⟩ ?_
    simp only [List.getElem_toArray, List.getElem_cons_zero, List.getElem_cons_succ, Act.put, List.setIfInBounds_toArray, List.set_cons_zero, List.set_cons_succ]
    refine oneU (i := 4) (by kernel_rfl) rfl (by rfl) ?_
    simp only [List.getElem_toArray, List.getElem_cons_zero, List.getElem_cons_succ]
    go_simp
    refine (HA0.out _ (IsE.below HE0.out (belNext HB1.out hd1))).mono ?_
    rintro e V2 ⟨rfl, hb2⟩
    have HB2 := hideN (belNext hd1 hb2)
    clear b2 b3 c00 c01 c02 c03 c10 c11 c12 c13 c20 c21 c22 c23
    obtain ⟨b2, b3, c00, c01, c02, c03, c10, c11, c12, c13, c20, c21, c22, c23⟩ := HC1.out V2 HB2.out
    first | refine ⟨⟨b2, b3, c00, c01, c02, c03, c10, c11, c12, c13, c20, c21, c22, c23⟩, ?_⟩ | skip
    clear hb2
    refine takeU (i := 5) (v := .string (⟨#[105, 102, 32]⟩ ++ z0)) rfl (by rfl) (by kernel_rfl) (by kernel_rfl) (reach_one (by kernel_rfl)) (by kernel_rfl) (by kernel_rfl) (fun _ _ _ h => h) (Or.inl ⟨by rfl, fun w hS => by obtain ⟨b2, b3, c00, c01, c02, c03, c10, c11, c12, c13, c20, c21, c22, c23⟩ := hS; go_simp⟩) ⟨b2, b3, c00, c01, c02, c03, c10, c11, c12, c13, c20, c21, c22, c23⟩ ?_
    simp only [List.getElem_toArray, List.getElem_cons_zero, List.getElem_cons_succ, Act.put, List.setIfInBounds_toArray, List.set_cons_zero, List.set_cons_succ]
    refine takeU (i := 6) (v := .string (⟨#[105, 102, 32]⟩ ++ z0 ++ ⟨#[32, 116, 104, 101, 110, 32]⟩)) rfl (by rfl) (by kernel_rfl) (by kernel_rfl) (reach_one (by kernel_rfl)) (by kernel_rfl) (by kernel_rfl) (fun _ _ _ h => h) (Or.inl ⟨by rfl, fun w hS => by obtain ⟨b2, b3, c00, c01, c02, c03, c10, c11, c12, c13, c20, c21, c22, c23⟩ := hS; go_simp⟩) ⟨b2, b3, c00, c01, c02, c03, c10, c11, c12, c13, c20, c21, c22, c23⟩ ?_
    simp only [List.getElem_toArray, List.getElem_cons_zero, List.getElem_cons_succ, Act.put, List.setIfInBounds_toArray, List.set_cons_zero, List.set_cons_succ]
    refine oneU (i := 11) (by kernel_rfl) rfl (by rfl) ?_
    simp only [List.getElem_toArray, List.getElem_cons_zero, List.getElem_cons_succ]
    go_simp
    refine (HA1.out _ (IsE.below HE1.out (belNext HB1.out HB2.out))).mono ?_
    rintro e V3 ⟨rfl, hb3⟩
    have HB3 := hideN (belNext HB2.out hb3)
    clear b2 b3 c00 c01 c02 c03 c10 c11 c12 c13 c20 c21 c22 c23
    obtain ⟨b2, b3, c00, c01, c02, c03, c10, c11, c12, c13, c20, c21, c22, c23⟩ := HC1.out V3 HB3.out
    first | refine ⟨⟨b2, b3, c00, c01, c02, c03, c10, c11, c12, c13, c20, c21, c22, c23⟩, ?_⟩ | skip
    clear hb3
    refine takeU (i := 12) (v := .string (⟨#[105, 102, 32]⟩ ++ z0 ++ ⟨#[32, 116, 104, 101, 110, 32]⟩ ++ z1)) rfl (by rfl) (by kernel_rfl) (by kernel_rfl) (reach_one (by kernel_rfl)) (by kernel_rfl) (by kernel_rfl) (fun _ _ _ h => h) (Or.inl ⟨by rfl, fun w hS => by obtain ⟨b2, b3, c00, c01, c02, c03, c10, c11, c12, c13, c20, c21, c22, c23⟩ := hS; go_simp⟩) ⟨b2, b3, c00, c01, c02, c03, c10, c11, c12, c13, c20, c21, c22, c23⟩ ?_
    simp only [List.getElem_toArray, List.getElem_cons_zero, List.getElem_cons_succ, Act.put, List.setIfInBounds_toArray, List.set_cons_zero, List.set_cons_succ]
    refine takeU (i := 13) (v := .string (⟨#[105, 102, 32]⟩ ++ z0 ++ ⟨#[32, 116, 104, 101, 110, 32]⟩ ++ z1 ++ ⟨#[32, 101, 108, 115, 101, 32]⟩)) rfl (by rfl) (by kernel_rfl) (by kernel_rfl) (reach_one (by kernel_rfl)) (by kernel_rfl) (by kernel_rfl) (fun _ _ _ h => h) (Or.inl ⟨by rfl, fun w hS => by obtain ⟨b2, b3, c00, c01, c02, c03, c10, c11, c12, c13, c20, c21, c22, c23⟩ := hS; go_simp⟩) ⟨b2, b3, c00, c01, c02, c03, c10, c11, c12, c13, c20, c21, c22, c23⟩ ?_
    simp only [List.getElem_toArray, List.getElem_cons_zero, List.getElem_cons_succ, Act.put, List.setIfInBounds_toArray, List.set_cons_zero, List.set_cons_succ]
    refine oneU (i := 18) (by kernel_rfl) rfl (by rfl) ?_
    simp only [List.getElem_toArray, List.getElem_cons_zero, List.getElem_cons_succ]
    go_simp
    refine (HA2.out _ (IsE.below HE2.out (belNext HB1.out HB3.out))).mono ?_
    rintro e V4 ⟨rfl, hb4⟩
    have HB4 := hideN (belNext HB3.out hb4)
    clear b2 b3 c00 c01 c02 c03 c10 c11 c12 c13 c20 c21 c22 c23
    obtain ⟨b2, b3, c00, c01, c02, c03, c10, c11, c12, c13, c20, c21, c22, c23⟩ := HC1.out V4 HB4.out
    first | refine ⟨⟨b2, b3, c00, c01, c02, c03, c10, c11, c12, c13, c20, c21, c22, c23⟩, ?_⟩ | skip
    clear hb4
    refine takeU (i := 19) (v := .string (⟨#[105, 102, 32]⟩ ++ z0 ++ ⟨#[32, 116, 104, 101, 110, 32]⟩ ++ z1 ++ ⟨#[32, 101, 108, 115, 101, 32]⟩ ++ z2)) rfl (by rfl) (by kernel_rfl) (by kernel_rfl) (reach_one (by kernel_rfl)) (by kernel_rfl) (by kernel_rfl) (fun _ _ _ h => h) (Or.inl ⟨by rfl, fun w hS => by obtain ⟨b2, b3, c00, c01, c02, c03, c10, c11, c12, c13, c20, c21, c22, c23⟩ := hS; go_simp⟩) ⟨b2, b3, c00, c01, c02, c03, c10, c11, c12, c13, c20, c21, c22, c23⟩ ?_
    simp only [List.getElem_toArray, List.getElem_cons_zero, List.getElem_cons_succ, Act.put, List.setIfInBounds_toArray, List.set_cons_zero, List.set_cons_succ]
    refine oneU (i := 20) (by kernel_rfl) rfl (by rfl) ?_
    simp only [List.getElem_toArray, List.getElem_cons_zero, List.getElem_cons_succ]
    go_simp
    refine doneU (by kernel_rfl) ?_ _
    go_wp2_with fail
    go_ret
    exact ⟨rfl, belNext HB1.out HB4.out⟩
  exfalso
  unfold joinB at hj
  simp [h1, h2, h3, h4, h5, h6, h7] at hj

set_option maxRecDepth 100000 in
set_option maxHeartbeats 4000000 in
theorem specExpShow_any (lo : Nat) (t : ExpT) (ht : totE t ≤ 1048576) (v : Value) (w : World) (hE : IsE w lo t v) : Calls Tryd.prog 5 #[v] w (TextPost (if okE t = true then showT t else ⟨#[]⟩) w) := by
  obtain ⟨k, n, s, ao, m, cap, rfl⟩ := hE.agg
  obtain ⟨W1, hW1⟩ : ∃ W1, W1 = w.alloc (.cells #[.int .i64 k, .int .i64 n, .string s, .slice ao m cap] 29) := ⟨_, rfl⟩
  have HB1 : Hid (Below w.heap.size w W1) := by rw [hW1]; exact belOne _ _
  have HK : Hid (BlkE W1 w.heap.size (.int .i64 k) (.int .i64 n) (.string s) (.slice ao m cap) 29) := by rw [hW1]; exact BlkE.new _ _ _ _ _ _
  have HOK := hideN (specExpOk_any lo t ht _ W1 (IsE.below hE HB1.out))
  have HSH : Hid (okE t = true → ∀ V, Below w.heap.size w V → Calls Tryd.prog 11 #[.agg #[.int .i64 k, .int .i64 n, .string s, .slice ao m cap]] V (TextPost (showT t) V)) := fun hok V hV => by
    unfold okE at hok
    simp only [Bool.and_eq_true, decide_eq_true_eq] at hok
    exact l5Show_any lo t ht hok.2.2 hok.1 _ V (IsE.below hE hV)
  have HW1 := hideN hW1
  generalize okE t = r at *
  generalize showT t = X at *
  clear hE hW1
  unfold TextPost BoolPost at *
  cases r with
  | false =>
    have hv : (if false = true then X else (⟨#[]⟩ : ByteArray)) = ⟨#[]⟩ := rfl
    rw [hv]
    clear hv
    go_enter Tryd.func5, Tryd.ntmps5
    go_wp2_with fail
    try rw [← HW1.out]
    refine HOK.out.mono ?_
    rintro e w2 ⟨rfl, hb2⟩
    have HB2 := hideN (belNext HB1.out hb2)
    clear hb2
    go_wp2_with fail
    go_ret
    exact ⟨rfl, HB2.out⟩
  | true =>
    have hv : (if true = true then X else (⟨#[]⟩ : ByteArray)) = X := rfl
    rw [hv]
    clear hv
    go_enter Tryd.func5, Tryd.ntmps5
    go_wp2_with fail
    try rw [← HW1.out]
    refine HOK.out.mono ?_
    rintro e w2 ⟨rfl, hb2⟩
    have HB2 := hideN (belNext HB1.out hb2)
    have b0 := (HK.out.below hb2).c0
    have b1 := (HK.out.below hb2).c1
    have b2 := (HK.out.below hb2).c2
    have b3 := (HK.out.below hb2).c3
    clear hb2
    go_wp2_with fail
    refine (HSH.out (by first | trivial | rfl) w2 HB2.out).mono ?_
    rintro e w3 ⟨rfl, hb3⟩
    have HB3 := hideN (belNext HB2.out hb3)
    clear hb3 b0 b1 b2 b3
    go_wp2_with fail
    go_ret
    exact ⟨rfl, HB3.out⟩

end Go.Proofs.YthbjihamhfahcaaDoor

/-
  Whether an expression has just what its kinds have, by the model: l5One, l5All; ExpOk of the model.
-/
import Derived.Test.YthbjihamhfahcaaDoorExpK
import Derived.Test.YthbjihamhfahcaaDoorExpL
namespace Go.Proofs.YthbjihamhfahcaaDoor
open Go.RowKit Go.Deep
set_option linter.unusedVariables false

attribute [local go_sem] Oper.semAt_some

/-- Whether a node has just what its kind has. -/
def oneB (k n : Int) (s : List UInt8) (m : Nat) : Bool :=
  if k = 1 then (decide (0 ≤ n) && decide (n ≤ 999)) && ((s == []) && decide (m = 0))
  else if k = 2 then decide (n = 0) && ((s == []) && decide (m = 0))
  else if k = 3 then decide (n = 0) && ((s == []) && decide (m = 0))
  else if k = 4 then decide (n = 0) && (nameB s && decide (m = 0))
  else if k = 5 then decide (n = 0) && ((s == []) && decide (m = 1))
  else if k = 6 then decide (n = 0) && (decide (0 ≤ signL s) && decide (m = 2))
  else if k = 7 then decide (n = 0) && ((s == []) && decide (m = 3))
  else false

set_option maxRecDepth 100000 in
set_option maxHeartbeats 16000000 in
theorem l5One_any (k n : Int) (s : ByteArray) (ao : Option Addr) (m cap : Nat) (w : World) (hs : s.size ≤ 1048576) (hm : m ≤ 1048576) :
    Calls Tryd.prog 27 #[.agg #[.int .i64 k, .int .i64 n, .string s, .slice ao m cap]] w fun e w' => e = .returned (.bool (oneB k n s.toList m)) ∧ Below w.heap.size w w' := by
  obtain ⟨W1, hW1⟩ : ∃ W1, W1 = w.alloc (.cells #[.int .i64 k, .int .i64 n, .string s, .slice ao m cap] 29) := ⟨_, rfl⟩
  have HB1 : Hid (Below w.heap.size w W1) := by rw [hW1]; exact belOne _ _
  have HK : Hid (BlkE W1 w.heap.size (.int .i64 k) (.int .i64 n) (.string s) (.slice ao m cap) 29) := by rw [hW1]; exact BlkE.new _ _ _ _ _ _
  have HW1 := hideN hW1
  have HNAME := hideN (fun W => specNameOk_any s W hs)
  have HLEV := hideN (fun W => l5Level_any s W)
  have HIN := hideN (fun W => l1In_any n 0 999 W)
  clear hW1 hs
  by_cases hk1 : k = 1
  · subst hk1
    obtain ⟨r, hr⟩ : ∃ r, (decide (0 ≤ n) && decide (n ≤ 999)) = r := ⟨_, rfl⟩
    have hv1 : oneB 1 n s.toList m = (r && ((s.toList == []) && decide (m = 0))) := by unfold oneB; rw [if_pos rfl, hr]
    rw [hv1]
    clear hv1
    go_enter Tryd.func27, Tryd.ntmps27
    go_wp2_with fail
    try rw [← HW1.out]
    refine (HIN.out W1).mono ?_
    rintro e w2 ⟨rfl, rfl⟩
    rw [show (decide ((0 : Int) ≤ n) && decide (n ≤ 999)) = r from hr]
    have b0 := HK.out.c0
    have b1 := HK.out.c1
    have b2 := HK.out.c2
    have b3 := HK.out.c3
    cases r with
    | false =>
      go_wp2_with fail
      go_ret
      exact ⟨by simp, HB1.out⟩
    | true =>
      cases hs0 : (s.toList == []) with
      | false =>
        go_wp2_with fail
        go_ret
        exact ⟨by rw [hs0]; rfl, HB1.out⟩
      | true =>
        by_cases hm0 : m = 0
        · subst hm0
          go_wp2_with fail
          go_ret
          exact ⟨by simp, HB1.out⟩
        · have hmi : ((m : Int) == 0) = false := by simp; omega
          go_wp2_with fail
          go_ret
          exact ⟨by simp [hm0], HB1.out⟩
  by_cases hk2 : k = 2
  · subst hk2
    by_cases hn0 : n = 0
    case neg =>
      have hni : (n == 0) = false := by simpa using hn0
      have hv : oneB 2 n s.toList m = false := by unfold oneB; simp [hn0]
      rw [hv]
      clear hv
      go_enter Tryd.func27, Tryd.ntmps27
      go_wp2_with fail
      go_ret
      exact ⟨rfl, by first | exact HB1.out | (rw [← HW1.out]; exact HB1.out) | exact belOne _ _⟩
    subst hn0
    cases hs0 : (s.toList == []) with
    | false =>
      have hv : oneB 2 0 s.toList m = false := by unfold oneB; simp [hs0]
      rw [hv]
      clear hv
      go_enter Tryd.func27, Tryd.ntmps27
      go_wp2_with fail
      go_ret
      exact ⟨rfl, by first | exact HB1.out | (rw [← HW1.out]; exact HB1.out) | exact belOne _ _⟩
    | true =>
      by_cases hm0 : m = 0
      · subst hm0
        have hv : oneB 2 0 s.toList 0 = true := by unfold oneB; simp [hs0]
        rw [hv]
        clear hv
        go_enter Tryd.func27, Tryd.ntmps27
        go_wp2_with fail
        go_ret
        exact ⟨rfl, by first | exact HB1.out | (rw [← HW1.out]; exact HB1.out) | exact belOne _ _⟩
      · have hmi : ((m : Int) == 0) = false := by simp; omega
        have hv : oneB 2 0 s.toList m = false := by unfold oneB; simp [hs0, hm0]
        rw [hv]
        clear hv
        go_enter Tryd.func27, Tryd.ntmps27
        go_wp2_with fail
        go_ret
        exact ⟨rfl, by first | exact HB1.out | (rw [← HW1.out]; exact HB1.out) | exact belOne _ _⟩
  by_cases hk3 : k = 3
  · subst hk3
    by_cases hn0 : n = 0
    case neg =>
      have hni : (n == 0) = false := by simpa using hn0
      have hv : oneB 3 n s.toList m = false := by unfold oneB; simp [hn0]
      rw [hv]
      clear hv
      go_enter Tryd.func27, Tryd.ntmps27
      go_wp2_with fail
      go_ret
      exact ⟨rfl, by first | exact HB1.out | (rw [← HW1.out]; exact HB1.out) | exact belOne _ _⟩
    subst hn0
    cases hs0 : (s.toList == []) with
    | false =>
      have hv : oneB 3 0 s.toList m = false := by unfold oneB; simp [hs0]
      rw [hv]
      clear hv
      go_enter Tryd.func27, Tryd.ntmps27
      go_wp2_with fail
      go_ret
      exact ⟨rfl, by first | exact HB1.out | (rw [← HW1.out]; exact HB1.out) | exact belOne _ _⟩
    | true =>
      by_cases hm0 : m = 0
      · subst hm0
        have hv : oneB 3 0 s.toList 0 = true := by unfold oneB; simp [hs0]
        rw [hv]
        clear hv
        go_enter Tryd.func27, Tryd.ntmps27
        go_wp2_with fail
        go_ret
        exact ⟨rfl, by first | exact HB1.out | (rw [← HW1.out]; exact HB1.out) | exact belOne _ _⟩
      · have hmi : ((m : Int) == 0) = false := by simp; omega
        have hv : oneB 3 0 s.toList m = false := by unfold oneB; simp [hs0, hm0]
        rw [hv]
        clear hv
        go_enter Tryd.func27, Tryd.ntmps27
        go_wp2_with fail
        go_ret
        exact ⟨rfl, by first | exact HB1.out | (rw [← HW1.out]; exact HB1.out) | exact belOne _ _⟩
  by_cases hk4 : k = 4
  · subst hk4
    by_cases hn0 : n = 0
    case neg =>
      have hni : (n == 0) = false := by simpa using hn0
      have hv : oneB 4 n s.toList m = false := by unfold oneB; simp [hn0]
      rw [hv]
      clear hv
      go_enter Tryd.func27, Tryd.ntmps27
      go_wp2_with fail
      go_ret
      exact ⟨rfl, by first | exact HB1.out | (rw [← HW1.out]; exact HB1.out) | exact belOne _ _⟩
    subst hn0
    obtain ⟨r, hr⟩ : ∃ r, nameB s.toList = r := ⟨_, rfl⟩
    have hv1 : oneB 4 0 s.toList m = (r && decide (m = 0)) := by unfold oneB; rw [hr]; simp
    rw [hv1]
    clear hv1
    go_enter Tryd.func27, Tryd.ntmps27
    go_wp2_with fail
    try rw [← HW1.out]
    refine (HNAME.out W1).mono ?_
    rintro e w2 ⟨rfl, hb2⟩
    rw [hr]
    have HB2 := hideN (belNext HB1.out hb2)
    have b0 := (HK.out.below hb2).c0
    have b1 := (HK.out.below hb2).c1
    have b2 := (HK.out.below hb2).c2
    have b3 := (HK.out.below hb2).c3
    clear hb2 hr
    cases r with
    | false =>
      go_wp2_with fail
      go_ret
      exact ⟨by simp, HB2.out⟩
    | true =>
      by_cases hm0 : m = 0
      · subst hm0
        go_wp2_with fail
        go_ret
        exact ⟨by simp, HB2.out⟩
      · have hmi : ((m : Int) == 0) = false := by simp; omega
        go_wp2_with fail
        go_ret
        exact ⟨by simp [hm0], HB2.out⟩
  by_cases hk5 : k = 5
  · subst hk5
    by_cases hn0 : n = 0
    case neg =>
      have hni : (n == 0) = false := by simpa using hn0
      have hv : oneB 5 n s.toList m = false := by unfold oneB; simp [hn0]
      rw [hv]
      clear hv
      go_enter Tryd.func27, Tryd.ntmps27
      go_wp2_with fail
      go_ret
      exact ⟨rfl, by first | exact HB1.out | (rw [← HW1.out]; exact HB1.out) | exact belOne _ _⟩
    subst hn0
    cases hs0 : (s.toList == []) with
    | false =>
      have hv : oneB 5 0 s.toList m = false := by unfold oneB; simp [hs0]
      rw [hv]
      clear hv
      go_enter Tryd.func27, Tryd.ntmps27
      go_wp2_with fail
      go_ret
      exact ⟨rfl, by first | exact HB1.out | (rw [← HW1.out]; exact HB1.out) | exact belOne _ _⟩
    | true =>
      by_cases hm0 : m = 1
      · subst hm0
        have hv : oneB 5 0 s.toList 1 = true := by unfold oneB; simp [hs0]
        rw [hv]
        clear hv
        go_enter Tryd.func27, Tryd.ntmps27
        go_wp2_with fail
        go_ret
        exact ⟨rfl, by first | exact HB1.out | (rw [← HW1.out]; exact HB1.out) | exact belOne _ _⟩
      · have hmi : ((m : Int) == 1) = false := by simp; omega
        have hv : oneB 5 0 s.toList m = false := by unfold oneB; simp [hs0, hm0]
        rw [hv]
        clear hv
        go_enter Tryd.func27, Tryd.ntmps27
        go_wp2_with fail
        go_ret
        exact ⟨rfl, by first | exact HB1.out | (rw [← HW1.out]; exact HB1.out) | exact belOne _ _⟩
  by_cases hk6 : k = 6
  · subst hk6
    by_cases hn0 : n = 0
    case neg =>
      have hni : (n == 0) = false := by simpa using hn0
      have hv : oneB 6 n s.toList m = false := by unfold oneB; simp [hn0]
      rw [hv]
      clear hv
      go_enter Tryd.func27, Tryd.ntmps27
      go_wp2_with fail
      go_ret
      exact ⟨rfl, by first | exact HB1.out | (rw [← HW1.out]; exact HB1.out) | exact belOne _ _⟩
    subst hn0
    obtain ⟨r, hr⟩ : ∃ r, signL s.toList = r := ⟨_, rfl⟩
    have hv1 : oneB 6 0 s.toList m = (decide (0 ≤ r) && decide (m = 2)) := by unfold oneB; rw [hr]; simp
    rw [hv1]
    clear hv1
    go_enter Tryd.func27, Tryd.ntmps27
    go_wp2_with fail
    try rw [← HW1.out]
    refine (HLEV.out W1).mono ?_
    rintro e w2 ⟨rfl, hb2⟩
    rw [hr]
    have HB2 := hideN (belNext HB1.out hb2)
    have b0 := (HK.out.below hb2).c0
    have b1 := (HK.out.below hb2).c1
    have b2 := (HK.out.below hb2).c2
    have b3 := (HK.out.below hb2).c3
    clear hb2 hr
    by_cases hr0 : r < 0
    · have hd : decide (0 ≤ r) = false := by simp; omega
      go_wp2_with fail
      go_ret
      exact ⟨by rw [hd]; rfl, HB2.out⟩
    · have hd : decide (0 ≤ r) = true := by simp; omega
      have hr1 : 0 ≤ r := by omega
      by_cases hm0 : m = 2
      · subst hm0
        go_wp2_with fail
        go_ret
        exact ⟨by simp, HB2.out⟩
      · have hmi : ((m : Int) == 2) = false := by simp; omega
        go_wp2_with fail
        go_ret
        exact ⟨by simp [hm0], HB2.out⟩
  by_cases hk7 : k = 7
  · subst hk7
    by_cases hn0 : n = 0
    case neg =>
      have hni : (n == 0) = false := by simpa using hn0
      have hv : oneB 7 n s.toList m = false := by unfold oneB; simp [hn0]
      rw [hv]
      clear hv
      go_enter Tryd.func27, Tryd.ntmps27
      go_wp2_with fail
      go_ret
      exact ⟨rfl, by first | exact HB1.out | (rw [← HW1.out]; exact HB1.out) | exact belOne _ _⟩
    subst hn0
    cases hs0 : (s.toList == []) with
    | false =>
      have hv : oneB 7 0 s.toList m = false := by unfold oneB; simp [hs0]
      rw [hv]
      clear hv
      go_enter Tryd.func27, Tryd.ntmps27
      go_wp2_with fail
      go_ret
      exact ⟨rfl, by first | exact HB1.out | (rw [← HW1.out]; exact HB1.out) | exact belOne _ _⟩
    | true =>
      by_cases hm0 : m = 3
      · subst hm0
        have hv : oneB 7 0 s.toList 3 = true := by unfold oneB; simp [hs0]
        rw [hv]
        clear hv
        go_enter Tryd.func27, Tryd.ntmps27
        go_wp2_with fail
        go_ret
        exact ⟨rfl, by first | exact HB1.out | (rw [← HW1.out]; exact HB1.out) | exact belOne _ _⟩
      · have hmi : ((m : Int) == 3) = false := by simp; omega
        have hv : oneB 7 0 s.toList m = false := by unfold oneB; simp [hs0, hm0]
        rw [hv]
        clear hv
        go_enter Tryd.func27, Tryd.ntmps27
        go_wp2_with fail
        go_ret
        exact ⟨rfl, by first | exact HB1.out | (rw [← HW1.out]; exact HB1.out) | exact belOne _ _⟩
  have hv : oneB k n s.toList m = false := by unfold oneB; simp [hk1, hk2, hk3, hk4, hk5, hk6, hk7]
  have q1 : (k == 1) = false := by simpa using hk1
  have q2 : (k == 2) = false := by simpa using hk2
  have q3 : (k == 3) = false := by simpa using hk3
  have q4 : (k == 4) = false := by simpa using hk4
  have q5 : (k == 5) = false := by simpa using hk5
  have q6 : (k == 6) = false := by simpa using hk6
  have q7 : (k == 7) = false := by simpa using hk7
  rw [hv]
  clear hv
  go_enter Tryd.func27, Tryd.ntmps27
  go_wp2_with fail
  go_ret
  exact ⟨rfl, by first | exact HB1.out | (rw [← HW1.out]; exact HB1.out) | exact belOne _ _⟩

mutual
/-- Whether all nodes have just what their kinds have. -/
def allT : ExpT → Bool
  | .node k n s ks => oneB k n s.toList ks.length && allL ks
def allL : List ExpT → Bool
  | [] => true
  | t :: r => allT t && allL r
end
theorem allL_take_succ : ∀ (ks : List ExpT) (j : Nat), j < ks.length → allL (ks.take (j + 1)) = (allL (ks.take j) && allT (ks.getD j e0)) := by
  intro ks
  induction ks with
  | nil => intro j h; simp at h
  | cons t r ih =>
    intro j h
    cases j with
    | zero => simp [allL, List.getD]
    | succ j =>
      rw [List.take_succ_cons, List.take_succ_cons, allL, allL, ih j (by simpa using h), Bool.and_assoc]
      rfl
theorem allL_of_take : ∀ (ks : List ExpT) (j : Nat), allL (ks.take j) = false → allL ks = false := by
  intro ks
  induction ks with
  | nil => intro j h; simpa using h
  | cons t r ih =>
    intro j h
    cases j with
    | zero => simp [allL] at h
    | succ j =>
      rw [List.take_succ_cons, allL] at h
      rw [allL]
      cases ha : allT t with
      | false => rfl
      | true => rw [ha, Bool.true_and] at h; rw [ih j h]; rfl

def BoolPost (r : Bool) (w : World) (e : Ending) (w' : World) : Prop := e = .returned (.bool r) ∧ Below w.heap.size w w'

set_option maxRecDepth 100000 in
set_option maxHeartbeats 4000000 in
theorem l5All_any (lo : Nat) : ∀ (t : ExpT), totE t ≤ 1048576 → ∀ (v : Value) (w : World), IsE w lo t v → Calls Tryd.prog 18 #[v] w (BoolPost (allT t) w) := by
  refine ExpT.ind (fun k n s ks ih ht v w hE => ?_)
  obtain ⟨ao, cap, rfl, ⟨hk, hnn, hs, hc, hcm⟩, hL⟩ := isE_node.1 hE
  rw [totE] at ht
  have HIH := hideN (fun j (hj : j < ks.length) (v : Value) (w : World) (c : IsE w lo (ks.getD j e0) v) => by
    have hm : ks.getD j e0 ∈ ks := by rw [List.getD, List.getElem?_eq_getElem hj]; simp
    have := totL_mem hm
    exact ih (ks.getD j e0) hm (by omega) v w c)
  obtain ⟨W1, hW1⟩ : ∃ W1, W1 = w.alloc (.cells #[.int .i64 k, .int .i64 n, .string s, .slice ao ks.length cap] 29) := ⟨_, rfl⟩
  have HB1 : Hid (Below w.heap.size w W1) := by rw [hW1]; exact belOne _ _
  have HK : Hid (BlkE W1 w.heap.size (.int .i64 k) (.int .i64 n) (.string s) (.slice ao ks.length cap) 29) := by rw [hW1]; exact BlkE.new _ _ _ _ _ _
  have HL := hideN (hL.below HB1.out)
  have HW1 := hideN hW1
  have HONE := hideN (l5One_any k n s ao ks.length cap W1 (by omega) (by omega))
  have HTS := hideN (fun j (hj : j < ks.length) => allL_take_succ ks j hj)
  have HTN := hideN (fun j => allL_of_take ks j)
  have HTF : Hid (allL (ks.take ks.length) = allL ks) := by show _ = _; rw [List.take_length]
  obtain ⟨S, hS⟩ : ∃ S, allL ks = S := ⟨_, rfl⟩
  obtain ⟨o, ho⟩ : ∃ o, oneB k n s.toList ks.length = o := ⟨_, rfl⟩
  rw [hS] at HTF HTN
  rw [ho] at HONE
  have hrs : allT (.node k n s ks) = (o && S) := by rw [allT, hS, ho]
  rw [hrs]
  obtain ⟨kn, hkn⟩ : ∃ kn, ks.length = kn := ⟨_, rfl⟩
  have HKN := hideN hkn
  rw [hkn] at HIH HK HW1 HTS HTF HONE ht hc ⊢
  clear ih hE hL hW1 hS ho hrs hkn hk hnn hs
  unfold BoolPost
  have b0 := HK.out.c0
  have b1 := HK.out.c1
  have b2 := HK.out.c2
  have b3 := HK.out.c3
  cases o with
  | false =>
    go_enter Tryd.func18, Tryd.ntmps18
    go_wp2_with fail
    try rw [← HW1.out]
    refine HONE.out.mono ?_
    rintro e w2 ⟨rfl, hb2⟩
    have HB2 := hideN (belNext HB1.out hb2)
    clear hb2
    go_wp2_with fail
    go_ret
    exact ⟨rfl, HB2.out⟩
  | true =>
  rw [Bool.true_and]
  go_enter Tryd.func18, Tryd.ntmps18
  go_wp2_with fail
  try rw [← HW1.out]
  refine HONE.out.mono ?_
  rintro e w2 ⟨rfl, hb2⟩
  have HB12 := hideN hb2
  clear hb2 b0 b1 b2 b3
  go_wp2_with fail
  go_loopw [3] (fun i wr => ∃ j : Nat, j ≤ kn ∧ i = .int .i64 (j : Int) ∧ Hid (allL (ks.take j) = true) ∧ Hid (Below W1.heap.size W1 wr)) (fun i _ => kn - (intOf i).toNat)
  case atStart => exact ⟨0, Nat.zero_le _, rfl, by show _ = _; simp [allL], HB12.out⟩
  case round =>
    obtain ⟨j, hj, rfl, hz, HBR⟩ := hrel
    have b3 := (HK.out.below HBR.out).c3
    by_cases hlt : j < kn
    · obtain ⟨b, off, hao, hlo, hcs⟩ := (HL.out.below HBR.out) (by have := HKN.out; omega)
      subst hao
      obtain ⟨v, ⟨v0, v1, v2, v3, rfl, c0, c1, c2, c3⟩, he⟩ := hcs j (by have := HKN.out; omega)
      have HCL := hideN (HIH.out j hlt _ wr he)
      have hts := HTS.out j hlt
      rw [hz.out, Bool.true_and] at hts
      obtain ⟨T, hT⟩ : ∃ T, allT (ks.getD j e0) = T := ⟨_, rfl⟩
      rw [hT] at HCL hts
      have HTN2 := hideN (HTN.out (j + 1))
      clear hcs he hT
      go_wp2_with fail
      refine HCL.out.mono ?_
      rintro e w3 ⟨rfl, hb3⟩
      have HB3 := hideN (belNext HBR.out hb3)
      clear hb3 c0 c1 c2 c3 b3
      cases T with
      | true =>
        have HZ2 := hideN hts
        clear hts
        go_wp2
        go_roundw
        case rel => exact ⟨j + 1, by omega, by go_num, HZ2, HB3⟩
        case measure => simp [intOf]; omega
      | false =>
        have HSF := hideN (HTN2.out hts)
        clear hts
        go_wp2_with fail
        go_ret
        exact ⟨by rw [HSF.out]; rfl, belNext HB1.out HB3.out⟩
    · obtain rfl : j = kn := by omega
      have HSF : Hid (S = true) := by show _ = _; rw [← HTF.out]; exact hz.out
      go_wp2_with fail
      go_ret
      exact ⟨by rw [HSF.out]; rfl, belNext HB1.out HBR.out⟩

/-- Whether an expression is ok. -/
def okE (t : ExpT) : Bool := decide (sizeT t ≤ 60) && (decide (deepT t ≤ 12) && allT t)

set_option maxRecDepth 100000 in
set_option maxHeartbeats 4000000 in
theorem specExpOk_any (lo : Nat) (t : ExpT) (ht : totE t ≤ 1048576) (v : Value) (w : World) (hE : IsE w lo t v) : Calls Tryd.prog 10 #[v] w (BoolPost (okE t) w) := by
  have hd := deepT_le t
  have hs := sizeT_le t
  obtain ⟨k, n, s, ao, m, cap, rfl⟩ := hE.agg
  obtain ⟨W1, hW1⟩ : ∃ W1, W1 = w.alloc (.cells #[.int .i64 k, .int .i64 n, .string s, .slice ao m cap] 29) := ⟨_, rfl⟩
  have HB1 : Hid (Below w.heap.size w W1) := by rw [hW1]; exact belOne _ _
  have HK : Hid (BlkE W1 w.heap.size (.int .i64 k) (.int .i64 n) (.string s) (.slice ao m cap) 29) := by rw [hW1]; exact BlkE.new _ _ _ _ _ _
  have HE1 := hideN (fun V (hV : Below W1.heap.size W1 V) => (IsE.below (IsE.below hE HB1.out) hV))
  have HSZ := hideN (l5Size_any lo t ht _ W1 (HE1.out W1 (Below.refl _ _)))
  have HDP := hideN (fun V (hV : Below W1.heap.size W1 V) => l5Deep_any lo t ht _ V (HE1.out V hV))
  have HAL := hideN (fun V (hV : Below W1.heap.size W1 V) => l5All_any lo t ht _ V (HE1.out V hV))
  have HW1 := hideN hW1
  unfold okE BoolPost
  generalize sizeT t = sz at *
  generalize deepT t = dp at *
  generalize allT t = al at *
  clear hW1 hE
  have b0 := HK.out.c0
  have b1 := HK.out.c1
  have b2 := HK.out.c2
  have b3 := HK.out.c3
  by_cases h1 : sz ≤ 60
  case neg =>
    have d1 : decide ((sz : Int) ≤ 60) = false := by simp; omega
    rw [decide_eq_false h1, Bool.false_and]
    go_enter Tryd.func10, Tryd.ntmps10
    go_wp2_with fail
    try rw [← HW1.out]
    refine HSZ.out.mono ?_
    rintro e w2 ⟨rfl, hb2⟩
    have HB2 := hideN (belNext HB1.out hb2)
    clear hb2
    go_wp2_with fail
    go_ret
    exact ⟨rfl, HB2.out⟩
  have d1 : decide ((sz : Int) ≤ 60) = true := by simp; omega
  rw [decide_eq_true h1, Bool.true_and]
  by_cases h2 : dp ≤ 12
  case neg =>
    have d2 : decide ((dp : Int) ≤ 12) = false := by simp; omega
    rw [decide_eq_false h2, Bool.false_and]
    go_enter Tryd.func10, Tryd.ntmps10
    go_wp2_with fail
    try rw [← HW1.out]
    refine HSZ.out.mono ?_
    rintro e w2 ⟨rfl, hb2⟩
    have e0' := (HK.out.below hb2).c0
    have e1' := (HK.out.below hb2).c1
    have e2' := (HK.out.below hb2).c2
    have e3' := (HK.out.below hb2).c3
    have HB12 := hideN hb2
    clear hb2 b0 b1 b2 b3
    go_wp2_with fail
    refine (HDP.out w2 HB12.out).mono ?_
    rintro e w3 ⟨rfl, hb3⟩
    have HB3 := hideN (belNext HB1.out (belNext HB12.out hb3))
    clear hb3
    go_wp2_with fail
    go_ret
    exact ⟨rfl, HB3.out⟩
  have d2 : decide ((dp : Int) ≤ 12) = true := by simp; omega
  rw [decide_eq_true h2, Bool.true_and]
  go_enter Tryd.func10, Tryd.ntmps10
  go_wp2_with fail
  try rw [← HW1.out]
  refine HSZ.out.mono ?_
  rintro e w2 ⟨rfl, hb2⟩
  have e0' := (HK.out.below hb2).c0
  have e1' := (HK.out.below hb2).c1
  have e2' := (HK.out.below hb2).c2
  have e3' := (HK.out.below hb2).c3
  have HB12 := hideN hb2
  clear hb2 b0 b1 b2 b3
  go_wp2_with fail
  refine (HDP.out w2 HB12.out).mono ?_
  rintro e w3 ⟨rfl, hb3⟩
  have HB13 := hideN (belNext HB12.out hb3)
  clear hb3 e0' e1' e2' e3'
  have e0' := (HK.out.below HB13.out).c0
  have e1' := (HK.out.below HB13.out).c1
  have e2' := (HK.out.below HB13.out).c2
  have e3' := (HK.out.below HB13.out).c3
  go_wp2_with fail
  refine (HAL.out w3 HB13.out).mono ?_
  rintro e w4 ⟨rfl, hb4⟩
  have HB4 := hideN (belNext HB1.out (belNext HB13.out hb4))
  clear hb4
  cases al with
  | true =>
    go_wp2_with fail
    go_ret
    exact ⟨rfl, HB4.out⟩
  | false =>
    go_wp2_with fail
    go_ret
    exact ⟨rfl, HB4.out⟩

end Go.Proofs.YthbjihamhfahcaaDoor

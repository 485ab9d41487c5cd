/-
  How many nodes an expression has, and how deep it is, by the model: l5Size, l5Deep.
-/
import Derived.Test.YthbjihamhfahcaaDoorExpC
namespace Go.Proofs.YthbjihamhfahcaaDoor
open Go.RowKit Go.Deep
set_option linter.unusedVariables false

attribute [local go_sem] Oper.semAt_some

mutual
/-- How many nodes. -/
def sizeT : ExpT → Nat
  | .node _ _ _ ks => 1 + sizeL ks
def sizeL : List ExpT → Nat
  | [] => 0
  | t :: r => sizeT t + sizeL r
end
mutual
/-- How deep. -/
def deepT : ExpT → Nat
  | .node _ _ _ ks => deepL ks + 1
def deepL : List ExpT → Nat
  | [] => 0
  | t :: r => Nat.max (deepT t) (deepL r)
end

theorem sizeT_le : ∀ t : ExpT, sizeT t ≤ totE t + 1 := by
  refine ExpT.ind (fun k n s ks ih => ?_)
  rw [sizeT, totE]
  have h : ∀ l : List ExpT, (∀ t ∈ l, sizeT t ≤ totE t + 1) → sizeL l ≤ totL l + l.length := by
    intro l
    induction l with
    | nil => intro _; rw [sizeL]; omega
    | cons a r ih2 =>
      intro h
      rw [sizeL, totL, List.length_cons]
      have h1 := h a (by simp)
      have h2 := ih2 (fun t ht => h t (by simp [ht]))
      omega
  have := h ks ih
  omega
theorem deepT_le : ∀ t : ExpT, deepT t ≤ sizeT t := by
  refine ExpT.ind (fun k n s ks ih => ?_)
  rw [sizeT, deepT]
  have h : ∀ l : List ExpT, (∀ t ∈ l, deepT t ≤ sizeT t) → deepL l ≤ sizeL l := by
    intro l
    induction l with
    | nil => intro _; rw [deepL]; omega
    | cons a r ih2 =>
      intro h
      rw [sizeL, deepL]
      have h1 := h a (by simp)
      have h2 := ih2 (fun t ht => h t (by simp [ht]))
      exact Nat.max_le.2 ⟨by omega, by omega⟩
  have := h ks ih
  omega
theorem sizeL_take_succ : ∀ (ks : List ExpT) (j : Nat), j < ks.length → sizeL (ks.take (j + 1)) = sizeL (ks.take j) + sizeT (ks.getD j e0) := by
  intro ks
  induction ks with
  | nil => intro j h; simp at h
  | cons t r ih =>
    intro j h
    cases j with
    | zero => simp [sizeL, List.getD]
    | succ j =>
      rw [List.take_succ_cons, List.take_succ_cons, sizeL, sizeL, ih j (by simpa using h)]
      rw [Nat.add_assoc]
      rfl
theorem sizeL_take_le : ∀ (ks : List ExpT) (j : Nat), sizeL (ks.take j) ≤ sizeL ks := by
  intro ks
  induction ks with
  | nil => intro j; simp
  | cons t r ih =>
    intro j
    cases j with
    | zero => simp [sizeL]
    | succ j => rw [List.take_succ_cons, sizeL, sizeL]; have := ih j; omega
theorem deepL_take_succ : ∀ (ks : List ExpT) (j : Nat), j < ks.length → deepL (ks.take (j + 1)) = Nat.max (deepL (ks.take j)) (deepT (ks.getD j e0)) := by
  intro ks
  induction ks with
  | nil => intro j h; simp at h
  | cons t r ih =>
    intro j h
    cases j with
    | zero => simp [deepL, List.getD]
    | succ j =>
      rw [List.take_succ_cons, List.take_succ_cons, deepL, deepL, ih j (by simpa using h)]
      show Nat.max _ (Nat.max _ _) = Nat.max (Nat.max _ _) _
      exact (Nat.max_assoc _ _ _).symm

def NumPost (n : Nat) (w : World) (e : Ending) (w' : World) : Prop := e = .returned (.int .i64 (n : Int)) ∧ Below w.heap.size w w'

set_option maxRecDepth 100000 in
set_option maxHeartbeats 4000000 in
theorem l5Size_any (lo : Nat) : ∀ (t : ExpT), totE t ≤ 1048576 → ∀ (v : Value) (w : World), IsE w lo t v → Calls Tryd.prog 16 #[v] w (NumPost (sizeT t) w) := by
  refine ExpT.ind (fun k n s ks ih ht v w hE => ?_)
  have hsl := sizeT_le (.node k n s ks)
  obtain ⟨ao, cap, rfl, ⟨hk, hnn, hs, hc, hcm⟩, hL⟩ := isE_node.1 hE
  rw [totE] at ht hsl
  rw [sizeT] at hsl
  have HIH := hideN (fun j (hj : j < ks.length) (v : Value) (w : World) (c : IsE w lo (ks.getD j e0) v) => by
    have hm : ks.getD j e0 ∈ ks := by rw [List.getD, List.getElem?_eq_getElem hj]; simp
    have := totL_mem hm
    exact ih (ks.getD j e0) hm (by omega) v w c)
  obtain ⟨W1, hW1⟩ : ∃ W1, W1 = w.alloc (.cells #[.int .i64 k, .int .i64 n, .string s, .slice ao ks.length cap] 29) := ⟨_, rfl⟩
  have HB1 : Hid (Below w.heap.size w W1) := by rw [hW1]; exact belOne _ _
  have HK : Hid (BlkE W1 w.heap.size (.int .i64 k) (.int .i64 n) (.string s) (.slice ao ks.length cap) 29) := by rw [hW1]; exact BlkE.new _ _ _ _ _ _
  have HL := hideN (hL.below HB1.out)
  have HW1 := hideN hW1
  have HTS := hideN (fun j (hj : j < ks.length) => sizeL_take_succ ks j hj)
  have HTL := hideN (fun j => sizeL_take_le ks j)
  have HTF : Hid (sizeL (ks.take ks.length) = sizeL ks) := by show _ = _; rw [List.take_length]
  obtain ⟨S, hS⟩ : ∃ S, sizeL ks = S := ⟨_, rfl⟩
  rw [hS] at HTL HTF hsl
  have hrs : sizeT (.node k n s ks) = 1 + S := by rw [sizeT, hS]
  rw [hrs]
  obtain ⟨kn, hkn⟩ : ∃ kn, ks.length = kn := ⟨_, rfl⟩
  have HKN := hideN hkn
  rw [hkn] at HIH HK HW1 HTS HTF hsl ht hc ⊢
  clear ih hE hL hW1 hS hrs hkn hk hnn hs
  unfold NumPost
  go_enter Tryd.func16, Tryd.ntmps16
  go_wp2_with fail
  try rw [← HW1.out]
  obtain ⟨B, hB⟩ : ∃ B, w.heap.size = B := ⟨_, rfl⟩
  have hBB := hideN hB
  rw [hB] at HK
  try rw [hB]
  clear hB
  go_loopw [3, 4] (fun o i wr => ∃ j z : Nat, j ≤ kn ∧ i = .int .i64 (j : Int) ∧ o = .int .i64 (z : Int) ∧ Hid (z = 1 + sizeL (ks.take j)) ∧ Hid (Below W1.heap.size W1 wr)) (fun _ i _ => kn - (intOf i).toNat)
  case atStart => exact ⟨0, 1, Nat.zero_le _, rfl, rfl, by show 1 = 1 + sizeL (ks.take 0); simp [sizeL], Below.refl _ _⟩
  case round =>
    obtain ⟨j, z, hj, rfl, rfl, hz, HBR⟩ := hrel
    have b3 := (HK.out.below HBR.out).c3
    by_cases hlt : j < kn
    · obtain ⟨b, off, hao, hlo, hcs⟩ := (HL.out.below HBR.out) (by have := HKN.out; omega)
      subst hao
      obtain ⟨v, ⟨v0, v1, v2, v3, rfl, c0, c1, c2, c3⟩, he⟩ := hcs j (by have := HKN.out; omega)
      have HCL := hideN (HIH.out j hlt _ wr he)
      have hts := HTS.out j hlt
      have htl := HTL.out (j + 1)
      obtain ⟨T, hT⟩ : ∃ T, sizeT (ks.getD j e0) = T := ⟨_, rfl⟩
      rw [hT] at HCL hts
      have hzv := hz.out
      have hzT : z + T ≤ 2097152 := by omega
      have HZ2 : Hid (z + T = 1 + sizeL (ks.take (j + 1))) := by show _ = _; rw [hts]; omega
      clear hcs he hT hts htl hzv
      go_wp2_with fail
      refine HCL.out.mono ?_
      rintro e w2 ⟨rfl, hb2⟩
      have HB2 := hideN (belNext HBR.out hb2)
      clear hb2 c0 c1 c2 c3 b3
      go_wp2
      go_roundw
      case rel => exact ⟨j + 1, z + T, by omega, by go_num, by go_num, HZ2, HB2⟩
      case measure => simp [intOf]; omega
    · obtain rfl : j = kn := by omega
      have hzF : z = 1 + S := by have := hz.out; rw [HTF.out] at this; exact this
      subst hzF
      go_wp2_with fail
      go_ret
      exact ⟨rfl, belNext HB1.out HBR.out⟩

set_option maxRecDepth 100000 in
set_option maxHeartbeats 4000000 in
theorem l5Deep_any (lo : Nat) : ∀ (t : ExpT), totE t ≤ 1048576 → ∀ (v : Value) (w : World), IsE w lo t v → Calls Tryd.prog 17 #[v] w (NumPost (deepT t) w) := by
  refine ExpT.ind (fun k n s ks ih ht v w hE => ?_)
  have hsl := Nat.le_trans (deepT_le (.node k n s ks)) (sizeT_le (.node k n s ks))
  obtain ⟨ao, cap, rfl, ⟨hk, hnn, hs, hc, hcm⟩, hL⟩ := isE_node.1 hE
  rw [totE] at ht hsl
  rw [deepT] at hsl
  have HIH := hideN (fun j (hj : j < ks.length) (v : Value) (w : World) (c : IsE w lo (ks.getD j e0) v) => by
    have hm : ks.getD j e0 ∈ ks := by rw [List.getD, List.getElem?_eq_getElem hj]; simp
    have := totL_mem hm
    exact ih (ks.getD j e0) hm (by omega) v w c)
  have HDB := hideN (fun j (hj : j < ks.length) => by
    have hm : ks.getD j e0 ∈ ks := by rw [List.getD, List.getElem?_eq_getElem hj]; simp
    have h1 := totL_mem hm
    have h2 := Nat.le_trans (deepT_le (ks.getD j e0)) (sizeT_le (ks.getD j e0))
    exact (show deepT (ks.getD j e0) ≤ 2097152 by omega))
  obtain ⟨W1, hW1⟩ : ∃ W1, W1 = w.alloc (.cells #[.int .i64 k, .int .i64 n, .string s, .slice ao ks.length cap] 29) := ⟨_, rfl⟩
  have HB1 : Hid (Below w.heap.size w W1) := by rw [hW1]; exact belOne _ _
  have HK : Hid (BlkE W1 w.heap.size (.int .i64 k) (.int .i64 n) (.string s) (.slice ao ks.length cap) 29) := by rw [hW1]; exact BlkE.new _ _ _ _ _ _
  have HL := hideN (hL.below HB1.out)
  have HW1 := hideN hW1
  have HTS := hideN (fun j (hj : j < ks.length) => deepL_take_succ ks j hj)
  have HTF : Hid (deepL (ks.take ks.length) = deepL ks) := by show _ = _; rw [List.take_length]
  obtain ⟨S, hS⟩ : ∃ S, deepL ks = S := ⟨_, rfl⟩
  rw [hS] at HTF hsl
  have hrs : deepT (.node k n s ks) = S + 1 := by rw [deepT, hS]
  rw [hrs]
  obtain ⟨kn, hkn⟩ : ∃ kn, ks.length = kn := ⟨_, rfl⟩
  have HKN := hideN hkn
  rw [hkn] at HIH HDB HK HW1 HTS HTF hsl ht hc ⊢
  clear ih hE hL hW1 hS hrs hkn hk hnn hs
  unfold NumPost
  go_enter Tryd.func17, Tryd.ntmps17
  go_wp2_with fail
  try rw [← HW1.out]
  obtain ⟨B, hB⟩ : ∃ B, w.heap.size = B := ⟨_, rfl⟩
  have hBB := hideN hB
  rw [hB] at HK
  try rw [hB]
  clear hB
  go_loopw [3, 4] (fun o i wr => ∃ j z : Nat, j ≤ kn ∧ z ≤ 2097152 ∧ i = .int .i64 (j : Int) ∧ o = .int .i64 (z : Int) ∧ Hid (z = deepL (ks.take j)) ∧ Hid (Below W1.heap.size W1 wr)) (fun _ i _ => kn - (intOf i).toNat)
  case atStart => exact ⟨0, 0, Nat.zero_le _, Nat.zero_le _, rfl, rfl, by show 0 = deepL (ks.take 0); simp [deepL], Below.refl _ _⟩
  case round =>
    obtain ⟨j, z, hj, hz2, rfl, rfl, hz, HBR⟩ := hrel
    have b3 := (HK.out.below HBR.out).c3
    by_cases hlt : j < kn
    · obtain ⟨b, off, hao, hlo, hcs⟩ := (HL.out.below HBR.out) (by have := HKN.out; omega)
      subst hao
      obtain ⟨v, ⟨v0, v1, v2, v3, rfl, c0, c1, c2, c3⟩, he⟩ := hcs j (by have := HKN.out; omega)
      have HCL := hideN (HIH.out j hlt _ wr he)
      have hts := HTS.out j hlt
      have htb := HDB.out j hlt
      obtain ⟨T, hT⟩ : ∃ T, deepT (ks.getD j e0) = T := ⟨_, rfl⟩
      rw [hT] at HCL hts htb
      rw [← hz.out] at hts
      clear hcs he hT
      go_wp2_with fail
      refine HCL.out.mono ?_
      rintro e w2 ⟨rfl, hb2⟩
      have HB2 := hideN (belNext HBR.out hb2)
      clear hb2 c0 c1 c2 c3 b3
      by_cases hzT : z < T
      · have HZ2 : Hid (T = deepL (ks.take (j + 1))) := by show _ = _; rw [hts]; exact (Nat.max_eq_right (by omega)).symm
        clear hts
        go_wp2
        go_roundw
        case rel => exact ⟨j + 1, T, by omega, htb, by go_num, rfl, HZ2, HB2⟩
        case measure => simp [intOf]; omega
      · have HZ2 : Hid (z = deepL (ks.take (j + 1))) := by show _ = _; rw [hts]; exact (Nat.max_eq_left (by omega)).symm
        clear hts
        go_wp2
        go_roundw
        case rel => exact ⟨j + 1, z, by omega, hz2, by go_num, rfl, HZ2, HB2⟩
        case measure => simp [intOf]; omega
    · obtain rfl : j = kn := by omega
      have hzF : z = S := by have := hz.out; rw [HTF.out] at this; exact this
      subst hzF
      go_wp2_with fail
      go_ret
      exact ⟨by first | rfl | (simp; rfl) | simp, belNext HB1.out HBR.out⟩

end Go.Proofs.YthbjihamhfahcaaDoor

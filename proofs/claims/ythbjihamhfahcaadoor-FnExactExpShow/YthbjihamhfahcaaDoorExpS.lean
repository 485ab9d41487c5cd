/-
  How much an expression holds: szExp, szExpS.
-/
import Derived.Test.YthbjihamhfahcaaDoorExpA
import Derived.Test.YthbjihamhfahcaaDoorHoldU
namespace Go.Proofs.YthbjihamhfahcaaDoor
open Go.RowKit Go.Deep
set_option linter.unusedVariables false

attribute [local go_sem] Oper.semAt_some

def SzPost (n : Nat) (left : Int) (w : World) (e : Ending) (w' : World) : Prop := e = .returned (.int .i64 (leftI n left)) ∧ Below w.heap.size w w'

set_option maxRecDepth 100000 in
set_option maxHeartbeats 4000000 in
theorem szExpS_of (lo cap : Nat) (ao : Option Addr) (ks : List ExpT) (w : World) (left : Int) (h0 : 0 ≤ left) (h1 : left ≤ 1048576) (hc : ks.length ≤ cap) (hcm : cap ≤ maxLen) (hL : IsL w lo ks ao)
    (ih : ∀ t ∈ ks, ∀ (v : Value) (w : World) (l : Int), 0 ≤ l → l ≤ 1048576 → IsE w lo t v → Calls Tryd.prog 4 #[v, .int .i64 l] w (SzPost (totE t) l w)) :
    Calls Tryd.prog 9 #[.slice ao ks.length cap, .int .i64 left] w (SzPost (ks.length + totL ks) left w) := by
  obtain ⟨n, hn⟩ : ∃ n, ks.length = n := ⟨_, rfl⟩
  have HIH := hideN (fun j (hj : j < n) (v : Value) (w : World) (l : Int) (a : 0 ≤ l) (b : l ≤ 1048576) (c : IsE w lo (ks.getD j e0) v) => ih (ks.getD j e0) (by rw [List.getD, List.getElem?_eq_getElem (by omega)]; simp) v w l a b c)
  have HTS := hideN (fun j (hj : j < n) => totL_take_succ ks j (by omega))
  have HTL := hideN (fun j => totL_take_le ks j)
  have HTF : Hid (totL (ks.take n) = totL ks) := by show _ = _; rw [← hn, List.take_length]
  have HL := hideN hL
  have HN := hideN hn
  unfold maxLen at hcm
  rw [hn] at hc ⊢
  clear ih hL hn
  by_cases hneg : left - (n : Int) < 0
  · have hr : leftI (n + totL ks) left = -1 := by unfold leftI; rw [if_neg (by omega)]
    unfold SzPost
    rw [hr]
    have hw : IntKind.i64.wrap (left - (n : Int)) = left - (n : Int) := by rw [IntKind.wrap_i64]; omega
    go_enter Tryd.func9, Tryd.ntmps9
    go_wp2_with fail
    go_ret
    exact ⟨rfl, Below.refl _ _⟩
  obtain ⟨L1, hL1⟩ : ∃ L1 : Nat, left - (n : Int) = (L1 : Int) := ⟨(left - n).toNat, by omega⟩
  have hw : IntKind.i64.wrap (left - (n : Int)) = (L1 : Int) := by rw [IntKind.wrap_i64]; omega
  have hl1 : L1 ≤ 1048576 := by omega
  have HR : Hid (leftI (n + totL ks) left = leftI (totL ks) (L1 : Int)) := by
    show _ = _
    unfold leftI
    by_cases hh : (totL ks : Int) ≤ (L1 : Int)
    · rw [if_pos hh, if_pos (by omega)]; omega
    · rw [if_neg hh, if_neg (by omega)]
  unfold SzPost
  rw [HR.out]
  clear HR
  go_enter Tryd.func9, Tryd.ntmps9
  go_wp2_with fail
  go_loopw [1, 5] (fun l i wr => ∃ j z : Nat, j ≤ n ∧ i = .int .i64 (j : Int) ∧ l = .int .i64 (z : Int) ∧ Hid (z + totL (ks.take j) = L1) ∧ Hid (Below w.heap.size w wr)) (fun _ i _ => n - (intOf i).toNat)
  case atStart => exact ⟨0, L1, Nat.zero_le _, rfl, rfl, by show L1 + totL (ks.take 0) = L1; simp [totL], Below.refl _ _⟩
  case round =>
    obtain ⟨j, z, hj, rfl, rfl, hz, HBR⟩ := hrel
    by_cases hlt : j < n
    · obtain ⟨b, off, hao, hlo, hcs⟩ := (HL.out.below HBR.out) (by have := HN.out; omega)
      subst hao
      obtain ⟨v, ⟨v0, v1, v2, v3, rfl, c0, c1, c2, c3⟩, he⟩ := hcs j (by have := HN.out; omega)
      have HCL := hideN (HIH.out j hlt _ wr (z : Int) (by omega) (by have := hz.out; omega) he)
      have hts := HTS.out j hlt
      have htl := HTL.out (j + 1)
      obtain ⟨T, hT⟩ : ∃ T, totE (ks.getD j e0) = T := ⟨_, rfl⟩
      rw [hT] at HCL hts
      clear hcs he hT
      go_wp2_with fail
      refine HCL.out.mono ?_
      rintro e w2 ⟨rfl, hb2⟩
      have HB2 := hideN (belNext HBR.out hb2)
      clear hb2 c0 c1 c2 c3
      by_cases hh : T ≤ z
      · have hlv : leftI T (z : Int) = ((z - T : Nat) : Int) := by unfold leftI; rw [if_pos (by omega)]; omega
        rw [hlv]
        have HZ2 : Hid ((z - T) + totL (ks.take (j + 1)) = L1) := by show _ = _; have := hz.out; omega
        clear hlv hts htl
        go_wp2
        go_roundw
        case rel => exact ⟨j + 1, z - T, by omega, by go_num, rfl, HZ2, HB2⟩
        case measure => simp [intOf]; omega
      · have hlv : leftI T (z : Int) = -1 := by unfold leftI; rw [if_neg (by omega)]
        rw [hlv]
        have HRN : Hid (leftI (totL ks) (L1 : Int) = -1) := by show _ = _; unfold leftI; rw [if_neg (by have := hz.out; omega)]
        clear hlv hts htl
        go_wp2_with fail
        go_ret
        exact ⟨by rw [HRN.out]; rfl, HB2.out⟩
    · obtain rfl : j = n := by omega
      have HRN : Hid (leftI (totL ks) (L1 : Int) = (z : Int)) := by show _ = _; have h1 := hz.out; rw [HTF.out] at h1; unfold leftI; rw [if_pos (by omega)]; omega
      go_wp2_with fail
      go_ret
      exact ⟨by rw [HRN.out]; rfl, HBR.out⟩

set_option maxRecDepth 100000 in
set_option maxHeartbeats 4000000 in
theorem szExp_any (lo : Nat) : ∀ (t : ExpT) (v : Value) (w : World) (left : Int), 0 ≤ left → left ≤ 1048576 → IsE w lo t v → Calls Tryd.prog 4 #[v, .int .i64 left] w (SzPost (totE t) left w) := by
  refine ExpT.ind (fun k n s ks ih v w left h0 h1 hE => ?_)
  obtain ⟨ao, cap, rfl, ⟨hk, hnn, hs, hc, hcm⟩, hL⟩ := isE_node.1 hE
  have HIH := hideN (fun (w : World) (l : Int) (a : 0 ≤ l) (b : l ≤ 1048576) (hL : IsL w lo ks ao) => szExpS_of lo cap ao ks w l a b hc hcm hL ih)
  have HL := hideN hL
  clear ih hE hL
  unfold maxLen at hs
  obtain ⟨S, hS⟩ : ∃ S, s.size = S := ⟨_, rfl⟩
  rw [hS] at hs
  obtain ⟨T, hT⟩ : ∃ T, ks.length + totL ks = T := ⟨_, rfl⟩
  rw [hT] at HIH
  have htot : totE (.node k n s ks) = S + T := by rw [totE, hS, ← hT]; omega
  rw [htot]
  clear htot hT
  obtain ⟨W1, hW1⟩ : ∃ W1, W1 = w.alloc (.cells #[.int .i64 k, .int .i64 n, .string s, .slice ao ks.length cap] 24) := ⟨_, rfl⟩
  have HB1 : Hid (Below w.heap.size w W1) := by rw [hW1]; exact belOne _ _
  have HW1 := hideN hW1
  generalize ks.length = kn at *
  by_cases hneg : left - (S : Int) < 0
  · have hr : leftI (S + T) left = -1 := by unfold leftI; rw [if_neg (by omega)]
    unfold SzPost
    rw [hr]
    have hw : IntKind.i64.wrap (left - (S : Int)) = left - (S : Int) := by rw [IntKind.wrap_i64]; omega
    go_enter Tryd.func4, Tryd.ntmps4
    go_wp2_with fail
    go_ret
    exact ⟨rfl, by first | exact HB1.out | (rw [← HW1.out]; exact HB1.out) | exact belOne _ _⟩
  obtain ⟨L1, hL1⟩ : ∃ L1 : Nat, left - (S : Int) = (L1 : Int) := ⟨(left - S).toNat, by omega⟩
  have hw : IntKind.i64.wrap (left - (S : Int)) = (L1 : Int) := by rw [IntKind.wrap_i64]; omega
  have HR : Hid (leftI (S + T) left = leftI T (L1 : Int)) := by
    show _ = _
    unfold leftI
    by_cases hh : (T : Int) ≤ (L1 : Int)
    · rw [if_pos hh, if_pos (by omega)]; omega
    · rw [if_neg hh, if_neg (by omega)]
  unfold SzPost
  rw [HR.out]
  clear HR
  have HCL := hideN (HIH.out W1 (L1 : Int) (by omega) (by omega) (HL.out.below HB1.out))
  go_enter Tryd.func4, Tryd.ntmps4
  go_wp2_with fail
  try rw [← HW1.out]
  refine HCL.out.mono ?_
  rintro e w2 ⟨rfl, hb2⟩
  have HB2 := hideN (belNext HB1.out hb2)
  clear hb2
  by_cases hh : (T : Int) ≤ (L1 : Int)
  · have hlv : leftI T (L1 : Int) = ((L1 - T : Nat) : Int) := by unfold leftI; rw [if_pos hh]; omega
    rw [hlv]
    go_wp2_with fail
    go_ret
    exact ⟨by rw [hlv]; rfl, HB2.out⟩
  · have hlv : leftI T (L1 : Int) = -1 := by unfold leftI; rw [if_neg hh]
    rw [hlv]
    go_wp2_with fail
    go_ret
    exact ⟨by rw [hlv]; rfl, HB2.out⟩

end Go.Proofs.YthbjihamhfahcaaDoor

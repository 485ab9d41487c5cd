/-
  Two of the same expression are equal: eqExp, eqExpS.
-/
import Derived.Test.YthbjihamhfahcaaDoorExpC
namespace Go.Proofs.YthbjihamhfahcaaDoor
open Go.RowKit Go.Deep
set_option linter.unusedVariables false

attribute [local go_sem] Oper.semAt_some

def SamePost (w : World) (e : Ending) (w' : World) : Prop := e = .returned (.bool true) ∧ Below w.heap.size w w'

set_option maxRecDepth 100000 in
set_option maxHeartbeats 8000000 in
theorem eqExpS_of (ks : List ExpT) (lo1 lo2 c1 c2 : Nat) (a1 a2 : Option Addr) (w : World) (hn : ks.length ≤ 1048576) (h1 : IsL w lo1 ks a1) (h2 : IsL w lo2 ks a2)
    (ih : ∀ t ∈ ks, ∀ (v u : Value) (w : World), IsE w lo1 t v → IsE w lo2 t u → Calls Tryd.prog 8 #[v, u] w (SamePost w)) :
    Calls Tryd.prog 15 #[.slice a1 ks.length c1, .slice a2 ks.length c2] w (SamePost w) := by
  obtain ⟨n, hnn⟩ : ∃ n, ks.length = n := ⟨_, rfl⟩
  have HN := hideN hnn
  have HIH := hideN (fun j (hj : j < n) (v u : Value) (w : World) (c : IsE w lo1 (ks.getD j e0) v) (d : IsE w lo2 (ks.getD j e0) u) => ih (ks.getD j e0) (by rw [List.getD, List.getElem?_eq_getElem (by omega)]; simp) v u w c d)
  have H1 := hideN h1
  have H2 := hideN h2
  rw [hnn] at hn ⊢
  clear ih h1 h2 hnn
  unfold SamePost
  go_enter Tryd.func15, Tryd.ntmps15
  go_wp2_with fail
  go_loopw [5] (fun i wr => ∃ j : Nat, j ≤ n ∧ i = .int .i64 (j : Int) ∧ Hid (Below w.heap.size w wr)) (fun i _ => n - (intOf i).toNat)
  case atStart => exact ⟨0, Nat.zero_le _, rfl, Below.refl _ _⟩
  case round =>
    obtain ⟨j, hj, rfl, HBR⟩ := hrel
    by_cases hlt : j < n
    · obtain ⟨b1, o1, ha1, hl1, hc1⟩ := (H1.out.below HBR.out) (by have := HN.out; omega)
      obtain ⟨b2, o2, ha2, hl2, hc2⟩ := (H2.out.below HBR.out) (by have := HN.out; omega)
      subst ha1
      subst ha2
      obtain ⟨v, ⟨v0, v1, v2, v3, rfl, p0, p1, p2, p3⟩, he1⟩ := hc1 j (by have := HN.out; omega)
      obtain ⟨u, ⟨u0, u1, u2, u3, rfl, q0, q1, q2, q3⟩, he2⟩ := hc2 j (by have := HN.out; omega)
      have HCL := hideN (HIH.out j hlt _ _ wr.drew (IsE.below he1 (below_drewN (Below.refl _ _) 1)) (IsE.below he2 (below_drewN (Below.refl _ _) 1)))
      clear hc1 hc2 he1 he2
      go_wp2_with fail
      have hS : wr.drew.cell? ⟨b1, o1 + j * 4, none⟩ = some v0 ∧ wr.drew.cell? ⟨b1, o1 + j * 4 + 1, none⟩ = some v1 ∧ wr.drew.cell? ⟨b1, o1 + j * 4 + 2, none⟩ = some v2 ∧ wr.drew.cell? ⟨b1, o1 + j * 4 + 3, none⟩ = some v3 ∧ wr.drew.cell? ⟨b2, o2 + j * 4, none⟩ = some u0 ∧ wr.drew.cell? ⟨b2, o2 + j * 4 + 1, none⟩ = some u1 ∧ wr.drew.cell? ⟨b2, o2 + j * 4 + 2, none⟩ = some u2 ∧ wr.drew.cell? ⟨b2, o2 + j * 4 + 3, none⟩ = some u3 := ⟨p0, p1, p2, p3, q0, q1, q2, q3⟩
      clear p0 p1 p2 p3 q0 q1 q2 q3
      obtain ⟨p0, p1, p2, p3, q0, q1, q2, q3⟩ := hS
      refine region_U (fin := 9) (S := fun V' => V'.cell? ⟨b1, o1 + j * 4, none⟩ = some v0 ∧ V'.cell? ⟨b1, o1 + j * 4 + 1, none⟩ = some v1 ∧ V'.cell? ⟨b1, o1 + j * 4 + 2, none⟩ = some v2 ∧ V'.cell? ⟨b1, o1 + j * 4 + 3, none⟩ = some v3 ∧ V'.cell? ⟨b2, o2 + j * 4, none⟩ = some u0 ∧ V'.cell? ⟨b2, o2 + j * 4 + 1, none⟩ = some u1 ∧ V'.cell? ⟨b2, o2 + j * 4 + 2, none⟩ = some u2 ∧ V'.cell? ⟨b2, o2 + j * 4 + 3, none⟩ = some u3) (by kernel_rfl) ⟨p0, p1, p2, p3, q0, q1, q2, q3⟩ (fun hHeld => ?_)
      clear hHeld
      refine takeU (i := 0) (v := .slice (some ⟨b1, o1, none⟩) n c1) rfl (by rfl) (by kernel_rfl) (by kernel_rfl) (by kernel_rfl) (by kernel_rfl) (by kernel_rfl) (fun _ _ _ h => h) (Or.inl ⟨by rfl, fun w hS => by obtain ⟨p0, p1, p2, p3, q0, q1, q2, q3⟩ := hS; go_simp⟩) ⟨p0, p1, p2, p3, q0, q1, q2, q3⟩ ?_
      simp only [List.getElem_toArray, List.getElem_cons_zero, Act.put, List.setIfInBounds_toArray, List.set_cons_zero, List.set_cons_succ]
      refine takeU (i := 1) (v := .int .i64 (j : Int)) rfl (by rfl) (by kernel_rfl) (by kernel_rfl) (by kernel_rfl) (by kernel_rfl) (by kernel_rfl) (fun _ _ _ h => h) (Or.inl ⟨by rfl, fun w hS => by obtain ⟨p0, p1, p2, p3, q0, q1, q2, q3⟩ := hS; go_simp⟩) ⟨p0, p1, p2, p3, q0, q1, q2, q3⟩ ?_
      simp only [List.getElem_toArray, List.getElem_cons_zero, List.getElem_cons_succ, Act.put, List.setIfInBounds_toArray, List.set_cons_zero, List.set_cons_succ]
      refine takeU (i := 2) (v := .pointer (some ⟨b1, o1 + j * 4, none⟩)) rfl (by rfl) (by kernel_rfl) (by kernel_rfl) (by kernel_rfl) (by kernel_rfl) (by kernel_rfl) (fun _ _ _ h => h) (Or.inl ⟨by rfl, fun w hS => by obtain ⟨p0, p1, p2, p3, q0, q1, q2, q3⟩ := hS; go_simp⟩) ⟨p0, p1, p2, p3, q0, q1, q2, q3⟩ ?_
      simp only [List.getElem_toArray, List.getElem_cons_zero, List.getElem_cons_succ, Act.put, List.setIfInBounds_toArray, List.set_cons_zero, List.set_cons_succ]
      refine takeU (i := 3) (v := .agg #[v0, v1, v2, v3]) rfl (by rfl) (by kernel_rfl) (by kernel_rfl) (by kernel_rfl) (by kernel_rfl) (by kernel_rfl) (fun _ _ _ h => h) (Or.inl ⟨by rfl, fun w hS => by obtain ⟨p0, p1, p2, p3, q0, q1, q2, q3⟩ := hS; go_simp⟩) ⟨p0, p1, p2, p3, q0, q1, q2, q3⟩ ?_
      simp only [List.getElem_toArray, List.getElem_cons_zero, List.getElem_cons_succ, Act.put, List.setIfInBounds_toArray, List.set_cons_zero, List.set_cons_succ]
      refine takeU (i := 4) (v := .slice (some ⟨b2, o2, none⟩) n c2) rfl (by rfl) (by kernel_rfl) (by kernel_rfl) (by kernel_rfl) (by kernel_rfl) (by kernel_rfl) (fun _ _ _ h => h) (Or.inl ⟨by rfl, fun w hS => by obtain ⟨p0, p1, p2, p3, q0, q1, q2, q3⟩ := hS; go_simp⟩) ⟨p0, p1, p2, p3, q0, q1, q2, q3⟩ ?_
      simp only [List.getElem_toArray, List.getElem_cons_zero, List.getElem_cons_succ, Act.put, List.setIfInBounds_toArray, List.set_cons_zero, List.set_cons_succ]
      refine takeU (i := 5) (v := .int .i64 (j : Int)) rfl (by rfl) (by kernel_rfl) (by kernel_rfl) (by kernel_rfl) (by kernel_rfl) (by kernel_rfl) (fun _ _ _ h => h) (Or.inl ⟨by rfl, fun w hS => by obtain ⟨p0, p1, p2, p3, q0, q1, q2, q3⟩ := hS; go_simp⟩) ⟨p0, p1, p2, p3, q0, q1, q2, q3⟩ ?_
      simp only [List.getElem_toArray, List.getElem_cons_zero, List.getElem_cons_succ, Act.put, List.setIfInBounds_toArray, List.set_cons_zero, List.set_cons_succ]
      refine takeU (i := 6) (v := .pointer (some ⟨b2, o2 + j * 4, none⟩)) rfl (by rfl) (by kernel_rfl) (by kernel_rfl) (by kernel_rfl) (by kernel_rfl) (by kernel_rfl) (fun _ _ _ h => h) (Or.inl ⟨by rfl, fun w hS => by obtain ⟨p0, p1, p2, p3, q0, q1, q2, q3⟩ := hS; go_simp⟩) ⟨p0, p1, p2, p3, q0, q1, q2, q3⟩ ?_
      simp only [List.getElem_toArray, List.getElem_cons_zero, List.getElem_cons_succ, Act.put, List.setIfInBounds_toArray, List.set_cons_zero, List.set_cons_succ]
      refine takeU (i := 7) (v := .agg #[u0, u1, u2, u3]) rfl (by rfl) (by kernel_rfl) (by kernel_rfl) (by kernel_rfl) (by kernel_rfl) (by kernel_rfl) (fun _ _ _ h => h) (Or.inl ⟨by rfl, fun w hS => by obtain ⟨p0, p1, p2, p3, q0, q1, q2, q3⟩ := hS; go_simp⟩) ⟨p0, p1, p2, p3, q0, q1, q2, q3⟩ ?_
      simp only [List.getElem_toArray, List.getElem_cons_zero, List.getElem_cons_succ, Act.put, List.setIfInBounds_toArray, List.set_cons_zero, List.set_cons_succ]
      refine oneU (i := 8) (by kernel_rfl) rfl (by rfl) ?_
      simp only [List.getElem_toArray, List.getElem_cons_zero, List.getElem_cons_succ]
      go_simp
      refine HCL.out.mono ?_
      rintro e w2 ⟨rfl, hb2⟩
      have hbb := belNext (below_drewN (Below.refl wr.heap.size wr) 1) hb2
      have HB2 := hideN (belNext HBR.out hbb)
      refine ⟨⟨(hb2.cell (cell_lt p0)).trans p0, (hb2.cell (cell_lt p1)).trans p1, (hb2.cell (cell_lt p2)).trans p2, (hb2.cell (cell_lt p3)).trans p3, (hb2.cell (cell_lt q0)).trans q0, (hb2.cell (cell_lt q1)).trans q1, (hb2.cell (cell_lt q2)).trans q2, (hb2.cell (cell_lt q3)).trans q3⟩, ?_⟩
      clear hb2 hbb
      refine oneU (i := 9) (by kernel_rfl) rfl (by rfl) ?_
      simp only [List.getElem_toArray, List.getElem_cons_zero, List.getElem_cons_succ]
      go_simp
      refine doneU (by kernel_rfl) ?_ _
      clear p0 p1 p2 p3 q0 q1 q2 q3
      go_wp2
      go_roundw
      case rel => exact ⟨j + 1, by omega, by go_num, HB2⟩
      case measure => simp [intOf]; omega
    · obtain rfl : j = n := by omega
      go_wp2_with fail
      go_ret
      exact ⟨rfl, HBR.out⟩

set_option maxRecDepth 100000 in
set_option maxHeartbeats 8000000 in
theorem eqExp_any (lo1 lo2 : Nat) : ∀ (t : ExpT), totE t ≤ 1048576 → ∀ (v u : Value) (w : World), IsE w lo1 t v → IsE w lo2 t u → Calls Tryd.prog 8 #[v, u] w (SamePost w) := by
  refine ExpT.ind (fun k n s ks ih ht v u w h1 h2 => ?_)
  obtain ⟨a1, c1, rfl, ⟨hk, hnn, hs, hc1, hcm1⟩, hL1⟩ := isE_node.1 h1
  obtain ⟨a2, c2, rfl, ⟨-, -, -, hc2, hcm2⟩, hL2⟩ := isE_node.1 h2
  rw [totE] at ht
  have ih' : ∀ t ∈ ks, ∀ (v u : Value) (w : World), IsE w lo1 t v → IsE w lo2 t u → Calls Tryd.prog 8 #[v, u] w (SamePost w) := fun t hm => ih t hm (by
    have := totL_mem hm
    omega)
  obtain ⟨W1, hW1⟩ : ∃ W1, W1 = (w.alloc (.cells #[.int .i64 k, .int .i64 n, .string s, .slice a1 ks.length c1] 29)).alloc (.cells #[.int .i64 k, .int .i64 n, .string s, .slice a2 ks.length c2] 29) := ⟨_, rfl⟩
  have HB1 : Hid (Below w.heap.size w W1) := by rw [hW1]; exact belNext (belOne _ _) (belOne _ _)
  have HCL := hideN (eqExpS_of ks lo1 lo2 c1 c2 a1 a2 W1 (by omega) (hL1.below HB1.out) (hL2.below HB1.out) ih')
  have HW1 := hideN hW1
  generalize ks.length = kn at *
  clear ih ih' h1 h2 hL1 hL2 hW1 ht
  unfold SamePost
  go_enter Tryd.func8, Tryd.ntmps8
  go_wp2_with fail
  try rw [← HW1.out]
  refine HCL.out.mono ?_
  rintro e w2 ⟨rfl, hb2⟩
  have HB2 := hideN (belNext HB1.out hb2)
  clear hb2
  go_wp2_with fail
  go_ret
  exact ⟨rfl, HB2.out⟩

end Go.Proofs.YthbjihamhfahcaaDoor

/-
  An expression drawn, that may be not ok: l13AnyExp, DrawExpNames.
-/
import Derived.Test.YtgjficnpkmemgaaExpY3
namespace Go.Proofs.Ytgjficnpkmemgaa
open Go.RowKit Go.Deep
set_option linter.unusedVariables false

attribute [local go_sem] Oper.semAt_some

theorem totL_append : ∀ (a b : List ExpT), totL (a ++ b) = totL a + totL b
  | [], b => by rw [List.nil_append, totL]; omega
  | x :: a, b => by rw [List.cons_append, totL, totL, totL_append a b]; omega

/-- The list with one name more. -/
theorem kids_more {w V Vf : World} {R : Nat} {v : Value} {bs : List Int} {p E g cap m : Nat} {a0 a1 a2 a3 : Value} {t : ExpT} (h : DrY w V R v bs p E a0 a1 a2 a3 t) (hb : Below V.heap.size V Vf) {us : List Value} (ks : List ExpT) (hm : ks.length = m) (hl : us.length = m * 4)
    (hu : ∀ i, i < m → ∃ v0 v1 v2 v3, us[i * 4]? = some v0 ∧ us[i * 4 + 1]? = some v1 ∧ us[i * 4 + 2]? = some v2 ∧ us[i * 4 + 3]? = some v3 ∧ IsE (hole V E) (w.heap.size + 1) (ks.getD i e0) (.agg #[v0, v1, v2, v3]))
    (hrow : Vf.ownsRow V.heap.size 25 4 (.slice (some ⟨g, 0, none⟩) (m + 1) cap) (m + 1) (us ++ [.int .i64 4, .int .i64 0, .string ⟨#[97]⟩, .slice none 0 0])) :
    IsL (hole Vf E) (w.heap.size + 1) (ks ++ [.node 4 0 ⟨#[97]⟩ []]) (some ⟨g, 0, none⟩) := fun _ => by
  have hg := World.ownsRow.lt hrow g rfl
  have hEl := h.e.lt
  have hroom := h.x.room
  have hgE : g ≠ E := by omega
  have hcell : ∀ j, j < (m + 1) * 4 → (hole Vf E).cell? ⟨g, j, none⟩ = (us ++ [.int .i64 4, .int .i64 0, .string ⟨#[97]⟩, .slice none 0 0])[j]? := fun j hj => by
    rw [cellOfBlock (hole_other hgE), World.ownsRow.cellAt hrow j hj]
  refine ⟨g, 0, rfl, by omega, fun i hi => ?_⟩
  have hi' : i < m + 1 := by rw [List.length_append, hm] at hi; simpa using hi
  by_cases e : i < m
  · obtain ⟨v0, v1, v2, v3, c0, c1, c2, c3, he⟩ := hu i e
    refine ⟨.agg #[v0, v1, v2, v3], ⟨v0, v1, v2, v3, rfl, ?_, ?_, ?_, ?_⟩, ?_⟩
    · rw [Nat.zero_add, hcell _ (by omega), List.getElem?_append_left (by omega)]; exact c0
    · rw [Nat.zero_add, hcell _ (by omega), List.getElem?_append_left (by omega)]; exact c1
    · rw [Nat.zero_add, hcell _ (by omega), List.getElem?_append_left (by omega)]; exact c2
    · rw [Nat.zero_add, hcell _ (by omega), List.getElem?_append_left (by omega)]; exact c3
    · have h9 : (ks ++ [ExpT.node 4 0 ⟨#[97]⟩ []]).getD i e0 = ks.getD i e0 := by simp [List.getD, List.getElem?_append_left (show i < ks.length by omega)]
      rw [h9]
      exact he.hkept hEl hb.size (fun k _ _ hk => hb.block k hk)
  · obtain rfl : i = m := by omega
    have h9 : (ks ++ [ExpT.node 4 0 ⟨#[97]⟩ []]).getD i e0 = .node 4 0 ⟨#[97]⟩ [] := by simp [List.getD, hm]
    refine ⟨.agg #[.int .i64 4, .int .i64 0, .string ⟨#[97]⟩, .slice none 0 0], ⟨_, _, _, _, rfl, ?_, ?_, ?_, ?_⟩, ?_⟩
    · rw [Nat.zero_add, hcell _ (by omega), List.getElem?_append_right (by omega), hl, Nat.sub_self]; rfl
    · rw [Nat.zero_add, hcell _ (by omega), List.getElem?_append_right (by omega), hl, show i * 4 + 1 - i * 4 = 1 by omega]; rfl
    · rw [Nat.zero_add, hcell _ (by omega), List.getElem?_append_right (by omega), hl, show i * 4 + 2 - i * 4 = 2 by omega]; rfl
    · rw [Nat.zero_add, hcell _ (by omega), List.getElem?_append_right (by omega), hl, show i * 4 + 3 - i * 4 = 3 by omega]; rfl
    · rw [h9]; exact isE_leaf _ _ 4 0 ⟨#[97]⟩ ⟨by unfold Num64; omega, by unfold Num64; omega, by decide⟩

set_option maxRecDepth 100000 in
set_option maxHeartbeats 40000000 in
theorem l13AnyExp_any (R : Nat) (v : Value) (bs : List Int) (p : Nat) (w : World) (hr : Rd w R v bs p) (hp : p + 30000 ≤ 400000) (hal : ∀ (ao : Option Addr) (n cap b off : Nat), v = .slice ao n cap → ao = some ⟨b, off, none⟩ → b < w.heap.size) :
    Calls Try.prog 9 #[.pointer (some ⟨R, 0, none⟩)] w (DrwE R v bs p 40000 w) := by
  have hlt := hr.lt
  obtain ⟨W1, hW1⟩ : ∃ W1, W1 = w.alloc (.cells #[.int .i64 0, .int .i64 0, .string ⟨#[]⟩, .slice none 0 0] 25) := ⟨_, rfl⟩
  have hb1 : Below w.heap.size w W1 := by rw [hW1]; exact belOne _ _
  have HS1 : Hid (DrX w W1 R v bs p) := ⟨by rw [hW1]; exact BlkE.new _ _ _ _ _ _, hr.below hb1, below_grown hb1, hlt, hal⟩
  have HCE := hideN (l13Exp_any R v bs p W1 HS1.out.rd hp HS1.out.alw)
  have hro := HS1.out.room
  have HW1 := hideN hW1
  clear hr hal hb1 hW1
  go_enter Try.func9, Try.ntmps9
  go_wp2_with fail
  try rw [← HW1.out]
  refine HCE.out.mono ?_
  rintro e V1 ⟨T, u, p1, rfl, hE, hT, hok, hp1, hp2, hrd, hg⟩
  obtain ⟨k1, n1, s1, a1, m1, c1, rfl⟩ := hE.agg
  have HSB := hideN (HS1.out.pick hrd hg)
  have hro1 := HSB.out.room
  obtain ⟨V2, hV2⟩ : ∃ V2, V2 = V1.alloc (.cells #[.int .i64 k1, .int .i64 n1, .string s1, .slice a1 m1 c1] 25) := ⟨_, rfl⟩
  obtain ⟨E, hE0⟩ : ∃ E, V1.heap.size = E := ⟨_, rfl⟩
  have HY2 : Hid (DrY w V2 R v bs p1 E (.int .i64 k1) (.int .i64 n1) (.string s1) (.slice a1 m1 c1) T) := by
    rw [← hE0, hV2]
    exact ⟨HSB.out.below (belOne _ _), BlkE.new _ _ _ _ _ _, IsE.intohole (IsE.less hro _ _ hE) (fun k hk => (belOne V1 (.cells #[.int .i64 k1, .int .i64 n1, .string s1, .slice a1 m1 c1] 25)).block k hk), by omega⟩
  have HKS : Hid (∀ k n s ks, T = .node k n s ks → ks.length ≤ 60) := fun k n s ks e => by
    subst e
    unfold okE at hok
    simp only [Bool.and_eq_true, decide_eq_true_eq] at hok
    have h1 := hok.1
    rw [sizeT] at h1
    have h2 : ∀ l : List ExpT, l.length ≤ sizeL l := by
      intro l
      induction l with
      | nil => simp
      | cons a r ih => rw [sizeL, List.length_cons]; obtain ⟨x1, x2, x3, x4⟩ := a; rw [sizeT]; omega
    have := h2 ks
    omega
  have HV2 := hideN hV2
  have HEE := hideN hE0
  clear hrd hg hE hV2 HCE HSB hok hro hro1
  go_wp2_with fail
  try rw [← HV2.out]
  try rw [hE0]
  clear hE0
  refine (pick_any R v bs p1 14 V2 HY2.out.x.rd (by omega) (by omega)).mono ?_
  rintro e V3 ⟨x, rfl, hx0, hx1, -, hrd, hg, -⟩
  have HY := hideN (HY2.out.pick hrd hg)
  have hEw := HY.out.lt
  have hRw := HY.out.x.lt
  clear hrd hg hx1 HY2 HS1
  rcases (show x = 0 ∨ x = 1 ∨ x = 2 ∨ x = 3 ∨ x = 4 ∨ 5 ≤ x by omega) with rfl | rfl | rfl | rfl | rfl | hx5
  · skip
    go_wp2_with fail
    obtain ⟨VA, hVA⟩ : ∃ VA, VA = V3.alloc (.cells #[.int .i64 0, .int .i64 8, .int .i64 7] 3) := ⟨_, rfl⟩
    have HLC := hideN (show ∀ i, i < 3 → (V3.alloc (.cells #[.int .i64 0, .int .i64 8, .int .i64 7] 3)).cell? ⟨V3.heap.size, 0 + i, none⟩ = some (.int .i64 (([0, 8, 7] : List Int).getD i 0)) from litI_cells V3 [0, 8, 7] 3)
    have hbA : Below V3.heap.size V3 VA := by rw [hVA]; exact belOne _ _
    have HYA := hideN (HY.out.below hbA)
    have HVA := hideN hVA
    rw [← hVA] at HLC
    have hszA := HY.out.x.room
    clear hVA hbA
    go_wp2_with fail
    try rw [← HVA.out]
    refine (oneI_any R v bs (p1 + 1) V3.heap.size 0 3 3 [0, 8, 7] VA HYA.out.x.rd (by omega) rfl (by decide) (by decide) (by omega) HLC.out).mono ?_
    rintro e VO ⟨y, rfl, hy, hrd, hg, -⟩
    have HYO := hideN (HYA.out.pick hrd hg)
    have hyr : Num64 y := by
      simp at hy
      unfold Num64
      omega
    obtain ⟨T2, hT2, hY2⟩ := HYO.out.kind hyr
    have HYF := hideN hY2
    have r0 := HYO.out.e.c0
    have r1 := HYO.out.e.c1
    have r2 := HYO.out.e.c2
    have r3 := HYO.out.e.c3
    have g0 := HYO.out.e.f 0
    have g1 := HYO.out.e.f 1
    have g2 := HYO.out.e.f 2
    have g3 := HYO.out.e.f 3
    clear hy hrd hg hY2
    obtain ⟨VF, hVF⟩ : ∃ VF, VF = VO.setCell ⟨E, 0, none⟩ (.int .i64 y) := ⟨_, rfl⟩
    rw [← hVF] at HYF
    have HVF := hideN hVF
    clear hVF
    go_upto_region 16 with fail
    try rw [← HVF.out]
    clear r0 r1 r2 r3 g0 g1 g2 g3
    have r0 := HYF.out.e.c0
    have r1 := HYF.out.e.c1
    have r2 := HYF.out.e.c2
    have r3 := HYF.out.e.c3
    have q0 := HYF.out.x.q.c0
    have q1 := HYF.out.x.q.c1
    have q2 := HYF.out.x.q.c2
    have q3 := HYF.out.x.q.c3
    have f0 := HYF.out.x.q.f 0
    have f1 := HYF.out.x.q.f 1
    have f2 := HYF.out.x.q.f 2
    have f3 := HYF.out.x.q.f 3
    have HF := hideN (drx_fin HYF.out.x (IsE.unhole HYF.out.e.lt _ _ HYF.out.h))
    have HQ4 := hideN (set4E_blk HYF.out.x.q (.int .i64 y) (.int .i64 n1) (.string s1) (.slice a1 m1 c1))
    go_wp2_with fail
    have t0 := HQ4.out.c0
    have t1 := HQ4.out.c1
    have t2 := HQ4.out.c2
    have t3 := HQ4.out.c3
    exact bodyPost_ret (v := .agg #[.int .i64 y, .int .i64 n1, .string s1, .slice a1 m1 c1]) (by simp [results, Try.results9, go_sem, t0, t1, t2, t3]) rfl ⟨T2, _, (p1 + 1 + 1), rfl, HF.out.1, by omega, by omega, by omega, HF.out.2.1, HF.out.2.2⟩
  · skip
    go_wp2_with fail
    obtain ⟨VA, hVA⟩ : ∃ VA, VA = V3.alloc (.cells #[.string ⟨#[118, 97, 114]⟩, .string ⟨#[42]⟩, .string ⟨#[65]⟩] 9) := ⟨_, rfl⟩
    have HLC := hideN (show ∀ i, i < 3 → (V3.alloc (.cells #[.string ⟨#[118, 97, 114]⟩, .string ⟨#[42]⟩, .string ⟨#[65]⟩] 9)).cell? ⟨V3.heap.size, 0 + i, none⟩ = some (.string (([⟨#[118, 97, 114]⟩, ⟨#[42]⟩, ⟨#[65]⟩] : List ByteArray).getD i ⟨#[]⟩)) from litT_cells V3 [⟨#[118, 97, 114]⟩, ⟨#[42]⟩, ⟨#[65]⟩] 9)
    have hbA : Below V3.heap.size V3 VA := by rw [hVA]; exact belOne _ _
    have HYA := hideN (HY.out.below hbA)
    have HVA := hideN hVA
    rw [← hVA] at HLC
    have hszA := HY.out.x.room
    clear hVA hbA
    go_wp2_with fail
    try rw [← HVA.out]
    refine (ofT_any R v bs (p1 + 1) V3.heap.size 0 3 3 [⟨#[118, 97, 114]⟩, ⟨#[42]⟩, ⟨#[65]⟩] VA HYA.out.x.rd (by omega) rfl (by decide) (by decide) (by omega) HLC.out).mono ?_
    rintro e VO ⟨y, rfl, hy, hrd, hg, -⟩
    have HYO := hideN (HYA.out.pick hrd hg)
    have hyr : y.size ≤ 8 := by
      simp at hy
      rcases hy with rfl | rfl | rfl <;> decide
    obtain ⟨T2, hT2, hY2⟩ := HYO.out.text hyr
    have HYF := hideN hY2
    have r0 := HYO.out.e.c0
    have r1 := HYO.out.e.c1
    have r2 := HYO.out.e.c2
    have r3 := HYO.out.e.c3
    have g0 := HYO.out.e.f 0
    have g1 := HYO.out.e.f 1
    have g2 := HYO.out.e.f 2
    have g3 := HYO.out.e.f 3
    clear hy hrd hg hY2
    obtain ⟨VF, hVF⟩ : ∃ VF, VF = VO.setCell ⟨E, 2, none⟩ (.string y) := ⟨_, rfl⟩
    rw [← hVF] at HYF
    have HVF := hideN hVF
    clear hVF
    go_upto_region 16 with fail
    try rw [← HVF.out]
    clear r0 r1 r2 r3 g0 g1 g2 g3
    have r0 := HYF.out.e.c0
    have r1 := HYF.out.e.c1
    have r2 := HYF.out.e.c2
    have r3 := HYF.out.e.c3
    have q0 := HYF.out.x.q.c0
    have q1 := HYF.out.x.q.c1
    have q2 := HYF.out.x.q.c2
    have q3 := HYF.out.x.q.c3
    have f0 := HYF.out.x.q.f 0
    have f1 := HYF.out.x.q.f 1
    have f2 := HYF.out.x.q.f 2
    have f3 := HYF.out.x.q.f 3
    have HF := hideN (drx_fin HYF.out.x (IsE.unhole HYF.out.e.lt _ _ HYF.out.h))
    have HQ4 := hideN (set4E_blk HYF.out.x.q (.int .i64 k1) (.int .i64 n1) (.string y) (.slice a1 m1 c1))
    go_wp2_with fail
    have t0 := HQ4.out.c0
    have t1 := HQ4.out.c1
    have t2 := HQ4.out.c2
    have t3 := HQ4.out.c3
    exact bodyPost_ret (v := .agg #[.int .i64 k1, .int .i64 n1, .string y, .slice a1 m1 c1]) (by simp [results, Try.results9, go_sem, t0, t1, t2, t3]) rfl ⟨T2, _, (p1 + 1 + 1), rfl, HF.out.1, by omega, by omega, by omega, HF.out.2.1, HF.out.2.2⟩
  · skip
    go_wp2_with fail
    obtain ⟨VA, hVA⟩ : ∃ VA, VA = V3.alloc (.cells #[.int .i64 (-1), .int .i64 1000] 3) := ⟨_, rfl⟩
    have HLC := hideN (show ∀ i, i < 2 → (V3.alloc (.cells #[.int .i64 (-1), .int .i64 1000] 3)).cell? ⟨V3.heap.size, 0 + i, none⟩ = some (.int .i64 (([-1, 1000] : List Int).getD i 0)) from litI_cells V3 [-1, 1000] 3)
    have hbA : Below V3.heap.size V3 VA := by rw [hVA]; exact belOne _ _
    have HYA := hideN (HY.out.below hbA)
    have HVA := hideN hVA
    rw [← hVA] at HLC
    have hszA := HY.out.x.room
    clear hVA hbA
    go_wp2_with fail
    try rw [← HVA.out]
    refine (oneI_any R v bs (p1 + 1) V3.heap.size 0 2 2 [-1, 1000] VA HYA.out.x.rd (by omega) rfl (by decide) (by decide) (by omega) HLC.out).mono ?_
    rintro e VO ⟨y, rfl, hy, hrd, hg, -⟩
    have HYO := hideN (HYA.out.pick hrd hg)
    have hyr : Num64 y := by
      simp at hy
      unfold Num64
      omega
    obtain ⟨T2, hT2, hY2⟩ := HYO.out.num hyr
    have HYF := hideN hY2
    have r0 := HYO.out.e.c0
    have r1 := HYO.out.e.c1
    have r2 := HYO.out.e.c2
    have r3 := HYO.out.e.c3
    have g0 := HYO.out.e.f 0
    have g1 := HYO.out.e.f 1
    have g2 := HYO.out.e.f 2
    have g3 := HYO.out.e.f 3
    clear hy hrd hg hY2
    obtain ⟨VF, hVF⟩ : ∃ VF, VF = VO.setCell ⟨E, 1, none⟩ (.int .i64 y) := ⟨_, rfl⟩
    rw [← hVF] at HYF
    have HVF := hideN hVF
    clear hVF
    go_upto_region 16 with fail
    try rw [← HVF.out]
    clear r0 r1 r2 r3 g0 g1 g2 g3
    have r0 := HYF.out.e.c0
    have r1 := HYF.out.e.c1
    have r2 := HYF.out.e.c2
    have r3 := HYF.out.e.c3
    have q0 := HYF.out.x.q.c0
    have q1 := HYF.out.x.q.c1
    have q2 := HYF.out.x.q.c2
    have q3 := HYF.out.x.q.c3
    have f0 := HYF.out.x.q.f 0
    have f1 := HYF.out.x.q.f 1
    have f2 := HYF.out.x.q.f 2
    have f3 := HYF.out.x.q.f 3
    have HF := hideN (drx_fin HYF.out.x (IsE.unhole HYF.out.e.lt _ _ HYF.out.h))
    have HQ4 := hideN (set4E_blk HYF.out.x.q (.int .i64 k1) (.int .i64 y) (.string s1) (.slice a1 m1 c1))
    go_wp2_with fail
    have t0 := HQ4.out.c0
    have t1 := HQ4.out.c1
    have t2 := HQ4.out.c2
    have t3 := HQ4.out.c3
    exact bodyPost_ret (v := .agg #[.int .i64 k1, .int .i64 y, .string s1, .slice a1 m1 c1]) (by simp [results, Try.results9, go_sem, t0, t1, t2, t3]) rfl ⟨T2, _, (p1 + 1 + 1), rfl, HF.out.1, by omega, by omega, by omega, HF.out.2.1, HF.out.2.2⟩
  · skip
    go_wp2_with fail
    go_loopw [4] (fun i wr => ∃ (k : Nat) (k2 n2 : Int) (s2 : ByteArray) (a2 : Option Addr) (m2 c2 : Nat) (T2 : ExpT), k ≤ 12 ∧ i = .int .i64 (k : Int) ∧ totE T2 ≤ 30000 + k ∧ Hid (DrY w wr R v bs (p1 + 1) E (.int .i64 k2) (.int .i64 n2) (.string s2) (.slice a2 m2 c2) T2)) (fun i _ => 12 - (intOf i).toNat)
    case atStart => exact ⟨0, k1, n1, s1, a1, m1, c1, T, Nat.zero_le _, rfl, by omega, HY⟩
    case round =>
      obtain ⟨k, k2, n2, s2, a2, m2, c2, T2, hk, rfl, hT2, HYL⟩ := hrel
      clear HY HV2 HW1 HKS
      by_cases hk12 : k < 12
      · have r0 := HYL.out.e.c0
        have r1 := HYL.out.e.c1
        have r2 := HYL.out.e.c2
        have r3 := HYL.out.e.c3
        have g0 := HYL.out.e.f 0
        have g1 := HYL.out.e.f 1
        have g2 := HYL.out.e.f 2
        have g3 := HYL.out.e.f 3
        have gl := HYL.out.e.lt
        have HYN := hideN HYL.out.nots
        have hk3 : decide ((k : Int) < 12) = true := by simp; omega
        have hT3 : totE (.node 5 0 ⟨#[]⟩ [T2]) ≤ 30000 + (k + 1) := by
          rw [totE, totL, totL]
          have h0 : (⟨#[]⟩ : ByteArray).size = 0 := rfl
          rw [h0]
          simp
          omega
        go_wp2_with fail
        go_roundw
        case rel => exact ⟨k + 1, 5, 0, ⟨#[]⟩, _, 1, 1, _, by omega, by go_num, hT3, HYN⟩
        case measure => simp [intOf]; omega
      · obtain rfl : k = 12 := by omega
        have r0 := HYL.out.e.c0
        have r1 := HYL.out.e.c1
        have r2 := HYL.out.e.c2
        have r3 := HYL.out.e.c3
        have q0 := HYL.out.x.q.c0
        have q1 := HYL.out.x.q.c1
        have q2 := HYL.out.x.q.c2
        have q3 := HYL.out.x.q.c3
        have f0 := HYL.out.x.q.f 0
        have f1 := HYL.out.x.q.f 1
        have f2 := HYL.out.x.q.f 2
        have f3 := HYL.out.x.q.f 3
        have HF := hideN (drx_fin HYL.out.x (IsE.unhole HYL.out.e.lt _ _ HYL.out.h))
        have HQ4 := hideN (set4E_blk HYL.out.x.q (.int .i64 k2) (.int .i64 n2) (.string s2) (.slice a2 m2 c2))
        go_wp2_with fail
        have t0 := HQ4.out.c0
        have t1 := HQ4.out.c1
        have t2 := HQ4.out.c2
        have t3 := HQ4.out.c3
        exact bodyPost_ret (v := .agg #[.int .i64 k2, .int .i64 n2, .string s2, .slice a2 m2 c2]) (by simp [results, Try.results9, go_sem, t0, t1, t2, t3]) rfl ⟨T2, _, (p1 + 1), rfl, HF.out.1, by omega, by omega, by omega, HF.out.2.1, HF.out.2.2⟩
  · skip
    obtain ⟨VA, hVA⟩ : ∃ VA, VA = V3.alloc (.cells #[] 25) := ⟨_, rfl⟩
    have hbA : Below V3.heap.size V3 VA := by rw [hVA]; exact belOne _ _
    have HRA : Hid (VA.ownsRow V3.heap.size 25 4 (.slice (some ⟨V3.heap.size, 0, none⟩) 0 0) 0 []) := by rw [hVA]; exact appE_empty V3
    obtain ⟨kT, nT, sT, ks⟩ := T
    obtain ⟨aoT, capT, eT, hnT, hLT⟩ := isE_node.1 HY.out.h
    simp at eT
    obtain ⟨rfl, rfl, rfl, rfl, hm1, rfl⟩ := eT
    have hk60 : ks.length ≤ 60 := HKS.out _ _ _ _ rfl
    have HNT := hideN hnT
    have hEl := HY.out.e.lt
    have hflat : ∃ us : List Value, us.length = m1 * 4 ∧ (0 < m1 → ∃ b off, a1 = some ⟨b, off, none⟩ ∧ ∀ j u, us[j]? = some u → VA.cell? ⟨b, off + j, none⟩ = some u) ∧ (∀ u ∈ us, u.oneCell' = true) ∧
        ∀ i, i < m1 → ∃ v0 v1 v2 v3, us[i * 4]? = some v0 ∧ us[i * 4 + 1]? = some v1 ∧ us[i * 4 + 2]? = some v2 ∧ us[i * 4 + 3]? = some v3 ∧ IsE (hole V3 E) (w.heap.size + 1) (ks.getD i e0) (.agg #[v0, v1, v2, v3]) := by
      by_cases h0 : 0 < ks.length
      · obtain ⟨b, off, hao, _, hcs⟩ := hLT h0
        obtain ⟨us, h1, h2, h3, h4⟩ := kids_flat hEl ks hcs
        exact ⟨us, by rw [h1, hm1], fun _ => ⟨b, off, hao, fun j u hj => (hbA.cell (cell_lt (h2 j u hj))).trans (h2 j u hj)⟩, h3, fun i hi => h4 i (by omega)⟩
      · exact ⟨[], by simp; omega, (fun h => by omega), (fun u h => by simp at h), (fun i hi => by omega)⟩
    obtain ⟨us, hus1, hus2, hus3, hus4⟩ := hflat
    have HU1 := hideN hus1
    have HU2 := hideN hus2
    have HU3 := hideN hus3
    have HU4 := hideN hus4
    have HM1 := hideN hm1.symm
    have r3 : V3.cell? ⟨E, 3, none⟩ = some (.slice a1 m1 c1) := HY.out.e.c3
    have HBA := hideN hbA
    have HVA := hideN hVA
    have hszA : V3.heap.size ≤ VA.heap.size := hbA.size
    have hm60 : m1 ≤ 60 := by omega
    clear hnT hLT hus1 hus2 hus3 hus4 hbA hVA hm1 hk60
    go_wp2_with (at_builtin; (try rw [← HVA.out]); refine wpList_appE rfl _ _ rfl V3.heap.size V3.heap.size 0 0 [] us a1 m1 c1 rfl rfl HRA.out HU1.out HU2.out HU3.out hszA (by omega) ?_; intro g7 cap7 V7 hrow7 hgr7 hat7 hcp7 hcm7)
    try simp only [Nat.zero_add, List.nil_append] at hrow7 hcp7
    have HB7 : Hid (Below V3.heap.size V3 V7) := HBA.out.grown hgr7 HBA.out.size (fun k e => by have := Option.some.inj e; omega)
    have HR7 := hideN hrow7
    clear hrow7 hgr7 hat7 r3
    go_wp2_with fail
    refine (l13Name_any ⟨#[97]⟩ V7).mono ?_
    rintro e V8 ⟨rfl, hb8⟩
    obtain ⟨V9, hV9⟩ : ∃ V9, V9 = V8.alloc (.cells #[.int .i64 4, .int .i64 0, .string ⟨#[97]⟩, .slice none 0 0] 25) := ⟨_, rfl⟩
    have hb9 : Below V7.heap.size V7 V9 := by rw [hV9]; exact belNext hb8 (belOne _ _)
    have HB9 : Hid (Below V3.heap.size V3 V9) := HB7.out.trans (hb9.mono HB7.out.size)
    have HR9 := hideN (row_below HR7.out hb9)
    have HD : Hid (∀ j u, ([.int .i64 4, .int .i64 0, .string ⟨#[97]⟩, .slice none 0 0] : List Value)[j]? = some u → V9.cell? ⟨V8.heap.size, 0 + j, none⟩ = some u) := fun j u hj => by
      rw [hV9, World.cell?_alloc_new, Nat.zero_add]
      simpa using hj
    have HV9 := hideN hV9
    have hsz9 : V3.heap.size ≤ V9.heap.size := HB9.out.size
    obtain ⟨G8, hG8⟩ : ∃ G8, V8.heap.size = G8 := ⟨_, rfl⟩
    rw [hG8] at HD
    have HG8 := hideN hG8
    clear hb8 hb9 hV9 hG8
    go_upto_region 16 with (at_builtin; (try rw [← HV9.out]); (try rw [HG8.out]); refine wpList_appE rfl _ _ rfl V3.heap.size g7 m1 cap7 us [.int .i64 4, .int .i64 0, .string ⟨#[97]⟩, .slice none 0 0] (some ⟨G8, 0, none⟩) 1 1 rfl rfl HR9.out rfl (fun _ => ⟨G8, 0, rfl, HD.out⟩) (by simp [Value.oneCell']) hsz9 (by omega) ?_; intro g9 cap9 V10 hrow10 hgr10 hat10 hcp10 hcm10; have HB10 : Hid (Below V3.heap.size V3 V10) := HB9.out.grown hgr10 HB9.out.size (fun k e => (World.ownsRow.lt HR9.out k e).1); have r3 := (HY.out.e.below HB10.out).c3; have g3 := (HY.out.e.below HB10.out).f 3)
    clear r3 g3
    have HYO := hideN (HY.out.below HB10.out)
    have hlen : (ks ++ [ExpT.node 4 0 ⟨#[97]⟩ []]).length = m1 + 1 := by rw [List.length_append, HM1.out]; rfl
    have HLM := kids_more HY.out HB10.out ks HM1.out HU1.out HU4.out hrow10
    have hkk := HYO.out.kids (ks' := ks ++ [ExpT.node 4 0 ⟨#[97]⟩ []]) (ao' := some ⟨g9, 0, none⟩) (cap' := cap9) (by rw [hlen]; exact ⟨hcp10, hcm10⟩) HLM (fun k n s ks2 e => by
      injection e with _ _ _ e4
      subst e4
      rw [totL_append, List.length_append]
      have h0 : (⟨#[97]⟩ : ByteArray).size = 1 := rfl
      rw [totL, totL, totE, totL, h0]
      simp
      omega)
    rw [hlen] at hkk
    obtain ⟨T2, hT2, hY2⟩ := hkk
    have HYF := hideN hY2
    clear hY2 HLM hrow10 hgr10 hat10 hlen
    obtain ⟨VF, hVF⟩ : ∃ VF, VF = V10.setCell ⟨E, 3, none⟩ (.slice (some ⟨g9, 0, none⟩) (m1 + 1) cap9) := ⟨_, rfl⟩
    rw [← hVF] at HYF
    have HVF := hideN hVF
    clear hVF
    try rw [← HVF.out]
    have r0 := HYF.out.e.c0
    have r1 := HYF.out.e.c1
    have r2 := HYF.out.e.c2
    have r3 := HYF.out.e.c3
    have q0 := HYF.out.x.q.c0
    have q1 := HYF.out.x.q.c1
    have q2 := HYF.out.x.q.c2
    have q3 := HYF.out.x.q.c3
    have f0 := HYF.out.x.q.f 0
    have f1 := HYF.out.x.q.f 1
    have f2 := HYF.out.x.q.f 2
    have f3 := HYF.out.x.q.f 3
    have HF := hideN (drx_fin HYF.out.x (IsE.unhole HYF.out.e.lt _ _ HYF.out.h))
    have HQ4 := hideN (set4E_blk HYF.out.x.q (.int .i64 k1) (.int .i64 n1) (.string s1) (.slice (some ⟨g9, 0, none⟩) (m1 + 1) cap9))
    go_wp2_with fail
    have t0 := HQ4.out.c0
    have t1 := HQ4.out.c1
    have t2 := HQ4.out.c2
    have t3 := HQ4.out.c3
    exact bodyPost_ret (v := .agg #[.int .i64 k1, .int .i64 n1, .string s1, .slice (some ⟨g9, 0, none⟩) (m1 + 1) cap9]) (by simp [results, Try.results9, go_sem, t0, t1, t2, t3]) rfl ⟨T2, _, (p1 + 1), rfl, HF.out.1, by omega, by omega, by omega, HF.out.2.1, HF.out.2.2⟩
  · have x0 : (x == 0) = false := by simp; omega
    have x1 : (x == 1) = false := by simp; omega
    have x2 : (x == 2) = false := by simp; omega
    have x3 : (x == 3) = false := by simp; omega
    have x4 : (x == 4) = false := by simp; omega
    have r0 := HY.out.e.c0
    have r1 := HY.out.e.c1
    have r2 := HY.out.e.c2
    have r3 := HY.out.e.c3
    have q0 := HY.out.x.q.c0
    have q1 := HY.out.x.q.c1
    have q2 := HY.out.x.q.c2
    have q3 := HY.out.x.q.c3
    have f0 := HY.out.x.q.f 0
    have f1 := HY.out.x.q.f 1
    have f2 := HY.out.x.q.f 2
    have f3 := HY.out.x.q.f 3
    have HF := hideN (drx_fin HY.out.x (IsE.unhole HY.out.e.lt _ _ HY.out.h))
    have HQ4 := hideN (set4E_blk HY.out.x.q (.int .i64 k1) (.int .i64 n1) (.string s1) (.slice a1 m1 c1))
    go_wp2_with fail
    have t0 := HQ4.out.c0
    have t1 := HQ4.out.c1
    have t2 := HQ4.out.c2
    have t3 := HQ4.out.c3
    exact bodyPost_ret (v := .agg #[.int .i64 k1, .int .i64 n1, .string s1, .slice a1 m1 c1]) (by simp [results, Try.results9, go_sem, t0, t1, t2, t3]) rfl ⟨T, _, (p1 + 1), rfl, HF.out.1, by omega, by omega, by omega, HF.out.2.1, HF.out.2.2⟩

end Go.Proofs.Ytgjficnpkmemgaa

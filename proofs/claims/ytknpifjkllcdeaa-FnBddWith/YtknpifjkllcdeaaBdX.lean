/-
  Diagrams: the table of a diagram, by the model.
-/
import Derived.Test.YtknpifjkllcdeaaBdU
import Derived.Test.YtknpifjkllcdeaaBdH
namespace Go.Proofs.Ytknpifjkllcdeaa
open Go.RowKit Go.Deep
set_option linter.unusedVariables false

attribute [local go_sem] Oper.semAt_some

set_option maxRecDepth 100000 in
set_option maxHeartbeats 8000000 in
theorem l11Table_any (vars n cap : Nat) (root : Int) (ao : Option Addr) (ns : List Nd) (w : World) (h6 : vars ≤ 6) (hN : Nds w ao n cap ns) (hn : n ≤ 64) (hok : ∀ i, i < n → nodeB vars ns i = true) (hr0 : 0 ≤ root) (hr1 : root < 2 + (n : Int)) :
    Calls Try.prog 88 #[.agg #[.int .i64 (vars : Int), .slice ao n cap, .int .i64 root]] w (TabPost vars (isN ns root) w) := by
  obtain ⟨g, hg⟩ : ∃ g, isN ns root = g := ⟨_, rfl⟩
  obtain ⟨W1, hW1⟩ : ∃ W1, W1 = w.alloc (.cells #[.int .i64 (vars : Int), .slice ao n cap, .int .i64 root] 25) := ⟨_, rfl⟩
  obtain ⟨W2, hW2⟩ : ∃ W2, W2 = W1.alloc (.cells #[] 4) := ⟨_, rfl⟩
  have hs1 : W1.heap.size = w.heap.size + 1 := by rw [hW1]; simp
  have HB1 : Hid (Below w.heap.size w W1) := by rw [hW1]; exact belOne _ _
  have HB2 : Hid (Below w.heap.size w W2) := by rw [hW2]; exact belNext HB1.out (belOne _ _)
  have HK := hideN (show BlkD W2 w.heap.size (.int .i64 (vars : Int)) (.slice ao n cap) (.int .i64 root) by rw [hW2]; exact (show BlkD W1 w.heap.size _ _ _ by rw [hW1]; exact BlkD.new _ _ _ _).below (belOne _ _))
  have HT0 : Hid (W2.ownsRow (w.heap.size + 1) 4 1 (.slice (some ⟨w.heap.size + 1, 0, none⟩) 0 0) 0 ((tabF vars g 0).map Value.bool)) := by
    have h := World.alloc_heap_new W1 (.cells #[] 4)
    rw [← hW2, hs1] at h
    exact ⟨rfl, .inr ⟨w.heap.size + 1, 0, #[], rfl, Nat.le_refl _, h, Nat.le_refl _, by simp, by simp, by simp [tabF]⟩⟩
  have HIS : Hid (∀ (V : World), Below w.heap.size w V → ∀ (Bw off capw : Nat) (ws : List Bool), ws.length = vars → Tab V Bw off capw ws → Calls Try.prog 89 #[.agg #[.int .i64 (vars : Int), .slice ao n cap, .int .i64 root], .slice (some ⟨Bw, off, none⟩) vars capw] V fun e w' => e = .returned (.bool (g ws)) ∧ Below V.heap.size V w') := fun V hV Bw off capw ws hws hT => by
    rw [← hg]
    exact l11Is_any vars n cap root ao ns Bw off capw ws V (hN.below hV) hn hok hr0 hr1 hws hT
  have HSZ := hideN (fun W => l11Size_any vars W h6)
  obtain ⟨M, hM⟩ : ∃ M, 2 ^ vars = M := ⟨_, rfl⟩
  have hM64 : M ≤ 64 := by rw [← hM]; show _ ≤ 2 ^ 6; exact Nat.pow_le_pow_right (by decide) h6
  have hM1 : 1 ≤ M := by rw [← hM]; exact Nat.one_le_two_pow
  unfold TabPost
  rw [hg]
  rw [hM] at HSZ ⊢
  obtain ⟨ib, hib, hz0, hz1, hz2⟩ := info_parts info_bool
  have HW1 := hideN hW1
  have HW2 := hideN hW2
  have HS1 := hideN hs1
  clear hN hok hg hM hW1 hW2 hs1
  go_enter Try.func88, Try.ntmps88
  go_wp2_with fail
  try rw [← HW1.out]
  try rw [← HW2.out]
  try rw [← HS1.out]
  go_loopw [3, 4] (fun o i wr => ∃ (ao' : Option Addr) (cap' j : Nat), j ≤ M ∧ i = .int .i64 (j : Nat) ∧ o = .slice ao' j cap' ∧ Hid (wr.ownsRow (w.heap.size + 1) 4 1 (.slice ao' j cap') j ((tabF vars g j).map Value.bool)) ∧ Hid (Below w.heap.size w wr) ∧ Hid (BlkD wr w.heap.size (.int .i64 (vars : Int)) (.slice ao n cap) (.int .i64 root))) (fun _ i _ => M - (intOf i).toNat)
  case atStart => exact ⟨some ⟨w.heap.size + 1, 0, none⟩, 0, 0, Nat.zero_le _, rfl, by first | rfl | rw [HS1.out], HT0, HB2.out, HK⟩
  case round =>
    obtain ⟨ao', cap', j, hj, rfl, rfl, hrow, hbw, hbk⟩ := hrel
    have c0 := hbk.out.c0
    have c3 := hbk.out.lt
    go_wp2_with fail
    refine (HSZ.out _).mono ?_
    rintro e w' ⟨rfl, hw'⟩
    obtain rfl := hw'.symm
    by_cases hlt : j < M
    · have HTS := hideN (tabF_succ vars g j)
      have HCL := hideN (fun V (hV : Below wr.heap.size wr V) => hbk.out.cells hV)
      clear c0 c3
      go_wp2_with fail
      obtain ⟨z0, z1, z2⟩ := HCL.out wr.drew (below_drewN (Below.refl _ _) 1)
      refine region_U (fin := 8) (S := fun V => V.cell? ⟨w.heap.size, 0, none⟩ = some (.int .i64 (vars : Int)) ∧ V.cell? ⟨w.heap.size, 1, none⟩ = some (.slice ao n cap) ∧ V.cell? ⟨w.heap.size, 2, none⟩ = some (.int .i64 root)) (by kernel_rfl) ⟨z0, z1, z2⟩ (fun hHeld => ?_)
      clear hHeld
      refine takeU (i := 0) (v := .slice ao' j cap') rfl (by rfl) (by kernel_rfl) (by kernel_rfl) (by kernel_rfl) (by kernel_rfl) (by kernel_rfl) (fun _ _ _ h => h) (Or.inl ⟨by rfl, fun w hS => by obtain ⟨z0, z1, z2⟩ := hS; go_simp⟩) ⟨z0, z1, z2⟩ ?_
      simp only [List.getElem_toArray, List.getElem_cons_zero, Act.put, List.setIfInBounds_toArray, List.set_cons_zero, List.set_cons_succ]
      refine takeU (i := 1) (v := .agg #[.int .i64 (vars : Int), .slice ao n cap, .int .i64 root]) rfl (by rfl) (by kernel_rfl) (by kernel_rfl) (by kernel_rfl) (by kernel_rfl) (by kernel_rfl) (fun _ _ _ h => h) (Or.inl ⟨by rfl, fun w hS => by obtain ⟨z0, z1, z2⟩ := hS; go_simp⟩) ⟨z0, z1, z2⟩ ?_
      simp only [List.getElem_toArray, List.getElem_cons_zero, List.getElem_cons_succ, Act.put, List.setIfInBounds_toArray, List.set_cons_zero, List.set_cons_succ]
      refine takeU (i := 2) (v := .pointer (some ⟨w.heap.size, 0, none⟩)) rfl (by rfl) (by kernel_rfl) (by kernel_rfl) (by kernel_rfl) (by kernel_rfl) (by kernel_rfl) (fun _ _ _ h => h) (Or.inl ⟨by rfl, fun w hS => by obtain ⟨z0, z1, z2⟩ := hS; go_simp⟩) ⟨z0, z1, z2⟩ ?_
      simp only [List.getElem_toArray, List.getElem_cons_zero, List.getElem_cons_succ, Act.put, List.setIfInBounds_toArray, List.set_cons_zero, List.set_cons_succ]
      refine takeU (i := 3) (v := .int .i64 (vars : Int)) rfl (by rfl) (by kernel_rfl) (by kernel_rfl) (by kernel_rfl) (by kernel_rfl) (by kernel_rfl) (fun _ _ _ h => h) (Or.inl ⟨by rfl, fun w hS => by obtain ⟨z0, z1, z2⟩ := hS; go_simp⟩) ⟨z0, z1, z2⟩ ?_
      simp only [List.getElem_toArray, List.getElem_cons_zero, List.getElem_cons_succ, Act.put, List.setIfInBounds_toArray, List.set_cons_zero, List.set_cons_succ]
      refine takeU (i := 4) (v := .int .i64 (j : Int)) rfl (by rfl) (by kernel_rfl) (by kernel_rfl) (by kernel_rfl) (by kernel_rfl) (by kernel_rfl) (fun _ _ _ h => h) (Or.inl ⟨by rfl, fun w hS => by obtain ⟨z0, z1, z2⟩ := hS; go_simp⟩) ⟨z0, z1, z2⟩ ?_
      simp only [List.getElem_toArray, List.getElem_cons_zero, List.getElem_cons_succ, Act.put, List.setIfInBounds_toArray, List.set_cons_zero, List.set_cons_succ]
      refine oneU (i := 5) (by kernel_rfl) rfl (by rfl) ?_
      simp only [List.getElem_toArray, List.getElem_cons_zero, List.getElem_cons_succ]
      go_simp
      refine (l11Way_any vars j wr.drew h6 (by omega)).mono ?_
      rintro e w1 ⟨rfl, hb1, hr1⟩
      have HT := hideN (tab_of_rowG (wayL_length vars j) hr1)
      have HB1w : Hid (Below wr.heap.size wr w1) := belNext (below_drewN (Below.refl _ _) 1) hb1
      clear hr1 hb1 z0 z1 z2
      refine ⟨HCL.out w1 HB1w.out, ?_⟩
      obtain ⟨z0, z1, z2⟩ := HCL.out w1 HB1w.out
      refine oneU (i := 6) (by kernel_rfl) rfl (by rfl) ?_
      simp only [List.getElem_toArray, List.getElem_cons_zero, List.getElem_cons_succ]
      go_simp
      refine (HIS.out w1 (belNext hbw.out HB1w.out) _ 0 vars (wayL vars j) (wayL_length vars j) HT.out).mono ?_
      rintro e w2 ⟨rfl, hb2⟩
      have HB2w : Hid (Below wr.heap.size wr w2) := belNext HB1w.out hb2
      clear hb2 HT z0 z1 z2
      refine ⟨HCL.out w2 HB2w.out, ?_⟩
      obtain ⟨z0, z1, z2⟩ := HCL.out (w2.alloc (.cells #[.bool (g (wayL vars j))] 4)) (belNext HB2w.out (belOne _ _))
      have HRV := hideN (row_below (row_below hrow.out HB2w.out) (belOne w2 (.cells #[.bool (g (wayL vars j))] 4)))
      have hwb := hbw.out.size
      have hw2s := HB2w.out.size
      have hbl := hbk.out.lt
      generalize g (wayL vars j) = y at *
      refine oneU (i := 7) (by kernel_rfl) rfl (by rfl) ?_
      simp only [List.getElem_toArray, List.getElem_cons_zero, List.getElem_cons_succ]
      go_simp
      refine oneU (i := 8) (by kernel_rfl) rfl (by rfl) ?_
      simp only [List.getElem_toArray, List.getElem_cons_zero, List.getElem_cons_succ]
      refine wp_append_lies _ (.tmp 13) (.tmp 20) 22 rfl (w.heap.size + 1) 4 ib (.bool false) 1 1 Try.underlying22 hib hz0 hz1 hz2 rfl (by decide) (.slice ao' j cap') j ((tabF vars g j).map Value.bool) rfl HRV.out ⟨w2.heap.size, 0, none⟩ 1 1 [.bool y] rfl rfl (by exact news1G w2 _ _) (by intro u hu; simp at hu; subst hu; rfl) (by decide) (by unfold maxLen; omega) (by omega) (by simp; omega) _ rfl ?_
      intro gg gcap w9 hown9 hgrow9 hat9 hlt9
      have HR9 : Hid (w9.ownsRow (w.heap.size + 1) 4 1 (.slice (some ⟨gg, 0, none⟩) (j + 1) gcap) (j + 1) ((tabF vars g (j + 1)).map Value.bool)) := by
        rw [HTS.out, List.map_append]
        exact hown9
      have hc9 : Chg (fun k => (Value.slice ao' j cap').ownBlock = some k) wr w9 := (Chg.of_below (belNext HB2w.out (belOne w2 (.cells #[.bool y] 4)))).trans (chg_of_grown hgrow9)
      have HB9 : Hid (Below w.heap.size w w9) := Chg.below hbw.out hwb hc9 (fun k e => by have := (World.ownsRow.lt hrow.out k e).1; omega)
      have HK9 : Hid (BlkD w9 w.heap.size (.int .i64 (vars : Int)) (.slice ao n cap) (.int .i64 root)) := (hc9.block _ hbl (fun e => by have := (World.ownsRow.lt hrow.out _ e).1; omega)).trans hbk.out
      clear hown9 hgrow9 hat9 hlt9 hc9 z0 z1 z2
      refine ⟨fun h => by simp at h, ?_⟩
      simp only [Act.put, List.setIfInBounds_toArray, List.set_cons_zero, List.set_cons_succ]
      refine oneU (i := 9) (by kernel_rfl) rfl (by rfl) ?_
      simp only [List.getElem_toArray, List.getElem_cons_zero, List.getElem_cons_succ]
      go_simp
      refine doneU (by kernel_rfl) ?_ _
      go_wp2_with fail
      go_roundw
      case rel => exact ⟨some ⟨gg, 0, none⟩, gcap, j + 1, by omega, by go_num, rfl, HR9, HB9, HK9⟩
      case measure => simp [intOf]; omega
    · obtain rfl : j = M := by omega
      obtain ⟨b, hb'⟩ : ∃ b, ao' = some ⟨b, 0, none⟩ := by
        obtain ⟨g', c', h1, h2, h3⟩ := World.ownsRow.form hrow.out (by omega)
        injection h1 with e1 _ _
        exact ⟨g', e1⟩
      subst hb'
      go_wp2_with fail
      go_ret
      exact ⟨b, cap', rfl, row_base hrow.out (by omega), hbw.out⟩

end Go.Proofs.Ytknpifjkllcdeaa

/-
  A diagram with a variable told, by the model: l11With.
-/
import Derived.Test.YtknpifjkllcdeaaBdWi
namespace Go.Proofs.Ytknpifjkllcdeaa
open Go.RowKit Go.Deep
set_option linter.unusedVariables false

attribute [local go_sem] Oper.semAt_some

set_option maxRecDepth 100000 in
set_option maxHeartbeats 8000000 in
theorem l11With_any (vars u n cap : Nat) (so : Bool) (root : Int) (ao : Option Addr) (ns : List Nd) (w : World) (h6 : vars ≤ 6) (hN : Nds w ao n cap ns) (hn : n ≤ 64) (hok : ∀ i, i < n → nodeB vars ns i = true) (hr0 : 0 ≤ root) (hr1 : root < 2 + (n : Int)) (hu : u < vars) :
    Calls Try.prog 98 #[.agg #[.int .i64 (vars : Int), .slice ao n cap, .int .i64 root], .int .i64 (u : Int), .bool so] w (TabPost vars (fun ws => isN ns root (ws.set u so)) w) := by
  obtain ⟨g, hg⟩ : ∃ g, isN ns root = g := ⟨_, rfl⟩
  obtain ⟨W1, hW1⟩ : ∃ W1, W1 = w.alloc (.cells #[.int .i64 (vars : Int), .slice ao n cap, .int .i64 root] 25) := ⟨_, rfl⟩
  obtain ⟨W2, hW2⟩ : ∃ W2, W2 = W1.alloc (.cells #[] 4) := ⟨_, rfl⟩
  have hs1 : W1.heap.size = w.heap.size + 1 := by rw [hW1]; simp
  have HB1 : Hid (Below w.heap.size w W1) := by rw [hW1]; exact belOne _ _
  have HB2 : Hid (Below w.heap.size w W2) := by rw [hW2]; exact belNext HB1.out (belOne _ _)
  have HK := hideN (show BlkD W2 w.heap.size (.int .i64 (vars : Int)) (.slice ao n cap) (.int .i64 root) by rw [hW2]; exact (show BlkD W1 w.heap.size _ _ _ by rw [hW1]; exact BlkD.new _ _ _ _).below (belOne _ _))
  have HT0 : Hid (W2.ownsRow (w.heap.size + 1) 4 1 (.slice (some ⟨w.heap.size + 1, 0, none⟩) 0 0) 0 ((tabF vars (fun ws => g (ws.set u so)) 0).map Value.bool)) := by
    have h := World.alloc_heap_new W1 (.cells #[] 4)
    rw [← hW2, hs1] at h
    exact ⟨rfl, .inr ⟨w.heap.size + 1, 0, #[], rfl, Nat.le_refl _, h, Nat.le_refl _, by simp, by simp, by simp [tabF]⟩⟩
  have HIS : Hid (∀ (V : World), Below w.heap.size w V → ∀ (Bw off capw : Nat) (ws : List Bool), ws.length = vars → Tab V Bw off capw ws → Calls Try.prog 89 #[.agg #[.int .i64 (vars : Int), .slice ao n cap, .int .i64 root], .slice (some ⟨Bw, off, none⟩) vars capw] V fun e w' => e = .returned (.bool (g ws)) ∧ Below V.heap.size V w') := fun V hV Bw off capw ws hws hT => by
    rw [← hg]
    exact l11Is_any vars n cap root ao ns Bw off capw ws V (hN.below hV) hn hok hr0 hr1 hws hT
  have HSZ := hideN (fun W => l11Size_any vars W h6)
  obtain ⟨M, hM⟩ : ∃ M, 2 ^ vars = M := ⟨_, rfl⟩
  have hM64 : M ≤ 64 := by rw [← hM]; show _ ≤ 2 ^ 6; exact Nat.pow_le_pow_right (by decide) h6
  have hM1 : 1 ≤ M := by rw [← hM]; exact Nat.one_le_two_pow
  unfold TabPost
  rw [hg]
  rw [hM] at HSZ ⊢
  obtain ⟨ib, hib, hz0, hz1, hz2⟩ := info_parts info_bool
  have HW1 := hideN hW1
  have HW2 := hideN hW2
  have HS1 := hideN hs1
  clear hN hok hg hM hW1 hW2 hs1
  go_enter Try.func98, Try.ntmps98
  go_wp2_with fail
  try rw [← HW1.out]
  try rw [← HW2.out]
  try rw [← HS1.out]
  go_loopw [7, 8] (fun o i wr => ∃ (ao' : Option Addr) (cap' j : Nat), j ≤ M ∧ i = .int .i64 (j : Nat) ∧ o = .slice ao' j cap' ∧ Hid (wr.ownsRow (w.heap.size + 1) 4 1 (.slice ao' j cap') j ((tabF vars (fun ws => g (ws.set u so)) j).map Value.bool)) ∧ Hid (Below w.heap.size w wr) ∧ Hid (BlkD wr w.heap.size (.int .i64 (vars : Int)) (.slice ao n cap) (.int .i64 root))) (fun _ i _ => M - (intOf i).toNat)
  case atStart => exact ⟨some ⟨w.heap.size + 1, 0, none⟩, 0, 0, Nat.zero_le _, rfl, by first | rfl | rw [HS1.out], HT0, HB2.out, HK⟩
  case round =>
    obtain ⟨ao', cap', j, hj, rfl, rfl, hrow, hbw, hbk⟩ := hrel
    have c0 := hbk.out.c0
    have c3 := hbk.out.lt
    go_wp2_with fail
    refine (HSZ.out _).mono ?_
    rintro e w' ⟨rfl, hw'⟩
    obtain rfl := hw'.symm
    by_cases hlt : j < M
    · have HTS := hideN (tabF_succ vars (fun ws => g (ws.set u so)) j)
      have HCL := hideN (fun V (hV : Below wr.heap.size wr V) => hbk.out.cells hV)
      have HBW := hideN hbw.out
      go_wp2_with fail
      refine (l11Way_any vars j wr h6 (by omega)).mono ?_
      rintro e w1 ⟨rfl, hb1, hr1⟩
      have q1 := hr1.cell (i := u) (by omega)
      have q2 := hr1.frozen u
      have q3 := hr1.lt
      have hb2 : Below wr.heap.size wr (w1.setCell ⟨wr.heap.size, u, none⟩ (.bool so)) := hb1.setCell (p := ⟨wr.heap.size, u, none⟩) (Nat.le_refl _) _
      have HT : Hid (Tab (w1.setCell ⟨wr.heap.size, u, none⟩ (.bool so)) wr.heap.size 0 vars ((wayL vars j).set u so)) := by
        have hrs := hr1.set u (.bool so)
        refine ⟨by rw [List.length_set, wayL_length]; exact Nat.le_refl _, fun i hi => ?_⟩
        rw [List.length_set, wayL_length] at hi
        rw [Nat.zero_add, hrs.cell (by omega), set_get _ u so i (by rw [wayL_length]; omega)]
        by_cases e : i = u
        · rw [if_pos e, if_pos e]
        · rw [if_neg e, if_neg e]
      have HB1w := hideN hb2
      obtain ⟨y0, y1, y2⟩ := HCL.out _ hb2
      have y3 : w.heap.size < w1.heap.size := by have := hb1.size; omega
      clear hb1 hr1 hb2 c0 c3
      go_wp2_with fail
      obtain ⟨W2, hW2⟩ : ∃ W2, W2 = w1.setCell ⟨wr.heap.size, u, none⟩ (.bool so) := ⟨_, rfl⟩
      rw [← hW2] at HB1w HT
      try rw [← hW2]
      clear q1 q2 q3 hW2 y0 y1 y2 y3
      refine (HIS.out W2 (belNext HBW.out HB1w.out) _ 0 vars ((wayL vars j).set u so) (by rw [List.length_set, wayL_length]) HT.out).mono ?_
      rintro e w2 ⟨rfl, hb2⟩
      have HB2w : Hid (Below wr.heap.size wr w2) := belNext HB1w.out hb2
      clear hb2 HT
      generalize hgy : g ((wayL vars j).set u so) = y at *
      have HRV := hideN (row_below (row_below hrow.out HB2w.out) (belOne w2 (.cells #[.bool y] 4)))
      have hwb := HBW.out.size
      have hw2s := HB2w.out.size
      have hbl := hbk.out.lt
      go_wp2_with (at_builtin; refine wpList_append_lies _ rfl _ _ 22 rfl (w.heap.size + 1) 4 ib (.bool false) 1 1 Try.underlying22 hib hz0 hz1 hz2 rfl (by decide) _ j ((tabF vars (fun ws => g (ws.set u so)) j).map Value.bool) rfl HRV.out ⟨w2.heap.size, 0, none⟩ 1 1 [.bool y] rfl rfl (by exact news1G w2 _ _) (by intro u hu; simp at hu; subst hu; rfl) (by decide) (by unfold maxLen; omega) (by omega) (by simp; omega) _ rfl ?_; intro gg gcap w9 hown9 hgrow9 hat9 hlt9)
      have HR9 : Hid (w9.ownsRow (w.heap.size + 1) 4 1 (.slice (some ⟨gg, 0, none⟩) (j + 1) gcap) (j + 1) ((tabF vars (fun ws => g (ws.set u so)) (j + 1)).map Value.bool)) := by
        rw [HTS.out, List.map_append]
        exact hown9
      have hc9 : Chg (fun k => (Value.slice ao' j cap').ownBlock = some k) wr w9 := (Chg.of_below (belNext HB2w.out (belOne w2 (.cells #[.bool y] 4)))).trans (chg_of_grown hgrow9)
      have HB9 : Hid (Below w.heap.size w w9) := Chg.below HBW.out hwb hc9 (fun k e => by have := (World.ownsRow.lt hrow.out k e).1; omega)
      have HK9 : Hid (BlkD w9 w.heap.size (.int .i64 (vars : Int)) (.slice ao n cap) (.int .i64 root)) := (hc9.block _ hbl (fun e => by have := (World.ownsRow.lt hrow.out _ e).1; omega)).trans hbk.out
      clear hown9 hgrow9 hat9 hlt9 hc9
      go_wp2_with fail
      go_roundw
      case rel => exact ⟨some ⟨gg, 0, none⟩, gcap, j + 1, by omega, by go_num, rfl, HR9, HB9, HK9⟩
      case measure => simp [intOf]; omega
    · obtain rfl : j = M := by omega
      obtain ⟨b, hb'⟩ : ∃ b, ao' = some ⟨b, 0, none⟩ := by
        obtain ⟨g', c', h1, h2, h3⟩ := World.ownsRow.form hrow.out (by omega)
        injection h1 with e1 _ _
        exact ⟨g', e1⟩
      subst hb'
      go_wp2_with fail
      go_ret
      exact ⟨b, cap', rfl, row_base hrow.out (by omega), hbw.out⟩

end Go.Proofs.Ytknpifjkllcdeaa

/-
  A diagram with a variable told, by the model: l11With.
  A diagram with a variable told: BddWith, of the model.
-/
import Derived.Test.YtknpifjkllcdeaaBdWi
namespace Go.Proofs.Ytknpifjkllcdeaa
open Go.RowKit Go.Deep
set_option linter.unusedVariables false

attribute [local go_sem] Oper.semAt_some

set_option maxRecDepth 100000 in
set_option maxHeartbeats 8000000 in
theorem l11With_any (vars u n cap : Nat) (so : Bool) (root : Int) (ao : Option Addr) (ns : List Nd) (w : World) (h6 : vars ≤ 6) (hN : Nds w ao n cap ns) (hn : n ≤ 64) (hok : ∀ i, i < n → nodeB vars ns i = true) (hr0 : 0 ≤ root) (hr1 : root < 2 + (n : Int)) (hu : u < vars) :
    Calls Try.prog 98 #[.agg #[.int .i64 (vars : Int), .slice ao n cap, .int .i64 root], .int .i64 (u : Int), .bool so] w (TabPost vars (fun ws => isN ns root (ws.set u so)) w) := by
  obtain ⟨g, hg⟩ : ∃ g, isN ns root = g := ⟨_, rfl⟩
  obtain ⟨W1, hW1⟩ : ∃ W1, W1 = w.alloc (.cells #[.int .i64 (vars : Int), .slice ao n cap, .int .i64 root] 25) := ⟨_, rfl⟩
  obtain ⟨W2, hW2⟩ : ∃ W2, W2 = W1.alloc (.cells #[] 4) := ⟨_, rfl⟩
  have hs1 : W1.heap.size = w.heap.size + 1 := by rw [hW1]; simp
  have HB1 : Hid (Below w.heap.size w W1) := by rw [hW1]; exact belOne _ _
  have HB2 : Hid (Below w.heap.size w W2) := by rw [hW2]; exact belNext HB1.out (belOne _ _)
  have HK := hideN (show BlkD W2 w.heap.size (.int .i64 (vars : Int)) (.slice ao n cap) (.int .i64 root) by rw [hW2]; exact (show BlkD W1 w.heap.size _ _ _ by rw [hW1]; exact BlkD.new _ _ _ _).below (belOne _ _))
  have HT0 : Hid (W2.ownsRow (w.heap.size + 1) 4 1 (.slice (some ⟨w.heap.size + 1, 0, none⟩) 0 0) 0 ((tabF vars (fun ws => g (ws.set u so)) 0).map Value.bool)) := by
    have h := World.alloc_heap_new W1 (.cells #[] 4)
    rw [← hW2, hs1] at h
    exact ⟨rfl, .inr ⟨w.heap.size + 1, 0, #[], rfl, Nat.le_refl _, h, Nat.le_refl _, by simp, by simp, by simp [tabF]⟩⟩
  have HIS : Hid (∀ (V : World), Below w.heap.size w V → ∀ (Bw off capw : Nat) (ws : List Bool), ws.length = vars → Tab V Bw off capw ws → Calls Try.prog 89 #[.agg #[.int .i64 (vars : Int), .slice ao n cap, .int .i64 root], .slice (some ⟨Bw, off, none⟩) vars capw] V fun e w' => e = .returned (.bool (g ws)) ∧ Below V.heap.size V w') := fun V hV Bw off capw ws hws hT => by
    rw [← hg]
    exact l11Is_any vars n cap root ao ns Bw off capw ws V (hN.below hV) hn hok hr0 hr1 hws hT
  have HSZ := hideN (fun W => l11Size_any vars W h6)
  obtain ⟨M, hM⟩ : ∃ M, 2 ^ vars = M := ⟨_, rfl⟩
  have hM64 : M ≤ 64 := by rw [← hM]; show _ ≤ 2 ^ 6; exact Nat.pow_le_pow_right (by decide) h6
  have hM1 : 1 ≤ M := by rw [← hM]; exact Nat.one_le_two_pow
  unfold TabPost
  rw [hg]
  rw [hM] at HSZ ⊢
  obtain ⟨ib, hib, hz0, hz1, hz2⟩ := info_parts info_bool
  have HW1 := hideN hW1
  have HW2 := hideN hW2
  have HS1 := hideN hs1
  clear hN hok hg hM hW1 hW2 hs1
  go_enter Try.func98, Try.ntmps98
  go_wp2_with fail
  try rw [← HW1.out]
  try rw [← HW2.out]
  try rw [← HS1.out]
  go_loopw [7, 8] (fun o i wr => ∃ (ao' : Option Addr) (cap' j : Nat), j ≤ M ∧ i = .int .i64 (j : Nat) ∧ o = .slice ao' j cap' ∧ Hid (wr.ownsRow (w.heap.size + 1) 4 1 (.slice ao' j cap') j ((tabF vars (fun ws => g (ws.set u so)) j).map Value.bool)) ∧ Hid (Below w.heap.size w wr) ∧ Hid (BlkD wr w.heap.size (.int .i64 (vars : Int)) (.slice ao n cap) (.int .i64 root))) (fun _ i _ => M - (intOf i).toNat)
  case atStart => exact ⟨some ⟨w.heap.size + 1, 0, none⟩, 0, 0, Nat.zero_le _, rfl, by first | rfl | rw [HS1.out], HT0, HB2.out, HK⟩
  case round =>
    obtain ⟨ao', cap', j, hj, rfl, rfl, hrow, hbw, hbk⟩ := hrel
    have c0 := hbk.out.c0
    have c3 := hbk.out.lt
    go_wp2_with fail
    refine (HSZ.out _).mono ?_
    rintro e w' ⟨rfl, hw'⟩
    obtain rfl := hw'.symm
    by_cases hlt : j < M
    · have HTS := hideN (tabF_succ vars (fun ws => g (ws.set u so)) j)
      have HCL := hideN (fun V (hV : Below wr.heap.size wr V) => hbk.out.cells hV)
      have HBW := hideN hbw.out
      go_wp2_with fail
      refine (l11Way_any vars j wr h6 (by omega)).mono ?_
      rintro e w1 ⟨rfl, hb1, hr1⟩
      have q1 := hr1.cell (i := u) (by omega)
      have q2 := hr1.frozen u
      have q3 := hr1.lt
      have hb2 : Below wr.heap.size wr (w1.setCell ⟨wr.heap.size, u, none⟩ (.bool so)) := hb1.setCell (p := ⟨wr.heap.size, u, none⟩) (Nat.le_refl _) _
      have HT : Hid (Tab (w1.setCell ⟨wr.heap.size, u, none⟩ (.bool so)) wr.heap.size 0 vars ((wayL vars j).set u so)) := by
        have hrs := hr1.set u (.bool so)
        refine ⟨by rw [List.length_set, wayL_length]; exact Nat.le_refl _, fun i hi => ?_⟩
        rw [List.length_set, wayL_length] at hi
        rw [Nat.zero_add, hrs.cell (by omega), set_get _ u so i (by rw [wayL_length]; omega)]
        by_cases e : i = u
        · rw [if_pos e, if_pos e]
        · rw [if_neg e, if_neg e]
      have HB1w := hideN hb2
      obtain ⟨y0, y1, y2⟩ := HCL.out _ hb2
      have y3 : w.heap.size < w1.heap.size := by have := hb1.size; omega
      clear hb1 hr1 hb2 c0 c3
      go_wp2_with fail
      obtain ⟨W2, hW2⟩ : ∃ W2, W2 = w1.setCell ⟨wr.heap.size, u, none⟩ (.bool so) := ⟨_, rfl⟩
      rw [← hW2] at HB1w HT
      try rw [← hW2]
      clear q1 q2 q3 hW2 y0 y1 y2 y3
      refine (HIS.out W2 (belNext HBW.out HB1w.out) _ 0 vars ((wayL vars j).set u so) (by rw [List.length_set, wayL_length]) HT.out).mono ?_
      rintro e w2 ⟨rfl, hb2⟩
      have HB2w : Hid (Below wr.heap.size wr w2) := belNext HB1w.out hb2
      clear hb2 HT
      generalize hgy : g ((wayL vars j).set u so) = y at *
      have HRV := hideN (row_below (row_below hrow.out HB2w.out) (belOne w2 (.cells #[.bool y] 4)))
      have hwb := HBW.out.size
      have hw2s := HB2w.out.size
      have hbl := hbk.out.lt
      go_wp2_with (at_builtin; refine wpList_append_lies _ rfl _ _ 22 rfl (w.heap.size + 1) 4 ib (.bool false) 1 1 Try.underlying22 hib hz0 hz1 hz2 rfl (by decide) _ j ((tabF vars (fun ws => g (ws.set u so)) j).map Value.bool) rfl HRV.out ⟨w2.heap.size, 0, none⟩ 1 1 [.bool y] rfl rfl (by exact news1G w2 _ _) (by intro u hu; simp at hu; subst hu; rfl) (by decide) (by unfold maxLen; omega) (by omega) (by simp; omega) _ rfl ?_; intro gg gcap w9 hown9 hgrow9 hat9 hlt9)
      have HR9 : Hid (w9.ownsRow (w.heap.size + 1) 4 1 (.slice (some ⟨gg, 0, none⟩) (j + 1) gcap) (j + 1) ((tabF vars (fun ws => g (ws.set u so)) (j + 1)).map Value.bool)) := by
        rw [HTS.out, List.map_append]
        exact hown9
      have hc9 : Chg (fun k => (Value.slice ao' j cap').ownBlock = some k) wr w9 := (Chg.of_below (belNext HB2w.out (belOne w2 (.cells #[.bool y] 4)))).trans (chg_of_grown hgrow9)
      have HB9 : Hid (Below w.heap.size w w9) := Chg.below HBW.out hwb hc9 (fun k e => by have := (World.ownsRow.lt hrow.out k e).1; omega)
      have HK9 : Hid (BlkD w9 w.heap.size (.int .i64 (vars : Int)) (.slice ao n cap) (.int .i64 root)) := (hc9.block _ hbl (fun e => by have := (World.ownsRow.lt hrow.out _ e).1; omega)).trans hbk.out
      clear hown9 hgrow9 hat9 hlt9 hc9
      go_wp2_with fail
      go_roundw
      case rel => exact ⟨some ⟨gg, 0, none⟩, gcap, j + 1, by omega, by go_num, rfl, HR9, HB9, HK9⟩
      case measure => simp [intOf]; omega
    · obtain rfl : j = M := by omega
      obtain ⟨b, hb'⟩ : ∃ b, ao' = some ⟨b, 0, none⟩ := by
        obtain ⟨g', c', h1, h2, h3⟩ := World.ownsRow.form hrow.out (by omega)
        injection h1 with e1 _ _
        exact ⟨g', e1⟩
      subst hb'
      go_wp2_with fail
      go_ret
      exact ⟨b, cap', rfl, row_base hrow.out (by omega), hbw.out⟩

end Go.Proofs.Ytknpifjkllcdeaa

namespace Go.Proofs.Ytknpifjkllcdeaa
open Go.RowKit Go.Deep
set_option linter.unusedVariables false

attribute [local go_sem] Oper.semAt_some

set_option maxRecDepth 100000 in
set_option maxHeartbeats 8000000 in
theorem specBddWith_any (vi root v : Int) (so : Bool) (ao : Option Addr) (n cap : Nat) (ns : List Nd) (w : World) (hN : Nds w ao n cap ns) (h64 : ∀ q ∈ ns, I64N q) (hr : I64 root) (hnl : n ≤ 4194304) :
    Calls Try.prog 51 #[.agg #[.int .i64 vi, .slice ao n cap, .int .i64 root], .int .i64 v, .bool so] w (AnsPost (ansOf (bddB vi ns root && varB vi v) vi (withT vi ns root v so)) w) := by
  have hmf : ∀ (fn : Fn) (first cap : Array Value) (w : World), (Instr.makeFunc fn first cap).run Try.prog w = .ok (.func fn first cap) w := fun _ _ _ _ => rfl
  obtain ⟨W1, hW1⟩ : ∃ W1, W1 = (w.alloc (.cells #[.int .i64 vi, .slice ao n cap, .int .i64 root] 25)).alloc (.cells #[.int .i64 0, .slice none 0 0, .int .i64 0] 25) := ⟨_, rfl⟩
  have HB1 : Hid (Below w.heap.size w W1) := by rw [hW1]; exact belNext (belOne _ _) (belOne _ _)
  have HK := hideN (show BlkD W1 w.heap.size (.int .i64 vi) (.slice ao n cap) (.int .i64 root) by rw [hW1]; exact (BlkD.new _ _ _ _).below (belOne _ _))
  have HQ : Hid (BlkD W1 (w.heap.size + 1) (.int .i64 0) (.slice none 0 0) (.int .i64 0)) := by
    have h := BlkD.new (w.alloc (.cells #[.int .i64 vi, .slice ao n cap, .int .i64 root] 25)) (.int .i64 0) (.slice none 0 0) (.int .i64 0)
    rw [World.size_alloc, ← hW1] at h
    exact h
  have HOK := hideN (specBddOk_any vi root ao n cap ns W1 (hN.below HB1.out) h64 hr hnl)
  have HN := hideN (fun V (hV : Below w.heap.size w V) => hN.below hV)
  have HLEN := hideN hN.len
  have HW1 := hideN hW1
  have c0 := HK.out.c0
  have c1 := HK.out.c1
  have c2 := HK.out.c2
  have c3 := HK.out.lt
  clear hN hW1 h64 hr
  cases hbd : bddB vi ns root with
  | false =>
    rw [hbd] at HOK
    rw [Bool.false_and]
    clear hbd
    go_enter Try.func51, Try.ntmps51
    go_wp2_with fail
    rw [← HW1.out]
    refine HOK.out.mono ?_
    rintro e w1 ⟨rfl, hb⟩
    have HB := hideN (belNext HB1.out hb)
    have HQ1 := hideN (HQ.out.below hb)
    have m0 := HQ1.out.c0
    have m1 := HQ1.out.c1
    have m2 := HQ1.out.c2
    have m3 := HQ1.out.f 0
    have m4 := HQ1.out.f 1
    have m5 := HQ1.out.f 2
    have m6 := HQ1.out.lt
    clear hb c0 c1 c2 c3
    have HQ2 := hideN (HQ1.out.set (.int .i64 0) (.slice none 0 0) (.int .i64 0))
    have HBE := hideN (set3_below HB.out (show w.heap.size ≤ w.heap.size + 1 by omega) (.int .i64 0) (.slice none 0 0) (.int .i64 0))
    go_wp2
    have u0 := HQ2.out.c0
    have u1 := HQ2.out.c1
    have u2 := HQ2.out.c2
    unfold set3 at u0 u1 u2
    exact bodyPost_ret (v := .agg #[.int .i64 0, .slice none 0 0, .int .i64 0]) (by simp [results, Try.results51, go_sem, u0, u1, u2]) rfl ⟨none, 0, 0, rfl, rfl, World.ownsRow_nil _ _ _ _, HBE.out⟩
  | true =>
  obtain ⟨vars, rfl, h6, hn64, hok, hr0, hr1⟩ := bdd_split hbd
  have hn : n ≤ 64 := by rw [← HLEN.out]; exact hn64
  have hr1n : root < 2 + (n : Int) := by rw [← HLEN.out]; exact hr1
  have HOKN : Hid (∀ i, i < n → nodeB (vars : Int) ns i = true) := fun i hi => hok i (by have := HLEN.out; omega)
  rw [hbd] at HOK
  rw [Bool.true_and]
  clear hbd hok hn64 hr1
  cases hvb : varB (vars : Int) v with
  | false =>
    have HV0 : Hid ((decide (0 ≤ v) && decide (v ≤ (vars : Int) - 1)) = false) := by
      show _ = _
      rw [← hvb]
      unfold varB
      congr 1
      exact decide_eq_decide.2 (by omega)
    clear hvb
    go_enter Try.func51, Try.ntmps51
    go_wp2_with fail
    rw [← HW1.out]
    refine HOK.out.mono ?_
    rintro e w0 ⟨rfl, hb0⟩
    have HB0 := hideN (belNext HB1.out hb0)
    have HK0 := hideN (HK.out.below hb0)
    have HQ0 := hideN (HQ.out.below hb0)
    clear hb0 c0 c1 c2 c3
    have c0 := HK0.out.c0
    have c1 := HK0.out.c1
    have c2 := HK0.out.c2
    have c3 := HK0.out.lt
    go_wp2_with fail
    refine (l1In_any v 0 ((vars : Int) - 1) w0).mono ?_
    rintro e w1 ⟨he, hww⟩
    have hb : Below w0.heap.size w0 w1 := by rw [hww]; exact Below.refl _ _
    clear hww
    rw [HV0.out] at he
    subst he
    have HB := hideN (belNext HB0.out hb)
    have HQ1 := hideN (HQ0.out.below hb)
    have m0 := HQ1.out.c0
    have m1 := HQ1.out.c1
    have m2 := HQ1.out.c2
    have m3 := HQ1.out.f 0
    have m4 := HQ1.out.f 1
    have m5 := HQ1.out.f 2
    have m6 := HQ1.out.lt
    clear hb c0 c1 c2 c3
    have HQ2 := hideN (HQ1.out.set (.int .i64 0) (.slice none 0 0) (.int .i64 0))
    have HBE := hideN (set3_below HB.out (show w.heap.size ≤ w.heap.size + 1 by omega) (.int .i64 0) (.slice none 0 0) (.int .i64 0))
    go_wp2
    have u0 := HQ2.out.c0
    have u1 := HQ2.out.c1
    have u2 := HQ2.out.c2
    unfold set3 at u0 u1 u2
    exact bodyPost_ret (v := .agg #[.int .i64 0, .slice none 0 0, .int .i64 0]) (by simp [results, Try.results51, go_sem, u0, u1, u2]) rfl ⟨none, 0, 0, rfl, rfl, World.ownsRow_nil _ _ _ _, HBE.out⟩
  | true =>
  obtain ⟨hv0, hvv⟩ : 0 ≤ v ∧ v < (vars : Int) := by unfold varB at hvb; simpa using hvb
  obtain ⟨u, rfl⟩ : ∃ u : Nat, v = (u : Int) := ⟨v.toNat, by omega⟩
  have huv : u < vars := by omega
  have HV0 : Hid ((decide (0 ≤ (u : Int)) && decide ((u : Int) ≤ (vars : Int) - 1)) = true) := by
    show _ = _
    rw [← hvb]
    unfold varB
    congr 1
    exact decide_eq_decide.2 (by omega)
  clear hvb hv0 hvv
  have HNT : Hid (withT (vars : Int) ns root (u : Int) so = tabF vars (fun ws => isN ns root (ws.set u so)) (2 ^ vars)) := by show _ = _; unfold withT; rw [Int.toNat_natCast, Int.toNat_natCast]
  have HANS : Hid (∀ t, ansOf true (vars : Int) t = ((vars : Int), (drawB vars 0 t []).1, (drawB vars 0 t []).2)) := fun t => by unfold ansOf; rw [if_pos rfl, Int.toNat_natCast]
  go_enter Try.func51, Try.ntmps51
  go_wp2_with fail
  rw [← HW1.out]
  refine HOK.out.mono ?_
  rintro e w0 ⟨rfl, hb0⟩
  have HB0 := hideN (belNext HB1.out hb0)
  have HK0 := hideN (HK.out.below hb0)
  have HQ0 := hideN (HQ.out.below hb0)
  clear hb0 c0 c1 c2 c3
  have c0 := HK0.out.c0
  have c1 := HK0.out.c1
  have c2 := HK0.out.c2
  have c3 := HK0.out.lt
  go_wp2_with fail
  refine (l1In_any (u : Int) 0 ((vars : Int) - 1) w0).mono ?_
  rintro e w1 ⟨he, hww⟩
  have hb : Below w0.heap.size w0 w1 := by rw [hww]; exact Below.refl _ _
  clear hww
  rw [HV0.out] at he
  subst he
  have HB := hideN (belNext HB0.out hb)
  have HK1 := hideN (HK0.out.below hb)
  have HQ1 := hideN (HQ0.out.below hb)
  clear hb c0 c1 c2 c3
  go_wp2_with fail
  have HCL := hideN (fun V (hV : Below w1.heap.size w1 V) => HK1.out.cells hV)
  obtain ⟨z0, z1, z2⟩ := HCL.out w1.drew (below_drewN (Below.refl _ _) 1)
  refine region_U (fin := 6) (S := fun V => V.cell? ⟨w.heap.size, 0, none⟩ = some (.int .i64 (vars : Int)) ∧ V.cell? ⟨w.heap.size, 1, none⟩ = some (.slice ao n cap) ∧ V.cell? ⟨w.heap.size, 2, none⟩ = some (.int .i64 root)) (by kernel_rfl) ⟨z0, z1, z2⟩ (fun hHeld => ?_)
  clear hHeld
  refine takeU (i := 0) (v := .pointer (some ⟨w.heap.size, 0, none⟩)) rfl (by rfl) (by kernel_rfl) (by kernel_rfl) (by kernel_rfl) (by kernel_rfl) (by kernel_rfl) (fun _ _ _ h => h) (Or.inl ⟨by rfl, fun w hS => by obtain ⟨z0, z1, z2⟩ := hS; go_simp⟩) ⟨z0, z1, z2⟩ ?_
  simp only [List.getElem_toArray, List.getElem_cons_zero, Act.put, List.setIfInBounds_toArray, List.set_cons_zero, List.set_cons_succ]
  refine takeU (i := 1) (v := .int .i64 (vars : Int)) rfl (by rfl) (by kernel_rfl) (by kernel_rfl) (by kernel_rfl) (by kernel_rfl) (by kernel_rfl) (fun _ _ _ h => h) (Or.inl ⟨by rfl, fun w hS => by obtain ⟨z0, z1, z2⟩ := hS; go_simp⟩) ⟨z0, z1, z2⟩ ?_
  simp only [List.getElem_toArray, List.getElem_cons_zero, List.getElem_cons_succ, Act.put, List.setIfInBounds_toArray, List.set_cons_zero, List.set_cons_succ]
  refine takeU (i := 2) (v := .agg #[.int .i64 (vars : Int), .slice ao n cap, .int .i64 root]) rfl (by rfl) (by kernel_rfl) (by kernel_rfl) (by kernel_rfl) (by kernel_rfl) (by kernel_rfl) (fun _ _ _ h => h) (Or.inl ⟨by rfl, fun w hS => by obtain ⟨z0, z1, z2⟩ := hS; go_simp⟩) ⟨z0, z1, z2⟩ ?_
  simp only [List.getElem_toArray, List.getElem_cons_zero, List.getElem_cons_succ, Act.put, List.setIfInBounds_toArray, List.set_cons_zero, List.set_cons_succ]
  refine takeU (i := 3) (v := .int .i64 (u : Int)) rfl (by rfl) (by kernel_rfl) (by kernel_rfl) (by kernel_rfl) (by kernel_rfl) (by kernel_rfl) (fun _ _ _ h => h) (Or.inl ⟨by rfl, fun w hS => by obtain ⟨z0, z1, z2⟩ := hS; go_simp⟩) ⟨z0, z1, z2⟩ ?_
  simp only [List.getElem_toArray, List.getElem_cons_zero, List.getElem_cons_succ, Act.put, List.setIfInBounds_toArray, List.set_cons_zero, List.set_cons_succ]
  refine takeU (i := 4) (v := .bool so) rfl (by rfl) (by kernel_rfl) (by kernel_rfl) (by kernel_rfl) (by kernel_rfl) (by kernel_rfl) (fun _ _ _ h => h) (Or.inl ⟨by rfl, fun w hS => by obtain ⟨z0, z1, z2⟩ := hS; go_simp⟩) ⟨z0, z1, z2⟩ ?_
  simp only [List.getElem_toArray, List.getElem_cons_zero, List.getElem_cons_succ, Act.put, List.setIfInBounds_toArray, List.set_cons_zero, List.set_cons_succ]
  refine oneU (i := 5) (by kernel_rfl) rfl (by rfl) ?_
  simp only [List.getElem_toArray, List.getElem_cons_zero, List.getElem_cons_succ]
  go_simp
  have hbd := below_drewN (Below.refl w1.heap.size w1) 1
  have HB2 := hideN (belNext HB.out hbd)
  refine (l11With_any vars u n cap so root ao ns w1.drew h6 (HN.out _ HB2.out) hn HOKN.out hr0 hr1n huv).mono ?_
  rintro e w4 hp
  obtain ⟨b4, k4, rfl, ht4, hlt4, hb4⟩ := tab_of_post hp
  have hb34 : Below w1.heap.size w1 w4 := belNext hbd hb4
  have HB4 := hideN (belNext HB.out hb34)
  have HQ4 := hideN (HQ1.out.below hb34)
  have HT4 := hideN ht4
  refine ⟨HCL.out w4 hb34, ?_⟩
  clear hb4 hb34 z0 z1 z2 hp ht4 hbd
  rw [← HNT.out] at HT4
  have HTL : Hid ((withT (vars : Int) ns root (u : Int) so).length = 2 ^ vars) := by show _ = _; rw [HNT.out, tabF_length]
  generalize withT (vars : Int) ns root (u : Int) so = T at *
  have HA := hideN (HANS.out T)
  clear HANS
  obtain ⟨M, hM⟩ : ∃ M, 2 ^ vars = M := ⟨_, rfl⟩
  rw [hM] at HTL ⊢
  have HM := hideN hM.symm
  clear hM
  refine oneU (i := 6) (by kernel_rfl) rfl (by rfl) ?_
  simp only [List.getElem_toArray, List.getElem_cons_zero, List.getElem_cons_succ]
  go_simp
  refine (l11Of_any vars b4 0 k4 M T w4 h6 HTL.out HM.out HT4.out hlt4).mono ?_
  rintro e w5 ⟨aa, n5, c5, rfl, hn5, hr5, hb5⟩
  have HQ5 := hideN (HQ4.out.below hb5)
  have HB5 := hideN (belNext HB4.out hb5)
  have HL5 := hideN hn5
  generalize (drawB vars 0 T []).2 = x at *
  generalize (drawB vars 0 T []).1 = l at *
  have m0 := HQ5.out.c0
  have m1 := HQ5.out.c1
  have m2 := HQ5.out.c2
  have m3 := HQ5.out.f 0
  have m4 := HQ5.out.f 1
  have m5 := HQ5.out.f 2
  have m6 := HQ5.out.lt
  have HQ6 := hideN (HQ5.out.set (.int .i64 (vars : Int)) (.slice aa n5 c5) (.int .i64 x))
  have HR6 : Hid ((set3 w5 (w.heap.size + 1) (.int .i64 (vars : Int)) (.slice aa n5 c5) (.int .i64 x)).ownsRow w.heap.size 50 3 (.slice aa n5 c5) n5 (ndV l)) :=
    row_base (row_of_block hr5 (fun k e => set3_other _ _ _ (by have := (World.ownsRow.lt hr5 k e).1; have := HQ4.out.lt; omega))) HB4.out.size
  have HBE := hideN (set3_below HB5.out (show w.heap.size ≤ w.heap.size + 1 by omega) (.int .i64 (vars : Int)) (.slice aa n5 c5) (.int .i64 x))
  clear hr5 hb5 hn5
  refine oneU (i := 7) (by kernel_rfl) rfl (by rfl) ?_
  simp only [List.getElem_toArray, List.getElem_cons_zero, List.getElem_cons_succ]
  go_simp
  refine doneU (by kernel_rfl) ?_ _
  go_wp2
  have u0 := HQ6.out.c0
  have u1 := HQ6.out.c1
  have u2 := HQ6.out.c2
  unfold set3 at u0 u1 u2
  exact bodyPost_ret (v := .agg #[.int .i64 (vars : Int), .slice aa n5 c5, .int .i64 x]) (by simp [results, Try.results51, go_sem, u0, u1, u2]) rfl (by unfold AnsPost; rw [HA.out]; exact ⟨aa, n5, c5, rfl, HL5.out, HR6.out, HBE.out⟩)

end Go.Proofs.Ytknpifjkllcdeaa

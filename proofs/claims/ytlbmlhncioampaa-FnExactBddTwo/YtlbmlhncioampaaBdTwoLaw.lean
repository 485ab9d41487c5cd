/-
  The law FnExactBddTwo: at every text and two diagrams the program's BddTwo answers as the model's, writes into no argument, and its answer owns its memory. No condition: every argument that can be read.
-/
import Derived.Test.YtlbmlhncioampaaTwoN
import Derived.Test.YtlbmlhncioampaaBdTv
import Derived.Test.YtlbmlhncioampaaOpenB
import Derived.Deep.DeepCutAuto
namespace Go.Proofs.Ytlbmlhncioampaa
open Go.ChangeShapes Go.WideShapes Go.ChangeAt Go.RowKit Go.Deep Go.Joins
set_option linter.unusedVariables false

attribute [local go_sem] Oper.semAt_some

set_option maxRecDepth 100000 in
set_option maxHeartbeats 16000000 in
theorem fnExactBddTwo_walk (sg : ByteArray) (va ra vb rb : Int) (ao bo : Option Addr) (n cap n2 cap2 : Nat) (na nb : List Nd) (w : World) (hsz : sg.size ≤ maxLen) (hN : Nds w ao n cap na) (hml : n ≤ maxLen) (h64 : ∀ p ∈ na, I64N p) (hr : I64 ra) (hN2 : Nds w bo n2 cap2 nb) (hml2 : n2 ≤ maxLen) (h642 : ∀ p ∈ nb, I64N p) (hr2 : I64 rb) :
    Calls Try.prog 8 #[.string sg, .agg #[.int .i64 va, .slice ao n cap, .int .i64 ra], .agg #[.int .i64 vb, .slice bo n2 cap2, .int .i64 rb]] w fun e w' => e = .returned (.bool true) ∧ Below w.heap.size w w' := by
  unfold maxLen at hsz
  have HN : Hid (∀ w', Below w.heap.size w w' → Nds w' ao n cap na) := fun w' h => hN.below h
  have HN2 : Hid (∀ w', Below w.heap.size w w' → Nds w' bo n2 cap2 nb) := fun w' h => hN2.below h
  have HL := hideN hN.len
  have HL2 := hideN hN2.len
  have hll := twoT_le (sg := sg) (va := va) (na := na) (ra := ra) (vb := vb) (nb := nb) (rb := rb)
  obtain ⟨f, hf⟩ : ∃ f, twoB sg va na ra vb nb rb = f := ⟨_, rfl⟩
  obtain ⟨A, hA⟩ : ∃ A, ansOf (twoB sg va na ra vb nb rb) va (twoT (twoOp sg) va na ra nb rb) = A := ⟨_, rfl⟩
  rw [hA] at hll
  obtain ⟨fv, l, fr⟩ := A
  obtain ⟨m, hm⟩ : ∃ m, l.length = m := ⟨_, rfl⟩
  have HMM := hideN hm
  have hm64 : m ≤ 64 := by rw [← hm]; exact hll
  have HSP : Hid (∀ (W : World) (b b2 : Nat), n ≤ 1048576 → n2 ≤ 1048576 → Nds W (some ⟨b, 0, none⟩) n n na → Nds W (some ⟨b2, 0, none⟩) n2 n2 nb → Calls Try.prog 33 #[.string sg, .agg #[.int .i64 va, .slice (some ⟨b, 0, none⟩) n n, .int .i64 ra], .agg #[.int .i64 vb, .slice (some ⟨b2, 0, none⟩) n2 n2, .int .i64 rb]] W fun e w' => ∃ a c, e = .returned (.tuple #[.agg #[.int .i64 fv, .slice a m c, .int .i64 fr], .bool f]) ∧ w'.ownsRow W.heap.size 68 3 (.slice a m c) m (ndV l) ∧ Below W.heap.size W w') := fun W b b2 hn hn2 hW hW2 => by
    have h := specBddTwo_any sg va ra vb rb _ _ n n n2 n2 na nb W hW h64 hr hW2 h642 hr2 (by omega) (by omega)
    rw [hA, hf] at h
    refine h.mono ?_
    rintro e w' ⟨a, m', c, rfl, h1, h2, h3⟩
    have e1 : m' = m := h1.symm.trans hm
    subst e1
    exact ⟨a, c, rfl, h2, h3⟩
  have HIP : Hid (∀ (W : World) (b b2 : Nat), Nds W (some ⟨b, 0, none⟩) n n na → Nds W (some ⟨b2, 0, none⟩) n2 n2 nb → Calls Try.prog 34 #[.string sg, .agg #[.int .i64 va, .slice (some ⟨b, 0, none⟩) n n, .int .i64 ra], .agg #[.int .i64 vb, .slice (some ⟨b2, 0, none⟩) n2 n2, .int .i64 rb]] W fun e w' => ∃ a c, e = .returned (.tuple #[.agg #[.int .i64 fv, .slice a m c, .int .i64 fr], .bool f]) ∧ w'.ownsRow W.heap.size 68 3 (.slice a m c) m (ndV l) ∧ Below W.heap.size W w') := fun W b b2 hW hW2 => by
    have h := implBddTwo_any sg va ra vb rb _ _ n n n2 n2 na nb W hW h64 hr hW2 h642 hr2
    rw [hA, hf] at h
    refine h.mono ?_
    rintro e w' ⟨a, m', c, rfl, h1, h2, h3⟩
    have e1 : m' = m := h1.symm.trans hm
    subst e1
    exact ⟨a, c, rfl, h2, h3⟩
  have HEQ : Hid (∀ (W : World) (a1 a2 : Option Addr) (c1 c2 lo1 lo2 : Nat), W.ownsRow lo1 68 3 (.slice a1 m c1) m (ndV l) → W.ownsRow lo2 68 3 (.slice a2 m c2) m (ndV l) → Calls Try.prog 18 #[.agg #[.int .i64 fv, .slice a1 m c1, .int .i64 fr], .agg #[.int .i64 fv, .slice a2 m c2, .int .i64 fr]] W fun e w' => e = .returned (.bool true) ∧ Below W.heap.size W w') := fun W a1 a2 c1 c2 lo1 lo2 h1 h2 =>
    eqBdd_same fv fr a1 a2 m c1 c2 l W (isNds_row h1 HMM.out) (isNds_row h2 HMM.out) (by have := HMM.out; omega)
  have hfe : (f == f) = true := by simp
  have hfn : (f != f) = false := by simp
  obtain ⟨W1, hW1⟩ : ∃ W1, W1 = (w.alloc (.cells #[.int .i64 va, .slice ao n cap, .int .i64 ra] 24)).alloc (.cells #[.int .i64 vb, .slice bo n2 cap2, .int .i64 rb] 24) := ⟨_, rfl⟩
  have HB1 : Hid (Below w.heap.size w W1) := by rw [hW1]; exact belNext (belOne _ _) (belOne _ _)
  have HT1 : Hid (BlkL W1 w.heap.size (.int .i64 va) (.slice ao n cap) (.int .i64 ra)) := by rw [hW1]; exact (BlkL.new _ _ _ _).below (belOne _ _)
  have HU1 : Hid (BlkL W1 (w.heap.size + 1) (.int .i64 vb) (.slice bo n2 cap2) (.int .i64 rb)) := by
    have h := BlkL.new (w.alloc (.cells #[.int .i64 va, .slice ao n cap, .int .i64 ra] 24)) (.int .i64 vb) (.slice bo n2 cap2) (.int .i64 rb)
    rw [World.size_alloc, ← hW1] at h
    exact h
  have HW1 := hideN hW1
  have HSZ := hideN (szBdd_any va ra ao n cap 1048576 W1 hml (by omega) (by omega))
  have HSZ2 := hideN (fun (W : World) (h : n ≤ 1048576) => szBdd_any vb rb bo n2 cap2 (1048576 - (n : Int)) W hml2 (by omega) (by omega))
  clear hN h64 hr hW1 hm hA hll hN2 h642 hr2 hf
  by_cases hsg : sg.size ≤ 1048576
  case neg =>
    have d1 : decide ((1048576 : Int) < (sg.size : Int)) = true := by simp; omega
    go_enter Try.func8, Try.ntmps8
    go_wp2_with fail
    rw [← HW1.out]
    go_ret
    exact ⟨rfl, HB1.out⟩
  have d1 : decide ((1048576 : Int) < (sg.size : Int)) = false := by simp; omega
  by_cases hbig : n ≤ 1048576
  case neg =>
    have HZ : Hid ((if (n : Int) ≤ 1048576 then 1048576 - (n : Int) else -1) = -1) := by show _ = _; rw [if_neg (by omega)]
    go_enter Try.func8, Try.ntmps8
    go_wp2_with fail
    rw [← HW1.out]
    refine HSZ.out.mono ?_
    rintro e w2 ⟨rfl, hb2⟩
    have HB2 := hideN (belNext HB1.out hb2)
    clear hb2
    rw [HZ.out]
    go_wp2
    go_ret
    exact ⟨rfl, HB2.out⟩
  have HZ : Hid ((if (n : Int) ≤ 1048576 then 1048576 - (n : Int) else -1) = 1048576 - (n : Int)) := by show _ = _; rw [if_pos (by omega)]
  have hk0 : decide ((1048576 : Int) - (n : Int) < 0) = false := by simp; omega
  by_cases hbig3 : n2 ≤ 1048576 - n
  case neg =>
    have HZ2 : Hid ((if (n2 : Int) ≤ 1048576 - (n : Int) then 1048576 - (n : Int) - (n2 : Int) else -1) = -1) := by show _ = _; rw [if_neg (by omega)]
    go_enter Try.func8, Try.ntmps8
    go_wp2_with fail
    rw [← HW1.out]
    refine HSZ.out.mono ?_
    rintro e w2 ⟨rfl, hb2⟩
    have HB2 := hideN (belNext HB1.out hb2)
    have HU2 := hideN (HU1.out.below hb2)
    clear hb2
    rw [HZ.out]
    have c0 := HU2.out.c0
    have c1 := HU2.out.c1
    have c2 := HU2.out.c2
    have c3 := HU2.out.lt
    go_wp2_with fail
    refine (HSZ2.out w2 hbig).mono ?_
    rintro e w3 ⟨rfl, hb3⟩
    have HB3 := hideN (belNext HB2.out hb3)
    clear hb3 c0 c1 c2 c3
    rw [HZ2.out]
    go_wp2
    go_ret
    exact ⟨rfl, HB3.out⟩
  have HZ2 : Hid ((if (n2 : Int) ≤ 1048576 - (n : Int) then 1048576 - (n : Int) - (n2 : Int) else -1) = 1048576 - (n : Int) - (n2 : Int)) := by show _ = _; rw [if_pos (by omega)]
  have hk1 : decide ((1048576 : Int) - (n : Int) - (n2 : Int) < 0) = false := by simp; omega
  have hbig2 : n2 ≤ 1048576 := by omega
  have HSPB : Hid (∀ (W : World) (b b2 : Nat), Nds W (some ⟨b, 0, none⟩) n n na → Nds W (some ⟨b2, 0, none⟩) n2 n2 nb → Calls Try.prog 33 #[.string sg, .agg #[.int .i64 va, .slice (some ⟨b, 0, none⟩) n n, .int .i64 ra], .agg #[.int .i64 vb, .slice (some ⟨b2, 0, none⟩) n2 n2, .int .i64 rb]] W fun e w' => ∃ a c, e = .returned (.tuple #[.agg #[.int .i64 fv, .slice a m c, .int .i64 fr], .bool f]) ∧ w'.ownsRow W.heap.size 68 3 (.slice a m c) m (ndV l) ∧ Below W.heap.size W w') := fun W b b2 h1 h2 => HSP.out W b b2 hbig hbig2 h1 h2
  clear HSP
  go_enter Try.func8, Try.ntmps8
  go_wp2_with fail
  rw [← HW1.out]
  refine HSZ.out.mono ?_
  rintro e w2 ⟨rfl, hb2⟩
  have HB2 := hideN (belNext HB1.out hb2)
  have HT2 := hideN (HT1.out.below hb2)
  have HU2 := hideN (HU1.out.below hb2)
  clear hb2
  rw [HZ.out]
  have c0 := HU2.out.c0
  have c1 := HU2.out.c1
  have c2 := HU2.out.c2
  have c3 := HU2.out.lt
  go_wp2_with fail
  refine (HSZ2.out w2 hbig).mono ?_
  rintro e w3 ⟨rfl, hb3⟩
  have HB3 := hideN (belNext HB2.out hb3)
  have HT3 := hideN (HT2.out.below hb3)
  have HU3 := hideN (HU2.out.below hb3)
  clear hb3 c0 c1 c2 c3
  rw [HZ2.out]
  go_wp2_with fail
  clear hk0 hk1
  have HS3 : Hid (w.heap.size + 1 < w3.heap.size) := HU3.out.lt
  go_cut [8, 9] (fun s8 s9 wc => ∃ q aw cw, s8 = .pointer (some ⟨q, 0, none⟩) ∧ s9 = .bool f ∧ Hid (BlkD wc q (.int .i64 fv) (.slice aw m cw) (.int .i64 fr)) ∧ Hid (wc.ownsRow 0 68 3 (.slice aw m cw) m (ndV l)) ∧ Hid (Below w3.heap.size w3 wc) ∧ w3.heap.size ≤ q)
  case first =>
    have HCL := hideN (fun V (hV : Below w3.heap.size w3 V) => (⟨⟨(HT3.out.below hV).c0, (HT3.out.below hV).c1, (HT3.out.below hV).c2⟩, (HU3.out.below hV).c0, (HU3.out.below hV).c1, (HU3.out.below hV).c2⟩ : (_ ∧ _ ∧ _) ∧ (_ ∧ _ ∧ _)))
    have hda := below_drewN (Below.refl w3.heap.size w3) 1
    obtain ⟨⟨z0, z1, z2⟩, y0, y1, y2⟩ := HCL.out w3.drew hda
    refine region_U (fin := 11) (S := fun V => V.cell? ⟨w.heap.size, 0, none⟩ = some (.int .i64 va) ∧ V.cell? ⟨w.heap.size, 1, none⟩ = some (.slice ao n cap) ∧ V.cell? ⟨w.heap.size, 2, none⟩ = some (.int .i64 ra) ∧ V.cell? ⟨w.heap.size + 1, 0, none⟩ = some (.int .i64 vb) ∧ V.cell? ⟨w.heap.size + 1, 1, none⟩ = some (.slice bo n2 cap2) ∧ V.cell? ⟨w.heap.size + 1, 2, none⟩ = some (.int .i64 rb)) (by kernel_rfl) ⟨z0, z1, z2, y0, y1, y2⟩ (fun hHeld => ?_)
    clear hHeld
    refine takeU (i := 0) (v := .string sg) rfl (by rfl) (by kernel_rfl) (by kernel_rfl) (by kernel_rfl) (by kernel_rfl) (by kernel_rfl) (fun _ _ _ h => h) (Or.inl ⟨by rfl, fun w hS => by obtain ⟨z0, z1, z2, y0, y1, y2⟩ := hS; go_simp⟩) ⟨z0, z1, z2, y0, y1, y2⟩ ?_
    simp only [List.getElem_toArray, List.getElem_cons_zero, Act.put, List.setIfInBounds_toArray, List.set_cons_zero, List.set_cons_succ]
    refine takeU (i := 1) (v := .agg #[.int .i64 va, .slice ao n cap, .int .i64 ra]) rfl (by rfl) (by kernel_rfl) (by kernel_rfl) (by kernel_rfl) (by kernel_rfl) (by kernel_rfl) (fun _ _ _ h => h) (Or.inl ⟨by rfl, fun w hS => by obtain ⟨z0, z1, z2, y0, y1, y2⟩ := hS; go_simp⟩) ⟨z0, z1, z2, y0, y1, y2⟩ ?_
    simp only [List.getElem_toArray, List.getElem_cons_zero, List.getElem_cons_succ, Act.put, List.setIfInBounds_toArray, List.set_cons_zero, List.set_cons_succ]
    refine takeU (i := 3) (v := .agg #[.int .i64 vb, .slice bo n2 cap2, .int .i64 rb]) rfl (by rfl) (by kernel_rfl) (by kernel_rfl) (by kernel_rfl) (by kernel_rfl) (by kernel_rfl) (fun _ _ _ h => h) (Or.inl ⟨by rfl, fun w hS => by obtain ⟨z0, z1, z2, y0, y1, y2⟩ := hS; go_simp⟩) ⟨z0, z1, z2, y0, y1, y2⟩ ?_
    simp only [List.getElem_toArray, List.getElem_cons_zero, List.getElem_cons_succ, Act.put, List.setIfInBounds_toArray, List.set_cons_zero, List.set_cons_succ]
    refine twoU (i := 2) (j := 9) (by kernel_rfl) rfl rfl (by rfl) (by rfl) ?_ ?_
    · simp only [List.getElem_toArray, List.getElem_cons_zero, List.getElem_cons_succ]
      go_simp
      refine (toBdd_any va ra ao n cap na w3.drew (HN.out _ (belNext HB3.out hda)) hbig).mono ?_
      rintro e Va1 ⟨bpa4, rfl, hba2, _, hna5⟩
      have HPa6 := hideN hna5
      have ha3 : Below w3.heap.size w3 Va1 := belNext hda hba2
      obtain ⟨⟨z0, z1, z2⟩, y0, y1, y2⟩ := HCL.out Va1 ha3
      refine ⟨⟨z0, z1, z2, y0, y1, y2⟩, ?_⟩
      refine twoU (i := 4) (j := 9) (by kernel_rfl) rfl rfl (by rfl) (by rfl) ?_ ?_
      · simp only [List.getElem_toArray, List.getElem_cons_zero, List.getElem_cons_succ]
        go_simp
        refine (toBdd_any vb rb bo n2 cap2 nb Va1 (HN2.out _ (belNext HB3.out ha3)) hbig2).mono ?_
        rintro e Va7 ⟨bra10, rfl, hba8, _, hna11⟩
        have HPa12 := hideN (HPa6.out.below hba8)
        have HRa13 := hideN hna11
        have ha9 : Below w3.heap.size w3 Va7 := belNext ha3 hba8
        obtain ⟨⟨z0, z1, z2⟩, y0, y1, y2⟩ := HCL.out Va7 ha9
        refine ⟨⟨z0, z1, z2, y0, y1, y2⟩, ?_⟩
        refine twoU (i := 5) (j := 9) (by kernel_rfl) rfl rfl (by rfl) (by rfl) ?_ ?_
        · simp only [List.getElem_toArray, List.getElem_cons_zero, List.getElem_cons_succ]
          go_simp
          refine (HSPB.out Va7 bpa4 bra10 HPa12.out HRa13.out).mono ?_
          rintro e Va14 ⟨aa17, ca18, rfl, hra19, hba15⟩
          have HWa21 := hideN hra19
          have ha16 : Below w3.heap.size w3 Va14 := belNext ha9 hba15
          obtain ⟨⟨z0, z1, z2⟩, y0, y1, y2⟩ := HCL.out Va14 ha16
          refine ⟨⟨z0, z1, z2, y0, y1, y2⟩, ?_⟩
          refine takeU (i := 6) (v := .tuple #[.agg #[.int .i64 fv, .slice aa17 m ca18, .int .i64 fr], .bool f]) rfl (by rfl) (by kernel_rfl) (by kernel_rfl) (by kernel_rfl) (by kernel_rfl) (by kernel_rfl) (fun _ _ _ h => h) (Or.inl ⟨by rfl, fun w hS => by obtain ⟨z0, z1, z2, y0, y1, y2⟩ := hS; go_simp⟩) ⟨z0, z1, z2, y0, y1, y2⟩ ?_
          simp only [List.getElem_toArray, List.getElem_cons_zero, List.getElem_cons_succ, Act.put, List.setIfInBounds_toArray, List.set_cons_zero, List.set_cons_succ]
          refine takeU (i := 7) (v := .agg #[.int .i64 fv, .slice aa17 m ca18, .int .i64 fr]) rfl (by rfl) (by kernel_rfl) (by kernel_rfl) (by kernel_rfl) (by kernel_rfl) (by kernel_rfl) (fun _ _ _ h => h) (Or.inl ⟨by rfl, fun w hS => by obtain ⟨z0, z1, z2, y0, y1, y2⟩ := hS; go_simp⟩) ⟨z0, z1, z2, y0, y1, y2⟩ ?_
          simp only [List.getElem_toArray, List.getElem_cons_zero, List.getElem_cons_succ, Act.put, List.setIfInBounds_toArray, List.set_cons_zero, List.set_cons_succ]
          refine takeU (i := 8) (v := .bool f) rfl (by rfl) (by kernel_rfl) (by kernel_rfl) (by kernel_rfl) (by kernel_rfl) (by kernel_rfl) (fun _ _ _ h => h) (Or.inl ⟨by rfl, fun w hS => by obtain ⟨z0, z1, z2, y0, y1, y2⟩ := hS; go_simp⟩) ⟨z0, z1, z2, y0, y1, y2⟩ ?_
          simp only [List.getElem_toArray, List.getElem_cons_zero, List.getElem_cons_succ, Act.put, List.setIfInBounds_toArray, List.set_cons_zero, List.set_cons_succ]
          refine oneU (i := 9) (by kernel_rfl) rfl (by rfl) ?_
          simp only [List.getElem_toArray, List.getElem_cons_zero, List.getElem_cons_succ]
          go_simp
          obtain ⟨Va22, hVa25⟩ : ∃ V', V' = Va14.alloc (.cells #[.int .i64 0, .slice none 0 0, .int .i64 0] 29) := ⟨_, rfl⟩
          try rw [← hVa25]
          have hba23 : Below Va14.heap.size Va14 Va22 := by rw [hVa25]; exact belOne _ _
          have HQa28 : Hid (BlkD Va22 Va14.heap.size (.int .i64 0) (.slice none 0 0) (.int .i64 0)) := by rw [hVa25]; exact BlkD.new _ _ _ _
          have hqa27 : w3.heap.size ≤ Va14.heap.size := ha16.size
          have HNEa29 : Hid (∀ k, (Value.slice aa17 m ca18).ownBlock = some k → k ≠ Va14.heap.size) := fun k e => by have := (World.ownsRow.lt HWa21.out k e).2; omega
          have ha24 : Below w3.heap.size w3 Va22 := belNext ha16 hba23
          have HWa30 := hideN (row_below HWa21.out hba23)
          clear hVa25 hba23
          generalize Va14.heap.size = qa26 at *
          obtain ⟨⟨z0, z1, z2⟩, y0, y1, y2⟩ := HCL.out Va22 ha24
          refine ⟨⟨z0, z1, z2, y0, y1, y2⟩, ?_⟩
          have m0 := HQa28.out.c0
          have m1 := HQa28.out.c1
          have m2 := HQa28.out.c2
          have m3 := HQa28.out.f 0
          have m4 := HQa28.out.f 1
          have m5 := HQa28.out.f 2
          have m6 := HQa28.out.lt
          have HQZ := hideN (HQa28.out.set (.int .i64 fv) (.slice aa17 m ca18) (.int .i64 fr))
          have HRZ : Hid ((set3 Va22 qa26 (.int .i64 fv) (.slice aa17 m ca18) (.int .i64 fr)).ownsRow 0 68 3 (.slice aa17 m ca18) m (ndV l)) := row_base (row_of_block HWa30.out (fun k e => set3_other _ _ _ (HNEa29.out k e))) (Nat.zero_le _)
          have HBZ := hideN (set3_below ha24 hqa27 (.int .i64 fv) (.slice aa17 m ca18) (.int .i64 fr))
          have n1 : w.heap.size ≠ qa26 := by have := hqa27; have := HS3.out; omega
          have n2 : qa26 ≠ w.heap.size := by have := hqa27; have := HS3.out; omega
          have n3 : w.heap.size + 1 ≠ qa26 := by have := hqa27; have := HS3.out; omega
          have n4 : qa26 ≠ w.heap.size + 1 := by have := hqa27; have := HS3.out; omega
          refine oneU (i := 10) (by kernel_rfl) rfl (by rfl) ?_
          simp only [List.getElem_toArray, List.getElem_cons_zero, List.getElem_cons_succ]
          go_simp
          refine oneU (i := 11) (by kernel_rfl) rfl (by rfl) ?_
          simp only [List.getElem_toArray, List.getElem_cons_zero, List.getElem_cons_succ]
          go_simp
          refine doneU (by kernel_rfl) ?_ _
          go_wp2_with fail
          go_meet
          case rel => exact ⟨qa26, aa17, ca18, rfl, rfl, HQZ, HRZ, HBZ, hqa27⟩
        · simp only [List.getElem_toArray, List.getElem_cons_zero, List.getElem_cons_succ]
          go_simp
          obtain ⟨Va31, hVa34⟩ : ∃ V', V' = Va7.alloc (.cells #[.int .i64 0, .slice none 0 0, .int .i64 0] 29) := ⟨_, rfl⟩
          try rw [← hVa34]
          have hba32 : Below Va7.heap.size Va7 Va31 := by rw [hVa34]; exact belOne _ _
          have HQa37 : Hid (BlkD Va31 Va7.heap.size (.int .i64 0) (.slice none 0 0) (.int .i64 0)) := by rw [hVa34]; exact BlkD.new _ _ _ _
          have hqa36 : w3.heap.size ≤ Va7.heap.size := ha9.size
          have ha33 : Below w3.heap.size w3 Va31 := belNext ha9 hba32
          have HPa38 := hideN (HPa12.out.below hba32)
          have HRa39 := hideN (HRa13.out.below hba32)
          clear hVa34 hba32
          generalize Va7.heap.size = qa35 at *
          obtain ⟨⟨z0, z1, z2⟩, y0, y1, y2⟩ := HCL.out Va31 ha33
          refine ⟨⟨z0, z1, z2, y0, y1, y2⟩, ?_⟩
          refine oneU (i := 5) (by kernel_rfl) rfl (by rfl) ?_
          simp only [List.getElem_toArray, List.getElem_cons_zero, List.getElem_cons_succ]
          go_simp
          refine (HSPB.out Va31 bpa4 bra10 HPa38.out HRa39.out).mono ?_
          rintro e Va40 ⟨aa43, ca44, rfl, hra45, hba41⟩
          have HNEa46 : Hid (∀ k, (Value.slice aa43 m ca44).ownBlock = some k → k ≠ qa35) := fun k e => by have := (World.ownsRow.lt hra45 k e).1; have := HQa37.out.lt; omega
          have HQa47 := hideN (HQa37.out.below hba41)
          have HWa48 := hideN hra45
          have ha42 : Below w3.heap.size w3 Va40 := belNext ha33 hba41
          obtain ⟨⟨z0, z1, z2⟩, y0, y1, y2⟩ := HCL.out Va40 ha42
          refine ⟨⟨z0, z1, z2, y0, y1, y2⟩, ?_⟩
          refine takeU (i := 6) (v := .tuple #[.agg #[.int .i64 fv, .slice aa43 m ca44, .int .i64 fr], .bool f]) rfl (by rfl) (by kernel_rfl) (by kernel_rfl) (by kernel_rfl) (by kernel_rfl) (by kernel_rfl) (fun _ _ _ h => h) (Or.inl ⟨by rfl, fun w hS => by obtain ⟨z0, z1, z2, y0, y1, y2⟩ := hS; go_simp⟩) ⟨z0, z1, z2, y0, y1, y2⟩ ?_
          simp only [List.getElem_toArray, List.getElem_cons_zero, List.getElem_cons_succ, Act.put, List.setIfInBounds_toArray, List.set_cons_zero, List.set_cons_succ]
          refine takeU (i := 7) (v := .agg #[.int .i64 fv, .slice aa43 m ca44, .int .i64 fr]) rfl (by rfl) (by kernel_rfl) (by kernel_rfl) (by kernel_rfl) (by kernel_rfl) (by kernel_rfl) (fun _ _ _ h => h) (Or.inl ⟨by rfl, fun w hS => by obtain ⟨z0, z1, z2, y0, y1, y2⟩ := hS; go_simp⟩) ⟨z0, z1, z2, y0, y1, y2⟩ ?_
          simp only [List.getElem_toArray, List.getElem_cons_zero, List.getElem_cons_succ, Act.put, List.setIfInBounds_toArray, List.set_cons_zero, List.set_cons_succ]
          refine takeU (i := 8) (v := .bool f) rfl (by rfl) (by kernel_rfl) (by kernel_rfl) (by kernel_rfl) (by kernel_rfl) (by kernel_rfl) (fun _ _ _ h => h) (Or.inl ⟨by rfl, fun w hS => by obtain ⟨z0, z1, z2, y0, y1, y2⟩ := hS; go_simp⟩) ⟨z0, z1, z2, y0, y1, y2⟩ ?_
          simp only [List.getElem_toArray, List.getElem_cons_zero, List.getElem_cons_succ, Act.put, List.setIfInBounds_toArray, List.set_cons_zero, List.set_cons_succ]
          have m0 := HQa47.out.c0
          have m1 := HQa47.out.c1
          have m2 := HQa47.out.c2
          have m3 := HQa47.out.f 0
          have m4 := HQa47.out.f 1
          have m5 := HQa47.out.f 2
          have m6 := HQa47.out.lt
          have HQZ := hideN (HQa47.out.set (.int .i64 fv) (.slice aa43 m ca44) (.int .i64 fr))
          have HRZ : Hid ((set3 Va40 qa35 (.int .i64 fv) (.slice aa43 m ca44) (.int .i64 fr)).ownsRow 0 68 3 (.slice aa43 m ca44) m (ndV l)) := row_base (row_of_block HWa48.out (fun k e => set3_other _ _ _ (HNEa46.out k e))) (Nat.zero_le _)
          have HBZ := hideN (set3_below ha42 hqa36 (.int .i64 fv) (.slice aa43 m ca44) (.int .i64 fr))
          have n1 : w.heap.size ≠ qa35 := by have := hqa36; have := HS3.out; omega
          have n2 : qa35 ≠ w.heap.size := by have := hqa36; have := HS3.out; omega
          have n3 : w.heap.size + 1 ≠ qa35 := by have := hqa36; have := HS3.out; omega
          have n4 : qa35 ≠ w.heap.size + 1 := by have := hqa36; have := HS3.out; omega
          refine oneU (i := 10) (by kernel_rfl) rfl (by rfl) ?_
          simp only [List.getElem_toArray, List.getElem_cons_zero, List.getElem_cons_succ]
          go_simp
          refine oneU (i := 11) (by kernel_rfl) rfl (by rfl) ?_
          simp only [List.getElem_toArray, List.getElem_cons_zero, List.getElem_cons_succ]
          go_simp
          refine doneU (by kernel_rfl) ?_ _
          go_wp2_with fail
          go_meet
          case rel => exact ⟨qa35, aa43, ca44, rfl, rfl, HQZ, HRZ, HBZ, hqa36⟩
      · simp only [List.getElem_toArray, List.getElem_cons_zero, List.getElem_cons_succ]
        go_simp
        obtain ⟨Va49, hVa52⟩ : ∃ V', V' = Va1.alloc (.cells #[.int .i64 0, .slice none 0 0, .int .i64 0] 29) := ⟨_, rfl⟩
        try rw [← hVa52]
        have hba50 : Below Va1.heap.size Va1 Va49 := by rw [hVa52]; exact belOne _ _
        have HQa55 : Hid (BlkD Va49 Va1.heap.size (.int .i64 0) (.slice none 0 0) (.int .i64 0)) := by rw [hVa52]; exact BlkD.new _ _ _ _
        have hqa54 : w3.heap.size ≤ Va1.heap.size := ha3.size
        have ha51 : Below w3.heap.size w3 Va49 := belNext ha3 hba50
        have HPa56 := hideN (HPa6.out.below hba50)
        clear hVa52 hba50
        generalize Va1.heap.size = qa53 at *
        obtain ⟨⟨z0, z1, z2⟩, y0, y1, y2⟩ := HCL.out Va49 ha51
        refine ⟨⟨z0, z1, z2, y0, y1, y2⟩, ?_⟩
        refine oneU (i := 4) (by kernel_rfl) rfl (by rfl) ?_
        simp only [List.getElem_toArray, List.getElem_cons_zero, List.getElem_cons_succ]
        go_simp
        refine (toBdd_any vb rb bo n2 cap2 nb Va49 (HN2.out _ (belNext HB3.out ha51)) hbig2).mono ?_
        rintro e Va57 ⟨bra60, rfl, hba58, _, hna61⟩
        have HPa62 := hideN (HPa56.out.below hba58)
        have HQa63 := hideN (HQa55.out.below hba58)
        have HRa64 := hideN hna61
        have ha59 : Below w3.heap.size w3 Va57 := belNext ha51 hba58
        obtain ⟨⟨z0, z1, z2⟩, y0, y1, y2⟩ := HCL.out Va57 ha59
        refine ⟨⟨z0, z1, z2, y0, y1, y2⟩, ?_⟩
        refine oneU (i := 5) (by kernel_rfl) rfl (by rfl) ?_
        simp only [List.getElem_toArray, List.getElem_cons_zero, List.getElem_cons_succ]
        go_simp
        refine (HSPB.out Va57 bpa4 bra60 HPa62.out HRa64.out).mono ?_
        rintro e Va65 ⟨aa68, ca69, rfl, hra70, hba66⟩
        have HNEa71 : Hid (∀ k, (Value.slice aa68 m ca69).ownBlock = some k → k ≠ qa53) := fun k e => by have := (World.ownsRow.lt hra70 k e).1; have := HQa63.out.lt; omega
        have HQa72 := hideN (HQa63.out.below hba66)
        have HWa73 := hideN hra70
        have ha67 : Below w3.heap.size w3 Va65 := belNext ha59 hba66
        obtain ⟨⟨z0, z1, z2⟩, y0, y1, y2⟩ := HCL.out Va65 ha67
        refine ⟨⟨z0, z1, z2, y0, y1, y2⟩, ?_⟩
        refine takeU (i := 6) (v := .tuple #[.agg #[.int .i64 fv, .slice aa68 m ca69, .int .i64 fr], .bool f]) rfl (by rfl) (by kernel_rfl) (by kernel_rfl) (by kernel_rfl) (by kernel_rfl) (by kernel_rfl) (fun _ _ _ h => h) (Or.inl ⟨by rfl, fun w hS => by obtain ⟨z0, z1, z2, y0, y1, y2⟩ := hS; go_simp⟩) ⟨z0, z1, z2, y0, y1, y2⟩ ?_
        simp only [List.getElem_toArray, List.getElem_cons_zero, List.getElem_cons_succ, Act.put, List.setIfInBounds_toArray, List.set_cons_zero, List.set_cons_succ]
        refine takeU (i := 7) (v := .agg #[.int .i64 fv, .slice aa68 m ca69, .int .i64 fr]) rfl (by rfl) (by kernel_rfl) (by kernel_rfl) (by kernel_rfl) (by kernel_rfl) (by kernel_rfl) (fun _ _ _ h => h) (Or.inl ⟨by rfl, fun w hS => by obtain ⟨z0, z1, z2, y0, y1, y2⟩ := hS; go_simp⟩) ⟨z0, z1, z2, y0, y1, y2⟩ ?_
        simp only [List.getElem_toArray, List.getElem_cons_zero, List.getElem_cons_succ, Act.put, List.setIfInBounds_toArray, List.set_cons_zero, List.set_cons_succ]
        refine takeU (i := 8) (v := .bool f) rfl (by rfl) (by kernel_rfl) (by kernel_rfl) (by kernel_rfl) (by kernel_rfl) (by kernel_rfl) (fun _ _ _ h => h) (Or.inl ⟨by rfl, fun w hS => by obtain ⟨z0, z1, z2, y0, y1, y2⟩ := hS; go_simp⟩) ⟨z0, z1, z2, y0, y1, y2⟩ ?_
        simp only [List.getElem_toArray, List.getElem_cons_zero, List.getElem_cons_succ, Act.put, List.setIfInBounds_toArray, List.set_cons_zero, List.set_cons_succ]
        have m0 := HQa72.out.c0
        have m1 := HQa72.out.c1
        have m2 := HQa72.out.c2
        have m3 := HQa72.out.f 0
        have m4 := HQa72.out.f 1
        have m5 := HQa72.out.f 2
        have m6 := HQa72.out.lt
        have HQZ := hideN (HQa72.out.set (.int .i64 fv) (.slice aa68 m ca69) (.int .i64 fr))
        have HRZ : Hid ((set3 Va65 qa53 (.int .i64 fv) (.slice aa68 m ca69) (.int .i64 fr)).ownsRow 0 68 3 (.slice aa68 m ca69) m (ndV l)) := row_base (row_of_block HWa73.out (fun k e => set3_other _ _ _ (HNEa71.out k e))) (Nat.zero_le _)
        have HBZ := hideN (set3_below ha67 hqa54 (.int .i64 fv) (.slice aa68 m ca69) (.int .i64 fr))
        have n1 : w.heap.size ≠ qa53 := by have := hqa54; have := HS3.out; omega
        have n2 : qa53 ≠ w.heap.size := by have := hqa54; have := HS3.out; omega
        have n3 : w.heap.size + 1 ≠ qa53 := by have := hqa54; have := HS3.out; omega
        have n4 : qa53 ≠ w.heap.size + 1 := by have := hqa54; have := HS3.out; omega
        refine oneU (i := 10) (by kernel_rfl) rfl (by rfl) ?_
        simp only [List.getElem_toArray, List.getElem_cons_zero, List.getElem_cons_succ]
        go_simp
        refine oneU (i := 11) (by kernel_rfl) rfl (by rfl) ?_
        simp only [List.getElem_toArray, List.getElem_cons_zero, List.getElem_cons_succ]
        go_simp
        refine doneU (by kernel_rfl) ?_ _
        go_wp2_with fail
        go_meet
        case rel => exact ⟨qa53, aa68, ca69, rfl, rfl, HQZ, HRZ, HBZ, hqa54⟩
    · simp only [List.getElem_toArray, List.getElem_cons_zero, List.getElem_cons_succ]
      go_simp
      obtain ⟨Va74, hVa77⟩ : ∃ V', V' = (w3.alloc (.cells #[.int .i64 0, .slice none 0 0, .int .i64 0] 29)).drew := ⟨_, rfl⟩
      try rw [← hVa77]
      have ha76 : Below w3.heap.size w3 Va74 := by rw [hVa77]; exact belNext (belOne _ _) (below_drewN (Below.refl _ _) 1)
      have HQa80 : Hid (BlkD Va74 w3.heap.size (.int .i64 0) (.slice none 0 0) (.int .i64 0)) := by rw [hVa77]; exact BlkD.new w3 _ _ _
      have hqa79 : w3.heap.size ≤ w3.heap.size := Nat.le_refl _
      clear hVa77
      obtain ⟨⟨z0, z1, z2⟩, y0, y1, y2⟩ := HCL.out _ (belOne w3 (.cells #[.int .i64 0, .slice none 0 0, .int .i64 0] 29))
      refine ⟨⟨z0, z1, z2, y0, y1, y2⟩, ?_⟩
      obtain ⟨⟨z0, z1, z2⟩, y0, y1, y2⟩ := HCL.out Va74 ha76
      refine oneU (i := 2) (by kernel_rfl) rfl (by rfl) ?_
      simp only [List.getElem_toArray, List.getElem_cons_zero, List.getElem_cons_succ]
      go_simp
      refine (toBdd_any va ra ao n cap na Va74 (HN.out _ (belNext HB3.out ha76)) hbig).mono ?_
      rintro e Va81 ⟨bpa84, rfl, hba82, _, hna85⟩
      have HQa86 := hideN (HQa80.out.below hba82)
      have HPa87 := hideN hna85
      have ha83 : Below w3.heap.size w3 Va81 := belNext ha76 hba82
      obtain ⟨⟨z0, z1, z2⟩, y0, y1, y2⟩ := HCL.out Va81 ha83
      refine ⟨⟨z0, z1, z2, y0, y1, y2⟩, ?_⟩
      refine oneU (i := 4) (by kernel_rfl) rfl (by rfl) ?_
      simp only [List.getElem_toArray, List.getElem_cons_zero, List.getElem_cons_succ]
      go_simp
      refine (toBdd_any vb rb bo n2 cap2 nb Va81 (HN2.out _ (belNext HB3.out ha83)) hbig2).mono ?_
      rintro e Va88 ⟨bra91, rfl, hba89, _, hna92⟩
      have HPa93 := hideN (HPa87.out.below hba89)
      have HQa94 := hideN (HQa86.out.below hba89)
      have HRa95 := hideN hna92
      have ha90 : Below w3.heap.size w3 Va88 := belNext ha83 hba89
      obtain ⟨⟨z0, z1, z2⟩, y0, y1, y2⟩ := HCL.out Va88 ha90
      refine ⟨⟨z0, z1, z2, y0, y1, y2⟩, ?_⟩
      refine oneU (i := 5) (by kernel_rfl) rfl (by rfl) ?_
      simp only [List.getElem_toArray, List.getElem_cons_zero, List.getElem_cons_succ]
      go_simp
      refine (HSPB.out Va88 bpa84 bra91 HPa93.out HRa95.out).mono ?_
      rintro e Va96 ⟨aa99, ca100, rfl, hra101, hba97⟩
      have HNEa102 : Hid (∀ k, (Value.slice aa99 m ca100).ownBlock = some k → k ≠ w3.heap.size) := fun k e => by have := (World.ownsRow.lt hra101 k e).1; have := HQa94.out.lt; omega
      have HQa103 := hideN (HQa94.out.below hba97)
      have HWa104 := hideN hra101
      have ha98 : Below w3.heap.size w3 Va96 := belNext ha90 hba97
      obtain ⟨⟨z0, z1, z2⟩, y0, y1, y2⟩ := HCL.out Va96 ha98
      refine ⟨⟨z0, z1, z2, y0, y1, y2⟩, ?_⟩
      refine takeU (i := 6) (v := .tuple #[.agg #[.int .i64 fv, .slice aa99 m ca100, .int .i64 fr], .bool f]) rfl (by rfl) (by kernel_rfl) (by kernel_rfl) (by kernel_rfl) (by kernel_rfl) (by kernel_rfl) (fun _ _ _ h => h) (Or.inl ⟨by rfl, fun w hS => by obtain ⟨z0, z1, z2, y0, y1, y2⟩ := hS; go_simp⟩) ⟨z0, z1, z2, y0, y1, y2⟩ ?_
      simp only [List.getElem_toArray, List.getElem_cons_zero, List.getElem_cons_succ, Act.put, List.setIfInBounds_toArray, List.set_cons_zero, List.set_cons_succ]
      refine takeU (i := 7) (v := .agg #[.int .i64 fv, .slice aa99 m ca100, .int .i64 fr]) rfl (by rfl) (by kernel_rfl) (by kernel_rfl) (by kernel_rfl) (by kernel_rfl) (by kernel_rfl) (fun _ _ _ h => h) (Or.inl ⟨by rfl, fun w hS => by obtain ⟨z0, z1, z2, y0, y1, y2⟩ := hS; go_simp⟩) ⟨z0, z1, z2, y0, y1, y2⟩ ?_
      simp only [List.getElem_toArray, List.getElem_cons_zero, List.getElem_cons_succ, Act.put, List.setIfInBounds_toArray, List.set_cons_zero, List.set_cons_succ]
      refine takeU (i := 8) (v := .bool f) rfl (by rfl) (by kernel_rfl) (by kernel_rfl) (by kernel_rfl) (by kernel_rfl) (by kernel_rfl) (fun _ _ _ h => h) (Or.inl ⟨by rfl, fun w hS => by obtain ⟨z0, z1, z2, y0, y1, y2⟩ := hS; go_simp⟩) ⟨z0, z1, z2, y0, y1, y2⟩ ?_
      simp only [List.getElem_toArray, List.getElem_cons_zero, List.getElem_cons_succ, Act.put, List.setIfInBounds_toArray, List.set_cons_zero, List.set_cons_succ]
      have m0 := HQa103.out.c0
      have m1 := HQa103.out.c1
      have m2 := HQa103.out.c2
      have m3 := HQa103.out.f 0
      have m4 := HQa103.out.f 1
      have m5 := HQa103.out.f 2
      have m6 := HQa103.out.lt
      have HQZ := hideN (HQa103.out.set (.int .i64 fv) (.slice aa99 m ca100) (.int .i64 fr))
      have HRZ : Hid ((set3 Va96 w3.heap.size (.int .i64 fv) (.slice aa99 m ca100) (.int .i64 fr)).ownsRow 0 68 3 (.slice aa99 m ca100) m (ndV l)) := row_base (row_of_block HWa104.out (fun k e => set3_other _ _ _ (HNEa102.out k e))) (Nat.zero_le _)
      have HBZ := hideN (set3_below ha98 hqa79 (.int .i64 fv) (.slice aa99 m ca100) (.int .i64 fr))
      have n1 : w.heap.size ≠ w3.heap.size := by have := hqa79; have := HS3.out; omega
      have n2 : w3.heap.size ≠ w.heap.size := by have := hqa79; have := HS3.out; omega
      have n3 : w.heap.size + 1 ≠ w3.heap.size := by have := hqa79; have := HS3.out; omega
      have n4 : w3.heap.size ≠ w.heap.size + 1 := by have := hqa79; have := HS3.out; omega
      refine oneU (i := 10) (by kernel_rfl) rfl (by rfl) ?_
      simp only [List.getElem_toArray, List.getElem_cons_zero, List.getElem_cons_succ]
      go_simp
      refine oneU (i := 11) (by kernel_rfl) rfl (by rfl) ?_
      simp only [List.getElem_toArray, List.getElem_cons_zero, List.getElem_cons_succ]
      go_simp
      refine doneU (by kernel_rfl) ?_ _
      go_wp2_with fail
      go_meet
      case rel => exact ⟨w3.heap.size, aa99, ca100, rfl, rfl, HQZ, HRZ, HBZ, hqa79⟩
  case rest =>
    rename World => w4
    obtain ⟨q, aw, cw, rfl, rfl, HBW, HRW, HB34, hq⟩ := hcut
    have HSW : Hid (w3.heap.size ≤ q ∧ q < w4.heap.size) := ⟨hq, HBW.out.lt⟩
    have HB4 := hideN (belNext HB3.out HB34.out)
    have HT4 := hideN (HT3.out.below HB34.out)
    have HU4 := hideN (HU3.out.below HB34.out)
    have HKW : Hid (∀ k, (Value.slice aw m cw).ownBlock = some k → k < w4.heap.size) := fun k e => (World.ownsRow.lt HRW.out k e).2
    clear hq HB34 HT3 HU3 HB3 HB2 HT2 HU2 HSZ HSZ2 HB1 HT1 HU1 HW1
    have c0 := HT4.out.c0
    have c1 := HT4.out.c1
    have c2 := HT4.out.c2
    have c3 := HT4.out.lt
    go_wp2_with fail
    refine (toBdd_any va ra ao n cap na w4 (HN.out _ HB4.out) hbig).mono ?_
    rintro e w5 ⟨bx, rfl, hb5, ⟨hs5, hr5⟩, hn5⟩
    have HB5 := hideN (belNext HB4.out hb5)
    have HT5 := hideN (HT4.out.below hb5)
    have HU5 := hideN (HU4.out.below hb5)
    have HBW5 := hideN (HBW.out.below hb5)
    have HRW5 := hideN (row_below HRW.out hb5)
    have HR5 := hideN hr5
    have HN5 := hideN hn5
    have HS5 := hideN hs5
    clear hb5 hr5 hn5 hs5 c0 c1 c2 c3
    have c0 := HU5.out.c0
    have c1 := HU5.out.c1
    have c2 := HU5.out.c2
    have c3 := HU5.out.lt
    go_wp2_with fail
    obtain ⟨W6, hW6⟩ : ∃ W6, W6 = w5.alloc (.cells #[.int .i64 va, .slice (some ⟨bx, 0, none⟩) n n, .int .i64 ra] 29) := ⟨_, rfl⟩
    try rw [← hW6]
    have hb56 : Below w5.heap.size w5 W6 := by rw [hW6]; exact belOne _ _
    have HO6 : Hid (OneSt w W6 w5.heap.size bx va ra ao n cap na) := ⟨HT5.out.below hb56, by rw [hW6]; exact BlkD.new _ _ _ _, HR5.out.of_block (hb56.block _ HR5.out.lt), HN5.out.below hb56, belNext HB5.out hb56⟩
    have HU6 := hideN (HU5.out.below hb56)
    have HBW6 := hideN (HBW5.out.below hb56)
    have HRW6 := hideN (row_below HRW5.out hb56)
    have HSX : Hid (w.heap.size + 1 < bx ∧ q < bx ∧ bx < w5.heap.size ∧ w5.heap.size < W6.heap.size) := ⟨by have := HS5.out; have := HU4.out.lt; omega, by have := HS5.out; have := HSW.out; omega, HR5.out.lt, by rw [hW6]; simp⟩
    have HKX : Hid (∀ k, (Value.slice aw m cw).ownBlock = some k → k < bx) := fun k e => by have := HKW.out k e; have := HS5.out; omega
    clear c0 c1 c2 c3 hW6 hb56 HB5 HT5 HU5 HBW5 HRW5 HR5 HN5 HS5 HT4 HU4 HB4 HBW HRW HKW HSW
    generalize w5.heap.size = sx at *
    refine (toBdd_any vb rb bo n2 cap2 nb W6 (HN2.out _ HO6.out.be) hbig2).mono ?_
    rintro e w7 ⟨by_, rfl, hb7, ⟨hs7, hr7⟩, hn7⟩
    have HO7 := hideN (HO6.out.below hb7)
    have HU7 := hideN (HU6.out.below hb7)
    have HBW7 := hideN (HBW6.out.below hb7)
    have HRW7 := hideN (row_below HRW6.out hb7)
    have HR7 := hideN hr7
    have HN7 := hideN hn7
    have HS7 := hideN hs7
    clear hb7 hr7 hn7 hs7 HO6 HBW6 HRW6
    have c0 := HO7.out.bx.c0
    have c1 := HO7.out.bx.c1
    have c2 := HO7.out.bx.c2
    have c3 := HO7.out.bx.lt
    go_wp2_with fail
    obtain ⟨W8, hW8⟩ : ∃ W8, W8 = w7.alloc (.cells #[.int .i64 vb, .slice (some ⟨by_, 0, none⟩) n2 n2, .int .i64 rb] 29) := ⟨_, rfl⟩
    try rw [← hW8]
    have hb78 : Below w7.heap.size w7 W8 := by rw [hW8]; exact belOne _ _
    have HO8 := hideN (HO7.out.below hb78)
    have HC8 : Hid (SecSt W8 (w.heap.size + 1) w7.heap.size by_ vb rb bo n2 cap2 nb) := ⟨HU7.out.below hb78, by rw [hW8]; exact BlkD.new _ _ _ _, HR7.out.of_block (hb78.block _ HR7.out.lt), HN7.out.below hb78⟩
    have HBW8 := hideN (HBW7.out.below hb78)
    have HRW8 := hideN (row_below HRW7.out hb78)
    have HSY : Hid (sx < by_ ∧ by_ < w7.heap.size ∧ w7.heap.size < W8.heap.size) := ⟨by have := HS7.out; have := HSX.out; omega, HR7.out.lt, by rw [hW8]; simp⟩
    clear hW8 hb78 HO7 HU7 HBW7 HRW7 HR7 HN7 HS7 HU6
    clear c0 c1 c2 c3
    generalize w7.heap.size = sy at *
    refine (HIP.out W8 bx by_ HO8.out.nx HC8.out.nx).mono ?_
    rintro e w9 ⟨ag, cg, rfl, hrg, hb9⟩
    have HRG := hideN hrg
    have HO9 := hideN (HO8.out.below hb9)
    have HC9 := hideN (HC8.out.below hb9)
    have HBW9 := hideN (HBW8.out.below hb9)
    have HRW9 := hideN (row_below HRW8.out hb9)
    have HS9 : Hid (W8.heap.size ≤ w9.heap.size) := hb9.size
    clear hb9 hrg HO8 HC8 HBW8 HRW8
    generalize W8.heap.size = lo at *
    have x0 := HBW9.out.c0
    have x1 := HBW9.out.c1
    have x2 := HBW9.out.c2
    have x3 := HBW9.out.lt
    go_wp2_with fail
    obtain ⟨V9, hV9⟩ : ∃ V9, V9 = w9.alloc (.cells #[.int .i64 fv, .slice ag m cg, .int .i64 fr] 29) := ⟨_, rfl⟩
    try rw [← hV9]
    have hb99 : Below w9.heap.size w9 V9 := by rw [hV9]; exact belOne _ _
    have HST9 : Hid (NbSt w V9 sx bx q w9.heap.size lo va ra ao n cap na fv fr aw ag m cw cg l) := ⟨HO9.out.below hb99, HBW9.out.below hb99, by rw [hV9]; exact BlkD.new _ _ _ _, row_below HRW9.out hb99, row_below HRG.out hb99, HKX.out, fun k e => (World.ownsRow.lt HRG.out k e).2, by have := HSX.out; have := HSY.out; have := HS9.out; omega⟩
    have HCV9 := hideN (HC9.out.below hb99)
    have HORD : Hid (w.heap.size + 1 < bx ∧ bx < sx ∧ sx < by_ ∧ by_ < sy ∧ sy < lo) := by have := HSX.out; have := HSY.out; show _ ∧ _; omega
    clear hV9 hb99 HO9 HBW9 HRW9 HRG HKX HSX HSY HS9 HC9
    generalize w9.heap.size = sg2 at *
    refine (HEQ.out V9 ag aw cg cw _ _ HST9.out.rg HST9.out.rw).mono ?_
    rintro e w10 ⟨rfl, hb10⟩
    have HST10 := hideN (HST9.out.below hb10)
    have HC10 := hideN (HCV9.out.below hb10)
    clear HST9 HCV9 hb10 x0 x1 x2 x3
    go_wp2_with fail
    have HCL := hideN (fun V (hV : Below w10.heap.size w10 V) => HST10.out.o.cells hV)
    obtain ⟨z0, z1, z2, y0, y1, y2⟩ := HCL.out w10.drew (below_drewN (Below.refl _ _) 1)
    refine region_U (fin := 3) (S := fun V => V.cell? ⟨w.heap.size, 0, none⟩ = some (.int .i64 va) ∧ V.cell? ⟨w.heap.size, 1, none⟩ = some (.slice ao n cap) ∧ V.cell? ⟨w.heap.size, 2, none⟩ = some (.int .i64 ra) ∧ V.cell? ⟨sx, 0, none⟩ = some (.int .i64 va) ∧ V.cell? ⟨sx, 1, none⟩ = some (.slice (some ⟨bx, 0, none⟩) n n) ∧ V.cell? ⟨sx, 2, none⟩ = some (.int .i64 ra)) (by kernel_rfl) ⟨z0, z1, z2, y0, y1, y2⟩ (fun hHeld => ?_)
    clear hHeld
    refine takeU (i := 0) (v := .agg #[.int .i64 va, .slice (some ⟨bx, 0, none⟩) n n, .int .i64 ra]) rfl (by rfl) (by kernel_rfl) (by kernel_rfl) (by kernel_rfl) (by kernel_rfl) (by kernel_rfl) (fun _ _ _ h => h) (Or.inl ⟨by rfl, fun w hS => by obtain ⟨z0, z1, z2, y0, y1, y2⟩ := hS; go_simp⟩) ⟨z0, z1, z2, y0, y1, y2⟩ ?_
    simp only [List.getElem_toArray, List.getElem_cons_zero, Act.put, List.setIfInBounds_toArray, List.set_cons_zero, List.set_cons_succ]
    refine takeU (i := 1) (v := .agg #[.int .i64 va, .slice ao n cap, .int .i64 ra]) rfl (by rfl) (by kernel_rfl) (by kernel_rfl) (by kernel_rfl) (by kernel_rfl) (by kernel_rfl) (fun _ _ _ h => h) (Or.inl ⟨by rfl, fun w hS => by obtain ⟨z0, z1, z2, y0, y1, y2⟩ := hS; go_simp⟩) ⟨z0, z1, z2, y0, y1, y2⟩ ?_
    simp only [List.getElem_toArray, List.getElem_cons_zero, List.getElem_cons_succ, Act.put, List.setIfInBounds_toArray, List.set_cons_zero, List.set_cons_succ]
    refine oneU (i := 2) (by kernel_rfl) rfl (by rfl) ?_
    simp only [List.getElem_toArray, List.getElem_cons_zero, List.getElem_cons_succ]
    go_simp
    have hbd := below_drewN (Below.refl w10.heap.size w10) 1
    refine (toBdd_any va ra ao n cap na w10.drew (HN.out _ (belNext HST10.out.o.be hbd)) hbig).mono ?_
    rintro e w11 ⟨b11, rfl, hb11, _, hn11⟩
    have hb1011 : Below w10.heap.size w10 w11 := belNext hbd hb11
    have HST11 := hideN (HST10.out.below hb1011)
    have HC11 := hideN (HC10.out.below hb1011)
    have HN11 := hideN hn11
    refine ⟨HCL.out w11 hb1011, ?_⟩
    clear hbd hb11 hb1011 hn11 z0 z1 z2 y0 y1 y2
    refine oneU (i := 3) (by kernel_rfl) rfl (by rfl) ?_
    simp only [List.getElem_toArray, List.getElem_cons_zero, List.getElem_cons_succ]
    go_simp
    refine (eqBdd_same va ra _ _ n _ _ na w11 HST11.out.o.nx.is HN11.out.is (by have := HL.out; omega)).mono ?_
    rintro e w12 ⟨rfl, hb12⟩
    have HST12 := hideN (HST11.out.below hb12)
    have HC12 := hideN (HC11.out.below hb12)
    clear hb12 HST10 HST11 HN11 HCL HC10 HC11
    refine oneU (i := 4) (by kernel_rfl) rfl (by rfl) ?_
    simp only [List.getElem_toArray, List.getElem_cons_zero, List.getElem_cons_succ]
    go_simp
    refine doneU (by kernel_rfl) ?_ _
    go_wp2_with fail
    have HCL := hideN (fun V (hV : Below w12.heap.size w12 V) => HC12.out.cells hV)
    obtain ⟨z0, z1, z2, y0, y1, y2⟩ := HCL.out w12.drew (below_drewN (Below.refl _ _) 1)
    refine region_U (fin := 3) (S := fun V => V.cell? ⟨w.heap.size + 1, 0, none⟩ = some (.int .i64 vb) ∧ V.cell? ⟨w.heap.size + 1, 1, none⟩ = some (.slice bo n2 cap2) ∧ V.cell? ⟨w.heap.size + 1, 2, none⟩ = some (.int .i64 rb) ∧ V.cell? ⟨sy, 0, none⟩ = some (.int .i64 vb) ∧ V.cell? ⟨sy, 1, none⟩ = some (.slice (some ⟨by_, 0, none⟩) n2 n2) ∧ V.cell? ⟨sy, 2, none⟩ = some (.int .i64 rb)) (by kernel_rfl) ⟨z0, z1, z2, y0, y1, y2⟩ (fun hHeld => ?_)
    clear hHeld
    refine takeU (i := 0) (v := .agg #[.int .i64 vb, .slice (some ⟨by_, 0, none⟩) n2 n2, .int .i64 rb]) rfl (by rfl) (by kernel_rfl) (by kernel_rfl) (by kernel_rfl) (by kernel_rfl) (by kernel_rfl) (fun _ _ _ h => h) (Or.inl ⟨by rfl, fun w hS => by obtain ⟨z0, z1, z2, y0, y1, y2⟩ := hS; go_simp⟩) ⟨z0, z1, z2, y0, y1, y2⟩ ?_
    simp only [List.getElem_toArray, List.getElem_cons_zero, Act.put, List.setIfInBounds_toArray, List.set_cons_zero, List.set_cons_succ]
    refine takeU (i := 1) (v := .agg #[.int .i64 vb, .slice bo n2 cap2, .int .i64 rb]) rfl (by rfl) (by kernel_rfl) (by kernel_rfl) (by kernel_rfl) (by kernel_rfl) (by kernel_rfl) (fun _ _ _ h => h) (Or.inl ⟨by rfl, fun w hS => by obtain ⟨z0, z1, z2, y0, y1, y2⟩ := hS; go_simp⟩) ⟨z0, z1, z2, y0, y1, y2⟩ ?_
    simp only [List.getElem_toArray, List.getElem_cons_zero, List.getElem_cons_succ, Act.put, List.setIfInBounds_toArray, List.set_cons_zero, List.set_cons_succ]
    refine oneU (i := 2) (by kernel_rfl) rfl (by rfl) ?_
    simp only [List.getElem_toArray, List.getElem_cons_zero, List.getElem_cons_succ]
    go_simp
    have hbd := below_drewN (Below.refl w12.heap.size w12) 1
    refine (toBdd_any vb rb bo n2 cap2 nb w12.drew (HN2.out _ (belNext HST12.out.o.be hbd)) hbig2).mono ?_
    rintro e w13 ⟨b13, rfl, hb13, _, hn13⟩
    have hb1213 : Below w12.heap.size w12 w13 := belNext hbd hb13
    have HST13 := hideN (HST12.out.below hb1213)
    have HC13 := hideN (HC12.out.below hb1213)
    have HN13 := hideN hn13
    refine ⟨HCL.out w13 hb1213, ?_⟩
    clear hbd hb13 hb1213 hn13 z0 z1 z2 y0 y1 y2
    refine oneU (i := 3) (by kernel_rfl) rfl (by rfl) ?_
    simp only [List.getElem_toArray, List.getElem_cons_zero, List.getElem_cons_succ]
    go_simp
    refine (eqBdd_same vb rb _ _ n2 _ _ nb w13 HC13.out.nx.is HN13.out.is (by have := HL2.out; omega)).mono ?_
    rintro e w14 ⟨rfl, hb14⟩
    have HST14 := hideN (HST13.out.below hb14)
    have HC14 := hideN (HC13.out.below hb14)
    clear hb14 HST12 HST13 HN13 HCL HC12 HC13
    refine oneU (i := 4) (by kernel_rfl) rfl (by rfl) ?_
    simp only [List.getElem_toArray, List.getElem_cons_zero, List.getElem_cons_succ]
    go_simp
    refine doneU (by kernel_rfl) ?_ _
    have x0 := HST14.out.o.bx.c0
    have x1 := HST14.out.o.bx.c1
    have x2 := HST14.out.o.bx.c2
    have x3 := HST14.out.o.bx.lt
    go_wp2_with fail
    refine (markBdd_copyK va ra 1 bx n _ w14 HST14.out.o.rx hbig (by omega) (by omega)).mono ?_
    rintro e w15 ⟨rfl, hc15⟩
    have HDY : Hid (BlkD w15 sy (.int .i64 vb) (.slice (some ⟨by_, 0, none⟩) n2 n2) (.int .i64 rb)) := HC14.out.bx.chg hc15 (by have := HORD.out; omega)
    have HRY : Hid (w15.rowIs by_ 68 (n2 * 3) (ndF nb)) := hc15.row HC14.out.rx (by have := HORD.out; omega)
    have HUL : Hid (BlkL w15 (w.heap.size + 1) (.int .i64 vb) (.slice bo n2 cap2) (.int .i64 rb)) := HC14.out.b0.chg hc15 (by have := HORD.out; omega)
    have HC15 := hideN hc15
    clear hc15 x0 x1 x2 x3 HC14
    have x0 := HDY.out.c0
    have x1 := HDY.out.c1
    have x2 := HDY.out.c2
    have x3 := HDY.out.lt
    go_wp2_with fail
    refine (markBdd_copyK vb rb (1 + 3 * (n : Int)) by_ n2 _ w15 HRY.out hbig2 (by omega) (by omega)).mono ?_
    rintro e w16 ⟨rfl, hc16⟩
    have HD16 := hideN (HST14.out.marked2 ((HC15.out.mono (fun k e => Or.inl e)).trans (hc16.mono (fun k e => Or.inr e))) (by have := HORD.out; omega))
    have HU16 := hideN (HUL.out.chg hc16 (by have := HORD.out; omega))
    have k16 : decide ((1 : Int) + 3 * (n : Int) + 3 * (n2 : Int) < 0) = false := by simp; omega
    clear hc16 x0 x1 x2 x3 HST14 HC15 HUL HRY HDY
    have x0 := HD16.out.bw.c0
    have x1 := HD16.out.bw.c1
    have x2 := HD16.out.bw.c2
    have x3 := HD16.out.bw.lt
    have y0 := HD16.out.bg.c0
    have y1 := HD16.out.bg.c1
    have y2 := HD16.out.bg.c2
    have y3 := HD16.out.bg.lt
    go_wp2_with fail
    refine (HEQ.out w16 ag aw cg cw _ _ HD16.out.rg HD16.out.rw).mono ?_
    rintro e w17 ⟨rfl, hb17⟩
    have HD17 := hideN (HD16.out.below hb17)
    have HU17 := hideN (HU16.out.below hb17)
    clear HD16 HU16 k16 hb17 x0 x1 x2 x3 y0 y1 y2 y3
    have y0 := HD17.out.bg.c0
    have y1 := HD17.out.bg.c1
    have y2 := HD17.out.bg.c2
    have y3 := HD17.out.bg.lt
    go_wp2_with fail
    refine (markBdd_any fv fr _ ag m cg _ w17 HD17.out.rg (by omega)).mono ?_
    rintro e w18 ⟨rfl, hi18, hc18⟩
    have HE18 := hideN (HD17.out.marked hc18 hi18)
    have HU18 := hideN (HU17.out.chg hc18 (fun e => by have := (World.ownsRow.lt HD17.out.rg _ e).1; have := HORD.out; omega))
    clear hi18 hc18 HD17 HU17 y0 y1 y2 y3
    have y0 := HE18.out.bg.c0
    have y1 := HE18.out.bg.c1
    have y2 := HE18.out.bg.c2
    have y3 := HE18.out.bg.lt
    go_wp2_with fail
    refine (heldBdd_any fv fr ag m cg w18 HE18.out.ig (by omega)).mono ?_
    rintro e w19 ⟨rfl, hb19⟩
    have HE19 := hideN (HE18.out.below hb19)
    have HU19 := hideN (HU18.out.below hb19)
    have k19 : decide ((1 : Int) + 3 * (m : Int) < 0) = false := by simp; omega
    clear hb19 HE18 HU18 y0 y1 y2 y3
    go_wp2_with fail
    have HS3 : Hid (w.heap.size + 1 < w19.heap.size) := HU19.out.lt
    go_cut [17, 18] (fun s8 s9 wc => ∃ q aw cw, s8 = .pointer (some ⟨q, 0, none⟩) ∧ s9 = .bool f ∧ Hid (BlkD wc q (.int .i64 fv) (.slice aw m cw) (.int .i64 fr)) ∧ Hid (wc.ownsRow 0 68 3 (.slice aw m cw) m (ndV l)) ∧ Hid (Below w19.heap.size w19 wc) ∧ w19.heap.size ≤ q)
    case first =>
      have HB19 := hideN HE19.out.be
      have HCL := hideN (fun V (hV : Below w19.heap.size w19 V) => (⟨⟨(HE19.out.b0.below hV).c0, (HE19.out.b0.below hV).c1, (HE19.out.b0.below hV).c2⟩, (HU19.out.below hV).c0, (HU19.out.below hV).c1, (HU19.out.below hV).c2⟩ : (_ ∧ _ ∧ _) ∧ (_ ∧ _ ∧ _)))
      have hdb := below_drewN (Below.refl w19.heap.size w19) 1
      obtain ⟨⟨z0, z1, z2⟩, y0, y1, y2⟩ := HCL.out w19.drew hdb
      refine region_U (fin := 11) (S := fun V => V.cell? ⟨w.heap.size, 0, none⟩ = some (.int .i64 va) ∧ V.cell? ⟨w.heap.size, 1, none⟩ = some (.slice ao n cap) ∧ V.cell? ⟨w.heap.size, 2, none⟩ = some (.int .i64 ra) ∧ V.cell? ⟨w.heap.size + 1, 0, none⟩ = some (.int .i64 vb) ∧ V.cell? ⟨w.heap.size + 1, 1, none⟩ = some (.slice bo n2 cap2) ∧ V.cell? ⟨w.heap.size + 1, 2, none⟩ = some (.int .i64 rb)) (by kernel_rfl) ⟨z0, z1, z2, y0, y1, y2⟩ (fun hHeld => ?_)
      clear hHeld
      refine takeU (i := 0) (v := .string sg) rfl (by rfl) (by kernel_rfl) (by kernel_rfl) (by kernel_rfl) (by kernel_rfl) (by kernel_rfl) (fun _ _ _ h => h) (Or.inl ⟨by rfl, fun w hS => by obtain ⟨z0, z1, z2, y0, y1, y2⟩ := hS; go_simp⟩) ⟨z0, z1, z2, y0, y1, y2⟩ ?_
      simp only [List.getElem_toArray, List.getElem_cons_zero, Act.put, List.setIfInBounds_toArray, List.set_cons_zero, List.set_cons_succ]
      refine takeU (i := 1) (v := .agg #[.int .i64 va, .slice ao n cap, .int .i64 ra]) rfl (by rfl) (by kernel_rfl) (by kernel_rfl) (by kernel_rfl) (by kernel_rfl) (by kernel_rfl) (fun _ _ _ h => h) (Or.inl ⟨by rfl, fun w hS => by obtain ⟨z0, z1, z2, y0, y1, y2⟩ := hS; go_simp⟩) ⟨z0, z1, z2, y0, y1, y2⟩ ?_
      simp only [List.getElem_toArray, List.getElem_cons_zero, List.getElem_cons_succ, Act.put, List.setIfInBounds_toArray, List.set_cons_zero, List.set_cons_succ]
      refine takeU (i := 3) (v := .agg #[.int .i64 vb, .slice bo n2 cap2, .int .i64 rb]) rfl (by rfl) (by kernel_rfl) (by kernel_rfl) (by kernel_rfl) (by kernel_rfl) (by kernel_rfl) (fun _ _ _ h => h) (Or.inl ⟨by rfl, fun w hS => by obtain ⟨z0, z1, z2, y0, y1, y2⟩ := hS; go_simp⟩) ⟨z0, z1, z2, y0, y1, y2⟩ ?_
      simp only [List.getElem_toArray, List.getElem_cons_zero, List.getElem_cons_succ, Act.put, List.setIfInBounds_toArray, List.set_cons_zero, List.set_cons_succ]
      refine twoU (i := 2) (j := 9) (by kernel_rfl) rfl rfl (by rfl) (by rfl) ?_ ?_
      · simp only [List.getElem_toArray, List.getElem_cons_zero, List.getElem_cons_succ]
        go_simp
        refine (toBdd_any va ra ao n cap na w19.drew (HN.out _ (belNext HB19.out hdb)) hbig).mono ?_
        rintro e Vb1 ⟨bpb4, rfl, hbb2, _, hnb5⟩
        have HPb6 := hideN hnb5
        have hb3 : Below w19.heap.size w19 Vb1 := belNext hdb hbb2
        obtain ⟨⟨z0, z1, z2⟩, y0, y1, y2⟩ := HCL.out Vb1 hb3
        refine ⟨⟨z0, z1, z2, y0, y1, y2⟩, ?_⟩
        refine twoU (i := 4) (j := 9) (by kernel_rfl) rfl rfl (by rfl) (by rfl) ?_ ?_
        · simp only [List.getElem_toArray, List.getElem_cons_zero, List.getElem_cons_succ]
          go_simp
          refine (toBdd_any vb rb bo n2 cap2 nb Vb1 (HN2.out _ (belNext HB19.out hb3)) hbig2).mono ?_
          rintro e Vb7 ⟨brb10, rfl, hbb8, _, hnb11⟩
          have HPb12 := hideN (HPb6.out.below hbb8)
          have HRb13 := hideN hnb11
          have hb9 : Below w19.heap.size w19 Vb7 := belNext hb3 hbb8
          obtain ⟨⟨z0, z1, z2⟩, y0, y1, y2⟩ := HCL.out Vb7 hb9
          refine ⟨⟨z0, z1, z2, y0, y1, y2⟩, ?_⟩
          refine twoU (i := 5) (j := 9) (by kernel_rfl) rfl rfl (by rfl) (by rfl) ?_ ?_
          · simp only [List.getElem_toArray, List.getElem_cons_zero, List.getElem_cons_succ]
            go_simp
            refine (HIP.out Vb7 bpb4 brb10 HPb12.out HRb13.out).mono ?_
            rintro e Vb14 ⟨ab17, cb18, rfl, hrb19, hbb15⟩
            have HWb21 := hideN hrb19
            have hb16 : Below w19.heap.size w19 Vb14 := belNext hb9 hbb15
            obtain ⟨⟨z0, z1, z2⟩, y0, y1, y2⟩ := HCL.out Vb14 hb16
            refine ⟨⟨z0, z1, z2, y0, y1, y2⟩, ?_⟩
            refine takeU (i := 6) (v := .tuple #[.agg #[.int .i64 fv, .slice ab17 m cb18, .int .i64 fr], .bool f]) rfl (by rfl) (by kernel_rfl) (by kernel_rfl) (by kernel_rfl) (by kernel_rfl) (by kernel_rfl) (fun _ _ _ h => h) (Or.inl ⟨by rfl, fun w hS => by obtain ⟨z0, z1, z2, y0, y1, y2⟩ := hS; go_simp⟩) ⟨z0, z1, z2, y0, y1, y2⟩ ?_
            simp only [List.getElem_toArray, List.getElem_cons_zero, List.getElem_cons_succ, Act.put, List.setIfInBounds_toArray, List.set_cons_zero, List.set_cons_succ]
            refine takeU (i := 7) (v := .agg #[.int .i64 fv, .slice ab17 m cb18, .int .i64 fr]) rfl (by rfl) (by kernel_rfl) (by kernel_rfl) (by kernel_rfl) (by kernel_rfl) (by kernel_rfl) (fun _ _ _ h => h) (Or.inl ⟨by rfl, fun w hS => by obtain ⟨z0, z1, z2, y0, y1, y2⟩ := hS; go_simp⟩) ⟨z0, z1, z2, y0, y1, y2⟩ ?_
            simp only [List.getElem_toArray, List.getElem_cons_zero, List.getElem_cons_succ, Act.put, List.setIfInBounds_toArray, List.set_cons_zero, List.set_cons_succ]
            refine takeU (i := 8) (v := .bool f) rfl (by rfl) (by kernel_rfl) (by kernel_rfl) (by kernel_rfl) (by kernel_rfl) (by kernel_rfl) (fun _ _ _ h => h) (Or.inl ⟨by rfl, fun w hS => by obtain ⟨z0, z1, z2, y0, y1, y2⟩ := hS; go_simp⟩) ⟨z0, z1, z2, y0, y1, y2⟩ ?_
            simp only [List.getElem_toArray, List.getElem_cons_zero, List.getElem_cons_succ, Act.put, List.setIfInBounds_toArray, List.set_cons_zero, List.set_cons_succ]
            refine oneU (i := 9) (by kernel_rfl) rfl (by rfl) ?_
            simp only [List.getElem_toArray, List.getElem_cons_zero, List.getElem_cons_succ]
            go_simp
            obtain ⟨Vb22, hVb25⟩ : ∃ V', V' = Vb14.alloc (.cells #[.int .i64 0, .slice none 0 0, .int .i64 0] 29) := ⟨_, rfl⟩
            try rw [← hVb25]
            have hbb23 : Below Vb14.heap.size Vb14 Vb22 := by rw [hVb25]; exact belOne _ _
            have HQb28 : Hid (BlkD Vb22 Vb14.heap.size (.int .i64 0) (.slice none 0 0) (.int .i64 0)) := by rw [hVb25]; exact BlkD.new _ _ _ _
            have hqb27 : w19.heap.size ≤ Vb14.heap.size := hb16.size
            have HNEb29 : Hid (∀ k, (Value.slice ab17 m cb18).ownBlock = some k → k ≠ Vb14.heap.size) := fun k e => by have := (World.ownsRow.lt HWb21.out k e).2; omega
            have hb24 : Below w19.heap.size w19 Vb22 := belNext hb16 hbb23
            have HWb30 := hideN (row_below HWb21.out hbb23)
            clear hVb25 hbb23
            generalize Vb14.heap.size = qb26 at *
            obtain ⟨⟨z0, z1, z2⟩, y0, y1, y2⟩ := HCL.out Vb22 hb24
            refine ⟨⟨z0, z1, z2, y0, y1, y2⟩, ?_⟩
            have m0 := HQb28.out.c0
            have m1 := HQb28.out.c1
            have m2 := HQb28.out.c2
            have m3 := HQb28.out.f 0
            have m4 := HQb28.out.f 1
            have m5 := HQb28.out.f 2
            have m6 := HQb28.out.lt
            have HQZ := hideN (HQb28.out.set (.int .i64 fv) (.slice ab17 m cb18) (.int .i64 fr))
            have HRZ : Hid ((set3 Vb22 qb26 (.int .i64 fv) (.slice ab17 m cb18) (.int .i64 fr)).ownsRow 0 68 3 (.slice ab17 m cb18) m (ndV l)) := row_base (row_of_block HWb30.out (fun k e => set3_other _ _ _ (HNEb29.out k e))) (Nat.zero_le _)
            have HBZ := hideN (set3_below hb24 hqb27 (.int .i64 fv) (.slice ab17 m cb18) (.int .i64 fr))
            have n1 : w.heap.size ≠ qb26 := by have := hqb27; have := HS3.out; omega
            have n2 : qb26 ≠ w.heap.size := by have := hqb27; have := HS3.out; omega
            have n3 : w.heap.size + 1 ≠ qb26 := by have := hqb27; have := HS3.out; omega
            have n4 : qb26 ≠ w.heap.size + 1 := by have := hqb27; have := HS3.out; omega
            refine oneU (i := 10) (by kernel_rfl) rfl (by rfl) ?_
            simp only [List.getElem_toArray, List.getElem_cons_zero, List.getElem_cons_succ]
            go_simp
            refine oneU (i := 11) (by kernel_rfl) rfl (by rfl) ?_
            simp only [List.getElem_toArray, List.getElem_cons_zero, List.getElem_cons_succ]
            go_simp
            refine doneU (by kernel_rfl) ?_ _
            go_wp2_with fail
            go_meet
            case rel => exact ⟨qb26, ab17, cb18, rfl, rfl, HQZ, HRZ, HBZ, hqb27⟩
          · simp only [List.getElem_toArray, List.getElem_cons_zero, List.getElem_cons_succ]
            go_simp
            obtain ⟨Vb31, hVb34⟩ : ∃ V', V' = Vb7.alloc (.cells #[.int .i64 0, .slice none 0 0, .int .i64 0] 29) := ⟨_, rfl⟩
            try rw [← hVb34]
            have hbb32 : Below Vb7.heap.size Vb7 Vb31 := by rw [hVb34]; exact belOne _ _
            have HQb37 : Hid (BlkD Vb31 Vb7.heap.size (.int .i64 0) (.slice none 0 0) (.int .i64 0)) := by rw [hVb34]; exact BlkD.new _ _ _ _
            have hqb36 : w19.heap.size ≤ Vb7.heap.size := hb9.size
            have hb33 : Below w19.heap.size w19 Vb31 := belNext hb9 hbb32
            have HPb38 := hideN (HPb12.out.below hbb32)
            have HRb39 := hideN (HRb13.out.below hbb32)
            clear hVb34 hbb32
            generalize Vb7.heap.size = qb35 at *
            obtain ⟨⟨z0, z1, z2⟩, y0, y1, y2⟩ := HCL.out Vb31 hb33
            refine ⟨⟨z0, z1, z2, y0, y1, y2⟩, ?_⟩
            refine oneU (i := 5) (by kernel_rfl) rfl (by rfl) ?_
            simp only [List.getElem_toArray, List.getElem_cons_zero, List.getElem_cons_succ]
            go_simp
            refine (HIP.out Vb31 bpb4 brb10 HPb38.out HRb39.out).mono ?_
            rintro e Vb40 ⟨ab43, cb44, rfl, hrb45, hbb41⟩
            have HNEb46 : Hid (∀ k, (Value.slice ab43 m cb44).ownBlock = some k → k ≠ qb35) := fun k e => by have := (World.ownsRow.lt hrb45 k e).1; have := HQb37.out.lt; omega
            have HQb47 := hideN (HQb37.out.below hbb41)
            have HWb48 := hideN hrb45
            have hb42 : Below w19.heap.size w19 Vb40 := belNext hb33 hbb41
            obtain ⟨⟨z0, z1, z2⟩, y0, y1, y2⟩ := HCL.out Vb40 hb42
            refine ⟨⟨z0, z1, z2, y0, y1, y2⟩, ?_⟩
            refine takeU (i := 6) (v := .tuple #[.agg #[.int .i64 fv, .slice ab43 m cb44, .int .i64 fr], .bool f]) rfl (by rfl) (by kernel_rfl) (by kernel_rfl) (by kernel_rfl) (by kernel_rfl) (by kernel_rfl) (fun _ _ _ h => h) (Or.inl ⟨by rfl, fun w hS => by obtain ⟨z0, z1, z2, y0, y1, y2⟩ := hS; go_simp⟩) ⟨z0, z1, z2, y0, y1, y2⟩ ?_
            simp only [List.getElem_toArray, List.getElem_cons_zero, List.getElem_cons_succ, Act.put, List.setIfInBounds_toArray, List.set_cons_zero, List.set_cons_succ]
            refine takeU (i := 7) (v := .agg #[.int .i64 fv, .slice ab43 m cb44, .int .i64 fr]) rfl (by rfl) (by kernel_rfl) (by kernel_rfl) (by kernel_rfl) (by kernel_rfl) (by kernel_rfl) (fun _ _ _ h => h) (Or.inl ⟨by rfl, fun w hS => by obtain ⟨z0, z1, z2, y0, y1, y2⟩ := hS; go_simp⟩) ⟨z0, z1, z2, y0, y1, y2⟩ ?_
            simp only [List.getElem_toArray, List.getElem_cons_zero, List.getElem_cons_succ, Act.put, List.setIfInBounds_toArray, List.set_cons_zero, List.set_cons_succ]
            refine takeU (i := 8) (v := .bool f) rfl (by rfl) (by kernel_rfl) (by kernel_rfl) (by kernel_rfl) (by kernel_rfl) (by kernel_rfl) (fun _ _ _ h => h) (Or.inl ⟨by rfl, fun w hS => by obtain ⟨z0, z1, z2, y0, y1, y2⟩ := hS; go_simp⟩) ⟨z0, z1, z2, y0, y1, y2⟩ ?_
            simp only [List.getElem_toArray, List.getElem_cons_zero, List.getElem_cons_succ, Act.put, List.setIfInBounds_toArray, List.set_cons_zero, List.set_cons_succ]
            have m0 := HQb47.out.c0
            have m1 := HQb47.out.c1
            have m2 := HQb47.out.c2
            have m3 := HQb47.out.f 0
            have m4 := HQb47.out.f 1
            have m5 := HQb47.out.f 2
            have m6 := HQb47.out.lt
            have HQZ := hideN (HQb47.out.set (.int .i64 fv) (.slice ab43 m cb44) (.int .i64 fr))
            have HRZ : Hid ((set3 Vb40 qb35 (.int .i64 fv) (.slice ab43 m cb44) (.int .i64 fr)).ownsRow 0 68 3 (.slice ab43 m cb44) m (ndV l)) := row_base (row_of_block HWb48.out (fun k e => set3_other _ _ _ (HNEb46.out k e))) (Nat.zero_le _)
            have HBZ := hideN (set3_below hb42 hqb36 (.int .i64 fv) (.slice ab43 m cb44) (.int .i64 fr))
            have n1 : w.heap.size ≠ qb35 := by have := hqb36; have := HS3.out; omega
            have n2 : qb35 ≠ w.heap.size := by have := hqb36; have := HS3.out; omega
            have n3 : w.heap.size + 1 ≠ qb35 := by have := hqb36; have := HS3.out; omega
            have n4 : qb35 ≠ w.heap.size + 1 := by have := hqb36; have := HS3.out; omega
            refine oneU (i := 10) (by kernel_rfl) rfl (by rfl) ?_
            simp only [List.getElem_toArray, List.getElem_cons_zero, List.getElem_cons_succ]
            go_simp
            refine oneU (i := 11) (by kernel_rfl) rfl (by rfl) ?_
            simp only [List.getElem_toArray, List.getElem_cons_zero, List.getElem_cons_succ]
            go_simp
            refine doneU (by kernel_rfl) ?_ _
            go_wp2_with fail
            go_meet
            case rel => exact ⟨qb35, ab43, cb44, rfl, rfl, HQZ, HRZ, HBZ, hqb36⟩
        · simp only [List.getElem_toArray, List.getElem_cons_zero, List.getElem_cons_succ]
          go_simp
          obtain ⟨Vb49, hVb52⟩ : ∃ V', V' = Vb1.alloc (.cells #[.int .i64 0, .slice none 0 0, .int .i64 0] 29) := ⟨_, rfl⟩
          try rw [← hVb52]
          have hbb50 : Below Vb1.heap.size Vb1 Vb49 := by rw [hVb52]; exact belOne _ _
          have HQb55 : Hid (BlkD Vb49 Vb1.heap.size (.int .i64 0) (.slice none 0 0) (.int .i64 0)) := by rw [hVb52]; exact BlkD.new _ _ _ _
          have hqb54 : w19.heap.size ≤ Vb1.heap.size := hb3.size
          have hb51 : Below w19.heap.size w19 Vb49 := belNext hb3 hbb50
          have HPb56 := hideN (HPb6.out.below hbb50)
          clear hVb52 hbb50
          generalize Vb1.heap.size = qb53 at *
          obtain ⟨⟨z0, z1, z2⟩, y0, y1, y2⟩ := HCL.out Vb49 hb51
          refine ⟨⟨z0, z1, z2, y0, y1, y2⟩, ?_⟩
          refine oneU (i := 4) (by kernel_rfl) rfl (by rfl) ?_
          simp only [List.getElem_toArray, List.getElem_cons_zero, List.getElem_cons_succ]
          go_simp
          refine (toBdd_any vb rb bo n2 cap2 nb Vb49 (HN2.out _ (belNext HB19.out hb51)) hbig2).mono ?_
          rintro e Vb57 ⟨brb60, rfl, hbb58, _, hnb61⟩
          have HPb62 := hideN (HPb56.out.below hbb58)
          have HQb63 := hideN (HQb55.out.below hbb58)
          have HRb64 := hideN hnb61
          have hb59 : Below w19.heap.size w19 Vb57 := belNext hb51 hbb58
          obtain ⟨⟨z0, z1, z2⟩, y0, y1, y2⟩ := HCL.out Vb57 hb59
          refine ⟨⟨z0, z1, z2, y0, y1, y2⟩, ?_⟩
          refine oneU (i := 5) (by kernel_rfl) rfl (by rfl) ?_
          simp only [List.getElem_toArray, List.getElem_cons_zero, List.getElem_cons_succ]
          go_simp
          refine (HIP.out Vb57 bpb4 brb60 HPb62.out HRb64.out).mono ?_
          rintro e Vb65 ⟨ab68, cb69, rfl, hrb70, hbb66⟩
          have HNEb71 : Hid (∀ k, (Value.slice ab68 m cb69).ownBlock = some k → k ≠ qb53) := fun k e => by have := (World.ownsRow.lt hrb70 k e).1; have := HQb63.out.lt; omega
          have HQb72 := hideN (HQb63.out.below hbb66)
          have HWb73 := hideN hrb70
          have hb67 : Below w19.heap.size w19 Vb65 := belNext hb59 hbb66
          obtain ⟨⟨z0, z1, z2⟩, y0, y1, y2⟩ := HCL.out Vb65 hb67
          refine ⟨⟨z0, z1, z2, y0, y1, y2⟩, ?_⟩
          refine takeU (i := 6) (v := .tuple #[.agg #[.int .i64 fv, .slice ab68 m cb69, .int .i64 fr], .bool f]) rfl (by rfl) (by kernel_rfl) (by kernel_rfl) (by kernel_rfl) (by kernel_rfl) (by kernel_rfl) (fun _ _ _ h => h) (Or.inl ⟨by rfl, fun w hS => by obtain ⟨z0, z1, z2, y0, y1, y2⟩ := hS; go_simp⟩) ⟨z0, z1, z2, y0, y1, y2⟩ ?_
          simp only [List.getElem_toArray, List.getElem_cons_zero, List.getElem_cons_succ, Act.put, List.setIfInBounds_toArray, List.set_cons_zero, List.set_cons_succ]
          refine takeU (i := 7) (v := .agg #[.int .i64 fv, .slice ab68 m cb69, .int .i64 fr]) rfl (by rfl) (by kernel_rfl) (by kernel_rfl) (by kernel_rfl) (by kernel_rfl) (by kernel_rfl) (fun _ _ _ h => h) (Or.inl ⟨by rfl, fun w hS => by obtain ⟨z0, z1, z2, y0, y1, y2⟩ := hS; go_simp⟩) ⟨z0, z1, z2, y0, y1, y2⟩ ?_
          simp only [List.getElem_toArray, List.getElem_cons_zero, List.getElem_cons_succ, Act.put, List.setIfInBounds_toArray, List.set_cons_zero, List.set_cons_succ]
          refine takeU (i := 8) (v := .bool f) rfl (by rfl) (by kernel_rfl) (by kernel_rfl) (by kernel_rfl) (by kernel_rfl) (by kernel_rfl) (fun _ _ _ h => h) (Or.inl ⟨by rfl, fun w hS => by obtain ⟨z0, z1, z2, y0, y1, y2⟩ := hS; go_simp⟩) ⟨z0, z1, z2, y0, y1, y2⟩ ?_
          simp only [List.getElem_toArray, List.getElem_cons_zero, List.getElem_cons_succ, Act.put, List.setIfInBounds_toArray, List.set_cons_zero, List.set_cons_succ]
          have m0 := HQb72.out.c0
          have m1 := HQb72.out.c1
          have m2 := HQb72.out.c2
          have m3 := HQb72.out.f 0
          have m4 := HQb72.out.f 1
          have m5 := HQb72.out.f 2
          have m6 := HQb72.out.lt
          have HQZ := hideN (HQb72.out.set (.int .i64 fv) (.slice ab68 m cb69) (.int .i64 fr))
          have HRZ : Hid ((set3 Vb65 qb53 (.int .i64 fv) (.slice ab68 m cb69) (.int .i64 fr)).ownsRow 0 68 3 (.slice ab68 m cb69) m (ndV l)) := row_base (row_of_block HWb73.out (fun k e => set3_other _ _ _ (HNEb71.out k e))) (Nat.zero_le _)
          have HBZ := hideN (set3_below hb67 hqb54 (.int .i64 fv) (.slice ab68 m cb69) (.int .i64 fr))
          have n1 : w.heap.size ≠ qb53 := by have := hqb54; have := HS3.out; omega
          have n2 : qb53 ≠ w.heap.size := by have := hqb54; have := HS3.out; omega
          have n3 : w.heap.size + 1 ≠ qb53 := by have := hqb54; have := HS3.out; omega
          have n4 : qb53 ≠ w.heap.size + 1 := by have := hqb54; have := HS3.out; omega
          refine oneU (i := 10) (by kernel_rfl) rfl (by rfl) ?_
          simp only [List.getElem_toArray, List.getElem_cons_zero, List.getElem_cons_succ]
          go_simp
          refine oneU (i := 11) (by kernel_rfl) rfl (by rfl) ?_
          simp only [List.getElem_toArray, List.getElem_cons_zero, List.getElem_cons_succ]
          go_simp
          refine doneU (by kernel_rfl) ?_ _
          go_wp2_with fail
          go_meet
          case rel => exact ⟨qb53, ab68, cb69, rfl, rfl, HQZ, HRZ, HBZ, hqb54⟩
      · simp only [List.getElem_toArray, List.getElem_cons_zero, List.getElem_cons_succ]
        go_simp
        obtain ⟨Vb74, hVb77⟩ : ∃ V', V' = (w19.alloc (.cells #[.int .i64 0, .slice none 0 0, .int .i64 0] 29)).drew := ⟨_, rfl⟩
        try rw [← hVb77]
        have hb76 : Below w19.heap.size w19 Vb74 := by rw [hVb77]; exact belNext (belOne _ _) (below_drewN (Below.refl _ _) 1)
        have HQb80 : Hid (BlkD Vb74 w19.heap.size (.int .i64 0) (.slice none 0 0) (.int .i64 0)) := by rw [hVb77]; exact BlkD.new w19 _ _ _
        have hqb79 : w19.heap.size ≤ w19.heap.size := Nat.le_refl _
        clear hVb77
        obtain ⟨⟨z0, z1, z2⟩, y0, y1, y2⟩ := HCL.out _ (belOne w19 (.cells #[.int .i64 0, .slice none 0 0, .int .i64 0] 29))
        refine ⟨⟨z0, z1, z2, y0, y1, y2⟩, ?_⟩
        obtain ⟨⟨z0, z1, z2⟩, y0, y1, y2⟩ := HCL.out Vb74 hb76
        refine oneU (i := 2) (by kernel_rfl) rfl (by rfl) ?_
        simp only [List.getElem_toArray, List.getElem_cons_zero, List.getElem_cons_succ]
        go_simp
        refine (toBdd_any va ra ao n cap na Vb74 (HN.out _ (belNext HB19.out hb76)) hbig).mono ?_
        rintro e Vb81 ⟨bpb84, rfl, hbb82, _, hnb85⟩
        have HQb86 := hideN (HQb80.out.below hbb82)
        have HPb87 := hideN hnb85
        have hb83 : Below w19.heap.size w19 Vb81 := belNext hb76 hbb82
        obtain ⟨⟨z0, z1, z2⟩, y0, y1, y2⟩ := HCL.out Vb81 hb83
        refine ⟨⟨z0, z1, z2, y0, y1, y2⟩, ?_⟩
        refine oneU (i := 4) (by kernel_rfl) rfl (by rfl) ?_
        simp only [List.getElem_toArray, List.getElem_cons_zero, List.getElem_cons_succ]
        go_simp
        refine (toBdd_any vb rb bo n2 cap2 nb Vb81 (HN2.out _ (belNext HB19.out hb83)) hbig2).mono ?_
        rintro e Vb88 ⟨brb91, rfl, hbb89, _, hnb92⟩
        have HPb93 := hideN (HPb87.out.below hbb89)
        have HQb94 := hideN (HQb86.out.below hbb89)
        have HRb95 := hideN hnb92
        have hb90 : Below w19.heap.size w19 Vb88 := belNext hb83 hbb89
        obtain ⟨⟨z0, z1, z2⟩, y0, y1, y2⟩ := HCL.out Vb88 hb90
        refine ⟨⟨z0, z1, z2, y0, y1, y2⟩, ?_⟩
        refine oneU (i := 5) (by kernel_rfl) rfl (by rfl) ?_
        simp only [List.getElem_toArray, List.getElem_cons_zero, List.getElem_cons_succ]
        go_simp
        refine (HIP.out Vb88 bpb84 brb91 HPb93.out HRb95.out).mono ?_
        rintro e Vb96 ⟨ab99, cb100, rfl, hrb101, hbb97⟩
        have HNEb102 : Hid (∀ k, (Value.slice ab99 m cb100).ownBlock = some k → k ≠ w19.heap.size) := fun k e => by have := (World.ownsRow.lt hrb101 k e).1; have := HQb94.out.lt; omega
        have HQb103 := hideN (HQb94.out.below hbb97)
        have HWb104 := hideN hrb101
        have hb98 : Below w19.heap.size w19 Vb96 := belNext hb90 hbb97
        obtain ⟨⟨z0, z1, z2⟩, y0, y1, y2⟩ := HCL.out Vb96 hb98
        refine ⟨⟨z0, z1, z2, y0, y1, y2⟩, ?_⟩
        refine takeU (i := 6) (v := .tuple #[.agg #[.int .i64 fv, .slice ab99 m cb100, .int .i64 fr], .bool f]) rfl (by rfl) (by kernel_rfl) (by kernel_rfl) (by kernel_rfl) (by kernel_rfl) (by kernel_rfl) (fun _ _ _ h => h) (Or.inl ⟨by rfl, fun w hS => by obtain ⟨z0, z1, z2, y0, y1, y2⟩ := hS; go_simp⟩) ⟨z0, z1, z2, y0, y1, y2⟩ ?_
        simp only [List.getElem_toArray, List.getElem_cons_zero, List.getElem_cons_succ, Act.put, List.setIfInBounds_toArray, List.set_cons_zero, List.set_cons_succ]
        refine takeU (i := 7) (v := .agg #[.int .i64 fv, .slice ab99 m cb100, .int .i64 fr]) rfl (by rfl) (by kernel_rfl) (by kernel_rfl) (by kernel_rfl) (by kernel_rfl) (by kernel_rfl) (fun _ _ _ h => h) (Or.inl ⟨by rfl, fun w hS => by obtain ⟨z0, z1, z2, y0, y1, y2⟩ := hS; go_simp⟩) ⟨z0, z1, z2, y0, y1, y2⟩ ?_
        simp only [List.getElem_toArray, List.getElem_cons_zero, List.getElem_cons_succ, Act.put, List.setIfInBounds_toArray, List.set_cons_zero, List.set_cons_succ]
        refine takeU (i := 8) (v := .bool f) rfl (by rfl) (by kernel_rfl) (by kernel_rfl) (by kernel_rfl) (by kernel_rfl) (by kernel_rfl) (fun _ _ _ h => h) (Or.inl ⟨by rfl, fun w hS => by obtain ⟨z0, z1, z2, y0, y1, y2⟩ := hS; go_simp⟩) ⟨z0, z1, z2, y0, y1, y2⟩ ?_
        simp only [List.getElem_toArray, List.getElem_cons_zero, List.getElem_cons_succ, Act.put, List.setIfInBounds_toArray, List.set_cons_zero, List.set_cons_succ]
        have m0 := HQb103.out.c0
        have m1 := HQb103.out.c1
        have m2 := HQb103.out.c2
        have m3 := HQb103.out.f 0
        have m4 := HQb103.out.f 1
        have m5 := HQb103.out.f 2
        have m6 := HQb103.out.lt
        have HQZ := hideN (HQb103.out.set (.int .i64 fv) (.slice ab99 m cb100) (.int .i64 fr))
        have HRZ : Hid ((set3 Vb96 w19.heap.size (.int .i64 fv) (.slice ab99 m cb100) (.int .i64 fr)).ownsRow 0 68 3 (.slice ab99 m cb100) m (ndV l)) := row_base (row_of_block HWb104.out (fun k e => set3_other _ _ _ (HNEb102.out k e))) (Nat.zero_le _)
        have HBZ := hideN (set3_below hb98 hqb79 (.int .i64 fv) (.slice ab99 m cb100) (.int .i64 fr))
        have n1 : w.heap.size ≠ w19.heap.size := by have := hqb79; have := HS3.out; omega
        have n2 : w19.heap.size ≠ w.heap.size := by have := hqb79; have := HS3.out; omega
        have n3 : w.heap.size + 1 ≠ w19.heap.size := by have := hqb79; have := HS3.out; omega
        have n4 : w19.heap.size ≠ w.heap.size + 1 := by have := hqb79; have := HS3.out; omega
        refine oneU (i := 10) (by kernel_rfl) rfl (by rfl) ?_
        simp only [List.getElem_toArray, List.getElem_cons_zero, List.getElem_cons_succ]
        go_simp
        refine oneU (i := 11) (by kernel_rfl) rfl (by rfl) ?_
        simp only [List.getElem_toArray, List.getElem_cons_zero, List.getElem_cons_succ]
        go_simp
        refine doneU (by kernel_rfl) ?_ _
        go_wp2_with fail
        go_meet
        case rel => exact ⟨w19.heap.size, ab99, cb100, rfl, rfl, HQZ, HRZ, HBZ, hqb79⟩
    case rest =>
      rename World => w20
      obtain ⟨q2, ah, ch, rfl, rfl, HBH, HRH, HB1920, hq2⟩ := hcut
      have HE20 := hideN (HE19.out.below HB1920.out)
      clear HB1920 hq2 HE19 HU19 HS3
      have x0 := HE20.out.bw.c0
      have x1 := HE20.out.bw.c1
      have x2 := HE20.out.bw.c2
      have x3 := HE20.out.bw.lt
      have y0 := HBH.out.c0
      have y1 := HBH.out.c1
      have y2 := HBH.out.c2
      have y3 := HBH.out.lt
      go_wp2_with fail
      refine (HEQ.out w20 ah aw ch cw _ _ HRH.out HE20.out.rw).mono ?_
      rintro e w21 ⟨rfl, hb21⟩
      have HE21 := hideN (HE20.out.below hb21)
      clear HE20 HRH hb21 x0 x1 x2 x3 y0 y1 y2 y3 HBH
      have y0 := HE21.out.bg.c0
      have y1 := HE21.out.bg.c1
      have y2 := HE21.out.bg.c2
      have y3 := HE21.out.bg.lt
      go_wp2_with fail
      refine (heldBdd_any fv fr ag m cg w21 HE21.out.ig (by omega)).mono ?_
      rintro e w22 ⟨rfl, hb22⟩
      have HBE := hideN (belNext HE21.out.be hb22)
      clear hb22 HE21 y0 y1 y2 y3
      go_wp2_with fail
      go_ret
      exact ⟨rfl, HBE.out⟩

set_option maxRecDepth 100000 in
theorem fnExactBddTwo_lifted (os : Os) (started : os.Started) (H : Type) (enc : TypeId × Value → H) :
    ReturnsInHanded {} Try.checked os 8 .any (Rows.fnExactBddTwoSpec.pre6 enc Try.prog Try.f8 Rows.fnExactBddTwoRow.domain false) (Rows.fnExactBddTwoSpec.post enc Try.prog Try.f8 false true false false) := by
  refine returnsInHanded_of_change (C := Try.checked) own started (by kernel_rfl) Try.func8
    (ChangeSpec.witness6 (enc := enc) (C := Try.checked) false ⟨#[], #[.string ⟨#[]⟩, .agg #[.int .i64 0, .slice none 0 0, .int .i64 0], .agg #[.int .i64 0, .slice none 0 0, .int .i64 0]], []⟩ 8 (by kernel_rfl) (by kernel_rfl) (by kernel_rfl) (by kernel_rfl)) ?_
  intro W base args ds gs before hval0 hW hcnd _
  have hval : ∀ (j : Nat) t v, Try.f8.params[j]? = some t → args[j]? = some v → Value.okWide Try.prog W .any base t v := hval0
  have hW' := hW
  obtain ⟨p, q, hA0, hV, rfl, hfz, hnd⟩ := hW
  have hA : DataW.TrodAll enc Try.prog W 0 (fun _ => true) true Try.f8.params.toList args.toList ds p := hA0
  rw [Try.params8] at hA hval
  obtain ⟨v0, vs0, d0, ds0, p0, q0, hargs, rfl, rfl, h0, r0⟩ := trodAll_cons hA
  obtain ⟨v1, vs1, d1, ds1, p1, q1, rfl, rfl, rfl, h1, r1⟩ := trodAll_cons r0
  obtain ⟨v2, vs2, d2, ds2, p2, q2, rfl, rfl, rfl, h2, r2⟩ := trodAll_cons r1
  obtain ⟨rfl, rfl, rfl⟩ := trodAll_nil r2
  obtain rfl : args = #[v0, v1, v2] := by cases args; simp_all
  obtain ⟨rfl, rfl⟩ := trodVars_none hV
  have k0 := h0
  have k1 := h1
  have k2 := h2
  have lt2 : ∀ x ∈ p2, x.block < W.heap.size := by obtain ⟨m, hm⟩ := k2; exact DataW.trod_lt m _ _ _ hm
  have lt1 : ∀ x ∈ p1, x.block < W.heap.size := by obtain ⟨m, hm⟩ := k1; exact DataW.trod_lt m _ _ _ hm
  have lt0 : ∀ x ∈ p0, x.block < W.heap.size := by obtain ⟨m, hm⟩ := k0; exact DataW.trod_lt m _ _ _ hm
  obtain ⟨sg, rfl⟩ := okWide_string Try.underlying9 (hval 0 9 v0 rfl rfl)
  have hs2 : sg.size ≤ maxLen := by
    obtain ⟨fuel, hf⟩ := h0
    obtain ⟨s', hs1, _, hs2⟩ := DataW.trod_string Try.underlying9 hf
    simp [Value.cells] at hs1
    subst hs1
    exact hs2
  obtain ⟨va, ra, ao, n, cap, na, rfl, hN, hml, h64, _, hr⟩ := bdd_of_trod (hval 1 24 v1 rfl rfl) h1
  obtain ⟨vb, rb, bo, n2, cap2, nb, rfl, hN2, hml2, h642, _, hr2⟩ := bdd_of_trod (hval 2 24 v2 rfl rfl) h2
  clear hA0 hval0
  refine (fnExactBddTwo_walk sg va ra vb rb ao bo n cap n2 cap2 na nb W hs2 hN hml h64 hr hN2 hml2 h642 hr2).mono fun e W' ⟨he, bel⟩ => ?_
  subst he
  exact ⟨_, rfl, _, _, _, [], _, [], hW', trodAll_mk1 (shut_bool Try.underlying4 _), (trodAll_cons_mk (Below.trod laidOutN (by kernel_rfl) (of_decide_eq_true (by kernel_rfl)) k0 bel lt0) (trodAll_cons_mk (Below.trod laidOutN (by kernel_rfl) (of_decide_eq_true (by kernel_rfl)) k1 bel lt1) (trodAll_cons_mk (Below.trod laidOutN (by kernel_rfl) (of_decide_eq_true (by kernel_rfl)) k2 bel lt2) trodAll_mk0))), rfl, bel.frame _, fun h => by cases h⟩

theorem fnExactBddTwo_holds : Rows.FnExactBddTwoSaid :=
  OpenClaim.holds_of_wide 8 Try.f8 rfl rfl rfl rfl rfl rfl rfl ⟨rfl, rfl, rfl, rfl, rfl⟩ rfl rfl rfl rfl rfl (by kernel_rfl) Try.func8 (by kernel_rfl)
    (of_decide_eq_true (by kernel_rfl)) (by unfold Func.isWrapper; first | (rw [if_pos (by decide +kernel)]; kernel_rfl) | (rw [if_neg (by decide +kernel)]; exact ⟨rfl, rfl⟩))
    (fun os started H enc _ => fnExactBddTwo_lifted os started H enc)

end Go.Proofs.Ytlbmlhncioampaa

/-
  The law FnExactBddSome: at every diagram and variable the program's BddSome answers as the model's, writes into no argument, and its answer owns its memory. No condition: every argument that can be read.
-/
import Derived.Test.YthknboefajbnkaaOneN
import Derived.Test.YthknboefajbnkaaBdSp
namespace Go.Proofs.Ythknboefajbnkaa
open Go.ChangeShapes Go.WideShapes Go.ChangeAt Go.RowKit Go.Deep Go.Joins
set_option linter.unusedVariables false

attribute [local go_sem] Oper.semAt_some

set_option maxRecDepth 100000 in
set_option maxHeartbeats 8000000 in
theorem fnExactBddSome_walk (vi root v : Int) (ao : Option Addr) (n cap : Nat) (ns : List Nd) (w : World) (hN : Nds w ao n cap ns) (hml : n ≤ maxLen) (h64 : ∀ p ∈ ns, I64N p) (hr : I64 root) :
    Calls Try.prog 10 #[.agg #[.int .i64 vi, .slice ao n cap, .int .i64 root], .int .i64 v] w fun e w' => e = .returned (.bool true) ∧ Below w.heap.size w w' := by
  have HN : Hid (∀ w', Below w.heap.size w w' → Nds w' ao n cap ns) := fun w' h => hN.below h
  have HL := hideN hN.len
  have H64 := hideN h64
  have HR := hideN hr
  have hll := someT_le (vi := vi) (ns := ns) (root := root) (v := v)
  obtain ⟨A, hA⟩ : ∃ A, ansOf (bddB vi ns root && varB vi v) vi (someT vi ns root v) = A := ⟨_, rfl⟩
  rw [hA] at hll
  obtain ⟨fv, l, fr⟩ := A
  obtain ⟨m, hm⟩ : ∃ m, l.length = m := ⟨_, rfl⟩
  have HMM := hideN hm
  have hm64 : m ≤ 64 := by rw [← hm]; exact hll
  have HSP : Hid (∀ (W : World) (b : Nat), n ≤ 1048576 → Nds W (some ⟨b, 0, none⟩) n n ns → Calls Try.prog 37 #[.agg #[.int .i64 vi, .slice (some ⟨b, 0, none⟩) n n, .int .i64 root], .int .i64 v] W fun e w' => ∃ a c, e = .returned (.agg #[.int .i64 fv, .slice a m c, .int .i64 fr]) ∧ w'.ownsRow W.heap.size 70 3 (.slice a m c) m (ndV l) ∧ Below W.heap.size W w') := fun W b hn hW => by
    have h := specBddSome_any vi root v _ n n ns W hW h64 hr (by omega)
    rw [hA] at h
    refine h.mono ?_
    rintro e w' ⟨a, m', c, rfl, h1, h2, h3⟩
    have e1 : m' = m := h1.symm.trans hm
    subst e1
    exact ⟨a, c, rfl, h2, h3⟩
  have HIP : Hid (∀ (W : World) (b : Nat), Nds W (some ⟨b, 0, none⟩) n n ns → Calls Try.prog 38 #[.agg #[.int .i64 vi, .slice (some ⟨b, 0, none⟩) n n, .int .i64 root], .int .i64 v] W fun e w' => ∃ a c, e = .returned (.agg #[.int .i64 fv, .slice a m c, .int .i64 fr]) ∧ w'.ownsRow W.heap.size 70 3 (.slice a m c) m (ndV l) ∧ Below W.heap.size W w') := fun W b hW => by
    have h := implBddSome_any vi root v _ n n ns W hW h64 hr
    rw [hA] at h
    refine h.mono ?_
    rintro e w' ⟨a, m', c, rfl, h1, h2, h3⟩
    have e1 : m' = m := h1.symm.trans hm
    subst e1
    exact ⟨a, c, rfl, h2, h3⟩
  have HEQ : Hid (∀ (W : World) (a1 a2 : Option Addr) (c1 c2 lo1 lo2 : Nat), W.ownsRow lo1 70 3 (.slice a1 m c1) m (ndV l) → W.ownsRow lo2 70 3 (.slice a2 m c2) m (ndV l) → Calls Try.prog 17 #[.agg #[.int .i64 fv, .slice a1 m c1, .int .i64 fr], .agg #[.int .i64 fv, .slice a2 m c2, .int .i64 fr]] W fun e w' => e = .returned (.bool true) ∧ Below W.heap.size W w') := fun W a1 a2 c1 c2 lo1 lo2 h1 h2 =>
    eqBdd_same fv fr a1 a2 m c1 c2 l W (isNds_row h1 HMM.out) (isNds_row h2 HMM.out) (by have := HMM.out; omega)
  obtain ⟨W1, hW1⟩ : ∃ W1, W1 = w.alloc (.cells #[.int .i64 vi, .slice ao n cap, .int .i64 root] 36) := ⟨_, rfl⟩
  have HB1 : Hid (Below w.heap.size w W1) := by rw [hW1]; exact belOne _ _
  have HT1 : Hid (BlkL W1 w.heap.size (.int .i64 vi) (.slice ao n cap) (.int .i64 root)) := by rw [hW1]; exact BlkL.new _ _ _ _
  have HW1 := hideN hW1
  have HSZ := hideN (szBdd_any vi root ao n cap 1048576 W1 hml (by omega) (by omega))
  clear hN h64 hr hW1 hm hA hll
  by_cases hbig : n ≤ 1048576
  case neg =>
    have HZ : Hid ((if (n : Int) ≤ 1048576 then 1048576 - (n : Int) else -1) = -1) := by show _ = _; rw [if_neg (by omega)]
    go_enter Try.func10, Try.ntmps10
    go_wp2_with fail
    rw [← HW1.out]
    refine HSZ.out.mono ?_
    rintro e w2 ⟨rfl, hb2⟩
    have HB2 := hideN (belNext HB1.out hb2)
    clear hb2
    rw [HZ.out]
    go_wp2
    go_ret
    exact ⟨rfl, HB2.out⟩
  have HZ : Hid ((if (n : Int) ≤ 1048576 then 1048576 - (n : Int) else -1) = 1048576 - (n : Int)) := by show _ = _; rw [if_pos (by omega)]
  go_enter Try.func10, Try.ntmps10
  go_wp2_with fail
  rw [← HW1.out]
  refine HSZ.out.mono ?_
  rintro e w2 ⟨rfl, hb2⟩
  have HB2 := hideN (belNext HB1.out hb2)
  have HT2 := hideN (HT1.out.below hb2)
  clear hb2
  rw [HZ.out]
  have c0 := HT2.out.c0
  have c1 := HT2.out.c1
  have c2 := HT2.out.c2
  have c3 := HT2.out.lt
  go_wp2_with fail
  refine (toBdd_any vi root ao n cap ns w2 (HN.out _ HB2.out) hbig).mono ?_
  rintro e w3 ⟨b3, rfl, hb3, _, hn3⟩
  have HB3 := hideN (belNext HB2.out hb3)
  have HT3 := hideN (HT2.out.below hb3)
  have HN3 := hideN hn3
  clear hb3 hn3 c0 c1 c2 c3
  go_wp2_with fail
  refine (HSP.out w3 b3 hbig HN3.out).mono ?_
  rintro e w4 ⟨aw, cw, rfl, hrw, hb4⟩
  have HB4 := hideN (belNext HB3.out hb4)
  have HT4 := hideN (HT3.out.below hb4)
  have HRW := hideN hrw
  clear hb4 hrw
  have c0 := HT4.out.c0
  have c1 := HT4.out.c1
  have c2 := HT4.out.c2
  have c3 := HT4.out.lt
  go_wp2_with fail
  obtain ⟨V4, hV4⟩ : ∃ V4, V4 = w4.alloc (.cells #[.int .i64 fv, .slice aw m cw, .int .i64 fr] 25) := ⟨_, rfl⟩
  try rw [← hV4]
  have hb44 : Below w4.heap.size w4 V4 := by rw [hV4]; exact belOne _ _
  have HS4 : Hid (V4.heap.size = w4.heap.size + 1) := by show _ = _; rw [hV4]; simp
  have HBW4 : Hid (BlkD V4 w4.heap.size (.int .i64 fv) (.slice aw m cw) (.int .i64 fr)) := by rw [hV4]; exact BlkD.new _ _ _ _
  have HBV4 := hideN (belNext HB4.out hb44)
  have HTV4 := hideN (HT4.out.below hb44)
  have HRV4 := hideN (row_base (row_below HRW.out hb44) (Nat.zero_le _))
  have HKW4 : Hid (∀ k, (Value.slice aw m cw).ownBlock = some k → k < w4.heap.size) := fun k e => (World.ownsRow.lt HRW.out k e).2
  have HSW : Hid (w.heap.size < w4.heap.size) := HT4.out.lt
  clear hV4 hb44 HB4 HT4 HRW
  generalize w4.heap.size = sw at *
  refine (toBdd_any vi root ao n cap ns V4 (HN.out _ HBV4.out) hbig).mono ?_
  rintro e w5 ⟨b5, rfl, hb5, ⟨hs5, hr5⟩, hn5⟩
  have HB5 := hideN (belNext HBV4.out hb5)
  have HT5 := hideN (HTV4.out.below hb5)
  have HN5 := hideN hn5
  have HR5 := hideN hr5
  have HS5 := hideN hs5
  have HBW5 := hideN (HBW4.out.below hb5)
  have HRW5 := hideN (row_below HRV4.out hb5)
  clear hb5 hn5 c0 c1 c2 c3 hr5 hs5
  go_wp2_with fail
  obtain ⟨W6, hW6⟩ : ∃ W6, W6 = w5.alloc (.cells #[.int .i64 vi, .slice (some ⟨b5, 0, none⟩) n n, .int .i64 root] 25) := ⟨_, rfl⟩
  try rw [← hW6]
  have hb56 : Below w5.heap.size w5 W6 := by rw [hW6]; exact belOne _ _
  have HO6 : Hid (OneSt w W6 w5.heap.size b5 vi root ao n cap ns) := ⟨HT5.out.below hb56, by rw [hW6]; exact BlkD.new _ _ _ _, HR5.out.of_block (hb56.block _ HR5.out.lt), HN5.out.below hb56, belNext HB5.out hb56⟩
  have HBW6 := hideN (HBW5.out.below hb56)
  have HRW6 := hideN (row_below HRW5.out hb56)
  have HKW : Hid (∀ k, (Value.slice aw m cw).ownBlock = some k → k < b5) := fun k e => by have := HKW4.out k e; have := HS5.out; have := HS4.out; omega
  have HSB : Hid (w.heap.size < b5 ∧ b5 < W6.heap.size ∧ sw < b5) := ⟨by have := HS5.out; have := HS4.out; have := HSW.out; omega, by have := HR5.out.lt; have := hb56.size; omega, by have := HS5.out; have := HS4.out; omega⟩
  clear hW6 hb56 HB5 HT5 HN5 HR5 HBW5 HRW5 HBW4 HRV4 HS5 HS4 HSW HKW4 HBV4 HTV4
  generalize w5.heap.size = sx at *
  refine (HIP.out W6 b5 HO6.out.nx).mono ?_
  rintro e w7 ⟨ag, cg, rfl, hrg, hb7⟩
  have HRG := hideN hrg
  have HO7 := hideN (HO6.out.below hb7)
  have HBW7 := hideN (HBW6.out.below hb7)
  have HRW7 := hideN (row_below HRW6.out hb7)
  have HS7 : Hid (W6.heap.size ≤ w7.heap.size) := hb7.size
  clear hb7 hrg HO6 HBW6 HRW6
  generalize W6.heap.size = lo at *
  have x0 := HBW7.out.c0
  have x1 := HBW7.out.c1
  have x2 := HBW7.out.c2
  have x3 := HBW7.out.lt
  go_wp2_with fail
  obtain ⟨V7, hV7⟩ : ∃ V7, V7 = w7.alloc (.cells #[.int .i64 fv, .slice ag m cg, .int .i64 fr] 25) := ⟨_, rfl⟩
  try rw [← hV7]
  have hb77 : Below w7.heap.size w7 V7 := by rw [hV7]; exact belOne _ _
  have HST7 : Hid (NbSt w V7 sx b5 sw w7.heap.size lo vi root ao n cap ns fv fr aw ag m cw cg l) := ⟨HO7.out.below hb77, HBW7.out.below hb77, by rw [hV7]; exact BlkD.new _ _ _ _, row_below HRW7.out hb77, row_below HRG.out hb77, HKW.out, fun k e => (World.ownsRow.lt HRG.out k e).2, by have := HSB.out; have := HS7.out; omega⟩
  clear hV7 hb77 HO7 HBW7 HRW7 HRG HKW HSB HS7
  generalize w7.heap.size = sg at *
  refine (HEQ.out V7 ag aw cg cw _ _ HST7.out.rg HST7.out.rw).mono ?_
  rintro e w8 ⟨rfl, hb8⟩
  have HST8 := hideN (HST7.out.below hb8)
  clear HST7 hb8 x0 x1 x2 x3
  go_wp2_with fail
  have HCL := hideN (fun V (hV : Below w8.heap.size w8 V) => HST8.out.o.cells hV)
  obtain ⟨z0, z1, z2, y0, y1, y2⟩ := HCL.out w8.drew (below_drewN (Below.refl _ _) 1)
  refine region_U (fin := 3) (S := fun V => V.cell? ⟨w.heap.size, 0, none⟩ = some (.int .i64 vi) ∧ V.cell? ⟨w.heap.size, 1, none⟩ = some (.slice ao n cap) ∧ V.cell? ⟨w.heap.size, 2, none⟩ = some (.int .i64 root) ∧ V.cell? ⟨sx, 0, none⟩ = some (.int .i64 vi) ∧ V.cell? ⟨sx, 1, none⟩ = some (.slice (some ⟨b5, 0, none⟩) n n) ∧ V.cell? ⟨sx, 2, none⟩ = some (.int .i64 root)) (by kernel_rfl) ⟨z0, z1, z2, y0, y1, y2⟩ (fun hHeld => ?_)
  clear hHeld
  refine takeU (i := 0) (v := .agg #[.int .i64 vi, .slice (some ⟨b5, 0, none⟩) n n, .int .i64 root]) rfl (by rfl) (by kernel_rfl) (by kernel_rfl) (by kernel_rfl) (by kernel_rfl) (by kernel_rfl) (fun _ _ _ h => h) (Or.inl ⟨by rfl, fun w hS => by obtain ⟨z0, z1, z2, y0, y1, y2⟩ := hS; go_simp⟩) ⟨z0, z1, z2, y0, y1, y2⟩ ?_
  simp only [List.getElem_toArray, List.getElem_cons_zero, Act.put, List.setIfInBounds_toArray, List.set_cons_zero, List.set_cons_succ]
  refine takeU (i := 1) (v := .agg #[.int .i64 vi, .slice ao n cap, .int .i64 root]) rfl (by rfl) (by kernel_rfl) (by kernel_rfl) (by kernel_rfl) (by kernel_rfl) (by kernel_rfl) (fun _ _ _ h => h) (Or.inl ⟨by rfl, fun w hS => by obtain ⟨z0, z1, z2, y0, y1, y2⟩ := hS; go_simp⟩) ⟨z0, z1, z2, y0, y1, y2⟩ ?_
  simp only [List.getElem_toArray, List.getElem_cons_zero, List.getElem_cons_succ, Act.put, List.setIfInBounds_toArray, List.set_cons_zero, List.set_cons_succ]
  refine oneU (i := 2) (by kernel_rfl) rfl (by rfl) ?_
  simp only [List.getElem_toArray, List.getElem_cons_zero, List.getElem_cons_succ]
  go_simp
  have hbd := below_drewN (Below.refl w8.heap.size w8) 1
  refine (toBdd_any vi root ao n cap ns w8.drew (HN.out _ (belNext HST8.out.o.be hbd)) hbig).mono ?_
  rintro e w9 ⟨b9, rfl, hb9, _, hn9⟩
  have hb89 : Below w8.heap.size w8 w9 := belNext hbd hb9
  have HST9 := hideN (HST8.out.below hb89)
  have HN9 := hideN hn9
  refine ⟨HCL.out w9 hb89, ?_⟩
  clear hbd hb9 hb89 hn9 z0 z1 z2 y0 y1 y2
  refine oneU (i := 3) (by kernel_rfl) rfl (by rfl) ?_
  simp only [List.getElem_toArray, List.getElem_cons_zero, List.getElem_cons_succ]
  go_simp
  refine (eqBdd_same vi root _ _ n _ _ ns w9 HST9.out.o.nx.is HN9.out.is (by have := HL.out; omega)).mono ?_
  rintro e w10 ⟨rfl, hb10⟩
  have HST10 := hideN (HST9.out.below hb10)
  clear hb10 HST8 HST9 HN9 HCL
  refine oneU (i := 4) (by kernel_rfl) rfl (by rfl) ?_
  simp only [List.getElem_toArray, List.getElem_cons_zero, List.getElem_cons_succ]
  go_simp
  refine doneU (by kernel_rfl) ?_ _
  have x0 := HST10.out.o.bx.c0
  have x1 := HST10.out.o.bx.c1
  have x2 := HST10.out.o.bx.c2
  have x3 := HST10.out.o.bx.lt
  go_wp2_with fail
  refine (markBdd_copy vi root b5 n _ w10 HST10.out.o.rx hbig).mono ?_
  rintro e w11 ⟨rfl, hc11⟩
  have HD11 := hideN (HST10.out.marked hc11)
  have k11 : decide ((1 : Int) + 3 * (n : Int) < 0) = false := by simp; omega
  clear hc11 x0 x1 x2 x3 HST10
  have x0 := HD11.out.bw.c0
  have x1 := HD11.out.bw.c1
  have x2 := HD11.out.bw.c2
  have x3 := HD11.out.bw.lt
  have y0 := HD11.out.bg.c0
  have y1 := HD11.out.bg.c1
  have y2 := HD11.out.bg.c2
  have y3 := HD11.out.bg.lt
  go_wp2_with fail
  refine (HEQ.out w11 ag aw cg cw _ _ HD11.out.rg HD11.out.rw).mono ?_
  rintro e w12 ⟨rfl, hb12⟩
  have HD12 := hideN (HD11.out.below hb12)
  clear HD11 k11 hb12 x0 x1 x2 x3 y0 y1 y2 y3
  have y0 := HD12.out.bg.c0
  have y1 := HD12.out.bg.c1
  have y2 := HD12.out.bg.c2
  have y3 := HD12.out.bg.lt
  go_wp2_with fail
  refine (markBdd_any fv fr _ ag m cg _ w12 HD12.out.rg (by omega)).mono ?_
  rintro e w13 ⟨rfl, hi13, hc13⟩
  have HE13 := hideN (HD12.out.marked hc13 hi13)
  clear hi13 hc13 HD12 y0 y1 y2 y3
  have y0 := HE13.out.bg.c0
  have y1 := HE13.out.bg.c1
  have y2 := HE13.out.bg.c2
  have y3 := HE13.out.bg.lt
  go_wp2_with fail
  refine (heldBdd_any fv fr ag m cg w13 HE13.out.ig (by omega)).mono ?_
  rintro e w14 ⟨rfl, hb14⟩
  have HE14 := hideN (HE13.out.below hb14)
  have k14 : decide ((1 : Int) + 3 * (m : Int) < 0) = false := by simp; omega
  clear hb14 HE13 y0 y1 y2 y3
  have c0 := HE14.out.b0.c0
  have c1 := HE14.out.b0.c1
  have c2 := HE14.out.b0.c2
  have c3 := HE14.out.b0.lt
  go_wp2_with fail
  refine (toBdd_any vi root ao n cap ns w14 (HN.out _ HE14.out.be) hbig).mono ?_
  rintro e w15 ⟨b15, rfl, hb15, _, hn15⟩
  have HE15 := hideN (HE14.out.below hb15)
  have HN15 := hideN hn15
  clear hb15 hn15 c0 c1 c2 c3 HE14
  go_wp2_with fail
  refine (HIP.out w15 b15 HN15.out).mono ?_
  rintro e w16 ⟨ah, ch, rfl, hrh, hb16⟩
  have HE16 := hideN (HE15.out.below hb16)
  have HRH := hideN hrh
  clear hb16 hrh HE15 HN15
  have x0 := HE16.out.bw.c0
  have x1 := HE16.out.bw.c1
  have x2 := HE16.out.bw.c2
  have x3 := HE16.out.bw.lt
  go_wp2_with fail
  obtain ⟨V16, hV16⟩ : ∃ V16, V16 = w16.alloc (.cells #[.int .i64 fv, .slice ah m ch, .int .i64 fr] 25) := ⟨_, rfl⟩
  try rw [← hV16]
  have HE17 : Hid (NeSt w V16 sw sg vi root ao n cap fv fr aw ag m cw cg l) := by rw [hV16]; exact HE16.out.below (belOne _ _)
  have HRH17 : Hid (V16.ownsRow w15.heap.size 70 3 (.slice ah m ch) m (ndV l)) := by rw [hV16]; exact row_below HRH.out (belOne _ _)
  clear hV16 HE16 HRH x0 x1 x2 x3
  refine (HEQ.out V16 ah aw ch cw _ _ HRH17.out HE17.out.rw).mono ?_
  rintro e w18 ⟨rfl, hb18⟩
  have HE18 := hideN (HE17.out.below hb18)
  clear HE17 HRH17 hb18
  have y0 := HE18.out.bg.c0
  have y1 := HE18.out.bg.c1
  have y2 := HE18.out.bg.c2
  have y3 := HE18.out.bg.lt
  go_wp2_with fail
  refine (heldBdd_any fv fr ag m cg w18 HE18.out.ig (by omega)).mono ?_
  rintro e w19 ⟨rfl, hb19⟩
  have HBE := hideN (belNext HE18.out.be hb19)
  clear hb19 HE18 y0 y1 y2 y3
  go_wp2_with fail
  go_ret
  exact ⟨rfl, HBE.out⟩

set_option maxRecDepth 100000 in
theorem fnExactBddSome_lifted (os : Os) (started : os.Started) (H : Type) (enc : TypeId × Value → H) :
    ReturnsInHanded {} Try.checked os 10 .any (Rows.fnExactBddSomeSpec.pre6 enc Try.prog Try.f10 Rows.fnExactBddSomeRow.domain false) (Rows.fnExactBddSomeSpec.post enc Try.prog Try.f10 false true false false) := by
  refine returnsInHanded_of_change (C := Try.checked) own started (by kernel_rfl) Try.func10
    (ChangeSpec.witness6 (enc := enc) (C := Try.checked) false ⟨#[], #[.agg #[.int .i64 0, .slice none 0 0, .int .i64 0], .int .i64 0], []⟩ 8 (by kernel_rfl) (by kernel_rfl) (by kernel_rfl) (by kernel_rfl)) ?_
  intro W base args ds gs before hval0 hW hcnd _
  have hval : ∀ (j : Nat) t v, Try.f10.params[j]? = some t → args[j]? = some v → Value.okWide Try.prog W .any base t v := hval0
  have hW' := hW
  obtain ⟨p, q, hA0, hV, rfl, hfz, hnd⟩ := hW
  have hA : DataW.TrodAll enc Try.prog W 0 (fun _ => true) true Try.f10.params.toList args.toList ds p := hA0
  rw [Try.params10] at hA hval
  obtain ⟨v0, vs0, d0, ds0, p0, q0, hargs, rfl, rfl, h0, r0⟩ := trodAll_cons hA
  obtain ⟨v1, vs1, d1, ds1, p1, q1, rfl, rfl, rfl, h1, r1⟩ := trodAll_cons r0
  obtain ⟨rfl, rfl, rfl⟩ := trodAll_nil r1
  obtain rfl : args = #[v0, v1] := by cases args; simp_all
  obtain ⟨rfl, rfl⟩ := trodVars_none hV
  have k0 := h0
  have k1 := h1
  have lt1 : ∀ x ∈ p1, x.block < W.heap.size := by obtain ⟨m, hm⟩ := k1; exact DataW.trod_lt m _ _ _ hm
  have lt0 : ∀ x ∈ p0, x.block < W.heap.size := by obtain ⟨m, hm⟩ := k0; exact DataW.trod_lt m _ _ _ hm
  obtain ⟨vi, root, ao, n, cap, ns, rfl, hN, hml, h64, _, hr⟩ := bdd_of_trod (hval 0 36 v0 rfl rfl) h0
  obtain ⟨v, rfl⟩ := okWide_int Try.underlying3 (hval 1 3 v1 rfl rfl)
  clear hA0 hval0
  refine (fnExactBddSome_walk vi root v ao n cap ns W hN hml h64 hr).mono fun e W' ⟨he, bel⟩ => ?_
  subst he
  exact ⟨_, rfl, _, _, _, [], _, [], hW', trodAll_mk1 (shut_bool Try.underlying4 _), (trodAll_cons_mk (Below.trod laidOutN (by kernel_rfl) (of_decide_eq_true (by kernel_rfl)) k0 bel lt0) (trodAll_cons_mk (Below.trod laidOutN (by kernel_rfl) (of_decide_eq_true (by kernel_rfl)) k1 bel lt1) trodAll_mk0)), rfl, bel.frame _, fun h => by cases h⟩

theorem fnExactBddSome_holds : Rows.FnExactBddSomeSaid :=
  OpenClaim.holds_of_wide 10 Try.f10 rfl rfl rfl rfl rfl rfl rfl ⟨rfl, rfl, rfl, rfl, rfl⟩ rfl rfl rfl rfl rfl (by kernel_rfl) Try.func10 (by kernel_rfl)
    (of_decide_eq_true (by kernel_rfl)) (by unfold Func.isWrapper; first | (rw [if_pos (by decide +kernel)]; kernel_rfl) | (rw [if_neg (by decide +kernel)]; exact ⟨rfl, rfl⟩))
    (fun os started H enc _ => fnExactBddSome_lifted os started H enc)

end Go.Proofs.Ythknboefajbnkaa

/-
  The law FnExactBddIs: at every diagram and every way the program's BddIs answers as the model's, and writes into no argument. No condition: every argument that can be read.
-/
import Derived.Test.YthknboefajbnkaaOneB
import Derived.Test.YthknboefajbnkaaBdI
import Derived.Test.YthknboefajbnkaaHoldU
namespace Go.Proofs.Ythknboefajbnkaa
open Go.ChangeShapes Go.WideShapes Go.ChangeAt Go.RowKit Go.Deep Go.Joins
set_option linter.unusedVariables false

attribute [local go_sem] Oper.semAt_some

set_option maxRecDepth 100000 in
set_option maxHeartbeats 8000000 in
theorem fnExactBddIs_walk (vi root : Int) (ao : Option Addr) (n cap : Nat) (ns : List Nd) (v : Value) (ms : List Bool) (w : World) (hN : Nds w ao n cap ns) (hml : n ≤ maxLen) (h64 : ∀ p ∈ ns, I64N p) (hr : I64 root) (hv : IsBits w v ms) (hmm : ms.length ≤ maxLen) :
    Calls Try.prog 6 #[.agg #[.int .i64 vi, .slice ao n cap, .int .i64 root], v] w fun e w' => e = .returned (.bool true) ∧ Below w.heap.size w w' := by
  unfold maxLen at hmm
  have HV : Hid (∀ w', Below w.heap.size w w' → IsBits w' v ms) := fun w' h => hv.below h
  obtain ⟨aov, capv, rfl, _⟩ := hv
  have HN : Hid (∀ w', Below w.heap.size w w' → Nds w' ao n cap ns) := fun w' h => hN.below h
  have HL := hideN hN.len
  have H64 := hideN h64
  have HR := hideN hr
  obtain ⟨W1, hW1⟩ : ∃ W1, W1 = w.alloc (.cells #[.int .i64 vi, .slice ao n cap, .int .i64 root] 36) := ⟨_, rfl⟩
  have HB1 : Hid (Below w.heap.size w W1) := by rw [hW1]; exact belOne _ _
  have HT1 : Hid (BlkL W1 w.heap.size (.int .i64 vi) (.slice ao n cap) (.int .i64 root)) := by rw [hW1]; exact BlkL.new _ _ _ _
  have HW1 := hideN hW1
  have HSZ := hideN (szBdd_any vi root ao n cap 1048576 W1 hml (by omega) (by omega))
  obtain ⟨m, hm⟩ : ∃ m, ms.length = m := ⟨_, rfl⟩
  have HMM := hideN hm
  have HTB : Hid (∀ W, Below w.heap.size w W → m ≤ 1048576 → Calls Try.prog 15 #[.slice aov m capv] W fun e w' => e = .returned (.slice (some ⟨W.heap.size, 0, none⟩) m m) ∧ Below W.heap.size W w' ∧ w'.rowIs W.heap.size 4 m (fun i => .bool (ms.getD i false))) := fun W hW hb => by
    have h := toBoolS_any _ ms W (HV.out W hW) (by omega)
    rw [hm] at h
    refine h.mono ?_
    rintro e w' ⟨rfl, h1, _, h2⟩
    exact ⟨rfl, h1, h2⟩
  have HEB : Hid (∀ (W : World) b b2, W.rowIs b 4 m (fun i => .bool (ms.getD i false)) → W.rowIs b2 4 m (fun i => .bool (ms.getD i false)) → Calls Try.prog 18 #[.slice (some ⟨b, 0, none⟩) m m, .slice (some ⟨b2, 0, none⟩) m m] W fun e w' => e = .returned (.bool true) ∧ ∃ n, w' = W.drewN n) := fun W b b2 h1 h2 => by
    rw [← hm] at h1 h2 ⊢
    exact eqBoolS_same _ _ ms W (IsBits.of_row (Nat.le_refl _) h1 (fun i _ => rfl)) (IsBits.of_row (Nat.le_refl _) h2 (fun i _ => rfl)) (by unfold maxLen; omega)
  rw [hm] at hmm ⊢
  clear hN h64 hr hW1 hm
  by_cases hbm : m ≤ 1048576
  case neg =>
    have d1 : decide ((1048576 : Int) < (m : Int)) = true := by simp; omega
    go_enter Try.func6, Try.ntmps6
    go_wp2_with fail
    go_ret
    exact ⟨rfl, belOne _ _⟩
  have d1 : decide ((1048576 : Int) < (m : Int)) = false := by simp; omega
  by_cases hbig : n ≤ 1048576
  case neg =>
    have HZ : Hid ((if (n : Int) ≤ 1048576 then 1048576 - (n : Int) else -1) = -1) := by show _ = _; rw [if_neg (by omega)]
    go_enter Try.func6, Try.ntmps6
    go_wp2_with fail
    rw [← HW1.out]
    refine HSZ.out.mono ?_
    rintro e w2 ⟨rfl, hb2⟩
    have HB2 := hideN (belNext HB1.out hb2)
    clear hb2
    rw [HZ.out]
    go_wp2
    go_ret
    exact ⟨rfl, HB2.out⟩
  have HZ : Hid ((if (n : Int) ≤ 1048576 then 1048576 - (n : Int) else -1) = 1048576 - (n : Int)) := by show _ = _; rw [if_pos (by omega)]
  go_enter Try.func6, Try.ntmps6
  go_wp2_with fail
  rw [← HW1.out]
  refine HSZ.out.mono ?_
  rintro e w2 ⟨rfl, hb2⟩
  have HB2 := hideN (belNext HB1.out hb2)
  have HT2 := hideN (HT1.out.below hb2)
  clear hb2
  rw [HZ.out]
  have c0 := HT2.out.c0
  have c1 := HT2.out.c1
  have c2 := HT2.out.c2
  have c3 := HT2.out.lt
  go_wp2_with fail
  refine (toBdd_any vi root ao n cap ns w2 (HN.out _ HB2.out) hbig).mono ?_
  rintro e w3 ⟨b3, rfl, hb3, _, hn3⟩
  have HB3 := hideN (belNext HB2.out hb3)
  have HT3 := hideN (HT2.out.below hb3)
  have HN3 := hideN hn3
  clear hb3 hn3 c0 c1 c2 c3
  go_wp2_with fail
  refine (HTB.out w3 HB3.out hbm).mono ?_
  rintro e w3' ⟨rfl, hb3, hr3⟩
  have HB3' := hideN (belNext HB3.out hb3)
  have HT3' := hideN (HT3.out.below hb3)
  have HN3' := hideN (HN3.out.below hb3)
  have HR3 := hideN hr3
  clear hb3 hr3
  go_wp2_with fail
  refine (specBddIs_any vi root _ n n w3.heap.size 0 m m ns ms w3' HN3'.out H64.out HR.out (by omega) HMM.out (tab_of_rowG HMM.out HR3.out)).mono ?_
  rintro e w4 ⟨rfl, hb4⟩
  have HB4 := hideN (belNext HB3'.out hb4)
  have HT4 := hideN (HT3'.out.below hb4)
  clear hb4
  have c0 := HT4.out.c0
  have c1 := HT4.out.c1
  have c2 := HT4.out.c2
  have c3 := HT4.out.lt
  go_wp2_with fail
  refine (toBdd_any vi root ao n cap ns w4 (HN.out _ HB4.out) hbig).mono ?_
  rintro e w5 ⟨b5, rfl, hb5, ⟨_, hr5⟩, hn5⟩
  have HB5 := hideN (belNext HB4.out hb5)
  have HT5 := hideN (HT4.out.below hb5)
  have HN5 := hideN hn5
  have HR5 := hideN hr5
  clear hb5 hn5 c0 c1 c2 c3 hr5
  go_wp2_with fail
  obtain ⟨W6, hW6⟩ : ∃ W6, W6 = w5.alloc (.cells #[.int .i64 vi, .slice (some ⟨b5, 0, none⟩) n n, .int .i64 root] 25) := ⟨_, rfl⟩
  try rw [← hW6]
  have hb56 : Below w5.heap.size w5 W6 := by rw [hW6]; exact belOne _ _
  have HO6 : Hid (OneSt w W6 w5.heap.size b5 vi root ao n cap ns) := ⟨HT5.out.below hb56, by rw [hW6]; exact BlkD.new _ _ _ _, HR5.out.of_block (hb56.block _ HR5.out.lt), HN5.out.below hb56, belNext HB5.out hb56⟩
  clear hW6 hb56 HB5 HT5 HN5 HR5
  generalize w5.heap.size = sx at *
  refine (HTB.out W6 HO6.out.be hbm).mono ?_
  rintro e w7 ⟨rfl, hb7, hr7⟩
  have HO7 := hideN (HO6.out.below hb7)
  have HR7 := hideN hr7
  have x0 := HO7.out.bx.c0
  have x1 := HO7.out.bx.c1
  have x2 := HO7.out.bx.c2
  have x3 := HO7.out.bx.lt
  clear hb7 hr7
  generalize W6.heap.size = sw at *
  go_wp2_with fail
  refine (implBddIs_any vi root _ n n sw 0 m m ns ms w7 HO7.out.nx H64.out HR.out HMM.out (tab_of_rowG HMM.out HR7.out)).mono ?_
  rintro e w8 ⟨rfl, hb8⟩
  have HO8 := hideN (HO7.out.below hb8)
  have HR8 := hideN (HR7.out.of_block (hb8.block _ HR7.out.lt))
  clear hb8 x0 x1 x2 x3
  generalize isB vi ns root ms = ok at *
  go_wp2_with fail
  have HCL := hideN (fun V (hV : Below w8.heap.size w8 V) => HO8.out.cells hV)
  obtain ⟨z0, z1, z2, y0, y1, y2⟩ := HCL.out w8.drew (below_drewN (Below.refl _ _) 1)
  refine region_U (fin := 3) (S := fun V => V.cell? ⟨w.heap.size, 0, none⟩ = some (.int .i64 vi) ∧ V.cell? ⟨w.heap.size, 1, none⟩ = some (.slice ao n cap) ∧ V.cell? ⟨w.heap.size, 2, none⟩ = some (.int .i64 root) ∧ V.cell? ⟨sx, 0, none⟩ = some (.int .i64 vi) ∧ V.cell? ⟨sx, 1, none⟩ = some (.slice (some ⟨b5, 0, none⟩) n n) ∧ V.cell? ⟨sx, 2, none⟩ = some (.int .i64 root)) (by kernel_rfl) ⟨z0, z1, z2, y0, y1, y2⟩ (fun hHeld => ?_)
  clear hHeld
  refine takeU (i := 0) (v := .agg #[.int .i64 vi, .slice (some ⟨b5, 0, none⟩) n n, .int .i64 root]) rfl (by rfl) (by kernel_rfl) (by kernel_rfl) (by kernel_rfl) (by kernel_rfl) (by kernel_rfl) (fun _ _ _ h => h) (Or.inl ⟨by rfl, fun w hS => by obtain ⟨z0, z1, z2, y0, y1, y2⟩ := hS; go_simp⟩) ⟨z0, z1, z2, y0, y1, y2⟩ ?_
  simp only [List.getElem_toArray, List.getElem_cons_zero, Act.put, List.setIfInBounds_toArray, List.set_cons_zero, List.set_cons_succ]
  refine takeU (i := 1) (v := .agg #[.int .i64 vi, .slice ao n cap, .int .i64 root]) rfl (by rfl) (by kernel_rfl) (by kernel_rfl) (by kernel_rfl) (by kernel_rfl) (by kernel_rfl) (fun _ _ _ h => h) (Or.inl ⟨by rfl, fun w hS => by obtain ⟨z0, z1, z2, y0, y1, y2⟩ := hS; go_simp⟩) ⟨z0, z1, z2, y0, y1, y2⟩ ?_
  simp only [List.getElem_toArray, List.getElem_cons_zero, List.getElem_cons_succ, Act.put, List.setIfInBounds_toArray, List.set_cons_zero, List.set_cons_succ]
  refine oneU (i := 2) (by kernel_rfl) rfl (by rfl) ?_
  simp only [List.getElem_toArray, List.getElem_cons_zero, List.getElem_cons_succ]
  go_simp
  have hbd := below_drewN (Below.refl w8.heap.size w8) 1
  refine (toBdd_any vi root ao n cap ns w8.drew (HN.out _ (belNext HO8.out.be hbd)) hbig).mono ?_
  rintro e w9 ⟨b9, rfl, hb9, _, hn9⟩
  have hb89 : Below w8.heap.size w8 w9 := belNext hbd hb9
  have HO9 := hideN (HO8.out.below hb89)
  have HR9 := hideN (HR8.out.of_block (hb89.block _ HR8.out.lt))
  have HN9 := hideN hn9
  refine ⟨HCL.out w9 hb89, ?_⟩
  clear hbd hb9 hb89 hn9 z0 z1 z2 y0 y1 y2
  refine oneU (i := 3) (by kernel_rfl) rfl (by rfl) ?_
  simp only [List.getElem_toArray, List.getElem_cons_zero, List.getElem_cons_succ]
  go_simp
  refine (eqBdd_same vi root _ _ n _ _ ns w9 HO9.out.nx.is HN9.out.is (by have := HL.out; omega)).mono ?_
  rintro e w10 ⟨rfl, hb10⟩
  have HO10 := hideN (HO9.out.below hb10)
  have HR10 := hideN (HR9.out.of_block (hb10.block _ HR9.out.lt))
  clear hb10
  refine oneU (i := 4) (by kernel_rfl) rfl (by rfl) ?_
  simp only [List.getElem_toArray, List.getElem_cons_zero, List.getElem_cons_succ]
  go_simp
  refine doneU (by kernel_rfl) ?_ _
  go_wp2_with fail
  refine (HTB.out w10 HO10.out.be hbm).mono ?_
  rintro e w11 ⟨rfl, hb11, hr11⟩
  have HB11 := hideN (belNext HO10.out.be hb11)
  have HR11 := hideN (HR10.out.of_block (hb11.block _ HR10.out.lt))
  have HX11 := hideN hr11
  clear hb11 hr11
  go_wp2_with fail
  refine (HEB.out w11 _ _ HR11.out HX11.out).mono ?_
  rintro e w12 ⟨rfl, q, rfl⟩
  have HB12 := hideN (below_drewN HB11.out q)
  go_wp2_with fail
  go_ret
  exact ⟨rfl, HB12.out⟩

set_option maxRecDepth 100000 in
theorem fnExactBddIs_lifted (os : Os) (started : os.Started) (H : Type) (enc : TypeId × Value → H) :
    ReturnsInHanded {} Try.checked os 6 .any (Rows.fnExactBddIsSpec.pre6 enc Try.prog Try.f6 Rows.fnExactBddIsRow.domain false) (Rows.fnExactBddIsSpec.post enc Try.prog Try.f6 false true false false) := by
  refine returnsInHanded_of_change (C := Try.checked) own started (by kernel_rfl) Try.func6
    (ChangeSpec.witness6 (enc := enc) (C := Try.checked) false ⟨#[], #[.agg #[.int .i64 0, .slice none 0 0, .int .i64 0], .slice none 0 0], []⟩ 8 (by kernel_rfl) (by kernel_rfl) (by kernel_rfl) (by kernel_rfl)) ?_
  intro W base args ds gs before hval0 hW hcnd _
  have hval : ∀ (j : Nat) t v, Try.f6.params[j]? = some t → args[j]? = some v → Value.okWide Try.prog W .any base t v := hval0
  have hW' := hW
  obtain ⟨p, q, hA0, hV, rfl, hfz, hnd⟩ := hW
  have hA : DataW.TrodAll enc Try.prog W 0 (fun _ => true) true Try.f6.params.toList args.toList ds p := hA0
  rw [Try.params6] at hA hval
  obtain ⟨v0, vs0, d0, ds0, p0, q0, hargs, rfl, rfl, h0, r0⟩ := trodAll_cons hA
  obtain ⟨v1, vs1, d1, ds1, p1, q1, rfl, rfl, rfl, h1, r1⟩ := trodAll_cons r0
  obtain ⟨rfl, rfl, rfl⟩ := trodAll_nil r1
  obtain rfl : args = #[v0, v1] := by cases args; simp_all
  obtain ⟨rfl, rfl⟩ := trodVars_none hV
  have k0 := h0
  have k1 := h1
  have lt1 : ∀ x ∈ p1, x.block < W.heap.size := by obtain ⟨m, hm⟩ := k1; exact DataW.trod_lt m _ _ _ hm
  have lt0 : ∀ x ∈ p0, x.block < W.heap.size := by obtain ⟨m, hm⟩ := k0; exact DataW.trod_lt m _ _ _ hm
  obtain ⟨vi, root, ao, n, cap, ns, rfl, hN, hml, h64, _, hr⟩ := bdd_of_trod (hval 0 36 v0 rfl rfl) h0
  obtain ⟨ao1, len1, cap1, rfl⟩ := okWide_slice Try.underlying22 (hval 1 22 v1 rfl rfl)
  obtain ⟨fuel1, hf1⟩ := h1
  obtain ⟨ms, hms, hmm⟩ := isBits_of_trod (by simpa [Value.cells] using hf1)
  clear hA0 hval0
  refine (fnExactBddIs_walk vi root ao n cap ns _ ms W hN hml h64 hr hms hmm).mono fun e W' ⟨he, bel⟩ => ?_
  subst he
  exact ⟨_, rfl, _, _, _, [], _, [], hW', trodAll_mk1 (shut_bool Try.underlying4 _), (trodAll_cons_mk (Below.trod laidOutN (by kernel_rfl) (of_decide_eq_true (by kernel_rfl)) k0 bel lt0) (trodAll_cons_mk (Below.trod laidOutN (by kernel_rfl) (of_decide_eq_true (by kernel_rfl)) k1 bel lt1) trodAll_mk0)), rfl, bel.frame _, fun h => by cases h⟩

theorem fnExactBddIs_holds : Rows.FnExactBddIsSaid :=
  OpenClaim.holds_of_wide 6 Try.f6 rfl rfl rfl rfl rfl rfl rfl ⟨rfl, rfl, rfl, rfl, rfl⟩ rfl rfl rfl rfl rfl (by kernel_rfl) Try.func6 (by kernel_rfl)
    (of_decide_eq_true (by kernel_rfl)) (by unfold Func.isWrapper; first | (rw [if_pos (by decide +kernel)]; kernel_rfl) | (rw [if_neg (by decide +kernel)]; exact ⟨rfl, rfl⟩))
    (fun os started H enc _ => fnExactBddIs_lifted os started H enc)

end Go.Proofs.Ythknboefajbnkaa

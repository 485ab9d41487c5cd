/-
  The law FnBddFirst: of every drawn diagram, the first way that the program gives is one and none is ahead of it, and there is none just if there are no ways. No condition: every argument that can be read.
-/
import Derived.Test.YtknpifjkllcdeaaBdDv
import Derived.Test.YtknpifjkllcdeaaBdPb
import Derived.Test.YtknpifjkllcdeaaBdFj
import Derived.Test.YtknpifjkllcdeaaBdI
import Derived.Test.YtknpifjkllcdeaaBdJ
import Derived.Test.YtknpifjkllcdeaaRgB
import Derived.Test.YtknpifjkllcdeaaOpenB
namespace Go.Proofs.Ytknpifjkllcdeaa
open Go.ChangeShapes Go.WideShapes Go.ChangeAt Go.RowKit Go.Deep Go.Joins
set_option linter.unusedVariables false

attribute [local go_sem] Oper.semAt_some

set_option maxRecDepth 100000 in
set_option maxHeartbeats 8000000 in
theorem fnBddFirst_walk (v : Value) (bs : List Int) (w : World) (hv : IsBytes w v bs) (hal : ∀ ao n cap b off, v = .slice ao n cap → ao = some ⟨b, off, none⟩ → b < w.heap.size) (hml : bs.length ≤ maxLen) :
    Calls Try.prog 12 #[v] w fun e w' => e = .returned (.bool true) ∧ Below w.heap.size w w' := by
  unfold maxLen at hml
  have HDR := hideN (fun (h : bs.length ≤ 1048576) => drawBddFirst_any v bs w hv h hal)
  obtain ⟨aoc, capc, rfl, _⟩ := hv
  clear hal
  by_cases hbig : bs.length ≤ 1048576
  case neg =>
    have d1 : decide ((1048576 : Int) < (bs.length : Int)) = true := by simp; omega
    go_enter Try.func12, Try.ntmps12
    go_wp2_with fail
    go_ret
    exact ⟨rfl, Below.refl _ _⟩
  have d1 : decide ((1048576 : Int) < (bs.length : Int)) = false := by simp; omega
  have HDW := hideN (HDR.out hbig)
  clear HDR
  go_enter Try.func12, Try.ntmps12
  go_wp2_with fail
  refine HDW.out.mono ?_
  rintro e w0 ⟨vi, root, ao, n, cap, ns, rfl, hsv, hsr, hn80, hnl, hsm, hrow, hb0⟩
  have hN0 : Nds w0 ao n cap ns := nds_of_own hrow hnl
  have H64 : ∀ q ∈ ns, I64N q := fun q hq => smN64 (hsm q hq)
  have HR := sm64 hsr
  obtain ⟨W1, hW1⟩ : ∃ W1, W1 = w0.alloc (.cells #[.int .i64 vi, .slice ao n cap, .int .i64 root] 25) := ⟨_, rfl⟩
  have HK1 : Hid (BlkD W1 w0.heap.size (.int .i64 vi) (.slice ao n cap) (.int .i64 root)) := by rw [hW1]; exact BlkD.new _ _ _ _
  have HB1 : Hid (Below w.heap.size w W1) := by rw [hW1]; exact belNext hb0 (belOne _ _)
  have hN1 : Nds W1 ao n cap ns := by rw [hW1]; exact hN0.below (belOne _ _)
  have HIF := hideN (fun V (hV : Below W1.heap.size W1 V) => implBddFirst_any vi root ao n cap ns V (hN1.below hV) H64 HR)
  have HSF := hideN (fun V (hV : Below W1.heap.size W1 V) => specBddFirst_any vi root ao n cap ns V (hN1.below hV) H64 HR (by omega))
  have HSO := hideN (fun V (hV : Below W1.heap.size W1 V) => specBddOk_any vi root ao n cap ns V (hN1.below hV) H64 HR (by omega))
  have HIC := hideN (fun V (hV : Below W1.heap.size W1 V) => implBddCount_any vi root ao n cap ns V (hN1.below hV) H64 HR)
  have HIT := hideN (fun V (hV : Below W1.heap.size W1 V) => implBddTable_any vi root ao n cap ns V (hN1.below hV) H64 HR)
  have HII := hideN (fun (V : World) (hV : Below W1.heap.size W1 V) Bw capw m ws hws hT => implBddIs_any vi root ao n cap Bw 0 capw m ns ws V (hN1.below hV) H64 HR hws hT)
  have HLE := hideN (firstL_le vi ns root)
  have HFN := hideN (fun (h : bddB vi ns root = true) (hf : firstB vi ns root = false) => first_none h hf)
  have HFS := hideN (fun (hf : firstB vi ns root = true) => first_some hf)
  have HW1 := hideN hW1
  have c0 := HK1.out.c0
  have c1 := HK1.out.c1
  have c2 := HK1.out.c2
  have c3 := HK1.out.lt
  clear hN0 hN1 H64 HR hsm hrow hW1 hb0 hsv hsr HDW
  go_wp2_with fail
  try rw [← HW1.out]
  refine (HIF.out W1 (Below.refl _ _)).mono ?_
  rintro e w2 ⟨a2, c2', rfl, ho2, hb2, hsome2⟩
  have HO2 := hideN ho2
  have HB2 := hideN hb2
  have HSM2 := hideN hsome2
  have HK2 := hideN (HK1.out.below hb2)
  clear ho2 hb2 hsome2 c0 c1 c2 c3
  have c0 := HK2.out.c0
  have c1 := HK2.out.c1
  have c2 := HK2.out.c2
  have c3 := HK2.out.lt
  go_wp2_with fail
  refine (HSF.out w2 HB2.out).mono ?_
  rintro e w3 ⟨a3, c3', rfl, ho3, hb3, -⟩
  have HO3 := hideN ho3
  have HB3 := hideN (belNext HB2.out hb3)
  have HO23 := hideN (HO2.out.below hb3)
  have HK3 := hideN (HK2.out.below hb3)
  clear ho3 hb3 c0 c1 c2 c3
  have c0 := HK3.out.c0
  have c1 := HK3.out.c1
  have c2 := HK3.out.c2
  have c3 := HK3.out.lt
  obtain ⟨f, hf⟩ : ∃ f, firstB vi ns root = f := ⟨_, rfl⟩
  obtain ⟨L, hL⟩ : ∃ L, firstL vi ns root = L := ⟨_, rfl⟩
  obtain ⟨m, hm⟩ : ∃ m, L.length = m := ⟨_, rfl⟩
  rw [hf, hL, hm]
  rw [hL, hm] at HO2 HO3 HO23
  rw [hL] at HLE
  rw [hm] at HLE
  have hfe : (f == f) = true := by simp
  have hfn : (f != f) = false := by simp
  have HF := hideN hf
  have HL := hideN hL
  have HM := hideN hm
  have hm64 : m ≤ 64 := HLE.out
  have HRG := hideN (fun (V : World) (h : Below w3.heap.size w3 V) => rgBools_below (.slice a2 m c2') (.slice a3 m c3') L V (HO23.out.below h).isBits (HO3.out.below h).isBits (by have := HM.out; omega))
  clear hf hL hm
  go_wp2_with fail
  refine (HRG.out w3 (Below.refl _ _)).mono ?_
  rintro e w4 ⟨rfl, hb4⟩
  have HB4 := hideN (belNext HB3.out hb4)
  have HB34 := hideN hb4
  have HK4 := hideN (HK3.out.below hb4)
  clear hb4 c0 c1 c2 c3
  have c0 := HK4.out.c0
  have c1 := HK4.out.c1
  have c2 := HK4.out.c2
  have c3 := HK4.out.lt
  go_wp2_with fail
  refine (HSO.out w4 HB4.out).mono ?_
  rintro e w5 ⟨rfl, hb5⟩
  have HB5 := hideN (belNext HB4.out hb5)
  have HB35 := hideN (belNext HB34.out hb5)
  have HK5 := hideN (HK4.out.below hb5)
  clear hb5 c0 c1 c2 c3
  have c0 := HK5.out.c0
  have c1 := HK5.out.c1
  have c2 := HK5.out.c2
  have c3 := HK5.out.lt
  cases hbd : bddB vi ns root with
  | false =>
    go_wp2_with fail
    refine (HRG.out w5 HB35.out).mono ?_
    rintro e w6 ⟨rfl, hb6⟩
    have HBE := hideN (belNext HB1.out (belNext HB5.out hb6))
    clear hb6
    go_wp2_with fail
    go_ret
    exact ⟨rfl, HBE.out⟩
  | true =>
  cases f with
  | false =>
    obtain ⟨hcz, rfl⟩ := HFN.out hbd HF.out
    go_wp2_with fail
    refine (HIC.out w5 HB5.out).mono ?_
    rintro e w6 ⟨rfl, hb6⟩
    rw [hcz]
    have HBE := hideN (belNext HB1.out (belNext HB5.out hb6))
    have HK6 := hideN (HK5.out.below hb6)
    clear hb6 c0 c1 c2 c3
    have c0 := HK6.out.c0
    have c1 := HK6.out.c1
    have c2 := HK6.out.c2
    have c3 := HK6.out.lt
    go_wp2_with fail
    go_ret
    exact ⟨rfl, HBE.out⟩
  | true =>
  obtain ⟨V, F, rfl, h6, hFV, hLL, -, hTS, hT0, hT1, hcz, hib⟩ := HFS.out HF.out
  rw [HL.out] at hLL
  subst hLL
  obtain rfl : m = V := by rw [← HM.out, wayL_length]
  obtain ⟨bw, rfl⟩ := HSM2.out HF.out
  have HWS := hideN (fun k (hk : k < m) => way_step m F k hk)
  have HT0 := hideN hT0
  have HT1 := hideN hT1
  have HTS := hideN hTS
  have HIB := hideN hib
  have hF64 : F < 64 := Nat.lt_of_lt_of_le hFV (by show _ ≤ 2 ^ 6; exact Nat.pow_le_pow_right (by decide) h6)
  have HF0 : Hid (F / 2 ^ (m - 0) = 0) := by show _ = _; exact Nat.div_eq_of_lt (by simpa using hFV)
  have HFV := hideN hFV
  have HQB : Hid (∀ k, F / 2 ^ k ≤ 63) := fun k => Nat.le_trans (Nat.div_le_self _ _) (by omega)
  clear hT0 hT1 hTS hib hFV
  go_wp2_with fail
  go_loopw [8, 9] (fun a i wr => ∃ k z : Nat, k ≤ m ∧ z ≤ 63 ∧ a = .int .i64 (z : Int) ∧ i = .int .i64 (k : Int) ∧ Hid (z = F / 2 ^ (m - k)) ∧ wr = w5) (fun _ i _ => m - (intOf i).toNat)
  case atStart => exact ⟨0, 0, Nat.zero_le _, by omega, rfl, rfl, HF0.out.symm, rfl⟩
  case round =>
    obtain ⟨k, z, hk, hz, rfl, rfl, hzv, rfl⟩ := hrel
    by_cases hlt : k < m
    · have hcell := (ownb_cell (HO23.out.below HB35.out) (i := k) (by rw [wayL_length]; exact hlt)).1
      have hws := HWS.out k hlt
      rw [← hzv.out] at hws
      obtain ⟨z2, hz2⟩ : ∃ z2, F / 2 ^ (m - (k + 1)) = z2 := ⟨_, rfl⟩
      have hqb := HQB.out (m - (k + 1))
      rw [hz2] at hws hqb
      have HZ2 := hideN hz2.symm
      clear hz2
      generalize (wayL m F).getD k false = bb at *
      cases bb with
      | true =>
        obtain rfl : z2 = 2 * z + 1 := by rw [hws]; rfl
        clear hws
        go_wp2
        go_roundw
        case rel => exact ⟨k + 1, 2 * z + 1, by omega, by omega, by go_num, by go_num, HZ2, by first | rfl | trivial⟩
        case measure => simp [intOf]; omega
      | false =>
        obtain rfl : z2 = 2 * z := by rw [hws]; rfl
        clear hws
        go_wp2
        go_roundw
        case rel => exact ⟨k + 1, 2 * z, by omega, by omega, by go_num, by go_num, HZ2, by first | rfl | trivial⟩
        case measure => simp [intOf]; omega
    · obtain rfl : k = m := by omega
      have hzF : z = F := by rw [hzv.out, Nat.sub_self, Nat.pow_zero, Nat.div_one]
      subst hzF
      clear hzv hk hlt
      go_wp2_with fail
      refine (HIT.out wr HB5.out).mono ?_
      rintro e w6 ⟨at6, c6, rfl, ho6, hb6⟩
      rw [HTS.out] at ho6
      rw [HTS.out, tabN_length]
      have hT6 : ∃ b6, at6 = some ⟨b6, 0, none⟩ := by
        obtain ⟨g, cp, he, _⟩ := ho6.cons_form (by rw [tabN_length]; exact Nat.pow_pos (by decide))
        injection he with e1 e2 e3
        exact ⟨g, e1⟩
      obtain ⟨b6, rfl⟩ := hT6
      have HB6 := hideN (belNext HB5.out hb6)
      have HB36 := hideN (belNext HB35.out hb6)
      have HK6 := hideN (HK5.out.below hb6)
      have HCEL : Hid (∀ V, Below w6.heap.size w6 V → ∀ i, i < 2 ^ k → V.cell? ⟨b6, i, none⟩ = some (.bool ((tabN k ns root).getD i false))) := fun V hV i hi => (ownb_cell (ho6.below hV) (i := i) (by rw [tabN_length]; exact hi)).1
      obtain ⟨M, hM⟩ : ∃ M, 2 ^ k = M := ⟨_, rfl⟩
      rw [hM] at HCEL HFV ⊢
      have hzM : z < M := HFV.out
      have hM64 : M ≤ 64 := by rw [← hM]; show _ ≤ 2 ^ 6; exact Nat.pow_le_pow_right (by decide) h6
      generalize tabN k ns root = T at *
      clear ho6 hb6 hM c0 c1 c2 c3
      go_wp2_with fail
      go_loopw [11] (fun i wr => ∃ j : Nat, j ≤ z ∧ i = .int .i64 (j : Int) ∧ wr = w6) (fun i _ => z - (intOf i).toNat)
      case atStart => exact ⟨0, Nat.zero_le _, rfl, rfl⟩
      case round =>
        obtain ⟨j, hj, rfl, rfl⟩ := hrel
        by_cases hjz : j < z
        · have hc := HCEL.out wr (Below.refl _ _) j (by omega)
          rw [HT0.out j hjz] at hc
          go_wp2
          go_roundw
          case rel => exact ⟨j + 1, by omega, by go_num, by first | rfl | trivial⟩
          case measure => simp [intOf]; omega
        · obtain rfl : j = z := by omega
          have HISB := hideN (HII.out wr HB6.out bw c2' k (wayL k j) (wayL_length k j) (by
            have ho := HO23.out.below HB36.out
            refine ⟨?_, fun i hi => by rw [Nat.zero_add]; exact (ownb_cell ho hi).1⟩
            by_cases hk0 : 0 < (wayL k j).length
            · exact (ownb_cell ho hk0).2.2
            · omega))
          have c0 := HK6.out.c0
          have c1 := HK6.out.c1
          have c2 := HK6.out.c2
          have c3 := HK6.out.lt
          go_wp2_with fail
          refine HISB.out.mono ?_
          rintro e w7 ⟨rfl, hb7⟩
          rw [HIB.out]
          have hc := HCEL.out w7 hb7 j (by omega)
          rw [HT1.out] at hc
          have HB7 := hideN (belNext HB6.out hb7)
          have HK7 := hideN (HK6.out.below hb7)
          clear hb7 c0 c1 c2 c3
          have c0 := HK7.out.c0
          have c1 := HK7.out.c1
          have c2 := HK7.out.c2
          have c3 := HK7.out.lt
          go_wp2_with fail
          refine (HIC.out w7 HB7.out).mono ?_
          rintro e w8 ⟨rfl, hb8⟩
          have HBE := hideN (belNext HB1.out (belNext HB7.out hb8))
          have hpos : (0 : Int) < countZ (k : Int) ns root := hcz
          generalize countZ (k : Int) ns root = cz at *
          clear hb8 c0 c1 c2 c3
          go_wp2_with fail
          go_ret
          exact ⟨rfl, HBE.out⟩

set_option maxRecDepth 100000 in
theorem fnBddFirst_lifted (os : Os) (started : os.Started) (H : Type) (enc : TypeId × Value → H) :
    ReturnsInHanded {} Try.checked os 12 .any (Rows.fnBddFirstSpec.pre6 enc Try.prog Try.f12 Rows.fnBddFirstRow.domain false) (Rows.fnBddFirstSpec.post enc Try.prog Try.f12 false true false false) := by
  refine returnsInHanded_of_change (C := Try.checked) own started (by kernel_rfl) Try.func12
    (ChangeSpec.witness6 (enc := enc) (C := Try.checked) false ⟨#[], #[.slice none 0 0], []⟩ 8 (by kernel_rfl) (by kernel_rfl) (by kernel_rfl) (by kernel_rfl)) ?_
  intro W base args ds gs before hval0 hW hcnd _
  have hval : ∀ (j : Nat) t v, Try.f12.params[j]? = some t → args[j]? = some v → Value.okWide Try.prog W .any base t v := hval0
  have hW' := hW
  obtain ⟨p, q, hA0, hV, rfl, hfz, hnd⟩ := hW
  have hA : DataW.TrodAll enc Try.prog W 0 (fun _ => true) true Try.f12.params.toList args.toList ds p := hA0
  rw [Try.params12] at hA hval
  obtain ⟨v0, vs0, d0, ds0, p0, q0, hargs, rfl, rfl, h0, r0⟩ := trodAll_cons hA
  obtain ⟨rfl, rfl, rfl⟩ := trodAll_nil r0
  obtain rfl : args = #[v0] := by cases args; simp_all
  obtain ⟨rfl, rfl⟩ := trodVars_none hV
  have k0 := h0
  have lt0 : ∀ x ∈ p0, x.block < W.heap.size := by obtain ⟨m, hm⟩ := k0; exact DataW.trod_lt m _ _ _ hm
  have hv0 := hval 0 46 v0 rfl rfl
  obtain ⟨ao, len, cap, rfl⟩ := okWide_slice Try.underlying46 hv0
  obtain ⟨fuel, hf⟩ := h0
  obtain ⟨bs, hbs, hml⟩ := isBytes_of_trod (by simpa [Value.cells] using hf)
  clear hA0 hval0
  refine (fnBddFirst_walk _ bs W hbs (fun ao' n' cap' b off h1 h2 => by cases h1; subst h2; exact okWide_slice_lt Try.underlying46 hv0) hml).mono fun e W' ⟨he, bel⟩ => ?_
  subst he
  exact ⟨_, rfl, _, _, _, [], _, [], hW', trodAll_mk1 (shut_bool Try.underlying4 _), (trodAll_cons_mk (Below.trod laidOutN (by kernel_rfl) (of_decide_eq_true (by kernel_rfl)) k0 bel lt0) trodAll_mk0), rfl, bel.frame _, fun h => by cases h⟩

theorem fnBddFirst_holds : Rows.FnBddFirstSaid :=
  OpenClaim.holds_of_wide 12 Try.f12 rfl rfl rfl rfl rfl rfl rfl ⟨rfl, rfl, rfl, rfl, rfl⟩ rfl rfl rfl rfl rfl (by kernel_rfl) Try.func12 (by kernel_rfl)
    (of_decide_eq_true (by kernel_rfl)) (by unfold Func.isWrapper; first | (rw [if_pos (by decide +kernel)]; kernel_rfl) | (rw [if_neg (by decide +kernel)]; exact ⟨rfl, rfl⟩))
    (fun os started H enc _ => fnBddFirst_lifted os started H enc)

end Go.Proofs.Ytknpifjkllcdeaa

/-
  The law FnExpNames: names of two drawn expressions together are names of either, those of one are as the model says, ascending and each once. No condition: every code and every code more.
-/
import Derived.Test.YtgjficnpkmemgaaExpZ
namespace Go.Proofs.Ytgjficnpkmemgaa
open Go.ChangeShapes Go.WideShapes Go.ChangeAt Go.RowKit Go.Deep Go.Joins Go.Proofs
set_option linter.unusedVariables false

set_option maxRecDepth 100000 in
set_option maxHeartbeats 16000000 in
theorem fnExpNames_walk (v : Value) (bs : List Int) (u : Value) (ms : List Int) (w : World) (hv : IsBytes w v bs) (hu : IsBytes w u ms) (hal : ∀ ao n cap b off, v = .slice ao n cap → ao = some ⟨b, off, none⟩ → b < w.heap.size) (hau : ∀ ao n cap b off, u = .slice ao n cap → ao = some ⟨b, off, none⟩ → b < w.heap.size) (hml : bs.length ≤ maxLen) (hmu : ms.length ≤ maxLen) :
    Calls Try.prog 3 #[v, u] w fun e w' => e = .returned (.bool true) ∧ Below w.heap.size w w' := by
  unfold maxLen at hml hmu
  have HV0 := hideN hv
  have HU0 := hideN hu
  have HAL := hideN hal
  have HAU := hideN hau
  obtain ⟨aoc, capc, rfl, -⟩ := hv
  obtain ⟨aou, capu, rfl, -⟩ := hu
  clear hal hau
  by_cases hbig : bs.length ≤ 1048576
  case neg =>
    go_enter Try.func3, Try.ntmps3
    go_wp2
    go_ret
    exact ⟨rfl, Below.refl _ _⟩
  by_cases hbig2 : ms.length ≤ 1048576
  case neg =>
    go_enter Try.func3, Try.ntmps3
    go_wp2
    go_ret
    exact ⟨rfl, Below.refl _ _⟩
  go_enter Try.func3, Try.ntmps3
  go_wp2_with fail
  refine (drawExpNames_any _ bs _ HV0.out hbig HAL.out).mono ?_
  rintro e w0 ⟨Ta, ua, rfl, hEa, hTa, hb0⟩
  obtain ⟨ka, na, sa, aa, ma, ca, rfl⟩ := hEa.agg
  obtain ⟨W1, hW1⟩ : ∃ W1, W1 = w0.alloc (.cells #[.int .i64 ka, .int .i64 na, .string sa, .slice aa ma ca] 25) := ⟨_, rfl⟩
  have hb01 : Below w0.heap.size w0 W1 := by rw [hW1]; exact belOne _ _
  have HA1 : Hid (BlkE W1 w0.heap.size (.int .i64 ka) (.int .i64 na) (.string sa) (.slice aa ma ca) 25) := by rw [hW1]; exact BlkE.new _ _ _ _ _ _
  have HE1 := hideN (IsE.below hEa hb01)
  have HB1 := hideN (belNext hb0 hb01)
  have HW1 := hideN hW1
  clear hW1 hb0 hb01 hEa
  have HD2 := hideN (drawExpNames_any _ ms W1 (bytes_below HU0.out HB1.out) hbig2 (fun ao n cap b off e1 e2 => by have h1 := HAU.out ao n cap b off e1 e2; have h2 := HB1.out.size; omega))
  go_wp2_with fail
  try rw [← HW1.out]
  refine HD2.out.mono ?_
  rintro e w2 ⟨Tb, ub, rfl, hEb, hTb, hb2⟩
  obtain ⟨kb, nb, sb, ab, mb, cb, rfl⟩ := hEb.agg
  obtain ⟨W3, hW3⟩ : ∃ W3, W3 = w2.alloc (.cells #[.int .i64 kb, .int .i64 nb, .string sb, .slice ab mb cb] 25) := ⟨_, rfl⟩
  have hb23 : Below w2.heap.size w2 W3 := by rw [hW3]; exact belOne _ _
  have HA3 := hideN ((HA1.out.below hb2).below hb23)
  have HC3 : Hid (BlkE W3 w2.heap.size (.int .i64 kb) (.int .i64 nb) (.string sb) (.slice ab mb cb) 25) := by rw [hW3]; exact BlkE.new _ _ _ _ _ _
  have HE3 := hideN (IsE.less (Nat.zero_le _) _ _ (IsE.below (IsE.below HE1.out hb2) hb23))
  have HF3 := hideN (IsE.less (Nat.zero_le _) _ _ (IsE.below hEb hb23))
  have HB3 := hideN (belNext (belNext HB1.out hb2) hb23)
  have HW3 := hideN hW3
  clear hW3 hb2 hb23 hEb HD2 HA1 HE1
  obtain ⟨A, hA⟩ : ∃ A, w0.heap.size = A := ⟨_, rfl⟩
  obtain ⟨B, hB⟩ : ∃ B, w2.heap.size = B := ⟨_, rfl⟩
  have HAA := hideN hA
  have HBB := hideN hB
  rw [hA] at HA3
  rw [hB] at HC3
  clear hA hB
  -- what the two blocks and the two expressions are as long as nothing old turns
  have HKA := hideN (fun V (hV : Below W3.heap.size W3 V) => HA3.out.below hV)
  have HKB := hideN (fun V (hV : Below W3.heap.size W3 V) => HC3.out.below hV)
  have HEA := hideN (fun V (hV : Below W3.heap.size W3 V) => IsE.below HE3.out hV)
  have HEB := hideN (fun V (hV : Below W3.heap.size W3 V) => IsE.below HF3.out hV)
  have HIA := hideN (fun V (hV : Below W3.heap.size W3 V) => implExpNames_any 0 Ta (by omega) _ V (HEA.out V hV))
  have HIB := hideN (fun V (hV : Below W3.heap.size W3 V) => implExpNames_any 0 Tb (by omega) _ V (HEB.out V hV))
  have HSA := hideN (fun V (hV : Below W3.heap.size W3 V) => specExpNames_any 0 Ta (by omega) _ V (HEA.out V hV))
  have HLA := hideN (namesOf_le Ta)
  have HLB := hideN (namesOf_le Tb)
  have HAS := hideN (asc_namesOf Ta)
  have HM2 := hideN (fun (h : okE (.node 6 0 ⟨#[61]⟩ [Ta, Tb]) = true) => mem_two h)
  have HLX := hideN (namesOf_le (.node 6 0 ⟨#[61]⟩ [Ta, Tb]))
  have HTX : Hid (totE (.node 6 0 ⟨#[61]⟩ [Ta, Tb]) ≤ 1048576) := by
    show _ ≤ _
    rw [totE, totL, totL, totL]
    have h0 : (⟨#[61]⟩ : ByteArray).size = 1 := rfl
    rw [h0]
    simp
    omega
  obtain ⟨La, hLa⟩ : ∃ La, namesOf Ta = La := ⟨_, rfl⟩
  obtain ⟨Lb, hLb⟩ : ∃ Lb, namesOf Tb = Lb := ⟨_, rfl⟩
  rw [hLa] at HIA HSA HLA HAS
  rw [hLb] at HIB HLB
  have a0 := HA3.out.c0
  have a1 := HA3.out.c1
  have a2 := HA3.out.c2
  have a3 := HA3.out.c3
  go_upto_region 5 with fail
  try rw [← HW3.out]
  try rw [HAA.out]
  try rw [HBB.out]
  go_wp2_with fail
  refine (HIA.out W3 (Below.refl _ _)).mono ?_
  rintro e w4 ⟨ga, gn, gc, rfl, hgl, hgo, hb4⟩
  have HG4 := hideN hgo.isT
  have HC4 := hideN hb4
  have hgn : gn ≤ 60 := by rw [← hgl]; exact HLA.out
  have HGL := hideN hgl
  clear hgo hb4 hgl a0 a1 a2 a3
  have a0 := (HKA.out w4 HC4.out).c0
  have a1 := (HKA.out w4 HC4.out).c1
  have a2 := (HKA.out w4 HC4.out).c2
  have a3 := (HKA.out w4 HC4.out).c3
  go_wp2_with fail
  refine (HSA.out w4 HC4.out).mono ?_
  rintro e w5 ⟨q, qo, qn, qc, rfl, hql, -, -, hqa, hb5⟩
  obtain rfl : qn = gn := by rw [← hql]; exact HGL.out
  have HQ5 := hideN hqa
  have HC5 := hideN (belNext HC4.out hb5)
  have HG5 := hideN (HG4.out.below hb5)
  clear hqa hb5 hql a0 a1 a2 a3
  go_wp2_with fail
  go_loopw [9] (fun i wr => ∃ j : Nat, j ≤ qn ∧ i = .int .i64 (j : Int) ∧ Hid (Below w5.heap.size w5 wr)) (fun i _ => qn - (intOf i).toNat)
  case atStart => exact ⟨0, Nat.zero_le _, rfl, Below.refl _ _⟩
  case round =>
    obtain ⟨j, hj, rfl, hbr⟩ := hrel
    by_cases hlt : j < qn
    · obtain ⟨ao, cap, e1, hg⟩ := HG5.out.below hbr.out
      injection e1 with e1 e2 e3
      subst e1 e3
      obtain ⟨gb, go, e4, ha⟩ := hg (by have := HGL.out; omega)
      subst e4
      have c0 := ha j (by have := HGL.out; omega)
      have d0 := (HQ5.out.below hbr.out) j (by have := HGL.out; omega)
      have HBN := hideN (fun z => (show Below w5.heap.size w5 (wr.drewN z) from hbr.out.trans ((below_drewN (Below.refl wr.heap.size wr) z).mono hbr.out.size)))
      have hjn : decide ((j : Int) < (qn : Int)) = true := by simp; omega
      obtain ⟨x, hx⟩ : ∃ x, La.getD j [] = x := ⟨_, rfl⟩
      rw [hx] at c0 d0
      have hxx : (x != x) = false := by simp
      by_cases hj0 : j = 0
      · subst hj0
        rw [Nat.add_zero] at c0 d0
        have hqn : decide ((0 : Int) < (qn : Int)) = true := by simp; omega
        clear ha hx e2 hjn
        go_wp2_with fail
        go_quiet (fail)
        go_wp2_with fail
        go_roundw
        case rel => exact ⟨1, by omega, by go_num, HBN.out _⟩
        case measure => simp [intOf]; omega
      · obtain ⟨i, rfl⟩ : ∃ i, j = i + 1 := ⟨j - 1, by omega⟩
        have c1 := ha i (by have := HGL.out; omega)
        obtain ⟨y, hy⟩ : ∃ y, La.getD i [] = y := ⟨_, rfl⟩
        rw [hy] at c1
        have hyx : y < x := by
          have h1 := HGL.out
          rw [← hx, ← hy, List.getD, List.getD, List.getElem?_eq_getElem (by omega), List.getElem?_eq_getElem (by omega)]
          exact List.pairwise_iff_getElem.1 HAS.out i (i + 1) (by omega) (by omega) (by omega)
        have hle : Op.bytesLess y x = true := by rw [bytesLess_eq]; exact decide_eq_true hyx
        have hi1 : IntKind.i64.wrap (((i + 1 : Nat) : Int) - 1) = (i : Int) := by simp [IntKind.wrap_i64]; omega
        have hpos : decide ((0 : Int) < ((i + 1 : Nat) : Int)) = true := by simp
        clear ha hx hy hyx e2
        go_wp2_with fail
        go_quiet (fail)
        go_wp2_with fail
        go_roundw
        case rel => exact ⟨i + 2, by omega, by go_num, HBN.out _⟩
        case measure => simp [intOf]; omega
    · obtain rfl : j = qn := by omega
      have hjn : decide ((j : Int) < (j : Int)) = false := by simp
      have HC6 := hideN (belNext HC5.out hbr.out)
      have HG6 := hideN (HG5.out.below hbr.out)
      clear hbr HQ5 HAS
      have a0 := (HKA.out wr HC6.out).c0
      have a1 := (HKA.out wr HC6.out).c1
      have a2 := (HKA.out wr HC6.out).c2
      have a3 := (HKA.out wr HC6.out).c3
      have b0 := (HKB.out wr HC6.out).c0
      have b1 := (HKB.out wr HC6.out).c1
      have b2 := (HKB.out wr HC6.out).c2
      have b3 := (HKB.out wr HC6.out).c3
      obtain ⟨W7, hW7⟩ : ∃ W7, W7 = wr.alloc (.cells #[.int .i64 ka, .int .i64 na, .string sa, .slice aa ma ca, .int .i64 kb, .int .i64 nb, .string sb, .slice ab mb cb] 25) := ⟨_, rfl⟩
      obtain ⟨W8, hW8⟩ : ∃ W8, W8 = W7.alloc (.cells #[.int .i64 6, .int .i64 0, .string ⟨#[61]⟩, .slice (some ⟨wr.heap.size, 0, none⟩) 2 2] 25) := ⟨_, rfl⟩
      have hs7 : W7.heap.size = wr.heap.size + 1 := by rw [hW7]; simp
      have hb78 : Below W7.heap.size W7 W8 := by rw [hW8]; exact belOne _ _
      have hbw7 : Below wr.heap.size wr W7 := by rw [hW7]; exact belOne _ _
      have HX8 : Hid (BlkE W8 (wr.heap.size + 1) (.int .i64 6) (.int .i64 0) (.string ⟨#[61]⟩) (.slice (some ⟨wr.heap.size, 0, none⟩) 2 2) 25) := by rw [hW8, ← hs7]; exact BlkE.new _ _ _ _ _ _
      have HEX : Hid (IsE W8 0 (.node 6 0 ⟨#[61]⟩ [Ta, Tb]) (.agg #[.int .i64 6, .int .i64 0, .string ⟨#[61]⟩, .slice (some ⟨wr.heap.size, 0, none⟩) 2 2])) := by
        refine IsE.below ?_ hb78
        rw [hW7]
        refine isE_row [Ta, Tb] [.agg #[.int .i64 ka, .int .i64 na, .string sa, .slice aa ma ca], .agg #[.int .i64 kb, .int .i64 nb, .string sb, .slice ab mb cb]] _ rfl ⟨by unfold Num64; omega, by unfold Num64; omega, by decide⟩ (by simp) (fun i hi => ?_) (fun i hi => ?_) (by omega)
        · rcases (show i = 0 ∨ i = 1 by simp at hi; omega) with rfl | rfl
          · exact ⟨_, _, _, _, rfl, rfl, rfl, rfl, rfl⟩
          · exact ⟨_, _, _, _, rfl, rfl, rfl, rfl, rfl⟩
        · rcases (show i = 0 ∨ i = 1 by simp at hi; omega) with rfl | rfl
          · exact HEA.out wr HC6.out
          · exact HEB.out wr HC6.out
      have HC8 := hideN (belNext HC6.out (belNext hbw7 hb78))
      have HG8 := hideN (HG6.out.below (belNext hbw7 hb78))
      rw [hW7] at hW8
      have HW8 := hideN hW8
      have HOX := hideN (fun V (h : IsE V 0 (.node 6 0 ⟨#[61]⟩ [Ta, Tb]) (.agg #[.int .i64 6, .int .i64 0, .string ⟨#[61]⟩, .slice (some ⟨wr.heap.size, 0, none⟩) 2 2])) => specExpOk_any 0 _ HTX.out _ V h)
      have HIX := hideN (fun V (h : IsE V 0 (.node 6 0 ⟨#[61]⟩ [Ta, Tb]) (.agg #[.int .i64 6, .int .i64 0, .string ⟨#[61]⟩, .slice (some ⟨wr.heap.size, 0, none⟩) 2 2])) => implExpNames_any 0 _ HTX.out _ V h)
      obtain ⟨X, hX⟩ : ∃ X, ExpT.node 6 0 ⟨#[61]⟩ [Ta, Tb] = X := ⟨_, rfl⟩
      rw [hX] at HM2 HLX HEX
      simp only [hX] at HOX HIX
      obtain ⟨Lx, hLx⟩ : ∃ Lx, namesOf X = Lx := ⟨_, rfl⟩
      rw [hLx] at HLX
      simp only [hLx] at HIX HM2
      obtain ⟨ok, hok⟩ : ∃ ok, okE X = ok := ⟨_, rfl⟩
      simp only [hok] at HOX HM2
      simp only [hLa, hLb] at HM2
      clear hW7 hW8 hs7 hb78 hbw7 hX hLx hok
      go_upto_region 15 with fail
      try rw [← HW8.out]
      clear a0 a1 a2 a3 b0 b1 b2 b3
      have x0 := HX8.out.c0
      have x1 := HX8.out.c1
      have x2 := HX8.out.c2
      have x3 := HX8.out.c3
      go_wp2_with fail
      refine (HOX.out W8 HEX.out).mono ?_
      rintro e w9 ⟨rfl, hb9⟩
      have HC9 := hideN (belNext HC8.out hb9)
      have HG9 := hideN (HG8.out.below hb9)
      have HX9 := hideN (HX8.out.below hb9)
      have HEX9 := hideN (IsE.below HEX.out hb9)
      clear hb9 x0 x1 x2 x3
      cases ok with
      | false =>
        have HBF := hideN (belNext HB3.out HC9.out)
        go_wp2_with fail
        go_ret
        exact ⟨rfl, HBF.out⟩
      | true =>
      have HMX := hideN (HM2.out rfl)
      clear HM2
      have x0 := HX9.out.c0
      have x1 := HX9.out.c1
      have x2 := HX9.out.c2
      have x3 := HX9.out.c3
      go_wp2_with fail
      refine (HIX.out w9 HEX9.out).mono ?_
      rintro e w10 ⟨ha, hn, hc, rfl, hhl, hho, hb10⟩
      have HC10 := hideN (belNext HC9.out hb10)
      have HG10 := hideN (HG9.out.below hb10)
      have HH10 := hideN hho.isT
      have HHL := hideN hhl
      have hhn : hn ≤ 60 := by rw [← hhl]; exact HLX.out
      clear hb10 hho hhl x0 x1 x2 x3
      have b0 := (HKB.out w10 HC10.out).c0
      have b1 := (HKB.out w10 HC10.out).c1
      have b2 := (HKB.out w10 HC10.out).c2
      have b3 := (HKB.out w10 HC10.out).c3
      go_wp2_with fail
      refine (HIB.out w10 HC10.out).mono ?_
      rintro e w11 ⟨oa, on, oc, rfl, hol, hoo, hb11⟩
      have HC11 := hideN (belNext HC10.out hb11)
      have HG11 := hideN (HG10.out.below hb11)
      have HH11 := hideN (HH10.out.below hb11)
      have HO11 := hideN hoo.isT
      clear hb11 hoo hol b0 b1 b2 b3
      have HBF := hideN (belNext HB3.out HC11.out)
      have HRG := hideN (fun y => rgText_any La y _ w11 HG11.out (by have := HLA.out; omega))
      have HRO := hideN (fun y => rgText_any Lb y _ w11 HO11.out (by have := HLB.out; omega))
      have HRH := hideN (fun y => rgText_any Lx y _ w11 HH11.out (by have := HLX.out; omega))
      obtain ⟨gao, gcp, ge, gat⟩ := HG11.out
      injection ge with ge1 ge2 ge3
      subst ge1 ge3
      obtain ⟨hao, hcp, he, hat⟩ := HH11.out
      injection he with he1 he2 he3
      subst he1 he3
      have HGA := hideN gat
      have HHA := hideN hat
      rw [HGL.out] at HGA
      rw [HHL.out] at HHA
      clear gat hat ge2 he2
      go_wp2_with fail
      go_loop [13] (fun i => ∃ k : Nat, k ≤ hn ∧ i = .int .i64 (k : Int)) (fun i => hn - (intOf i).toNat)
      case atStart => exact ⟨0, Nat.zero_le _, rfl⟩
      case round =>
        obtain ⟨k, hk, rfl⟩ := hrel
        by_cases hlk : k < hn
        · obtain ⟨sb, so, hao2, hc2⟩ := HHA.out (by omega)
          subst hao2
          have c0 := hc2 k (by have := HHL.out; omega)
          have hmem : Lx.getD k [] ∈ Lx := by
            rw [List.getD, List.getElem?_eq_getElem (by have := HHL.out; omega)]; simp
          have hor := (HMX.out _).1 hmem
          obtain ⟨y, hy⟩ : ∃ y, Lx.getD k [] = y := ⟨_, rfl⟩
          rw [hy] at c0 hor
          have HC1 := hideN (HRG.out y)
          have HC2 := hideN (HRO.out y)
          have hor2 : La.contains y = true ∨ Lb.contains y = true := hor.imp (fun h => by simpa using h) (fun h => by simpa using h)
          obtain ⟨r1, hr1⟩ : ∃ r1, La.contains y = r1 := ⟨_, rfl⟩
          obtain ⟨r2, hr2⟩ : ∃ r2, Lb.contains y = r2 := ⟨_, rfl⟩
          rw [hr1] at HC1
          rw [hr2] at HC2
          rw [hr1, hr2] at hor2
          have hkn : decide ((k : Int) < (hn : Int)) = true := by simp; omega
          clear hc2 hmem hor hy hr1 hr2
          cases r1 with
          | true =>
            go_wp2_with fail
            refine HC1.out.mono ?_
            rintro e wz ⟨rfl, rfl⟩
            go_wp2_with fail
            go_round
            case rel => exact ⟨k + 1, by omega, by go_num⟩
            case measure => simp [intOf]; omega
          | false =>
            obtain rfl : r2 = true := by simpa using hor2
            go_wp2_with fail
            refine HC1.out.mono ?_
            rintro e wz ⟨rfl, rfl⟩
            go_wp2_with fail
            refine HC2.out.mono ?_
            rintro e wz ⟨rfl, rfl⟩
            go_wp2_with fail
            go_round
            case rel => exact ⟨k + 1, by omega, by go_num⟩
            case measure => simp [intOf]; omega
        · obtain rfl : k = hn := by omega
          have hkn : decide ((k : Int) < (k : Int)) = false := by simp
          go_wp2_with fail
          go_loop [14] (fun i => ∃ l : Nat, l ≤ j ∧ i = .int .i64 (l : Int)) (fun i => j - (intOf i).toNat)
          case atStart => exact ⟨0, Nat.zero_le _, rfl⟩
          case round =>
            obtain ⟨l, hl, rfl⟩ := hrel
            by_cases hll : l < j
            · obtain ⟨sb, so, hao2, hc2⟩ := HGA.out (by omega)
              subst hao2
              have c0 := hc2 l (by have := HGL.out; omega)
              have hmem : La.getD l [] ∈ La := by
                rw [List.getD, List.getElem?_eq_getElem (by have := HGL.out; omega)]; simp
              have hor := (HMX.out _).2 (.inl hmem)
              obtain ⟨y, hy⟩ : ∃ y, La.getD l [] = y := ⟨_, rfl⟩
              rw [hy] at c0 hor
              have HC3 := hideN (HRH.out y)
              have hr3 : Lx.contains y = true := by simpa using hor
              rw [hr3] at HC3
              have hln : decide ((l : Int) < (j : Int)) = true := by simp; omega
              clear hc2 hmem hor hy hr3
              go_wp2_with fail
              refine HC3.out.mono ?_
              rintro e wz ⟨rfl, rfl⟩
              go_wp2_with fail
              go_round
              case rel => exact ⟨l + 1, by omega, by go_num⟩
              case measure => simp [intOf]; omega
            · obtain rfl : l = j := by omega
              have hln : decide ((l : Int) < (l : Int)) = false := by simp
              go_wp2_with fail
              go_ret
              exact ⟨rfl, HBF.out⟩

theorem ownZ : ownKnob Try.prog.godebug = none := by kernel_rfl
theorem laidOutZ : laidOutB Try.prog = true := by kernel_rfl

set_option maxRecDepth 100000 in
theorem fnExpNames_lifted (os : Os) (started : os.Started) (H : Type) (enc : TypeId × Value → H) :
    ReturnsInHanded {} Try.checked os 3 .any (Rows.fnExpNamesSpec.pre6 enc Try.prog Try.f3 Rows.fnExpNamesRow.domain false) (Rows.fnExpNamesSpec.post enc Try.prog Try.f3 false true false false) := by
  refine returnsInHanded_of_change (C := Try.checked) ownZ started (by kernel_rfl) Try.func3
    (ChangeSpec.witness6 (enc := enc) (C := Try.checked) false ⟨#[], #[.slice none 0 0, .slice none 0 0], []⟩ 8 (by kernel_rfl) (by kernel_rfl) (by kernel_rfl) (by kernel_rfl)) ?_
  intro W base args ds gs before hval0 hW hcnd _
  have hval : ∀ (j : Nat) t v, Try.f3.params[j]? = some t → args[j]? = some v → Value.okWide Try.prog W .any base t v := hval0
  have hW' := hW
  obtain ⟨p, q, hA0, hV, rfl, hfz, hnd⟩ := hW
  have hA : DataW.TrodAll enc Try.prog W 0 (fun _ => true) true Try.f3.params.toList args.toList ds p := hA0
  rw [Try.params3] at hA hval
  obtain ⟨v0, vs0, d0, ds0, p0, q0, hargs, rfl, rfl, h0, r0⟩ := trodAll_cons hA
  obtain ⟨v1, vs1, d1, ds1, p1, q1, rfl, rfl, rfl, h1, r1⟩ := trodAll_cons r0
  obtain ⟨rfl, rfl, rfl⟩ := trodAll_nil r1
  obtain rfl : args = #[v0, v1] := by cases args; simp_all
  obtain ⟨rfl, rfl⟩ := trodVars_none hV
  have k0 := h0
  have k1 := h1
  have lt0 : ∀ x ∈ p0, x.block < W.heap.size := by obtain ⟨m, hm⟩ := k0; exact DataW.trod_lt m _ _ _ hm
  have lt1 : ∀ x ∈ p1, x.block < W.heap.size := by obtain ⟨m, hm⟩ := k1; exact DataW.trod_lt m _ _ _ hm
  have hv0 := hval 0 22 v0 rfl rfl
  have hv1 := hval 1 22 v1 rfl rfl
  obtain ⟨ao, len, cap, rfl⟩ := okWide_slice Try.underlying22 hv0
  obtain ⟨fuel, hf⟩ := h0
  obtain ⟨bs, hbs, hml⟩ := isBytes_of_trod (by simpa [Value.cells] using hf)
  obtain ⟨ao1, len1, cap1, rfl⟩ := okWide_slice Try.underlying22 hv1
  obtain ⟨fuel1, hf1⟩ := h1
  obtain ⟨ms, hms, hmu⟩ := isBytes_of_trod (by simpa [Value.cells] using hf1)
  clear hA0 hval0
  refine (fnExpNames_walk _ bs _ ms W hbs hms (fun ao' n' cap' b off h1 h2 => by cases h1; subst h2; exact okWide_slice_lt Try.underlying22 hv0) (fun ao' n' cap' b off h1 h2 => by cases h1; subst h2; exact okWide_slice_lt Try.underlying22 hv1) hml hmu).mono fun e W' ⟨he, bel⟩ => ?_
  subst he
  exact ⟨_, rfl, _, _, _, [], _, [], hW', trodAll_mk1 (shut_bool Try.underlying4 _),
    (trodAll_cons_mk (Below.trod laidOutZ (by kernel_rfl) (of_decide_eq_true (by kernel_rfl)) k0 bel lt0) (trodAll_cons_mk (Below.trod laidOutZ (by kernel_rfl) (of_decide_eq_true (by kernel_rfl)) k1 bel lt1) trodAll_mk0)), rfl, bel.frame _, fun h => by cases h⟩

theorem fnExpNames_holds : Rows.FnExpNamesSaid :=
  OpenClaim.holds_of_wide 3 Try.f3 rfl rfl rfl rfl rfl rfl rfl ⟨rfl, rfl, rfl, rfl, rfl⟩ rfl rfl rfl rfl rfl (by kernel_rfl) Try.func3 (by kernel_rfl)
    (of_decide_eq_true (by kernel_rfl)) (by unfold Func.isWrapper; first | (rw [if_pos (by decide +kernel)]; kernel_rfl) | (rw [if_neg (by decide +kernel)]; exact ⟨rfl, rfl⟩))
    (fun os started H enc _ => fnExpNames_lifted os started H enc)

end Go.Proofs.Ytgjficnpkmemgaa

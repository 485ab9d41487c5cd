/-
  The law FnAigRun (a run is step behind step): a circuit and rows of inputs are drawn from the bytes that come in; the law answers true at every such argument. No condition: every argument that can be read.
-/
import Derived.Test.YtgpilkjnhdcamaaAigR1
import Derived.Deep.RegionHeld3
import Derived.Deep.RegionLaw
namespace Go.Proofs.Ytgpilkjnhdcamaa
open Go.ChangeShapes Go.WideShapes Go.ChangeAt Go.RowKit Go.Deep Go.Joins
set_option linter.unusedVariables false

set_option maxRecDepth 100000 in
set_option maxHeartbeats 16000000 in
theorem fnAigRun_walk (v : Value) (bs : List Int) (w : World) (hv : IsBytes w v bs) (hal : ∀ ao n cap b off, v = .slice ao n cap → ao = some ⟨b, off, none⟩ → b < w.heap.size) (hml : bs.length ≤ maxLen) :
    Calls Try.prog 5 #[v] w fun e w' => e = .returned (.bool true) ∧ Below w.heap.size w w' := by
  unfold maxLen at hml
  have HV0 : Hid (IsBytes w v bs) := hv
  have HAL : Hid (∀ ao n cap b off, v = .slice ao n cap → ao = some ⟨b, off, none⟩ → b < w.heap.size) := hal
  obtain ⟨aoc, capc, rfl, _⟩ := hv
  clear hal
  by_cases hbig : bs.length ≤ 1048576
  · go_enter Try.func5, Try.ntmps5
    go_wp2_with fail
    refine (drawAigRun_any _ bs _ HV0.out hbig HAL.out).mono ?_
    rintro e w0 ⟨inp, al, aa, ab, cl, ca, cb, ls, xs, cs, ar, cr, rows, rfl, hD, hRW, hr41, hrc, hrl⟩
    have hlo := hD.lo
    have hhi := hD.hi
    have hll := hD.ll
    have hla := hD.la
    have hlb := hD.lb
    have L64 : Hid (∀ p ∈ ls, I64 p.1) := hD.l64
    have A64 : Hid (∀ p ∈ xs, I64 p.1 ∧ I64 p.2) := hD.a64
    have B64 : Hid (∀ x ∈ cs, I64 x) := hD.b64
    have HRL : Hid (∀ i, i < rows.length → ((rows.getD i []).length : Int) = if inp < 0 then 0 else inp) := hrl
    have HSM : Hid (rows.length + sumB rows ≤ 1048576) := by
      have := sumB_le rows 9 (fun i hi => by have := hrl i hi; split at this <;> omega)
      show _ ≤ _
      omega
    obtain ⟨W1, hW1⟩ : ∃ W1, W1 = w0.alloc (.cells #[.int .i64 inp, .slice al ls.length cl, .slice aa xs.length ca, .slice ab cs.length cb] 27) := ⟨_, rfl⟩
    have HF1 : Hid (Four W1 w0.heap.size (.int .i64 inp) (.slice al ls.length cl) (.slice aa xs.length ca) (.slice ab cs.length cb)) := by rw [hW1]; exact Four.new _ _ _ _ _ _
    have HBW : Hid (Below w.heap.size w W1) := by rw [hW1]; exact belNext hD.bel (belOne _ _)
    have HV : Hid (∀ w', Below W1.heap.size W1 w' → IsCir w' al aa ab cl ca cb ls xs cs) := fun w' h => by subst hW1; exact hD.cir.below (belNext (belOne _ _) h)
    have HRW : Hid (∀ w', Below W1.heap.size W1 w' → IsBRows w' (.slice ar rows.length cr) rows) := fun w' h => by subst hW1; exact hRW.below (belNext (belOne _ _) h)
    have HB1 : Hid (Below W1.heap.size W1 W1) := Below.refl _ _
    have HW1 : Hid (W1 = w0.alloc (.cells #[.int .i64 inp, .slice al ls.length cl, .slice aa xs.length ca, .slice ab cs.length cb] 27)) := hW1
    clear hD hRW hW1 hrl
    obtain ⟨K, hK⟩ : ∃ K, runOf inp ls xs cs rows = K := ⟨_, rfl⟩
    have HK : Hid (runOf inp ls xs cs rows = K) := hK
    obtain ⟨o, ho⟩ : ∃ o, okC inp ls xs cs = o := ⟨_, rfl⟩
    have HO : Hid (okC inp ls xs cs = o) := ho
    have HOS : Hid (okS inp ls xs cs = o) := by show okS inp ls xs cs = o; rw [← okC_eq L64.out A64.out B64.out]; exact ho
    clear hK ho
    go_wp2_with fail
    rw [← HW1.out]
    refine (implAigRun_any inp al aa ab cl ca cb ls xs cs ar cr rows _ (HV.out _ HB1.out) (HRW.out _ HB1.out) L64.out A64.out B64.out HSM.out).mono ?_
    rintro e w2 ⟨he, hb2⟩
    rw [HK.out] at he
    subst he
    have HB2 : Hid (Below W1.heap.size W1 w2) := hb2
    have HF2 := hideD (HF1.out.below hb2)
    clear hb2
    have c20 := HF2.out.c0
    have c21 := HF2.out.c1
    have c22 := HF2.out.c2
    have c23 := HF2.out.c3
    have c24 := HF2.out.lt
    go_wp2_with fail
    refine (specAigRun_any inp al aa ab cl ca cb ls xs cs ar cr rows _ (HV.out _ HB2.out) (HRW.out _ HB2.out) L64.out A64.out B64.out HSM.out).mono ?_
    rintro e w3 ⟨he, hb3⟩
    rw [HK.out] at he
    subst he
    have HB3 : Hid (Below W1.heap.size W1 w3) := belNext HB2.out hb3
    have HF3 := hideD (HF1.out.below HB3.out)
    clear hb3 c20 c21 c22 c23 c24
    have c30 := HF3.out.c0
    have c31 := HF3.out.c1
    have c32 := HF3.out.c2
    have c33 := HF3.out.c3
    have c34 := HF3.out.lt
    go_wp2_with fail
    refine (specAigOk_any inp al aa ab cl ca cb ls xs cs _ (HV.out _ HB3.out)).mono ?_
    rintro e w4 ⟨he, hb4⟩
    rw [HOS.out] at he
    subst he
    have HB4 : Hid (Below W1.heap.size W1 w4) := belNext HB3.out hb4
    have HF4 := hideD (HF1.out.below HB4.out)
    clear hb4 c30 c31 c32 c33 c34
    have c40 := HF4.out.c0
    have c41 := HF4.out.c1
    have c42 := HF4.out.c2
    have c43 := HF4.out.c3
    have c44 := HF4.out.lt
    cases o with
    | false =>
      go_wp2_with fail
      refine (specAigRun_any inp al aa ab cl ca cb ls xs cs ar cr rows _ (HV.out _ HB4.out) (HRW.out _ HB4.out) L64.out A64.out B64.out HSM.out).mono ?_
      rintro e w5 ⟨he, hb5⟩
      rw [HK.out] at he
      subst he
      have HB5 : Hid (Below W1.heap.size W1 w5) := belNext HB4.out hb5
      clear hb5
      go_wp2
      go_ret
      exact ⟨by first | rfl | simp, HBW.out.trans (HB5.out.mono HBW.out.size)⟩
    | true =>
      by_cases h40 : rows.length ≤ 40
      · obtain ⟨hi0, hi8, _, hx40, hb4⟩ := sizes_ok HO.out
        have HKF : Hid (runF inp ls xs cs rows (ls.map Prod.snd) 0 = K) := by show _ = K; rw [← runOf_ok HO.out h40]; exact HK.out
        have HE0 : Hid (Ownb (w4.alloc (.cells #[] 4)) W1.heap.size (.slice (some ⟨w4.heap.size, 0, none⟩) 0 0) []) := (ownb_empty w4).base HB4.out.size
        go_wp2_with fail
        clear c40 c41 c42 c43 c44
        go_loopw [6, 7] (fun o i wr => ∃ a m cp k, k ≤ ls.length ∧ i = .int .i64 (k : Nat) ∧ o = .slice a m cp ∧ Hid ((initsL ls k).length = m) ∧ Ownb wr W1.heap.size (.slice a m cp) (initsL ls k) ∧ Below W1.heap.size W1 wr) (fun _ i _ => ls.length - (intOf i).toNat)
        case atStart => exact ⟨_, 0, 0, 0, Nat.zero_le _, rfl, rfl, rfl, HE0.out, belNext HB4.out (belOne _ _)⟩
        case round =>
          rename World => wr
          obtain ⟨a, m, cp, k, hk, rfl, rfl, hm, hown, hbel⟩ := hrel
          have hm8 : m ≤ 8 := by rw [← hm.out, initsL_length _ _ hk]; omega
          have HOW : Hid (Ownb wr W1.heap.size (.slice a m cp) (initsL ls k)) := hown
          have HBR : Hid (Below W1.heap.size W1 wr) := hbel
          have HFR := hideD (HF1.out.below hbel)
          clear hown hbel
          have c1 := HFR.out.c1
          have c4 := HFR.out.lt
          by_cases hkl : k < ls.length
          · obtain ⟨b, off, hal', hbl, hx1, hx2⟩ : ∃ b off, al = some ⟨b, off, none⟩ ∧ b < wr.heap.size ∧ wr.cell? ⟨b, off + k * 2, none⟩ = some (.int .i64 (ls.getD k (0, false)).1) ∧ wr.cell? ⟨b, off + k * 2 + 1, none⟩ = some (.bool (ls.getD k (0, false)).2) := by
              obtain ⟨ao', cap', he, h⟩ := (HV.out _ HBR.out).isL
              obtain ⟨b, off, ha, hc⟩ := h (by intro e; subst e; simp at hkl)
              injection he with e1 e2 e3
              exact ⟨b, off, e1.trans ha, cell_lt (hc k hkl).1, hc k hkl⟩
            subst hal'
            have hsucc := initsL_succ ls k hkl
            generalize ls.getD k (0, false) = qq at *
            obtain ⟨qx, y⟩ := qq
            have hx1 : wr.cell? ⟨b, off + k * 2, none⟩ = some (.int .i64 qx) := hx1
            have hx2 : wr.cell? ⟨b, off + k * 2 + 1, none⟩ = some (.bool y) := hx2
            have HS : Hid (initsL ls (k + 1) = initsL ls k ++ [y]) := hsucc
            have HT2 : Hid (Ownb (wr.alloc (.cells #[.bool y] 4)) W1.heap.size (.slice a m cp) (initsL ls k)) := HOW.out.below (belOne _ _)
            have HTL : Hid (Below W1.heap.size W1 (wr.alloc (.cells #[.bool y] 4))) := belNext HBR.out (belOne _ _)
            have HTB : Hid (IsBits (wr.alloc (.cells #[.bool y] 4)) (.slice (some ⟨wr.heap.size, 0, none⟩) 1 1) [y]) := bits_new _ y _ (by simp)
            clear hsucc
            go_wp2_with (at_builtin; refine wpList_push rfl _ _ rfl W1.heap.size _ _ (initsL ls k) y rfl rfl HT2.out HTL.out.size HTB.out m hm (by omega) ?_; intro g5 cp5 w5 hv5 hg5; have S5 : Hid (Ownb w5 W1.heap.size (.slice (some ⟨g5, 0, none⟩) (m + 1) cp5) (initsL ls k ++ [y])) := hv5; have S6 : Hid (Below W1.heap.size W1 w5) := below_grown HTL.out HT2.out HTL.out.size hg5; clear hv5 hg5)
            go_roundw
            case rel => exact ⟨_, m + 1, cp5, k + 1, by omega, by go_num, rfl, by show (initsL ls (k + 1)).length = m + 1; rw [HS.out, List.length_append, hm.out]; rfl, by rw [HS.out]; exact S5.out, S6.out⟩
            case measure => simp [intOf]; omega
          · obtain rfl : k = ls.length := by omega
            rw [initsL_all] at hm HOW
            have HI0 : Hid (IsBits wr (.slice a m cp) (ls.map Prod.snd)) := HOW.out.isBits
            go_wp2_with fail
            clear c1 c4
            go_loopw [6, 8] (fun o i wr => ∃ (a : Option Addr) (cp q : Nat) (lats : List Bool), q ≤ rows.length ∧ i = .int .i64 q ∧ o = .slice a lats.length cp ∧ Hid (lats.length = ls.length) ∧ IsBits wr (.slice a lats.length cp) lats ∧ Below W1.heap.size W1 wr ∧ Hid (RunInv inp ls xs cs rows q lats)) (fun _ i _ => rows.length - (intOf i).toNat)
            case atStart => exact ⟨a, cp, 0, ls.map Prod.snd, Nat.zero_le _, rfl, by rw [hm.out], by show (ls.map Prod.snd).length = _; simp, by rw [hm.out]; exact HI0.out, HBR.out, inv_zero⟩
            case round =>
              rename World => wo
              obtain ⟨a, cp, q, lats, hq, rfl, rfl, HLL, hbits, hbel, HINV⟩ := hrel
              have HLB : Hid (IsBits wo (.slice a lats.length cp) lats) := hbits
              have HBO : Hid (Below W1.heap.size W1 wo) := hbel
              have HFO := hideD (HF1.out.below hbel)
              clear hbits hbel
              have hl4 : lats.length ≤ 4 := by have := HLL.out; omega
              have c0 := HFO.out.c0
              have c1 := HFO.out.c1
              have c2 := HFO.out.c2
              have c3 := HFO.out.c3
              have c4 := HFO.out.lt
              by_cases hlt : q < rows.length
              · obtain ⟨b, off, rv, har, hcr, hir⟩ : ∃ b off rv, ar = some ⟨b, off, none⟩ ∧ wo.cell? ⟨b, off + q, none⟩ = some rv ∧ IsBits wo rv (rows.getD q []) := by
                  obtain ⟨ao', cap', he, h⟩ := HRW.out _ HBO.out
                  obtain ⟨b, off, ha, hc⟩ := h (by intro e; subst e; simp at hlt)
                  obtain ⟨r, h1, h2⟩ := hc q hlt
                  injection he with e1 e2 e3
                  exact ⟨b, off, r, e1.trans ha, h1, h2⟩
                subst har
                have hrq := HRL.out q hlt
                rw [if_neg (by omega)] at hrq
                obtain ⟨row, hrow⟩ : ∃ row, rows.getD q [] = row := ⟨_, rfl⟩
                have HROW : Hid (rows.getD q [] = row) := hrow
                rw [hrow] at hrq hir
                clear hrow
                obtain ⟨a6, c6, rfl, _⟩ : ∃ a6 c6, rv = .slice a6 row.length c6 ∧ True := by obtain ⟨a, c, h, _⟩ := hir; exact ⟨a, c, h, trivial⟩
                have HIR : Hid (IsBits wo (.slice a6 row.length c6) row) := hir
                have hbeq : ((row.length : Int) == inp) = true := by simp [hrq]
                have HRQ : Hid ((row.length : Int) = inp) := hrq
                have hr9 : row.length ≤ 9 := by omega
                have hbb : b < wo.heap.size := cell_lt hcr
                have HFIT : Hid (fitsB inp ls xs cs lats row = true) := fitsB_iff.2 ⟨HO.out, HLL.out, hrq⟩
                clear hir hrq
                obtain ⟨nx, hnx⟩ : ∃ nx, nextOf inp ls xs cs lats row = nx := ⟨_, rfl⟩
                obtain ⟨bd, hbd⟩ : ∃ bd, badOf inp ls xs cs lats row = bd := ⟨_, rfl⟩
                have HNX : Hid (nextOf inp ls xs cs lats row = nx) := hnx
                have HBD : Hid (badOf inp ls xs cs lats row = bd) := hbd
                have HNL : Hid (nx.length = ls.length) := by show nx.length = _; rw [← hnx]; exact nextOf_len HFIT.out
                have hbd5 : bd.length ≤ 5 := by rw [← hbd, badOf_len HFIT.out]; exact hlb
                clear hnx hbd
                go_wp2_with fail
                go_quiet (fail)
                go_wp2_with fail
                go_region_law (first
                  | (go_simp; go_at_call 18; refine (implAigStep_any inp al aa ab cl ca cb ls xs cs a a6 cp c6 lats row _ (HV.out _ (by first | exact (below_drewN HBO.out _).drew | exact below_drewN HBO.out _)) (HLB.out.below (by first | exact (below_drewN (Below.refl _ _) _).drew | exact below_drewN (Below.refl _ _) _)) (HIR.out.below (by first | exact (below_drewN (Below.refl _ _) _).drew | exact below_drewN (Below.refl _ _) _)) L64.out A64.out B64.out (by omega) (by omega)).mono ?_; rintro e w7 ⟨a1, m1, d1, a2, m2, d2, n2, rfl, hm1, hm2, _, ho1, _, ho2, hb7⟩; rw [HNX.out] at hm1 ho1; rw [HBD.out] at hm2 ho2; have HM1 : Hid (nx.length = m1) := hm1; have HM2 : Hid (bd.length = m2) := hm2; have HO1 : Hid (IsBits w7 (.slice a1 m1 d1) nx) := ho1.isBits; have HO2 : Hid (IsBits w7 (.slice a2 m2 d2) bd) := ho2.isBits; have hm25 : m2 ≤ 5 := (by omega); have HB7 : Hid (Below W1.heap.size W1 w7) := belNext (by first | exact (below_drewN HBO.out _).drew | exact below_drewN HBO.out _) hb7; clear hm1 hm2 ho1 ho2 hb7))
                all_goals
                  clear c0 c1 c2 c3 c4
                  go_wp2_with fail
                  go_loop [11, 12] (fun s j => ∃ (u : Nat) (sb : Bool), u ≤ m2 ∧ j = .int .i64 u ∧ s = .bool sb ∧ Hid (anyOf (bd.take u) = sb)) (fun _ j => m2 - (intOf j).toNat)
                  case atStart => exact ⟨0, false, Nat.zero_le _, rfl, rfl, rfl⟩
                  case round =>
                    obtain ⟨u, sb, hu, rfl, rfl, hany⟩ := hrel
                    by_cases hum : u < m2
                    · have hts := anyOf_take_succ bd u (by rw [HM2.out]; exact hum)
                      rw [hany.out] at hts
                      have HTS : Hid (anyOf (bd.take (u + 1)) = (sb || bd.getD u false)) := hts
                      clear hts
                      obtain ⟨b9, o9, ha9, hc9⟩ : ∃ b9 o9, a2 = some ⟨b9, o9, none⟩ ∧ w7.cell? ⟨b9, o9 + u, none⟩ = some (.bool (bd.getD u false)) := by
                        obtain ⟨ao', cap', he, h⟩ := HO2.out
                        obtain ⟨b, off, ha, hc⟩ := h (by intro e; subst e; have := HM2.out; simp at this; omega)
                        injection he with e1 e2 e3
                        exact ⟨b, off, e1.trans ha, hc u (by rw [HM2.out]; exact hum)⟩
                      subst ha9
                      generalize bd.getD u false = y at *
                      cases sb
                      · go_wp2_with fail
                        go_round
                        case rel => exact ⟨u + 1, y, by omega, by go_num, rfl, by have h := HTS.out; rw [Bool.false_or] at h; exact h⟩
                        case measure => simp [intOf]; omega
                      · go_wp2_with fail
                        go_round
                        case rel => exact ⟨u + 1, true, by omega, by go_num, rfl, by have h := HTS.out; rw [Bool.true_or] at h; exact h⟩
                        case measure => simp [intOf]; omega
                    · obtain rfl : u = m2 := by omega
                      have hab := hany.out
                      rw [List.take_of_length_le (by rw [HM2.out]; omega)] at hab
                      have HANY : Hid (anyOf (badOf inp ls xs cs lats (rows.getD q [])) = sb) := by show _ = sb; rw [HROW.out, HBD.out]; exact hab
                      have HLQ : Hid (((rows.getD q []).length : Int) = inp) := by show _ = inp; rw [HROW.out]; exact HRQ.out
                      clear hab hany
                      cases sb
                      · have HINV2 : Hid (RunInv inp ls xs cs rows (q + 1) nx) := by
                          have h := inv_succ HINV.out hlt HLQ.out HANY.out
                          rw [HROW.out, HNX.out] at h
                          exact h
                        go_wp2_with fail
                        go_roundw
                        case rel => exact ⟨a1, d1, q + 1, nx, by omega, by go_num, by rw [HM1.out], HNL.out, by rw [HM1.out]; exact HO1.out, HB7.out, HINV2.out⟩
                        case measure => simp [intOf]; omega
                      · obtain ⟨k1, k2, k3⟩ := inv_bad HINV.out hlt HLQ.out HANY.out
                        have hkq : (K == (q : Int)) = true := by rw [← HKF.out, k1]; simp
                        have hl1 : (rows.take q).length = q := by simp; omega
                        obtain ⟨q1, hq1⟩ : ∃ q1, q1 = q + 1 := ⟨_, rfl⟩
                        have hl2 : (rows.take (q + 1)).length = q1 := by simp; omega
                        have HR1 : Hid (runOf inp ls xs cs (rows.take q) = -1) := by show _ = _; rw [runOf_ok HO.out (by omega)]; exact k2
                        have HR2 : Hid (runOf inp ls xs cs (rows.take (q + 1)) = (q : Int)) := by show _ = _; rw [runOf_ok HO.out (by omega)]; exact k3
                        have HL1 : Hid ((rows.take q).length = q) := hl1
                        have HL2 : Hid ((rows.take (q + 1)).length = q1) := hl2
                        have HSM1 : Hid ((rows.take q).length + sumB (rows.take q) ≤ 1048576) := Nat.le_trans (sumB_take rows q) HSM.out
                        have HSM2 : Hid ((rows.take (q + 1)).length + sumB (rows.take (q + 1)) ≤ 1048576) := Nat.le_trans (sumB_take rows (q + 1)) HSM.out
                        have HT1 : Hid (∀ w', Below W1.heap.size W1 w' → IsBRows w' (.slice (some ⟨b, off, none⟩) q cr) (rows.take q)) := fun w' h => brows_take (HRW.out _ h) (by omega)
                        have HT2 : Hid (∀ w', Below W1.heap.size W1 w' → IsBRows w' (.slice (some ⟨b, off, none⟩) q1 cr) (rows.take (q + 1))) := fun w' h => by rw [hq1]; exact brows_take (HRW.out _ h) (by omega)
                        have HF7 := hideD (HF1.out.below HB7.out)
                        have c70 := HF7.out.c0
                        have c71 := HF7.out.c1
                        have c72 := HF7.out.c2
                        have c73 := HF7.out.c3
                        have c74 := HF7.out.lt
                        have hqc : (q : Int) ≤ (cr : Int) := by omega
                        have hqc1 : (q1 : Int) ≤ (cr : Int) := by omega
                        have hq10 : (0 : Int) ≤ (q1 : Int) := by omega
                        have hwq : IntKind.i64.wrap ((q : Int) + 1) = (q1 : Int) := by rw [IntKind.wrap_i64]; omega
                        have hq00 : (0 : Int) ≤ (q : Int) := by omega
                        have hcr0 : 0 < cr := by omega
                        clear k1 k2 k3 hl1 hl2 hcr hq1
                        go_wp2_with fail
                        go_region_held3 (fun w' => w'.cell? ⟨w0.heap.size, 0, none⟩ = some (.int .i64 inp) ∧ w'.cell? ⟨w0.heap.size, 1, none⟩ = some (.slice al ls.length cl) ∧ w'.cell? ⟨w0.heap.size, 2, none⟩ = some (.slice aa xs.length ca) ∧ w'.cell? ⟨w0.heap.size, 3, none⟩ = some (.slice ab cs.length cb) ∧ w0.heap.size < w'.heap.size)
                            (first | exact ⟨by assumption, by assumption, by assumption, by assumption, by assumption⟩ | (go_keep; done) | (go_keep; omega))
                            (first
                              | (have hh8 := HB8.out; clear hh8; go_simp; go_at_call 21; refine (implAigRun_n inp al aa ab cl ca cb ls xs cs (some ⟨b, off, none⟩) cr q1 (rows.take (q + 1)) _ HL2.out (HV.out _ (by first | exact HB8.out | exact HB8.out.drew)) (HT2.out _ (by first | exact HB8.out | exact HB8.out.drew)) L64.out A64.out B64.out HSM2.out).mono ?_; rintro e w9 ⟨he, hbz⟩; rw [HR2.out] at he; subst he; have HB9 : Hid (Below W1.heap.size W1 w9) := belNext HB8.out (by first | exact hbz | exact undrew hbz); have HF9 := hideD (HF1.out.below HB9.out); have c90 := HF9.out.c0; have c91 := HF9.out.c1; have c92 := HF9.out.c2; have c93 := HF9.out.c3; have c94 := HF9.out.lt; clear hbz)
                              | (go_simp; go_at_call 21; refine (implAigRun_n inp al aa ab cl ca cb ls xs cs (some ⟨b, off, none⟩) cr q (rows.take q) _ HL1.out (HV.out _ (by first | exact HB7.out | exact HB7.out.drew)) (HT1.out _ (by first | exact HB7.out | exact HB7.out.drew)) L64.out A64.out B64.out HSM1.out).mono ?_; rintro e w8 ⟨he, hbz⟩; rw [HR1.out] at he; subst he; have HB8 : Hid (Below W1.heap.size W1 w8) := belNext HB7.out (by first | exact hbz | exact undrew hbz); have HF8 := hideD (HF1.out.below HB8.out); have c80 := HF8.out.c0; have c81 := HF8.out.c1; have c82 := HF8.out.c2; have c83 := HF8.out.c3; have c84 := HF8.out.lt; clear hbz))
                        all_goals
                          go_wp2
                          go_ret
                          exact ⟨by first | rfl | simp, HBW.out.trans (HB9.out.mono HBW.out.size)⟩
              · obtain rfl : q = rows.length := by omega
                have hkm : K = -1 := by rw [← HKF.out]; exact inv_end HINV.out
                have hkb : (K == -1) = true := by rw [hkm]; rfl
                clear hkm c0 c1 c2 c3
                go_wp2
                go_ret
                exact ⟨by first | rfl | simp, HBW.out.trans (HBO.out.mono HBW.out.size)⟩
      · go_wp2_with fail
        refine (specAigRun_any inp al aa ab cl ca cb ls xs cs ar cr rows _ (HV.out _ HB4.out) (HRW.out _ HB4.out) L64.out A64.out B64.out HSM.out).mono ?_
        rintro e w5 ⟨he, hb5⟩
        rw [HK.out] at he
        subst he
        have HB5 : Hid (Below W1.heap.size W1 w5) := belNext HB4.out hb5
        clear hb5
        go_wp2
        go_ret
        exact ⟨by first | rfl | simp, HBW.out.trans (HB5.out.mono HBW.out.size)⟩
  · go_enter Try.func5, Try.ntmps5
    go_wp2
    go_ret
    exact ⟨rfl, Below.refl _ _⟩

set_option maxRecDepth 100000 in
theorem fnAigRun_lifted (os : Os) (started : os.Started) (H : Type) (enc : TypeId × Value → H) :
    ReturnsInHanded {} Try.checked os 5 .any (Rows.fnAigRunSpec.pre6 enc Try.prog Try.f5 Rows.fnAigRunRow.domain false) (Rows.fnAigRunSpec.post enc Try.prog Try.f5 false true false false) := by
  refine returnsInHanded_of_change (C := Try.checked) own started (by kernel_rfl) Try.func5
    (ChangeSpec.witness6 (enc := enc) (C := Try.checked) false ⟨#[], #[.slice none 0 0], []⟩ 8 (by kernel_rfl) (by kernel_rfl) (by kernel_rfl) (by kernel_rfl)) ?_
  intro W base args ds gs before hval0 hW hcnd _
  have hval : ∀ (j : Nat) t v, Try.f5.params[j]? = some t → args[j]? = some v → Value.okWide Try.prog W .any base t v := hval0
  have hW' := hW
  obtain ⟨p, q, hA0, hV, rfl, hfz, hnd⟩ := hW
  have hA : DataW.TrodAll enc Try.prog W 0 (fun _ => true) true Try.f5.params.toList args.toList ds p := hA0
  rw [Try.params5] at hA hval
  obtain ⟨v0, vs0, d0, ds0, p0, q0, hargs, rfl, rfl, h0, r0⟩ := trodAll_cons hA
  obtain ⟨rfl, rfl, rfl⟩ := trodAll_nil r0
  obtain rfl : args = #[v0] := by cases args; simp_all
  obtain ⟨rfl, rfl⟩ := trodVars_none hV
  have k0 := h0
  have lt0 : ∀ x ∈ p0, x.block < W.heap.size := by obtain ⟨m, hm⟩ := k0; exact DataW.trod_lt m _ _ _ hm
  have hv0 := hval 0 22 v0 rfl rfl
  obtain ⟨ao, len, cap, rfl⟩ := okWide_slice Try.underlying22 hv0
  obtain ⟨fuel, hf⟩ := h0
  obtain ⟨bs, hbs, hml⟩ := isBytes_of_trod (by simpa [Value.cells] using hf)
  clear hA0 hval0
  refine (fnAigRun_walk _ bs W hbs (fun ao' n' cap' b off h1 h2 => by cases h1; subst h2; exact okWide_slice_lt Try.underlying22 hv0) hml).mono fun e W' ⟨he, bel⟩ => ?_
  subst he
  exact ⟨_, rfl, _, _, _, [], _, [], hW', trodAll_mk1 (shut_bool Try.underlying4 _), (trodAll_cons_mk (Below.trod laidOut (by kernel_rfl) (of_decide_eq_true (by kernel_rfl)) k0 bel lt0) trodAll_mk0), rfl, bel.frame _, fun h => by cases h⟩

theorem fnAigRun_holds : Rows.FnAigRunSaid :=
  OpenClaim.holds_of_wide 5 Try.f5 rfl rfl rfl rfl rfl rfl rfl ⟨rfl, rfl, rfl, rfl, rfl⟩ rfl rfl rfl rfl rfl (by kernel_rfl) Try.func5 (by kernel_rfl)
    (of_decide_eq_true (by kernel_rfl)) (by unfold Func.isWrapper; first | (rw [if_pos (by decide +kernel)]; kernel_rfl) | (rw [if_neg (by decide +kernel)]; exact ⟨rfl, rfl⟩))
    (fun os started H enc _ => fnAigRun_lifted os started H enc)

end Go.Proofs.Ytgpilkjnhdcamaa

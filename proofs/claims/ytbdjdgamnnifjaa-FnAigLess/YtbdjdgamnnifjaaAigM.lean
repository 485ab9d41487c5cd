/-
  A step of a circuit: AigStep of the model and of the program at every argument.
-/
import Derived.Test.YtbdjdgamnnifjaaAigL
namespace Go.Proofs.Ytbdjdgamnnifjaa
open Go.RowKit Go.Deep Go.Shelf
set_option linter.unusedVariables false

attribute [local go_sem] Oper.semAt_some

theorem nextOf_fits {inp : Int} {ls : List (Int × Bool)} {xs : List (Int × Int)} {bs : List Int} {lats ins : List Bool} (h : fitsB inp ls xs bs lats ins = true) : nextOf inp ls xs bs lats ins = (ls.map Prod.fst).map (litV (valF (startOf ins lats) xs xs.length)) := by
  unfold nextOf; rw [if_pos h]
theorem nextOf_not {inp : Int} {ls : List (Int × Bool)} {xs : List (Int × Int)} {bs : List Int} {lats ins : List Bool} (h : fitsB inp ls xs bs lats ins = false) : nextOf inp ls xs bs lats ins = [] := by
  unfold nextOf; rw [h]; rfl
theorem badOf_fits {inp : Int} {ls : List (Int × Bool)} {xs : List (Int × Int)} {bs : List Int} {lats ins : List Bool} (h : fitsB inp ls xs bs lats ins = true) : badOf inp ls xs bs lats ins = bs.map (litV (valF (startOf ins lats) xs xs.length)) := by
  unfold badOf; rw [if_pos h]
theorem badOf_not {inp : Int} {ls : List (Int × Bool)} {xs : List (Int × Int)} {bs : List Int} {lats ins : List Bool} (h : fitsB inp ls xs bs lats ins = false) : badOf inp ls xs bs lats ins = [] := by
  unfold badOf; rw [h]; rfl

set_option maxHeartbeats 1000000 in
theorem specAigStep_any (inp : Int) (al aa ab : Option Addr) (cl ca cb : Nat) (ls : List (Int × Bool)) (xs : List (Int × Int)) (bs : List Int) (alt ain : Option Addr) (clt cin : Nat) (lats ins : List Bool) (w : World) (hC : IsCir w al aa ab cl ca cb ls xs bs)
    (hLa : IsBits w (.slice alt lats.length clt) lats) (hIn : IsBits w (.slice ain ins.length cin) ins) (hl64 : ∀ p ∈ ls, I64 p.1) (h64 : ∀ p ∈ xs, I64 p.1 ∧ I64 p.2) (hb64 : ∀ x ∈ bs, I64 x) (hl1 : lats.length ≤ 1048576) (hl2 : ins.length ≤ 1048576) :
    Calls Try.prog 21 #[.agg #[.int .i64 inp, .slice al ls.length cl, .slice aa xs.length ca, .slice ab bs.length cb], .slice alt lats.length clt, .slice ain ins.length cin] w (StepPost (nextOf inp ls xs bs lats ins) (badOf inp ls xs bs lats ins) w) := by
  have HE : Hid (okC inp ls xs bs = okS inp ls xs bs) := okC_eq hl64 h64 hb64
  have HC : Hid (∀ w', Below w.heap.size w w' → IsCir w' al aa ab cl ca cb ls xs bs) := fun w' h => hC.below h
  have HLA : Hid (∀ w', Below w.heap.size w w' → IsBits w' (.slice alt lats.length clt) lats) := fun w' h => hLa.below h
  have HIN : Hid (∀ w', Below w.heap.size w w' → IsBits w' (.slice ain ins.length cin) ins) := fun w' h => hIn.below h
  have H64 : Hid (∀ p ∈ xs, I64 p.1 ∧ I64 p.2) := h64
  have HL64 : Hid (∀ p ∈ ls, I64 p.1) := hl64
  have HB64 : Hid (∀ x ∈ bs, I64 x) := hb64
  have HF0 : Hid (Four (w.alloc (.cells #[.int .i64 inp, .slice al ls.length cl, .slice aa xs.length ca, .slice ab bs.length cb] 33)) w.heap.size (.int .i64 inp) (.slice al ls.length cl) (.slice aa xs.length ca) (.slice ab bs.length cb)) := Four.new _ _ _ _ _ _
  clear hC hLa hIn h64 hl64 hb64
  obtain ⟨o, ho⟩ : ∃ o, fitsB inp ls xs bs lats ins = o := ⟨_, rfl⟩
  have HO : Hid (fitsB inp ls xs bs lats ins = o) := ho
  clear ho
  cases o with
  | false =>
    rw [nextOf_not HO.out, badOf_not HO.out]
    go_enter Try.func21, Try.ntmps21
    go_wp2_with fail
    refine (l3Fits_any inp al aa ab cl ca cb ls xs bs _ _ _ _ lats ins _ (HC.out _ (belOne _ _)) HE.out hl1 hl2).mono ?_
    rintro e w1 ⟨rfl, hb⟩
    rw [HO.out]
    have HB1 : Hid (Below w.heap.size w w1) := belNext (belOne _ _) hb
    clear hb
    go_wp2
    go_ret2
    have hsz := HB1.out.size
    refine ⟨_, 0, 0, _, 0, 0, w1.heap.size + 1, rfl, rfl, rfl, by omega, ((ownb_empty w1).base hsz).below (belOne _ _), fun k e => ?_, ?_, belNext (belNext HB1.out (belOne _ _)) (belOne _ _)⟩
    · have : w1.heap.size = k := by simpa [Value.ownBlock] using e
      omega
    · have := ownb_empty (w1.alloc (.cells #[] 4))
      rwa [World.size_alloc] at this
  | true =>
    rw [nextOf_fits HO.out, badOf_fits HO.out]
    have HFI : Hid (okC inp ls xs bs = true ∧ lats.length = ls.length ∧ (ins.length : Int) = inp) := fitsB_iff.1 HO.out
    go_enter Try.func21, Try.ntmps21
    go_wp2_with fail
    refine (l3Fits_any inp al aa ab cl ca cb ls xs bs _ _ _ _ lats ins _ (HC.out _ (belOne _ _)) HE.out hl1 hl2).mono ?_
    rintro e w1 ⟨rfl, hb⟩
    rw [HO.out]
    have HB1 : Hid (Below w.heap.size w w1) := belNext (belOne _ _) hb
    have HF1 : Hid (Four w1 w.heap.size (.int .i64 inp) (.slice al ls.length cl) (.slice aa xs.length ca) (.slice ab bs.length cb)) := HF0.out.below hb
    clear hb
    have c0 := HF1.out.c0
    have c1 := HF1.out.c1
    have c2 := HF1.out.c2
    have c3 := HF1.out.c3
    go_wp2_with fail
    refine (l3Step_any inp al aa ab cl ca cb ls xs bs _ _ _ _ lats ins _ (HC.out _ HB1.out) (HLA.out _ HB1.out) (HIN.out _ HB1.out) HFI.out.1 HFI.out.2.1 HFI.out.2.2 HL64.out H64.out HB64.out).mono ?_
    rintro e w2 ⟨a1, m1, k1, a2, m2, k2, n, rfl, e1, e2, hn, o1, hlt, o2, hb2⟩
    have HQ : Hid (Ownb w2 w1.heap.size (.slice a1 m1 k1) ((ls.map Prod.fst).map (litV (valF (startOf ins lats) xs xs.length))) ∧ (∀ k, (Value.slice a1 m1 k1).ownBlock = some k → k < n) ∧ Ownb w2 n (.slice a2 m2 k2) (bs.map (litV (valF (startOf ins lats) xs xs.length)))) := ⟨o1, hlt, o2⟩
    have HB2 : Hid (Below w.heap.size w w2) := belNext HB1.out hb2
    have HE1 : Hid (((ls.map Prod.fst).map (litV (valF (startOf ins lats) xs xs.length))).length = m1) := e1
    have HE2 : Hid ((bs.map (litV (valF (startOf ins lats) xs xs.length))).length = m2) := e2
    clear o1 o2 hlt hb2 e1 e2
    go_wp2
    go_ret2
    have hsz := HB1.out.size
    exact ⟨a1, m1, k1, a2, m2, k2, n, rfl, HE1.out, HE2.out, by omega, HQ.out.1.base hsz, HQ.out.2.1, HQ.out.2.2, HB2.out⟩

theorem bits_new (W : World) (y : Bool) (s : Nat) (hs : W.heap.size = s) : IsBits (W.alloc (.cells #[.bool y] 4)) (.slice (some ⟨s, 0, none⟩) 1 1) [y] :=
  ⟨_, _, rfl, fun _ => ⟨s, 0, rfl, fun i hi => by obtain rfl : i = 0 := (by simpa using hi); subst hs; exact (Boxed.new W 4 (.bool y)).cell⟩⟩

set_option maxRecDepth 100000 in
set_option maxHeartbeats 4000000 in
theorem implAigStep_any (inp : Int) (al aa ab : Option Addr) (cl ca cb : Nat) (ls : List (Int × Bool)) (xs : List (Int × Int)) (bs : List Int) (alt ain : Option Addr) (clt cin : Nat) (lats ins : List Bool) (w : World) (hC : IsCir w al aa ab cl ca cb ls xs bs)
    (hLa : IsBits w (.slice alt lats.length clt) lats) (hIn : IsBits w (.slice ain ins.length cin) ins) (hl64 : ∀ p ∈ ls, I64 p.1) (h64 : ∀ p ∈ xs, I64 p.1 ∧ I64 p.2) (hb64 : ∀ x ∈ bs, I64 x) (hl1 : lats.length ≤ 1048576) (hl2 : ins.length ≤ 1048576) :
    Calls Try.prog 22 #[.agg #[.int .i64 inp, .slice al ls.length cl, .slice aa xs.length ca, .slice ab bs.length cb], .slice alt lats.length clt, .slice ain ins.length cin] w (StepPost (nextOf inp ls xs bs lats ins) (badOf inp ls xs bs lats ins) w) := by
  have HC : Hid (∀ w', Below w.heap.size w w' → IsCir w' al aa ab cl ca cb ls xs bs) := fun w' h => hC.below h
  have HLA : Hid (∀ w', Below w.heap.size w w' → IsBits w' (.slice alt lats.length clt) lats) := fun w' h => hLa.below h
  have HIN : Hid (∀ w', Below w.heap.size w w' → IsBits w' (.slice ain ins.length cin) ins) := fun w' h => hIn.below h
  have H64 : Hid (∀ p ∈ xs, I64 p.1 ∧ I64 p.2) := h64
  have HL64 : Hid (∀ p ∈ ls, I64 p.1) := hl64
  have HB64 : Hid (∀ x ∈ bs, I64 x) := hb64
  have HO0 : Hid (Own4 (w.alloc (.cells #[.int .i64 inp, .slice al ls.length cl, .slice aa xs.length ca, .slice ab bs.length cb] 33)) w.heap.size 33 (.int .i64 inp) (.slice al ls.length cl) (.slice aa xs.length ca) (.slice ab bs.length cb)) := Own4.new _ _ _ _ _ _
  clear hC hLa hIn h64 hl64 hb64
  obtain ⟨o, ho⟩ : ∃ o, fitsB inp ls xs bs lats ins = o := ⟨_, rfl⟩
  have HO : Hid (fitsB inp ls xs bs lats ins = o) := ho
  clear ho
  cases o with
  | false =>
    rw [nextOf_not HO.out, badOf_not HO.out]
    go_enter Try.func22, Try.ntmps22
    go_wp2_with fail
    refine (implAigValues_any inp al aa ab cl ca cb ls xs bs _ _ _ _ lats ins _ (HC.out _ (belOne _ _)) (HLA.out _ (belOne _ _)) (HIN.out _ (belOne _ _)) H64.out hl1 hl2).mono ?_
    rintro e w1 ⟨av, mv, cv, rfl, hmv, hown, hb⟩
    rw [valsOf_not HO.out] at hmv
    have hm0 : mv = 0 := by simpa using hmv.symm
    subst hm0
    have HB1 : Hid (Below w.heap.size w w1) := belNext (belOne _ _) hb
    clear hb hown hmv
    go_wp2
    go_ret2
    have hsz := HB1.out.size
    exact ⟨none, 0, 0, none, 0, 0, w1.heap.size, rfl, rfl, rfl, hsz, ownb_nil _ _, fun k e => by simp [Value.ownBlock] at e, ownb_nil _ _, HB1.out⟩
  | true =>
    rw [nextOf_fits HO.out, badOf_fits HO.out]
    obtain ⟨hok, hll, hil⟩ := fitsB_iff.1 HO.out
    have hsz : 0 ≤ inp ∧ inp ≤ 8 ∧ ls.length ≤ 8 ∧ xs.length ≤ 40 ∧ bs.length ≤ 4 := by
      have h := hok
      unfold okC sizesB at h
      simp only [Bool.and_eq_true, decide_eq_true_eq] at h
      exact h.1
    obtain ⟨h0, h1, h2, h3, h4⟩ := hsz
    have HOK : Hid (okC inp ls xs bs = true) := hok
    have hvl : ((valF (startOf ins lats) xs xs.length).length : Int) = 1 + inp + ls.length + xs.length := by
      rw [valF_length _ _ _ (Nat.le_refl _)]; unfold startOf; simp; omega
    have HVL : Hid (((valF (startOf ins lats) xs xs.length).length : Int) = 1 + inp + ls.length + xs.length) := hvl
    have HVS : Hid (valsOf inp ls xs bs lats ins = valF (startOf ins lats) xs xs.length) := valsOf_fits HO.out
    clear hok hll hil hvl
    go_enter Try.func22, Try.ntmps22
    go_wp2_with fail
    refine (implAigValues_any inp al aa ab cl ca cb ls xs bs _ _ _ _ lats ins _ (HC.out _ (belOne _ _)) (HLA.out _ (belOne _ _)) (HIN.out _ (belOne _ _)) H64.out hl1 hl2).mono ?_
    rintro e w1 ⟨av, mv, cv, rfl, hmv, hown, hb1⟩
    rw [HVS.out] at hmv hown
    have HB1 : Hid (Below w.heap.size w w1) := belNext (belOne _ _) hb1
    have HO1 : Hid (Own4 w1 w.heap.size 33 (.int .i64 inp) (.slice al ls.length cl) (.slice aa xs.length ca) (.slice ab bs.length cb)) := HO0.out.below hb1
    have HV1 : Hid (IsBits w1 (.slice av mv cv) (valF (startOf ins lats) xs xs.length)) := hown.isBits
    clear hown hb1 HO0 HVS
    generalize valF (startOf ins lats) xs xs.length = vs at *
    have HMV : Hid (vs.length = mv) := hmv
    have hv60 : vs.length ≤ 100 := by have := HVL.out; omega
    have hmp : decide ((mv : Int) = 0) = false := by have := HVL.out; simp; omega
    have hmp2 : ((mv : Int) == 0) = false := by have := HVL.out; simp; omega
    clear hmv
    have d0 := HO1.out.four.c0
    have d1 := HO1.out.four.c1
    have d2 := HO1.out.four.c2
    have d3 := HO1.out.four.c3
    have d4 := HO1.out.lt
    go_wp2
    go_loopw [9, 25] (fun o i wr => ∃ a m cp k, k ≤ ls.length ∧ i = .int .i64 (k : Nat) ∧ o = .slice a m cp ∧ Hid ((litsF vs (ls.map Prod.fst) k).length = m) ∧ Below w1.heap.size w1 wr ∧ Ownb wr w1.heap.size (.slice a m cp) (litsF vs (ls.map Prod.fst) k)) (fun _ i _ => ls.length - (intOf i).toNat)
    case atStart => exact ⟨none, 0, 0, 0, Nat.zero_le _, rfl, rfl, rfl, Below.refl _ _, ownb_nil _ _⟩
    case round =>
      obtain ⟨a, m, cp, k, hk, rfl, rfl, hm, hB, hR⟩ := hrel
      have hm8 : m ≤ 8 := by rw [← hm.out, litsF_length _ _ _ (by simpa using hk)]; omega
      have hO := HO1.out.below hB
      have c0 := hO.four.c0
      have c1 := hO.four.c1
      have c2 := hO.four.c2
      have c3 := hO.four.c3
      have c4 := hO.lt
      clear hO d0 d1 d2 d3 d4
      by_cases hkl : k < ls.length
      · have hCr := HC.out _ (belNext HB1.out hB)
        obtain ⟨b, off, rfl, hbl, hx1, hx2⟩ : ∃ b off, al = some ⟨b, off, none⟩ ∧ b < wr.heap.size ∧ wr.cell? ⟨b, off + k * 2, none⟩ = some (.int .i64 (ls.getD k (0, false)).1) ∧ wr.cell? ⟨b, off + k * 2 + 1, none⟩ = some (.bool (ls.getD k (0, false)).2) := by
          obtain ⟨ao', cap', he, h⟩ := hCr.isL
          obtain ⟨b, off, ha, hc⟩ := h (by intro e; subst e; simp at hkl)
          injection he with e1 e2 e3
          exact ⟨b, off, e1.trans ha, cell_lt (hc k hkl).1, hc k hkl⟩
        have hmem : ls.getD k (0, false) ∈ ls := by rw [List.getD, List.getElem?_eq_getElem hkl]; simp
        have hsucc := litsF_succ vs (ls.map Prod.fst) k (by simpa using hkl)
        have hget : (ls.map Prod.fst).getD k 0 = (ls.getD k (0, false)).1 := by simp [List.getD, List.getElem?_eq_getElem hkl]
        rw [hget] at hsucc
        have hp := ahead_of (latch_ahead HOK.out hmem) (HL64.out _ hmem)
        clear hCr hmem hget
        generalize ls.getD k (0, false) = qq at *
        obtain ⟨q, z⟩ := qq
        have hq0 : 0 ≤ q := hp.1
        have hq1 : q < 2 * (vs.length : Int) := by have := hp.2; rw [HVL.out]; omega
        obtain ⟨y, hy⟩ : ∃ y, litV vs q = y := ⟨_, rfl⟩
        rw [hy] at hsucc
        have hx1 : wr.cell? ⟨b, off + k * 2, none⟩ = some (.int .i64 q) := hx1
        have hx2 : wr.cell? ⟨b, off + k * 2 + 1, none⟩ = some (.bool z) := hx2
        have HY : Hid (litV vs q = y) := hy
        have HS : Hid (litsF vs (ls.map Prod.fst) (k + 1) = litsF vs (ls.map Prod.fst) k ++ [y]) := hsucc
        have HV : Hid (IsBits (wr.alloc (.cells #[.int .i64 q, .bool z] 86)) (.slice av mv cv) vs) := HV1.out.below (belNext hB (belOne _ _))
        have HB : Hid (∀ n, Below w1.heap.size w1 (((wr.alloc (.cells #[.int .i64 q, .bool z] 86)).drewN n).alloc (.cells #[.bool y] 4))) := fun n => belNext (below_drewN (belNext hB (belOne _ _)) n) (belOne _ _)
        have HR : Hid (∀ n, Ownb (((wr.alloc (.cells #[.int .i64 q, .bool z] 86)).drewN n).alloc (.cells #[.bool y] 4)) w1.heap.size (.slice a m cp) (litsF vs (ls.map Prod.fst) k)) := fun n => (hR.below (belOne _ _)).below (belNext (below_drewN (Below.refl _ _) n) (belOne _ _))
        have HTB : Hid (∀ n, IsBits (((wr.alloc (.cells #[.int .i64 q, .bool z] 86)).drewN n).alloc (.cells #[.bool y] 4)) (.slice (some ⟨wr.heap.size + 1, 0, none⟩) 1 1) [y]) := fun n => bits_new _ y _ (by simp)
        clear hy hsucc hB hR hp
        go_wp2_with (first
          | (go_at_call 56; refine (is_any q _ vs _ HV.out hq0 hq1 hv60).mono ?_; rintro e w' ⟨rfl, nd, rfl⟩; rw [HY.out])
          | (at_builtin; refine wpList_push rfl _ _ rfl w1.heap.size _ _ (litsF vs (ls.map Prod.fst) k) y rfl rfl (HR.out nd) (HB.out nd).size (HTB.out nd) m hm (by omega) ?_; intro g5 cp5 w5 hv5 hg5; have B5 : Hid (Below w1.heap.size w1 w5) := below_grown (HB.out nd) (HR.out nd) (HB.out nd).size hg5; have R5 : Hid (Ownb w5 w1.heap.size (.slice (some ⟨g5, 0, none⟩) (m + 1) cp5) (litsF vs (ls.map Prod.fst) k ++ [y])) := hv5; clear hv5 hg5))
        go_roundw
        case rel => exact ⟨_, m + 1, cp5, k + 1, by omega, by go_num, rfl, by show (litsF vs (ls.map Prod.fst) (k + 1)).length = m + 1; rw [HS.out, List.length_append, hm.out]; rfl, B5.out, by rw [HS.out]; exact R5.out⟩
        case measure => simp [intOf]; omega
      · obtain rfl : k = ls.length := by omega
        have HBo : Hid (Below w1.heap.size w1 wr) := hB
        have HRo : Hid (Ownb wr w1.heap.size (.slice a m cp) (litsF vs (ls.map Prod.fst) ls.length)) := hR
        have HBw : Hid (Below w.heap.size w wr) := belNext HB1.out hB
        have HOo : Hid (Own4 wr w.heap.size 33 (.int .i64 inp) (.slice al ls.length cl) (.slice aa xs.length ca) (.slice ab bs.length cb)) := HO1.out.below hB
        have HVo : Hid (IsBits wr (.slice av mv cv) vs) := HV1.out.below hB
        have hsz1 := HB1.out.size
        have hsz2 := hB.size
        clear hB hR hkl hk
        go_wp2
        rename World => wo
        go_loopw [10, 40] (fun o i wr => ∃ a m cp k, k ≤ bs.length ∧ i = .int .i64 (k : Nat) ∧ o = .slice a m cp ∧ Hid ((litsF vs bs k).length = m) ∧ Below wo.heap.size wo wr ∧ Ownb wr wo.heap.size (.slice a m cp) (litsF vs bs k)) (fun _ i _ => bs.length - (intOf i).toNat)
        case atStart => exact ⟨none, 0, 0, 0, Nat.zero_le _, rfl, rfl, rfl, Below.refl _ _, ownb_nil _ _⟩
        case round =>
          obtain ⟨a', m', cp', k, hk, rfl, rfl, hm', hB, hR⟩ := hrel
          have hm8' : m' ≤ 4 := by rw [← hm'.out, litsF_length _ _ _ hk]; omega
          have hO := HOo.out.below hB
          clear c0 c1 c2 c3 c4
          have c0 := hO.four.c0
          have c1 := hO.four.c1
          have c2 := hO.four.c2
          have c3 := hO.four.c3
          have c4 := hO.lt
          clear hO
          by_cases hkl : k < bs.length
          · have hCr := HC.out _ (belNext HBw.out hB)
            obtain ⟨b, off, rfl, hbl, hx1⟩ : ∃ b off, ab = some ⟨b, off, none⟩ ∧ b < wr.heap.size ∧ wr.cell? ⟨b, off + k, none⟩ = some (.int .i64 (bs.getD k 0)) := by
              obtain ⟨ao', cap', he, h⟩ := hCr.isB
              obtain ⟨b, off, ha, hc⟩ := h (by intro e; subst e; simp at hkl)
              injection he with e1 e2 e3
              exact ⟨b, off, e1.trans ha, cell_lt (hc k hkl), hc k hkl⟩
            have hmem : bs.getD k 0 ∈ bs := by rw [List.getD, List.getElem?_eq_getElem hkl]; simp
            have hsucc := litsF_succ vs bs k hkl
            have hp := ahead_of (bad_ahead HOK.out hmem) (HB64.out _ hmem)
            clear hCr hmem
            generalize bs.getD k 0 = q at *
            have hq0 : 0 ≤ q := hp.1
            have hq1 : q < 2 * (vs.length : Int) := by have := hp.2; rw [HVL.out]; omega
            obtain ⟨y, hy⟩ : ∃ y, litV vs q = y := ⟨_, rfl⟩
            rw [hy] at hsucc
            have HY : Hid (litV vs q = y) := hy
            have HS : Hid (litsF vs bs (k + 1) = litsF vs bs k ++ [y]) := hsucc
            have HV : Hid (IsBits wr (.slice av mv cv) vs) := HVo.out.below hB
            have HB : Hid (∀ n, Below wo.heap.size wo ((wr.drewN n).alloc (.cells #[.bool y] 4))) := fun n => belNext (below_drewN hB n) (belOne _ _)
            have HR : Hid (∀ n, Ownb ((wr.drewN n).alloc (.cells #[.bool y] 4)) wo.heap.size (.slice a' m' cp') (litsF vs bs k)) := fun n => hR.below (belNext (below_drewN (Below.refl _ _) n) (belOne _ _))
            have HTB : Hid (∀ n, IsBits ((wr.drewN n).alloc (.cells #[.bool y] 4)) (.slice (some ⟨wr.heap.size, 0, none⟩) 1 1) [y]) := fun n => bits_new _ y _ (by simp)
            clear hy hsucc hB hR hp
            go_wp2_with (first
              | (go_at_call 56; refine (is_any q _ vs _ HV.out hq0 hq1 hv60).mono ?_; rintro e w' ⟨rfl, nd, rfl⟩; rw [HY.out])
              | (at_builtin; refine wpList_push rfl _ _ rfl wo.heap.size _ _ (litsF vs bs k) y rfl rfl (HR.out nd) (HB.out nd).size (HTB.out nd) m' hm' (by omega) ?_; intro g5 cp5 w5 hv5 hg5; have B5 : Hid (Below wo.heap.size wo w5) := below_grown (HB.out nd) (HR.out nd) (HB.out nd).size hg5; have R5 : Hid (Ownb w5 wo.heap.size (.slice (some ⟨g5, 0, none⟩) (m' + 1) cp5) (litsF vs bs k ++ [y])) := hv5; clear hv5 hg5))
            go_roundw
            case rel => exact ⟨_, m' + 1, cp5, k + 1, by omega, by go_num, rfl, by show (litsF vs bs (k + 1)).length = m' + 1; rw [HS.out, List.length_append, hm'.out]; rfl, B5.out, by rw [HS.out]; exact R5.out⟩
            case measure => simp [intOf]; omega
          · obtain rfl : k = bs.length := by omega
            have HBz : Hid (Below wo.heap.size wo wr) := hB
            have HRz : Hid (Ownb wr wo.heap.size (.slice a' m' cp') (litsF vs bs bs.length)) := hR
            clear hB hR
            go_wp2
            go_ret2
            have e1 : litsF vs (ls.map Prod.fst) ls.length = (ls.map Prod.fst).map (litV vs) := by have := litsF_all vs (ls.map Prod.fst); rwa [List.length_map] at this
            rw [litsF_all] at HRz
            rw [e1] at HRo hm
            rw [litsF_all] at hm'
            exact ⟨a, m, cp, a', m', cp', wo.heap.size, rfl, hm.out, hm'.out, by omega, (HRo.out.below HBz.out).base hsz1, fun k e => (World.ownsRow.lt HRo.out k e).2, HRz.out, belNext HBw.out HBz.out⟩

end Go.Proofs.Ytbdjdgamnnifjaa

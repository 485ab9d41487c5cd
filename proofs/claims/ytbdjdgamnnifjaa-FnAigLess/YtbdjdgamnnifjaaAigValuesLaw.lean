/-
  The law FnExactAigValues: at every argument the program's AigValues answers as the model's, writes into no argument, and its answer owns its memory. No condition: every argument that can be read.
-/
import Derived.Test.YtbdjdgamnnifjaaAigK
import Derived.Test.YtbdjdgamnnifjaaAigOpen
import Derived.Deep.Grids
namespace Go.Proofs.Ytbdjdgamnnifjaa
open Go.ChangeShapes Go.WideShapes Go.ChangeAt Go.RowKit Go.Deep Go.Joins
set_option linter.unusedVariables false

theorem isBits_of_trod {H : Type} {enc : TypeId × Value → H} {w : World} {base : Nat} {held : Bool} {fuel : Nat} {v : Value} {x : DataW H × List MemPlace} (h : DataW.trod enc Try.prog w base (fun _ => true) held fuel 27 [v] = some x) :
    ∃ ms, IsBits w v ms ∧ ms.length ≤ maxLen := by
  rcases open_bools Try.underlying27 Try.underlying4 cells_bool h with ⟨hcs, _⟩ | ⟨a, l, c, B, hcs, _, hl, hm, _, hcell⟩
  · simp at hcs
    subst hcs
    exact ⟨[], ⟨_, _, rfl, fun hne => absurd rfl hne⟩, by simp⟩
  · simp at hcs
    subst hcs
    have hlen : ((List.range l).map B).length = l := by simp
    refine ⟨(List.range l).map B, ⟨some a, c, by rw [hlen], fun hne => ?_⟩, by rw [hlen]; omega⟩
    have hpos : 0 < l := by
      rcases Nat.eq_zero_or_pos l with e | e
      · subst e; simp at hne
      · exact e
    obtain ⟨b, off, rfl, hc⟩ := addr_plain (n := l) (f := fun i => .bool (B i)) hpos (fun i hi => hcell i (by omega))
    refine ⟨b, off, rfl, fun i hi => ?_⟩
    rw [hlen] at hi
    rw [hc i hi]
    simp [List.getD, hi]

theorem valsOf_length (inp : Int) (ls : List (Int × Bool)) (xs : List (Int × Int)) (bs : List Int) (lats ins : List Bool) : (valsOf inp ls xs bs lats ins).length ≤ 100 := by
  unfold valsOf
  split
  · rename_i h
    obtain ⟨h1, h2, h3⟩ := h
    unfold okC sizesB at h1
    simp only [Bool.and_eq_true, decide_eq_true_eq] at h1
    obtain ⟨⟨a, b, c, d, _⟩, _⟩ := h1
    rw [valF_length _ _ _ (Nat.le_refl _)]
    unfold startOf
    simp
    omega
  · simp

theorem Ownb.chg {p : Nat → Prop} {a b : World} {base : Nat} {v : Value} {vs : List Bool} (h : Ownb a base v vs) (hc : Chg p a b) (hne : ∀ k, v.ownBlock = some k → ¬ p k) : Ownb b base v vs :=
  h.of_block (fun g e => hc.block g (by
    rcases h.2 with ⟨rfl, _⟩ | ⟨g', cap, cur, rfl, _, hh, _⟩
    · cases e
    · cases e; exact (Array.getElem?_eq_some_iff.1 hh).1) (hne g e))

theorem Ownb.blk {w : World} {base : Nat} {v : Value} {vs : List Bool} (h : Ownb w base v vs) : ∀ k, v.ownBlock = some k → base ≤ k ∧ k < w.heap.size := World.ownsRow.lt h

/-- Marks written into an answer that owns its memory. -/
theorem mark_own (w : World) (base : Nat) (ao : Option Addr) (m cap : Nat) (vs : List Bool) (h : Ownb w base (.slice ao m cap) vs) (hm : vs.length = m) (hl : vs.length ≤ 100) :
    Calls Try.prog 19 #[.slice ao m cap, .int .i64 1] w fun e w' => e = .returned (.int .i64 (1 + m)) ∧ IsBits w' (.slice ao m cap) (markL 1 m) ∧ Chg (fun k => (Value.slice ao m cap).ownBlock = some k) w w' := by
  subst hm
  by_cases hz : vs.length = 0
  · have e0 : (1 : Int) + ((vs.length : Nat) : Int) = 1 := by omega
    rw [e0]
    rw [hz]
    refine (markBoolS_none (.slice ao 0 cap) ao cap 1 w (by omega) (by omega)).mono ?_
    rintro e w' ⟨rfl, rfl⟩
    exact ⟨rfl, ⟨ao, cap, by simp [markL], fun hne => absurd (by simp [markL]) hne⟩, Chg.refl _ _⟩
  · rcases h.2 with ⟨_, h0⟩ | ⟨g, cp, cur, hv, hg, hh, hle, hmx, hsz, htk⟩
    · omega
    · cases hv
      have hrow : w.rowIs g 4 cap (fun i => cur.getD i (.bool false)) := ⟨cur, hh, by omega, fun i hi => by rw [Array.getElem?_eq_getElem (by omega)]; simp [Array.getD, show i < cur.size by omega]⟩
      refine (markBoolS_any g vs.length cap _ 1 w hrow hle (by omega) (by omega) (by omega)).mono ?_
      rintro e w' ⟨rfl, ⟨f', hr', hf'⟩, hch⟩
      refine ⟨rfl, ?_, hch.mono (fun k e => by subst e; rfl)⟩
      have := IsBits.of_row (ms := markL 1 vs.length) (by rw [markL_length]; exact hle) hr' (fun i hi => by rw [markL_length] at hi; rw [hf' i hi, markL_get 1 vs.length i hi])
      rwa [markL_length] at this

/-- What stands while the law goes on. -/
structure Lst (w V : World) (s4 s8 bX bl6 ba6 bb6 b1 b2 : Nat) (inp : Int) (al aa ab : Option Addr) (cl ca cb : Nat) (ls : List (Int × Bool)) (xs : List (Int × Int)) (bs : List Int) (lats ins vs : List Bool) (vw vg : Value) : Prop where
  fa : Four V w.heap.size (.int .i64 inp) (.slice al ls.length cl) (.slice aa xs.length ca) (.slice ab bs.length cb)
  fx : Four V bX (.int .i64 inp) (.slice (some ⟨bl6, 0, none⟩) ls.length ls.length) (.slice (some ⟨ba6, 0, none⟩) xs.length xs.length) (.slice (some ⟨bb6, 0, none⟩) bs.length bs.length)
  cx : CirAt V bl6 ba6 bb6 ls xs bs
  r1 : V.rowIs b1 4 lats.length (fun i => .bool (lats.getD i false))
  r2 : V.rowIs b2 4 ins.length (fun i => .bool (ins.getD i false))
  ow : Ownb V s4 vw vs
  og : Ownb V s8 vg vs
  be : Below w.heap.size w V

theorem Lst.below {w V V' : World} {s4 s8 bX bl6 ba6 bb6 b1 b2 : Nat} {inp : Int} {al aa ab : Option Addr} {cl ca cb : Nat} {ls : List (Int × Bool)} {xs : List (Int × Int)} {bs : List Int} {lats ins vs : List Bool} {vw vg : Value}
    (h : Lst w V s4 s8 bX bl6 ba6 bb6 b1 b2 inp al aa ab cl ca cb ls xs bs lats ins vs vw vg) (hb : Below V.heap.size V V') : Lst w V' s4 s8 bX bl6 ba6 bb6 b1 b2 inp al aa ab cl ca cb ls xs bs lats ins vs vw vg :=
  ⟨h.fa.below hb, h.fx.below hb, h.cx.below hb, h.r1.of_block (hb.block _ h.r1.lt), h.r2.of_block (hb.block _ h.r2.lt), h.ow.below hb, h.og.below hb, belNext h.be hb⟩

set_option maxRecDepth 100000 in
set_option maxHeartbeats 8000000 in
theorem fnExactAigValues_walk (inp : Int) (al aa ab : Option Addr) (cl ca cb : Nat) (ls : List (Int × Bool)) (xs : List (Int × Int)) (bs : List Int) (alt ain : Option Addr) (clt cin : Nat) (lats ins : List Bool) (w : World) (hC : IsCir w al aa ab cl ca cb ls xs bs)
    (hLa : IsBits w (.slice alt lats.length clt) lats) (hIn : IsBits w (.slice ain ins.length cin) ins) (hl64 : ∀ p ∈ ls, I64 p.1) (hx64 : ∀ p ∈ xs, I64 p.1 ∧ I64 p.2) (hb64 : ∀ x ∈ bs, I64 x) (hm1 : lats.length ≤ maxLen) (hm2 : ins.length ≤ maxLen) :
    Calls Try.prog 3 #[.agg #[.int .i64 inp, .slice al ls.length cl, .slice aa xs.length ca, .slice ab bs.length cb], .slice alt lats.length clt, .slice ain ins.length cin] w fun e w' => e = .returned (.bool true) ∧ Below w.heap.size w w' := by
  unfold maxLen at hm1 hm2
  have HB0 : Hid (Below w.heap.size w (w.alloc (.cells #[.int .i64 inp, .slice al ls.length cl, .slice aa xs.length ca, .slice ab bs.length cb] 26))) := belOne _ _
  by_cases hn1 : lats.length ≤ 1048576
  case neg =>
    clear hC hLa hIn hl64 hx64 hb64
    have d1 : decide ((1048576 : Int) < (lats.length : Int)) = true := by simp; omega
    go_enter Try.func3, Try.ntmps3
    go_wp2
    go_ret
    exact ⟨rfl, HB0.out⟩
  have d1 : decide ((1048576 : Int) < (lats.length : Int)) = false := by simp; omega
  by_cases hn2 : ins.length ≤ 1048576
  case neg =>
    clear hC hLa hIn hl64 hx64 hb64
    have d2 : decide ((1048576 : Int) < (ins.length : Int)) = true := by simp; omega
    go_enter Try.func3, Try.ntmps3
    go_wp2
    go_ret
    exact ⟨rfl, HB0.out⟩
  have d2 : decide ((1048576 : Int) < (ins.length : Int)) = false := by simp; omega
  have HC : Hid (∀ w', Below w.heap.size w w' → IsCir w' al aa ab cl ca cb ls xs bs) := fun w' h => hC.below h
  have HLA : Hid (∀ w', Below w.heap.size w w' → IsBits w' (.slice alt lats.length clt) lats) := fun w' h => hLa.below h
  have HIN : Hid (∀ w', Below w.heap.size w w' → IsBits w' (.slice ain ins.length cin) ins) := fun w' h => hIn.below h
  have HSZ : Hid (Calls Try.prog 11 #[.agg #[.int .i64 inp, .slice al ls.length cl, .slice aa xs.length ca, .slice ab bs.length cb], .int .i64 1048576] (w.alloc (.cells #[.int .i64 inp, .slice al ls.length cl, .slice aa xs.length ca, .slice ab bs.length cb] 26)) fun e w' => e = .returned (.int .i64 (szC ls.length xs.length bs.length)) ∧ Below (w.alloc (.cells #[.int .i64 inp, .slice al ls.length cl, .slice aa xs.length ca, .slice ab bs.length cb] 26)).heap.size (w.alloc (.cells #[.int .i64 inp, .slice al ls.length cl, .slice aa xs.length ca, .slice ab bs.length cb] 26)) w') := szAig_any inp al aa ab ls.length cl xs.length ca bs.length cb _ hC.lenL hC.lenA hC.lenB
  have HT0 : Hid (Four (w.alloc (.cells #[.int .i64 inp, .slice al ls.length cl, .slice aa xs.length ca, .slice ab bs.length cb] 26)) w.heap.size (.int .i64 inp) (.slice al ls.length cl) (.slice aa xs.length ca) (.slice ab bs.length cb)) := Four.new _ _ _ _ _ _
  have HL64 : Hid (∀ p ∈ ls, I64 p.1) := hl64
  have HX64 : Hid (∀ p ∈ xs, I64 p.1 ∧ I64 p.2) := hx64
  have HB64 : Hid (∀ x ∈ bs, I64 x) := hb64
  clear hC hLa hIn hl64 hx64 hb64
  by_cases hbig : ls.length + xs.length + bs.length ≤ 1048576
  case neg =>
    have HZ : Hid (szC ls.length xs.length bs.length = -1) := by show szC ls.length xs.length bs.length = _; unfold szC; rw [if_neg hbig]
    go_enter Try.func3, Try.ntmps3
    go_wp2_with fail
    refine HSZ.out.mono ?_
    rintro e w1 ⟨rfl, hb1⟩
    rw [HZ.out]
    have HB1 : Hid (Below w.heap.size w w1) := belNext HB0.out hb1
    clear hb1
    go_wp2
    go_ret
    exact ⟨rfl, HB1.out⟩
  have hl : ls.length ≤ 1048576 := by omega
  have ha : xs.length ≤ 1048576 := by omega
  have hb : bs.length ≤ 1048576 := by omega
  have HZ : Hid (szC ls.length xs.length bs.length = 1048576 - ((ls.length : Int) + xs.length + bs.length)) := by show szC ls.length xs.length bs.length = _; unfold szC; rw [if_pos hbig]
  obtain ⟨vs, hvs⟩ : ∃ vs, valsOf inp ls xs bs lats ins = vs := ⟨_, rfl⟩
  have HVS : Hid (valsOf inp ls xs bs lats ins = vs) := hvs
  have hvl : vs.length ≤ 100 := by rw [← hvs]; exact valsOf_length _ _ _ _ _ _
  have HVM : Hid (vs.length ≤ maxLen) := by show vs.length ≤ maxLen; unfold maxLen; omega
  have HM1 : Hid (lats.length ≤ maxLen) := by show lats.length ≤ maxLen; unfold maxLen; omega
  have HM2 : Hid (ins.length ≤ maxLen) := by show ins.length ≤ maxLen; unfold maxLen; omega
  clear hvs
  go_enter Try.func3, Try.ntmps3
  go_wp2_with fail
  refine HSZ.out.mono ?_
  rintro e w1 ⟨rfl, hb1⟩
  rw [HZ.out]
  have HB1 : Hid (Below w.heap.size w w1) := belNext HB0.out hb1
  have HT1 : Hid (Four w1 w.heap.size (.int .i64 inp) (.slice al ls.length cl) (.slice aa xs.length ca) (.slice ab bs.length cb)) := HT0.out.below hb1
  clear hb1
  have c0 := HT1.out.c0
  have c1 := HT1.out.c1
  have c2 := HT1.out.c2
  have c3 := HT1.out.c3
  have c4 := HT1.out.lt
  go_wp2_with fail
  refine (toAig_any inp al aa ab cl ca cb ls xs bs _ (HC.out _ HB1.out) hl ha hb).mono ?_
  rintro e w2 ⟨bl2, ba2, bb2, rfl, hb2, _, _, _, hc2⟩
  have HB2 : Hid (Below w.heap.size w w2) := belNext HB1.out hb2
  have HT2 : Hid (Four w2 w.heap.size (.int .i64 inp) (.slice al ls.length cl) (.slice aa xs.length ca) (.slice ab bs.length cb)) := HT1.out.below hb2
  have HD2 : Hid (CirAt w2 bl2 ba2 bb2 ls xs bs) := hc2
  clear hb2 hc2 c0 c1 c2 c3 c4
  go_wp2_with fail
  refine (toBoolS_any _ lats _ (HLA.out _ HB2.out) hn1).mono ?_
  rintro e w3 ⟨rfl, hb3, hz3, hr3⟩
  clear hz3
  have HB3 : Hid (Below w.heap.size w w3) := belNext HB2.out hb3
  have HT3 : Hid (Four w3 w.heap.size (.int .i64 inp) (.slice al ls.length cl) (.slice aa xs.length ca) (.slice ab bs.length cb)) := HT2.out.below hb3
  have HD3 : Hid (CirAt w3 bl2 ba2 bb2 ls xs bs) := HD2.out.below hb3
  have HP3 : Hid (w3.rowIs w2.heap.size 4 lats.length (fun i => .bool (lats.getD i false))) := hr3
  clear hb3 hr3
  go_wp2_with fail
  refine (toBoolS_any _ ins _ (HIN.out _ HB3.out) hn2).mono ?_
  rintro e w4 ⟨rfl, hb4, hz4, hr4⟩
  clear hz4
  have HB4 : Hid (Below w.heap.size w w4) := belNext HB3.out hb4
  have HT4 : Hid (Four w4 w.heap.size (.int .i64 inp) (.slice al ls.length cl) (.slice aa xs.length ca) (.slice ab bs.length cb)) := HT3.out.below hb4
  have HD4 : Hid (CirAt w4 bl2 ba2 bb2 ls xs bs) := HD3.out.below hb4
  have HP4 : Hid (w4.rowIs w2.heap.size 4 lats.length (fun i => .bool (lats.getD i false))) := HP3.out.of_block (hb4.block _ HP3.out.lt)
  have HQ4 : Hid (w4.rowIs w3.heap.size 4 ins.length (fun i => .bool (ins.getD i false))) := hr4
  clear hb4 hr4
  go_wp2_with fail
  refine (specAigValues_any inp _ _ _ _ _ _ ls xs bs _ _ _ _ lats ins _ (HD4.out.isCir hl ha hb) (IsBits.of_row (Nat.le_refl _) HP4.out (fun i _ => rfl)) (IsBits.of_row (Nat.le_refl _) HQ4.out (fun i _ => rfl)) HL64.out HX64.out HB64.out hn1 hn2).mono ?_
  rintro e w5 ⟨a5, m5, c5, rfl, hm5, ho5, hb5⟩
  rw [HVS.out] at hm5 ho5
  have HB5 : Hid (Below w.heap.size w w5) := belNext HB4.out hb5
  have HT5 : Hid (Four w5 w.heap.size (.int .i64 inp) (.slice al ls.length cl) (.slice aa xs.length ca) (.slice ab bs.length cb)) := HT4.out.below hb5
  have HO5 : Hid (Ownb w5 w4.heap.size (.slice a5 m5 c5) vs) := ho5
  have HM5 : Hid (vs.length = m5) := hm5
  clear hb5 ho5 hm5
  have c0 := HT5.out.c0
  have c1 := HT5.out.c1
  have c2 := HT5.out.c2
  have c3 := HT5.out.c3
  have c4 := HT5.out.lt
  go_wp2_with fail
  refine (toAig_any inp al aa ab cl ca cb ls xs bs _ (HC.out _ HB5.out) hl ha hb).mono ?_
  rintro e w6 ⟨bl6, ba6, bb6, rfl, hb6, hle6, hlt6, hlu6, hc6⟩
  have HB6 : Hid (Below w.heap.size w w6) := belNext HB5.out hb6
  have HT6 : Hid (Four w6 w.heap.size (.int .i64 inp) (.slice al ls.length cl) (.slice aa xs.length ca) (.slice ab bs.length cb)) := HT5.out.below hb6
  have HD6 : Hid (CirAt w6 bl6 ba6 bb6 ls xs bs) := hc6
  have HO6 : Hid (Ownb w6 w4.heap.size (.slice a5 m5 c5) vs) := HO5.out.below hb6
  clear hb6 hc6 c0 c1 c2 c3 c4
  have hbb6 : bb6 < w6.heap.size := HD6.out.rb.lt
  have HX6 : Hid (Four (w6.alloc (.cells #[.int .i64 inp, .slice (some ⟨bl6, 0, none⟩) ls.length ls.length, .slice (some ⟨ba6, 0, none⟩) xs.length xs.length, .slice (some ⟨bb6, 0, none⟩) bs.length bs.length] 33)) w6.heap.size (.int .i64 inp) (.slice (some ⟨bl6, 0, none⟩) ls.length ls.length) (.slice (some ⟨ba6, 0, none⟩) xs.length xs.length) (.slice (some ⟨bb6, 0, none⟩) bs.length bs.length)) := Four.new _ _ _ _ _ _
  have HB6a : Hid (Below w6.heap.size w6 (w6.alloc (.cells #[.int .i64 inp, .slice (some ⟨bl6, 0, none⟩) ls.length ls.length, .slice (some ⟨ba6, 0, none⟩) xs.length xs.length, .slice (some ⟨bb6, 0, none⟩) bs.length bs.length] 33))) := belOne _ _
  go_wp2_with fail
  refine (toBoolS_any _ lats _ (HLA.out _ (belNext HB6.out HB6a.out)) hn1).mono ?_
  rintro e w7 ⟨rfl, hb7, hz7, hr7⟩
  simp only [World.size_alloc] at hz7 hr7 ⊢
  have HZ7 : Hid (w7.heap.size = w6.heap.size + 1 + 1) := hz7
  clear hz7
  have hb7' := belNext HB6a.out hb7
  have HB7 : Hid (Below w.heap.size w w7) := belNext HB6.out hb7'
  have HT7 : Hid (Four w7 w.heap.size (.int .i64 inp) (.slice al ls.length cl) (.slice aa xs.length ca) (.slice ab bs.length cb)) := HT6.out.below hb7'
  have HD7 : Hid (CirAt w7 bl6 ba6 bb6 ls xs bs) := HD6.out.below hb7'
  have HO7 : Hid (Ownb w7 w4.heap.size (.slice a5 m5 c5) vs) := HO6.out.below hb7'
  have HX7 : Hid (Four w7 w6.heap.size (.int .i64 inp) (.slice (some ⟨bl6, 0, none⟩) ls.length ls.length) (.slice (some ⟨ba6, 0, none⟩) xs.length xs.length) (.slice (some ⟨bb6, 0, none⟩) bs.length bs.length)) := HX6.out.below hb7
  have HP7 : Hid (w7.rowIs (w6.heap.size + 1) 4 lats.length (fun i => .bool (lats.getD i false))) := hr7
  clear hb7 hb7' hr7
  go_wp2_with fail
  refine (toBoolS_any _ ins _ (HIN.out _ HB7.out) hn2).mono ?_
  rintro e w8 ⟨rfl, hb8, hz8, hr8⟩
  have HZ8 : Hid (w8.heap.size = w7.heap.size + 1) := hz8
  clear hz8
  have HB8 : Hid (Below w.heap.size w w8) := belNext HB7.out hb8
  have HT8 : Hid (Four w8 w.heap.size (.int .i64 inp) (.slice al ls.length cl) (.slice aa xs.length ca) (.slice ab bs.length cb)) := HT7.out.below hb8
  have HD8 : Hid (CirAt w8 bl6 ba6 bb6 ls xs bs) := HD7.out.below hb8
  have HO8 : Hid (Ownb w8 w4.heap.size (.slice a5 m5 c5) vs) := HO7.out.below hb8
  have HX8 : Hid (Four w8 w6.heap.size (.int .i64 inp) (.slice (some ⟨bl6, 0, none⟩) ls.length ls.length) (.slice (some ⟨ba6, 0, none⟩) xs.length xs.length) (.slice (some ⟨bb6, 0, none⟩) bs.length bs.length)) := HX7.out.below hb8
  have HP8 : Hid (w8.rowIs (w6.heap.size + 1) 4 lats.length (fun i => .bool (lats.getD i false))) := HP7.out.of_block (hb8.block _ HP7.out.lt)
  have HQ8 : Hid (w8.rowIs w7.heap.size 4 ins.length (fun i => .bool (ins.getD i false))) := hr8
  clear hb8 hr8
  have c0 := HX8.out.c0
  have c1 := HX8.out.c1
  have c2 := HX8.out.c2
  have c3 := HX8.out.c3
  have c4 := HX8.out.lt
  go_wp2_with fail
  refine (implAigValues_any inp _ _ _ _ _ _ ls xs bs _ _ _ _ lats ins _ (HD8.out.isCir hl ha hb) (IsBits.of_row (Nat.le_refl _) HP8.out (fun i _ => rfl)) (IsBits.of_row (Nat.le_refl _) HQ8.out (fun i _ => rfl)) HX64.out hn1 hn2).mono ?_
  rintro e w9 ⟨a9, m9, c9, rfl, hm9, ho9, hb9⟩
  rw [HVS.out] at hm9 ho9
  have L9 : Hid (Lst w w9 w4.heap.size w8.heap.size w6.heap.size bl6 ba6 bb6 (w6.heap.size + 1) w7.heap.size inp al aa ab cl ca cb ls xs bs lats ins vs (.slice a5 m5 c5) (.slice a9 m9 c9)) :=
    ⟨HT8.out.below hb9, HX8.out.below hb9, HD8.out.below hb9, HP8.out.of_block (hb9.block _ HP8.out.lt), HQ8.out.of_block (hb9.block _ HQ8.out.lt), HO8.out.below hb9, ho9, belNext HB8.out hb9⟩
  have HM9 : Hid (vs.length = m9) := hm9
  clear hb9 ho9 hm9 c0 c1 c2 c3 c4
  go_wp2_with fail
  refine (eqBoolS_same _ _ vs _ L9.out.og.isBits L9.out.ow.isBits HVM.out).mono ?_
  rintro e w10 ⟨rfl, n10, hw10⟩
  have L10 : Hid (Lst w w10 w4.heap.size w8.heap.size w6.heap.size bl6 ba6 bb6 (w6.heap.size + 1) w7.heap.size inp al aa ab cl ca cb ls xs bs lats ins vs (.slice a5 m5 c5) (.slice a9 m9 c9)) := L9.out.below (by rw [hw10]; exact below_drewN (Below.refl _ _) _)
  clear hw10
  have HGW : Hid (∀ k, (Value.slice a5 m5 c5).ownBlock = some k → k < w5.heap.size) := fun k e => (HO5.out.blk k e).2
  have hs56 : w.heap.size < w5.heap.size := HT5.out.lt
  have hs78 : Hid (w7.heap.size < w8.heap.size) := HQ8.out.lt
  clear HO5 HO6 HO7 HO8
  have c0 := L10.out.fa.c0
  have c1 := L10.out.fa.c1
  have c2 := L10.out.fa.c2
  have c3 := L10.out.fa.c3
  have c4 := L10.out.fa.lt
  have x0 := L10.out.fx.c0
  have x1 := L10.out.fx.c1
  have x2 := L10.out.fx.c2
  have x3 := L10.out.fx.c3
  have x4 := L10.out.fx.lt
  go_wp2_with fail
  go_region_held3 (fun w' => w'.cell? ⟨w.heap.size, 0, none⟩ = some (.int .i64 inp) ∧ w'.cell? ⟨w.heap.size, 1, none⟩ = some (.slice al ls.length cl) ∧ w'.cell? ⟨w.heap.size, 2, none⟩ = some (.slice aa xs.length ca) ∧ w'.cell? ⟨w.heap.size, 3, none⟩ = some (.slice ab bs.length cb) ∧ w'.cell? ⟨w6.heap.size, 0, none⟩ = some (.int .i64 inp) ∧ w'.cell? ⟨w6.heap.size, 1, none⟩ = some (.slice (some ⟨bl6, 0, none⟩) ls.length ls.length) ∧ w'.cell? ⟨w6.heap.size, 2, none⟩ = some (.slice (some ⟨ba6, 0, none⟩) xs.length xs.length) ∧ w'.cell? ⟨w6.heap.size, 3, none⟩ = some (.slice (some ⟨bb6, 0, none⟩) bs.length bs.length))
    (first | exact ⟨by assumption, by assumption, by assumption, by assumption, by assumption, by assumption, by assumption, by assumption⟩ | (go_keep; done))
    (first
      | (go_simp; go_at_call 13; refine (toAig_any inp al aa ab cl ca cb ls xs bs _ (HC.out _ (by first | exact L10.out.be | exact L10.out.be.drew)) hl ha hb).mono ?_; rintro e w11 ⟨blq, baq, bbq, rfl, hbz, _, _, _, hcq⟩; have hb11 : Below w10.heap.size w10 w11 := (by first | exact hbz | exact undrew hbz); have L11 : Hid (Lst w w11 w4.heap.size w8.heap.size w6.heap.size bl6 ba6 bb6 (w6.heap.size + 1) w7.heap.size inp al aa ab cl ca cb ls xs bs lats ins vs (.slice a5 m5 c5) (.slice a9 m9 c9)) := L10.out.below hb11; have HE11 : Hid (CirAt w11 blq baq bbq ls xs bs) := hcq; have t0 := L11.out.fa.c0; have t1 := L11.out.fa.c1; have t2 := L11.out.fa.c2; have t3 := L11.out.fa.c3; have y0 := L11.out.fx.c0; have y1 := L11.out.fx.c1; have y2 := L11.out.fx.c2; have y3 := L11.out.fx.c3; clear hb11 hbz hcq)
      | (go_simp; go_at_call 17; refine (eqAig_same inp _ _ _ _ _ _ _ _ _ _ _ _ ls xs bs _ (L11.out.cx.isCir hl ha hb) (HE11.out.isCir hl ha hb) hl ha hb).mono ?_; rintro e w12 ⟨rfl, hbz⟩; have L12 : Hid (Lst w w12 w4.heap.size w8.heap.size w6.heap.size bl6 ba6 bb6 (w6.heap.size + 1) w7.heap.size inp al aa ab cl ca cb ls xs bs lats ins vs (.slice a5 m5 c5) (.slice a9 m9 c9)) := L11.out.below hbz; have u0 := L12.out.fa.c0; have u1 := L12.out.fa.c1; have u2 := L12.out.fa.c2; have u3 := L12.out.fa.c3; have v0 := L12.out.fx.c0; have v1 := L12.out.fx.c1; have v2 := L12.out.fx.c2; have v3 := L12.out.fx.c3; clear hbz))
  clear c0 c1 c2 c3 c4 x0 x1 x2 x3 x4 t0 t1 t2 t3 y0 y1 y2 y3 u0 u1 u2 u3 v0 v1 v2 v3
  go_wp2_with fail
  refine (toBoolS_any _ lats _ (HLA.out _ L12.out.be) hn1).mono ?_
  rintro e w13 ⟨rfl, hb13, hz13, hr13⟩
  have L13 : Hid (Lst w w13 w4.heap.size w8.heap.size w6.heap.size bl6 ba6 bb6 (w6.heap.size + 1) w7.heap.size inp al aa ab cl ca cb ls xs bs lats ins vs (.slice a5 m5 c5) (.slice a9 m9 c9)) := L12.out.below hb13
  have HR13 : Hid (w13.rowIs w12.heap.size 4 lats.length (fun i => .bool (lats.getD i false))) := hr13
  clear hb13 hz13 hr13
  go_wp2_with fail
  refine (eqBoolS_same _ _ lats _ (IsBits.of_row (Nat.le_refl _) L13.out.r1 (fun i _ => rfl)) (IsBits.of_row (Nat.le_refl _) HR13.out (fun i _ => rfl)) HM1.out).mono ?_
  rintro e w14 ⟨rfl, n14, hw14⟩
  have L14 : Hid (Lst w w14 w4.heap.size w8.heap.size w6.heap.size bl6 ba6 bb6 (w6.heap.size + 1) w7.heap.size inp al aa ab cl ca cb ls xs bs lats ins vs (.slice a5 m5 c5) (.slice a9 m9 c9)) := L13.out.below (by rw [hw14]; exact below_drewN (Below.refl _ _) _)
  clear hw14
  go_wp2_with fail
  refine (toBoolS_any _ ins _ (HIN.out _ L14.out.be) hn2).mono ?_
  rintro e w15 ⟨rfl, hb15, hz15, hr15⟩
  have L15 : Hid (Lst w w15 w4.heap.size w8.heap.size w6.heap.size bl6 ba6 bb6 (w6.heap.size + 1) w7.heap.size inp al aa ab cl ca cb ls xs bs lats ins vs (.slice a5 m5 c5) (.slice a9 m9 c9)) := L14.out.below hb15
  have HR15 : Hid (w15.rowIs w14.heap.size 4 ins.length (fun i => .bool (ins.getD i false))) := hr15
  clear hb15 hz15 hr15
  go_wp2_with fail
  refine (eqBoolS_same _ _ ins _ (IsBits.of_row (Nat.le_refl _) L15.out.r2 (fun i _ => rfl)) (IsBits.of_row (Nat.le_refl _) HR15.out (fun i _ => rfl)) HM2.out).mono ?_
  rintro e w16 ⟨rfl, n16, hw16⟩
  have L16 : Hid (Lst w w16 w4.heap.size w8.heap.size w6.heap.size bl6 ba6 bb6 (w6.heap.size + 1) w7.heap.size inp al aa ab cl ca cb ls xs bs lats ins vs (.slice a5 m5 c5) (.slice a9 m9 c9)) := L15.out.below (by rw [hw16]; exact below_drewN (Below.refl _ _) _)
  clear hw16
  have x0 := L16.out.fx.c0
  have x1 := L16.out.fx.c1
  have x2 := L16.out.fx.c2
  have x3 := L16.out.fx.c3
  have x4 := L16.out.fx.lt
  go_wp2_with fail
  refine (markAig_any inp bl6 ba6 bb6 ls xs bs _ L16.out.cx (by omega) (by omega) (by omega) hl ha hb).mono ?_
  rintro e w17 ⟨⟨q, rfl, hq0, hq1⟩, hch17⟩
  have hin : ∀ k, inCir bl6 ba6 bb6 k → w5.heap.size ≤ k ∧ k < w6.heap.size := fun k hk => by
    unfold inCir at hk
    omega
  have A17 : Hid (Four w17 w.heap.size (.int .i64 inp) (.slice al ls.length cl) (.slice aa xs.length ca) (.slice ab bs.length cb)) := hch17.four L16.out.fa (fun hk => by have := hin _ hk; omega)
  have P17 : Hid (w17.rowIs (w6.heap.size + 1) 4 lats.length (fun i => .bool (lats.getD i false))) := hch17.row L16.out.r1 (fun hk => by have := hin _ hk; omega)
  have Q17 : Hid (w17.rowIs w7.heap.size 4 ins.length (fun i => .bool (ins.getD i false))) := hch17.row L16.out.r2 (fun hk => by have := hin _ hk; have := HZ7.out; omega)
  have W17 : Hid (Ownb w17 w4.heap.size (.slice a5 m5 c5) vs) := L16.out.ow.chg hch17 (fun k e hk => by have h1 := hin _ hk; have h2 := HGW.out k e; omega)
  have G17 : Hid (Ownb w17 w8.heap.size (.slice a9 m9 c9) vs) := L16.out.og.chg hch17 (fun k e hk => by have h1 := hin _ hk; have h2 := (L16.out.og.blk k e).1; have := HZ7.out; have := HZ8.out; omega)
  have B17 : Hid (Below w.heap.size w w17) := Chg.below L16.out.be L16.out.be.size hch17 (fun k hk => by have := hin _ hk; omega)
  clear hch17 hin x0 x1 x2 x3 x4
  go_wp2_with fail
  refine (markBoolS_any (w6.heap.size + 1) lats.length lats.length _ q _ P17.out (Nat.le_refl _) (by omega) (by omega) (by omega)).mono ?_
  rintro e w18 ⟨rfl, _, hch18⟩
  have A18 : Hid (Four w18 w.heap.size (.int .i64 inp) (.slice al ls.length cl) (.slice aa xs.length ca) (.slice ab bs.length cb)) := hch18.four A17.out (by omega)
  have Q18 : Hid (w18.rowIs w7.heap.size 4 ins.length (fun i => .bool (ins.getD i false))) := hch18.row Q17.out (fun hk => by have := HZ7.out; omega)
  have W18 : Hid (Ownb w18 w4.heap.size (.slice a5 m5 c5) vs) := W17.out.chg hch18 (fun k e hk => by have h2 := HGW.out k e; omega)
  have G18 : Hid (Ownb w18 w8.heap.size (.slice a9 m9 c9) vs) := G17.out.chg hch18 (fun k e hk => by have h2 := (G17.out.blk k e).1; have := HZ7.out; have := HZ8.out; omega)
  have B18 : Hid (Below w.heap.size w w18) := Chg.below B17.out B17.out.size hch18 (fun k hk => by omega)
  clear hch18
  go_wp2_with fail
  refine (markBoolS_any w7.heap.size ins.length ins.length _ (q + (lats.length : Int)) _ Q18.out (Nat.le_refl _) (by omega) (by omega) (by omega)).mono ?_
  rintro e w19 ⟨rfl, _, hch19⟩
  have A19 : Hid (Four w19 w.heap.size (.int .i64 inp) (.slice al ls.length cl) (.slice aa xs.length ca) (.slice ab bs.length cb)) := hch19.four A18.out (fun hk => by have := HZ7.out; omega)
  have W19 : Hid (Ownb w19 w4.heap.size (.slice a5 m5 c5) vs) := W18.out.chg hch19 (fun k e hk => by have h2 := HGW.out k e; have := HZ7.out; omega)
  have G19 : Hid (Ownb w19 w8.heap.size (.slice a9 m9 c9) vs) := G18.out.chg hch19 (fun k e hk => by have h2 := (G18.out.blk k e).1; have := HZ8.out; omega)
  have B19 : Hid (Below w.heap.size w w19) := Chg.below B18.out B18.out.size hch19 (fun k hk => by have := HZ7.out; omega)
  clear hch19
  have dk : decide (q + (lats.length : Int) + (ins.length : Int) < 0) = false := by simp; omega
  go_wp2_with fail
  refine (eqBoolS_same _ _ vs _ G19.out.isBits W19.out.isBits HVM.out).mono ?_
  rintro e w20 ⟨rfl, n20, hw20⟩
  have hb20 : Below w19.heap.size w19 w20 := by rw [hw20]; exact below_drewN (Below.refl _ _) _
  have A20 : Hid (Four w20 w.heap.size (.int .i64 inp) (.slice al ls.length cl) (.slice aa xs.length ca) (.slice ab bs.length cb)) := A19.out.below hb20
  have W20 : Hid (Ownb w20 w4.heap.size (.slice a5 m5 c5) vs) := W19.out.below hb20
  have G20 : Hid (Ownb w20 w8.heap.size (.slice a9 m9 c9) vs) := G19.out.below hb20
  have B20 : Hid (Below w.heap.size w w20) := belNext B19.out hb20
  clear hw20 hb20
  have hm9 : m9 ≤ 100 := by have := HM9.out; omega
  go_wp2_with fail
  refine (mark_own _ w8.heap.size a9 m9 c9 vs G20.out HM9.out hvl).mono ?_
  rintro e w21 ⟨rfl, hbits21, hch21⟩
  have hblk : ∀ k, (Value.slice a9 m9 c9).ownBlock = some k → w8.heap.size ≤ k := fun k e => (G20.out.blk k e).1
  have A21 : Hid (Four w21 w.heap.size (.int .i64 inp) (.slice al ls.length cl) (.slice aa xs.length ca) (.slice ab bs.length cb)) := hch21.four A20.out (fun hk => by have := hblk _ hk; have := HZ7.out; have := HZ8.out; omega)
  have W21 : Hid (Ownb w21 w4.heap.size (.slice a5 m5 c5) vs) := W20.out.chg hch21 (fun k e hk => by have h2 := HGW.out k e; have := hblk _ hk; have := HZ7.out; have := HZ8.out; omega)
  have G21 : Hid (IsBits w21 (.slice a9 m9 c9) (markL 1 m9)) := hbits21
  have B21 : Hid (Below w.heap.size w w21) := Chg.below B20.out B20.out.size hch21 (fun k hk => by have := hblk _ hk; have := HZ7.out; have := HZ8.out; omega)
  clear hch21 hbits21 hblk
  go_wp2_with fail
  refine (heldBoolS_any _ m9 1 _ G21.out (by omega) (by omega) (by omega)).mono ?_
  rintro e w' ⟨rfl, hw'⟩
  subst hw'
  have c0 := A21.out.c0
  have c1 := A21.out.c1
  have c2 := A21.out.c2
  have c3 := A21.out.c3
  have c4 := A21.out.lt
  go_wp2_with fail
  refine (toAig_any inp al aa ab cl ca cb ls xs bs _ (HC.out _ B21.out) hl ha hb).mono ?_
  rintro e w22 ⟨bl7, ba7, bb7, rfl, hb22, _, _, _, hc22⟩
  have B22 : Hid (Below w.heap.size w w22) := belNext B21.out hb22
  have W22 : Hid (Ownb w22 w4.heap.size (.slice a5 m5 c5) vs) := W21.out.below hb22
  have G22 : Hid (IsBits w22 (.slice a9 m9 c9) (markL 1 m9)) := G21.out.below hb22
  have D22 : Hid (CirAt w22 bl7 ba7 bb7 ls xs bs) := hc22
  clear hb22 hc22 c0 c1 c2 c3 c4
  go_wp2_with fail
  refine (toBoolS_any _ lats _ (HLA.out _ B22.out) hn1).mono ?_
  rintro e w23 ⟨rfl, hb23, hz23, hr23⟩
  have B23 : Hid (Below w.heap.size w w23) := belNext B22.out hb23
  have W23 : Hid (Ownb w23 w4.heap.size (.slice a5 m5 c5) vs) := W22.out.below hb23
  have G23 : Hid (IsBits w23 (.slice a9 m9 c9) (markL 1 m9)) := G22.out.below hb23
  have D23 : Hid (CirAt w23 bl7 ba7 bb7 ls xs bs) := D22.out.below hb23
  have P23 : Hid (w23.rowIs w22.heap.size 4 lats.length (fun i => .bool (lats.getD i false))) := hr23
  clear hb23 hz23 hr23
  go_wp2_with fail
  refine (toBoolS_any _ ins _ (HIN.out _ B23.out) hn2).mono ?_
  rintro e w24 ⟨rfl, hb24, hz24, hr24⟩
  have B24 : Hid (Below w.heap.size w w24) := belNext B23.out hb24
  have W24 : Hid (Ownb w24 w4.heap.size (.slice a5 m5 c5) vs) := W23.out.below hb24
  have G24 : Hid (IsBits w24 (.slice a9 m9 c9) (markL 1 m9)) := G23.out.below hb24
  have D24 : Hid (CirAt w24 bl7 ba7 bb7 ls xs bs) := D23.out.below hb24
  have P24 : Hid (w24.rowIs w22.heap.size 4 lats.length (fun i => .bool (lats.getD i false))) := P23.out.of_block (hb24.block _ P23.out.lt)
  have Q24 : Hid (w24.rowIs w23.heap.size 4 ins.length (fun i => .bool (ins.getD i false))) := hr24
  clear hb24 hz24 hr24
  go_wp2_with fail
  refine (implAigValues_any inp _ _ _ _ _ _ ls xs bs _ _ _ _ lats ins _ (D24.out.isCir hl ha hb) (IsBits.of_row (Nat.le_refl _) P24.out (fun i _ => rfl)) (IsBits.of_row (Nat.le_refl _) Q24.out (fun i _ => rfl)) HX64.out hn1 hn2).mono ?_
  rintro e w25 ⟨a25, m25, c25, rfl, hm25, ho25, hb25⟩
  rw [HVS.out] at ho25
  have B25 : Hid (Below w.heap.size w w25) := belNext B24.out hb25
  have W25 : Hid (Ownb w25 w4.heap.size (.slice a5 m5 c5) vs) := W24.out.below hb25
  have G25 : Hid (IsBits w25 (.slice a9 m9 c9) (markL 1 m9)) := G24.out.below hb25
  have O25 : Hid (Ownb w25 w24.heap.size (.slice a25 m25 c25) vs) := ho25
  clear hb25 ho25 hm25
  go_wp2_with fail
  refine (eqBoolS_same _ _ vs _ O25.out.isBits W25.out.isBits HVM.out).mono ?_
  rintro e w26 ⟨rfl, n26, hw26⟩
  have hb26 : Below w25.heap.size w25 w26 := by rw [hw26]; exact below_drewN (Below.refl _ _) _
  have G26 : Hid (IsBits w26 (.slice a9 m9 c9) (markL 1 m9)) := G25.out.below hb26
  have B26 : Hid (Below w.heap.size w w26) := belNext B25.out hb26
  clear hw26 hb26
  go_wp2_with fail
  refine (heldBoolS_any _ m9 1 _ G26.out (by omega) (by omega) (by omega)).mono ?_
  rintro e w' ⟨rfl, hw'⟩
  subst hw'
  go_wp2
  go_ret
  exact ⟨rfl, B26.out⟩

set_option maxRecDepth 100000 in
theorem fnExactAigValues_lifted (os : Os) (started : os.Started) (H : Type) (enc : TypeId × Value → H) :
    ReturnsInHanded {} Try.checked os 3 .any (Rows.fnExactAigValuesSpec.pre6 enc Try.prog Try.f3 Rows.fnExactAigValuesRow.domain false) (Rows.fnExactAigValuesSpec.post enc Try.prog Try.f3 false true false false) := by
  refine returnsInHanded_of_change (C := Try.checked) own started (by kernel_rfl) Try.func3
    (ChangeSpec.witness6 (enc := enc) (C := Try.checked) false ⟨#[], #[.agg #[.int .i64 0, .slice none 0 0, .slice none 0 0, .slice none 0 0], .slice none 0 0, .slice none 0 0], []⟩ 8 (by kernel_rfl) (by kernel_rfl) (by kernel_rfl) (by kernel_rfl)) ?_
  intro W base args ds gs before hval0 hW hcnd _
  have hval : ∀ (j : Nat) t v, Try.f3.params[j]? = some t → args[j]? = some v → Value.okWide Try.prog W .any base t v := hval0
  have hW' := hW
  obtain ⟨p, q, hA0, hV, rfl, hfz, hnd⟩ := hW
  have hA : DataW.TrodAll enc Try.prog W 0 (fun _ => true) true Try.f3.params.toList args.toList ds p := hA0
  rw [Try.params3] at hA hval
  obtain ⟨v0, vs0, d0, ds0, p0, q0, hargs, rfl, rfl, h0, r0⟩ := trodAll_cons hA
  obtain ⟨v1, vs1, d1, ds1, p1, q1, rfl, rfl, rfl, h1, r1⟩ := trodAll_cons r0
  obtain ⟨v2, vs2, d2, ds2, p2, q2, rfl, rfl, rfl, h2, r2⟩ := trodAll_cons r1
  obtain ⟨rfl, rfl, rfl⟩ := trodAll_nil r2
  obtain rfl : args = #[v0, v1, v2] := by cases args; simp_all
  obtain ⟨rfl, rfl⟩ := trodVars_none hV
  have k0 := h0
  have k1 := h1
  have k2 := h2
  have lt0 : ∀ x ∈ p0, x.block < W.heap.size := by obtain ⟨m, hm⟩ := k0; exact DataW.trod_lt m _ _ _ hm
  have lt1 : ∀ x ∈ p1, x.block < W.heap.size := by obtain ⟨m, hm⟩ := k1; exact DataW.trod_lt m _ _ _ hm
  have lt2 : ∀ x ∈ p2, x.block < W.heap.size := by obtain ⟨m, hm⟩ := k2; exact DataW.trod_lt m _ _ _ hm
  obtain ⟨inp, al, aa, ab, cl, ca, cb, ls, xs, bs, rfl, hC, e1, e2, e3, _⟩ := aig_of_trod (hval 0 26 v0 rfl rfl) h0
  obtain ⟨ao1, len1, cap1, rfl⟩ := okWide_slice Try.underlying27 (hval 1 27 v1 rfl rfl)
  obtain ⟨fuel1, hf1⟩ := h1
  obtain ⟨lats, hla, hlm⟩ := isBits_of_trod (by simpa [Value.cells] using hf1)
  obtain ⟨ao2, len2, cap2, rfl⟩ := okWide_slice Try.underlying27 (hval 2 27 v2 rfl rfl)
  obtain ⟨fuel2, hf2⟩ := h2
  obtain ⟨ins, hin, him⟩ := isBits_of_trod (by simpa [Value.cells] using hf2)
  obtain rfl : len1 = lats.length := by obtain ⟨_, _, he, _⟩ := hla; cases he; rfl
  obtain rfl : len2 = ins.length := by obtain ⟨_, _, he, _⟩ := hin; cases he; rfl
  clear hA0 hval0
  refine (fnExactAigValues_walk inp al aa ab cl ca cb ls xs bs ao1 ao2 cap1 cap2 lats ins W hC hla hin e1 e2 e3 hlm him).mono fun e W' ⟨he, bel⟩ => ?_
  subst he
  exact ⟨_, rfl, _, _, _, [], _, [], hW', trodAll_mk1 (shut_bool Try.underlying4 _),
    (trodAll_cons_mk (Below.trod laidOut (by kernel_rfl) (of_decide_eq_true (by kernel_rfl)) k0 bel lt0) (trodAll_cons_mk (Below.trod laidOut (by kernel_rfl) (of_decide_eq_true (by kernel_rfl)) k1 bel lt1) (trodAll_cons_mk (Below.trod laidOut (by kernel_rfl) (of_decide_eq_true (by kernel_rfl)) k2 bel lt2) trodAll_mk0))), rfl, bel.frame _, fun h => by cases h⟩

theorem fnExactAigValues_holds : Rows.FnExactAigValuesSaid :=
  OpenClaim.holds_of_wide 3 Try.f3 rfl rfl rfl rfl rfl rfl rfl ⟨rfl, rfl, rfl, rfl, rfl⟩ rfl rfl rfl rfl rfl (by kernel_rfl) Try.func3 (by kernel_rfl)
    (of_decide_eq_true (by kernel_rfl)) (by unfold Func.isWrapper; first | (rw [if_pos (by decide +kernel)]; kernel_rfl) | (rw [if_neg (by decide +kernel)]; exact ⟨rfl, rfl⟩))
    (fun os started H enc _ => fnExactAigValues_lifted os started H enc)

end Go.Proofs.Ytbdjdgamnnifjaa

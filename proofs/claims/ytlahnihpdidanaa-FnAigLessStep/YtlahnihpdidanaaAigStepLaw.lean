/-
  The law FnExactAigStep: at every argument the program's AigStep answers as the model's, writes into no argument, and its answers own their memory. No condition: every argument that can be read.
-/
import Derived.Test.YtlahnihpdidanaaAigM
import Derived.Test.YtlahnihpdidanaaAigValuesLaw
namespace Go.Proofs.Ytlahnihpdidanaa
open Go.ChangeShapes Go.WideShapes Go.ChangeAt Go.RowKit Go.Deep Go.Joins
set_option linter.unusedVariables false

theorem sizes_of_fits {inp : Int} {ls : List (Int × Bool)} {xs : List (Int × Int)} {bs : List Int} {lats ins : List Bool} (h : fitsB inp ls xs bs lats ins = true) : ls.length ≤ 8 ∧ bs.length ≤ 4 := by
  obtain ⟨h1, _, _⟩ := fitsB_iff.1 h
  unfold okC sizesB at h1
  simp only [Bool.and_eq_true, decide_eq_true_eq] at h1
  obtain ⟨⟨a, b, c, d, e⟩, _⟩ := h1
  exact ⟨c, e⟩
theorem nextOf_length (inp : Int) (ls : List (Int × Bool)) (xs : List (Int × Int)) (bs : List Int) (lats ins : List Bool) : (nextOf inp ls xs bs lats ins).length ≤ 100 := by
  unfold nextOf
  split
  · rename_i h
    have := sizes_of_fits h
    simp
    omega
  · simp
theorem badOf_length (inp : Int) (ls : List (Int × Bool)) (xs : List (Int × Int)) (bs : List Int) (lats ins : List Bool) : (badOf inp ls xs bs lats ins).length ≤ 100 := by
  unfold badOf
  split
  · rename_i h
    have := sizes_of_fits h
    simp
    omega
  · simp

/-- Truths in a block of one's own between two numbers. -/
def Owned (V : World) (lo hi : Nat) (v : Value) (vs : List Bool) : Prop := Ownb V lo v vs ∧ ∀ k, v.ownBlock = some k → k < hi
theorem Owned.below {V V' : World} {lo hi : Nat} {v : Value} {vs : List Bool} (h : Owned V lo hi v vs) (hb : Below V.heap.size V V') : Owned V' lo hi v vs := ⟨h.1.below hb, h.2⟩
theorem Owned.chg {p : Nat → Prop} {a b : World} {lo hi : Nat} {v : Value} {vs : List Bool} (h : Owned a lo hi v vs) (hc : Chg p a b) (hp : ∀ k, lo ≤ k → k < hi → ¬ p k) : Owned b lo hi v vs :=
  ⟨h.1.chg hc (fun k e => hp k (h.1.blk k e).1 (h.2 k e)), h.2⟩

theorem IsBits.chg {p : Nat → Prop} {a b : World} {v : Value} {ms : List Bool} (h : IsBits a v ms) (hc : Chg p a b) (hp : ∀ k, v.ownBlock = some k → ¬ p k) : IsBits b v ms := by
  obtain ⟨ao, cap, rfl, h⟩ := h
  refine ⟨ao, cap, rfl, fun hne => ?_⟩
  obtain ⟨g, off, rfl, hcs⟩ := h hne
  exact ⟨g, off, rfl, fun i hi => (World.cell?_of_block (hc.block g (cell_lt (hcs i hi)) (hp g rfl))).trans (hcs i hi)⟩

/-- Marks from a number on, written into an answer that owns its memory. -/
theorem mark_from (w : World) (base : Nat) (ao : Option Addr) (m cap : Nat) (vs : List Bool) (q : Int) (h : Ownb w base (.slice ao m cap) vs) (hm : vs.length = m) (hl : vs.length ≤ 100) (hq0 : 0 ≤ q) (hq1 : q ≤ 100000000) :
    Calls Try.prog 19 #[.slice ao m cap, .int .i64 q] w fun e w' => e = .returned (.int .i64 (q + m)) ∧ IsBits w' (.slice ao m cap) (markL q m) ∧ Chg (fun k => (Value.slice ao m cap).ownBlock = some k) w w' := by
  subst hm
  by_cases hz : vs.length = 0
  · have e0 : q + ((vs.length : Nat) : Int) = q := by omega
    rw [e0]
    rw [hz]
    refine (markBoolS_none (.slice ao 0 cap) ao cap q w hq0 hq1).mono ?_
    rintro e w' ⟨rfl, rfl⟩
    exact ⟨rfl, ⟨ao, cap, by simp [markL], fun hne => absurd (by simp [markL]) hne⟩, Chg.refl _ _⟩
  · rcases h.2 with ⟨_, h0⟩ | ⟨g, cp, cur, hv, hg, hh, hle, hmx, hsz, htk⟩
    · omega
    · cases hv
      have hrow : w.rowIs g 4 cap (fun i => cur.getD i (.bool false)) := ⟨cur, hh, by omega, fun i hi => by rw [Array.getElem?_eq_getElem (by omega)]; simp [Array.getD, show i < cur.size by omega]⟩
      refine (markBoolS_any g vs.length cap _ q w hrow hle (by omega) hq0 hq1).mono ?_
      rintro e w' ⟨rfl, ⟨f', hr', hf'⟩, hch⟩
      refine ⟨rfl, ?_, hch.mono (fun k e => by subst e; rfl)⟩
      have := IsBits.of_row (ms := markL q vs.length) (by rw [markL_length]; exact hle) hr' (fun i hi => by rw [markL_length] at hi; rw [hf' i hi, markL_get q vs.length i hi])
      rwa [markL_length] at this

/-- The answers of both, and the argument's box. -/
structure Ans (w V : World) (s4 s5 s8 n9 s9 : Nat) (c0 c1 c2 c3 : Value) (u0 u1 v0 v1 : Value) (nx bd : List Bool) : Prop where
  fa : Four V w.heap.size c0 c1 c2 c3
  w0 : Owned V s4 s5 u0 nx
  w1 : Owned V s4 s5 u1 bd
  g0 : Owned V s8 n9 v0 nx
  g1 : Owned V n9 s9 v1 bd
  be : Below w.heap.size w V
theorem Ans.below {w V V' : World} {s4 s5 s8 n9 s9 : Nat} {c0 c1 c2 c3 u0 u1 v0 v1 : Value} {nx bd : List Bool} (h : Ans w V s4 s5 s8 n9 s9 c0 c1 c2 c3 u0 u1 v0 v1 nx bd) (hb : Below V.heap.size V V') : Ans w V' s4 s5 s8 n9 s9 c0 c1 c2 c3 u0 u1 v0 v1 nx bd :=
  ⟨h.fa.below hb, h.w0.below hb, h.w1.below hb, h.g0.below hb, h.g1.below hb, belNext h.be hb⟩
theorem Ans.chg {p : Nat → Prop} {w V V' : World} {s4 s5 s8 n9 s9 : Nat} {c0 c1 c2 c3 u0 u1 v0 v1 : Value} {nx bd : List Bool} (h : Ans w V s4 s5 s8 n9 s9 c0 c1 c2 c3 u0 u1 v0 v1 nx bd) (hc : Chg p V V') (hw : w.heap.size < s5) (hn : s8 ≤ n9) (hp : ∀ k, p k → s5 ≤ k ∧ k < s8) : Ans w V' s4 s5 s8 n9 s9 c0 c1 c2 c3 u0 u1 v0 v1 nx bd :=
  ⟨hc.four h.fa (fun hk => by have := hp _ hk; omega), h.w0.chg hc (fun k h1 h2 hk => by have := hp k hk; omega), h.w1.chg hc (fun k h1 h2 hk => by have := hp k hk; omega), h.g0.chg hc (fun k h1 h2 hk => by have := hp k hk; omega), h.g1.chg hc (fun k h1 h2 hk => by have := hp k hk; omega), Chg.below h.be h.be.size hc (fun k hk => by have := hp k hk; omega)⟩

/-- The copies that the program was given. -/
structure Srs (V : World) (bX bl ba bb b1 b2 : Nat) (inp : Int) (ls : List (Int × Bool)) (xs : List (Int × Int)) (bs : List Int) (lats ins : List Bool) : Prop where
  fx : Four V bX (.int .i64 inp) (.slice (some ⟨bl, 0, none⟩) ls.length ls.length) (.slice (some ⟨ba, 0, none⟩) xs.length xs.length) (.slice (some ⟨bb, 0, none⟩) bs.length bs.length)
  cx : CirAt V bl ba bb ls xs bs
  r1 : V.rowIs b1 4 lats.length (fun i => .bool (lats.getD i false))
  r2 : V.rowIs b2 4 ins.length (fun i => .bool (ins.getD i false))
theorem Srs.below {V V' : World} {bX bl ba bb b1 b2 : Nat} {inp : Int} {ls : List (Int × Bool)} {xs : List (Int × Int)} {bs : List Int} {lats ins : List Bool} (h : Srs V bX bl ba bb b1 b2 inp ls xs bs lats ins) (hb : Below V.heap.size V V') : Srs V' bX bl ba bb b1 b2 inp ls xs bs lats ins :=
  ⟨h.fx.below hb, h.cx.below hb, h.r1.of_block (hb.block _ h.r1.lt), h.r2.of_block (hb.block _ h.r2.lt)⟩

/-- What stands behind the marks. -/
structure Tst (w V : World) (s4 s5 : Nat) (u0 u1 v0 v1 : Value) (nx bd mx md : List Bool) : Prop where
  w0 : Owned V s4 s5 u0 nx
  w1 : Owned V s4 s5 u1 bd
  g0 : IsBits V v0 mx
  g1 : IsBits V v1 md
  be : Below w.heap.size w V
theorem Tst.below {w V V' : World} {s4 s5 : Nat} {u0 u1 v0 v1 : Value} {nx bd mx md : List Bool} (h : Tst w V s4 s5 u0 u1 v0 v1 nx bd mx md) (hb : Below V.heap.size V V') : Tst w V' s4 s5 u0 u1 v0 v1 nx bd mx md :=
  ⟨h.w0.below hb, h.w1.below hb, h.g0.below hb, h.g1.below hb, belNext h.be hb⟩

set_option maxRecDepth 100000 in
set_option maxHeartbeats 8000000 in
theorem fnExactAigStep_walk (inp : Int) (al aa ab : Option Addr) (cl ca cb : Nat) (ls : List (Int × Bool)) (xs : List (Int × Int)) (bs : List Int) (alt ain : Option Addr) (clt cin : Nat) (lats ins : List Bool) (w : World) (hC : IsCir w al aa ab cl ca cb ls xs bs)
    (hLa : IsBits w (.slice alt lats.length clt) lats) (hIn : IsBits w (.slice ain ins.length cin) ins) (hl64 : ∀ p ∈ ls, I64 p.1) (hx64 : ∀ p ∈ xs, I64 p.1 ∧ I64 p.2) (hb64 : ∀ x ∈ bs, I64 x) (hm1 : lats.length ≤ maxLen) (hm2 : ins.length ≤ maxLen) :
    Calls Try.prog 4 #[.agg #[.int .i64 inp, .slice al ls.length cl, .slice aa xs.length ca, .slice ab bs.length cb], .slice alt lats.length clt, .slice ain ins.length cin] w fun e w' => e = .returned (.bool true) ∧ Below w.heap.size w w' := by
  unfold maxLen at hm1 hm2
  have HB0 : Hid (Below w.heap.size w (w.alloc (.cells #[.int .i64 inp, .slice al ls.length cl, .slice aa xs.length ca, .slice ab bs.length cb] 26))) := belOne _ _
  by_cases hn1 : lats.length ≤ 1048576
  case neg =>
    clear hC hLa hIn hl64 hx64 hb64
    have d1 : decide ((1048576 : Int) < (lats.length : Int)) = true := by simp; omega
    go_enter Try.func4, Try.ntmps4
    go_wp2
    go_ret
    exact ⟨rfl, HB0.out⟩
  have d1 : decide ((1048576 : Int) < (lats.length : Int)) = false := by simp; omega
  by_cases hn2 : ins.length ≤ 1048576
  case neg =>
    clear hC hLa hIn hl64 hx64 hb64
    have d2 : decide ((1048576 : Int) < (ins.length : Int)) = true := by simp; omega
    go_enter Try.func4, Try.ntmps4
    go_wp2
    go_ret
    exact ⟨rfl, HB0.out⟩
  have d2 : decide ((1048576 : Int) < (ins.length : Int)) = false := by simp; omega
  have HC : Hid (∀ w', Below w.heap.size w w' → IsCir w' al aa ab cl ca cb ls xs bs) := fun w' h => hC.below h
  have HLA : Hid (∀ w', Below w.heap.size w w' → IsBits w' (.slice alt lats.length clt) lats) := fun w' h => hLa.below h
  have HIN : Hid (∀ w', Below w.heap.size w w' → IsBits w' (.slice ain ins.length cin) ins) := fun w' h => hIn.below h
  have HSZ : Hid (Calls Try.prog 11 #[.agg #[.int .i64 inp, .slice al ls.length cl, .slice aa xs.length ca, .slice ab bs.length cb], .int .i64 1048576] (w.alloc (.cells #[.int .i64 inp, .slice al ls.length cl, .slice aa xs.length ca, .slice ab bs.length cb] 26)) fun e w' => e = .returned (.int .i64 (szC ls.length xs.length bs.length)) ∧ Below (w.alloc (.cells #[.int .i64 inp, .slice al ls.length cl, .slice aa xs.length ca, .slice ab bs.length cb] 26)).heap.size (w.alloc (.cells #[.int .i64 inp, .slice al ls.length cl, .slice aa xs.length ca, .slice ab bs.length cb] 26)) w') := szAig_any inp al aa ab ls.length cl xs.length ca bs.length cb _ hC.lenL hC.lenA hC.lenB
  have HT0 : Hid (Four (w.alloc (.cells #[.int .i64 inp, .slice al ls.length cl, .slice aa xs.length ca, .slice ab bs.length cb] 26)) w.heap.size (.int .i64 inp) (.slice al ls.length cl) (.slice aa xs.length ca) (.slice ab bs.length cb)) := Four.new _ _ _ _ _ _
  have HL64 : Hid (∀ p ∈ ls, I64 p.1) := hl64
  have HX64 : Hid (∀ p ∈ xs, I64 p.1 ∧ I64 p.2) := hx64
  have HB64 : Hid (∀ x ∈ bs, I64 x) := hb64
  clear hC hLa hIn hl64 hx64 hb64
  by_cases hbig : ls.length + xs.length + bs.length ≤ 1048576
  case neg =>
    have HZ : Hid (szC ls.length xs.length bs.length = -1) := by show szC ls.length xs.length bs.length = _; unfold szC; rw [if_neg hbig]
    go_enter Try.func4, Try.ntmps4
    go_wp2_with fail
    refine HSZ.out.mono ?_
    rintro e w1 ⟨rfl, hb1⟩
    rw [HZ.out]
    have HB1 : Hid (Below w.heap.size w w1) := belNext HB0.out hb1
    clear hb1
    go_wp2
    go_ret
    exact ⟨rfl, HB1.out⟩
  have hl : ls.length ≤ 1048576 := by omega
  have ha : xs.length ≤ 1048576 := by omega
  have hb : bs.length ≤ 1048576 := by omega
  have HZ : Hid (szC ls.length xs.length bs.length = 1048576 - ((ls.length : Int) + xs.length + bs.length)) := by show szC ls.length xs.length bs.length = _; unfold szC; rw [if_pos hbig]
  obtain ⟨nx, hnx⟩ : ∃ vs, nextOf inp ls xs bs lats ins = vs := ⟨_, rfl⟩
  obtain ⟨bd, hbd⟩ : ∃ vs, badOf inp ls xs bs lats ins = vs := ⟨_, rfl⟩
  have HNX : Hid (nextOf inp ls xs bs lats ins = nx) := hnx
  have HBD : Hid (badOf inp ls xs bs lats ins = bd) := hbd
  have hnl : nx.length ≤ 100 := by rw [← hnx]; exact nextOf_length _ _ _ _ _ _
  have hdl : bd.length ≤ 100 := by rw [← hbd]; exact badOf_length _ _ _ _ _ _
  have HNM : Hid (nx.length ≤ maxLen) := by show nx.length ≤ maxLen; unfold maxLen; omega
  have HDM : Hid (bd.length ≤ maxLen) := by show bd.length ≤ maxLen; unfold maxLen; omega
  have HM1 : Hid (lats.length ≤ maxLen) := by show lats.length ≤ maxLen; unfold maxLen; omega
  have HM2 : Hid (ins.length ≤ maxLen) := by show ins.length ≤ maxLen; unfold maxLen; omega
  clear hnx hbd
  go_enter Try.func4, Try.ntmps4
  go_wp2_with fail
  refine HSZ.out.mono ?_
  rintro e w1 ⟨rfl, hb1⟩
  rw [HZ.out]
  have HB1 : Hid (Below w.heap.size w w1) := belNext HB0.out hb1
  have HT1 : Hid (Four w1 w.heap.size (.int .i64 inp) (.slice al ls.length cl) (.slice aa xs.length ca) (.slice ab bs.length cb)) := HT0.out.below hb1
  clear hb1
  have c0 := HT1.out.c0
  have c1 := HT1.out.c1
  have c2 := HT1.out.c2
  have c3 := HT1.out.c3
  have c4 := HT1.out.lt
  go_wp2_with fail
  refine (toAig_any inp al aa ab cl ca cb ls xs bs _ (HC.out _ HB1.out) hl ha hb).mono ?_
  rintro e w2 ⟨bl2, ba2, bb2, rfl, hb2, _, _, _, hc2⟩
  have HB2 : Hid (Below w.heap.size w w2) := belNext HB1.out hb2
  have HT2 : Hid (Four w2 w.heap.size (.int .i64 inp) (.slice al ls.length cl) (.slice aa xs.length ca) (.slice ab bs.length cb)) := HT1.out.below hb2
  have HD2 : Hid (CirAt w2 bl2 ba2 bb2 ls xs bs) := hc2
  clear hb2 hc2 c0 c1 c2 c3 c4
  go_wp2_with fail
  refine (toBoolS_any _ lats _ (HLA.out _ HB2.out) hn1).mono ?_
  rintro e w3 ⟨rfl, hb3, hz3, hr3⟩
  clear hz3
  have HB3 : Hid (Below w.heap.size w w3) := belNext HB2.out hb3
  have HT3 : Hid (Four w3 w.heap.size (.int .i64 inp) (.slice al ls.length cl) (.slice aa xs.length ca) (.slice ab bs.length cb)) := HT2.out.below hb3
  have HD3 : Hid (CirAt w3 bl2 ba2 bb2 ls xs bs) := HD2.out.below hb3
  have HP3 : Hid (w3.rowIs w2.heap.size 4 lats.length (fun i => .bool (lats.getD i false))) := hr3
  clear hb3 hr3
  go_wp2_with fail
  refine (toBoolS_any _ ins _ (HIN.out _ HB3.out) hn2).mono ?_
  rintro e w4 ⟨rfl, hb4, hz4, hr4⟩
  clear hz4
  have HB4 : Hid (Below w.heap.size w w4) := belNext HB3.out hb4
  have HT4 : Hid (Four w4 w.heap.size (.int .i64 inp) (.slice al ls.length cl) (.slice aa xs.length ca) (.slice ab bs.length cb)) := HT3.out.below hb4
  have HD4 : Hid (CirAt w4 bl2 ba2 bb2 ls xs bs) := HD3.out.below hb4
  have HP4 : Hid (w4.rowIs w2.heap.size 4 lats.length (fun i => .bool (lats.getD i false))) := HP3.out.of_block (hb4.block _ HP3.out.lt)
  have HQ4 : Hid (w4.rowIs w3.heap.size 4 ins.length (fun i => .bool (ins.getD i false))) := hr4
  clear hb4 hr4
  go_wp2_with fail
  refine (specAigStep_any inp _ _ _ _ _ _ ls xs bs _ _ _ _ lats ins _ (HD4.out.isCir hl ha hb) (IsBits.of_row (Nat.le_refl _) HP4.out (fun i _ => rfl)) (IsBits.of_row (Nat.le_refl _) HQ4.out (fun i _ => rfl)) HL64.out HX64.out HB64.out hn1 hn2).mono ?_
  rintro e w5 ⟨a5, m5, c5, b5, k5, e5, n5, rfl, hm5, hk5, hn5, ho5, hlt5, hp5, hb5⟩
  rw [HNX.out] at hm5 ho5
  rw [HBD.out] at hk5 hp5
  have HB5 : Hid (Below w.heap.size w w5) := belNext HB4.out hb5
  have HT5 : Hid (Four w5 w.heap.size (.int .i64 inp) (.slice al ls.length cl) (.slice aa xs.length ca) (.slice ab bs.length cb)) := HT4.out.below hb5
  have HO5 : Hid (Owned w5 w4.heap.size w5.heap.size (.slice a5 m5 c5) nx) := ⟨ho5, fun k e => (ho5.blk k e).2⟩
  have HU5 : Hid (Owned w5 w4.heap.size w5.heap.size (.slice b5 k5 e5) bd) := ⟨hp5.base hn5, fun k e => (hp5.blk k e).2⟩
  clear hb5 ho5 hp5 hm5 hk5 hlt5 hn5
  have c0 := HT5.out.c0
  have c1 := HT5.out.c1
  have c2 := HT5.out.c2
  have c3 := HT5.out.c3
  have c4 := HT5.out.lt
  go_wp2_with fail
  refine (toAig_any inp al aa ab cl ca cb ls xs bs _ (HC.out _ HB5.out) hl ha hb).mono ?_
  rintro e w6 ⟨bl6, ba6, bb6, rfl, hb6, hle6, hlt6, hlu6, hc6⟩
  have HB6 : Hid (Below w.heap.size w w6) := belNext HB5.out hb6
  have HT6 : Hid (Four w6 w.heap.size (.int .i64 inp) (.slice al ls.length cl) (.slice aa xs.length ca) (.slice ab bs.length cb)) := HT5.out.below hb6
  have HD6 : Hid (CirAt w6 bl6 ba6 bb6 ls xs bs) := hc6
  have HO6 : Hid (Owned w6 w4.heap.size w5.heap.size (.slice a5 m5 c5) nx) := HO5.out.below hb6
  have HU6 : Hid (Owned w6 w4.heap.size w5.heap.size (.slice b5 k5 e5) bd) := HU5.out.below hb6
  clear hb6 hc6 c0 c1 c2 c3 c4
  have hbb6 : bb6 < w6.heap.size := HD6.out.rb.lt
  have HX6 : Hid (Four (w6.alloc (.cells #[.int .i64 inp, .slice (some ⟨bl6, 0, none⟩) ls.length ls.length, .slice (some ⟨ba6, 0, none⟩) xs.length xs.length, .slice (some ⟨bb6, 0, none⟩) bs.length bs.length] 33)) w6.heap.size (.int .i64 inp) (.slice (some ⟨bl6, 0, none⟩) ls.length ls.length) (.slice (some ⟨ba6, 0, none⟩) xs.length xs.length) (.slice (some ⟨bb6, 0, none⟩) bs.length bs.length)) := Four.new _ _ _ _ _ _
  have HB6a : Hid (Below w6.heap.size w6 (w6.alloc (.cells #[.int .i64 inp, .slice (some ⟨bl6, 0, none⟩) ls.length ls.length, .slice (some ⟨ba6, 0, none⟩) xs.length xs.length, .slice (some ⟨bb6, 0, none⟩) bs.length bs.length] 33))) := belOne _ _
  go_wp2_with fail
  refine (toBoolS_any _ lats _ (HLA.out _ (belNext HB6.out HB6a.out)) hn1).mono ?_
  rintro e w7 ⟨rfl, hb7, hz7, hr7⟩
  simp only [World.size_alloc] at hz7 hr7 ⊢
  have HZ7 : Hid (w7.heap.size = w6.heap.size + 1 + 1) := hz7
  clear hz7
  have hb7' := belNext HB6a.out hb7
  have HB7 : Hid (Below w.heap.size w w7) := belNext HB6.out hb7'
  have HT7 : Hid (Four w7 w.heap.size (.int .i64 inp) (.slice al ls.length cl) (.slice aa xs.length ca) (.slice ab bs.length cb)) := HT6.out.below hb7'
  have HD7 : Hid (CirAt w7 bl6 ba6 bb6 ls xs bs) := HD6.out.below hb7'
  have HO7 : Hid (Owned w7 w4.heap.size w5.heap.size (.slice a5 m5 c5) nx) := HO6.out.below hb7'
  have HU7 : Hid (Owned w7 w4.heap.size w5.heap.size (.slice b5 k5 e5) bd) := HU6.out.below hb7'
  have HX7 : Hid (Four w7 w6.heap.size (.int .i64 inp) (.slice (some ⟨bl6, 0, none⟩) ls.length ls.length) (.slice (some ⟨ba6, 0, none⟩) xs.length xs.length) (.slice (some ⟨bb6, 0, none⟩) bs.length bs.length)) := HX6.out.below hb7
  have HP7 : Hid (w7.rowIs (w6.heap.size + 1) 4 lats.length (fun i => .bool (lats.getD i false))) := hr7
  clear hb7 hb7' hr7
  go_wp2_with fail
  refine (toBoolS_any _ ins _ (HIN.out _ HB7.out) hn2).mono ?_
  rintro e w8 ⟨rfl, hb8, hz8, hr8⟩
  have HZ8 : Hid (w8.heap.size = w7.heap.size + 1) := hz8
  clear hz8
  have HB8 : Hid (Below w.heap.size w w8) := belNext HB7.out hb8
  have HT8 : Hid (Four w8 w.heap.size (.int .i64 inp) (.slice al ls.length cl) (.slice aa xs.length ca) (.slice ab bs.length cb)) := HT7.out.below hb8
  have HD8 : Hid (CirAt w8 bl6 ba6 bb6 ls xs bs) := HD7.out.below hb8
  have HO8 : Hid (Owned w8 w4.heap.size w5.heap.size (.slice a5 m5 c5) nx) := HO7.out.below hb8
  have HU8 : Hid (Owned w8 w4.heap.size w5.heap.size (.slice b5 k5 e5) bd) := HU7.out.below hb8
  have HX8 : Hid (Four w8 w6.heap.size (.int .i64 inp) (.slice (some ⟨bl6, 0, none⟩) ls.length ls.length) (.slice (some ⟨ba6, 0, none⟩) xs.length xs.length) (.slice (some ⟨bb6, 0, none⟩) bs.length bs.length)) := HX7.out.below hb8
  have HP8 : Hid (w8.rowIs (w6.heap.size + 1) 4 lats.length (fun i => .bool (lats.getD i false))) := HP7.out.of_block (hb8.block _ HP7.out.lt)
  have HQ8 : Hid (w8.rowIs w7.heap.size 4 ins.length (fun i => .bool (ins.getD i false))) := hr8
  clear hb8 hr8
  have c0 := HX8.out.c0
  have c1 := HX8.out.c1
  have c2 := HX8.out.c2
  have c3 := HX8.out.c3
  have c4 := HX8.out.lt
  go_wp2_with fail
  refine (implAigStep_any inp _ _ _ _ _ _ ls xs bs _ _ _ _ lats ins _ (HD8.out.isCir hl ha hb) (IsBits.of_row (Nat.le_refl _) HP8.out (fun i _ => rfl)) (IsBits.of_row (Nat.le_refl _) HQ8.out (fun i _ => rfl)) HL64.out HX64.out HB64.out hn1 hn2).mono ?_
  rintro e w9 ⟨a9, m9, c9, b9, k9, e9, n9, rfl, hm9, hk9, hn9, ho9, hlt9, hp9, hb9⟩
  rw [HNX.out] at hm9 ho9
  rw [HBD.out] at hk9 hp9
  have L9 : Hid (Ans w w9 w4.heap.size w5.heap.size w8.heap.size n9 w9.heap.size (.int .i64 inp) (.slice al ls.length cl) (.slice aa xs.length ca) (.slice ab bs.length cb) (.slice a5 m5 c5) (.slice b5 k5 e5) (.slice a9 m9 c9) (.slice b9 k9 e9) nx bd) := ⟨HT8.out.below hb9, HO8.out.below hb9, HU8.out.below hb9, ⟨ho9, hlt9⟩, ⟨hp9, fun k e => (hp9.blk k e).2⟩, belNext HB8.out hb9⟩
  have R9 : Hid (Srs w9 w6.heap.size bl6 ba6 bb6 (w6.heap.size + 1) w7.heap.size inp ls xs bs lats ins) := ⟨HX8.out.below hb9, HD8.out.below hb9, HP8.out.of_block (hb9.block _ HP8.out.lt), HQ8.out.of_block (hb9.block _ HQ8.out.lt)⟩
  have HM9 : Hid (nx.length = m9) := hm9
  have HK9 : Hid (bd.length = k9) := hk9
  have HN9 : Hid (w8.heap.size ≤ n9) := hn9
  have hs56 : w.heap.size < w5.heap.size := HT5.out.lt
  clear hb9 ho9 hm9 hk9 hp9 hlt9 hn9 c0 c1 c2 c3 c4 HO5 HO6 HO7 HO8 HU5 HU6 HU7 HU8
  go_wp2_with fail
  refine (eqBoolS_same _ _ nx _ L9.out.g0.1.isBits L9.out.w0.1.isBits HNM.out).mono ?_
  rintro e w10 ⟨rfl, n10, hw10⟩
  have hb10 : Below w9.heap.size w9 w10 := by rw [hw10]; exact below_drewN (Below.refl _ _) _
  have L10 : Hid (Ans w w10 w4.heap.size w5.heap.size w8.heap.size n9 w9.heap.size (.int .i64 inp) (.slice al ls.length cl) (.slice aa xs.length ca) (.slice ab bs.length cb) (.slice a5 m5 c5) (.slice b5 k5 e5) (.slice a9 m9 c9) (.slice b9 k9 e9) nx bd) := L9.out.below hb10
  have R10 : Hid (Srs w10 w6.heap.size bl6 ba6 bb6 (w6.heap.size + 1) w7.heap.size inp ls xs bs lats ins) := R9.out.below hb10
  clear hw10 hb10
  go_wp2_with fail
  refine (eqBoolS_same _ _ bd _ L10.out.g1.1.isBits L10.out.w1.1.isBits HDM.out).mono ?_
  rintro e w11 ⟨rfl, n11, hw11⟩
  have hb11 : Below w10.heap.size w10 w11 := by rw [hw11]; exact below_drewN (Below.refl _ _) _
  have L11 : Hid (Ans w w11 w4.heap.size w5.heap.size w8.heap.size n9 w9.heap.size (.int .i64 inp) (.slice al ls.length cl) (.slice aa xs.length ca) (.slice ab bs.length cb) (.slice a5 m5 c5) (.slice b5 k5 e5) (.slice a9 m9 c9) (.slice b9 k9 e9) nx bd) := L10.out.below hb11
  have R11 : Hid (Srs w11 w6.heap.size bl6 ba6 bb6 (w6.heap.size + 1) w7.heap.size inp ls xs bs lats ins) := R10.out.below hb11
  clear hw11 hb11
  have c0 := L11.out.fa.c0
  have c1 := L11.out.fa.c1
  have c2 := L11.out.fa.c2
  have c3 := L11.out.fa.c3
  have c4 := L11.out.fa.lt
  have x0 := R11.out.fx.c0
  have x1 := R11.out.fx.c1
  have x2 := R11.out.fx.c2
  have x3 := R11.out.fx.c3
  have x4 := R11.out.fx.lt
  go_wp2_with fail
  go_region_held3 (fun w' => w'.cell? ⟨w.heap.size, 0, none⟩ = some (.int .i64 inp) ∧ w'.cell? ⟨w.heap.size, 1, none⟩ = some (.slice al ls.length cl) ∧ w'.cell? ⟨w.heap.size, 2, none⟩ = some (.slice aa xs.length ca) ∧ w'.cell? ⟨w.heap.size, 3, none⟩ = some (.slice ab bs.length cb) ∧ w'.cell? ⟨w6.heap.size, 0, none⟩ = some (.int .i64 inp) ∧ w'.cell? ⟨w6.heap.size, 1, none⟩ = some (.slice (some ⟨bl6, 0, none⟩) ls.length ls.length) ∧ w'.cell? ⟨w6.heap.size, 2, none⟩ = some (.slice (some ⟨ba6, 0, none⟩) xs.length xs.length) ∧ w'.cell? ⟨w6.heap.size, 3, none⟩ = some (.slice (some ⟨bb6, 0, none⟩) bs.length bs.length))
    (first | exact ⟨by assumption, by assumption, by assumption, by assumption, by assumption, by assumption, by assumption, by assumption⟩ | (go_keep; done))
    (first
      | (go_simp; go_at_call 13; refine (toAig_any inp al aa ab cl ca cb ls xs bs _ (HC.out _ (by first | exact L11.out.be | exact L11.out.be.drew)) hl ha hb).mono ?_; rintro e w12 ⟨blq, baq, bbq, rfl, hbz, _, _, _, hcq⟩; have hb12 : Below w11.heap.size w11 w12 := (by first | exact hbz | exact undrew hbz); have L12 : Hid (Ans w w12 w4.heap.size w5.heap.size w8.heap.size n9 w9.heap.size (.int .i64 inp) (.slice al ls.length cl) (.slice aa xs.length ca) (.slice ab bs.length cb) (.slice a5 m5 c5) (.slice b5 k5 e5) (.slice a9 m9 c9) (.slice b9 k9 e9) nx bd) := L11.out.below hb12; have R12 : Hid (Srs w12 w6.heap.size bl6 ba6 bb6 (w6.heap.size + 1) w7.heap.size inp ls xs bs lats ins) := R11.out.below hb12; have HE12 : Hid (CirAt w12 blq baq bbq ls xs bs) := hcq; have t0 := L12.out.fa.c0; have t1 := L12.out.fa.c1; have t2 := L12.out.fa.c2; have t3 := L12.out.fa.c3; have y0 := R12.out.fx.c0; have y1 := R12.out.fx.c1; have y2 := R12.out.fx.c2; have y3 := R12.out.fx.c3; clear hb12 hbz hcq)
      | (go_simp; go_at_call 17; refine (eqAig_same inp _ _ _ _ _ _ _ _ _ _ _ _ ls xs bs _ (R12.out.cx.isCir hl ha hb) (HE12.out.isCir hl ha hb) hl ha hb).mono ?_; rintro e w13 ⟨rfl, hbz⟩; have L13 : Hid (Ans w w13 w4.heap.size w5.heap.size w8.heap.size n9 w9.heap.size (.int .i64 inp) (.slice al ls.length cl) (.slice aa xs.length ca) (.slice ab bs.length cb) (.slice a5 m5 c5) (.slice b5 k5 e5) (.slice a9 m9 c9) (.slice b9 k9 e9) nx bd) := L12.out.below hbz; have R13 : Hid (Srs w13 w6.heap.size bl6 ba6 bb6 (w6.heap.size + 1) w7.heap.size inp ls xs bs lats ins) := R12.out.below hbz; have u0 := L13.out.fa.c0; have u1 := L13.out.fa.c1; have u2 := L13.out.fa.c2; have u3 := L13.out.fa.c3; have v0 := R13.out.fx.c0; have v1 := R13.out.fx.c1; have v2 := R13.out.fx.c2; have v3 := R13.out.fx.c3; clear hbz))
  clear c0 c1 c2 c3 c4 x0 x1 x2 x3 x4 t0 t1 t2 t3 y0 y1 y2 y3 u0 u1 u2 u3 v0 v1 v2 v3
  go_wp2_with fail
  refine (toBoolS_any _ lats _ (HLA.out _ L13.out.be) hn1).mono ?_
  rintro e w14 ⟨rfl, hbz, hzz, hrz⟩
  have L14 : Hid (Ans w w14 w4.heap.size w5.heap.size w8.heap.size n9 w9.heap.size (.int .i64 inp) (.slice al ls.length cl) (.slice aa xs.length ca) (.slice ab bs.length cb) (.slice a5 m5 c5) (.slice b5 k5 e5) (.slice a9 m9 c9) (.slice b9 k9 e9) nx bd) := L13.out.below hbz
  have R14 : Hid (Srs w14 w6.heap.size bl6 ba6 bb6 (w6.heap.size + 1) w7.heap.size inp ls xs bs lats ins) := R13.out.below hbz
  have HR14 : Hid (w14.rowIs w13.heap.size 4 lats.length (fun i => .bool (lats.getD i false))) := hrz
  clear hbz hzz hrz
  go_wp2_with fail
  refine (eqBoolS_same _ _ lats _ (IsBits.of_row (Nat.le_refl _) R14.out.r1 (fun i _ => rfl)) (IsBits.of_row (Nat.le_refl _) HR14.out (fun i _ => rfl)) HM1.out).mono ?_
  rintro e w15 ⟨rfl, nz, hwz⟩
  have hbz : Below w14.heap.size w14 w15 := by rw [hwz]; exact below_drewN (Below.refl _ _) _
  have L15 : Hid (Ans w w15 w4.heap.size w5.heap.size w8.heap.size n9 w9.heap.size (.int .i64 inp) (.slice al ls.length cl) (.slice aa xs.length ca) (.slice ab bs.length cb) (.slice a5 m5 c5) (.slice b5 k5 e5) (.slice a9 m9 c9) (.slice b9 k9 e9) nx bd) := L14.out.below hbz
  have R15 : Hid (Srs w15 w6.heap.size bl6 ba6 bb6 (w6.heap.size + 1) w7.heap.size inp ls xs bs lats ins) := R14.out.below hbz
  clear hbz hwz
  go_wp2_with fail
  refine (toBoolS_any _ ins _ (HIN.out _ L15.out.be) hn2).mono ?_
  rintro e w16 ⟨rfl, hbz, hzz, hrz⟩
  have L16 : Hid (Ans w w16 w4.heap.size w5.heap.size w8.heap.size n9 w9.heap.size (.int .i64 inp) (.slice al ls.length cl) (.slice aa xs.length ca) (.slice ab bs.length cb) (.slice a5 m5 c5) (.slice b5 k5 e5) (.slice a9 m9 c9) (.slice b9 k9 e9) nx bd) := L15.out.below hbz
  have R16 : Hid (Srs w16 w6.heap.size bl6 ba6 bb6 (w6.heap.size + 1) w7.heap.size inp ls xs bs lats ins) := R15.out.below hbz
  have HR16 : Hid (w16.rowIs w15.heap.size 4 ins.length (fun i => .bool (ins.getD i false))) := hrz
  clear hbz hzz hrz
  go_wp2_with fail
  refine (eqBoolS_same _ _ ins _ (IsBits.of_row (Nat.le_refl _) R16.out.r2 (fun i _ => rfl)) (IsBits.of_row (Nat.le_refl _) HR16.out (fun i _ => rfl)) HM2.out).mono ?_
  rintro e w17 ⟨rfl, nz, hwz⟩
  have hbz : Below w16.heap.size w16 w17 := by rw [hwz]; exact below_drewN (Below.refl _ _) _
  have L17 : Hid (Ans w w17 w4.heap.size w5.heap.size w8.heap.size n9 w9.heap.size (.int .i64 inp) (.slice al ls.length cl) (.slice aa xs.length ca) (.slice ab bs.length cb) (.slice a5 m5 c5) (.slice b5 k5 e5) (.slice a9 m9 c9) (.slice b9 k9 e9) nx bd) := L16.out.below hbz
  have R17 : Hid (Srs w17 w6.heap.size bl6 ba6 bb6 (w6.heap.size + 1) w7.heap.size inp ls xs bs lats ins) := R16.out.below hbz
  clear hbz hwz
  have x0 := R17.out.fx.c0
  have x1 := R17.out.fx.c1
  have x2 := R17.out.fx.c2
  have x3 := R17.out.fx.c3
  have x4 := R17.out.fx.lt
  go_wp2_with fail
  refine (markAig_any inp bl6 ba6 bb6 ls xs bs _ R17.out.cx (by omega) (by omega) (by omega) hl ha hb).mono ?_
  rintro e w18 ⟨⟨q, rfl, hq0, hq1⟩, hch⟩
  have hin : ∀ k, inCir bl6 ba6 bb6 k → w5.heap.size ≤ k ∧ k < w6.heap.size := fun k hk => by
    unfold inCir at hk
    omega
  have L18 : Hid (Ans w w18 w4.heap.size w5.heap.size w8.heap.size n9 w9.heap.size (.int .i64 inp) (.slice al ls.length cl) (.slice aa xs.length ca) (.slice ab bs.length cb) (.slice a5 m5 c5) (.slice b5 k5 e5) (.slice a9 m9 c9) (.slice b9 k9 e9) nx bd) := L17.out.chg hch hs56 HN9.out (fun k hk => by have := hin k hk; have := HZ7.out; have := HZ8.out; omega)
  have P18 : Hid (w18.rowIs (w6.heap.size + 1) 4 lats.length (fun i => .bool (lats.getD i false))) := hch.row R17.out.r1 (fun hk => by have := hin _ hk; omega)
  have Q18 : Hid (w18.rowIs w7.heap.size 4 ins.length (fun i => .bool (ins.getD i false))) := hch.row R17.out.r2 (fun hk => by have := hin _ hk; have := HZ7.out; omega)
  have hle56 : w5.heap.size ≤ w6.heap.size := by have := hin bl6 (.inl rfl); omega
  clear hch hin x0 x1 x2 x3 x4
  go_wp2_with fail
  refine (markBoolS_any (w6.heap.size + 1) lats.length lats.length _ q _ P18.out (Nat.le_refl _) (by omega) (by omega) (by omega)).mono ?_
  rintro e w19 ⟨rfl, _, hch⟩
  have L19 : Hid (Ans w w19 w4.heap.size w5.heap.size w8.heap.size n9 w9.heap.size (.int .i64 inp) (.slice al ls.length cl) (.slice aa xs.length ca) (.slice ab bs.length cb) (.slice a5 m5 c5) (.slice b5 k5 e5) (.slice a9 m9 c9) (.slice b9 k9 e9) nx bd) := L18.out.chg hch hs56 HN9.out (fun k hk => by have := HZ7.out; have := HZ8.out; omega)
  have Q19 : Hid (w19.rowIs w7.heap.size 4 ins.length (fun i => .bool (ins.getD i false))) := hch.row Q18.out (fun hk => by have := HZ7.out; omega)
  clear hch
  go_wp2_with fail
  refine (markBoolS_any w7.heap.size ins.length ins.length _ (q + (lats.length : Int)) _ Q19.out (Nat.le_refl _) (by omega) (by omega) (by omega)).mono ?_
  rintro e w20 ⟨rfl, _, hch⟩
  have L20 : Hid (Ans w w20 w4.heap.size w5.heap.size w8.heap.size n9 w9.heap.size (.int .i64 inp) (.slice al ls.length cl) (.slice aa xs.length ca) (.slice ab bs.length cb) (.slice a5 m5 c5) (.slice b5 k5 e5) (.slice a9 m9 c9) (.slice b9 k9 e9) nx bd) := L19.out.chg hch hs56 HN9.out (fun k hk => by have := HZ7.out; have := HZ8.out; omega)
  clear hch
  have dk : decide (q + (lats.length : Int) + (ins.length : Int) < 0) = false := by simp; omega
  go_wp2_with fail
  refine (eqBoolS_same _ _ nx _ L20.out.g0.1.isBits L20.out.w0.1.isBits HNM.out).mono ?_
  rintro e w21 ⟨rfl, n21, hwz⟩
  have hbz : Below w20.heap.size w20 w21 := by rw [hwz]; exact below_drewN (Below.refl _ _) _
  have L21 : Hid (Ans w w21 w4.heap.size w5.heap.size w8.heap.size n9 w9.heap.size (.int .i64 inp) (.slice al ls.length cl) (.slice aa xs.length ca) (.slice ab bs.length cb) (.slice a5 m5 c5) (.slice b5 k5 e5) (.slice a9 m9 c9) (.slice b9 k9 e9) nx bd) := L20.out.below hbz
  clear hbz hwz
  go_wp2_with fail
  refine (eqBoolS_same _ _ bd _ L21.out.g1.1.isBits L21.out.w1.1.isBits HDM.out).mono ?_
  rintro e w22 ⟨rfl, n22, hwz⟩
  have hbz : Below w21.heap.size w21 w22 := by rw [hwz]; exact below_drewN (Below.refl _ _) _
  have L22 : Hid (Ans w w22 w4.heap.size w5.heap.size w8.heap.size n9 w9.heap.size (.int .i64 inp) (.slice al ls.length cl) (.slice aa xs.length ca) (.slice ab bs.length cb) (.slice a5 m5 c5) (.slice b5 k5 e5) (.slice a9 m9 c9) (.slice b9 k9 e9) nx bd) := L21.out.below hbz
  clear hbz hwz
  have hm9 : m9 ≤ 100 := by have := HM9.out; omega
  have hk9 : k9 ≤ 100 := by have := HK9.out; omega
  go_wp2_with fail
  refine (mark_from _ w8.heap.size a9 m9 c9 nx 1 L22.out.g0.1 HM9.out hnl (by omega) (by omega)).mono ?_
  rintro e w23 ⟨rfl, hbits, hch⟩
  have hblk : ∀ k, (Value.slice a9 m9 c9).ownBlock = some k → w8.heap.size ≤ k ∧ k < n9 := fun k e => ⟨(L22.out.g0.1.blk k e).1, L22.out.g0.2 k e⟩
  have F23 : Hid (Four w23 w.heap.size (.int .i64 inp) (.slice al ls.length cl) (.slice aa xs.length ca) (.slice ab bs.length cb)) := hch.four L22.out.fa (fun hk => by have := hblk _ hk; have := HZ7.out; have := HZ8.out; omega)
  have W23 : Hid (Owned w23 w4.heap.size w5.heap.size (.slice a5 m5 c5) nx) := L22.out.w0.chg hch (fun k h1 h2 hk => by have := hblk _ hk; have := HZ7.out; have := HZ8.out; omega)
  have U23 : Hid (Owned w23 w4.heap.size w5.heap.size (.slice b5 k5 e5) bd) := L22.out.w1.chg hch (fun k h1 h2 hk => by have := hblk _ hk; have := HZ7.out; have := HZ8.out; omega)
  have G23 : Hid (IsBits w23 (.slice a9 m9 c9) (markL 1 m9)) := hbits
  have V23 : Hid (Owned w23 n9 w9.heap.size (.slice b9 k9 e9) bd) := L22.out.g1.chg hch (fun k h1 h2 hk => by have := hblk _ hk; omega)
  have B23 : Hid (Below w.heap.size w w23) := Chg.below L22.out.be L22.out.be.size hch (fun k hk => by have := hblk _ hk; have := HZ7.out; have := HZ8.out; omega)
  have HBL : Hid (∀ k, (Value.slice a9 m9 c9).ownBlock = some k → w8.heap.size ≤ k ∧ k < n9) := hblk
  clear hch hbits hblk
  go_wp2_with fail
  refine (mark_from _ n9 b9 k9 e9 bd (1 + (m9 : Int)) V23.out.1 HK9.out hdl (by omega) (by omega)).mono ?_
  rintro e w24 ⟨rfl, hbits, hch⟩
  have hblk : ∀ k, (Value.slice b9 k9 e9).ownBlock = some k → n9 ≤ k := fun k e => (V23.out.1.blk k e).1
  have F24 : Hid (Four w24 w.heap.size (.int .i64 inp) (.slice al ls.length cl) (.slice aa xs.length ca) (.slice ab bs.length cb)) := hch.four F23.out (fun hk => by have := hblk _ hk; have := HZ7.out; have := HZ8.out; have := HN9.out; omega)
  have W24 : Hid (Owned w24 w4.heap.size w5.heap.size (.slice a5 m5 c5) nx) := W23.out.chg hch (fun k h1 h2 hk => by have := hblk _ hk; have := HZ7.out; have := HZ8.out; have := HN9.out; omega)
  have U24 : Hid (Owned w24 w4.heap.size w5.heap.size (.slice b5 k5 e5) bd) := U23.out.chg hch (fun k h1 h2 hk => by have := hblk _ hk; have := HZ7.out; have := HZ8.out; have := HN9.out; omega)
  have G24 : Hid (IsBits w24 (.slice a9 m9 c9) (markL 1 m9)) := G23.out.chg hch (fun k e hk => by have := HBL.out k e; have := hblk k hk; omega)
  have V24 : Hid (IsBits w24 (.slice b9 k9 e9) (markL (1 + (m9 : Int)) k9)) := hbits
  have B24 : Hid (Below w.heap.size w w24) := Chg.below B23.out B23.out.size hch (fun k hk => by have := hblk _ hk; have := HZ7.out; have := HZ8.out; have := HN9.out; omega)
  clear hch hbits hblk
  have dq1 : decide (1 + (m9 : Int) < 0) = false := by simp; omega
  have dq2 : decide (1 + (m9 : Int) + (k9 : Int) < 0) = false := by simp; omega
  go_wp2_with fail
  refine (heldBoolS_any _ m9 1 _ G24.out (by omega) (by omega) (by omega)).mono ?_
  rintro e w' ⟨rfl, hw'⟩
  subst hw'
  go_wp2_with fail
  refine (heldBoolS_any _ k9 (1 + (m9 : Int)) _ V24.out (by omega) (by omega) (by omega)).mono ?_
  rintro e w' ⟨rfl, hw'⟩
  subst hw'
  have c0 := F24.out.c0
  have c1 := F24.out.c1
  have c2 := F24.out.c2
  have c3 := F24.out.c3
  have c4 := F24.out.lt
  go_wp2_with fail
  refine (toAig_any inp al aa ab cl ca cb ls xs bs _ (HC.out _ B24.out) hl ha hb).mono ?_
  rintro e w25 ⟨bl7, ba7, bb7, rfl, hbz, hx1, hx2, hx3, hcz⟩
  have T25 : Hid (Tst w w25 w4.heap.size w5.heap.size (.slice a5 m5 c5) (.slice b5 k5 e5) (.slice a9 m9 c9) (.slice b9 k9 e9) nx bd (markL 1 m9) (markL (1 + (m9 : Int)) k9)) := Tst.below ⟨W24.out, U24.out, G24.out, V24.out, B24.out⟩ hbz
  have D25 : Hid (CirAt w25 bl7 ba7 bb7 ls xs bs) := hcz
  clear hbz hcz hx1 hx2 hx3 c0 c1 c2 c3 c4
  go_wp2_with fail
  refine (toBoolS_any _ lats _ (HLA.out _ T25.out.be) hn1).mono ?_
  rintro e w26 ⟨rfl, hbz, hzz, hrz⟩
  have T26 : Hid (Tst w w26 w4.heap.size w5.heap.size (.slice a5 m5 c5) (.slice b5 k5 e5) (.slice a9 m9 c9) (.slice b9 k9 e9) nx bd (markL 1 m9) (markL (1 + (m9 : Int)) k9)) := T25.out.below hbz
  have D26 : Hid (CirAt w26 bl7 ba7 bb7 ls xs bs) := D25.out.below hbz
  have P26 : Hid (w26.rowIs w25.heap.size 4 lats.length (fun i => .bool (lats.getD i false))) := hrz
  clear hbz hzz hrz
  go_wp2_with fail
  refine (toBoolS_any _ ins _ (HIN.out _ T26.out.be) hn2).mono ?_
  rintro e w27 ⟨rfl, hbz, hzz, hrz⟩
  have T27 : Hid (Tst w w27 w4.heap.size w5.heap.size (.slice a5 m5 c5) (.slice b5 k5 e5) (.slice a9 m9 c9) (.slice b9 k9 e9) nx bd (markL 1 m9) (markL (1 + (m9 : Int)) k9)) := T26.out.below hbz
  have D27 : Hid (CirAt w27 bl7 ba7 bb7 ls xs bs) := D26.out.below hbz
  have P27 : Hid (w27.rowIs w25.heap.size 4 lats.length (fun i => .bool (lats.getD i false))) := P26.out.of_block (hbz.block _ P26.out.lt)
  have Q27 : Hid (w27.rowIs w26.heap.size 4 ins.length (fun i => .bool (ins.getD i false))) := hrz
  clear hbz hzz hrz
  go_wp2_with fail
  refine (implAigStep_any inp _ _ _ _ _ _ ls xs bs _ _ _ _ lats ins _ (D27.out.isCir hl ha hb) (IsBits.of_row (Nat.le_refl _) P27.out (fun i _ => rfl)) (IsBits.of_row (Nat.le_refl _) Q27.out (fun i _ => rfl)) HL64.out HX64.out HB64.out hn1 hn2).mono ?_
  rintro e w28 ⟨a28, m28, c28, b28, k28, e28, n28, rfl, hm28, hk28, hn28, ho28, hlt28, hp28, hb28⟩
  rw [HNX.out] at ho28
  rw [HBD.out] at hp28
  have T28 : Hid (Tst w w28 w4.heap.size w5.heap.size (.slice a5 m5 c5) (.slice b5 k5 e5) (.slice a9 m9 c9) (.slice b9 k9 e9) nx bd (markL 1 m9) (markL (1 + (m9 : Int)) k9)) := T27.out.below hb28
  have X28 : Hid (IsBits w28 (.slice a28 m28 c28) nx) := ho28.isBits
  have Y28 : Hid (IsBits w28 (.slice b28 k28 e28) bd) := hp28.isBits
  clear hb28 ho28 hm28 hk28 hn28 hlt28 hp28
  go_wp2_with fail
  refine (eqBoolS_same _ _ nx _ X28.out T28.out.w0.1.isBits HNM.out).mono ?_
  rintro e w29 ⟨rfl, n29, hwz⟩
  have hbz : Below w28.heap.size w28 w29 := by rw [hwz]; exact below_drewN (Below.refl _ _) _
  have T29 : Hid (Tst w w29 w4.heap.size w5.heap.size (.slice a5 m5 c5) (.slice b5 k5 e5) (.slice a9 m9 c9) (.slice b9 k9 e9) nx bd (markL 1 m9) (markL (1 + (m9 : Int)) k9)) := T28.out.below hbz
  have Y29 : Hid (IsBits w29 (.slice b28 k28 e28) bd) := Y28.out.below hbz
  clear hbz hwz
  go_wp2_with fail
  refine (eqBoolS_same _ _ bd _ Y29.out T29.out.w1.1.isBits HDM.out).mono ?_
  rintro e w30 ⟨rfl, n30, hwz⟩
  have hbz : Below w29.heap.size w29 w30 := by rw [hwz]; exact below_drewN (Below.refl _ _) _
  have T30 : Hid (Tst w w30 w4.heap.size w5.heap.size (.slice a5 m5 c5) (.slice b5 k5 e5) (.slice a9 m9 c9) (.slice b9 k9 e9) nx bd (markL 1 m9) (markL (1 + (m9 : Int)) k9)) := T29.out.below hbz
  clear hbz hwz
  go_wp2_with fail
  refine (heldBoolS_any _ m9 1 _ T30.out.g0 (by omega) (by omega) (by omega)).mono ?_
  rintro e w' ⟨rfl, hw'⟩
  subst hw'
  go_wp2_with fail
  refine (heldBoolS_any _ k9 (1 + (m9 : Int)) _ T30.out.g1 (by omega) (by omega) (by omega)).mono ?_
  rintro e w' ⟨rfl, hw'⟩
  subst hw'
  go_wp2
  go_ret
  exact ⟨rfl, T30.out.be⟩

set_option maxRecDepth 100000 in
theorem fnExactAigStep_lifted (os : Os) (started : os.Started) (H : Type) (enc : TypeId × Value → H) :
    ReturnsInHanded {} Try.checked os 4 .any (Rows.fnExactAigStepSpec.pre6 enc Try.prog Try.f4 Rows.fnExactAigStepRow.domain false) (Rows.fnExactAigStepSpec.post enc Try.prog Try.f4 false true false false) := by
  refine returnsInHanded_of_change (C := Try.checked) own started (by kernel_rfl) Try.func4
    (ChangeSpec.witness6 (enc := enc) (C := Try.checked) false ⟨#[], #[.agg #[.int .i64 0, .slice none 0 0, .slice none 0 0, .slice none 0 0], .slice none 0 0, .slice none 0 0], []⟩ 8 (by kernel_rfl) (by kernel_rfl) (by kernel_rfl) (by kernel_rfl)) ?_
  intro W base args ds gs before hval0 hW hcnd _
  have hval : ∀ (j : Nat) t v, Try.f4.params[j]? = some t → args[j]? = some v → Value.okWide Try.prog W .any base t v := hval0
  have hW' := hW
  obtain ⟨p, q, hA0, hV, rfl, hfz, hnd⟩ := hW
  have hA : DataW.TrodAll enc Try.prog W 0 (fun _ => true) true Try.f4.params.toList args.toList ds p := hA0
  rw [Try.params4] at hA hval
  obtain ⟨v0, vs0, d0, ds0, p0, q0, hargs, rfl, rfl, h0, r0⟩ := trodAll_cons hA
  obtain ⟨v1, vs1, d1, ds1, p1, q1, rfl, rfl, rfl, h1, r1⟩ := trodAll_cons r0
  obtain ⟨v2, vs2, d2, ds2, p2, q2, rfl, rfl, rfl, h2, r2⟩ := trodAll_cons r1
  obtain ⟨rfl, rfl, rfl⟩ := trodAll_nil r2
  obtain rfl : args = #[v0, v1, v2] := by cases args; simp_all
  obtain ⟨rfl, rfl⟩ := trodVars_none hV
  have k0 := h0
  have k1 := h1
  have k2 := h2
  have lt0 : ∀ x ∈ p0, x.block < W.heap.size := by obtain ⟨m, hm⟩ := k0; exact DataW.trod_lt m _ _ _ hm
  have lt1 : ∀ x ∈ p1, x.block < W.heap.size := by obtain ⟨m, hm⟩ := k1; exact DataW.trod_lt m _ _ _ hm
  have lt2 : ∀ x ∈ p2, x.block < W.heap.size := by obtain ⟨m, hm⟩ := k2; exact DataW.trod_lt m _ _ _ hm
  obtain ⟨inp, al, aa, ab, cl, ca, cb, ls, xs, bs, rfl, hC, e1, e2, e3, _⟩ := aig_of_trod (hval 0 26 v0 rfl rfl) h0
  obtain ⟨ao1, len1, cap1, rfl⟩ := okWide_slice Try.underlying27 (hval 1 27 v1 rfl rfl)
  obtain ⟨fuel1, hf1⟩ := h1
  obtain ⟨lats, hla, hlm⟩ := isBits_of_trod (by simpa [Value.cells] using hf1)
  obtain ⟨ao2, len2, cap2, rfl⟩ := okWide_slice Try.underlying27 (hval 2 27 v2 rfl rfl)
  obtain ⟨fuel2, hf2⟩ := h2
  obtain ⟨ins, hin, him⟩ := isBits_of_trod (by simpa [Value.cells] using hf2)
  obtain rfl : len1 = lats.length := by obtain ⟨_, _, he, _⟩ := hla; cases he; rfl
  obtain rfl : len2 = ins.length := by obtain ⟨_, _, he, _⟩ := hin; cases he; rfl
  clear hA0 hval0
  refine (fnExactAigStep_walk inp al aa ab cl ca cb ls xs bs ao1 ao2 cap1 cap2 lats ins W hC hla hin e1 e2 e3 hlm him).mono fun e W' ⟨he, bel⟩ => ?_
  subst he
  exact ⟨_, rfl, _, _, _, [], _, [], hW', trodAll_mk1 (shut_bool Try.underlying4 _),
    (trodAll_cons_mk (Below.trod laidOut (by kernel_rfl) (of_decide_eq_true (by kernel_rfl)) k0 bel lt0) (trodAll_cons_mk (Below.trod laidOut (by kernel_rfl) (of_decide_eq_true (by kernel_rfl)) k1 bel lt1) (trodAll_cons_mk (Below.trod laidOut (by kernel_rfl) (of_decide_eq_true (by kernel_rfl)) k2 bel lt2) trodAll_mk0))), rfl, bel.frame _, fun h => by cases h⟩

theorem fnExactAigStep_holds : Rows.FnExactAigStepSaid :=
  OpenClaim.holds_of_wide 4 Try.f4 rfl rfl rfl rfl rfl rfl rfl ⟨rfl, rfl, rfl, rfl, rfl⟩ rfl rfl rfl rfl rfl (by kernel_rfl) Try.func4 (by kernel_rfl)
    (of_decide_eq_true (by kernel_rfl)) (by unfold Func.isWrapper; first | (rw [if_pos (by decide +kernel)]; kernel_rfl) | (rw [if_neg (by decide +kernel)]; exact ⟨rfl, rfl⟩))
    (fun os started H enc _ => fnExactAigStep_lifted os started H enc)

end Go.Proofs.Ytlahnihpdidanaa

/-
  A drawn circuit with rows of inputs: DrawAigRun.
-/
import Derived.Test.YtgpilkjnhdcamaaCir6
import Derived.Test.YtgpilkjnhdcamaaAigN
namespace Go.Proofs.Ytgpilkjnhdcamaa
open Go.RowKit Go.Deep
set_option linter.unusedVariables false

/-- Rows of truths, all in memory of the call's own. -/
def GridB (w : World) (base : Nat) (v : Value) (xss : List (List Bool)) : Prop :=
  ∃ vs, w.ownsRow base 28 1 v xss.length vs ∧ ∀ i, i < xss.length → ∃ rv, vs[i]? = some rv ∧ Ownb w base rv (xss.getD i [])

theorem GridB.keep {w w' : World} {base : Nat} {v : Value} {xss : List (List Bool)} (h : GridB w base v xss) (hk : ∀ k, base ≤ k → k < w.heap.size → w'.heap[k]? = w.heap[k]?) : GridB w' base v xss := by
  obtain ⟨vs, h1, h2⟩ := h
  refine ⟨vs, row_of_block h1 (fun k e => by have := World.ownsRow.lt h1 k e; exact hk k this.1 this.2), fun i hi => ?_⟩
  obtain ⟨rv, h3, h4⟩ := h2 i hi
  exact ⟨rv, h3, row_of_block h4 (fun k e => by have := World.ownsRow.lt h4 k e; exact hk k this.1 this.2)⟩

theorem GridB.isRows {w : World} {base : Nat} {v : Value} {xss : List (List Bool)} (h : GridB w base v xss) : IsBRows w v xss := by
  obtain ⟨vs, h1, h2⟩ := h
  have h1' := h1
  rcases h1.2 with ⟨h3, h4⟩ | ⟨g, cap, cur, h3, _⟩
  · obtain rfl := List.length_eq_zero_iff.1 h4
    subst h3
    exact ⟨_, _, rfl, fun hne => absurd rfl hne⟩
  · subst h3
    refine ⟨_, _, rfl, fun _ => ⟨g, 0, rfl, fun i hi => ?_⟩⟩
    obtain ⟨rv, h5, h6⟩ := h2 i hi
    refine ⟨rv, ?_, h6.isBits⟩
    rw [Nat.zero_add, World.ownsRow.cellAt h1' i (by omega)]
    exact h5

theorem GridB.room {w : World} {base n cap : Nat} {ao : Option Addr} {xss : List (List Bool)} (h : GridB w base (.slice ao n cap) xss) : n ≤ cap := by
  obtain ⟨vs, h1, _⟩ := h
  rcases h1.2 with ⟨h3, h4⟩ | ⟨g, c, cur, h3, _, _, h5, _⟩
  · injection h3 with e1 e2 e3; omega
  · injection h3 with e1 e2 e3; omega

theorem gridB_empty (w : World) : GridB (w.alloc (.cells #[] 28)) w.heap.size (.slice (some ⟨w.heap.size, 0, none⟩) 0 0) [] :=
  ⟨[], ⟨by simp, .inr ⟨w.heap.size, 0, #[], rfl, Nat.le_refl _, World.alloc_heap_new _ _, Nat.le_refl _, by simp, by simp, by simp⟩⟩, fun i hi => by simp at hi⟩

/-- One row more: what append leaves. -/
theorem GridB.snoc {w w' : World} {base g cap : Nat} {v rv : Value} {xss : List (List Bool)} {vs : List Value} {xs : List Bool} (h1 : w.ownsRow base 28 1 v xss.length vs) (h2 : ∀ i, i < xss.length → ∃ rv, vs[i]? = some rv ∧ Ownb w base rv (xss.getD i []))
    (hx : Ownb w base rv xs) (hg : w.grownBy w' v.ownBlock) (ho : w'.ownsRow base 28 1 (.slice (some ⟨g, 0, none⟩) (xss.length + 1) cap) (xss.length + 1) (vs ++ [rv])) : GridB w' base (.slice (some ⟨g, 0, none⟩) (xss.length + 1) cap) (xss ++ [xs]) := by
  have hkeep : ∀ (rv : Value) (xs : List Bool), Ownb w base rv xs → Ownb w' base rv xs := fun rv xs h =>
    row_of_block h (fun k e => hg.block k (World.ownsRow.lt h k e).2 (fun e2 => rows_apart h h1 (by decide) k e e2.symm))
  have hl : vs.length = xss.length := by simpa using h1.1
  refine ⟨vs ++ [rv], by rw [List.length_append]; exact ho, fun i hi => ?_⟩
  rw [List.length_append] at hi
  by_cases e : i < xss.length
  · obtain ⟨r, h5, h6⟩ := h2 i e
    refine ⟨r, by rw [List.getElem?_append_left (by omega)]; exact h5, ?_⟩
    have : (xss ++ [xs]).getD i [] = xss.getD i [] := by simp [List.getD, List.getElem?_append_left e]
    rw [this]
    exact hkeep _ _ h6
  · have hi' : i = xss.length := by simp at hi; omega
    subst hi'
    refine ⟨rv, by rw [List.getElem?_append_right (by omega), hl]; simp, ?_⟩
    have : (xss ++ [xs]).getD xss.length [] = xs := by simp [List.getD]
    rw [this]
    exact hkeep _ _ hx

theorem sumB_le (xss : List (List Bool)) (m : Nat) (h : ∀ i, i < xss.length → (xss.getD i []).length ≤ m) : sumB xss ≤ m * xss.length := by
  induction xss with
  | nil => simp [sumB]
  | cons a l ih =>
    have h0 := h 0 (by simp)
    have h1 := ih (fun i hi => by have := h (i + 1) (by simp; omega); simpa using this)
    simp [sumB] at h0 h1 ⊢
    rw [Nat.mul_add]
    omega

section
variable {w w1 wr w2 : World} {Q C R : Nat} {v : Value} {bs : List Int} {p : Nat} {inp : Int} {vl va vb : Value} {ls : List (Int × Bool)} {xs : List (Int × Int)} {cs : List Int}

theorem StV.below (h : StV w w1 wr Q C R v bs p inp vl va vb ls xs cs) (hb : Below wr.heap.size wr w2) : StV w w1 w2 Q C R v bs p inp vl va vb ls xs cs :=
  ⟨h.q.of_block (hb.block _ h.q.lt), h.c.of_block (hb.block _ h.c.lt), h.g.below hb, belNext h.bel hb, h.qr, h.cr, h.hR, h.hQ, h.rw1, h.qw1, h.cw1⟩

/-- A row of rows has grown. -/
theorem StV.grow (h : StV w w1 wr Q C R v bs p inp vl va vb ls xs cs) {o : Value} {n : Nat} {vs : List Value} (ho : wr.ownsRow w1.heap.size 28 1 o n vs) (hg : wr.grownBy w2 o.ownBlock) (hvb : ∀ ao n cap b off, v = .slice ao n cap → ao = some ⟨b, off, none⟩ → b < w1.heap.size) : StV w w1 w2 Q C R v bs p inp vl va vb ls xs cs := by
  have hlt : ∀ k, o.ownBlock = some k → w1.heap.size ≤ k := fun k e => (World.ownsRow.lt ho k e).1
  have hw : w.heap.size ≤ w1.heap.size := by have := h.hQ; have := h.qw1; omega
  have hwd := h.wide
  exact ⟨h.q.of_block (hg.block _ h.q.lt (fun e => row_ne_blk ho h.q (by decide) e.symm)), h.c.of_block (hg.block _ h.c.lt (fun e => row_ne_blk ho h.c (by decide) e.symm)),
    ⟨row_of_block h.g.ol (fun k e => hg.block k (World.ownsRow.lt h.g.ol k e).2 (fun e2 => rows_apart h.g.ol ho (by decide) k e e2.symm)), row_of_block h.g.oa (fun k e => hg.block k (World.ownsRow.lt h.g.oa k e).2 (fun e2 => rows_apart h.g.oa ho (by decide) k e e2.symm)),
      row_of_block h.g.ob (fun k e => hg.block k (World.ownsRow.lt h.g.ob k e).2 (fun e2 => rows_apart h.g.ob ho (by decide) k e e2.symm)), h.g.rd.own hg h.rw1 hvb hlt, h.g.old.grown hg h.g.old.size (fun k e => .inl (hlt k e)), h.g.sl, h.g.sa, h.g.sb⟩,
    ⟨hg.os.trans h.bel.os, hg.tape.trans h.bel.tape, hg.output.trans h.bel.output, Nat.le_trans h.bel.size hg.size, fun k hk => (hg.block k (by omega) (fun e => by have := hlt k e.symm; omega)).trans (h.bel.block k hk)⟩,
    h.qr, h.cr, h.hR, h.hQ, h.rw1, h.qw1, h.cw1⟩
end

theorem slice_oneCell (a : Option Addr) (n c : Nat) : ∀ u ∈ [Value.slice a n c], u.oneCell' = true := by intro u hu; simp at hu; subst hu; rfl

theorem grid_set4 {wr : World} {base Q : Nat} {v : Value} {xss : List (List Bool)} (h : GridB wr base v xss) (hQ : Q < base) (a0 a1 a2 a3 : Value) : GridB (set4 wr Q a0 a1 a2 a3) base v xss := by
  obtain ⟨vs, h1, h2⟩ := h
  refine ⟨vs, row_set4 h1 hQ a0 a1 a2 a3, fun i hi => ?_⟩
  obtain ⟨rv, h3, h4⟩ := h2 i hi
  exact ⟨rv, h3, row_set4 h4 hQ a0 a1 a2 a3⟩

def RunPost (w : World) (e : Ending) (w' : World) : Prop :=
  ∃ (inp : Int) (al aa ab : Option Addr) (cl ca cb : Nat) (ls : List (Int × Bool)) (xs : List (Int × Int)) (cs : List Int) (ar : Option Addr) (cr : Nat) (rows : List (List Bool)),
    e = .returned (.tuple #[.agg #[.int .i64 inp, .slice al ls.length cl, .slice aa xs.length ca, .slice ab cs.length cb], .slice ar rows.length cr]) ∧ Drawn w w' inp al aa ab cl ca cb ls xs cs ∧
    IsBRows w' (.slice ar rows.length cr) rows ∧ rows.length ≤ 41 ∧ rows.length ≤ cr ∧ ∀ i, i < rows.length → ((rows.getD i []).length : Int) = if inp < 0 then 0 else inp

theorem rows_snoc {rows : List (List Bool)} {ms : List Bool} {c : Int} (h : ∀ i, i < rows.length → ((rows.getD i []).length : Int) = c) (hm : (ms.length : Int) = c) : ∀ i, i < (rows ++ [ms]).length → (((rows ++ [ms]).getD i []).length : Int) = c := by
  intro i hi
  rw [List.length_append] at hi
  by_cases e : i < rows.length
  · have : (rows ++ [ms]).getD i [] = rows.getD i [] := by simp [List.getD, List.getElem?_append_left e]
    rw [this]; exact h i e
  · have hi' : i = rows.length := by simp at hi; omega
    subst hi'
    have : (rows ++ [ms]).getD rows.length [] = ms := by simp [List.getD]
    rw [this]; exact hm

set_option maxRecDepth 100000 in
set_option maxHeartbeats 8000000 in
theorem drawAigRun_any (v : Value) (bs : List Int) (w : World) (hv : IsBytes w v bs) (hn : bs.length ≤ 1048576) (hal : ∀ ao n cap b off, v = .slice ao n cap → ao = some ⟨b, off, none⟩ → b < w.heap.size) :
    Calls Try.prog 20 #[v] w (RunPost w) := by
  have HV : Hid (IsBytes (w.alloc (.cells #[.int .i64 0, .slice none 0 0, .slice none 0 0, .slice none 0 0] 27)) v bs) := by
    obtain ⟨ao, cap, h1, h2, h3, h4⟩ := hv
    refine ⟨ao, cap, h1, h2, fun hne => ?_, h4⟩
    obtain ⟨b, off, ha, hc⟩ := h3 hne
    exact ⟨b, off, ha, fun i hi => by rw [World.cell?_alloc_lt w _ _ (cell_lt (a := ⟨b, off + i, none⟩) (hc i hi))]; exact hc i hi⟩
  have HAL : Hid (∀ ao n cap b off, v = .slice ao n cap → ao = some ⟨b, off, none⟩ → b < w.heap.size) := hal
  obtain ⟨ao0, cap0, rfl, _⟩ := hv
  obtain ⟨i0, hi, hz0, hz1, hz2⟩ := info_parts info_bools
  clear hal
  go_enter Try.func20, Try.ntmps20
  go_wp2_with fail
  refine (l1Open_any w.heap.size _ bs _ HV.out hn HAL.out).mono ?_
  rintro e w1 ⟨v', bs', rfl, hrd1, hb1, hs1, hvb1⟩
  have hs1' : w1.heap.size = w.heap.size + 2 := by simpa using hs1
  have hrd1' : Rd w1 (w.heap.size + 1) v' bs' 0 := by simpa using hrd1
  have HRD1 : Hid (Rd w1 (w.heap.size + 1) v' bs' 0) := hrd1'
  have HQ1 : Hid (Blk4 w1 w.heap.size (.int .i64 0) (.slice none 0 0) (.slice none 0 0) (.slice none 0 0)) := (Blk4.new w _ _ _ _).of_block (hb1.block _ (by simp))
  have HB1 : Hid (Below w.heap.size w w1) := belNext (belOne _ _) hb1
  have HVB : Hid (∀ ao n cap b off, v' = .slice ao n cap → ao = some ⟨b, off, none⟩ → b < w.heap.size) := hvb1
  have HS1 : Hid (w1.heap.size = w.heap.size + 2) := hs1'
  have HVW : Hid (∀ ao n cap b off, v' = .slice ao n cap → ao = some ⟨b, off, none⟩ → b < w1.heap.size) := fun ao n cap b off h1 h2 => by have := HVB.out ao n cap b off h1 h2; have := HS1.out; omega
  clear hrd1 hrd1' hb1 hs1 hvb1 hs1'
  go_wp2_with fail
  refine (l13AnyAig_any (w.heap.size + 1) v' bs' 0 _ HRD1.out HVW.out (by omega)).mono ?_
  rintro e w2 ⟨inp, al, aa, ab, cl, ca, cb, ls, xs, cs, p2, rfl, hi0, hi1, hll, hla, hlb, hp2, hgot⟩
  have HS2 : Hid (StV w w1 (w2.alloc (.cells #[.int .i64 inp, .slice al ls.length cl, .slice aa xs.length ca, .slice ab cs.length cb] 27)) w.heap.size w2.heap.size (w.heap.size + 1) v' bs' p2 inp (.slice al ls.length cl) (.slice aa xs.length ca) (.slice ab cs.length cb) ls xs cs) := by
    have h1 := HS1.out
    have h2 := hgot.old.size
    have hb := belOne w2 (.cells #[.int .i64 inp, .slice al ls.length cl, .slice aa xs.length ca, .slice ab cs.length cb] 27)
    exact ⟨(HQ1.out.of_block (hgot.old.2.2.2.2 _ (by omega) (by omega))).of_block (hb.block _ (by omega)), Blk4.new w2 _ _ _ _, hgot.below hb,
      belNext ⟨hgot.old.1.trans HB1.out.os, hgot.old.2.1.trans HB1.out.tape, hgot.old.2.2.1.trans HB1.out.output, by omega, fun k hk => (hgot.old.2.2.2.2 k (by omega) (by omega)).trans (HB1.out.block k hk)⟩ hb,
      by omega, by omega, by omega, Nat.le_refl _, by omega, by omega, by omega⟩
  clear hgot
  obtain ⟨W2, hW2⟩ : ∃ W2, W2 = w2.alloc (.cells #[.int .i64 inp, .slice al ls.length cl, .slice aa xs.length ca, .slice ab cs.length cb] 27) := ⟨_, rfl⟩
  have HW2 : Hid (W2 = w2.alloc (.cells #[.int .i64 inp, .slice al ls.length cl, .slice aa xs.length ca, .slice ab cs.length cb] 27)) := hW2
  rw [← hW2] at HS2
  have hz2' : W2.heap.size = w2.heap.size + 1 := by rw [hW2]; simp
  clear hW2
  have HS3 : Hid (StV w w1 (W2.alloc (.cells #[] 28)) w.heap.size w2.heap.size (w.heap.size + 1) v' bs' p2 inp (.slice al ls.length cl) (.slice aa xs.length ca) (.slice ab cs.length cb) ls xs cs) := HS2.out.below (belOne _ _)
  have HG3 : Hid (GridB (W2.alloc (.cells #[] 28)) W2.heap.size (.slice (some ⟨W2.heap.size, 0, none⟩) 0 0) []) := gridB_empty W2
  go_wp2_with fail
  rw [← HW2.out]
  refine (pick_any (w.heap.size + 1) v' bs' p2 _ _ HS3.out.g.rd (by omega) (by omega)).mono ?_
  rintro e w4 ⟨n0, rfl, hn0, hn1, hn2, hrd4, hg4, hs4⟩
  have HS4 : Hid (StV w w1 w4 w.heap.size w2.heap.size (w.heap.size + 1) v' bs' (p2 + 1) inp (.slice al ls.length cl) (.slice aa xs.length ca) (.slice ab cs.length cb) ls xs cs) := HS3.out.pick hrd4 hg4
  have hww := HS2.out.wide
  have HG4 : Hid (GridB w4 w1.heap.size (.slice (some ⟨W2.heap.size, 0, none⟩) 0 0) []) := by
    obtain ⟨vs, h1, h2⟩ := HG3.out
    exact (show GridB _ w1.heap.size _ _ from ⟨vs, row_base h1 hww, fun i hi => by simp at hi⟩).keep (fun k hk hlt => hg4.block k hlt (fun e => by have := Option.some.inj e; have := HS2.out.rw1; omega))
  have hn8 : n0 < 9 := hn1 (by omega)
  clear hrd4 hg4 hs4 hn1 hn2
  go_wp2_with fail
  refine (pick_any (w.heap.size + 1) v' bs' (p2 + 1) _ _ HS4.out.g.rd (by omega) (by omega)).mono ?_
  rintro e w5 ⟨z5, rfl, hz50, hz51, hz52, hrd5, hg5, hs5⟩
  have HS5 : Hid (StV w w1 w5 w.heap.size w2.heap.size (w.heap.size + 1) v' bs' (p2 + 2) inp (.slice al ls.length cl) (.slice aa xs.length ca) (.slice ab cs.length cb) ls xs cs) := HS4.out.pick hrd5 hg5
  have HG5 : Hid (GridB w5 w1.heap.size (.slice (some ⟨W2.heap.size, 0, none⟩) 0 0) []) := HG4.out.keep (fun k hk hlt => hg5.block k hlt (fun e => by have := Option.some.inj e; have := HS2.out.rw1; omega))
  clear hrd5 hg5 hs5 hz51 hz52
  cases hzb : (z5 == 0)
  · have hk0 : n0 ≤ 41 := by omega
    go_wp2_with fail
    go_loopw [6, 7] (fun o m wr => ∃ (ao : Option Addr) (cap : Nat) (rows : List (List Bool)) (k : Int) (px : Nat), o = .slice ao rows.length cap ∧ m = .int .i64 k ∧ (rows.length : Int) + k ≤ 41 ∧ rows.length ≤ 41 ∧ px ≤ 303 + 100 * rows.length ∧ Hid (∀ i, i < rows.length → ((rows.getD i []).length : Int) = if inp < 0 then 0 else inp) ∧ GridB wr w1.heap.size (.slice ao rows.length cap) rows ∧ StV w w1 wr w.heap.size w2.heap.size (w.heap.size + 1) v' bs' px inp (.slice al ls.length cl) (.slice aa xs.length ca) (.slice ab cs.length cb) ls xs cs) (fun _ m _ => (intOf m).toNat)
    case atStart => exact ⟨_, 0, [], n0, _, rfl, rfl, by simp; omega, by simp, by simp; omega, fun i hi => by simp at hi, by have h := HG5.out; rw [hz2'] at h; exact h, HS5.out⟩
    case round =>
      obtain ⟨ao, cap, rows, k, px, rfl, rfl, hlen, hr41, hpx, HRL, hgr, hst⟩ := hrel
      have HSR : Hid (StV w w1 wr w.heap.size w2.heap.size (w.heap.size + 1) v' bs' px inp (.slice al ls.length cl) (.slice aa xs.length ca) (.slice ab cs.length cb) ls xs cs) := hst
      have HGR : Hid (GridB wr w1.heap.size (.slice ao rows.length cap) rows) := hgr
      have hwd := hst.wide
      have c0 := hst.c.c0
      have c4 := hst.c.lt
      clear hst hgr
      by_cases hk : 0 < k
      · by_cases hneg : inp < 0
        all_goals
          go_wp2_with fail
          refine (l13Model_any (w.heap.size + 1) v' bs' px _ _ HSR.out.g.rd (fun ao n cap b off h1 h2 => by have := HVW.out ao n cap b off h1 h2; omega) (by omega) (by omega)).mono ?_
          rintro e w7 ⟨am, cm, ms, p7, rfl, hown7, hl7, hn7, hp7, hrd7, hold7⟩
          have HS7 : Hid (StV w w1 w7 w.heap.size w2.heap.size (w.heap.size + 1) v' bs' p7 inp (.slice al ls.length cl) (.slice aa xs.length ca) (.slice ab cs.length cb) ls xs cs) := HSR.out.more hrd7 hold7
          have HG7 : Hid (GridB w7 w1.heap.size (.slice ao rows.length cap) rows) := HGR.out.keep (fun k hk hlt => hold7.2.2.2.2 k hlt (by have := HSR.out.rw1; omega))
          have HM7 : Hid (Ownb w7 w1.heap.size (.slice am ms.length cm) ms) := hown7.base hwd
          have HL7 : Hid ((ms.length : Int) = if inp < 0 then 0 else inp) := by show (ms.length : Int) = _; first | (rw [if_pos (by omega)]; exact hn7 (by omega)) | (rw [if_neg (by omega)]; exact hn7 (by omega))
          have hwd7 := HS7.out.wide
          obtain ⟨vs, h1, h2⟩ := HG7.out
          have HV1 : Hid (w7.ownsRow w1.heap.size 28 1 (.slice ao rows.length cap) rows.length vs) := h1
          have HV2 : Hid (∀ i, i < rows.length → ∃ rv, vs[i]? = some rv ∧ Ownb w7 w1.heap.size rv (rows.getD i [])) := h2
          clear hown7 hn7 hrd7 hold7 h1 h2 c0 c4
          go_wp2_with (at_builtin; refine wpList_append_lies _ rfl _ _ 41 rfl w1.heap.size 28 i0 (.slice none 0 0) 1 24 Try.underlying41 hi hz0 hz1 hz2 rfl (by decide) _ rows.length vs rfl (World.ownsRow.alloc HV1.out _) ⟨w7.heap.size, 0, none⟩ 1 1 [.slice am ms.length cm] rfl rfl (news1 _ _ _) (slice_oneCell _ _ _) (by decide) (by unfold maxLen; omega) (by omega) (by simp; omega) _ rfl ?_; intro g gcap w8 hown8 hgrow8 hat8 hlt8)
          have HS8 : Hid (StV w w1 w8 w.heap.size w2.heap.size (w.heap.size + 1) v' bs' p7 inp (.slice al ls.length cl) (.slice aa xs.length ca) (.slice ab cs.length cb) ls xs cs) := (HS7.out.below (belOne _ _)).grow (World.ownsRow.alloc HV1.out _) hgrow8 HVW.out
          have HG8 : Hid (GridB w8 w1.heap.size (.slice (some ⟨g, 0, none⟩) (rows.length + 1) gcap) (rows ++ [ms])) := GridB.snoc (World.ownsRow.alloc HV1.out _) (fun i hi => by obtain ⟨rv, h1, h2⟩ := HV2.out i hi; exact ⟨rv, h1, h2.below (belOne _ _)⟩) (HM7.out.below (belOne _ _)) hgrow8 hown8
          clear hown8 hgrow8 hat8 hlt8
          go_wp2
          go_roundw
          case rel => exact ⟨some ⟨g, 0, none⟩, gcap, rows ++ [ms], k - 1, p7, by simp, by go_num, by simp; omega, by simp; omega, by simp; omega, rows_snoc HRL.out HL7.out, by rw [List.length_append]; exact HG8.out, HS8.out⟩
          case measure => simp [intOf]; omega
      · have d1 := HSR.out.c.c1
        have d2 := HSR.out.c.c2
        have d3 := HSR.out.c.c3
        have m3 := HSR.out.q.c0
        have m4 := HSR.out.q.c1
        have m5 := HSR.out.q.c2
        have m6 := HSR.out.q.c3
        have m7 := HSR.out.q.lt
        have m8 := HSR.out.q.f 0
        have m9 := HSR.out.q.f 1
        have m10 := HSR.out.q.f 2
        have m11 := HSR.out.q.f 3
        have hqq := (((HSR.out.q.set0 (.int .i64 inp)).set1 (.slice al ls.length cl)).set2 (.slice aa xs.length ca)).set3 (.slice ab cs.length cb)
        have u0 := hqq.c0
        have u1 := hqq.c1
        have u2 := hqq.c2
        have u3 := hqq.c3
        have HDN := hideD (drawn_of HSR.out hi0 hi1 hll hla hlb (.int .i64 inp) (.slice al ls.length cl) (.slice aa xs.length ca) (.slice ab cs.length cb))
        have HDR := hideD (grid_set4 HGR.out HSR.out.qw1 (.int .i64 inp) (.slice al ls.length cl) (.slice aa xs.length ca) (.slice ab cs.length cb)).isRows
        have HRM : Hid (rows.length ≤ cap) := HGR.out.room
        clear hqq
        go_wp2
        exact bodyPost_ret (v := .tuple #[.agg #[.int .i64 inp, .slice al ls.length cl, .slice aa xs.length ca, .slice ab cs.length cb], .slice ao rows.length cap]) (by simp [results, Try.results20, go_sem, u0, u1, u2, u3]) rfl ⟨inp, al, aa, ab, cl, ca, cb, ls, xs, cs, ao, cap, rows, rfl, HDN.out, HDR.out, hr41, HRM.out, HRL.out⟩
  · go_wp2_with fail
    refine (pick_any (w.heap.size + 1) v' bs' (p2 + 2) _ _ HS5.out.g.rd (by omega) (by omega)).mono ?_
    rintro e w6 ⟨z6, rfl, hz60, hz61, hz62, hrd6, hg6, hs6⟩
    have HS6 : Hid (StV w w1 w6 w.heap.size w2.heap.size (w.heap.size + 1) v' bs' (p2 + 3) inp (.slice al ls.length cl) (.slice aa xs.length ca) (.slice ab cs.length cb) ls xs cs) := HS5.out.pick hrd6 hg6
    have HG6 : Hid (GridB w6 w1.heap.size (.slice (some ⟨W2.heap.size, 0, none⟩) 0 0) []) := HG5.out.keep (fun k hk hlt => hg6.block k hlt (fun e => by have := Option.some.inj e; have := HS2.out.rw1; omega))
    have hz63 : z6 < 2 := hz61 (by omega)
    clear hrd6 hg6 hs6 hz61 hz62
    go_wp2_with fail
    go_loopw [6, 7] (fun o m wr => ∃ (ao : Option Addr) (cap : Nat) (rows : List (List Bool)) (k : Int) (px : Nat), o = .slice ao rows.length cap ∧ m = .int .i64 k ∧ (rows.length : Int) + k ≤ 41 ∧ rows.length ≤ 41 ∧ px ≤ 303 + 100 * rows.length ∧ Hid (∀ i, i < rows.length → ((rows.getD i []).length : Int) = if inp < 0 then 0 else inp) ∧ GridB wr w1.heap.size (.slice ao rows.length cap) rows ∧ StV w w1 wr w.heap.size w2.heap.size (w.heap.size + 1) v' bs' px inp (.slice al ls.length cl) (.slice aa xs.length ca) (.slice ab cs.length cb) ls xs cs) (fun _ m _ => (intOf m).toNat)
    case atStart => exact ⟨_, 0, [], (40 + z6), _, rfl, rfl, by simp; omega, by simp, by simp; omega, fun i hi => by simp at hi, by have h := HG6.out; rw [hz2'] at h; exact h, HS6.out⟩
    case round =>
      obtain ⟨ao, cap, rows, k, px, rfl, rfl, hlen, hr41, hpx, HRL, hgr, hst⟩ := hrel
      have HSR : Hid (StV w w1 wr w.heap.size w2.heap.size (w.heap.size + 1) v' bs' px inp (.slice al ls.length cl) (.slice aa xs.length ca) (.slice ab cs.length cb) ls xs cs) := hst
      have HGR : Hid (GridB wr w1.heap.size (.slice ao rows.length cap) rows) := hgr
      have hwd := hst.wide
      have c0 := hst.c.c0
      have c4 := hst.c.lt
      clear hst hgr
      by_cases hk : 0 < k
      · by_cases hneg : inp < 0
        all_goals
          go_wp2_with fail
          refine (l13Model_any (w.heap.size + 1) v' bs' px _ _ HSR.out.g.rd (fun ao n cap b off h1 h2 => by have := HVW.out ao n cap b off h1 h2; omega) (by omega) (by omega)).mono ?_
          rintro e w7 ⟨am, cm, ms, p7, rfl, hown7, hl7, hn7, hp7, hrd7, hold7⟩
          have HS7 : Hid (StV w w1 w7 w.heap.size w2.heap.size (w.heap.size + 1) v' bs' p7 inp (.slice al ls.length cl) (.slice aa xs.length ca) (.slice ab cs.length cb) ls xs cs) := HSR.out.more hrd7 hold7
          have HG7 : Hid (GridB w7 w1.heap.size (.slice ao rows.length cap) rows) := HGR.out.keep (fun k hk hlt => hold7.2.2.2.2 k hlt (by have := HSR.out.rw1; omega))
          have HM7 : Hid (Ownb w7 w1.heap.size (.slice am ms.length cm) ms) := hown7.base hwd
          have HL7 : Hid ((ms.length : Int) = if inp < 0 then 0 else inp) := by show (ms.length : Int) = _; first | (rw [if_pos (by omega)]; exact hn7 (by omega)) | (rw [if_neg (by omega)]; exact hn7 (by omega))
          have hwd7 := HS7.out.wide
          obtain ⟨vs, h1, h2⟩ := HG7.out
          have HV1 : Hid (w7.ownsRow w1.heap.size 28 1 (.slice ao rows.length cap) rows.length vs) := h1
          have HV2 : Hid (∀ i, i < rows.length → ∃ rv, vs[i]? = some rv ∧ Ownb w7 w1.heap.size rv (rows.getD i [])) := h2
          clear hown7 hn7 hrd7 hold7 h1 h2 c0 c4
          go_wp2_with (at_builtin; refine wpList_append_lies _ rfl _ _ 41 rfl w1.heap.size 28 i0 (.slice none 0 0) 1 24 Try.underlying41 hi hz0 hz1 hz2 rfl (by decide) _ rows.length vs rfl (World.ownsRow.alloc HV1.out _) ⟨w7.heap.size, 0, none⟩ 1 1 [.slice am ms.length cm] rfl rfl (news1 _ _ _) (slice_oneCell _ _ _) (by decide) (by unfold maxLen; omega) (by omega) (by simp; omega) _ rfl ?_; intro g gcap w8 hown8 hgrow8 hat8 hlt8)
          have HS8 : Hid (StV w w1 w8 w.heap.size w2.heap.size (w.heap.size + 1) v' bs' p7 inp (.slice al ls.length cl) (.slice aa xs.length ca) (.slice ab cs.length cb) ls xs cs) := (HS7.out.below (belOne _ _)).grow (World.ownsRow.alloc HV1.out _) hgrow8 HVW.out
          have HG8 : Hid (GridB w8 w1.heap.size (.slice (some ⟨g, 0, none⟩) (rows.length + 1) gcap) (rows ++ [ms])) := GridB.snoc (World.ownsRow.alloc HV1.out _) (fun i hi => by obtain ⟨rv, h1, h2⟩ := HV2.out i hi; exact ⟨rv, h1, h2.below (belOne _ _)⟩) (HM7.out.below (belOne _ _)) hgrow8 hown8
          clear hown8 hgrow8 hat8 hlt8
          go_wp2
          go_roundw
          case rel => exact ⟨some ⟨g, 0, none⟩, gcap, rows ++ [ms], k - 1, p7, by simp, by go_num, by simp; omega, by simp; omega, by simp; omega, rows_snoc HRL.out HL7.out, by rw [List.length_append]; exact HG8.out, HS8.out⟩
          case measure => simp [intOf]; omega
      · have d1 := HSR.out.c.c1
        have d2 := HSR.out.c.c2
        have d3 := HSR.out.c.c3
        have m3 := HSR.out.q.c0
        have m4 := HSR.out.q.c1
        have m5 := HSR.out.q.c2
        have m6 := HSR.out.q.c3
        have m7 := HSR.out.q.lt
        have m8 := HSR.out.q.f 0
        have m9 := HSR.out.q.f 1
        have m10 := HSR.out.q.f 2
        have m11 := HSR.out.q.f 3
        have hqq := (((HSR.out.q.set0 (.int .i64 inp)).set1 (.slice al ls.length cl)).set2 (.slice aa xs.length ca)).set3 (.slice ab cs.length cb)
        have u0 := hqq.c0
        have u1 := hqq.c1
        have u2 := hqq.c2
        have u3 := hqq.c3
        have HDN := hideD (drawn_of HSR.out hi0 hi1 hll hla hlb (.int .i64 inp) (.slice al ls.length cl) (.slice aa xs.length ca) (.slice ab cs.length cb))
        have HDR := hideD (grid_set4 HGR.out HSR.out.qw1 (.int .i64 inp) (.slice al ls.length cl) (.slice aa xs.length ca) (.slice ab cs.length cb)).isRows
        have HRM : Hid (rows.length ≤ cap) := HGR.out.room
        clear hqq
        go_wp2
        exact bodyPost_ret (v := .tuple #[.agg #[.int .i64 inp, .slice al ls.length cl, .slice aa xs.length ca, .slice ab cs.length cb], .slice ao rows.length cap]) (by simp [results, Try.results20, go_sem, u0, u1, u2, u3]) rfl ⟨inp, al, aa, ab, cl, ca, cb, ls, xs, cs, ao, cap, rows, rfl, HDN.out, HDR.out, hr41, HRM.out, HRL.out⟩

end Go.Proofs.Ytgpilkjnhdcamaa

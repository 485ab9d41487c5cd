/-
  A circuit without what is needless: the program's withoutAlike.
-/
import Derived.Test.YtbdjdgamnnifjaaLess12
namespace Go.Proofs.Ytbdjdgamnnifjaa
open Go.RowKit Go.Deep Go.Shelf
set_option linter.unusedVariables false

attribute [local go_sem] Oper.semAt_some

/-- What a region comes to, if it runs through. -/
def onlyN (Q : Exit → Act → World → Prop) : Exit → Act → World → Prop
  | .normal, a, w => Q .normal a w
  | _, _, _ => False

theorem region_SN {P : Program} {ops : Array Oper} {Q : Exit → Act → World → Prop} {S : World → Prop} {id fin : Nat} {a : Act} {w : World} (hm : P.follows .mixedOrders = true) (hS : S w.drew)
    (h : S w.drew → wpAnyS P .any ops (onlyN Q) S fin ops.size (Array.replicate ops.size false) a w.drew) : (Code.region id ops true).wp P Q a w :=
  wp_mono (region_S hm hS h) (fun e a w h => by cases e <;> first | exact h | exact h.elim)

theorem row_ne {w : World} {lo : Nat} {e : TypeId} {sz n : Nat} {v : Value} {zs : List Value} (h : w.ownsRow lo e sz v n zs) {k : Nat} {cs : Array Value} {t : TypeId} {fz : Nat × Nat} (hk : w.heap[k]? = some (.cells cs t fz)) (ht : t ≠ e) : v.ownBlock ≠ some k := fun e2 => by
  rcases h.2 with ⟨h5, _⟩ | ⟨g, cap, cur, h5, _, hh, _⟩
  · rw [h5] at e2; cases e2
  · rw [h5] at e2
    have e' : g = k := Option.some.inj e2
    subst e'
    rw [hh] at hk
    injection hk with hk
    injection hk with _ hk
    exact ht hk.symm

theorem Bld.ne {w : World} {Bb Bm lo F : Nat} {va : Value} {D : DataW Nat} {xs : List (Int × Int)} (h : Bld w Bb Bm lo F va D xs) {k : Nat} {cs : Array Value} {t : TypeId} {fz : Nat × Nat} (hk : w.heap[k]? = some (.cells cs t fz)) (h1 : t ≠ 128) (h2 : t ≠ 65) : ¬ (k = Bb ∨ k = Bm ∨ va.ownBlock = some k) := by
  rintro (rfl | rfl | e)
  · have h3 := h.box
    rw [hk] at h3
    injection h3 with h3
    injection h3 with _ h3
    exact h1 h3
  · obtain ⟨es, ck, hm, _⟩ := h.map
    rw [hk] at hm
    cases hm
  · exact row_ne h.row hk h2 e

/-- While ands are folded: the circuit's box A, the answer's Q, the iterator's N, the builder, its variable P, the variable T of what nodes have become. -/
structure Alk (w wr : World) (A Q N Bb Bm P T : Nat) (inp : Int) (c1 c2 c3 : Value) (F : Nat) (va : Value) (D : DataW Nat) (xs : List (Int × Int)) (vt : Value) (to : List Int) : Prop where
  a : Own4 wr A 33 (.int .i64 inp) c1 c2 c3
  q : Own4 wr Q 33 (.int .i64 0) (.slice none 0 0) (.slice none 0 0) (.slice none 0 0)
  n : Own4 wr N 33 (.int .i64 inp) c1 c2 c3
  b : Bld wr Bb Bm w.heap.size F va D xs
  p : wr.heap[P]? = some (.cells #[.pointer (some ⟨Bb, 0, none⟩)] 125 (0, 0))
  t : wr.heap[T]? = some (.cells #[vt] 121 (0, 0))
  r : wr.ownsRow w.heap.size 79 1 vt to.length (intV to)
  bel : Below w.heap.size w wr
  wb : w.heap.size ≤ Bb
  wm : w.heap.size ≤ Bm
  wt : w.heap.size ≤ T

theorem Alk.below {w wr w' : World} {A Q N Bb Bm P T : Nat} {inp : Int} {c1 c2 c3 : Value} {F : Nat} {va : Value} {D : DataW Nat} {xs : List (Int × Int)} {vt : Value} {to : List Int} (h : Alk w wr A Q N Bb Bm P T inp c1 c2 c3 F va D xs vt to) (hb : Below wr.heap.size wr w') : Alk w w' A Q N Bb Bm P T inp c1 c2 c3 F va D xs vt to :=
  ⟨h.a.below hb, h.q.below hb, h.n.below hb, h.b.below hb, (hb.block P (Array.getElem?_eq_some_iff.1 h.p).1).trans h.p, (hb.block T (Array.getElem?_eq_some_iff.1 h.t).1).trans h.t, row_below h.r hb, belNext h.bel hb, h.wb, h.wm, h.wt⟩

theorem isInts_rowM {wr : World} {cs : List Int} {base cap : Nat} {ao : Option Addr} (h : wr.ownsRow base 79 1 (.slice ao cs.length cap) cs.length (intV cs)) : IsInts wr (.slice ao cs.length cap) cs := by
  refine ⟨ao, cap, rfl, fun hne => ?_⟩
  obtain ⟨g, c', h1, h2, h3⟩ := World.ownsRow.form h (List.length_pos_iff.2 hne)
  injection h1 with e1 e2 e3
  exact ⟨g, 0, e1, fun i hi => by subst e1; rw [Nat.zero_add]; exact (World.ownsRow.cellAt h i (by omega)).trans (by simp [intV, List.getD, hi])⟩

theorem row_cells {w : World} {lo : Nat} {e : TypeId} {sz n : Nat} {v : Value} {zs : List Value} (h : w.ownsRow lo e sz v n zs) {k : Nat} (hk : v.ownBlock = some k) : ∃ cs, w.heap[k]? = some (.cells cs e (0, 0)) := by
  rcases h.2 with ⟨h5, _⟩ | ⟨g, cap, cur, h5, _, hh, _⟩
  · rw [h5] at hk; cases hk
  · rw [h5] at hk
    have e' : g = k := Option.some.inj hk
    subst e'
    exact ⟨_, hh⟩

section
variable {w wr w1 w' : World} {A Q N Bb Bm P T : Nat} {inp : Int} {c1 c2 c3 : Value} {F : Nat} {va va' : Value} {D D' : DataW Nat} {xs xs' : List (Int × Int)} {vt vt' : Value} {to : List Int}

theorem Own4.eq {w : World} {b : Nat} {t : TypeId} {a0 a1 a2 a3 : Value} (h : Own4 w b t a0 a1 a2 a3) : w.heap[b]? = some (.cells #[a0, a1, a2, a3] t (0, 0)) := h

/-- The builder has gone on. -/
theorem Alk.and (h : Alk w wr A Q N Bb Bm P T inp c1 c2 c3 F va D xs vt to) (hb : Bld w' Bb Bm w.heap.size F va' D' xs') (hc : Chg (fun k => k = Bb ∨ k = Bm ∨ va.ownBlock = some k) wr w') : Alk w w' A Q N Bb Bm P T inp c1 c2 c3 F va' D' xs' vt to := by
  refine ⟨(hc.block A h.a.lt (h.b.ne h.a (by decide) (by decide))).trans h.a, (hc.block Q h.q.lt (h.b.ne h.q (by decide) (by decide))).trans h.q, (hc.block N h.n.lt (h.b.ne h.n (by decide) (by decide))).trans h.n, hb,
    (hc.block P (Array.getElem?_eq_some_iff.1 h.p).1 (h.b.ne h.p (by decide) (by decide))).trans h.p, (hc.block T (Array.getElem?_eq_some_iff.1 h.t).1 (h.b.ne h.t (by decide) (by decide))).trans h.t,
    row_of_block h.r (fun k e => ?_), Chg.below h.bel h.bel.size hc (fun k e => ?_), h.wb, h.wm, h.wt⟩
  · obtain ⟨cs, hcs⟩ := row_cells h.r e
    exact hc.block k (Array.getElem?_eq_some_iff.1 hcs).1 (h.b.ne hcs (by decide) (by decide))
  · rcases e with rfl | rfl | e
    · exact h.wb
    · exact h.wm
    · exact (World.ownsRow.lt h.b.row k e).1

theorem Alk.andKeeps (h : Alk w wr A Q N Bb Bm P T inp c1 c2 c3 F va D xs vt to) (hc : Chg (fun k => k = Bb ∨ k = Bm ∨ va.ownBlock = some k) wr w') {base : Nat} (hm : Bm < base) : KeepsFrom base wr w' ∧ KpA w.heap.size N wr w' := by
  refine ⟨⟨hc.size, fun k o hk ho hn => (hc.block k (Array.getElem?_eq_some_iff.1 ho).1 ?_).trans ho⟩, Chg.below (Below.refl _ _) h.bel.size hc (fun k e => ?_), hc.block N h.n.lt (h.b.ne h.n (by decide) (by decide))⟩
  · rintro (rfl | rfl | e)
    · rw [h.b.box] at ho; cases ho; cases hn
    · omega
    · obtain ⟨cs, hcs⟩ := row_cells h.b.row e
      rw [hcs] at ho; cases ho; cases hn
  · rcases e with rfl | rfl | e
    · exact h.wb
    · exact h.wm
    · exact (World.ownsRow.lt h.b.row k e).1

/-- One node more has become something. -/
theorem Alk.push (h : Alk w wr A Q N Bb Bm P T inp c1 c2 c3 F va D xs vt to) (hb : Below wr.heap.size wr w1) (hg : w1.grownBy w' vt.ownBlock) {r : Int} (hr : w'.ownsRow w.heap.size 79 1 vt' (to.length + 1) (intV (to ++ [r]))) :
    Alk w (w'.setCell ⟨T, 0, none⟩ vt') A Q N Bb Bm P T inp c1 c2 c3 F va D xs vt' (to ++ [r]) ∧ KeepsOthers wr (w'.setCell ⟨T, 0, none⟩ vt') ∧ KpA w.heap.size N wr (w'.setCell ⟨T, 0, none⟩ vt') := by
  have g := h.below hb
  have key : ∀ {k : Nat} {cs : Array Value} {t : TypeId} {fz : Nat × Nat}, w1.heap[k]? = some (.cells cs t fz) → t ≠ 79 → w'.heap[k]? = some (.cells cs t fz) := fun hk ht => (hg.block _ (Array.getElem?_eq_some_iff.1 hk).1 (fun e => row_ne g.r hk ht e.symm)).trans hk
  have hT := key g.t (by decide)
  have key2 : ∀ {k : Nat} {cs : Array Value} {t : TypeId} {fz : Nat × Nat}, w1.heap[k]? = some (.cells cs t fz) → t ≠ 79 → t ≠ 121 → (w'.setCell ⟨T, 0, none⟩ vt').heap[k]? = some (.cells cs t fz) := fun hk ht ht2 => by
    have hk' := key hk ht
    refine (blk_setCell_other _ _ _ _ (fun e => ?_)).trans hk'
    have e' : _ = T := e
    rw [e', hT] at hk'
    injection hk' with hk'
    injection hk' with _ hk'
    exact ht2 hk'.symm
  obtain ⟨es, ck, hm, hm2⟩ := g.b.map
  have hmn : vt.ownBlock ≠ some Bm := fun e => by
    obtain ⟨cs, hcs⟩ := row_cells g.r e
    rw [hcs] at hm; cases hm
  have hmx : w'.heap[Bm]? = some (.map es ck) := (hg.block _ (Array.getElem?_eq_some_iff.1 hm).1 (fun e => hmn e.symm)).trans hm
  have hmT : Bm ≠ T := fun e => by rw [e, hT] at hmx; cases hmx
  have hmy := (blk_setCell_other w' ⟨T, 0, none⟩ vt' Bm hmT).trans hmx
  refine ⟨⟨key2 g.a (by decide) (by decide), key2 g.q (by decide) (by decide), key2 g.n (by decide) (by decide), ⟨key2 g.b.box (by decide) (by decide), row_of_block g.b.row (fun k e => ?_), ⟨es, ck, hmy, hm2⟩, g.b.ok⟩, key2 g.p (by decide) (by decide), by simp [World.setCell, Array.getElem?_modify, hT], ?_, ?_, h.wb, h.wm, h.wt⟩, ⟨?_, ?_⟩, ?_, ?_⟩
  · obtain ⟨cs, hcs⟩ := row_cells g.b.row e
    rw [hcs]
    exact key2 hcs (by decide) (by decide)
  · have hr' : w'.ownsRow w.heap.size 79 1 vt' (to ++ [r]).length (intV (to ++ [r])) := by rw [List.length_append]; exact hr
    exact row_of_block hr' (fun k e => blk_setCell_other _ _ _ _ (fun e2 => row_ne hr hT (by decide) (by rw [e]; exact congrArg some e2)))
  · exact (Chg.below g.bel g.bel.size (chg_of_grown hg) (fun k e => (World.ownsRow.lt g.r k e).1)).setCell (p := ⟨T, 0, none⟩) h.wt _
  · have := hb.size; have := hg.size; simp; omega
  · intro k o hk hn
    have hk1 := (hb.block k (Array.getElem?_eq_some_iff.1 hk).1).trans hk
    have hk2 : w'.heap[k]? = some o := (hg.block k (Array.getElem?_eq_some_iff.1 hk1).1 (fun e => by
      obtain ⟨cs, hcs⟩ := row_cells g.r e.symm
      rw [hcs] at hk1; cases hk1; cases hn)).trans hk1
    refine (blk_setCell_other _ _ _ _ (fun e => ?_)).trans hk2
    have e' : k = T := e
    rw [e', hT] at hk2; cases hk2; cases hn
  · exact (Chg.below (hb.mono h.bel.size) (Nat.le_trans h.bel.size hb.size) (chg_of_grown hg) (fun k e => (World.ownsRow.lt g.r k e).1)).setCell (p := ⟨T, 0, none⟩) h.wt _
  · exact (key2 g.n (by decide) (by decide)).trans (Own4.eq h.n).symm
theorem Alk.kept (h : Alk w wr A Q N Bb Bm P T inp c1 c2 c3 F va D xs vt to) {row : Option Nat} {base : Nat} (hg : wr.grownBy w' row) (hr : ∀ r, row = some r → base ≤ r ∧ ∃ o : Obj, wr.heap[r]? = some o ∧ o.isCells = false) (hm : Bm < base) (hw : w.heap.size ≤ base) : Alk w w' A Q N Bb Bm P T inp c1 c2 c3 F va D xs vt to := by
  have hc := fun r e => (hr r e).2
  refine ⟨kept_cells hg hc h.a, kept_cells hg hc h.q, kept_cells hg hc h.n, ⟨kept_cells hg hc h.b.box, row_of_block h.b.row (fun k e => ?_), h.b.map.kept hg (fun e => by have := (hr Bm e.symm).1; omega), h.b.ok⟩, kept_cells hg hc h.p, kept_cells hg hc h.t, row_of_block h.r (fun k e => ?_), h.bel.grown hg h.bel.size (fun r e => by have := (hr r e).1; omega), h.wb, h.wm, h.wt⟩
  · obtain ⟨cs, hcs⟩ := row_cells h.b.row e
    rw [hcs]; exact kept_cells hg hc hcs
  · obtain ⟨cs, hcs⟩ := row_cells h.r e
    rw [hcs]; exact kept_cells hg hc hcs
end

set_option maxRecDepth 100000 in
set_option maxHeartbeats 8000000 in
theorem withoutAlike_any (inp : Int) (al aa ab : Option Addr) (cl ca cb : Nat) (ls : List (Int × Bool)) (xs : List (Int × Int)) (bs : List Int) (F : Nat) (w : World) (hC : IsCir w al aa ab cl ca cb ls xs bs) (h0 : 0 ≤ inp) (h8 : inp ≤ 8) (hl8 : ls.length ≤ 8) (hx40 : xs.length ≤ 40) (hb4 : bs.length ≤ 4) (hF : (F : Int) = 1 + inp + ls.length) (hA : AndsOk F xs)
    (hL : ∀ p ∈ ls, 0 ≤ p.1 ∧ p.1 < 2 * ((F + xs.length : Nat) : Int)) (hB : ∀ x ∈ bs, 0 ≤ x ∧ x < 2 * ((F + xs.length : Nat) : Int)) :
    Calls Try.prog 85 #[.agg #[.int .i64 inp, .slice al ls.length cl, .slice aa xs.length ca, .slice ab bs.length cb]] w (LessPost inp (mapLat (foldS F xs xs.length).1 ls) (foldS F xs xs.length).2 (mapBad (foldS F xs xs.length).1 bs) w) := by
  have HC : Hid (∀ w', Below w.heap.size w w' → IsCir w' al aa ab cl ca cb ls xs bs) := fun w' h => hC.below h
  have HC0 : Hid (IsCir w al aa ab cl ca cb ls xs bs) := hC
  have HFA : Hid (∀ V, Calls Try.prog 97 #[.agg #[.int .i64 inp, .slice al ls.length cl, .slice aa xs.length ca, .slice ab bs.length cb]] V fun e w' => e = .returned (.int .i64 (F : Int)) ∧ Below V.heap.size V w') := fun V => by rw [hF]; exact firstAnd_any _ _ _ _ _ _ _ _ _ _ _ h0 h8 hl8
  have HST := hideN (fun V => startOf_any inp al aa ab cl ca cb ls xs bs F V h0 h8 hl8 hF)
  have HFF := hideN hF
  obtain ⟨im, him, hzm0, hzm1, hzm2⟩ := info_parts info_meaning
  have HAO := hideN hA
  have HL := hideN hL
  have HBD := hideN hB
  obtain ⟨W1, hW1⟩ : ∃ W1, W1 = (w.alloc (.cells #[.int .i64 inp, .slice al ls.length cl, .slice aa xs.length ca, .slice ab bs.length cb] 33)).alloc (.cells #[.int .i64 0, .slice none 0 0, .slice none 0 0, .slice none 0 0] 33) := ⟨_, rfl⟩
  have HA1 : Hid (Own4 W1 w.heap.size 33 (.int .i64 inp) (.slice al ls.length cl) (.slice aa xs.length ca) (.slice ab bs.length cb)) := by rw [hW1]; exact (Own4.new _ _ _ _ _ _).below (belOne _ _)
  have HQ1 : Hid (Own4 W1 (w.heap.size + 1) 33 (.int .i64 0) (.slice none 0 0) (.slice none 0 0) (.slice none 0 0)) := by
    rw [hW1]
    have h := Own4.new (w.alloc (.cells #[.int .i64 inp, .slice al ls.length cl, .slice aa xs.length ca, .slice ab bs.length cb] 33)) 33 (.int .i64 0) (.slice none 0 0) (.slice none 0 0) (.slice none 0 0)
    rw [World.size_alloc] at h
    exact h
  have HB1 : Hid (Below w.heap.size w W1) := by rw [hW1]; exact belNext (belOne _ _) (belOne _ _)
  have HW1 := hideN hW1
  clear hC hF hA hL hB hW1
  refine (callsIn_wide (n := 8)).1 ?_
  refine callsIn_of_wp_marks Try.func85 rfl trivial ?_ rfl
  simp only [Try.ntmps85, List.size_toArray, List.length_cons, List.length_nil, Nat.reduceAdd, Nat.reduceSub, Array.replicate_succ, Array.replicate_zero, List.push_toArray, List.append_toArray, List.nil_append, List.cons_append]
  refine wpIn_wide.2 ?_
  go_wp2_with fail
  rw [← HW1.out]
  refine (HFA.out _).mono ?_
  rintro e w2 ⟨rfl, hb2⟩
  have HB2 : Hid (Below w.heap.size w w2) := belNext HB1.out hb2
  have HA2 := hideN (HA1.out.below hb2)
  have HQ2 := hideN (HQ1.out.below hb2)
  clear hb2 HA1 HQ1 HB1 HW1
  have hq2 := HQ2.out.lt
  have hbm : Below w2.heap.size w2 (((w2.alloc (.map #[] 0)).alloc (.cells #[.int .i64 (F : Int), .slice none 0 0, .map (some w2.heap.size)] 128)).alloc (.cells #[.pointer (some ⟨w2.heap.size + 1, 0, none⟩)] 125)) := belNext (belNext (belOne _ _) (belOne _ _)) (belOne _ _)
  have ham := HA2.out.below hbm
  have a0 := ham.four.c0
  have a1 := ham.four.c1
  have a2 := ham.four.c2
  have a3 := ham.four.c3
  have a4 := HA2.out.lt
  have hmm := @run_makeMap Try.prog
  have HBM := hideN hbm
  have HBL : Hid (Bld (((w2.alloc (.map #[] 0)).alloc (.cells #[.int .i64 (F : Int), .slice none 0 0, .map (some w2.heap.size)] 128)).alloc (.cells #[.pointer (some ⟨w2.heap.size + 1, 0, none⟩)] 125)) (w2.heap.size + 1) w2.heap.size w.heap.size F (.slice none 0 0) (.map []) []) := by
    refine ⟨?_, World.ownsRow_nil _ _ _ _, ?_, FoundOk.nil F⟩
    · rw [blk_alloc_lt _ _ _ (by simp)]
      have h := World.alloc_heap_new (w2.alloc (.map #[] 0)) (.cells #[.int .i64 (F : Int), .slice none 0 0, .map (some w2.heap.size)] 128)
      rw [World.size_alloc] at h
      exact h
    · exact (World.ownsMap.alloc (World.ownsMap.alloc (World.ownsMap_made w2 _ _ _) _) _)
  have HPB : Hid ((((w2.alloc (.map #[] 0)).alloc (.cells #[.int .i64 (F : Int), .slice none 0 0, .map (some w2.heap.size)] 128)).alloc (.cells #[.pointer (some ⟨w2.heap.size + 1, 0, none⟩)] 125)).heap[w2.heap.size + 2]? = some (.cells #[.pointer (some ⟨w2.heap.size + 1, 0, none⟩)] 125 (0, 0))) := by
    have h := World.alloc_heap_new ((w2.alloc (.map #[] 0)).alloc (.cells #[.int .i64 (F : Int), .slice none 0 0, .map (some w2.heap.size)] 128)) (.cells #[.pointer (some ⟨w2.heap.size + 1, 0, none⟩)] 125)
    rw [World.size_alloc, World.size_alloc] at h
    exact h
  have HSZ : Hid ((((w2.alloc (.map #[] 0)).alloc (.cells #[.int .i64 (F : Int), .slice none 0 0, .map (some w2.heap.size)] 128)).alloc (.cells #[.pointer (some ⟨w2.heap.size + 1, 0, none⟩)] 125)).heap.size = w2.heap.size + 3) := by show _ = _; simp
  clear ham hbm
  go_wp2_with fail
  generalize (((w2.alloc (.map #[] 0)).alloc (.cells #[.int .i64 (F : Int), .slice none 0 0, .map (some w2.heap.size)] 128)).alloc (.cells #[.pointer (some ⟨w2.heap.size + 1, 0, none⟩)] 125)) = W3 at *
  refine (HST.out _).mono ?_
  rintro e w4 ⟨ao, cap, rfl, hr4, hb4'⟩
  have HA4 := hideN ((HA2.out.below HBM.out).below hb4')
  have HQ4 := hideN ((HQ2.out.below HBM.out).below hb4')
  have HBL4 := hideN (HBL.out.below hb4')
  have HPB4 : Hid (w4.heap[w2.heap.size + 2]? = some (.cells #[.pointer (some ⟨w2.heap.size + 1, 0, none⟩)] 125 (0, 0))) := (hb4'.block _ (by rw [HSZ.out]; omega)).trans HPB.out
  have HB4 : Hid (Below w.heap.size w w4) := belNext (belNext HB2.out HBM.out) hb4'
  have hs4 : w2.heap.size + 3 ≤ w4.heap.size := by rw [← HSZ.out]; exact hb4'.size
  have HR4 : Hid (w4.ownsRow w.heap.size 79 1 (.slice ao F cap) F (intV (start2 F))) := row_base hr4 (by rw [HSZ.out]; omega)
  clear hr4 hb4' HSZ HPB HBL HBM a0 a1 a2 a3 HA2 HQ2 hmm
  have HA5 : Hid (Own4 (w4.alloc (.cells #[.slice ao F cap] 121)) w.heap.size 33 (.int .i64 inp) (.slice al ls.length cl) (.slice aa xs.length ca) (.slice ab bs.length cb)) := HA4.out.below (belOne _ _)
  have c0 := HA5.out.four.c0
  have c1 := HA5.out.four.c1
  have c2 := HA5.out.four.c2
  have c3 := HA5.out.four.c3
  go_wp2_with (first | (go_at_call 55; refine (andNodes_any _ _ _ _ _ _ _ _ _ _ _).mono ?_; rintro e w' ⟨rfl, rfl⟩))
  have hS0 : Alk w ((w4.alloc (.cells #[.slice ao F cap] 121)).alloc (.cells #[.int .i64 inp, .slice al ls.length cl, .slice aa xs.length ca, .slice ab bs.length cb] 33)) w.heap.size (w.heap.size + 1) (w4.heap.size + 1) (w2.heap.size + 1) w2.heap.size (w2.heap.size + 2) w4.heap.size inp (.slice al ls.length cl) (.slice aa xs.length ca) (.slice ab bs.length cb) F (.slice none 0 0) (.map []) [] (.slice ao F cap) (start2 F) := by
    have hbb : Below w4.heap.size w4 ((w4.alloc (.cells #[.slice ao F cap] 121)).alloc (.cells #[.int .i64 inp, .slice al ls.length cl, .slice aa xs.length ca, .slice ab bs.length cb] 33)) := belNext (belOne _ _) (belOne _ _)
    have h := Own4.new (w4.alloc (.cells #[.slice ao F cap] 121)) 33 (.int .i64 inp) (.slice al ls.length cl) (.slice aa xs.length ca) (.slice ab bs.length cb)
    rw [World.size_alloc] at h
    refine ⟨HA5.out.below (belOne _ _), HQ4.out.below hbb, h, HBL4.out.below hbb, (hbb.block _ (by omega)).trans HPB4.out, ?_, ?_, belNext HB4.out hbb, by omega, by omega, by omega⟩
    · rw [blk_alloc_lt _ _ _ (by simp)]; exact World.alloc_heap_new _ _
    · rw [start2_length]; exact row_below HR4.out hbb
  have hs0 : ((w4.alloc (.cells #[.slice ao F cap] 121)).alloc (.cells #[.int .i64 inp, .slice al ls.length cl, .slice aa xs.length ca, .slice ab bs.length cb] 33)).heap.size = w4.heap.size + 2 := by simp
  generalize ((w4.alloc (.cells #[.slice ao F cap] 121)).alloc (.cells #[.int .i64 inp, .slice al ls.length cl, .slice aa xs.length ca, .slice ab bs.length cb] 33)) = W0 at *
  have HS0 := hideN hs0
  clear c0 c1 c2 c3 HA5 HA4 HQ4 HBL4 HPB4 HB4 HR4
  refine (wpIn_wide (n := 8)).1 ?_
  refine rangeAll (by omega) (gf := 96) (lb := #[.pointer (some ⟨w4.heap.size + 1, 0, none⟩)]) rfl (enters_of Try.func96 (by kernel_rfl) rfl)
    (andNodes_gives 7 (by omega) (w4.heap.size + 1) w.heap.size inp al aa ab ls.length cl ca bs.length cb xs h0 h8 hl8 hx40 W0 hS0.bel.size hS0.n (HC.out _ hS0.bel).isA (fun b off e => (HC0.out.inA b off e))) KpA.trans (KpA.put hS0.bel.size (by omega)) (fun _ => rfl)
    (fun k W => ∃ a1 n1 k1 D a2 n2 k2, Hid ((foldS F xs k).2.length = n1) ∧ Hid ((foldS F xs k).1.length = n2) ∧ Alk w W w.heap.size (w.heap.size + 1) (w4.heap.size + 1) (w2.heap.size + 1) w2.heap.size (w2.heap.size + 2) w4.heap.size inp (.slice al ls.length cl) (.slice aa xs.length ca) (.slice ab bs.length cb) F (.slice a1 n1 k1) D (foldS F xs k).2 (.slice a2 n2 k2) (foldS F xs k).1)
    ?hI ⟨none, 0, 0, .map [], ao, F, cap, rfl, start2_length F, hS0⟩
    (fun x a' W => ∃ Bx, W0.heap.size ≤ Bx ∧ W.heap[Bx]? = some (.cells #[.int .i64 x.2.1, .int .i64 x.2.2] 65 (0, 0)) ∧ (∀ va, W.heap[w2.heap.size + 1]? = some (.cells #[.int .i64 (F : Int), va, .map (some w2.heap.size)] 128 (0, 0)) → va.ownBlock ≠ some Bx) ∧ a' = { tmps := #[.agg #[.int .i64 inp, .slice al ls.length cl, .slice aa xs.length ca, .slice ab bs.length cb], .pointer (some ⟨w.heap.size, 0, none⟩), .pointer (some ⟨w.heap.size + 1, 0, none⟩), .pointer (some ⟨w2.heap.size + 1 + 1, 0, none⟩), .pointer (some ⟨w4.heap.size, 0, none⟩), undef, .pointer (some ⟨Bx, 0, none⟩), .agg #[.int .i64 inp, .slice al ls.length cl, .slice aa xs.length ca, .slice ab bs.length cb], .int .i64 (F : Int), .map (some w2.heap.size), .agg #[.int .i64 (F : Int), .slice none 0 0, .map (some w2.heap.size)], .pointer (some ⟨w2.heap.size + 1, 0, none⟩), .agg #[.int .i64 inp, .slice al ls.length cl, .slice aa xs.length ca, .slice ab bs.length cb], .slice ao F cap, .agg #[.int .i64 inp, .slice al ls.length cl, .slice aa xs.length ca, .slice ab bs.length cb], .func (.func 96) #[] #[.pointer (some ⟨w4.heap.size + 1, 0, none⟩)], .int .i64 x.1, .agg #[.int .i64 x.2.1, .int .i64 x.2.2], undef, undef, undef, undef, undef, undef, undef, undef, undef, undef, undef, undef, undef, undef, undef, undef, undef, undef, undef, undef], defers := [] })
    ?hAx ?assign ?body ?done
  case hI =>
    rintro k A B row ⟨a1, n1, k1, D, a2, n2, k2, hn1, hn2, hS⟩ hg hr
    exact ⟨a1, n1, k1, D, a2, n2, k2, hn1, hn2, hS.kept hg hr (by omega) hS0.bel.size⟩
  case hAx =>
    rintro x a' s A B row ⟨Bx, hBx, hT, hne, he⟩ hg hr
    refine ⟨Bx, hBx, kept_cells hg (fun r e => (hr r e).2) hT, fun va hva => hne va ?_, he⟩
    rw [← hva]
    exact (hg.block _ (by have := (Array.getElem?_eq_some_iff.1 hT).1; omega) (fun e => by have := (hr _ e.symm).1; omega)).symm
  case assign =>
    rintro l k x W K hx ⟨a1, n1, k1, D, a2, n2, k2, hn1, hn2, hS⟩ hK
    gi_wp2
    have hll := hS.n.lt
    refine hK _ _ ((KeepsOthers.alloc _ _).from _) (KpA.of_below hS.bel.size hS.n.lt (belOne _ _)) ⟨a1, n1, k1, D, a2, n2, k2, hn1, hn2, hS.below (belOne _ _)⟩ ⟨W.heap.size, by omega, World.alloc_heap_new _ _, fun va hva e => ?_, rfl⟩
    rw [((belOne _ _).block _ hS.b.lt), hS.b.box] at hva
    simp only [Option.some.injEq, Obj.cells.injEq, Array.mk.injEq, List.cons.injEq, and_true, true_and] at hva
    subst hva
    have := (World.ownsRow.lt hS.b.row _ e).2
    omega
  case body =>
    rintro l k x a' W hx ⟨a1, n1, k1, D, a2, n2, k2, hn1, hn2, hS⟩ ⟨Bx, hBx, hT, hne, rfl⟩
    have hkl : k < xs.length := by
      have := (List.getElem?_eq_some_iff.1 hx).1
      rw [nodesFrom_length] at this
      exact this
    rw [nodesFrom_get _ xs k hkl] at hx
    obtain rfl : (1 + inp + (ls.length : Int) + (k : Int), xs.getD k (0, 0)) = x := by simpa using hx
    have hF1 : 1 ≤ F := by have := HFF.out; omega
    have hF17 : F ≤ 17 := by have := HFF.out; omega
    have HFO := hideN (foldS_ok F hF1 xs HAO.out k (by omega))
    have HSU : Hid (foldS F xs (k + 1) = foldStep F (foldS F xs k) (xs.getD k (0, 0))) := rfl
    have hps := HAO.out k hkl
    have hnx := hne _ hS.b.box
    generalize xs.getD k (0, 0) = pq at *
    obtain ⟨p1, p2⟩ := pq
    obtain ⟨⟨hp10, hp11⟩, hp20, hp21⟩ := hps
    have hp10 : 0 ≤ p1 := hp10
    have hp11 : p1 < 2 * ((F : Int) + (k : Int)) := hp11
    have hp20 : 0 ≤ p2 := hp20
    have hp21 : p2 < 2 * ((F : Int) + (k : Int)) := hp21
    have hT : W.heap[Bx]? = some (.cells #[.int .i64 p1, .int .i64 p2] 65 (0, 0)) := hT
    have t1 : W.cell? ⟨Bx, 0, none⟩ = some (.int .i64 p1) := by simp [World.cell?, hT]
    have t2 : W.cell? ⟨Bx, 1, none⟩ = some (.int .i64 p2) := by simp [World.cell?, hT]
    have s0 : W.cell? ⟨w4.heap.size, 0, none⟩ = some (.slice a2 n2 k2) := by simp [World.cell?, hS.t]
    have s1 : W.cell? ⟨w2.heap.size + 1 + 1, 0, none⟩ = some (.pointer (some ⟨w2.heap.size + 1, 0, none⟩)) := by simp [World.cell?, hS.p]
    have HI1 : Hid (∀ V a1 n1 k1 D a2 n2 k2, Hid ((foldS F xs (k + 1)).2.length = n1) → Hid ((foldS F xs (k + 1)).1.length = n2) → Alk w V w.heap.size (w.heap.size + 1) (w4.heap.size + 1) (w2.heap.size + 1) w2.heap.size (w2.heap.size + 2) w4.heap.size inp (.slice al ls.length cl) (.slice aa xs.length ca) (.slice ab bs.length cb) F (.slice a1 n1 k1) D (foldS F xs (k + 1)).2 (.slice a2 n2 k2) (foldS F xs (k + 1)).1 → KeepsFrom W0.heap.size W V → KpA w.heap.size (w4.heap.size + 1) W V → KeepsFrom W0.heap.size W V ∧ KpA w.heap.size (w4.heap.size + 1) W V ∧ ∃ a1 n1 k1 D a2 n2 k2, Hid ((foldS F xs (k + 1)).2.length = n1) ∧ Hid ((foldS F xs (k + 1)).1.length = n2) ∧ Alk w V w.heap.size (w.heap.size + 1) (w4.heap.size + 1) (w2.heap.size + 1) w2.heap.size (w2.heap.size + 2) w4.heap.size inp (.slice al ls.length cl) (.slice aa xs.length ca) (.slice ab bs.length cb) F (.slice a1 n1 k1) D (foldS F xs (k + 1)).2 (.slice a2 n2 k2) (foldS F xs (k + 1)).1) := fun V a1 n1 k1 D a2 n2 k2 h1 h2 h3 h4 h5 => ⟨h4, h5, a1, n1, k1, D, a2, n2, k2, h1, h2, h3⟩
    generalize foldS F xs (k + 1) = st' at *
    generalize foldS F xs k = st at *
    have hq1 := HFO.out.to.map hp10 (by omega)
    have hq2 := HFO.out.to.map hp20 (by omega)
    have hsl := HFO.out.le
    have hn1' := hn1.out
    have hn2' := hn2.out
    subst hn1'
    subst hn2'
    obtain ⟨P1, hP1⟩ : ∃ P, mapL st.1 p1 = P := ⟨_, rfl⟩
    obtain ⟨P2, hP2⟩ : ∃ P, mapL st.1 p2 = P := ⟨_, rfl⟩
    have HNA : Hid (∀ V, Below W.heap.size W V → Calls Try.prog 109 #[.int .i64 p1, .slice a2 st.1.length k2] V fun e w' => e = .returned (.int .i64 P1) ∧ w' = V) := fun V hV => by
      have h := now_any _ st.1 p1 _ _ V (isInts_rowM (row_below hS.r hV)) HFO.out.to hp10 (by omega) (by omega) (by omega)
      rw [hP1] at h
      exact h
    have HNB : Hid (∀ V, Below W.heap.size W V → Calls Try.prog 109 #[.int .i64 p2, .slice a2 st.1.length k2] V fun e w' => e = .returned (.int .i64 P2) ∧ w' = V) := fun V hV => by
      have h := now_any _ st.1 p2 _ _ V (isInts_rowM (row_below hS.r hV)) HFO.out.to hp20 (by omega) (by omega) (by omega)
      rw [hP2] at h
      exact h
    rw [hP1] at hq1
    rw [hP2] at hq2
    obtain ⟨⟨R, ys⟩, hRY⟩ : ∃ q, andStep F st.2 P1 P2 = q := ⟨_, rfl⟩
    have HFS : Hid (st' = (st.1 ++ [R], ys)) := by
      show _ = _
      rw [HSU.out, foldStep_and]
      show (st.1 ++ [(andStep F st.2 (mapL st.1 p1) (mapL st.1 p2)).1], (andStep F st.2 (mapL st.1 p1) (mapL st.1 p2)).2) = _
      rw [hP1, hP2, hRY]
    have HAL := hideN hS
    have HRY := hideN hRY
    have HHT := hideN hT
    have HNX := hideN hnx
    have hsz := hS.bel.size
    have hb2 : st.2.length ≤ 40 := by omega
    have hb1 : st.1.length ≤ 57 := by have := HFO.out.to.len; omega
    have hP1b : 0 ≤ P1 ∧ P1 ≤ 199 := by omega
    have hP2b : 0 ≤ P2 ∧ P2 ≤ 199 := by omega
    obtain ⟨hP10, hP11⟩ := hP1b
    obtain ⟨hP20, hP21⟩ := hP2b
    clear hx hS hT hne hnx HSU hP1 hP2 hRY hq1 hq2 hp11 hp21 HFO hn1 hn2 hsl
    gi_wp2
    refine region_roundS (fin := 13) (S := fun V => V.cell? ⟨w4.heap.size, 0, none⟩ = some (.slice a2 st.1.length k2) ∧ V.cell? ⟨w2.heap.size + 1 + 1, 0, none⟩ = some (.pointer (some ⟨w2.heap.size + 1, 0, none⟩)) ∧ V.cell? ⟨Bx, 0, none⟩ = some (.int .i64 p1) ∧ V.cell? ⟨Bx, 1, none⟩ = some (.int .i64 p2)) (by kernel_rfl) (by kernel_rfl) ?letsA ⟨s0, s1, t1, t2⟩ (fun hHeld => ?walkA)
    case letsA =>
      rintro ⟨a, v, h⟩
      have h' := (show Exit.outgrown = Exit.normal ∧ _ from h).1
      cases h'
    case walkA =>
    clear hHeld
    refine takeS (i := 0) (v := .slice a2 st.1.length k2) rfl (by kernel_rfl) (by kernel_rfl) (by kernel_rfl) (by kernel_rfl) (fun _ _ _ h => h) (Or.inl ⟨by rfl, fun w hS => by obtain ⟨s0, s1, t1, t2⟩ := hS; go_simp⟩) ⟨s0, s1, t1, t2⟩ ?_
    simp only [List.getElem_toArray, List.getElem_cons_zero, Act.put, List.setIfInBounds_toArray, List.set_cons_zero, List.set_cons_succ]
    refine takeS (i := 1) (v := .pointer (some ⟨w2.heap.size + 1, 0, none⟩)) rfl (by kernel_rfl) (by kernel_rfl) (by kernel_rfl) (by kernel_rfl) (fun _ _ _ h => h) (Or.inl ⟨by rfl, fun w hS => by obtain ⟨s0, s1, t1, t2⟩ := hS; go_simp⟩) ⟨s0, s1, t1, t2⟩ ?_
    simp only [List.getElem_toArray, List.getElem_cons_zero, List.getElem_cons_succ, Act.put, List.setIfInBounds_toArray, List.set_cons_zero, List.set_cons_succ]
    refine takeS (i := 2) (v := .pointer (some ⟨Bx, 0, none⟩)) rfl (by kernel_rfl) (by kernel_rfl) (by kernel_rfl) (by kernel_rfl) (fun _ _ _ h => h) (Or.inl ⟨by rfl, fun w hS => by obtain ⟨s0, s1, t1, t2⟩ := hS; go_simp⟩) ⟨s0, s1, t1, t2⟩ ?_
    simp only [List.getElem_toArray, List.getElem_cons_zero, List.getElem_cons_succ, Act.put, List.setIfInBounds_toArray, List.set_cons_zero, List.set_cons_succ]
    refine takeS (i := 3) (v := .int .i64 p1) rfl (by kernel_rfl) (by kernel_rfl) (by kernel_rfl) (by kernel_rfl) (fun _ _ _ h => h) (Or.inl ⟨by rfl, fun w hS => by obtain ⟨s0, s1, t1, t2⟩ := hS; go_simp⟩) ⟨s0, s1, t1, t2⟩ ?_
    simp only [List.getElem_toArray, List.getElem_cons_zero, List.getElem_cons_succ, Act.put, List.setIfInBounds_toArray, List.set_cons_zero, List.set_cons_succ]
    refine takeS (i := 4) (v := .slice a2 st.1.length k2) rfl (by kernel_rfl) (by kernel_rfl) (by kernel_rfl) (by kernel_rfl) (fun _ _ _ h => h) (Or.inl ⟨by rfl, fun w hS => by obtain ⟨s0, s1, t1, t2⟩ := hS; go_simp⟩) ⟨s0, s1, t1, t2⟩ ?_
    simp only [List.getElem_toArray, List.getElem_cons_zero, List.getElem_cons_succ, Act.put, List.setIfInBounds_toArray, List.set_cons_zero, List.set_cons_succ]
    refine takeS (i := 6) (v := .pointer (some ⟨Bx, 1, none⟩)) rfl (by kernel_rfl) (by kernel_rfl) (by kernel_rfl) (by kernel_rfl) (fun _ _ _ h => h) (Or.inl ⟨by rfl, fun w hS => by obtain ⟨s0, s1, t1, t2⟩ := hS; go_simp⟩) ⟨s0, s1, t1, t2⟩ ?_
    simp only [List.getElem_toArray, List.getElem_cons_zero, List.getElem_cons_succ, Act.put, List.setIfInBounds_toArray, List.set_cons_zero, List.set_cons_succ]
    refine takeS (i := 7) (v := .int .i64 p2) rfl (by kernel_rfl) (by kernel_rfl) (by kernel_rfl) (by kernel_rfl) (fun _ _ _ h => h) (Or.inl ⟨by rfl, fun w hS => by obtain ⟨s0, s1, t1, t2⟩ := hS; go_simp⟩) ⟨s0, s1, t1, t2⟩ ?_
    simp only [List.getElem_toArray, List.getElem_cons_zero, List.getElem_cons_succ, Act.put, List.setIfInBounds_toArray, List.set_cons_zero, List.set_cons_succ]
    refine takeS (i := 8) (v := .slice a2 st.1.length k2) rfl (by kernel_rfl) (by kernel_rfl) (by kernel_rfl) (by kernel_rfl) (fun _ _ _ h => h) (Or.inl ⟨by rfl, fun w hS => by obtain ⟨s0, s1, t1, t2⟩ := hS; go_simp⟩) ⟨s0, s1, t1, t2⟩ ?_
    simp only [List.getElem_toArray, List.getElem_cons_zero, List.getElem_cons_succ, Act.put, List.setIfInBounds_toArray, List.set_cons_zero, List.set_cons_succ]
    refine oneS (i := 5) (by kernel_rfl) rfl (by rfl) ?_
    simp only [List.getElem_toArray, List.getElem_cons_zero, List.getElem_cons_succ]
    go_simp
    refine (HNA.out _ (below_drewN (Below.refl _ _) 1)).mono ?_
    rintro e w' ⟨rfl, hw'⟩
    obtain rfl := hw'.symm
    refine ⟨⟨s0, s1, t1, t2⟩, ?_⟩
    refine oneS (i := 9) (by kernel_rfl) rfl (by rfl) ?_
    simp only [List.getElem_toArray, List.getElem_cons_zero, List.getElem_cons_succ]
    go_simp
    refine (HNB.out _ (below_drewN (Below.refl _ _) 1)).mono ?_
    rintro e w' ⟨rfl, hw'⟩
    obtain rfl := hw'.symm
    refine ⟨⟨s0, s1, t1, t2⟩, ?_⟩
    refine oneS (i := 10) (by kernel_rfl) rfl (by rfl) ?_
    simp only [List.getElem_toArray, List.getElem_cons_zero, List.getElem_cons_succ]
    go_simp
    have HBW : Hid (Below W.heap.size W W.drew) := below_drewN (Below.refl _ _) 1
    refine (and_any (w2.heap.size + 1) w2.heap.size w.heap.size F a1 k1 D st.2 P1 P2 W.drew (by exact (HAL.out.below HBW.out).b) hP10 hP11 hP20 hP21 (by omega) (by omega) (by exact hsz)).mono ?_
    rintro e X ⟨a3, k3, D3, rfl, hb, hc⟩
    rw [HRY.out] at hb
    rw [HRY.out]
    have HA3 := hideN ((HAL.out.below HBW.out).and hb hc)
    have HKP := hideN ((HAL.out.below HBW.out).andKeeps hc (base := W0.heap.size) (by omega))
    have hXT : X.heap[Bx]? = some (.cells #[.int .i64 p1, .int .i64 p2] 65 (0, 0)) := by
      have h1 : W.drew.heap[Bx]? = some (.cells #[.int .i64 p1, .int .i64 p2] 65 (0, 0)) := HHT.out
      refine (hc.block Bx (Array.getElem?_eq_some_iff.1 h1).1 ?_).trans h1
      rintro (e | e | e)
      · have h2 := (HAL.out.below HBW.out).b.box
        rw [← e, h1] at h2
        injection h2 with h2
        injection h2 with _ h2
        exact absurd h2 (by decide)
      · omega
      · exact HNX.out e
    have HXT := hideN hXT
    have t1 : X.cell? ⟨Bx, 0, none⟩ = some (.int .i64 p1) := by simp [World.cell?, hXT]
    have t2 : X.cell? ⟨Bx, 1, none⟩ = some (.int .i64 p2) := by simp [World.cell?, hXT]
    have s0 : X.cell? ⟨w4.heap.size, 0, none⟩ = some (.slice a2 st.1.length k2) := by simp [World.cell?, HA3.out.t]
    have s1 : X.cell? ⟨w2.heap.size + 1 + 1, 0, none⟩ = some (.pointer (some ⟨w2.heap.size + 1, 0, none⟩)) := by simp [World.cell?, HA3.out.p]
    clear hb hc hXT
    refine ⟨⟨s0, s1, t1, t2⟩, ?_⟩
    refine oneS (i := 11) (by kernel_rfl) rfl (by rfl) ?_
    simp only [List.getElem_toArray, List.getElem_cons_zero, List.getElem_cons_succ]
    go_simp
    have HBE : Hid (Below X.heap.size X (X.alloc (.cells #[.int .i64 R] 79))) := belOne _ _
    have z0 := (HBE.out.cell (p := ⟨w4.heap.size, 0, none⟩) (cell_lt s0)).trans s0
    have z1 := (HBE.out.cell (p := ⟨w2.heap.size + 1 + 1, 0, none⟩) (cell_lt s1)).trans s1
    have z2 := (HBE.out.cell (p := ⟨Bx, 0, none⟩) (cell_lt t1)).trans t1
    have z3 := (HBE.out.cell (p := ⟨Bx, 1, none⟩) (cell_lt t2)).trans t2
    refine ⟨⟨z0, z1, z2, z3⟩, ?_⟩
    have HRD := hideN (row_below HA3.out.r HBE.out)
    have hsx : w.heap.size ≤ X.heap.size := HA3.out.bel.size
    refine oneS (i := 12) (by kernel_rfl) rfl (by rfl) ?_
    simp only [List.getElem_toArray, List.getElem_cons_zero, List.getElem_cons_succ]
    refine wp_append_lies _ (.tmp 18) (.tmp 29) 121 rfl w.heap.size 79 im (.int .i64 0) 1 8 Try.underlying121 him hzm0 hzm1 hzm2 rfl (by decide) (.slice a2 st.1.length k2) st.1.length (intV st.1) rfl HRD.out ⟨X.heap.size, 0, none⟩ 1 1 [.int .i64 R] rfl rfl (by exact news1 X _ _) (ints_oneCell .i64 [R]) (by decide) (by unfold maxLen; omega) (by omega) (by simp; omega) _ rfl ?_
    intro g gcap w9 hown9 hgrow9 hat9 hlt9
    have HPU := hideN (HA3.out.push HBE.out hgrow9 (vt' := .slice (some ⟨g, 0, none⟩) (st.1.length + 1) gcap) (r := R) (by rw [show intV (st.1 ++ [R]) = intV st.1 ++ [.int .i64 R] by simp [intV]]; exact hown9))
    have hgo : ∀ {k : Nat} {cs : Array Value} {t : TypeId} {fz : Nat × Nat}, X.heap[k]? = some (.cells cs t fz) → t ≠ 79 → w9.heap[k]? = some (.cells cs t fz) := fun hk ht => by
      have h1 := (HBE.out.block _ (Array.getElem?_eq_some_iff.1 hk).1).trans hk
      exact (hgrow9.block _ (Array.getElem?_eq_some_iff.1 h1).1 (fun e => row_ne HRD.out h1 ht e.symm)).trans h1
    have g0 := hgo HA3.out.t (by decide)
    have g1 := hgo HA3.out.p (by decide)
    have g2 := hgo HXT.out (by decide)
    have q0 : w9.cell? ⟨w4.heap.size, 0, none⟩ = some (.slice a2 st.1.length k2) := by simp [World.cell?, g0]
    have q1 : w9.cell? ⟨w2.heap.size + 1 + 1, 0, none⟩ = some (.pointer (some ⟨w2.heap.size + 1, 0, none⟩)) := by simp [World.cell?, g1]
    have q2 : w9.cell? ⟨Bx, 0, none⟩ = some (.int .i64 p1) := by simp [World.cell?, g2]
    have q3 : w9.cell? ⟨Bx, 1, none⟩ = some (.int .i64 p2) := by simp [World.cell?, g2]
    have q4 : w9.frozen? ⟨w4.heap.size, 0, none⟩ = false := by simp [World.frozen?, g0]
    have q5 : w4.heap.size < w9.heap.size := cell_lt q0
    clear hown9 hgrow9 hat9 hlt9 hgo g0 g1 g2 z0 z1 z2 z3 s0 s1 t1 t2 HRD
    refine ⟨fun _ => ⟨q0, q1, q2, q3⟩, ?_⟩
    simp only [Act.put, List.setIfInBounds_toArray, List.set_cons_zero, List.set_cons_succ]
    refine oneS (i := 13) (by kernel_rfl) rfl (by rfl) ?_
    simp only [List.getElem_toArray, List.getElem_cons_zero, List.getElem_cons_succ]
    go_simp
    refine doneS (by kernel_rfl) ?_ _
    have HKW : Hid (KeepsFrom W0.heap.size W W.drew ∧ KpA w.heap.size (w4.heap.size + 1) W W.drew) := ⟨KeepsOthers.from (show KeepsOthers W W.drew from ⟨Nat.le_refl _, fun _ _ h _ => h⟩) _, KpA.of_below hsz HAL.out.n.lt HBW.out⟩
    have hst := HFS.out
    subst hst
    exact ⟨rfl, HI1.out _ a3 ys.length k3 D3 (some ⟨g, 0, none⟩) (st.1.length + 1) gcap rfl (by show List.length _ = _; simp) HPU.out.1 (HKW.out.1.trans (HKP.out.1.trans (HPU.out.2.1.from _))) (HKW.out.2.trans (HKP.out.2.trans HPU.out.2.2))⟩
  case done =>
    rintro D W hD ⟨a1, n1, k1, DD, a2, n2, k2, hn1, hn2, hS⟩ hK
    rw [nodesFrom_length] at hn1 hn2 hS
    have hF1 : 1 ≤ F := by have := HFF.out; omega
    have hF17 : F ≤ 17 := by have := HFF.out; omega
    have HFO := hideN (foldS_ok F hF1 xs HAO.out xs.length (Nat.le_refl _))
    have HAL := hideN hS
    have b1 := hS.b.c1
    have b2 := hS.b.lt
    have a0 := hS.a.four.c0
    have a1' := hS.a.four.c1
    have a2' := hS.a.four.c2
    have a3 := hS.a.four.c3
    have a4 := hS.a.lt
    have s0 : W.cell? ⟨w4.heap.size, 0, none⟩ = some (.slice a2 n2 k2) := by simp [World.cell?, hS.t]
    have s1 : W.cell? ⟨w2.heap.size + 1 + 1, 0, none⟩ = some (.pointer (some ⟨w2.heap.size + 1, 0, none⟩)) := by simp [World.cell?, hS.p]
    have s2 := cell_lt s0
    have s3 := cell_lt s1
    clear hS
    generalize foldS F xs xs.length = st at *
    go_wp2_with fail
    refine region_SN (fin := 7) (S := fun V => V.cell? ⟨w4.heap.size, 0, none⟩ = some (.slice a2 n2 k2) ∧ V.cell? ⟨w2.heap.size + 1 + 1, 0, none⟩ = some (.pointer (some ⟨w2.heap.size + 1, 0, none⟩)) ∧ V.cell? ⟨w2.heap.size + 1, 1, none⟩ = some (.slice a1 n1 k1) ∧ V.cell? ⟨w.heap.size, 0, none⟩ = some (.int .i64 inp) ∧ V.cell? ⟨w.heap.size, 1, none⟩ = some (.slice al ls.length cl) ∧ V.cell? ⟨w.heap.size, 2, none⟩ = some (.slice aa xs.length ca) ∧ V.cell? ⟨w.heap.size, 3, none⟩ = some (.slice ab bs.length cb)) (by kernel_rfl) ⟨s0, s1, b1, a0, a1', a2', a3⟩ (fun hHeld => ?_)
    clear hHeld
    refine takeS (i := 0) (v := .agg #[.int .i64 inp, .slice al ls.length cl, .slice aa xs.length ca, .slice ab bs.length cb]) rfl (by kernel_rfl) (by kernel_rfl) (by kernel_rfl) (by kernel_rfl) (fun _ _ _ h => h) (Or.inl ⟨by rfl, fun w hS => by obtain ⟨s0, s1, b1, a0, a1', a2', a3⟩ := hS; go_simp⟩) ⟨s0, s1, b1, a0, a1', a2', a3⟩ ?_
    simp only [List.getElem_toArray, List.getElem_cons_zero, Act.put, List.setIfInBounds_toArray, List.set_cons_zero, List.set_cons_succ]
    refine takeS (i := 1) (v := .pointer (some ⟨w2.heap.size + 1, 0, none⟩)) rfl (by kernel_rfl) (by kernel_rfl) (by kernel_rfl) (by kernel_rfl) (fun _ _ _ h => h) (Or.inl ⟨by rfl, fun w hS => by obtain ⟨s0, s1, b1, a0, a1', a2', a3⟩ := hS; go_simp⟩) ⟨s0, s1, b1, a0, a1', a2', a3⟩ ?_
    simp only [List.getElem_toArray, List.getElem_cons_zero, List.getElem_cons_succ, Act.put, List.setIfInBounds_toArray, List.set_cons_zero, List.set_cons_succ]
    refine takeS (i := 2) (v := .pointer (some ⟨w2.heap.size + 1, 0, none⟩)) rfl (by kernel_rfl) (by kernel_rfl) (by kernel_rfl) (by kernel_rfl) (fun _ _ _ h => h) (Or.inl ⟨by rfl, fun w hS => by obtain ⟨s0, s1, b1, a0, a1', a2', a3⟩ := hS; go_simp⟩) ⟨s0, s1, b1, a0, a1', a2', a3⟩ ?_
    simp only [List.getElem_toArray, List.getElem_cons_zero, List.getElem_cons_succ, Act.put, List.setIfInBounds_toArray, List.set_cons_zero, List.set_cons_succ]
    refine takeS (i := 3) (v := .pointer (some ⟨w2.heap.size + 1, 1, none⟩)) rfl (by kernel_rfl) (by kernel_rfl) (by kernel_rfl) (by kernel_rfl) (fun _ _ _ h => h) (Or.inl ⟨by rfl, fun w hS => by obtain ⟨s0, s1, b1, a0, a1', a2', a3⟩ := hS; go_simp⟩) ⟨s0, s1, b1, a0, a1', a2', a3⟩ ?_
    simp only [List.getElem_toArray, List.getElem_cons_zero, List.getElem_cons_succ, Act.put, List.setIfInBounds_toArray, List.set_cons_zero, List.set_cons_succ]
    refine takeS (i := 4) (v := .slice a1 n1 k1) rfl (by kernel_rfl) (by kernel_rfl) (by kernel_rfl) (by kernel_rfl) (fun _ _ _ h => h) (Or.inl ⟨by rfl, fun w hS => by obtain ⟨s0, s1, b1, a0, a1', a2', a3⟩ := hS; go_simp⟩) ⟨s0, s1, b1, a0, a1', a2', a3⟩ ?_
    simp only [List.getElem_toArray, List.getElem_cons_zero, List.getElem_cons_succ, Act.put, List.setIfInBounds_toArray, List.set_cons_zero, List.set_cons_succ]
    refine takeS (i := 5) (v := .slice a2 n2 k2) rfl (by kernel_rfl) (by kernel_rfl) (by kernel_rfl) (by kernel_rfl) (fun _ _ _ h => h) (Or.inl ⟨by rfl, fun w hS => by obtain ⟨s0, s1, b1, a0, a1', a2', a3⟩ := hS; go_simp⟩) ⟨s0, s1, b1, a0, a1', a2', a3⟩ ?_
    simp only [List.getElem_toArray, List.getElem_cons_zero, List.getElem_cons_succ, Act.put, List.setIfInBounds_toArray, List.set_cons_zero, List.set_cons_succ]
    refine oneS (i := 6) (by kernel_rfl) rfl (by rfl) ?_
    simp only [List.getElem_toArray, List.getElem_cons_zero, List.getElem_cons_succ]
    go_simp
    have HBW : Hid (Below W.heap.size W W.drew) := below_drewN (Below.refl _ _) 1
    have HAD := hideN (HAL.out.below HBW.out)
    refine (withEnds_any inp al aa ab cl ca cb ls xs bs a1 n1 k1 a2 n2 k2 st.1 (F + xs.length) (F + st.2.length) W.drew (HC.out _ HAD.out.bel) (by have h := isInts_rowM (by have h2 := HAD.out.r; have h3 := hn2.out; rw [← h3] at h2; exact h2); rw [hn2.out] at h; exact h) HFO.out.to (by omega) (by have := HFO.out.le; omega) hl8 hb4 HL.out HBD.out).mono ?_
    rintro e w5 ⟨l5, b5, m5, c5, rfl, hr1, hr2, hb5⟩
    have HA5 := hideN (HAD.out.below hb5)
    have HR1 := hideN hr1
    have HR2 := hideN hr2
    have s0 := (hb5.cell (p := ⟨w4.heap.size, 0, none⟩) s2).trans s0
    have s1 := (hb5.cell (p := ⟨w2.heap.size + 1 + 1, 0, none⟩) s3).trans s1
    have b1 := (hb5.cell (p := ⟨w2.heap.size + 1, 1, none⟩) b2).trans b1
    have a0 := (hb5.cell (p := ⟨w.heap.size, 0, none⟩) a4).trans a0
    have a1' := (hb5.cell (p := ⟨w.heap.size, 1, none⟩) a4).trans a1'
    have a2' := (hb5.cell (p := ⟨w.heap.size, 2, none⟩) a4).trans a2'
    have a3 := (hb5.cell (p := ⟨w.heap.size, 3, none⟩) a4).trans a3
    refine ⟨⟨s0, s1, b1, a0, a1', a2', a3⟩, ?_⟩
    have HKD : Hid (w5.heap[D]? = some (.deferred (some []))) := (hb5.block D (Array.getElem?_eq_some_iff.1 hK).1).trans hK
    have hlD : w.heap.size + 1 < D := by omega
    clear hr1 hr2 hb5 s0 s1 b1 a0 a1' a2' a3 hK HAL HAD
    have m0 := HA5.out.q.four.c0
    have m1 := HA5.out.q.four.c1
    have m2 := HA5.out.q.four.c2
    have m3 := HA5.out.q.four.c3
    have m4 := HA5.out.q.lt
    have f0 := HA5.out.q.f 0
    have f1 := HA5.out.q.f 1
    have f2 := HA5.out.q.f 2
    have f3 := HA5.out.q.f 3
    refine oneS (i := 7) (by kernel_rfl) rfl (by rfl) ?_
    simp only [List.getElem_toArray, List.getElem_cons_zero, List.getElem_cons_succ]
    go_simp
    refine doneS (by kernel_rfl) ?_ _
    simp only [onlyN]
    have HQQ := hideN ((((HA5.out.q.set0 (.int .i64 inp)).set1 (.slice l5 ls.length m5)).set2 (.slice a1 n1 k1)).set3 (.slice b5 bs.length c5))
    have HBE : Hid (Below w.heap.size w ((((w5.setCell ⟨w.heap.size + 1, 0, none⟩ (.int .i64 inp)).setCell ⟨w.heap.size + 1, 1, none⟩ (.slice l5 ls.length m5)).setCell ⟨w.heap.size + 1, 2, none⟩ (.slice a1 n1 k1)).setCell ⟨w.heap.size + 1, 3, none⟩ (.slice b5 bs.length c5))) := (((HA5.out.bel.setCell (p := ⟨w.heap.size + 1, 0, none⟩) (by show _ ≤ w.heap.size + 1; omega) _).setCell (p := ⟨w.heap.size + 1, 1, none⟩) (by show _ ≤ w.heap.size + 1; omega) _).setCell (p := ⟨w.heap.size + 1, 2, none⟩) (by show _ ≤ w.heap.size + 1; omega) _).setCell (p := ⟨w.heap.size + 1, 3, none⟩) (by show _ ≤ w.heap.size + 1; omega) _
    have HOT : Hid (∀ k, k ≠ w.heap.size + 1 → ((((w5.setCell ⟨w.heap.size + 1, 0, none⟩ (.int .i64 inp)).setCell ⟨w.heap.size + 1, 1, none⟩ (.slice l5 ls.length m5)).setCell ⟨w.heap.size + 1, 2, none⟩ (.slice a1 n1 k1)).setCell ⟨w.heap.size + 1, 3, none⟩ (.slice b5 bs.length c5)).heap[k]? = w5.heap[k]?) := fun k hk => by
      rw [blk_setCell_other _ _ _ _ hk, blk_setCell_other _ _ _ _ hk, blk_setCell_other _ _ _ _ hk, blk_setCell_other _ _ _ _ hk]
    clear m0 m1 m2 m3 m4 f0 f1 f2 f3
    generalize ((((w5.setCell ⟨w.heap.size + 1, 0, none⟩ (.int .i64 inp)).setCell ⟨w.heap.size + 1, 1, none⟩ (.slice l5 ls.length m5)).setCell ⟨w.heap.size + 1, 2, none⟩ (.slice a1 n1 k1)).setCell ⟨w.heap.size + 1, 3, none⟩ (.slice b5 bs.length c5)) = WE at *
    go_wp2
    have HKE : Hid (WE.heap[D]? = some (.deferred (some []))) := (HOT.out D (by omega)).trans HKD.out
    refine ⟨by simp, .inl ⟨_, _, rfl, run_takeDeferred HKE.out, ?_⟩⟩
    have hqe : Own4 (WE.putObj D (.deferred none)) (w.heap.size + 1) 33 (.int .i64 inp) (.slice l5 ls.length m5) (.slice a1 n1 k1) (.slice b5 bs.length c5) := (World.putObj_heap_other (by omega)).trans HQQ.out
    have u0 := hqe.four.c0
    have u1 := hqe.four.c1
    have u2 := hqe.four.c2
    have u3 := hqe.four.c3
    have hg := grownBy_putObj' WE D (.deferred none)
    have hkeep : ∀ {e : TypeId} {s n : Nat} {v : Value} {zs : List Value} {lo : Nat}, w5.ownsRow lo e s v n zs → e ≠ 33 → w.heap.size ≤ lo → (WE.putObj D (.deferred none)).ownsRow w.heap.size e s v n zs := fun hr he hlo => by
      refine row_base (row_of_block hr (fun k hk => ?_)) hlo
      obtain ⟨cs, hcs⟩ := row_cells hr hk
      have hkD : k ≠ D := fun e => by rw [e, HKD.out] at hcs; cases hcs
      have hkQ : k ≠ w.heap.size + 1 := fun e => by
        have h1 := HA5.out.q.eq
        rw [← e, hcs] at h1
        injection h1 with h1
        injection h1 with _ h1
        exact he h1
      rw [World.putObj_heap_other hkD, HOT.out k hkQ]
    have hlw : w.heap.size ≤ W.drew.heap.size := by show w.heap.size ≤ W.heap.size; omega
    have hml : (mapLat st.1 ls).length = ls.length := by simp [mapLat]
    have hmb : (mapBad st.1 bs).length = bs.length := by simp [mapBad]
    have hra := hkeep HA5.out.b.row (by decide) (Nat.le_refl _)
    have hn1' := hn1.out
    rw [hn1'] at hra
    refine ⟨.agg #[.int .i64 inp, .slice l5 ls.length m5, .slice a1 n1 k1, .slice b5 bs.length c5], by simp [results, Try.f85, go_sem, u0, u1, u2, u3], l5, a1, b5, m5, k1, c5, ?_, ?_, ?_, ?_, ?_⟩
    · rw [hml, hmb, hn1']
    · rw [hml]; exact hkeep HR1.out (by decide) hlw
    · rw [hn1']; exact hra
    · rw [hmb]; exact hkeep HR2.out (by decide) hlw
    · exact HBE.out.grown hg HBE.out.size (fun r e => by cases e; omega)

end Go.Proofs.Ytbdjdgamnnifjaa

/-
  A circuit without what is needless: the program's withoutNeedless.
-/
import Derived.Test.YtbdjdgamnnifjaaLess14
namespace Go.Proofs.Ytbdjdgamnnifjaa
open Go.RowKit Go.Deep Go.Shelf
set_option linter.unusedVariables false

attribute [local go_sem] Oper.semAt_some

/-- While roots are marked: the circuit's box A, the answer's Q, the iterator's N, the variable B of the row R of marks. -/
structure Pr1 (w wr : World) (A Q N B R M : Nat) (inp : Int) (c1 c2 c3 : Value) (S : Nat → Bool) : Prop where
  a : Own4 wr A 33 (.int .i64 inp) c1 c2 c3
  q : Own4 wr Q 33 (.int .i64 0) (.slice none 0 0) (.slice none 0 0) (.slice none 0 0)
  n : Own4 wr N 33 (.int .i64 inp) c1 c2 c3
  b : wr.heap[B]? = some (.cells #[.slice (some ⟨R, 0, none⟩) M M] 27 (0, 0))
  r : wr.rowIs R 4 M (setF S)
  bel : Below w.heap.size w wr
  wr : w.heap.size ≤ R
  na : A ≠ R
  nq : Q ≠ R
  nn : N ≠ R
  nb : B ≠ R

section
variable {w wr w' : World} {A Q N B R M : Nat} {inp : Int} {c1 c2 c3 : Value} {S S' : Nat → Bool}
theorem Pr1.chg (h : Pr1 w wr A Q N B R M inp c1 c2 c3 S) (hc : Chg (· = R) wr w') (hr : w'.rowIs R 4 M (setF S')) : Pr1 w w' A Q N B R M inp c1 c2 c3 S' :=
  ⟨h.a.chg hc h.na, h.q.chg hc h.nq, h.n.chg hc h.nn, (hc.block B (Array.getElem?_eq_some_iff.1 h.b).1 h.nb).trans h.b, hr, Chg.below h.bel h.bel.size hc (fun k e => by have e' : k = R := e; have := h.wr; omega), h.wr, h.na, h.nq, h.nn, h.nb⟩
theorem Pr1.below (h : Pr1 w wr A Q N B R M inp c1 c2 c3 S) (hb : Below wr.heap.size wr w') : Pr1 w w' A Q N B R M inp c1 c2 c3 S := h.chg (Chg.of_below hb) (h.r.of_block (hb.block _ h.r.lt))
theorem Pr1.kept (h : Pr1 w wr A Q N B R M inp c1 c2 c3 S) {row : Option Nat} {base : Nat} (hg : wr.grownBy w' row) (hr : ∀ r, row = some r → base ≤ r ∧ ∃ o : Obj, wr.heap[r]? = some o ∧ o.isCells = false) (hR : R < base) (hw : w.heap.size ≤ base) : Pr1 w w' A Q N B R M inp c1 c2 c3 S := by
  have hc := fun r e => (hr r e).2
  exact ⟨kept_cells hg hc h.a, kept_cells hg hc h.q, kept_cells hg hc h.n, kept_cells hg hc h.b, h.r.of_block (hg.block R h.r.lt (fun e => by have := (hr R e.symm).1; omega)), h.bel.grown hg h.bel.size (fun r e => by have := (hr r e).1; omega), h.wr, h.na, h.nq, h.nn, h.nb⟩
theorem Pr1.set (h : Pr1 w wr A Q N B R M inp c1 c2 c3 S) (n : Nat) : Pr1 w (wr.setCell ⟨R, n, none⟩ (.bool true)) A Q N B R M inp c1 c2 c3 (setS S n) ∧ KeepsOthers wr (wr.setCell ⟨R, n, none⟩ (.bool true)) ∧ KpA w.heap.size N wr (wr.setCell ⟨R, n, none⟩ (.bool true)) :=
  ⟨h.chg (Chg.set _ _ _ _) (setF_set h.r), keeps_of_chg (Chg.set _ _ _ _) h.r, (Below.refl _ _).setCell (p := ⟨R, n, none⟩) h.wr _, blk_setCell_other _ _ _ _ h.nn⟩
end

/-- The roots, as numbers of nodes. -/
theorem roots_take (es : List Int) (k : Nat) (h : k < es.length) : setAll ((es.take (k + 1)).map fun x => (x / 2).toNat) = setS (setAll ((es.take k).map fun x => (x / 2).toNat)) (es.getD k 0 / 2).toNat := by
  rw [List.take_succ_eq_append_getElem h, List.map_append, List.map_cons, List.map_nil, setAll_snoc]
  have e : es.getD k 0 = es[k] := by simp [List.getD, h]
  rw [e]

/-- One thing more in a row of the call's own, and its variable told: what else is kept. -/
theorem push_keep {w1 w' : World} {e bt : TypeId} {v v' : Value} {T n sz lo : Nat} {zs : List Value} (hr : w1.ownsRow lo e sz v n zs) (hg : w1.grownBy w' v.ownBlock) (ht : w1.heap[T]? = some (.cells #[v] bt (0, 0))) (hbt : bt ≠ e) :
    (∀ {k : Nat} {cs : Array Value} {t : TypeId} {fz : Nat × Nat}, w1.heap[k]? = some (.cells cs t fz) → t ≠ e → t ≠ bt → (w'.setCell ⟨T, 0, none⟩ v').heap[k]? = some (.cells cs t fz)) ∧
    (∀ {k : Nat} {o : Obj}, w1.heap[k]? = some o → o.isCells = false → (w'.setCell ⟨T, 0, none⟩ v').heap[k]? = some o) ∧ (w'.setCell ⟨T, 0, none⟩ v').heap[T]? = some (.cells #[v'] bt (0, 0)) ∧
    (∀ {n' : Nat} {zs' : List Value}, w'.ownsRow lo e sz v' n' zs' → (w'.setCell ⟨T, 0, none⟩ v').ownsRow lo e sz v' n' zs') := by
  have key : ∀ {k : Nat} {cs : Array Value} {t : TypeId} {fz : Nat × Nat}, w1.heap[k]? = some (.cells cs t fz) → t ≠ e → w'.heap[k]? = some (.cells cs t fz) := fun hk h => (hg.block _ (Array.getElem?_eq_some_iff.1 hk).1 (fun e2 => row_ne hr hk h e2.symm)).trans hk
  have hT := key ht hbt
  refine ⟨fun hk h1 h2 => ?_, fun {k o} hk hn => ?_, by simp [World.setCell, Array.getElem?_modify, hT], fun hr' => row_of_block hr' (fun k e1 => blk_setCell_other _ _ _ _ (fun e2 => row_ne hr' hT hbt (by rw [e1]; exact congrArg some e2)))⟩
  · have hk' := key hk h1
    refine (blk_setCell_other _ _ _ _ (fun e => ?_)).trans hk'
    have e' : _ = T := e
    rw [e', hT] at hk'
    injection hk' with hk'
    injection hk' with _ hk'
    exact h2 hk'.symm
  · have hk2 : w'.heap[k]? = some o := (hg.block k (Array.getElem?_eq_some_iff.1 hk).1 (fun e => by
      obtain ⟨cs, hcs⟩ := row_cells hr e.symm
      rw [hcs] at hk; cases hk; cases hn)).trans hk
    refine (blk_setCell_other _ _ _ _ (fun e => ?_)).trans hk2
    have e' : k = T := e
    rw [e', hT] at hk2; cases hk2; cases hn

/-- While ands are put that are needed: besides, the variables V and T of the new ands and of what nodes have become, and D, which a range has left. -/
structure Pr2 (w wr : World) (A Q N B R M V T D : Nat) (inp : Int) (c1 c2 c3 : Value) (S : Nat → Bool) (va : Value) (xs : List (Int × Int)) (vt : Value) (to : List Int) : Prop where
  a : Own4 wr A 33 (.int .i64 inp) c1 c2 c3
  q : Own4 wr Q 33 (.int .i64 0) (.slice none 0 0) (.slice none 0 0) (.slice none 0 0)
  n : Own4 wr N 33 (.int .i64 inp) c1 c2 c3
  b : wr.heap[B]? = some (.cells #[.slice (some ⟨R, 0, none⟩) M M] 27 (0, 0))
  r : wr.rowIs R 4 M (setF S)
  v : wr.heap[V]? = some (.cells #[va] 31 (0, 0))
  t : wr.heap[T]? = some (.cells #[vt] 121 (0, 0))
  rv : wr.ownsRow w.heap.size 65 2 va xs.length (andV xs)
  rt : wr.ownsRow w.heap.size 79 1 vt to.length (intV to)
  d : wr.heap[D]? = some (.deferred (some []))
  bel : Below w.heap.size w wr
  wv : w.heap.size ≤ V
  wt : w.heap.size ≤ T

section
variable {w wr w1 w' : World} {A Q N B R M V T D : Nat} {inp : Int} {c1 c2 c3 : Value} {S : Nat → Bool} {va va' : Value} {xs : List (Int × Int)} {vt vt' : Value} {to : List Int}
theorem Pr2.below (h : Pr2 w wr A Q N B R M V T D inp c1 c2 c3 S va xs vt to) (hb : Below wr.heap.size wr w') : Pr2 w w' A Q N B R M V T D inp c1 c2 c3 S va xs vt to :=
  ⟨h.a.below hb, h.q.below hb, h.n.below hb, (hb.block _ (Array.getElem?_eq_some_iff.1 h.b).1).trans h.b, h.r.of_block (hb.block _ h.r.lt), (hb.block _ (Array.getElem?_eq_some_iff.1 h.v).1).trans h.v, (hb.block _ (Array.getElem?_eq_some_iff.1 h.t).1).trans h.t, row_below h.rv hb, row_below h.rt hb, (hb.block _ (Array.getElem?_eq_some_iff.1 h.d).1).trans h.d, belNext h.bel hb, h.wv, h.wt⟩

theorem Pr2.kept (h : Pr2 w wr A Q N B R M V T D inp c1 c2 c3 S va xs vt to) {row : Option Nat} {base : Nat} (hg : wr.grownBy w' row) (hr : ∀ r, row = some r → base ≤ r ∧ ∃ o : Obj, wr.heap[r]? = some o ∧ o.isCells = false) (hR : R < base) (hD : D < base) (hw : w.heap.size ≤ base) : Pr2 w w' A Q N B R M V T D inp c1 c2 c3 S va xs vt to := by
  have hc := fun r e => (hr r e).2
  refine ⟨kept_cells hg hc h.a, kept_cells hg hc h.q, kept_cells hg hc h.n, kept_cells hg hc h.b, h.r.of_block (hg.block R h.r.lt (fun e => by have := (hr R e.symm).1; omega)), kept_cells hg hc h.v, kept_cells hg hc h.t, row_of_block h.rv (fun k e => ?_), row_of_block h.rt (fun k e => ?_), (hg.block D (Array.getElem?_eq_some_iff.1 h.d).1 (fun e => by have := (hr D e.symm).1; omega)).trans h.d, h.bel.grown hg h.bel.size (fun r e => by have := (hr r e).1; omega), h.wv, h.wt⟩
  · obtain ⟨cs, hcs⟩ := row_cells h.rv e
    rw [hcs]; exact kept_cells hg hc hcs
  · obtain ⟨cs, hcs⟩ := row_cells h.rt e
    rw [hcs]; exact kept_cells hg hc hcs

/-- What else a step of the kind keeps. -/
theorem push_kp {e bt : TypeId} {v v' : Value} {P n sz : Nat} {zs : List Value} (hn : Own4 wr N 33 (.int .i64 inp) c1 c2 c3) (hl : Below w.heap.size w wr) (hb : Below wr.heap.size wr w1) (hr : w1.ownsRow w.heap.size e sz v n zs) (hg : w1.grownBy w' v.ownBlock) (ht : w1.heap[P]? = some (.cells #[v] bt (0, 0))) (hbt : bt ≠ e) (he : e ≠ 33) (hbe : bt ≠ 33) (hP : w.heap.size ≤ P) :
    KeepsOthers wr (w'.setCell ⟨P, 0, none⟩ v') ∧ KpA w.heap.size N wr (w'.setCell ⟨P, 0, none⟩ v') ∧ Below w.heap.size w (w'.setCell ⟨P, 0, none⟩ v') := by
  obtain ⟨k1, k2, _, _⟩ := push_keep (v' := v') hr hg ht hbt
  have hbb : Below w.heap.size w1 (w'.setCell ⟨P, 0, none⟩ v') := (Chg.below (Below.refl _ _) (Nat.le_trans hl.size hb.size) (chg_of_grown hg) (fun k e => (World.ownsRow.lt hr k e).1)).setCell (p := ⟨P, 0, none⟩) hP _
  refine ⟨⟨by have := hb.size; have := hg.size; simp; omega, fun k o hk ho => k2 ((hb.block k (Array.getElem?_eq_some_iff.1 hk).1).trans hk) ho⟩, ⟨(hb.mono hl.size).trans hbb, ?_⟩, (belNext hl hb).trans hbb⟩
  exact (k1 (Own4.eq (hn.below hb)) (fun e => he e.symm) (fun e => hbe e.symm)).trans (Own4.eq hn).symm

theorem rowIs_keep {b : Nat} {t : TypeId} {n : Nat} {f : Nat → Value} (h : wr.rowIs b t n f) (hk : ∀ {cs : Array Value} {fz : Nat × Nat}, wr.heap[b]? = some (.cells cs t fz) → w'.heap[b]? = some (.cells cs t fz)) : w'.rowIs b t n f := by
  have h2 := h
  obtain ⟨cells, hb, hrest⟩ := h2
  exact h.of_block ((hk hb).trans hb.symm)

theorem Pr2.pushT (h : Pr2 w wr A Q N B R M V T D inp c1 c2 c3 S va xs vt to) (hb : Below wr.heap.size wr w1) (hg : w1.grownBy w' vt.ownBlock) {r : Int} (hr : w'.ownsRow w.heap.size 79 1 vt' (to.length + 1) (intV (to ++ [r]))) :
    Pr2 w (w'.setCell ⟨T, 0, none⟩ vt') A Q N B R M V T D inp c1 c2 c3 S va xs vt' (to ++ [r]) ∧ KeepsOthers wr (w'.setCell ⟨T, 0, none⟩ vt') ∧ KpA w.heap.size N wr (w'.setCell ⟨T, 0, none⟩ vt') := by
  have g := h.below hb
  obtain ⟨k1, k2, k3, k4⟩ := push_keep (v' := vt') g.rt hg g.t (by decide)
  obtain ⟨p1, p2, p3⟩ := push_kp (v' := vt') h.n h.bel hb g.rt hg g.t (by decide) (by decide) (by decide) h.wt
  refine ⟨⟨k1 g.a (by decide) (by decide), k1 g.q (by decide) (by decide), k1 g.n (by decide) (by decide), k1 g.b (by decide) (by decide), rowIs_keep g.r (fun hk => k1 hk (by decide) (by decide)), k1 g.v (by decide) (by decide), k3, row_of_block g.rv (fun k e => ?_), ?_, k2 g.d rfl, p3, h.wv, h.wt⟩, p1, p2⟩
  · obtain ⟨cs, hcs⟩ := row_cells g.rv e
    rw [hcs]; exact k1 hcs (by decide) (by decide)
  · have hr' : w'.ownsRow w.heap.size 79 1 vt' (to ++ [r]).length (intV (to ++ [r])) := by rw [List.length_append]; exact hr
    exact k4 hr'

theorem Pr2.pushV (h : Pr2 w wr A Q N B R M V T D inp c1 c2 c3 S va xs vt to) (hb : Below wr.heap.size wr w1) (hg : w1.grownBy w' va.ownBlock) {p : Int × Int} (hr : w'.ownsRow w.heap.size 65 2 va' (xs.length + 1) (andV (xs ++ [p]))) :
    Pr2 w (w'.setCell ⟨V, 0, none⟩ va') A Q N B R M V T D inp c1 c2 c3 S va' (xs ++ [p]) vt to ∧ KeepsOthers wr (w'.setCell ⟨V, 0, none⟩ va') ∧ KpA w.heap.size N wr (w'.setCell ⟨V, 0, none⟩ va') := by
  have g := h.below hb
  obtain ⟨k1, k2, k3, k4⟩ := push_keep (v' := va') g.rv hg g.v (by decide)
  obtain ⟨p1, p2, p3⟩ := push_kp (v' := va') h.n h.bel hb g.rv hg g.v (by decide) (by decide) (by decide) h.wv
  refine ⟨⟨k1 g.a (by decide) (by decide), k1 g.q (by decide) (by decide), k1 g.n (by decide) (by decide), k1 g.b (by decide) (by decide), rowIs_keep g.r (fun hk => k1 hk (by decide) (by decide)), k3, k1 g.t (by decide) (by decide), ?_, row_of_block g.rt (fun k e => ?_), k2 g.d rfl, p3, h.wv, h.wt⟩, p1, p2⟩
  · have hr' : w'.ownsRow w.heap.size 65 2 va' (xs ++ [p]).length (andV (xs ++ [p])) := by rw [List.length_append]; exact hr
    exact k4 hr'
  · obtain ⟨cs, hcs⟩ := row_cells g.rt e
    rw [hcs]; exact k1 hcs (by decide) (by decide)
end

theorem roots_eq (ls : List (Int × Bool)) (bs : List Int) : ((endsOf ls bs).map fun x => (x / 2).toNat) = rootsOf ls bs := by simp [endsOf, rootsOf, nodesL]

set_option maxRecDepth 100000 in
set_option maxHeartbeats 8000000 in
theorem withoutNeedless_any (inp : Int) (al aa ab : Option Addr) (cl ca cb : Nat) (ls : List (Int × Bool)) (xs : List (Int × Int)) (bs : List Int) (F : Nat) (w : World) (hC : IsCir w al aa ab cl ca cb ls xs bs) (h0 : 0 ≤ inp) (h8 : inp ≤ 8) (hl8 : ls.length ≤ 8) (hx40 : xs.length ≤ 40) (hb4 : bs.length ≤ 4) (hF : (F : Int) = 1 + inp + ls.length) (hA : AndsOk F xs)
    (hL : ∀ p ∈ ls, 0 ≤ p.1 ∧ p.1 < 2 * ((F + xs.length : Nat) : Int)) (hB : ∀ x ∈ bs, 0 ≤ x ∧ x < 2 * ((F + xs.length : Nat) : Int)) (S : Nat → Bool) (hS : S = sweepF F xs (setAll (rootsOf ls bs)) xs.length) :
    Calls Try.prog 84 #[.agg #[.int .i64 inp, .slice al ls.length cl, .slice aa xs.length ca, .slice ab bs.length cb]] w (LessPost inp (mapLat (pruneS F xs S xs.length).1 ls) (pruneS F xs S xs.length).2 (mapBad (pruneS F xs S xs.length).1 bs) w) := by
  have HC : Hid (∀ w', Below w.heap.size w w' → IsCir w' al aa ab cl ca cb ls xs bs) := fun w' h => hC.below h
  have HC0 : Hid (IsCir w al aa ab cl ca cb ls xs bs) := hC
  have HFA : Hid (∀ V, Calls Try.prog 97 #[.agg #[.int .i64 inp, .slice al ls.length cl, .slice aa xs.length ca, .slice ab bs.length cb]] V fun e w' => e = .returned (.int .i64 (F : Int)) ∧ Below V.heap.size V w') := fun V => by rw [hF]; exact firstAnd_any _ _ _ _ _ _ _ _ _ _ _ h0 h8 hl8
  have HST := hideN (fun V => startOf_any inp al aa ab cl ca cb ls xs bs F V h0 h8 hl8 hF)
  obtain ⟨M, hM⟩ : ∃ M : Nat, M = F + xs.length := ⟨_, rfl⟩
  have HMM : Hid (M = F + xs.length) := hM
  have hMe : 1 + inp + (ls.length : Int) + (xs.length : Int) = (M : Int) := by omega
  have HNO : Hid (∀ V, Calls Try.prog 71 #[.agg #[.int .i64 inp, .slice al ls.length cl, .slice aa xs.length ca, .slice ab bs.length cb]] V fun e w' => e = .returned (.int .i64 (M : Int)) ∧ Below V.heap.size V w') := fun V => by rw [← hMe]; exact nodesOf_any _ _ _ _ _ _ _ _ _ _ _ h0 h8 hl8 hx40
  have hM1 : 1 ≤ M := by omega
  have hM100 : M ≤ 100 := by omega
  have HFF := hideN hF
  obtain ⟨im, him, hzm0, hzm1, hzm2⟩ := info_parts info_meaning
  obtain ⟨ia, hia, hza0, hza1, hza2⟩ := info_parts info_and
  have HAO := hideN hA
  have HL := hideN hL
  have HBD := hideN hB
  have HSS := hideN hS
  have HAH : Hid (Ahead F xs) := aheadA hA
  have HSM : Hid (∀ p ∈ xs, (0 ≤ p.1 ∧ p.1 ≤ 1000) ∧ (0 ≤ p.2 ∧ p.2 ≤ 1000)) := fun p hp => by
    obtain ⟨i, hi, rfl⟩ := List.mem_iff_getElem.1 hp
    have h := hA i hi
    have e : xs.getD i (0, 0) = xs[i] := by simp [List.getD, hi]
    rw [e] at h
    omega
  obtain ⟨W1, hW1⟩ : ∃ W1, W1 = (w.alloc (.cells #[.int .i64 inp, .slice al ls.length cl, .slice aa xs.length ca, .slice ab bs.length cb] 33)).alloc (.cells #[.int .i64 0, .slice none 0 0, .slice none 0 0, .slice none 0 0] 33) := ⟨_, rfl⟩
  have HA1 : Hid (Own4 W1 w.heap.size 33 (.int .i64 inp) (.slice al ls.length cl) (.slice aa xs.length ca) (.slice ab bs.length cb)) := by rw [hW1]; exact (Own4.new _ _ _ _ _ _).below (belOne _ _)
  have HQ1 : Hid (Own4 W1 (w.heap.size + 1) 33 (.int .i64 0) (.slice none 0 0) (.slice none 0 0) (.slice none 0 0)) := by
    rw [hW1]
    have h := Own4.new (w.alloc (.cells #[.int .i64 inp, .slice al ls.length cl, .slice aa xs.length ca, .slice ab bs.length cb] 33)) 33 (.int .i64 0) (.slice none 0 0) (.slice none 0 0) (.slice none 0 0)
    rw [World.size_alloc] at h
    exact h
  have HB1 : Hid (Below w.heap.size w W1) := by rw [hW1]; exact belNext (belOne _ _) (belOne _ _)
  have HW1 := hideN hW1
  clear hC hF hA hL hB hW1 hM hMe hS
  refine (callsIn_wide (n := 8)).1 ?_
  refine callsIn_of_wp_marks Try.func84 rfl trivial ?_ rfl
  simp only [Try.ntmps84, List.size_toArray, List.length_cons, List.length_nil, Nat.reduceAdd, Nat.reduceSub, Array.replicate_succ, Array.replicate_zero, List.push_toArray, List.append_toArray, List.nil_append, List.cons_append]
  refine wpIn_wide.2 ?_
  go_wp2_with fail
  rw [← HW1.out]
  refine (HNO.out _).mono ?_
  rintro e w2 ⟨rfl, hb2⟩
  have HB2 : Hid (Below w.heap.size w w2) := belNext HB1.out hb2
  have HA2 := hideN (HA1.out.below hb2)
  have HQ2 := hideN (HQ1.out.below hb2)
  clear hb2 HA1 HQ1 HB1 HW1
  have hq2 := HQ2.out.lt
  have hmk := run_make_row' (P := Try.prog) 27 4 (.bool false) 1 Try.underlying27 info_bool rfl .i64 .i64 M (by omega) (by omega)
  have hbm : Below w2.heap.size w2 ((w2.alloc (.cells (madeCells #[.bool false] M) 4)).alloc (.cells #[.slice (some ⟨w2.heap.size, 0, none⟩) M M] 27)) := belNext (belOne _ _) (belOne _ _)
  have ham := HA2.out.below hbm
  have a0 := ham.four.c0
  have a1 := ham.four.c1
  have a2 := ham.four.c2
  have a3 := ham.four.c3
  have a4 := HA2.out.lt
  have HBM := hideN hbm
  have HRW : Hid (((w2.alloc (.cells (madeCells #[.bool false] M) 4)).alloc (.cells #[.slice (some ⟨w2.heap.size, 0, none⟩) M M] 27)).rowIs w2.heap.size 4 M (setF (fun _ => false))) := by
    have h : (w2.alloc (.cells (madeCells #[.bool false] M) 4)).rowIs w2.heap.size 4 M (setF (fun _ => false)) := (World.rowIs_made w2 _ M 4).congr (fun j _ => rfl)
    exact h.of_block ((belOne _ _).block _ h.lt)
  have HNB : Hid (((w2.alloc (.cells (madeCells #[.bool false] M) 4)).alloc (.cells #[.slice (some ⟨w2.heap.size, 0, none⟩) M M] 27)).heap[w2.heap.size + 1]? = some (.cells #[.slice (some ⟨w2.heap.size, 0, none⟩) M M] 27 (0, 0))) := by
    have h := World.alloc_heap_new (w2.alloc (.cells (madeCells #[.bool false] M) 4)) (.cells #[.slice (some ⟨w2.heap.size, 0, none⟩) M M] 27)
    rw [World.size_alloc] at h
    exact h
  have HSZ : Hid (((w2.alloc (.cells (madeCells #[.bool false] M) 4)).alloc (.cells #[.slice (some ⟨w2.heap.size, 0, none⟩) M M] 27)).heap.size = w2.heap.size + 2) := by show _ = _; simp
  clear ham hbm
  go_wp2_with (first | (go_at_call 91; refine (ends_any _ _ _ _ _ _ _ _ _ _ _).mono ?_; rintro e w' ⟨rfl, rfl⟩))
  have hP0 : Pr1 w (((w2.alloc (.cells (madeCells #[.bool false] M) 4)).alloc (.cells #[.slice (some ⟨w2.heap.size, 0, none⟩) M M] 27)).alloc (.cells #[.int .i64 inp, .slice al ls.length cl, .slice aa xs.length ca, .slice ab bs.length cb] 33)) w.heap.size (w.heap.size + 1) (w2.heap.size + 2) (w2.heap.size + 1) w2.heap.size M inp (.slice al ls.length cl) (.slice aa xs.length ca) (.slice ab bs.length cb) (fun _ => false) := by
    have h := Own4.new ((w2.alloc (.cells (madeCells #[.bool false] M) 4)).alloc (.cells #[.slice (some ⟨w2.heap.size, 0, none⟩) M M] 27)) 33 (.int .i64 inp) (.slice al ls.length cl) (.slice aa xs.length ca) (.slice ab bs.length cb)
    rw [HSZ.out] at h
    exact ⟨(HA2.out.below HBM.out).below (belOne _ _), (HQ2.out.below HBM.out).below (belOne _ _), h, (blk_alloc_lt _ _ _ (by rw [HSZ.out]; omega)).trans HNB.out, HRW.out.of_block ((belOne _ _).block _ HRW.out.lt), belNext (belNext HB2.out HBM.out) (belOne _ _), by omega, by omega, by omega, by omega, by omega⟩
  have hs0 : (((w2.alloc (.cells (madeCells #[.bool false] M) 4)).alloc (.cells #[.slice (some ⟨w2.heap.size, 0, none⟩) M M] 27)).alloc (.cells #[.int .i64 inp, .slice al ls.length cl, .slice aa xs.length ca, .slice ab bs.length cb] 33)).heap.size = w2.heap.size + 3 := by rw [World.size_alloc, HSZ.out]
  generalize (((w2.alloc (.cells (madeCells #[.bool false] M) 4)).alloc (.cells #[.slice (some ⟨w2.heap.size, 0, none⟩) M M] 27)).alloc (.cells #[.int .i64 inp, .slice al ls.length cl, .slice aa xs.length ca, .slice ab bs.length cb] 33)) = W0 at *
  clear a0 a1 a2 a3 hmk HSZ HNB HRW HBM HA2 HQ2 HB2
  refine (wpIn_wide (n := 8)).1 ?_
  refine rangeAll (by omega) (gf := 115) (lb := #[.pointer (some ⟨w2.heap.size + 2, 0, none⟩)]) rfl (enters_of Try.func115 (by kernel_rfl) rfl)
    (ends_gives 7 (by omega) (w2.heap.size + 2) w.heap.size inp al aa ab cl xs.length ca cb ls bs hl8 hb4 W0 hP0.bel.size hP0.n (HC.out _ hP0.bel).isL (HC.out _ hP0.bel).isB (fun b off e => (HC0.out.inL b off e)) (fun b off e => (HC0.out.inB b off e))) KpA.trans (KpA.put hP0.bel.size (by omega)) (fun _ => rfl)
    (fun k W => Pr1 w W w.heap.size (w.heap.size + 1) (w2.heap.size + 2) (w2.heap.size + 1) w2.heap.size M inp (.slice al ls.length cl) (.slice aa xs.length ca) (.slice ab bs.length cb) (setAll (((endsOf ls bs).take k).map fun x => (x / 2).toNat)))
    ?hI hP0
    (fun x a' W => a' = { tmps := #[.agg #[.int .i64 inp, .slice al ls.length cl, .slice aa xs.length ca, .slice ab bs.length cb], .pointer (some ⟨w.heap.size, 0, none⟩), .pointer (some ⟨w.heap.size + 1, 0, none⟩), .pointer (some ⟨w2.heap.size + 1, 0, none⟩), .int .i64 x, undef, undef, undef, undef, .agg #[.int .i64 inp, .slice al ls.length cl, .slice aa xs.length ca, .slice ab bs.length cb], .int .i64 (M : Int), .slice (some ⟨w2.heap.size, 0, none⟩) M M, .agg #[.int .i64 inp, .slice al ls.length cl, .slice aa xs.length ca, .slice ab bs.length cb], .func (.func 115) #[] #[.pointer (some ⟨w2.heap.size + 1 + 1, 0, none⟩)], .int .i64 x, undef, undef, undef, undef, undef, undef, undef, undef, undef, undef, undef, undef, undef, undef, undef, undef, undef, undef, undef, undef, undef, undef, undef, undef, undef, undef, undef, undef, undef, undef, undef, undef, undef, undef, undef, undef, undef, undef, undef, undef, undef, undef], defers := [] })
    ?hAx ?assign ?body ?done
  case hI =>
    rintro k A B row hS hg hr
    exact Pr1.kept hS hg hr (by omega) hP0.bel.size
  case hAx =>
    rintro x a' s A B row he hg hr
    exact he
  case assign =>
    rintro l k x W K hx hS hK
    gi_wp2
    exact hK _ _ (KeepsFrom.refl _ _) (KpA.refl _ _ _) hS rfl
  case body =>
    rintro l k x a' W hx hS rfl
    have hkl : k < (endsOf ls bs).length := (List.getElem?_eq_some_iff.1 hx).1
    have hxg : (endsOf ls bs).getD k 0 = x := by simp [List.getD, hx]
    have hmem : x ∈ endsOf ls bs := List.mem_of_getElem? hx
    have hxr : 0 ≤ x ∧ x < 2 * ((F + xs.length : Nat) : Int) := by
      rcases List.mem_append.1 hmem with h | h
      · obtain ⟨p, hp, rfl⟩ := List.mem_map.1 h
        exact HL.out p hp
      · exact HBD.out x h
    have hRT := roots_take (endsOf ls bs) k hkl
    rw [hxg] at hRT
    obtain ⟨n, hn⟩ : ∃ n : Nat, x / 2 = (n : Int) := ⟨(x / 2).toNat, by omega⟩
    rw [hn, Int.toNat_natCast] at hRT
    have hnM : n < M := by have := HMM.out; omega
    have HND : Hid (∀ V, Calls Try.prog 72 #[.int .i64 x] V fun e w' => e = .returned (.int .i64 (n : Int)) ∧ w' = V) := fun V => by rw [← hn, ← halfW_eq hxr.1 (by unfold I64; omega)]; exact node_any x V
    have HI1 : Hid (∀ V, Pr1 w V w.heap.size (w.heap.size + 1) (w2.heap.size + 2) (w2.heap.size + 1) w2.heap.size M inp (.slice al ls.length cl) (.slice aa xs.length ca) (.slice ab bs.length cb) (setS (setAll (((endsOf ls bs).take k).map fun x => (x / 2).toNat)) n) → KeepsFrom W0.heap.size W V → KpA w.heap.size (w2.heap.size + 2) W V → KeepsFrom W0.heap.size W V ∧ KpA w.heap.size (w2.heap.size + 2) W V ∧ Pr1 w V w.heap.size (w.heap.size + 1) (w2.heap.size + 2) (w2.heap.size + 1) w2.heap.size M inp (.slice al ls.length cl) (.slice aa xs.length ca) (.slice ab bs.length cb) (setAll (((endsOf ls bs).take (k + 1)).map fun x => (x / 2).toNat))) := fun V h1 h2 h3 => ⟨h2, h3, by rw [hRT]; exact h1⟩
    generalize setAll (((endsOf ls bs).take k).map fun x => (x / 2).toNat) = T0 at *
    have HP := hideN (hS.below (below_drewN (Below.refl _ _) 1))
    have HBW : Hid (Below W.heap.size W W.drew) := below_drewN (Below.refl _ _) 1
    have HPW := hideN hS
    have s0 : W.cell? ⟨w2.heap.size + 1, 0, none⟩ = some (.slice (some ⟨w2.heap.size, 0, none⟩) M M) := by simp [World.cell?, hS.b]
    have d0 := hS.r.cell (i := n) hnM
    have d1 := hS.r.frozen n
    have d2 := hS.r.lt
    clear hx hS hkl hxg hmem hxr hRT hn
    gi_wp2
    refine region_roundS (fin := 4) (S := fun V => V.cell? ⟨w2.heap.size + 1, 0, none⟩ = some (.slice (some ⟨w2.heap.size, 0, none⟩) M M)) (by kernel_rfl) (by kernel_rfl) ?letsA s0 (fun hHeld => ?walkA)
    case letsA =>
      rintro ⟨a, v, h⟩
      have h' := (show Exit.outgrown = Exit.normal ∧ _ from h).1
      cases h'
    case walkA =>
    clear hHeld
    refine takeS (i := 0) (v := .slice (some ⟨w2.heap.size, 0, none⟩) M M) rfl (by kernel_rfl) (by kernel_rfl) (by kernel_rfl) (by kernel_rfl) (fun _ _ _ h => h) (Or.inl ⟨by rfl, fun w hS => by have s0 := hS; go_simp⟩) s0 ?_
    simp only [List.getElem_toArray, List.getElem_cons_zero, Act.put, List.setIfInBounds_toArray, List.set_cons_zero, List.set_cons_succ]
    refine takeS (i := 1) (v := .int .i64 x) rfl (by kernel_rfl) (by kernel_rfl) (by kernel_rfl) (by kernel_rfl) (fun _ _ _ h => h) (Or.inl ⟨by rfl, fun w hS => by have s0 := hS; go_simp⟩) s0 ?_
    simp only [List.getElem_toArray, List.getElem_cons_zero, List.getElem_cons_succ, Act.put, List.setIfInBounds_toArray, List.set_cons_zero, List.set_cons_succ]
    refine oneS (i := 2) (by kernel_rfl) rfl (by rfl) ?_
    simp only [List.getElem_toArray, List.getElem_cons_zero, List.getElem_cons_succ]
    go_simp
    refine (HND.out _).mono ?_
    rintro e w' ⟨rfl, hw'⟩
    obtain rfl := hw'.symm
    refine ⟨s0, ?_⟩
    refine oneS (i := 3) (by kernel_rfl) rfl (by rfl) ?_
    simp only [List.getElem_toArray, List.getElem_cons_zero, List.getElem_cons_succ]
    go_simp
    refine oneS (i := 4) (by kernel_rfl) rfl (by rfl) ?_
    simp only [List.getElem_toArray, List.getElem_cons_zero, List.getElem_cons_succ]
    go_simp
    refine doneS (by kernel_rfl) ?_ _
    have hpu := HP.out.set n
    exact ⟨rfl, HI1.out _ hpu.1 (KeepsFrom.trans (KeepsOthers.from (show KeepsOthers W W.drew from ⟨Nat.le_refl _, fun _ _ h _ => h⟩) _) (hpu.2.1.from _)) ((KpA.of_below HPW.out.bel.size HPW.out.n.lt HBW.out).trans hpu.2.2)⟩
  case done =>
    rintro D W hD hS hK
    rw [List.take_length, roots_eq] at hS
    have HP1 : Hid (Pr1 w W w.heap.size (w.heap.size + 1) (w2.heap.size + 2) (w2.heap.size + 1) w2.heap.size M inp (.slice al ls.length cl) (.slice aa xs.length ca) (.slice ab bs.length cb) (setAll (rootsOf ls bs))) := hS
    have HKD : Hid (W.heap[D]? = some (.deferred (some []))) := hK
    have s0 : W.cell? ⟨w2.heap.size + 1, 0, none⟩ = some (.slice (some ⟨w2.heap.size, 0, none⟩) M M) := by simp [World.cell?, hS.b]
    have s1 := cell_lt s0
    have a0 := hS.a.four.c0
    have a1 := hS.a.four.c1
    have a2 := hS.a.four.c2
    have a3 := hS.a.four.c3
    have hDl := (Array.getElem?_eq_some_iff.1 hK).1
    clear hS hK
    go_wp2_with fail
    refine (spread_any inp al aa ab cl ca cb ls xs bs w2.heap.size M F (setAll (rootsOf ls bs)) W h0 h8 hl8 hx40 HFF.out HMM.out HAH.out HSM.out (fun k off e => by have h := HC0.out.inA k off e; have h2 := HP1.out.bel.size; exact ⟨by omega, by omega⟩) (HC.out _ HP1.out.bel).isA HP1.out.r).mono ?_
    rintro e w3 ⟨rfl, hr3, hc3⟩
    rw [← HSS.out] at hr3
    have HP3 := hideN (HP1.out.chg hc3 hr3)
    have HK3 : Hid (w3.heap[D]? = some (.deferred (some []))) := (hc3.block D hDl (by omega)).trans HKD.out
    have hDl3 := (Array.getElem?_eq_some_iff.1 HK3.out).1
    have hs3 : w2.heap.size + 3 ≤ w3.heap.size := by have := hc3.size; omega
    clear hr3 hc3 HP1 HKD hDl s0 s1 a0 a1 a2 a3
    have HA4 := hideN (HP3.out.a.below (belOne w3 (.cells #[.slice none 0 0] 31)))
    have c0 := HA4.out.four.c0
    have c1 := HA4.out.four.c1
    have c2 := HA4.out.four.c2
    have c3 := HA4.out.four.c3
    go_wp2_with fail
    refine (HST.out _).mono ?_
    rintro e w4 ⟨ao, cap, rfl, hr4, hb4'⟩
    have hbA : Below w3.heap.size w3 (w3.alloc (.cells #[.slice none 0 0] 31)) := belOne _ _
    have HP4 := hideN ((HP3.out.below hbA).below hb4')
    have HV4 : Hid (w4.heap[w3.heap.size]? = some (.cells #[.slice none 0 0] 31 (0, 0))) := (hb4'.block _ (by simp)).trans (World.alloc_heap_new _ _)
    have HK4 : Hid (w4.heap[D]? = some (.deferred (some []))) := (hb4'.block _ (by simp; omega)).trans ((hbA.block _ hDl3).trans HK3.out)
    have hs4 : w3.heap.size + 1 ≤ w4.heap.size := by have := hb4'.size; simpa using this
    have HR4 : Hid (w4.ownsRow w.heap.size 79 1 (.slice ao F cap) F (intV (start2 F))) := row_base hr4 (by rw [World.size_alloc]; have := HP3.out.bel.size; omega)
    clear hr4 hb4' hbA HP3 HK3 HA4 c0 c1 c2 c3
    have HA5 := hideN (HP4.out.a.below (belOne w4 (.cells #[.slice ao F cap] 121)))
    have c0 := HA5.out.four.c0
    have c1 := HA5.out.four.c1
    have c2 := HA5.out.four.c2
    have c3 := HA5.out.four.c3
    go_wp2_with (first | (go_at_call 55; refine (andNodes_any _ _ _ _ _ _ _ _ _ _ _).mono ?_; rintro e w' ⟨rfl, rfl⟩))
    have hS0 : Pr2 w ((w4.alloc (.cells #[.slice ao F cap] 121)).alloc (.cells #[.int .i64 inp, .slice al ls.length cl, .slice aa xs.length ca, .slice ab bs.length cb] 33)) w.heap.size (w.heap.size + 1) (w4.heap.size + 1) (w2.heap.size + 1) w2.heap.size M w3.heap.size w4.heap.size D inp (.slice al ls.length cl) (.slice aa xs.length ca) (.slice ab bs.length cb) S (.slice none 0 0) [] (.slice ao F cap) (start2 F) := by
      have hbb : Below w4.heap.size w4 ((w4.alloc (.cells #[.slice ao F cap] 121)).alloc (.cells #[.int .i64 inp, .slice al ls.length cl, .slice aa xs.length ca, .slice ab bs.length cb] 33)) := belNext (belOne _ _) (belOne _ _)
      have h := Own4.new (w4.alloc (.cells #[.slice ao F cap] 121)) 33 (.int .i64 inp) (.slice al ls.length cl) (.slice aa xs.length ca) (.slice ab bs.length cb)
      rw [World.size_alloc] at h
      have hp := HP4.out.below hbb
      have hw4 := HP4.out.bel.size
      refine ⟨hp.a, hp.q, h, hp.b, hp.r, (hbb.block _ (by omega)).trans HV4.out, ?_, World.ownsRow_nil _ _ _ _, ?_, (hbb.block _ (Array.getElem?_eq_some_iff.1 HK4.out).1).trans HK4.out, hp.bel, by omega, by omega⟩
      · rw [blk_alloc_lt _ _ _ (by simp)]; exact World.alloc_heap_new _ _
      · rw [start2_length]; exact row_below HR4.out hbb
    have hs0' : ((w4.alloc (.cells #[.slice ao F cap] 121)).alloc (.cells #[.int .i64 inp, .slice al ls.length cl, .slice aa xs.length ca, .slice ab bs.length cb] 33)).heap.size = w4.heap.size + 2 := by simp
    generalize ((w4.alloc (.cells #[.slice ao F cap] 121)).alloc (.cells #[.int .i64 inp, .slice al ls.length cl, .slice aa xs.length ca, .slice ab bs.length cb] 33)) = W1 at *
    clear c0 c1 c2 c3 HA5 HP4 HV4 HK4 HR4
    refine (wpIn_wide (n := 8)).1 ?_
    refine rangeAll (by omega) (gf := 96) (lb := #[.pointer (some ⟨w4.heap.size + 1, 0, none⟩)]) rfl (enters_of Try.func96 (by kernel_rfl) rfl)
      (andNodes_gives 7 (by omega) (w4.heap.size + 1) w.heap.size inp al aa ab ls.length cl ca bs.length cb xs h0 h8 hl8 hx40 W1 hS0.bel.size hS0.n (HC.out _ hS0.bel).isA (fun b off e => (HC0.out.inA b off e))) KpA.trans (KpA.put hS0.bel.size (by omega)) (fun _ => rfl)
      (fun k W => ∃ a1 n1 k1 a2 n2 k2, Hid ((pruneS F xs S k).2.length = n1) ∧ Hid ((pruneS F xs S k).1.length = n2) ∧ Pr2 w W w.heap.size (w.heap.size + 1) (w4.heap.size + 1) (w2.heap.size + 1) w2.heap.size M w3.heap.size w4.heap.size D inp (.slice al ls.length cl) (.slice aa xs.length ca) (.slice ab bs.length cb) S (.slice a1 n1 k1) (pruneS F xs S k).2 (.slice a2 n2 k2) (pruneS F xs S k).1)
      ?hI2 ⟨none, 0, 0, ao, F, cap, rfl, start2_length F, hS0⟩
      (fun x a' W => ∃ Bx, W1.heap.size ≤ Bx ∧ W.heap[Bx]? = some (.cells #[.int .i64 x.2.1, .int .i64 x.2.2] 65 (0, 0)) ∧ (∀ va, W.heap[w3.heap.size]? = some (.cells #[va] 31 (0, 0)) → va.ownBlock ≠ some Bx) ∧ a' = { tmps := #[.agg #[.int .i64 inp, .slice al ls.length cl, .slice aa xs.length ca, .slice ab bs.length cb], .pointer (some ⟨w.heap.size, 0, none⟩), .pointer (some ⟨w.heap.size + 1, 0, none⟩), .pointer (some ⟨w2.heap.size + 1, 0, none⟩), undef, .pointer (some ⟨w3.heap.size, 0, none⟩), .pointer (some ⟨w4.heap.size, 0, none⟩), .int .i64 x.1, .pointer (some ⟨Bx, 0, none⟩), .agg #[.int .i64 inp, .slice al ls.length cl, .slice aa xs.length ca, .slice ab bs.length cb], .int .i64 (M : Int), .slice (some ⟨w2.heap.size, 0, none⟩) M M, .agg #[.int .i64 inp, .slice al ls.length cl, .slice aa xs.length ca, .slice ab bs.length cb], .func (.func 115) #[] #[.pointer (some ⟨w2.heap.size + 1 + 1, 0, none⟩)], undef, undef, undef, undef, undef, .agg #[.int .i64 inp, .slice al ls.length cl, .slice aa xs.length ca, .slice ab bs.length cb], .slice (some ⟨w2.heap.size, 0, none⟩) M M, .tuple #[], .agg #[.int .i64 inp, .slice al ls.length cl, .slice aa xs.length ca, .slice ab bs.length cb], .slice ao F cap, .agg #[.int .i64 inp, .slice al ls.length cl, .slice aa xs.length ca, .slice ab bs.length cb], .func (.func 96) #[] #[.pointer (some ⟨w4.heap.size + 1, 0, none⟩)], .int .i64 x.1, .agg #[.int .i64 x.2.1, .int .i64 x.2.2], undef, undef, undef, undef, undef, undef, undef, undef, undef, undef, undef, undef, undef, undef, undef, undef, undef, undef, undef, undef, undef, undef, undef, undef, undef, undef, undef, undef, undef], defers := [] })
      ?hAx2 ?assign2 ?body2 ?done2
    case hI2 =>
      rintro k A B row ⟨a1, n1, k1, a2, n2, k2, hn1, hn2, hS⟩ hg hr
      exact ⟨a1, n1, k1, a2, n2, k2, hn1, hn2, hS.kept hg hr (by omega) (by omega) hS0.bel.size⟩
    case hAx2 =>
      rintro x a' s A B row ⟨Bx, hBx, hT, hne, he⟩ hg hr
      refine ⟨Bx, hBx, kept_cells hg (fun r e => (hr r e).2) hT, fun va hva => hne va ?_, he⟩
      rw [← hva]
      exact (hg.block _ (by have := (Array.getElem?_eq_some_iff.1 hT).1; omega) (fun e => by have := (hr _ e.symm).1; omega)).symm
    case assign2 =>
      rintro l k x W K hx ⟨a1, n1, k1, a2, n2, k2, hn1, hn2, hS⟩ hK
      gi_wp2
      have hll := hS.n.lt
      refine hK _ _ ((KeepsOthers.alloc _ _).from _) (KpA.of_below hS.bel.size hS.n.lt (belOne _ _)) ⟨a1, n1, k1, a2, n2, k2, hn1, hn2, hS.below (belOne _ _)⟩ ⟨W.heap.size, by omega, World.alloc_heap_new _ _, fun va hva e => ?_, rfl⟩
      rw [((belOne _ _).block _ (Array.getElem?_eq_some_iff.1 hS.v).1), hS.v] at hva
      simp only [Option.some.injEq, Obj.cells.injEq, Array.mk.injEq, List.cons.injEq, and_true] at hva
      subst hva
      have := (World.ownsRow.lt hS.rv _ e).2
      omega
    case body2 =>
      rintro l k x a' W hx ⟨a1, n1, k1, a2, n2, k2, hn1, hn2, hS⟩ ⟨Bx, hBx, hT, hne, rfl⟩
      have hkl : k < xs.length := by
        have := (List.getElem?_eq_some_iff.1 hx).1
        rw [nodesFrom_length] at this
        exact this
      rw [nodesFrom_get _ xs k hkl] at hx
      obtain rfl : (1 + inp + (ls.length : Int) + (k : Int), xs.getD k (0, 0)) = x := by simpa using hx
      have hF1 : 1 ≤ F := by have := HFF.out; omega
      have hF17 : F ≤ 17 := by have := HFF.out; omega
      have HPO := hideN (pruneS_ok F hF1 xs HAO.out S k (by omega))
      have HSU : Hid (pruneS F xs S (k + 1) = pruneStep F S k (pruneS F xs S k) (xs.getD k (0, 0))) := rfl
      have hps := HAO.out k hkl
      have hnx := hne _ hS.v
      obtain ⟨j, hj⟩ : ∃ j : Nat, j = F + k := ⟨_, rfl⟩
      have hjn : 1 + inp + (ls.length : Int) + (k : Int) = (j : Int) := by have := HFF.out; omega
      have hjM : j < M := by have := HMM.out; omega
      generalize xs.getD k (0, 0) = pq at *
      obtain ⟨p1, p2⟩ := pq
      obtain ⟨⟨hp10, hp11⟩, hp20, hp21⟩ := hps
      have hp10 : 0 ≤ p1 := hp10
      have hp11 : p1 < 2 * ((F : Int) + (k : Int)) := hp11
      have hp20 : 0 ≤ p2 := hp20
      have hp21 : p2 < 2 * ((F : Int) + (k : Int)) := hp21
      have hT : W.heap[Bx]? = some (.cells #[.int .i64 p1, .int .i64 p2] 65 (0, 0)) := hT
      have HI1 : Hid (∀ V a1 n1 k1 a2 n2 k2, Hid ((pruneS F xs S (k + 1)).2.length = n1) → Hid ((pruneS F xs S (k + 1)).1.length = n2) → Pr2 w V w.heap.size (w.heap.size + 1) (w4.heap.size + 1) (w2.heap.size + 1) w2.heap.size M w3.heap.size w4.heap.size D inp (.slice al ls.length cl) (.slice aa xs.length ca) (.slice ab bs.length cb) S (.slice a1 n1 k1) (pruneS F xs S (k + 1)).2 (.slice a2 n2 k2) (pruneS F xs S (k + 1)).1 → KeepsFrom W1.heap.size W V → KpA w.heap.size (w4.heap.size + 1) W V → KeepsFrom W1.heap.size W V ∧ KpA w.heap.size (w4.heap.size + 1) W V ∧ ∃ a1 n1 k1 a2 n2 k2, Hid ((pruneS F xs S (k + 1)).2.length = n1) ∧ Hid ((pruneS F xs S (k + 1)).1.length = n2) ∧ Pr2 w V w.heap.size (w.heap.size + 1) (w4.heap.size + 1) (w2.heap.size + 1) w2.heap.size M w3.heap.size w4.heap.size D inp (.slice al ls.length cl) (.slice aa xs.length ca) (.slice ab bs.length cb) S (.slice a1 n1 k1) (pruneS F xs S (k + 1)).2 (.slice a2 n2 k2) (pruneS F xs S (k + 1)).1) := fun V a1 n1 k1 a2 n2 k2 h1 h2 h3 h4 h5 => ⟨h4, h5, a1, n1, k1, a2, n2, k2, h1, h2, h3⟩
      generalize (pruneS F xs S (k + 1)) = st' at *
      generalize pruneS F xs S k = st at *
      obtain ⟨ol, ov, oz⟩ := HPO.out
      have hn1' := hn1.out
      have hn2' := hn2.out
      subst hn1'
      subst hn2'
      obtain ⟨G, hG⟩ : ∃ G, G = 2 * ((F : Int) + (st.2.length : Int)) := ⟨_, rfl⟩
      have HTO : Hid (ToOk (st.1 ++ [G]) (F + k + 1) (F + st.2.length + 1)) := by
        refine ⟨by rw [List.length_append, ol]; rfl, fun i hi => ?_⟩
        by_cases e : i < F + k
        · rw [getD_snoc_lt _ _ _ _ (by omega)]
          have := ov i e
          omega
        · obtain rfl : i = st.1.length := by omega
          rw [getD_snoc_eq]
          omega
      obtain ⟨sj, hsj⟩ : ∃ sj, S j = sj := ⟨_, rfl⟩
      have HFS : Hid (st' = if sj = true then (st.1 ++ [G], st.2 ++ [(mapL (st.1 ++ [G]) p1, mapL (st.1 ++ [G]) p2)]) else (st.1 ++ [G], st.2)) := by
        show _ = _
        rw [HSU.out]
        unfold pruneStep
        rw [← hj, hsj, ← hG]
      have HMO : Hid (∀ V, Calls Try.prog 78 #[.int .i64 ((F : Int) + (st.2.length : Int))] V fun e w' => e = .returned (.int .i64 G) ∧ w' = V) := fun V => by rw [hG]; exact meaningOf_any _ V (by omega) (by omega)
      have wr1 : IntKind.i64.wrap ((F : Int) + (st.2.length : Int)) = (F : Int) + (st.2.length : Int) := by rw [IntKind.wrap_i64]; omega
      have HAL := hideN hS
      have HHT := hideN hT
      have HNX := hideN hnx
      have hsz := hS.bel.size
      have hb2 : st.2.length ≤ 40 := by omega
      have hb1 : st.1.length ≤ 57 := by omega
      have HSJ := hideN hsj
      have t1 : W.cell? ⟨Bx, 0, none⟩ = some (.int .i64 p1) := by simp [World.cell?, hT]
      have s0 : W.cell? ⟨w4.heap.size, 0, none⟩ = some (.slice a2 st.1.length k2) := by simp [World.cell?, hS.t]
      have s1 : W.cell? ⟨w3.heap.size, 0, none⟩ = some (.slice a1 st.2.length k1) := by simp [World.cell?, hS.v]
      have u0 := hS.a.four.c0
      have u1 := hS.a.four.c1
      have u2 := hS.a.four.c2
      have u3 := hS.a.four.c3
      have u4 := hS.a.lt
      simp only [hjn]
      clear hx hS hT hne hnx HSU hsj HPO ol ov oz hn1 hn2 hG hjn hp11 hp21 t1 hj
      gi_wp2
      refine region_roundS (fin := 9) (S := fun V => V.cell? ⟨w4.heap.size, 0, none⟩ = some (.slice a2 st.1.length k2) ∧ V.cell? ⟨w3.heap.size, 0, none⟩ = some (.slice a1 st.2.length k1) ∧ V.cell? ⟨w.heap.size, 0, none⟩ = some (.int .i64 inp) ∧ V.cell? ⟨w.heap.size, 1, none⟩ = some (.slice al ls.length cl) ∧ V.cell? ⟨w.heap.size, 2, none⟩ = some (.slice aa xs.length ca) ∧ V.cell? ⟨w.heap.size, 3, none⟩ = some (.slice ab bs.length cb)) (by kernel_rfl) (by kernel_rfl) ?letsB ⟨s0, s1, u0, u1, u2, u3⟩ (fun hHeld => ?walkB)
      case letsB =>
        rintro ⟨a, v, h⟩
        have h' := (show Exit.outgrown = Exit.normal ∧ _ from h).1
        cases h'
      case walkB =>
      clear hHeld
      refine takeS (i := 0) (v := .slice a2 st.1.length k2) rfl (by kernel_rfl) (by kernel_rfl) (by kernel_rfl) (by kernel_rfl) (fun _ _ _ h => h) (Or.inl ⟨by rfl, fun w hS => by obtain ⟨s0, s1, u0, u1, u2, u3⟩ := hS; go_simp⟩) ⟨s0, s1, u0, u1, u2, u3⟩ ?_
      simp only [List.getElem_toArray, List.getElem_cons_zero, Act.put, List.setIfInBounds_toArray, List.set_cons_zero, List.set_cons_succ]
      refine takeS (i := 1) (v := .agg #[.int .i64 inp, .slice al ls.length cl, .slice aa xs.length ca, .slice ab bs.length cb]) rfl (by kernel_rfl) (by kernel_rfl) (by kernel_rfl) (by kernel_rfl) (fun _ _ _ h => h) (Or.inl ⟨by rfl, fun w hS => by obtain ⟨s0, s1, u0, u1, u2, u3⟩ := hS; go_simp⟩) ⟨s0, s1, u0, u1, u2, u3⟩ ?_
      simp only [List.getElem_toArray, List.getElem_cons_zero, List.getElem_cons_succ, Act.put, List.setIfInBounds_toArray, List.set_cons_zero, List.set_cons_succ]
      refine takeS (i := 3) (v := .slice a1 st.2.length k1) rfl (by kernel_rfl) (by kernel_rfl) (by kernel_rfl) (by kernel_rfl) (fun _ _ _ h => h) (Or.inl ⟨by rfl, fun w hS => by obtain ⟨s0, s1, u0, u1, u2, u3⟩ := hS; go_simp⟩) ⟨s0, s1, u0, u1, u2, u3⟩ ?_
      simp only [List.getElem_toArray, List.getElem_cons_zero, List.getElem_cons_succ, Act.put, List.setIfInBounds_toArray, List.set_cons_zero, List.set_cons_succ]
      refine takeS (i := 4) (v := .int .i64 (st.2.length : Int)) rfl (by kernel_rfl) (by kernel_rfl) (by kernel_rfl) (by kernel_rfl) (fun _ _ _ h => h) (Or.inl ⟨by rfl, fun w hS => by obtain ⟨s0, s1, u0, u1, u2, u3⟩ := hS; go_simp⟩) ⟨s0, s1, u0, u1, u2, u3⟩ ?_
      simp only [List.getElem_toArray, List.getElem_cons_zero, List.getElem_cons_succ, Act.put, List.setIfInBounds_toArray, List.set_cons_zero, List.set_cons_succ]
      refine oneS (i := 2) (by kernel_rfl) rfl (by rfl) ?_
      simp only [List.getElem_toArray, List.getElem_cons_zero, List.getElem_cons_succ]
      go_simp
      refine (HFA.out _).mono ?_
      rintro e X ⟨rfl, hbX⟩
      have HBX : Hid (Below W.heap.size W X) := belNext (below_drewN (Below.refl _ _) 1) hbX
      have z0 := (HBX.out.cell (p := ⟨w4.heap.size, 0, none⟩) (cell_lt s0)).trans s0
      have z1 := (HBX.out.cell (p := ⟨w3.heap.size, 0, none⟩) (cell_lt s1)).trans s1
      have z2 := (HBX.out.cell (p := ⟨w.heap.size, 0, none⟩) u4).trans u0
      have z3 := (HBX.out.cell (p := ⟨w.heap.size, 1, none⟩) u4).trans u1
      have z4 := (HBX.out.cell (p := ⟨w.heap.size, 2, none⟩) u4).trans u2
      have z5 := (HBX.out.cell (p := ⟨w.heap.size, 3, none⟩) u4).trans u3
      have HAX := hideN (HAL.out.below HBX.out)
      clear hbX s0 s1 u0 u1 u2 u3 u4
      refine ⟨⟨z0, z1, z2, z3, z4, z5⟩, ?_⟩
      refine takeS (i := 5) (v := .int .i64 ((F : Int) + (st.2.length : Int))) rfl (by kernel_rfl) (by kernel_rfl) (by kernel_rfl) (by kernel_rfl) (fun _ _ _ h => h) (Or.inl ⟨by rfl, fun w hS => by obtain ⟨z0, z1, z2, z3, z4, z5⟩ := hS; go_simp⟩) ⟨z0, z1, z2, z3, z4, z5⟩ ?_
      simp only [List.getElem_toArray, List.getElem_cons_zero, List.getElem_cons_succ, Act.put, List.setIfInBounds_toArray, List.set_cons_zero, List.set_cons_succ]
      refine oneS (i := 6) (by kernel_rfl) rfl (by rfl) ?_
      simp only [List.getElem_toArray, List.getElem_cons_zero, List.getElem_cons_succ]
      go_simp
      refine (HMO.out _).mono ?_
      rintro e w' ⟨rfl, hw'⟩
      obtain rfl := hw'.symm
      refine ⟨⟨z0, z1, z2, z3, z4, z5⟩, ?_⟩
      refine oneS (i := 7) (by kernel_rfl) rfl (by rfl) ?_
      simp only [List.getElem_toArray, List.getElem_cons_zero, List.getElem_cons_succ]
      go_simp
      have HBE : Hid (Below X.heap.size X (X.alloc (.cells #[.int .i64 G] 79))) := belOne _ _
      have y0 := (HBE.out.cell (p := ⟨w4.heap.size, 0, none⟩) (cell_lt z0)).trans z0
      have y1 := (HBE.out.cell (p := ⟨w3.heap.size, 0, none⟩) (cell_lt z1)).trans z1
      have y2 := (HBE.out.cell (p := ⟨w.heap.size, 0, none⟩) (cell_lt z2)).trans z2
      have y3 := (HBE.out.cell (p := ⟨w.heap.size, 1, none⟩) (cell_lt z3)).trans z3
      have y4 := (HBE.out.cell (p := ⟨w.heap.size, 2, none⟩) (cell_lt z4)).trans z4
      have y5 := (HBE.out.cell (p := ⟨w.heap.size, 3, none⟩) (cell_lt z5)).trans z5
      refine ⟨⟨y0, y1, y2, y3, y4, y5⟩, ?_⟩
      have HRD := hideN (row_below HAX.out.rt HBE.out)
      have hsx : w.heap.size ≤ X.heap.size := HAX.out.bel.size
      refine oneS (i := 8) (by kernel_rfl) rfl (by rfl) ?_
      simp only [List.getElem_toArray, List.getElem_cons_zero, List.getElem_cons_succ]
      refine wp_append_lies _ (.tmp 28) (.tmp 35) 121 rfl w.heap.size 79 im (.int .i64 0) 1 8 Try.underlying121 him hzm0 hzm1 hzm2 rfl (by decide) (.slice a2 st.1.length k2) st.1.length (intV st.1) rfl HRD.out ⟨X.heap.size, 0, none⟩ 1 1 [.int .i64 G] rfl rfl (by exact news1 X _ _) (ints_oneCell .i64 [G]) (by decide) (by unfold maxLen; omega) (by omega) (by simp; omega) _ rfl ?_
      intro g gcap w9 hown9 hgrow9 hat9 hlt9
      have HPU := hideN (HAX.out.pushT HBE.out hgrow9 (vt' := .slice (some ⟨g, 0, none⟩) (st.1.length + 1) gcap) (r := G) (by rw [show intV (st.1 ++ [G]) = intV st.1 ++ [.int .i64 G] by simp [intV]]; exact hown9))
      have hgo : ∀ {k : Nat} {cs : Array Value} {t : TypeId} {fz : Nat × Nat}, X.heap[k]? = some (.cells cs t fz) → t ≠ 79 → w9.heap[k]? = some (.cells cs t fz) := fun hk ht => by
        have h1 := (HBE.out.block _ (Array.getElem?_eq_some_iff.1 hk).1).trans hk
        exact (hgrow9.block _ (Array.getElem?_eq_some_iff.1 h1).1 (fun e => row_ne HRD.out h1 ht e.symm)).trans h1
      have g0 := hgo HAX.out.t (by decide)
      have g1 := hgo HAX.out.v (by decide)
      have g2 : Own4 w9 w.heap.size 33 (.int .i64 inp) (.slice al ls.length cl) (.slice aa xs.length ca) (.slice ab bs.length cb) := hgo HAX.out.a (by decide)
      have hBT : X.heap[Bx]? = some (.cells #[.int .i64 p1, .int .i64 p2] 65 (0, 0)) := (HBX.out.block _ (Array.getElem?_eq_some_iff.1 HHT.out).1).trans HHT.out
      have g3 := hgo hBT (by decide)
      have hTW : (w9.setCell ⟨w4.heap.size, 0, none⟩ (.slice (some ⟨g, 0, none⟩) (st.1.length + 1) gcap)).heap[Bx]? = some (.cells #[.int .i64 p1, .int .i64 p2] 65 (0, 0)) := (blk_setCell_other _ _ _ _ (fun e => by
        have e' : Bx = w4.heap.size := e
        rw [e', g0] at g3
        injection g3 with g3
        injection g3 with _ g3
        exact absurd g3 (by decide))).trans g3
      have HTW := hideN hTW
      have q0 : w9.cell? ⟨w4.heap.size, 0, none⟩ = some (.slice a2 st.1.length k2) := by simp [World.cell?, g0]
      have q1 : w9.cell? ⟨w3.heap.size, 0, none⟩ = some (.slice a1 st.2.length k1) := by simp [World.cell?, g1]
      have q2 := g2.four.c0
      have q3 := g2.four.c1
      have q4 := g2.four.c2
      have q5 := g2.four.c3
      have q6 : w9.frozen? ⟨w4.heap.size, 0, none⟩ = false := by simp [World.frozen?, g0]
      have q7 : w4.heap.size < w9.heap.size := cell_lt q0
      clear hown9 hgrow9 hat9 hlt9 hgo g0 g1 g2 g3 hBT hTW y0 y1 y2 y3 y4 y5 z0 z1 z2 z3 z4 z5 HRD
      refine ⟨fun _ => ⟨q0, q1, q2, q3, q4, q5⟩, ?_⟩
      simp only [Act.put, List.setIfInBounds_toArray, List.set_cons_zero, List.set_cons_succ]
      refine oneS (i := 9) (by kernel_rfl) rfl (by rfl) ?_
      simp only [List.getElem_toArray, List.getElem_cons_zero, List.getElem_cons_succ]
      go_simp
      refine doneS (by kernel_rfl) ?_ _
      clear q0 q1 q2 q3 q4 q5 q6 q7
      have HKX : Hid (KeepsFrom W1.heap.size W X ∧ KpA w.heap.size (w4.heap.size + 1) W X) := ⟨KeepsOthers.from (show KeepsOthers W X from ⟨HBX.out.size, fun k o h _ => (HBX.out.block k (Array.getElem?_eq_some_iff.1 h).1).trans h⟩) _, KpA.of_below hsz HAL.out.n.lt HBX.out⟩
      have HK9 : Hid (KeepsFrom W1.heap.size W (w9.setCell ⟨w4.heap.size, 0, none⟩ (.slice (some ⟨g, 0, none⟩) (st.1.length + 1) gcap)) ∧ KpA w.heap.size (w4.heap.size + 1) W (w9.setCell ⟨w4.heap.size, 0, none⟩ (.slice (some ⟨g, 0, none⟩) (st.1.length + 1) gcap))) := ⟨HKX.out.1.trans (HPU.out.2.1.from _), HKX.out.2.trans HPU.out.2.2⟩
      have HP9 := hideN HPU.out.1
      clear HPU HKX HBX HAX HAL HHT HBE
      generalize w9.setCell ⟨w4.heap.size, 0, none⟩ (.slice (some ⟨g, 0, none⟩) (st.1.length + 1) gcap) = U at *
      have s0 : U.cell? ⟨w2.heap.size + 1, 0, none⟩ = some (.slice (some ⟨w2.heap.size, 0, none⟩) M M) := by simp [World.cell?, HP9.out.b]
      have d0 : U.cell? ⟨w2.heap.size, j, none⟩ = some (.bool sj) := by have h := HP9.out.r.cell (i := j) hjM; unfold setF at h; rw [HSJ.out] at h; exact h
      have HW1 := hideN hs0'
      clear hs0'
      have hU4 := cell_lt s0
      cases sj with
      | false =>
        have hst := HFS.out
        rw [if_neg (by simp)] at hst
        subst hst
        gi_wp2
        exact ⟨HK9.out.1, HK9.out.2, a1, _, rfl, k1, some ⟨g, 0, none⟩, st.1.length + 1, rfl, gcap, HP9.out⟩
      | true =>
        have hst := HFS.out
        rw [if_pos rfl] at hst
        subst hst
        have hq1 := HTO.out.map hp10 (by omega)
        have hq2 := HTO.out.map hp20 (by omega)
        obtain ⟨P1, hP1⟩ : ∃ P, mapL (st.1 ++ [G]) p1 = P := ⟨_, rfl⟩
        obtain ⟨P2, hP2⟩ : ∃ P, mapL (st.1 ++ [G]) p2 = P := ⟨_, rfl⟩
        have hlen : (st.1 ++ [G]).length = st.1.length + 1 := by simp
        have HIS : Hid (∀ V, Below U.heap.size U V → IsInts V (.slice (some ⟨g, 0, none⟩) (st.1.length + 1) gcap) (st.1 ++ [G])) := fun V hV => by
          have h := isInts_rowM (cs := st.1 ++ [G]) (by have h2 := row_below HP9.out.rt hV; rw [← hlen] at h2; exact h2)
          rw [hlen] at h
          exact h
        have HNA : Hid (∀ V, Below U.heap.size U V → Calls Try.prog 109 #[.int .i64 p1, .slice (some ⟨g, 0, none⟩) (st.1.length + 1) gcap] V fun e w' => e = .returned (.int .i64 P1) ∧ w' = V) := fun V hV => by
          have h := now_any _ (st.1 ++ [G]) p1 _ _ V (HIS.out V hV) HTO.out hp10 (by omega) (by omega) (by omega)
          rw [hP1] at h
          exact h
        have HNB' : Hid (∀ V, Below U.heap.size U V → Calls Try.prog 109 #[.int .i64 p2, .slice (some ⟨g, 0, none⟩) (st.1.length + 1) gcap] V fun e w' => e = .returned (.int .i64 P2) ∧ w' = V) := fun V hV => by
          have h := now_any _ (st.1 ++ [G]) p2 _ _ V (HIS.out V hV) HTO.out hp20 (by omega) (by omega) (by omega)
          rw [hP2] at h
          exact h
        have HE1 := hideN hP1
        have HE2 := hideN hP2
        have t1 : U.cell? ⟨Bx, 0, none⟩ = some (.int .i64 p1) := by simp [World.cell?, HTW.out]
        have t2 : U.cell? ⟨Bx, 1, none⟩ = some (.int .i64 p2) := by simp [World.cell?, HTW.out]
        have s1 : U.cell? ⟨w3.heap.size, 0, none⟩ = some (.slice a1 st.2.length k1) := by simp [World.cell?, HP9.out.v]
        have s2 : U.cell? ⟨w4.heap.size, 0, none⟩ = some (.slice (some ⟨g, 0, none⟩) (st.1.length + 1) gcap) := by simp [World.cell?, HP9.out.t]
        clear hP1 hP2 hq1 hq2 HTO HIS HMO wr1
        gi_wp2
        clear s0 d0
        refine region_roundS (fin := 12) (S := fun V => V.cell? ⟨w3.heap.size, 0, none⟩ = some (.slice a1 st.2.length k1) ∧ V.cell? ⟨w4.heap.size, 0, none⟩ = some (.slice (some ⟨g, 0, none⟩) (st.1.length + 1) gcap) ∧ V.cell? ⟨Bx, 0, none⟩ = some (.int .i64 p1) ∧ V.cell? ⟨Bx, 1, none⟩ = some (.int .i64 p2)) (by kernel_rfl) (by kernel_rfl) ?letsC ⟨s1, s2, t1, t2⟩ (fun hHeld => ?walkC)
        case letsC =>
          rintro ⟨a, v, h⟩
          have h' := (show Exit.outgrown = Exit.normal ∧ _ from h).1
          cases h'
        case walkC =>
        clear hHeld
        refine takeS (i := 0) (v := .slice a1 st.2.length k1) rfl (by kernel_rfl) (by kernel_rfl) (by kernel_rfl) (by kernel_rfl) (fun _ _ _ h => h) (Or.inl ⟨by rfl, fun w hS => by obtain ⟨s1, s2, t1, t2⟩ := hS; go_simp⟩) ⟨s1, s2, t1, t2⟩ ?_
        simp only [List.getElem_toArray, List.getElem_cons_zero, Act.put, List.setIfInBounds_toArray, List.set_cons_zero, List.set_cons_succ]
        refine takeS (i := 1) (v := .pointer (some ⟨Bx, 0, none⟩)) rfl (by kernel_rfl) (by kernel_rfl) (by kernel_rfl) (by kernel_rfl) (fun _ _ _ h => h) (Or.inl ⟨by rfl, fun w hS => by obtain ⟨s1, s2, t1, t2⟩ := hS; go_simp⟩) ⟨s1, s2, t1, t2⟩ ?_
        simp only [List.getElem_toArray, List.getElem_cons_zero, List.getElem_cons_succ, Act.put, List.setIfInBounds_toArray, List.set_cons_zero, List.set_cons_succ]
        refine takeS (i := 2) (v := .int .i64 p1) rfl (by kernel_rfl) (by kernel_rfl) (by kernel_rfl) (by kernel_rfl) (fun _ _ _ h => h) (Or.inl ⟨by rfl, fun w hS => by obtain ⟨s1, s2, t1, t2⟩ := hS; go_simp⟩) ⟨s1, s2, t1, t2⟩ ?_
        simp only [List.getElem_toArray, List.getElem_cons_zero, List.getElem_cons_succ, Act.put, List.setIfInBounds_toArray, List.set_cons_zero, List.set_cons_succ]
        refine takeS (i := 3) (v := .slice (some ⟨g, 0, none⟩) (st.1.length + 1) gcap) rfl (by kernel_rfl) (by kernel_rfl) (by kernel_rfl) (by kernel_rfl) (fun _ _ _ h => h) (Or.inl ⟨by rfl, fun w hS => by obtain ⟨s1, s2, t1, t2⟩ := hS; go_simp⟩) ⟨s1, s2, t1, t2⟩ ?_
        simp only [List.getElem_toArray, List.getElem_cons_zero, List.getElem_cons_succ, Act.put, List.setIfInBounds_toArray, List.set_cons_zero, List.set_cons_succ]
        refine takeS (i := 5) (v := .pointer (some ⟨Bx, 1, none⟩)) rfl (by kernel_rfl) (by kernel_rfl) (by kernel_rfl) (by kernel_rfl) (fun _ _ _ h => h) (Or.inl ⟨by rfl, fun w hS => by obtain ⟨s1, s2, t1, t2⟩ := hS; go_simp⟩) ⟨s1, s2, t1, t2⟩ ?_
        simp only [List.getElem_toArray, List.getElem_cons_zero, List.getElem_cons_succ, Act.put, List.setIfInBounds_toArray, List.set_cons_zero, List.set_cons_succ]
        refine takeS (i := 6) (v := .int .i64 p2) rfl (by kernel_rfl) (by kernel_rfl) (by kernel_rfl) (by kernel_rfl) (fun _ _ _ h => h) (Or.inl ⟨by rfl, fun w hS => by obtain ⟨s1, s2, t1, t2⟩ := hS; go_simp⟩) ⟨s1, s2, t1, t2⟩ ?_
        simp only [List.getElem_toArray, List.getElem_cons_zero, List.getElem_cons_succ, Act.put, List.setIfInBounds_toArray, List.set_cons_zero, List.set_cons_succ]
        refine takeS (i := 7) (v := .slice (some ⟨g, 0, none⟩) (st.1.length + 1) gcap) rfl (by kernel_rfl) (by kernel_rfl) (by kernel_rfl) (by kernel_rfl) (fun _ _ _ h => h) (Or.inl ⟨by rfl, fun w hS => by obtain ⟨s1, s2, t1, t2⟩ := hS; go_simp⟩) ⟨s1, s2, t1, t2⟩ ?_
        simp only [List.getElem_toArray, List.getElem_cons_zero, List.getElem_cons_succ, Act.put, List.setIfInBounds_toArray, List.set_cons_zero, List.set_cons_succ]
        refine oneS (i := 4) (by kernel_rfl) rfl (by rfl) ?_
        simp only [List.getElem_toArray, List.getElem_cons_zero, List.getElem_cons_succ]
        go_simp
        refine (HNA.out _ (below_drewN (Below.refl _ _) 1)).mono ?_
        rintro e w' ⟨rfl, hw'⟩
        obtain rfl := hw'.symm
        refine ⟨⟨s1, s2, t1, t2⟩, ?_⟩
        refine oneS (i := 8) (by kernel_rfl) rfl (by rfl) ?_
        simp only [List.getElem_toArray, List.getElem_cons_zero, List.getElem_cons_succ]
        go_simp
        refine (HNB'.out _ (below_drewN (Below.refl _ _) 1)).mono ?_
        rintro e w' ⟨rfl, hw'⟩
        obtain rfl := hw'.symm
        refine ⟨⟨s1, s2, t1, t2⟩, ?_⟩
        refine takeS (i := 9) (v := .agg #[.int .i64 P1, .int .i64 P2]) rfl (by kernel_rfl) (by kernel_rfl) (by kernel_rfl) (by kernel_rfl) (fun _ _ _ h => h) (Or.inl ⟨by rfl, fun w hS => by obtain ⟨s1, s2, t1, t2⟩ := hS; go_simp⟩) ⟨s1, s2, t1, t2⟩ ?_
        simp only [List.getElem_toArray, List.getElem_cons_zero, List.getElem_cons_succ, Act.put, List.setIfInBounds_toArray, List.set_cons_zero, List.set_cons_succ]
        refine oneS (i := 10) (by kernel_rfl) rfl (by rfl) ?_
        simp only [List.getElem_toArray, List.getElem_cons_zero, List.getElem_cons_succ]
        go_simp
        have HBE : Hid (Below U.heap.size U ((U.drewN 1).alloc (.cells #[.int .i64 P1, .int .i64 P2] 65))) := belNext (below_drewN (Below.refl _ _) 1) (belOne _ _)
        have y1 := (HBE.out.cell (p := ⟨w3.heap.size, 0, none⟩) (cell_lt s1)).trans s1
        have y2 := (HBE.out.cell (p := ⟨w4.heap.size, 0, none⟩) (cell_lt s2)).trans s2
        have y3 := (HBE.out.cell (p := ⟨Bx, 0, none⟩) (cell_lt t1)).trans t1
        have y4 := (HBE.out.cell (p := ⟨Bx, 1, none⟩) (cell_lt t2)).trans t2
        refine ⟨⟨y1, y2, y3, y4⟩, ?_⟩
        have HRD := hideN (row_below HP9.out.rv HBE.out)
        have hsx : w.heap.size ≤ U.heap.size := HP9.out.bel.size
        refine oneS (i := 11) (by kernel_rfl) rfl (by rfl) ?_
        simp only [List.getElem_toArray, List.getElem_cons_zero, List.getElem_cons_succ]
        refine wp_append_lies _ (.tmp 41) (.tmp 51) 31 rfl w.heap.size 65 ia (.agg #[.int .i64 0, .int .i64 0]) 2 16 Try.underlying31 hia hza0 hza1 hza2 rfl (by decide) (.slice a1 st.2.length k1) st.2.length (andV st.2) rfl HRD.out ⟨(U.drewN 1).heap.size, 0, none⟩ 1 1 [.int .i64 P1, .int .i64 P2] rfl rfl (by exact news2 (U.drewN 1) _ _ _) (and_oneCell _ _) (by decide) (by unfold maxLen; omega) (by omega) (by have := HBE.out.size; omega) _ rfl ?_
        intro gg ggcap w10 hown10 hgrow10 hat10 hlt10
        have HPV := hideN (HP9.out.pushV HBE.out hgrow10 (va' := .slice (some ⟨gg, 0, none⟩) (st.2.length + 1) ggcap) (p := (P1, P2)) (by rw [andV_snoc]; exact hown10))
        have hgo : ∀ {k : Nat} {cs : Array Value} {t : TypeId} {fz : Nat × Nat}, U.heap[k]? = some (.cells cs t fz) → (Value.slice a1 st.2.length k1).ownBlock ≠ some k → w10.heap[k]? = some (.cells cs t fz) := fun hk ht => by
          have h1 := (HBE.out.block _ (Array.getElem?_eq_some_iff.1 hk).1).trans hk
          exact (hgrow10.block _ (Array.getElem?_eq_some_iff.1 h1).1 (fun e => ht e.symm)).trans h1
        have g0 := hgo HP9.out.v (row_ne HP9.out.rv HP9.out.v (by decide))
        have g1 := hgo HP9.out.t (row_ne HP9.out.rv HP9.out.t (by decide))
        have g2 := hgo HTW.out HNX.out
        have q1 : w10.cell? ⟨w3.heap.size, 0, none⟩ = some (.slice a1 st.2.length k1) := by simp [World.cell?, g0]
        have q2 : w10.cell? ⟨w4.heap.size, 0, none⟩ = some (.slice (some ⟨g, 0, none⟩) (st.1.length + 1) gcap) := by simp [World.cell?, g1]
        have q3 : w10.cell? ⟨Bx, 0, none⟩ = some (.int .i64 p1) := by simp [World.cell?, g2]
        have q4 : w10.cell? ⟨Bx, 1, none⟩ = some (.int .i64 p2) := by simp [World.cell?, g2]
        have q6 : w10.frozen? ⟨w3.heap.size, 0, none⟩ = false := by simp [World.frozen?, g0]
        have q7 : w3.heap.size < w10.heap.size := cell_lt q1
        clear hown10 hgrow10 hat10 hlt10 hgo g0 g1 g2 y1 y2 y3 y4 s1 s2 t1 t2 HRD
        refine ⟨fun _ => ⟨q1, q2, q3, q4⟩, ?_⟩
        simp only [Act.put, List.setIfInBounds_toArray, List.set_cons_zero, List.set_cons_succ]
        refine oneS (i := 12) (by kernel_rfl) rfl (by rfl) ?_
        simp only [List.getElem_toArray, List.getElem_cons_zero, List.getElem_cons_succ]
        go_simp
        refine doneS (by kernel_rfl) ?_ _
        exact ⟨rfl, HI1.out _ (some ⟨gg, 0, none⟩) (st.2.length + 1) ggcap (some ⟨g, 0, none⟩) (st.1.length + 1) gcap (by show List.length _ = _; simp) (by show List.length _ = _; simp) (by rw [HE1.out, HE2.out]; exact HPV.out.1) (HK9.out.1.trans (HPV.out.2.1.from _)) (HK9.out.2.trans HPV.out.2.2)⟩
    case done2 =>
      rintro E W' hE ⟨a1, n1, k1, a2, n2, k2, hn1, hn2, hS⟩ hKE
      rw [nodesFrom_length] at hn1 hn2 hS
      have hF1 : 1 ≤ F := by have := HFF.out; omega
      have hF17 : F ≤ 17 := by have := HFF.out; omega
      have HPO := hideN (pruneS_ok F hF1 xs HAO.out S xs.length (Nat.le_refl _))
      have HAL := hideN hS
      have a0 := hS.a.four.c0
      have a1' := hS.a.four.c1
      have a2' := hS.a.four.c2
      have a3 := hS.a.four.c3
      have a4 := hS.a.lt
      have s0 : W'.cell? ⟨w4.heap.size, 0, none⟩ = some (.slice a2 n2 k2) := by simp [World.cell?, hS.t]
      have s1 : W'.cell? ⟨w3.heap.size, 0, none⟩ = some (.slice a1 n1 k1) := by simp [World.cell?, hS.v]
      have s2 := cell_lt s0
      have s3 := cell_lt s1
      clear hS
      generalize pruneS F xs S xs.length = st at *
      obtain ⟨ol, ov, oz⟩ := HPO.out
      have HTO : Hid (ToOk st.1 (F + xs.length) (F + st.2.length + 1)) := ⟨ol, fun i hi => by have := ov i hi; omega⟩
      clear HPO ol ov
      go_wp2_with fail
      refine (withEnds_any inp al aa ab cl ca cb ls xs bs a1 n1 k1 a2 n2 k2 st.1 (F + xs.length) (F + st.2.length + 1) W' (HC.out _ HAL.out.bel) (by have h := isInts_rowM (by have h2 := HAL.out.rt; have h3 := hn2.out; rw [← h3] at h2; exact h2); rw [hn2.out] at h; exact h) HTO.out (by omega) (by omega) hl8 hb4 HL.out HBD.out).mono ?_
      rintro e w5 ⟨l5, b5, m5, c5, rfl, hr1, hr2, hb5⟩
      have HA5 := hideN (HAL.out.below hb5)
      have HR1 := hideN hr1
      have HR2 := hideN hr2
      have HKE : Hid (w5.heap[E]? = some (.deferred (some []))) := (hb5.block E (Array.getElem?_eq_some_iff.1 hKE).1).trans hKE
      have hlw : w.heap.size ≤ W'.heap.size := HAL.out.bel.size
      clear hr1 hr2 hb5 s0 s1 s2 s3 a0 a1' a2' a3 hKE HAL
      have m0 := HA5.out.q.four.c0
      have m1 := HA5.out.q.four.c1
      have m2 := HA5.out.q.four.c2
      have m3 := HA5.out.q.four.c3
      have m4 := HA5.out.q.lt
      have f0 := HA5.out.q.f 0
      have f1 := HA5.out.q.f 1
      have f2 := HA5.out.q.f 2
      have f3 := HA5.out.q.f 3
      have HQQ := hideN ((((HA5.out.q.set0 (.int .i64 inp)).set1 (.slice l5 ls.length m5)).set2 (.slice a1 n1 k1)).set3 (.slice b5 bs.length c5))
      have HBE : Hid (Below w.heap.size w ((((w5.setCell ⟨w.heap.size + 1, 0, none⟩ (.int .i64 inp)).setCell ⟨w.heap.size + 1, 1, none⟩ (.slice l5 ls.length m5)).setCell ⟨w.heap.size + 1, 2, none⟩ (.slice a1 n1 k1)).setCell ⟨w.heap.size + 1, 3, none⟩ (.slice b5 bs.length c5))) := (((HA5.out.bel.setCell (p := ⟨w.heap.size + 1, 0, none⟩) (by show _ ≤ w.heap.size + 1; omega) _).setCell (p := ⟨w.heap.size + 1, 1, none⟩) (by show _ ≤ w.heap.size + 1; omega) _).setCell (p := ⟨w.heap.size + 1, 2, none⟩) (by show _ ≤ w.heap.size + 1; omega) _).setCell (p := ⟨w.heap.size + 1, 3, none⟩) (by show _ ≤ w.heap.size + 1; omega) _
      have HOT : Hid (∀ k, k ≠ w.heap.size + 1 → ((((w5.setCell ⟨w.heap.size + 1, 0, none⟩ (.int .i64 inp)).setCell ⟨w.heap.size + 1, 1, none⟩ (.slice l5 ls.length m5)).setCell ⟨w.heap.size + 1, 2, none⟩ (.slice a1 n1 k1)).setCell ⟨w.heap.size + 1, 3, none⟩ (.slice b5 bs.length c5)).heap[k]? = w5.heap[k]?) := fun k hk => by
        rw [blk_setCell_other _ _ _ _ hk, blk_setCell_other _ _ _ _ hk, blk_setCell_other _ _ _ _ hk, blk_setCell_other _ _ _ _ hk]
      go_wp2
      clear m0 m1 m2 m3 m4 f0 f1 f2 f3
      generalize ((((w5.setCell ⟨w.heap.size + 1, 0, none⟩ (.int .i64 inp)).setCell ⟨w.heap.size + 1, 1, none⟩ (.slice l5 ls.length m5)).setCell ⟨w.heap.size + 1, 2, none⟩ (.slice a1 n1 k1)).setCell ⟨w.heap.size + 1, 3, none⟩ (.slice b5 bs.length c5)) = WE at *
      have HE1 : Hid (WE.heap[E]? = some (.deferred (some []))) := (HOT.out E (by omega)).trans HKE.out
      have HD1 : Hid (WE.heap[D]? = some (.deferred (some []))) := (HOT.out D (by omega)).trans HA5.out.d
      have hED : D ≠ E := by omega
      refine ⟨by simp, .inl ⟨_, _, rfl, run_takeDeferred HE1.out, ?_⟩⟩
      have HD2 : Hid ((WE.putObj E (.deferred none)).heap[D]? = some (.deferred (some []))) := (World.putObj_heap_other hED).trans HD1.out
      refine ⟨by simp, .inl ⟨_, _, rfl, run_takeDeferred HD2.out, ?_⟩⟩
      have hqe : Own4 ((WE.putObj E (.deferred none)).putObj D (.deferred none)) (w.heap.size + 1) 33 (.int .i64 inp) (.slice l5 ls.length m5) (.slice a1 n1 k1) (.slice b5 bs.length c5) := (World.putObj_heap_other (by omega)).trans ((World.putObj_heap_other (by omega)).trans HQQ.out)
      have v0 := hqe.four.c0
      have v1 := hqe.four.c1
      have v2 := hqe.four.c2
      have v3 := hqe.four.c3
      have hg1 := grownBy_putObj' WE E (.deferred none)
      have hg2 := grownBy_putObj' (WE.putObj E (.deferred none)) D (.deferred none)
      have hkeep : ∀ {e : TypeId} {s n : Nat} {v : Value} {zs : List Value} {lo : Nat}, w5.ownsRow lo e s v n zs → e ≠ 33 → w.heap.size ≤ lo → ((WE.putObj E (.deferred none)).putObj D (.deferred none)).ownsRow w.heap.size e s v n zs := fun hr he hlo => by
        refine row_base (row_of_block hr (fun k hk => ?_)) hlo
        obtain ⟨cs, hcs⟩ := row_cells hr hk
        have hkE : k ≠ E := fun e => by rw [e, HKE.out] at hcs; cases hcs
        have hkD : k ≠ D := fun e => by rw [e, HA5.out.d] at hcs; cases hcs
        have hkQ : k ≠ w.heap.size + 1 := fun e => by
          have h1 := HA5.out.q.eq
          rw [← e, hcs] at h1
          injection h1 with h1
          injection h1 with _ h1
          exact he h1
        rw [World.putObj_heap_other hkD, World.putObj_heap_other hkE, HOT.out k hkQ]
      have hml : (mapLat st.1 ls).length = ls.length := by simp [mapLat]
      have hmb : (mapBad st.1 bs).length = bs.length := by simp [mapBad]
      have hra := hkeep HA5.out.rv (by decide) (Nat.le_refl _)
      have hn1' := hn1.out
      rw [hn1'] at hra
      refine ⟨.agg #[.int .i64 inp, .slice l5 ls.length m5, .slice a1 n1 k1, .slice b5 bs.length c5], by simp [results, Try.f84, go_sem, v0, v1, v2, v3], l5, a1, b5, m5, k1, c5, ?_, ?_, ?_, ?_, ?_⟩
      · rw [hml, hmb, hn1']
      · rw [hml]; exact hkeep HR1.out (by decide) hlw
      · rw [hn1']; exact hra
      · rw [hmb]; exact hkeep HR2.out (by decide) hlw
      · have h1 := HBE.out.grown hg1 HBE.out.size (fun r e => by cases e; omega)
        exact h1.grown hg2 h1.size (fun r e => by cases e; omega)

end Go.Proofs.Ytbdjdgamnnifjaa

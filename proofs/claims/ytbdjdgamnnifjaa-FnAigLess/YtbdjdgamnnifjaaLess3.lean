/-
  A circuit without what is needless: memory while another circuit is built; the model's l3Fold.
-/
import Derived.Test.YtbdjdgamnnifjaaLess2
import Derived.Test.YtbdjdgamnnifjaaHold
import Derived.Test.YtbdjdgamnnifjaaAigK
namespace Go.Proofs.Ytbdjdgamnnifjaa
open Go.RowKit Go.Deep Go.Shelf
set_option linter.unusedVariables false

attribute [local go_sem] Oper.semAt_some

theorem Own4.f {w : World} {b : Nat} {t : TypeId} {a0 a1 a2 a3 : Value} (h : Own4 w b t a0 a1 a2 a3) (i : Nat) : w.frozen? ⟨b, i, none⟩ = false := by unfold Own4 at h; simp [World.frozen?, h]
theorem Own4.chg {p : Nat → Prop} {w w' : World} {b : Nat} {t : TypeId} {a0 a1 a2 a3 : Value} (h : Own4 w b t a0 a1 a2 a3) (hc : Chg p w w') (hp : ¬ p b) : Own4 w' b t a0 a1 a2 a3 := (hc.block b h.lt hp).trans h

/-- While a circuit is built: the old one's box B, the result's variable Q, the new one's C; all else of the call's own lies from lo on. -/
structure Fst (w wr : World) (B Q C lo : Nat) (inp : Int) (c1 c2 c3 vl va vb : Value) : Prop where
  b : Own4 wr B 33 (.int .i64 inp) c1 c2 c3
  q : Own4 wr Q 33 (.int .i64 0) (.slice none 0 0) (.slice none 0 0) (.slice none 0 0)
  c : Own4 wr C 33 (.int .i64 inp) vl va vb
  bel : Below w.heap.size w wr
  wb : w.heap.size ≤ B
  bq : B ≠ Q
  bc : B ≠ C
  qc : Q ≠ C
  wq : w.heap.size ≤ Q
  wc : w.heap.size ≤ C
  bl : B < lo
  ql : Q < lo
  cl : C < lo
  ll : lo ≤ wr.heap.size

section
variable {w wr w' : World} {B Q C lo : Nat} {inp : Int} {c1 c2 c3 vl va vb : Value}

theorem Fst.chg {p : Nat → Prop} (h : Fst w wr B Q C lo inp c1 c2 c3 vl va vb) (hc : Chg p wr w') (hp : ∀ k, p k → lo ≤ k) : Fst w w' B Q C lo inp c1 c2 c3 vl va vb := by
  have h1 := h.bl
  have h2 := h.ql
  have h3 := h.cl
  exact ⟨h.b.chg hc (fun e => by have := hp _ e; omega), h.q.chg hc (fun e => by have := hp _ e; omega), h.c.chg hc (fun e => by have := hp _ e; omega), Chg.below h.bel h.bel.size hc (fun k e => by have := hp _ e; have := h.wb; omega), h.wb, h.bq, h.bc, h.qc, h.wq, h.wc, h1, h2, h3, Nat.le_trans h.ll hc.size⟩

theorem Fst.below (h : Fst w wr B Q C lo inp c1 c2 c3 vl va vb) (hb : Below wr.heap.size wr w') : Fst w w' B Q C lo inp c1 c2 c3 vl va vb := h.chg (p := fun _ => False) (Chg.of_below hb) (fun _ e => e.elim)

theorem chg_of_grown {row : Option Nat} (hg : wr.grownBy w' row) : Chg (fun k => row = some k) wr w' := ⟨hg.os, hg.tape, hg.output, hg.size, fun k hk hp => hg.block k hk (fun e => hp e.symm)⟩

theorem Fst.grown (h : Fst w wr B Q C lo inp c1 c2 c3 vl va vb) {row : Option Nat} (hg : wr.grownBy w' row) (hr : ∀ k, row = some k → lo ≤ k) : Fst w w' B Q C lo inp c1 c2 c3 vl va vb := h.chg (chg_of_grown hg) hr

theorem Fst.set1 (h : Fst w wr B Q C lo inp c1 c2 c3 vl va vb) (u : Value) : Fst w (wr.setCell ⟨C, 1, none⟩ u) B Q C lo inp c1 c2 c3 u va vb :=
  ⟨h.b.other (by show B ≠ C; exact h.bc) _, h.q.other (by show Q ≠ C; exact h.qc) _, h.c.set1 u, h.bel.setCell (p := ⟨C, 1, none⟩) h.wc _, h.wb, h.bq, h.bc, h.qc, h.wq, h.wc, h.bl, h.ql, h.cl, by simpa using h.ll⟩
theorem Fst.set2 (h : Fst w wr B Q C lo inp c1 c2 c3 vl va vb) (u : Value) : Fst w (wr.setCell ⟨C, 2, none⟩ u) B Q C lo inp c1 c2 c3 vl u vb :=
  ⟨h.b.other (by show B ≠ C; exact h.bc) _, h.q.other (by show Q ≠ C; exact h.qc) _, h.c.set2 u, h.bel.setCell (p := ⟨C, 2, none⟩) h.wc _, h.wb, h.bq, h.bc, h.qc, h.wq, h.wc, h.bl, h.ql, h.cl, by simpa using h.ll⟩
theorem Fst.set3 (h : Fst w wr B Q C lo inp c1 c2 c3 vl va vb) (u : Value) : Fst w (wr.setCell ⟨C, 3, none⟩ u) B Q C lo inp c1 c2 c3 vl va u :=
  ⟨h.b.other (by show B ≠ C; exact h.bc) _, h.q.other (by show Q ≠ C; exact h.qc) _, h.c.set3 u, h.bel.setCell (p := ⟨C, 3, none⟩) h.wc _, h.wb, h.bq, h.bc, h.qc, h.wq, h.wc, h.bl, h.ql, h.cl, by simpa using h.ll⟩
end

theorem Owni.setC {w : World} {lo C i : Nat} {v : Value} {zs : List Int} (h : Owni w lo v zs) (hC : C < lo) (u : Value) : Owni (w.setCell ⟨C, i, none⟩ u) lo v zs := owni_of_block h (fun k e => blk_setCell_other _ _ _ _ (by have := (h.blk k e).1; show k ≠ C; omega))
theorem row_setC {w : World} {lo C i : Nat} {e s n : Nat} {v : Value} {zs : List Value} (h : w.ownsRow lo e s v n zs) (hC : C < lo) (u : Value) : (w.setCell ⟨C, i, none⟩ u).ownsRow lo e s v n zs := row_of_block h (fun k e => blk_setCell_other _ _ _ _ (by have := (World.ownsRow.lt h k e).1; show k ≠ C; omega))
theorem row_below {w w' : World} {lo : Nat} {e s n : Nat} {v : Value} {zs : List Value} (h : w.ownsRow lo e s v n zs) (hb : Below w.heap.size w w') : w'.ownsRow lo e s v n zs := row_of_block h (fun k e => hb.block k (World.ownsRow.lt h k e).2)

theorem andV_snoc (xs : List (Int × Int)) (a b : Int) : andV (xs ++ [(a, b)]) = andV xs ++ [.int .i64 a, .int .i64 b] := by simp [andV]
theorem latV_snoc (xs : List (Int × Bool)) (a : Int) (b : Bool) : latV (xs ++ [(a, b)]) = latV xs ++ [.int .i64 a, .bool b] := by simp [latV]

/-- The answer: a circuit whose lists are all memory of the call's own. -/
def LessPost (inp : Int) (ls : List (Int × Bool)) (xs : List (Int × Int)) (bs : List Int) (w : World) (e : Ending) (w' : World) : Prop :=
  ∃ al aa ab cl ca cb, e = .returned (.agg #[.int .i64 inp, .slice al ls.length cl, .slice aa xs.length ca, .slice ab bs.length cb]) ∧ w'.ownsRow w.heap.size 86 2 (.slice al ls.length cl) ls.length (latV ls) ∧ w'.ownsRow w.heap.size 65 2 (.slice aa xs.length ca) xs.length (andV xs) ∧ w'.ownsRow w.heap.size 3 1 (.slice ab bs.length cb) bs.length (intV bs) ∧ Below w.heap.size w w'

theorem start2_take_succ (F k : Nat) (h : k < F) : (start2 F).take (k + 1) = (start2 F).take k ++ [2 * (k : Int)] := by
  rw [List.take_succ_eq_append_getElem (by rw [start2_length]; exact h)]
  simp [start2]

end Go.Proofs.Ytbdjdgamnnifjaa

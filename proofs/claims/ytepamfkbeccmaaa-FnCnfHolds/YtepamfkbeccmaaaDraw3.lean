/-
  Drawn clauses: l13Cnf.
-/
import Derived.Test.YtepamfkbeccmaaaDraw2
namespace Go.Proofs.Ytepamfkbeccmaaa
open Go.RowKit Go.Deep
set_option linter.unusedVariables false

/-- What holds while clauses are drawn: the result's block, the struct's, the rows, the reader. -/
structure St (w wr : World) (R : Nat) (v : Value) (bs : List Int) (p : Nat) (vars : Int) (o : Value) (css : List (List Int)) : Prop where
  q : Blk wr w.heap.size (.int .i64 0) (.slice none 0 0)
  c : Blk wr (w.heap.size + 1) (.int .i64 vars) o
  grid : Grid wr (w.heap.size + 2) o css
  rd : Rd wr R v bs p
  old : Old R w.heap.size w wr
  size : w.heap.size + 2 ≤ wr.heap.size
  thin : ∀ i, i < css.length → (css.getD i []).length ≤ 9

section
variable {w wr w1 : World} {R : Nat} {v : Value} {bs : List Int} {p : Nat} {vars : Int} {o : Value} {css : List (List Int)}

theorem St.pick (h : St w wr R v bs p vars o css) (hR : R < w.heap.size) {p1 : Nat} (hrd : Rd w1 R v bs p1) (hg : wr.grownBy w1 (some R)) : St w w1 R v bs p1 vars o css :=
  ⟨h.q.grown hg (fun e => by have := Option.some.inj e; omega), h.c.grown hg (fun e => by have := Option.some.inj e; omega),
    h.grid.keep (fun k hk hlt => hg.block k hlt (fun e => by have := Option.some.inj e; omega)), hrd, h.old.grown hg (by have := h.size; omega) (fun q e => .inr (Option.some.inj e).symm), Nat.le_trans h.size hg.size, h.thin⟩

theorem St.more (h : St w wr R v bs p vars o css) (hR : R < w.heap.size) {p1 : Nat} (hrd : Rd w1 R v bs p1) (ho : Old R wr.heap.size wr w1) : St w w1 R v bs p1 vars o css := by
  have hs := h.size
  exact ⟨h.q.old ho (by omega) (by omega), h.c.old ho (by omega) (by omega), h.grid.keep (fun k hk hlt => ho.2.2.2.2 k hlt (by omega)), hrd,
    h.old.trans ⟨ho.1, ho.2.1, ho.2.2.1, ho.2.2.2.1, fun k hk hne => ho.2.2.2.2 k (by omega) hne⟩, Nat.le_trans hs ho.size, h.thin⟩

theorem St.alloc (h : St w wr R v bs p vars o css) (ob : Obj) : St w (wr.alloc ob) R v bs p vars o css := by
  have hs := h.size
  exact ⟨h.q.below (belOne _ _), h.c.below (belOne _ _), h.grid.keep (fun k hk hlt => (belOne wr ob).block k hlt), h.rd.grown (World.grownBy_alloc wr ob none) (by simp) (by simp), h.old.below (belOne _ _) (by omega), by simp; omega, h.thin⟩

theorem St.revar (h : St w wr R v bs p vars o css) (hR : R < w.heap.size) (hvb : ∀ ao n cap b off, v = .slice ao n cap → ao = some ⟨b, off, none⟩ → b < w.heap.size) (n : Int) : St w (wr.setCell ⟨w.heap.size + 1, 0, none⟩ (.int .i64 n)) R v bs p n o css := by
  have hs := h.size
  have hg : wr.grownBy (wr.setCell ⟨w.heap.size + 1, 0, none⟩ (.int .i64 n)) (some (w.heap.size + 1)) := ⟨rfl, rfl, rfl, by simp [World.setCell], fun k hk hne => Below.heap_setCell wr _ _ k (fun e => hne (by rw [e]))⟩
  exact ⟨h.q.setOther (by show w.heap.size ≠ w.heap.size + 1; omega) _, h.c.set0 _, h.grid.keep (fun k hk hlt => Below.heap_setCell wr _ _ k (by show k ≠ w.heap.size + 1; omega)),
    h.rd.own hg hR hvb (fun k e => by have := Option.some.inj e; omega), h.old.grown hg (by omega) (fun k e => .inl (by have := Option.some.inj e; omega)), by simpa [World.setCell] using hs, h.thin⟩

theorem St.push {wa w4 : World} {g cap : Nat} {rv : Value} {xs : List Int} {vs : List Value} (h : St w wa R v bs p vars o css) (hR : R < w.heap.size) (hvb : ∀ ao n cap b off, v = .slice ao n cap → ao = some ⟨b, off, none⟩ → b < w.heap.size)
    (h1 : wa.ownsRow (w.heap.size + 2) 31 1 o css.length vs) (h2 : ∀ i, i < css.length → ∃ rv, vs[i]? = some rv ∧ Owns wa (w.heap.size + 2) rv (css.getD i [])) (hx : Owns wa (w.heap.size + 2) rv xs) (hxl : xs.length ≤ 9)
    (hg : wa.grownBy w4 o.ownBlock) (ho : w4.ownsRow (w.heap.size + 2) 31 1 (.slice (some ⟨g, 0, none⟩) (css.length + 1) cap) (css.length + 1) (vs ++ [rv])) :
    St w (w4.setCell ⟨w.heap.size + 1, 1, none⟩ (.slice (some ⟨g, 0, none⟩) (css.length + 1) cap)) R v bs p vars (.slice (some ⟨g, 0, none⟩) (css.length + 1) cap) (css ++ [xs]) := by
  have hs := h.size
  have hob : ∀ k, o.ownBlock = some k → w.heap.size + 2 ≤ k := fun k e => (World.ownsRow.lt h1 k e).1
  have hgr := Grid.snoc h1 h2 hx hg ho
  have hs4 : w.heap.size + 2 ≤ w4.heap.size := Nat.le_trans hs hg.size
  have hg4 : w4.grownBy (w4.setCell ⟨w.heap.size + 1, 1, none⟩ (.slice (some ⟨g, 0, none⟩) (css.length + 1) cap)) (some (w.heap.size + 1)) := ⟨rfl, rfl, rfl, by simp [World.setCell], fun k hk hne => Below.heap_setCell w4 _ _ k (fun e => hne (by rw [e]))⟩
  refine ⟨(h.q.grown hg (fun e => by have := hob _ e.symm; omega)).setOther (by show w.heap.size ≠ w.heap.size + 1; omega) _, (h.c.grown hg (fun e => by have := hob _ e.symm; omega)).set1 _,
    hgr.keep (fun k hk hlt => Below.heap_setCell w4 _ _ k (by show k ≠ w.heap.size + 1; omega)),
    (h.rd.own hg hR hvb (fun k e => by have := hob k e; omega)).own hg4 hR hvb (fun k e => by have := Option.some.inj e; omega),
    (h.old.grown hg (by omega) (fun k e => .inl (by have := hob k e; omega))).grown hg4 (by omega) (fun k e => .inl (by have := Option.some.inj e; omega)), by simpa [World.setCell] using hs4, fun i hi => ?_⟩
  rw [List.length_append] at hi
  by_cases e : i < css.length
  · have : (css ++ [xs]).getD i [] = css.getD i [] := by simp [List.getD, List.getElem?_append_left e]
    rw [this]; exact h.thin i e
  · have hi' : i = css.length := by simp at hi; omega
    subst hi'
    have : (css ++ [xs]).getD css.length [] = xs := by simp [List.getD]
    rw [this]; exact hxl
end

/-- The struct laid into the result's block: what is drawn stands. -/
theorem St.done {w wr : World} {R : Nat} {v : Value} {bs : List Int} {p : Nat} {vars : Int} {o : Value} {css : List (List Int)} (h : St w wr R v bs p vars o css) (hR : R < w.heap.size) (hvb : ∀ ao n cap b off, v = .slice ao n cap → ao = some ⟨b, off, none⟩ → b < w.heap.size) (a b : Value) :
    Grid ((wr.setCell ⟨w.heap.size, 0, none⟩ a).setCell ⟨w.heap.size, 1, none⟩ b) (w.heap.size + 2) o css ∧ Rd ((wr.setCell ⟨w.heap.size, 0, none⟩ a).setCell ⟨w.heap.size, 1, none⟩ b) R v bs p ∧ Old R w.heap.size w ((wr.setCell ⟨w.heap.size, 0, none⟩ a).setCell ⟨w.heap.size, 1, none⟩ b) ∧ w.heap.size + 2 ≤ ((wr.setCell ⟨w.heap.size, 0, none⟩ a).setCell ⟨w.heap.size, 1, none⟩ b).heap.size := by
  have hs := h.size
  have hg1 : wr.grownBy (wr.setCell ⟨w.heap.size, 0, none⟩ a) (some w.heap.size) := ⟨rfl, rfl, rfl, by simp [World.setCell], fun k hk hne => Below.heap_setCell wr _ _ k (fun e => hne (by rw [e]))⟩
  have hg2 : (wr.setCell ⟨w.heap.size, 0, none⟩ a).grownBy ((wr.setCell ⟨w.heap.size, 0, none⟩ a).setCell ⟨w.heap.size, 1, none⟩ b) (some w.heap.size) := ⟨rfl, rfl, rfl, by simp [World.setCell], fun k hk hne => Below.heap_setCell _ _ _ k (fun e => hne (by rw [e]))⟩
  have hs2 : w.heap.size ≤ (wr.setCell ⟨w.heap.size, 0, none⟩ a).heap.size := Nat.le_trans (by omega) hg1.size
  refine ⟨(h.grid.keep (fun k hk hlt => Below.heap_setCell wr _ _ k (by show k ≠ w.heap.size; omega))).keep (fun k hk hlt => Below.heap_setCell _ _ _ k (by show k ≠ w.heap.size; omega)),
    (h.rd.own hg1 hR hvb (fun k e => by have := Option.some.inj e; omega)).own hg2 hR hvb (fun k e => by have := Option.some.inj e; omega),
    (h.old.grown hg1 (by omega) (fun k e => .inl (by have := Option.some.inj e; omega))).grown hg2 hs2 (fun k e => .inl (by have := Option.some.inj e; omega)), Nat.le_trans hs (Nat.le_trans hg1.size hg2.size)⟩

/-- What drawn clauses are. -/
def CnfPost (R : Nat) (v : Value) (bs : List Int) (p : Nat) (w : World) (e : Ending) (w' : World) : Prop :=
  ∃ (vars : Int) (ao : Option Addr) (cap : Nat) (css : List (List Int)) (p' : Nat), e = .returned (.agg #[.int .i64 vars, .slice ao css.length cap]) ∧ Grid w' (w.heap.size + 2) (.slice ao css.length cap) css ∧ (0 ≤ vars ∧ vars ≤ 60) ∧ css.length ≤ 150 ∧ (∀ i, i < css.length → (css.getD i []).length ≤ 9) ∧ p' ≤ p + 1000 ∧ Rd w' R v bs p' ∧ Old R w.heap.size w w' ∧ w.heap.size + 2 ≤ w'.heap.size

end Go.Proofs.Ytepamfkbeccmaaa

/-
  Memory of a circuit that is being drawn: a struct of four fields in a block of its own, and three rows that are owned.
-/
import Derived.Test.YtbdjdgamnnifjaaRdrA
import Derived.Test.YtbdjdgamnnifjaaAigE
import Derived.Test.YtbdjdgamnnifjaaRow2
import Derived.OneCell
namespace Go.Proofs.Ytbdjdgamnnifjaa
open Go.RowKit Go.Deep
set_option linter.unusedVariables false

/-- A number that is not great. -/
def Sm (x : Int) : Prop := -1000 ≤ x ∧ x ≤ 1000

/-- What holds while a circuit is drawn: the result's block, the struct's, the rows, the reader. -/
structure StC (w wr : World) (R : Nat) (v : Value) (bs : List Int) (p : Nat) (inp : Int) (vl va vb : Value) (ls : List (Int × Bool)) (xs : List (Int × Int)) (cs : List Int) : Prop where
  q : Blk4 wr w.heap.size (.int .i64 0) (.slice none 0 0) (.slice none 0 0) (.slice none 0 0)
  c : Blk4 wr (w.heap.size + 1) (.int .i64 inp) vl va vb
  ol : wr.ownsRow (w.heap.size + 2) 86 2 vl ls.length (latV ls)
  oa : wr.ownsRow (w.heap.size + 2) 65 2 va xs.length (andV xs)
  ob : wr.ownsRow (w.heap.size + 2) 3 1 vb cs.length (intV cs)
  rd : Rd wr R v bs p
  old : Old R w.heap.size w wr
  size : w.heap.size + 2 ≤ wr.heap.size
  sl : ∀ p ∈ ls, Sm p.1
  sa : ∀ p ∈ xs, Sm p.1 ∧ Sm p.2
  sb : ∀ x ∈ cs, Sm x

section
variable {w wr w1 : World} {R : Nat} {v : Value} {bs : List Int} {p : Nat} {inp : Int} {vl va vb : Value} {ls : List (Int × Bool)} {xs : List (Int × Int)} {cs : List Int}

theorem StC.keep (h : StC w wr R v bs p inp vl va vb ls xs cs) {p1 : Nat} (hs : wr.heap.size ≤ w1.heap.size) (hk : ∀ k, w.heap.size ≤ k → k < wr.heap.size → w1.heap[k]? = wr.heap[k]?) (hrd : Rd w1 R v bs p1) (ho : Old R w.heap.size w w1) : StC w w1 R v bs p1 inp vl va vb ls xs cs := by
  have hz := h.size
  exact ⟨h.q.of_block (hk _ (by omega) (by omega)), h.c.of_block (hk _ (by omega) (by omega)), row_of_block h.ol (fun k e => by have := World.ownsRow.lt h.ol k e; exact hk k (by omega) this.2), row_of_block h.oa (fun k e => by have := World.ownsRow.lt h.oa k e; exact hk k (by omega) this.2),
    row_of_block h.ob (fun k e => by have := World.ownsRow.lt h.ob k e; exact hk k (by omega) this.2), hrd, ho, by omega, h.sl, h.sa, h.sb⟩

theorem StC.pick (h : StC w wr R v bs p inp vl va vb ls xs cs) (hR : R < w.heap.size) {p1 : Nat} (hrd : Rd w1 R v bs p1) (hg : wr.grownBy w1 (some R)) : StC w w1 R v bs p1 inp vl va vb ls xs cs :=
  h.keep hg.size (fun k hk hlt => hg.block k hlt (fun e => by have := Option.some.inj e; omega)) hrd (h.old.grown hg (by have := h.size; omega) (fun q e => .inr (Option.some.inj e).symm))

theorem StC.below (h : StC w wr R v bs p inp vl va vb ls xs cs) (hb : Below wr.heap.size wr w1) : StC w w1 R v bs p inp vl va vb ls xs cs :=
  h.keep hb.size (fun k hk hlt => hb.block k hlt) (h.rd.grown (row := none) ⟨hb.os, hb.tape, hb.output, hb.size, fun k hk _ => hb.block k hk⟩ (by simp) (by simp)) (h.old.below hb (by have := h.size; omega))

theorem StC.more (h : StC w wr R v bs p inp vl va vb ls xs cs) (hR : R < w.heap.size) {p1 : Nat} (hrd : Rd w1 R v bs p1) (ho : Old R wr.heap.size wr w1) : StC w w1 R v bs p1 inp vl va vb ls xs cs := by
  have hs := h.size
  exact h.keep ho.size (fun k hk hlt => ho.2.2.2.2 k hlt (by omega)) hrd (h.old.trans ⟨ho.1, ho.2.1, ho.2.2.1, ho.2.2.2.1, fun k hk hne => ho.2.2.2.2 k (by omega) hne⟩)

/-- Memory written in one block from the call's own on: the reader and old memory. -/
theorem StC.rest (h : StC w wr R v bs p inp vl va vb ls xs cs) (hR : R < w.heap.size) (hvb : ∀ ao n cap b off, v = .slice ao n cap → ao = some ⟨b, off, none⟩ → b < w.heap.size) {row : Option Nat} (hg : wr.grownBy w1 row) (hr : ∀ k, row = some k → w.heap.size ≤ k) : Rd w1 R v bs p ∧ Old R w.heap.size w w1 :=
  ⟨h.rd.own hg hR hvb hr, h.old.grown hg (by have := h.size; omega) (fun k e => .inl (hr k e))⟩

theorem grown_set (w : World) (a : Addr) (u : Value) : w.grownBy (w.setCell a u) (some a.block) := ⟨rfl, rfl, rfl, by simp [World.setCell], fun k hk hne => Below.heap_setCell w _ _ k (fun e => hne (by rw [e]))⟩

theorem StC.pushL (h : StC w wr R v bs p inp vl va vb ls xs cs) (hR : R < w.heap.size) (hvb : ∀ ao n cap b off, v = .slice ao n cap → ao = some ⟨b, off, none⟩ → b < w.heap.size) {g cap : Nat} {x : Int} {y : Bool} (hx : Sm x)
    (hg : wr.grownBy w1 vl.ownBlock) (ho : w1.ownsRow (w.heap.size + 2) 86 2 (.slice (some ⟨g, 0, none⟩) (ls.length + 1) cap) (ls.length + 1) (latV ls ++ [.int .i64 x, .bool y])) :
    StC w (w1.setCell ⟨w.heap.size + 1, 1, none⟩ (.slice (some ⟨g, 0, none⟩) (ls.length + 1) cap)) R v bs p inp (.slice (some ⟨g, 0, none⟩) (ls.length + 1) cap) va vb (ls ++ [(x, y)]) xs cs := by
  have hs := h.size
  have hob : ∀ k, vl.ownBlock = some k → w.heap.size + 2 ≤ k := fun k e => (World.ownsRow.lt h.ol k e).1
  obtain ⟨r1, o1⟩ := h.rest hR hvb hg (fun k e => by have := hob k e; omega)
  have hg4 := grown_set w1 ⟨w.heap.size + 1, 1, none⟩ (.slice (some ⟨g, 0, none⟩) (ls.length + 1) cap)
  have hs1 := hg.size
  have hne : ∀ k, k ≠ w.heap.size + 1 → (w1.setCell ⟨w.heap.size + 1, 1, none⟩ (.slice (some ⟨g, 0, none⟩) (ls.length + 1) cap)).heap[k]? = w1.heap[k]? := fun k hk => Below.heap_setCell w1 _ _ k (by simpa using hk)
  refine ⟨(h.q.of_block (hg.block _ (by omega) (fun e => by have := hob _ e.symm; omega))).of_block (hne _ (by omega)), (h.c.of_block (hg.block _ (by omega) (fun e => by have := hob _ e.symm; omega))).set1 _, ?_,
    row_of_block (row_of_block h.oa (fun k e => hg.block k (World.ownsRow.lt h.oa k e).2 (fun e2 => rows_apart h.oa h.ol (by decide) k e e2.symm))) (fun k e => hne k (by have := (World.ownsRow.lt h.oa k e).1; omega)),
    row_of_block (row_of_block h.ob (fun k e => hg.block k (World.ownsRow.lt h.ob k e).2 (fun e2 => rows_apart h.ob h.ol (by decide) k e e2.symm))) (fun k e => hne k (by have := (World.ownsRow.lt h.ob k e).1; omega)),
    r1.own hg4 hR hvb (fun k e => by have := Option.some.inj e; simp at this; omega), o1.grown hg4 (by omega) (fun k e => .inl (by have := Option.some.inj e; simp at this; omega)), by simpa [World.setCell] using Nat.le_trans hs hs1, ?_, h.sa, h.sb⟩
  · rw [List.length_append]
    have e : latV (ls ++ [(x, y)]) = latV ls ++ [.int .i64 x, .bool y] := by unfold latV; simp
    rw [e]
    exact row_of_block ho (fun k e => hne k (by have := (World.ownsRow.lt ho k e).1; omega))
  · intro p hp
    rcases List.mem_append.1 hp with hp | hp
    · exact h.sl p hp
    · rw [List.mem_singleton.1 hp]; exact hx

theorem StC.pushA (h : StC w wr R v bs p inp vl va vb ls xs cs) (hR : R < w.heap.size) (hvb : ∀ ao n cap b off, v = .slice ao n cap → ao = some ⟨b, off, none⟩ → b < w.heap.size) {g cap : Nat} {x y : Int} (hx : Sm x) (hy : Sm y)
    (hg : wr.grownBy w1 va.ownBlock) (ho : w1.ownsRow (w.heap.size + 2) 65 2 (.slice (some ⟨g, 0, none⟩) (xs.length + 1) cap) (xs.length + 1) (andV xs ++ [.int .i64 x, .int .i64 y])) :
    StC w (w1.setCell ⟨w.heap.size + 1, 2, none⟩ (.slice (some ⟨g, 0, none⟩) (xs.length + 1) cap)) R v bs p inp vl (.slice (some ⟨g, 0, none⟩) (xs.length + 1) cap) vb ls (xs ++ [(x, y)]) cs := by
  have hs := h.size
  have hob : ∀ k, va.ownBlock = some k → w.heap.size + 2 ≤ k := fun k e => (World.ownsRow.lt h.oa k e).1
  obtain ⟨r1, o1⟩ := h.rest hR hvb hg (fun k e => by have := hob k e; omega)
  have hg4 := grown_set w1 ⟨w.heap.size + 1, 2, none⟩ (.slice (some ⟨g, 0, none⟩) (xs.length + 1) cap)
  have hs1 := hg.size
  have hne : ∀ k, k ≠ w.heap.size + 1 → (w1.setCell ⟨w.heap.size + 1, 2, none⟩ (.slice (some ⟨g, 0, none⟩) (xs.length + 1) cap)).heap[k]? = w1.heap[k]? := fun k hk => Below.heap_setCell w1 _ _ k (by simpa using hk)
  refine ⟨(h.q.of_block (hg.block _ (by omega) (fun e => by have := hob _ e.symm; omega))).of_block (hne _ (by omega)), (h.c.of_block (hg.block _ (by omega) (fun e => by have := hob _ e.symm; omega))).set2 _,
    row_of_block (row_of_block h.ol (fun k e => hg.block k (World.ownsRow.lt h.ol k e).2 (fun e2 => rows_apart h.ol h.oa (by decide) k e e2.symm))) (fun k e => hne k (by have := (World.ownsRow.lt h.ol k e).1; omega)), ?_,
    row_of_block (row_of_block h.ob (fun k e => hg.block k (World.ownsRow.lt h.ob k e).2 (fun e2 => rows_apart h.ob h.oa (by decide) k e e2.symm))) (fun k e => hne k (by have := (World.ownsRow.lt h.ob k e).1; omega)),
    r1.own hg4 hR hvb (fun k e => by have := Option.some.inj e; simp at this; omega), o1.grown hg4 (by omega) (fun k e => .inl (by have := Option.some.inj e; simp at this; omega)), by simpa [World.setCell] using Nat.le_trans hs hs1, h.sl, ?_, h.sb⟩
  · rw [List.length_append]
    have e : andV (xs ++ [(x, y)]) = andV xs ++ [.int .i64 x, .int .i64 y] := by unfold andV; simp
    rw [e]
    exact row_of_block ho (fun k e => hne k (by have := (World.ownsRow.lt ho k e).1; omega))
  · intro p hp
    rcases List.mem_append.1 hp with hp | hp
    · exact h.sa p hp
    · rw [List.mem_singleton.1 hp]; exact ⟨hx, hy⟩

theorem StC.pushB (h : StC w wr R v bs p inp vl va vb ls xs cs) (hR : R < w.heap.size) (hvb : ∀ ao n cap b off, v = .slice ao n cap → ao = some ⟨b, off, none⟩ → b < w.heap.size) {g cap : Nat} {x : Int} (hx : Sm x)
    (hg : wr.grownBy w1 vb.ownBlock) (ho : w1.ownsRow (w.heap.size + 2) 3 1 (.slice (some ⟨g, 0, none⟩) (cs.length + 1) cap) (cs.length + 1) (intV cs ++ [.int .i64 x])) :
    StC w (w1.setCell ⟨w.heap.size + 1, 3, none⟩ (.slice (some ⟨g, 0, none⟩) (cs.length + 1) cap)) R v bs p inp vl va (.slice (some ⟨g, 0, none⟩) (cs.length + 1) cap) ls xs (cs ++ [x]) := by
  have hs := h.size
  have hob : ∀ k, vb.ownBlock = some k → w.heap.size + 2 ≤ k := fun k e => (World.ownsRow.lt h.ob k e).1
  obtain ⟨r1, o1⟩ := h.rest hR hvb hg (fun k e => by have := hob k e; omega)
  have hg4 := grown_set w1 ⟨w.heap.size + 1, 3, none⟩ (.slice (some ⟨g, 0, none⟩) (cs.length + 1) cap)
  have hs1 := hg.size
  have hne : ∀ k, k ≠ w.heap.size + 1 → (w1.setCell ⟨w.heap.size + 1, 3, none⟩ (.slice (some ⟨g, 0, none⟩) (cs.length + 1) cap)).heap[k]? = w1.heap[k]? := fun k hk => Below.heap_setCell w1 _ _ k (by simpa using hk)
  refine ⟨(h.q.of_block (hg.block _ (by omega) (fun e => by have := hob _ e.symm; omega))).of_block (hne _ (by omega)), (h.c.of_block (hg.block _ (by omega) (fun e => by have := hob _ e.symm; omega))).set3 _,
    row_of_block (row_of_block h.ol (fun k e => hg.block k (World.ownsRow.lt h.ol k e).2 (fun e2 => rows_apart h.ol h.ob (by decide) k e e2.symm))) (fun k e => hne k (by have := (World.ownsRow.lt h.ol k e).1; omega)),
    row_of_block (row_of_block h.oa (fun k e => hg.block k (World.ownsRow.lt h.oa k e).2 (fun e2 => rows_apart h.oa h.ob (by decide) k e e2.symm))) (fun k e => hne k (by have := (World.ownsRow.lt h.oa k e).1; omega)), ?_,
    r1.own hg4 hR hvb (fun k e => by have := Option.some.inj e; simp at this; omega), o1.grown hg4 (by omega) (fun k e => .inl (by have := Option.some.inj e; simp at this; omega)), by simpa [World.setCell] using Nat.le_trans hs hs1, h.sl, h.sa, ?_⟩
  · rw [List.length_append]
    have e : intV (cs ++ [x]) = intV cs ++ [.int .i64 x] := by unfold intV; simp
    rw [e]
    exact row_of_block ho (fun k e => hne k (by have := (World.ownsRow.lt ho k e).1; omega))
  · intro p hp
    rcases List.mem_append.1 hp with hp | hp
    · exact h.sb p hp
    · rw [List.mem_singleton.1 hp]; exact hx

/-- A latch's next is set. -/
theorem StC.setL (h : StC w wr R v bs p inp vl va vb ls xs cs) (hR : R < w.heap.size) (hvb : ∀ ao n cap b off, v = .slice ao n cap → ao = some ⟨b, off, none⟩ → b < w.heap.size) {g cap i : Nat} (hv : vl = .slice (some ⟨g, 0, none⟩) ls.length cap) (hi : i < ls.length) {x : Int} (hx : Sm x) :
    StC w (wr.setCell ⟨g, i * 2, none⟩ (.int .i64 x)) R v bs p inp vl va vb (ls.set i (x, (ls.getD i (0, false)).2)) xs cs := by
  have hs := h.size
  subst hv
  have hgb := World.ownsRow.lt h.ol g rfl
  have hg4 := grown_set wr ⟨g, i * 2, none⟩ (.int .i64 x)
  obtain ⟨r1, o1⟩ := h.rest hR hvb hg4 (fun k e => by have := Option.some.inj e; simp at this; omega)
  have hne : ∀ k, k ≠ g → (wr.setCell ⟨g, i * 2, none⟩ (.int .i64 x)).heap[k]? = wr.heap[k]? := fun k hk => Below.heap_setCell wr _ _ k (by simpa using hk)
  refine ⟨h.q.of_block (hne _ (by omega)), h.c.of_block (hne _ (by omega)), ?_,
    row_of_block h.oa (fun k e => hne k (fun e2 => rows_apart h.oa h.ol (by decide) k e (by rw [e2]; rfl))),
    row_of_block h.ob (fun k e => hne k (fun e2 => rows_apart h.ob h.ol (by decide) k e (by rw [e2]; rfl))),
    r1, o1, by simpa [World.setCell] using hs, ?_, h.sa, h.sb⟩
  · rw [List.length_set]
    have h2 := World.ownsRow.stored h.ol (i * 2) (.int .i64 x)
    have e : (latV ls).set (i * 2) (.int .i64 x) = latV (ls.set i (x, (ls.getD i (0, false)).2)) := flat2_set0 (fun p : Int × Bool => Value.int .i64 p.1) (fun p => Value.bool p.2) ls (0, false) (x, (ls.getD i (0, false)).2) i hi rfl
    rw [← e]
    exact h2.1
  · intro p hp
    rcases List.mem_or_eq_of_mem_set hp with hp | hp
    · exact h.sl p hp
    · rw [hp]; exact hx

/-- The number of inputs is set. -/
theorem StC.setI (h : StC w wr R v bs p inp vl va vb ls xs cs) (hR : R < w.heap.size) (hvb : ∀ ao n cap b off, v = .slice ao n cap → ao = some ⟨b, off, none⟩ → b < w.heap.size) (n : Int) :
    StC w (wr.setCell ⟨w.heap.size + 1, 0, none⟩ (.int .i64 n)) R v bs p n vl va vb ls xs cs := by
  have hs := h.size
  have hg4 := grown_set wr ⟨w.heap.size + 1, 0, none⟩ (.int .i64 n)
  obtain ⟨r1, o1⟩ := h.rest hR hvb hg4 (fun k e => by have := Option.some.inj e; simp at this; omega)
  have hne : ∀ k, k ≠ w.heap.size + 1 → (wr.setCell ⟨w.heap.size + 1, 0, none⟩ (.int .i64 n)).heap[k]? = wr.heap[k]? := fun k hk => Below.heap_setCell wr _ _ k (by simpa using hk)
  exact ⟨h.q.of_block (hne _ (by omega)), h.c.set0 _, row_of_block h.ol (fun k e => hne k (by have := (World.ownsRow.lt h.ol k e).1; omega)), row_of_block h.oa (fun k e => hne k (by have := (World.ownsRow.lt h.oa k e).1; omega)), row_of_block h.ob (fun k e => hne k (by have := (World.ownsRow.lt h.ob k e).1; omega)),
    r1, o1, by simpa [World.setCell] using hs, h.sl, h.sa, h.sb⟩

/-- What was drawn, behind writes into blocks that hold none of it. -/
structure Got (w wr : World) (R : Nat) (v : Value) (bs : List Int) (p : Nat) (vl va vb : Value) (ls : List (Int × Bool)) (xs : List (Int × Int)) (cs : List Int) : Prop where
  ol : wr.ownsRow (w.heap.size + 2) 86 2 vl ls.length (latV ls)
  oa : wr.ownsRow (w.heap.size + 2) 65 2 va xs.length (andV xs)
  ob : wr.ownsRow (w.heap.size + 2) 3 1 vb cs.length (intV cs)
  rd : Rd wr R v bs p
  old : Old R w.heap.size w wr
  size : w.heap.size + 2 ≤ wr.heap.size
  sl : ∀ p ∈ ls, Sm p.1
  sa : ∀ p ∈ xs, Sm p.1 ∧ Sm p.2
  sb : ∀ x ∈ cs, Sm x

theorem StC.got (h : StC w wr R v bs p inp vl va vb ls xs cs) : Got w wr R v bs p vl va vb ls xs cs := ⟨h.ol, h.oa, h.ob, h.rd, h.old, h.size, h.sl, h.sa, h.sb⟩

theorem Got.set (h : Got w wr R v bs p vl va vb ls xs cs) (hR : R < w.heap.size) (hvb : ∀ ao n cap b off, v = .slice ao n cap → ao = some ⟨b, off, none⟩ → b < w.heap.size) {a : Addr} (ha : w.heap.size ≤ a.block) (ha2 : a.block < w.heap.size + 2) (u : Value) : Got w (wr.setCell a u) R v bs p vl va vb ls xs cs := by
  have hs := h.size
  have hg4 := grown_set wr a u
  have hne : ∀ k, k ≠ a.block → (wr.setCell a u).heap[k]? = wr.heap[k]? := fun k hk => Below.heap_setCell wr _ _ k hk
  exact ⟨row_of_block h.ol (fun k e => hne k (by have := (World.ownsRow.lt h.ol k e).1; omega)), row_of_block h.oa (fun k e => hne k (by have := (World.ownsRow.lt h.oa k e).1; omega)), row_of_block h.ob (fun k e => hne k (by have := (World.ownsRow.lt h.ob k e).1; omega)),
    h.rd.own hg4 hR hvb (fun k e => by have := Option.some.inj e; omega), h.old.grown hg4 (by omega) (fun k e => .inl (by have := Option.some.inj e; omega)), by simpa [World.setCell] using hs, h.sl, h.sa, h.sb⟩

end

/-- What a drawn circuit is. -/
def CirPost (il ih : Int) (nl na nb mp : Nat) (R : Nat) (v : Value) (bs : List Int) (p : Nat) (w : World) (e : Ending) (w' : World) : Prop :=
  ∃ (inp : Int) (al aa ab : Option Addr) (cl ca cb : Nat) (ls : List (Int × Bool)) (xs : List (Int × Int)) (cs : List Int) (p' : Nat), e = .returned (.agg #[.int .i64 inp, .slice al ls.length cl, .slice aa xs.length ca, .slice ab cs.length cb]) ∧ il ≤ inp ∧ inp ≤ ih ∧ ls.length ≤ nl ∧ xs.length ≤ na ∧ cs.length ≤ nb ∧ p' ≤ p + mp ∧
    Got w w' R v bs p' (.slice al ls.length cl) (.slice aa xs.length ca) (.slice ab cs.length cb) ls xs cs

end Go.Proofs.Ytbdjdgamnnifjaa

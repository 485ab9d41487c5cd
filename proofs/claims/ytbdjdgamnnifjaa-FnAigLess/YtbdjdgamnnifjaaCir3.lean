/-
  A circuit that is drawn on: memory, one of some numbers.
-/
import Derived.Test.YtbdjdgamnnifjaaCir2
namespace Go.Proofs.Ytbdjdgamnnifjaa
open Go.RowKit Go.Deep
set_option linter.unusedVariables false

/-- What holds while a circuit is drawn on: the result's block, the struct's, the rows, the reader. -/
structure StD (w wr : World) (Q C R : Nat) (v : Value) (bs : List Int) (p : Nat) (inp : Int) (vl va vb : Value) (ls : List (Int × Bool)) (xs : List (Int × Int)) (cs : List Int) : Prop where
  q : Blk4 wr Q (.int .i64 0) (.slice none 0 0) (.slice none 0 0) (.slice none 0 0)
  c : Blk4 wr C (.int .i64 inp) vl va vb
  qc : Q ≠ C
  hq : w.heap.size ≤ Q
  hc : w.heap.size ≤ C
  ol : wr.ownsRow w.heap.size 86 2 vl ls.length (latV ls)
  oa : wr.ownsRow w.heap.size 65 2 va xs.length (andV xs)
  ob : wr.ownsRow w.heap.size 3 1 vb cs.length (intV cs)
  rd : Rd wr R v bs p
  old : Old R w.heap.size w wr
  sl : ∀ p ∈ ls, Sm p.1
  sa : ∀ p ∈ xs, Sm p.1 ∧ Sm p.2
  sb : ∀ x ∈ cs, Sm x

/-- What was drawn, with no struct of its own. -/
structure GotD (w wr : World) (R : Nat) (v : Value) (bs : List Int) (p : Nat) (vl va vb : Value) (ls : List (Int × Bool)) (xs : List (Int × Int)) (cs : List Int) : Prop where
  ol : wr.ownsRow w.heap.size 86 2 vl ls.length (latV ls)
  oa : wr.ownsRow w.heap.size 65 2 va xs.length (andV xs)
  ob : wr.ownsRow w.heap.size 3 1 vb cs.length (intV cs)
  rd : Rd wr R v bs p
  old : Old R w.heap.size w wr
  sl : ∀ p ∈ ls, Sm p.1
  sa : ∀ p ∈ xs, Sm p.1 ∧ Sm p.2
  sb : ∀ x ∈ cs, Sm x

section
variable {w wr w1 : World} {Q C R : Nat} {v : Value} {bs : List Int} {p : Nat} {inp : Int} {vl va vb : Value} {ls : List (Int × Bool)} {xs : List (Int × Int)} {cs : List Int}

theorem StD.size (h : StD w wr Q C R v bs p inp vl va vb ls xs cs) : w.heap.size + 1 ≤ wr.heap.size := by have := h.q.lt; have := h.hq; omega

theorem StD.keep (h : StD w wr Q C R v bs p inp vl va vb ls xs cs) {p1 : Nat} (hs : wr.heap.size ≤ w1.heap.size) (hk : ∀ k, w.heap.size ≤ k → k < wr.heap.size → w1.heap[k]? = wr.heap[k]?) (hrd : Rd w1 R v bs p1) (ho : Old R w.heap.size w w1) : StD w w1 Q C R v bs p1 inp vl va vb ls xs cs :=
  ⟨h.q.of_block (hk _ h.hq h.q.lt), h.c.of_block (hk _ h.hc h.c.lt), h.qc, h.hq, h.hc, row_of_block h.ol (fun k e => by have := World.ownsRow.lt h.ol k e; exact hk k this.1 this.2), row_of_block h.oa (fun k e => by have := World.ownsRow.lt h.oa k e; exact hk k this.1 this.2),
    row_of_block h.ob (fun k e => by have := World.ownsRow.lt h.ob k e; exact hk k this.1 this.2), hrd, ho, h.sl, h.sa, h.sb⟩

theorem StD.pick (h : StD w wr Q C R v bs p inp vl va vb ls xs cs) (hR : R < w.heap.size) {p1 : Nat} (hrd : Rd w1 R v bs p1) (hg : wr.grownBy w1 (some R)) : StD w w1 Q C R v bs p1 inp vl va vb ls xs cs :=
  h.keep hg.size (fun k hk hlt => hg.block k hlt (fun e => by have := Option.some.inj e; omega)) hrd (h.old.grown hg (by have := h.size; omega) (fun q e => .inr (Option.some.inj e).symm))

theorem StD.below (h : StD w wr Q C R v bs p inp vl va vb ls xs cs) (hb : Below wr.heap.size wr w1) : StD w w1 Q C R v bs p inp vl va vb ls xs cs :=
  h.keep hb.size (fun k hk hlt => hb.block k hlt) (h.rd.grown (row := none) ⟨hb.os, hb.tape, hb.output, hb.size, fun k hk _ => hb.block k hk⟩ (by simp) (by simp)) (h.old.below hb (by have := h.size; omega))

theorem StD.drew (h : StD w wr Q C R v bs p inp vl va vb ls xs cs) : StD w wr.drew Q C R v bs p inp vl va vb ls xs cs :=
  ⟨h.q, h.c, h.qc, h.hq, h.hc, h.ol, h.oa, h.ob, ⟨h.rd.lt, h.rd.c0, h.rd.c1, h.rd.f1, h.rd.small, h.rd.form, h.rd.byte⟩, h.old, h.sl, h.sa, h.sb⟩

theorem StD.ne (h : StD w wr Q C R v bs p inp vl va vb ls xs cs) : some C ≠ vl.ownBlock ∧ some C ≠ va.ownBlock ∧ some C ≠ vb.ownBlock :=
  ⟨fun e => row_ne_blk h.ol h.c (by decide) e.symm, fun e => row_ne_blk h.oa h.c (by decide) e.symm, fun e => row_ne_blk h.ob h.c (by decide) e.symm⟩
theorem StD.neQ (h : StD w wr Q C R v bs p inp vl va vb ls xs cs) : some Q ≠ vl.ownBlock ∧ some Q ≠ va.ownBlock ∧ some Q ≠ vb.ownBlock :=
  ⟨fun e => row_ne_blk h.ol h.q (by decide) e.symm, fun e => row_ne_blk h.oa h.q (by decide) e.symm, fun e => row_ne_blk h.ob h.q (by decide) e.symm⟩

theorem StD.rest (h : StD w wr Q C R v bs p inp vl va vb ls xs cs) (hR : R < w.heap.size) (hvb : ∀ ao n cap b off, v = .slice ao n cap → ao = some ⟨b, off, none⟩ → b < w.heap.size) {row : Option Nat} (hg : wr.grownBy w1 row) (hr : ∀ k, row = some k → w.heap.size ≤ k) : Rd w1 R v bs p ∧ Old R w.heap.size w w1 :=
  ⟨h.rd.own hg hR hvb hr, h.old.grown hg (by have := h.size; omega) (fun k e => .inl (hr k e))⟩

theorem StD.pushL (h : StD w wr Q C R v bs p inp vl va vb ls xs cs) (hR : R < w.heap.size) (hvb : ∀ ao n cap b off, v = .slice ao n cap → ao = some ⟨b, off, none⟩ → b < w.heap.size) {g cap : Nat} {x : Int} {y : Bool} (hx : Sm x)
    (hg : wr.grownBy w1 vl.ownBlock) (ho : w1.ownsRow w.heap.size 86 2 (.slice (some ⟨g, 0, none⟩) (ls.length + 1) cap) (ls.length + 1) (latV ls ++ [.int .i64 x, .bool y])) :
    StD w (w1.setCell ⟨C, 1, none⟩ (.slice (some ⟨g, 0, none⟩) (ls.length + 1) cap)) Q C R v bs p inp (.slice (some ⟨g, 0, none⟩) (ls.length + 1) cap) va vb (ls ++ [(x, y)]) xs cs := by
  have hob : ∀ k, vl.ownBlock = some k → w.heap.size ≤ k := fun k e => (World.ownsRow.lt h.ol k e).1
  obtain ⟨r1, o1⟩ := h.rest hR hvb hg hob
  have hg4 := grown_set w1 ⟨C, 1, none⟩ (.slice (some ⟨g, 0, none⟩) (ls.length + 1) cap)
  have hs1 := hg.size
  have hsz := h.size
  have hcc := h.hc
  have hne : ∀ k, k ≠ C → (w1.setCell ⟨C, 1, none⟩ (.slice (some ⟨g, 0, none⟩) (ls.length + 1) cap)).heap[k]? = w1.heap[k]? := fun k hk => Below.heap_setCell w1 _ _ k (by simpa using hk)
  have hC1 := h.c.of_block (hg.block _ h.c.lt h.ne.1)
  refine ⟨(h.q.of_block (hg.block _ h.q.lt h.neQ.1)).of_block (hne _ h.qc), hC1.set1 _, h.qc, h.hq, h.hc, ?_,
    row_of_block (row_of_block h.oa (fun k e => hg.block k (World.ownsRow.lt h.oa k e).2 (fun e2 => rows_apart h.oa h.ol (by decide) k e e2.symm))) (fun k e => hne k (fun e3 => h.ne.2.1 (by rw [e, e3]))),
    row_of_block (row_of_block h.ob (fun k e => hg.block k (World.ownsRow.lt h.ob k e).2 (fun e2 => rows_apart h.ob h.ol (by decide) k e e2.symm))) (fun k e => hne k (fun e3 => h.ne.2.2 (by rw [e, e3]))),
    r1.own hg4 hR hvb (fun k e => by have := Option.some.inj e; simp at this; omega), o1.grown hg4 (by omega) (fun k e => .inl (by have := Option.some.inj e; simp at this; omega)), ?_, h.sa, h.sb⟩
  · rw [List.length_append]
    have e : latV (ls ++ [(x, y)]) = latV ls ++ [.int .i64 x, .bool y] := by unfold latV; simp
    rw [e]
    exact row_of_block ho (fun k e => hne k (fun e3 => row_ne_blk ho hC1 (by decide) (by rw [e, e3])))
  · intro p hp
    rcases List.mem_append.1 hp with hp | hp
    · exact h.sl p hp
    · rw [List.mem_singleton.1 hp]; exact hx

theorem StD.pushA (h : StD w wr Q C R v bs p inp vl va vb ls xs cs) (hR : R < w.heap.size) (hvb : ∀ ao n cap b off, v = .slice ao n cap → ao = some ⟨b, off, none⟩ → b < w.heap.size) {g cap : Nat} {x y : Int} (hx : Sm x) (hy : Sm y)
    (hg : wr.grownBy w1 va.ownBlock) (ho : w1.ownsRow w.heap.size 65 2 (.slice (some ⟨g, 0, none⟩) (xs.length + 1) cap) (xs.length + 1) (andV xs ++ [.int .i64 x, .int .i64 y])) :
    StD w (w1.setCell ⟨C, 2, none⟩ (.slice (some ⟨g, 0, none⟩) (xs.length + 1) cap)) Q C R v bs p inp vl (.slice (some ⟨g, 0, none⟩) (xs.length + 1) cap) vb ls (xs ++ [(x, y)]) cs := by
  have hob : ∀ k, va.ownBlock = some k → w.heap.size ≤ k := fun k e => (World.ownsRow.lt h.oa k e).1
  obtain ⟨r1, o1⟩ := h.rest hR hvb hg hob
  have hg4 := grown_set w1 ⟨C, 2, none⟩ (.slice (some ⟨g, 0, none⟩) (xs.length + 1) cap)
  have hs1 := hg.size
  have hsz := h.size
  have hcc := h.hc
  have hne : ∀ k, k ≠ C → (w1.setCell ⟨C, 2, none⟩ (.slice (some ⟨g, 0, none⟩) (xs.length + 1) cap)).heap[k]? = w1.heap[k]? := fun k hk => Below.heap_setCell w1 _ _ k (by simpa using hk)
  have hC1 := h.c.of_block (hg.block _ h.c.lt h.ne.2.1)
  refine ⟨(h.q.of_block (hg.block _ h.q.lt h.neQ.2.1)).of_block (hne _ h.qc), hC1.set2 _, h.qc, h.hq, h.hc,
    row_of_block (row_of_block h.ol (fun k e => hg.block k (World.ownsRow.lt h.ol k e).2 (fun e2 => rows_apart h.ol h.oa (by decide) k e e2.symm))) (fun k e => hne k (fun e3 => h.ne.1 (by rw [e, e3]))), ?_,
    row_of_block (row_of_block h.ob (fun k e => hg.block k (World.ownsRow.lt h.ob k e).2 (fun e2 => rows_apart h.ob h.oa (by decide) k e e2.symm))) (fun k e => hne k (fun e3 => h.ne.2.2 (by rw [e, e3]))),
    r1.own hg4 hR hvb (fun k e => by have := Option.some.inj e; simp at this; omega), o1.grown hg4 (by omega) (fun k e => .inl (by have := Option.some.inj e; simp at this; omega)), h.sl, ?_, h.sb⟩
  · rw [List.length_append]
    have e : andV (xs ++ [(x, y)]) = andV xs ++ [.int .i64 x, .int .i64 y] := by unfold andV; simp
    rw [e]
    exact row_of_block ho (fun k e => hne k (fun e3 => row_ne_blk ho hC1 (by decide) (by rw [e, e3])))
  · intro p hp
    rcases List.mem_append.1 hp with hp | hp
    · exact h.sa p hp
    · rw [List.mem_singleton.1 hp]; exact ⟨hx, hy⟩

theorem StD.pushB (h : StD w wr Q C R v bs p inp vl va vb ls xs cs) (hR : R < w.heap.size) (hvb : ∀ ao n cap b off, v = .slice ao n cap → ao = some ⟨b, off, none⟩ → b < w.heap.size) {g cap : Nat} {x : Int} (hx : Sm x)
    (hg : wr.grownBy w1 vb.ownBlock) (ho : w1.ownsRow w.heap.size 3 1 (.slice (some ⟨g, 0, none⟩) (cs.length + 1) cap) (cs.length + 1) (intV cs ++ [.int .i64 x])) :
    StD w (w1.setCell ⟨C, 3, none⟩ (.slice (some ⟨g, 0, none⟩) (cs.length + 1) cap)) Q C R v bs p inp vl va (.slice (some ⟨g, 0, none⟩) (cs.length + 1) cap) ls xs (cs ++ [x]) := by
  have hob : ∀ k, vb.ownBlock = some k → w.heap.size ≤ k := fun k e => (World.ownsRow.lt h.ob k e).1
  obtain ⟨r1, o1⟩ := h.rest hR hvb hg hob
  have hg4 := grown_set w1 ⟨C, 3, none⟩ (.slice (some ⟨g, 0, none⟩) (cs.length + 1) cap)
  have hs1 := hg.size
  have hsz := h.size
  have hcc := h.hc
  have hne : ∀ k, k ≠ C → (w1.setCell ⟨C, 3, none⟩ (.slice (some ⟨g, 0, none⟩) (cs.length + 1) cap)).heap[k]? = w1.heap[k]? := fun k hk => Below.heap_setCell w1 _ _ k (by simpa using hk)
  have hC1 := h.c.of_block (hg.block _ h.c.lt h.ne.2.2)
  refine ⟨(h.q.of_block (hg.block _ h.q.lt h.neQ.2.2)).of_block (hne _ h.qc), hC1.set3 _, h.qc, h.hq, h.hc,
    row_of_block (row_of_block h.ol (fun k e => hg.block k (World.ownsRow.lt h.ol k e).2 (fun e2 => rows_apart h.ol h.ob (by decide) k e e2.symm))) (fun k e => hne k (fun e3 => h.ne.1 (by rw [e, e3]))),
    row_of_block (row_of_block h.oa (fun k e => hg.block k (World.ownsRow.lt h.oa k e).2 (fun e2 => rows_apart h.oa h.ob (by decide) k e e2.symm))) (fun k e => hne k (fun e3 => h.ne.2.1 (by rw [e, e3]))), ?_,
    r1.own hg4 hR hvb (fun k e => by have := Option.some.inj e; simp at this; omega), o1.grown hg4 (by omega) (fun k e => .inl (by have := Option.some.inj e; simp at this; omega)), h.sl, h.sa, ?_⟩
  · rw [List.length_append]
    have e : intV (cs ++ [x]) = intV cs ++ [.int .i64 x] := by unfold intV; simp
    rw [e]
    exact row_of_block ho (fun k e => hne k (fun e3 => row_ne_blk ho hC1 (by decide) (by rw [e, e3])))
  · intro p hp
    rcases List.mem_append.1 hp with hp | hp
    · exact h.sb p hp
    · rw [List.mem_singleton.1 hp]; exact hx

theorem StD.setI (h : StD w wr Q C R v bs p inp vl va vb ls xs cs) (hR : R < w.heap.size) (hvb : ∀ ao n cap b off, v = .slice ao n cap → ao = some ⟨b, off, none⟩ → b < w.heap.size) (n : Int) :
    StD w (wr.setCell ⟨C, 0, none⟩ (.int .i64 n)) Q C R v bs p n vl va vb ls xs cs := by
  have hcc := h.hc
  have hg4 := grown_set wr ⟨C, 0, none⟩ (.int .i64 n)
  obtain ⟨r1, o1⟩ := h.rest hR hvb hg4 (fun k e => by have := Option.some.inj e; simp at this; omega)
  have hne : ∀ k, k ≠ C → (wr.setCell ⟨C, 0, none⟩ (.int .i64 n)).heap[k]? = wr.heap[k]? := fun k hk => Below.heap_setCell wr _ _ k (by simpa using hk)
  exact ⟨h.q.of_block (hne _ h.qc), h.c.set0 _, h.qc, h.hq, h.hc, row_of_block h.ol (fun k e => hne k (fun e3 => h.ne.1 (by rw [e, e3]))), row_of_block h.oa (fun k e => hne k (fun e3 => h.ne.2.1 (by rw [e, e3]))), row_of_block h.ob (fun k e => hne k (fun e3 => h.ne.2.2 (by rw [e, e3]))),
    r1, o1, h.sl, h.sa, h.sb⟩

theorem GotD.set (h : GotD w wr R v bs p vl va vb ls xs cs) (hR : R < w.heap.size) (hvb : ∀ ao n cap b off, v = .slice ao n cap → ao = some ⟨b, off, none⟩ → b < w.heap.size) {a : Addr} (ha : w.heap.size ≤ a.block) (h1 : some a.block ≠ vl.ownBlock ∧ some a.block ≠ va.ownBlock ∧ some a.block ≠ vb.ownBlock) (u : Value) : GotD w (wr.setCell a u) R v bs p vl va vb ls xs cs := by
  have hg4 := grown_set wr a u
  have hne : ∀ k, k ≠ a.block → (wr.setCell a u).heap[k]? = wr.heap[k]? := fun k hk => Below.heap_setCell wr _ _ k hk
  have hs := h.old.size
  exact ⟨row_of_block h.ol (fun k e => hne k (fun e3 => h1.1 (by rw [e, e3]))), row_of_block h.oa (fun k e => hne k (fun e3 => h1.2.1 (by rw [e, e3]))), row_of_block h.ob (fun k e => hne k (fun e3 => h1.2.2 (by rw [e, e3]))),
    h.rd.own hg4 hR hvb (fun k e => by have := Option.some.inj e; omega), h.old.grown hg4 hs (fun k e => .inl (by have := Option.some.inj e; omega)), h.sl, h.sa, h.sb⟩

/-- The struct is stored into the result's block. -/
theorem StD.done (h : StD w wr Q C R v bs p inp vl va vb ls xs cs) (hR : R < w.heap.size) (hvb : ∀ ao n cap b off, v = .slice ao n cap → ao = some ⟨b, off, none⟩ → b < w.heap.size) (a0 a1 a2 a3 : Value) :
    GotD w ((((wr.setCell ⟨Q, 0, none⟩ a0).setCell ⟨Q, 1, none⟩ a1).setCell ⟨Q, 2, none⟩ a2).setCell ⟨Q, 3, none⟩ a3) R v bs p vl va vb ls xs cs :=
  have g : GotD w wr R v bs p vl va vb ls xs cs := ⟨h.ol, h.oa, h.ob, h.rd, h.old, h.sl, h.sa, h.sb⟩
  (((g.set hR hvb (a := ⟨Q, 0, none⟩) h.hq h.neQ a0).set hR hvb (a := ⟨Q, 1, none⟩) h.hq h.neQ a1).set hR hvb (a := ⟨Q, 2, none⟩) h.hq h.neQ a2).set hR hvb (a := ⟨Q, 3, none⟩) h.hq h.neQ a3

end

/-- What a circuit that was drawn on is. -/
def AnyPost (R : Nat) (v : Value) (bs : List Int) (p : Nat) (w : World) (e : Ending) (w' : World) : Prop :=
  ∃ (inp : Int) (al aa ab : Option Addr) (cl ca cb : Nat) (ls : List (Int × Bool)) (xs : List (Int × Int)) (cs : List Int) (p' : Nat), e = .returned (.agg #[.int .i64 inp, .slice al ls.length cl, .slice aa xs.length ca, .slice ab cs.length cb]) ∧ -1 ≤ inp ∧ inp ≤ 9 ∧ ls.length ≤ 4 ∧ xs.length ≤ 41 ∧ cs.length ≤ 5 ∧ p' ≤ p + 300 ∧
    GotD w w' R v bs p' (.slice al ls.length cl) (.slice aa xs.length ca) (.slice ab cs.length cb) ls xs cs

theorem lit_cells (w : World) (xs : List Int) (t : TypeId) : ∀ i, i < xs.length → (w.alloc (.cells (xs.map (Value.int .i64)).toArray t)).cell? ⟨w.heap.size, 0 + i, none⟩ = some (.int .i64 (xs.getD i 0)) := by
  intro i hi
  rw [World.cell?_alloc_new]
  simp [List.getD, hi]

set_option maxHeartbeats 1000000 in
theorem one_any (R : Nat) (v : Value) (bs : List Int) (p : Nat) (b off n cap : Nat) (xs : List Int) (w : World) (hr : Rd w R v bs p) (hp : p ≤ 500000) (hn : xs.length = n) (h0 : 0 < n) (h9 : n ≤ 9) (hb : b ≠ R) (hc : ∀ i, i < n → w.cell? ⟨b, off + i, none⟩ = some (.int .i64 (xs.getD i 0))) :
    Calls Try.prog 114 #[.pointer (some ⟨R, 0, none⟩), .slice (some ⟨b, off, none⟩) n cap] w fun e w' => ∃ x : Int, e = .returned (.int .i64 x) ∧ x ∈ xs ∧ Rd w' R v bs (p + 1) ∧ w.grownBy w' (some R) ∧ w'.heap.size = w.heap.size := by
  have HC : Hid (∀ i, i < n → w.cell? ⟨b, off + i, none⟩ = some (.int .i64 (xs.getD i 0))) := hc
  have HN : Hid (xs.length = n) := hn
  clear hc hn
  go_enter Try.func114, Try.ntmps114
  go_wp2_with fail
  refine (pick_any R v bs p _ _ hr (by omega) (by omega)).mono ?_
  rintro e w1 ⟨x, rfl, hx0, hx1, hx2, hrd1, hg1, hs1⟩
  have hxn : x < n := hx1 (by omega)
  obtain ⟨i, rfl⟩ := Int.eq_ofNat_of_zero_le hx0
  have hi : i < n := by omega
  have hcell : w1.cell? ⟨b, off + i, none⟩ = some (.int .i64 (xs.getD i 0)) := hg1.cell (HC.out i hi) (fun e => hb (Option.some.inj e))
  have HMEM : Hid (xs.getD i 0 ∈ xs) := by
    have hi' : i < xs.length := by rw [HN.out]; exact hi
    show xs.getD i 0 ∈ xs
    rw [List.getD, List.getElem?_eq_getElem hi']; simp
  have HR1 : Hid (Rd w1 R v bs (p + 1)) := hrd1
  have HG1 : Hid (w.grownBy w1 (some R)) := hg1
  have HS1 : Hid (w1.heap.size = w.heap.size) := hs1
  clear hrd1 hg1 hs1 hx1 hx2
  generalize xs.getD i 0 = z at *
  go_wp2
  go_ret
  exact ⟨z, rfl, HMEM.out, HR1.out, HG1.out, HS1.out⟩

end Go.Proofs.Ytbdjdgamnnifjaa

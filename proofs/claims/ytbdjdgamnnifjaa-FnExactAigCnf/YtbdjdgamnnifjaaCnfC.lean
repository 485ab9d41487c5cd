/-
  Clauses of a circuit: the model's AigCnf.
-/
import Derived.Test.YtbdjdgamnnifjaaCnfB
import Derived.Test.YtbdjdgamnnifjaaHold
import Derived.Test.YtbdjdgamnnifjaaAigK
namespace Go.Proofs.Ytbdjdgamnnifjaa
open Go.RowKit Go.Deep Go.Shelf
set_option linter.unusedVariables false

attribute [local go_sem] Oper.semAt_some

/-- The clauses of one and. -/
def cl3 (css : List (List Int)) (n : Int) (p : Int × Int) : List (List Int) := addCl (addCl (addCl css [2 * n + 1, p.1]) [2 * n + 1, p.2]) [2 * n, oppL p.1, oppL p.2]
/-- The clauses of so many ands. -/
def clsF (F : Int) (xs : List (Int × Int)) : Nat → List (List Int)
  | 0 => []
  | k + 1 => cl3 (clsF F xs k) (F + (k : Int)) (xs.getD k (0, 0))

theorem addCl_le (css : List (List Int)) (ys : List Int) : (addCl css ys).length ≤ css.length + 1 := by
  unfold addCl
  split
  · omega
  · simp
theorem clsF_le (F : Int) (xs : List (Int × Int)) (k : Nat) : (clsF F xs k).length ≤ 3 * k := by
  induction k with
  | zero => exact Nat.le_refl _
  | succ k ih =>
    show (cl3 _ _ _).length ≤ _
    unfold cl3
    have h1 := addCl_le (addCl (addCl (clsF F xs k) [2 * (F + (k : Int)) + 1, (xs.getD k (0, 0)).1]) [2 * (F + (k : Int)) + 1, (xs.getD k (0, 0)).2]) [2 * (F + (k : Int)), oppL (xs.getD k (0, 0)).1, oppL (xs.getD k (0, 0)).2]
    have h2 := addCl_le (addCl (clsF F xs k) [2 * (F + (k : Int)) + 1, (xs.getD k (0, 0)).1]) [2 * (F + (k : Int)) + 1, (xs.getD k (0, 0)).2]
    have h3 := addCl_le (clsF F xs k) [2 * (F + (k : Int)) + 1, (xs.getD k (0, 0)).1]
    omega

theorem addCl_wide {css : List (List Int)} {ys : List Int} (h : ∀ c ∈ css, c.length ≤ 10) (hy : ys.length ≤ 10) : ∀ c ∈ addCl css ys, c.length ≤ 10 := by
  unfold addCl
  split
  · exact h
  · intro c hc
    rcases List.mem_append.1 hc with hc | hc
    · exact h c hc
    · obtain rfl : c = clauseK ys ys.length := by simpa using hc
      have := clauseK_le ys ys.length
      omega
theorem clsF_wide (F : Int) (xs : List (Int × Int)) (k : Nat) : ∀ c ∈ clsF F xs k, c.length ≤ 10 := by
  induction k with
  | zero => intro c hc; cases hc
  | succ k ih => exact addCl_wide (addCl_wide (addCl_wide ih (by simp)) (by simp)) (by simp)

/-- Two cells of clauses in memory. -/
def BlkC (w : World) (b : Nat) (a0 a1 : Value) : Prop := w.heap[b]? = some (.cells #[a0, a1] 55 (0, 0))
theorem BlkC.lt {w : World} {b : Nat} {a0 a1 : Value} (h : BlkC w b a0 a1) : b < w.heap.size := (Array.getElem?_eq_some_iff.1 h).1
theorem BlkC.c0 {w : World} {b : Nat} {a0 a1 : Value} (h : BlkC w b a0 a1) : w.cell? ⟨b, 0, none⟩ = some a0 := by unfold BlkC at h; simp [World.cell?, h]
theorem BlkC.c1 {w : World} {b : Nat} {a0 a1 : Value} (h : BlkC w b a0 a1) : w.cell? ⟨b, 1, none⟩ = some a1 := by unfold BlkC at h; simp [World.cell?, h]
theorem BlkC.f {w : World} {b : Nat} {a0 a1 : Value} (h : BlkC w b a0 a1) (i : Nat) : w.frozen? ⟨b, i, none⟩ = false := by unfold BlkC at h; simp [World.frozen?, h]
theorem BlkC.set0 {w : World} {b : Nat} {a0 a1 : Value} (h : BlkC w b a0 a1) (u : Value) : BlkC (w.setCell ⟨b, 0, none⟩ u) b u a1 := by
  unfold BlkC at *; simp [World.setCell, Array.getElem?_modify, h]
theorem BlkC.set1 {w : World} {b : Nat} {a0 a1 : Value} (h : BlkC w b a0 a1) (u : Value) : BlkC (w.setCell ⟨b, 1, none⟩ u) b a0 u := by
  unfold BlkC at *; simp [World.setCell, Array.getElem?_modify, h]
theorem BlkC.new (w : World) (a0 a1 : Value) : BlkC (w.alloc (.cells #[a0, a1] 55)) w.heap.size a0 a1 := World.alloc_heap_new _ _
theorem BlkC.below {w w' : World} {b : Nat} {a0 a1 : Value} (h : BlkC w b a0 a1) (hb : Below w.heap.size w w') : BlkC w' b a0 a1 := (hb.block b h.lt).trans h
theorem BlkC.chg {p : Nat → Prop} {w w' : World} {b : Nat} {a0 a1 : Value} (h : BlkC w b a0 a1) (hc : Chg p w w') (hp : ¬ p b) : BlkC w' b a0 a1 := (hc.block b h.lt hp).trans h
theorem BlkC.other {w : World} {b : Nat} {a0 a1 : Value} (h : BlkC w b a0 a1) {a : Addr} (ha : b ≠ a.block) (u : Value) : BlkC (w.setCell a u) b a0 a1 := (blk_setCell_other w a u b ha).trans h

/-- What holds while clauses of a circuit are put: the variable C, the result's variable Q, the circuit's box. -/
structure Cst (w wr : World) (Q C lo : Nat) (vars : Int) (vc : Value) (css : List (List Int)) (c0 c1 c2 c3 : Value) : Prop where
  c : BlkC wr C (.int .i64 vars) vc
  g : GridL wr lo wr.heap.size vc css
  q : BlkC wr Q (.int .i64 0) (.slice none 0 0)
  a : Own4 wr w.heap.size 33 c0 c1 c2 c3
  bel : Below w.heap.size w wr
  wq : w.heap.size < Q
  qc : Q < C
  cl : C < lo
  ll : lo ≤ wr.heap.size

theorem Cst.below {w wr w' : World} {Q C lo : Nat} {vars : Int} {vc : Value} {css : List (List Int)} {c0 c1 c2 c3 : Value} (h : Cst w wr Q C lo vars vc css c0 c1 c2 c3) (hb : Below wr.heap.size wr w') : Cst w w' Q C lo vars vc css c0 c1 c2 c3 :=
  ⟨h.c.below hb, (GridF.below h.g hb).wide (Nat.le_refl _) hb.size, h.q.below hb, h.a.below hb, belNext h.bel hb, h.wq, h.qc, h.cl, Nat.le_trans h.ll hb.size⟩

theorem Cst.blk {w wr : World} {Q C lo : Nat} {vars : Int} {vc : Value} {css : List (List Int)} {c0 c1 c2 c3 : Value} (h : Cst w wr Q C lo vars vc css c0 c1 c2 c3) : ∀ k, vc.ownBlock = some k → lo ≤ k ∧ k < wr.heap.size := by
  obtain ⟨vs, g1, _⟩ := h.g
  exact World.ownsRow.lt g1

/-- One clause more, stored into the variable. -/
theorem Cst.step {w wr w1 w2 : World} {Q C lo n cap : Nat} {vars : Int} {vc : Value} {ao : Option Addr} {css ds : List (List Int)} {c0 c1 c2 c3 : Value} (h : Cst w wr Q C lo vars vc css c0 c1 c2 c3) (hb : Below wr.heap.size wr w1) (hg : GridL w2 lo w2.heap.size (.slice ao n cap) ds) (hc : Chg (fun k => vc.ownBlock = some k) w1 w2) : Cst w (w2.setCell ⟨C, 1, none⟩ (.slice ao n cap)) Q C lo vars (.slice ao n cap) ds c0 c1 c2 c3 := by
  have h1 := h.below hb
  have hk := h1.blk
  have hcl := h1.cl
  have hqc := h1.qc
  have hwq := h1.wq
  have hsz : (w2.setCell ⟨C, 1, none⟩ (.slice ao n cap)).heap.size = w2.heap.size := by simp
  refine ⟨(h1.c.chg hc (fun e => by have := hk _ e; omega)).set1 _, ?_, (h1.q.chg hc (fun e => by have := hk _ e; omega)).other (by show Q ≠ C; omega) _, ?_, ?_, hwq, hqc, hcl, ?_⟩
  · rw [hsz]
    exact GridF.keep hg (fun k hlo _ _ => blk_setCell_other _ _ _ _ (by show k ≠ C; omega))
  · refine Own4.other ?_ (by show w.heap.size ≠ C; omega) _
    exact (hc.block _ h1.a.lt (fun e => by have := hk _ e; omega)).trans h1.a
  · exact (Chg.below h1.bel h1.bel.size hc (fun k e => by have := hk _ e; omega)).setCell (p := ⟨C, 1, none⟩) (by show w.heap.size ≤ C; omega) _
  · rw [hsz]
    exact Nat.le_trans h1.ll hc.size

/-- What stands ahead of the store. -/
theorem Cst.mid {w wr w1 w2 : World} {Q C lo : Nat} {vars : Int} {vc : Value} {css : List (List Int)} {c0 c1 c2 c3 : Value} (h : Cst w wr Q C lo vars vc css c0 c1 c2 c3) (hb : Below wr.heap.size wr w1) (hc : Chg (fun k => vc.ownBlock = some k) w1 w2) : BlkC w2 C (.int .i64 vars) vc ∧ Own4 w2 w.heap.size 33 c0 c1 c2 c3 ∧ Below w.heap.size w w2 := by
  have h1 := h.below hb
  have hk := h1.blk
  have hcl := h1.cl
  have hqc := h1.qc
  have hwq := h1.wq
  exact ⟨h1.c.chg hc (fun e => by have := hk _ e; omega), (hc.block _ h1.a.lt (fun e => by have := hk _ e; omega)).trans h1.a, Chg.below h1.bel h1.bel.size hc (fun k e => by have := hk _ e; omega)⟩

theorem built2 (w : World) (x y : Int) (t : TypeId) : IsInts (w.alloc (.cells #[.int .i64 x, .int .i64 y] t)) (.slice (some ⟨w.heap.size, 0, none⟩) 2 2) [x, y] :=
  ⟨_, _, rfl, fun _ => ⟨w.heap.size, 0, rfl, fun i hi => by
    rcases i with _ | _ | i
    · simp
    · simp
    · simp at hi; omega⟩⟩
theorem built3 (w : World) (x y z : Int) (t : TypeId) : IsInts (w.alloc (.cells #[.int .i64 x, .int .i64 y, .int .i64 z] t)) (.slice (some ⟨w.heap.size, 0, none⟩) 3 3) [x, y, z] :=
  ⟨_, _, rfl, fun _ => ⟨w.heap.size, 0, rfl, fun i hi => by
    rcases i with _ | _ | _ | i
    · simp
    · simp
    · simp
    · simp at hi; omega⟩⟩

theorem oppL_range {x : Int} (h0 : 0 ≤ x) (h1 : x ≤ 190) : 0 ≤ oppL x ∧ oppL x ≤ 200 := by
  unfold oppL
  split <;> omega

/-- What AigCnf answers. -/
def cnfVars (inp : Int) (ls : List (Int × Bool)) (xs : List (Int × Int)) (bs : List Int) : Int := if okC inp ls xs bs = true then inp + ls.length + xs.length else 0
def cnfCss (inp : Int) (ls : List (Int × Bool)) (xs : List (Int × Int)) (bs : List Int) : List (List Int) := if okC inp ls xs bs = true then clsF (1 + inp + ls.length) xs xs.length else []

def CnfPostA (inp : Int) (ls : List (Int × Bool)) (xs : List (Int × Int)) (bs : List Int) (w : World) (e : Ending) (w' : World) : Prop :=
  ∃ ao n cap, e = .returned (.agg #[.int .i64 (cnfVars inp ls xs bs), .slice ao n cap]) ∧ (cnfCss inp ls xs bs).length = n ∧ GridL w' w.heap.size w'.heap.size (.slice ao n cap) (cnfCss inp ls xs bs) ∧ Below w.heap.size w w'

theorem pair_small {inp : Int} {ls : List (Int × Bool)} {xs : List (Int × Int)} {bs : List Int} (h : okC inp ls xs bs = true) (h64 : ∀ p ∈ xs, I64 p.1 ∧ I64 p.2) {k : Nat} (hk : k < xs.length) : (0 ≤ (xs.getD k (0, 0)).1 ∧ (xs.getD k (0, 0)).1 ≤ 190) ∧ (0 ≤ (xs.getD k (0, 0)).2 ∧ (xs.getD k (0, 0)).2 ≤ 190) := by
  obtain ⟨p1, p2⟩ := pair_of_ok h hk
  have hm : xs.getD k (0, 0) ∈ xs := by rw [List.getD, List.getElem?_eq_getElem hk]; simp
  obtain ⟨q1, q2⟩ := h64 _ hm
  obtain ⟨a0, a1⟩ := ahead_of p1 q1
  obtain ⟨b0, b1⟩ := ahead_of p2 q2
  unfold okC sizesB at h
  simp only [Bool.and_eq_true, decide_eq_true_eq] at h
  obtain ⟨⟨c0, c1, c2, c3, _⟩, _⟩ := h
  omega

end Go.Proofs.Ytbdjdgamnnifjaa

/-
  Rows of elements of one and of two cells in blocks of the call's own; a circuit's block.
-/
import Derived.Test.YtbdjdgamnnifjaaAigE
import Derived.Test.YtbdjdgamnnifjaaChg
import Derived.Deep.AppendLies
import Derived.OneCell
namespace Go.Proofs.Ytbdjdgamnnifjaa
open Go.RowKit Go.Deep
set_option linter.unusedVariables false

/-- A block that holds a struct of four fields. -/
def Blk4 (w : World) (b : Nat) (a0 a1 a2 a3 : Value) : Prop := w.heap[b]? = some (.cells #[a0, a1, a2, a3] 33 (0, 0))

section
variable {w w' : World} {b : Nat} {a0 a1 a2 a3 : Value}
theorem Blk4.lt (h : Blk4 w b a0 a1 a2 a3) : b < w.heap.size := (Array.getElem?_eq_some_iff.1 h).1
theorem Blk4.c0 (h : Blk4 w b a0 a1 a2 a3) : w.cell? ⟨b, 0, none⟩ = some a0 := by unfold Blk4 at h; simp [World.cell?, h]
theorem Blk4.c1 (h : Blk4 w b a0 a1 a2 a3) : w.cell? ⟨b, 1, none⟩ = some a1 := by unfold Blk4 at h; simp [World.cell?, h]
theorem Blk4.c2 (h : Blk4 w b a0 a1 a2 a3) : w.cell? ⟨b, 2, none⟩ = some a2 := by unfold Blk4 at h; simp [World.cell?, h]
theorem Blk4.c3 (h : Blk4 w b a0 a1 a2 a3) : w.cell? ⟨b, 3, none⟩ = some a3 := by unfold Blk4 at h; simp [World.cell?, h]
theorem Blk4.f (h : Blk4 w b a0 a1 a2 a3) (i : Nat) : w.frozen? ⟨b, i, none⟩ = false := by unfold Blk4 at h; simp [World.frozen?, h]
theorem Blk4.of_block (h : Blk4 w b a0 a1 a2 a3) (e : w'.heap[b]? = w.heap[b]?) : Blk4 w' b a0 a1 a2 a3 := e.trans h
theorem Blk4.set0 (h : Blk4 w b a0 a1 a2 a3) (u : Value) : Blk4 (w.setCell ⟨b, 0, none⟩ u) b u a1 a2 a3 := by unfold Blk4 at *; simp [World.setCell, Array.getElem?_modify, h]
theorem Blk4.set1 (h : Blk4 w b a0 a1 a2 a3) (u : Value) : Blk4 (w.setCell ⟨b, 1, none⟩ u) b a0 u a2 a3 := by unfold Blk4 at *; simp [World.setCell, Array.getElem?_modify, h]
theorem Blk4.set2 (h : Blk4 w b a0 a1 a2 a3) (u : Value) : Blk4 (w.setCell ⟨b, 2, none⟩ u) b a0 a1 u a3 := by unfold Blk4 at *; simp [World.setCell, Array.getElem?_modify, h]
theorem Blk4.set3 (h : Blk4 w b a0 a1 a2 a3) (u : Value) : Blk4 (w.setCell ⟨b, 3, none⟩ u) b a0 a1 a2 u := by unfold Blk4 at *; simp [World.setCell, Array.getElem?_modify, h]
theorem Blk4.new (w : World) (a0 a1 a2 a3 : Value) : Blk4 (w.alloc (.cells #[a0, a1, a2, a3] 33)) w.heap.size a0 a1 a2 a3 := World.alloc_heap_new _ _
end

def latV (ls : List (Int × Bool)) : List Value := ls.flatMap fun p => [.int .i64 p.1, .bool p.2]
def andV (xs : List (Int × Int)) : List Value := xs.flatMap fun p => [.int .i64 p.1, .int .i64 p.2]
def intV (cs : List Int) : List Value := cs.map (Value.int .i64)

theorem flat2_length {α : Type} (f g : α → Value) (xs : List α) : (xs.flatMap fun p => [f p, g p]).length = xs.length * 2 := by
  induction xs with
  | nil => rfl
  | cons a l ih => simp [ih]; omega

theorem flat2_get0 {α : Type} (f g : α → Value) (xs : List α) (d : α) (i : Nat) (h : i < xs.length) : (xs.flatMap fun p => [f p, g p])[i * 2]? = some (f (xs.getD i d)) := by
  induction xs generalizing i with
  | nil => simp at h
  | cons a l ih =>
    cases i with
    | zero => simp
    | succ i =>
      have := ih i (by simpa using h)
      have e : (i + 1) * 2 = i * 2 + 2 := by omega
      rw [e]
      simpa using this

theorem flat2_get1 {α : Type} (f g : α → Value) (xs : List α) (d : α) (i : Nat) (h : i < xs.length) : (xs.flatMap fun p => [f p, g p])[i * 2 + 1]? = some (g (xs.getD i d)) := by
  induction xs generalizing i with
  | nil => simp at h
  | cons a l ih =>
    cases i with
    | zero => simp
    | succ i =>
      have := ih i (by simpa using h)
      have e : (i + 1) * 2 + 1 = i * 2 + 1 + 2 := by omega
      rw [e]
      simpa using this

theorem flat2_set0 {α : Type} (f g : α → Value) (xs : List α) (d q : α) (i : Nat) (h : i < xs.length) (hq : g q = g (xs.getD i d)) : (xs.flatMap fun p => [f p, g p]).set (i * 2) (f q) = ((xs.set i q).flatMap fun p => [f p, g p]) := by
  induction xs generalizing i with
  | nil => simp at h
  | cons a l ih =>
    cases i with
    | zero => simp at hq; simp [hq]
    | succ i =>
      have := ih i (by simpa using h) (by simpa using hq)
      have e : (i + 1) * 2 = i * 2 + 2 := by omega
      rw [e]
      simpa using this

theorem row_of_block {w w' : World} {base : Nat} {e : TypeId} {size : Nat} {v : Value} {n : Nat} {xs : List Value} (h : w.ownsRow base e size v n xs) (hk : ∀ k, v.ownBlock = some k → w'.heap[k]? = w.heap[k]?) : w'.ownsRow base e size v n xs := by
  refine ⟨h.1, ?_⟩
  rcases h.2 with h2 | ⟨g, cap, cur, hv, hg, hh, r⟩
  · exact .inl h2
  · exact .inr ⟨g, cap, cur, hv, hg, (hk g (by rw [hv]; rfl)).trans hh, r⟩

/-- Rows of two kinds lie in two blocks. -/
theorem rows_apart {w : World} {b1 b2 : Nat} {e1 e2 : TypeId} {s1 s2 : Nat} {v1 v2 : Value} {n1 n2 : Nat} {x1 x2 : List Value} (h1 : w.ownsRow b1 e1 s1 v1 n1 x1) (h2 : w.ownsRow b2 e2 s2 v2 n2 x2) (hne : e1 ≠ e2) (k : Nat) (k1 : v1.ownBlock = some k) : v2.ownBlock ≠ some k := by
  intro k2
  rcases h1.2 with ⟨h3, _⟩ | ⟨g1, c1, cur1, h3, _, hh1, _⟩
  · rw [h3] at k1; cases k1
  rcases h2.2 with ⟨h4, _⟩ | ⟨g2, c2, cur2, h4, _, hh2, _⟩
  · rw [h4] at k2; cases k2
  rw [h3] at k1
  rw [h4] at k2
  have e1' : g1 = k := Option.some.inj k1
  have e2' : g2 = k := Option.some.inj k2
  subst e1'
  subst e2'
  rw [hh1] at hh2
  injection hh2 with h
  injection h with _ h
  exact hne h

theorem row_slice {w : World} {base : Nat} {e : TypeId} {size : Nat} {v : Value} {n : Nat} {xs : List Value} (h : w.ownsRow base e size v n xs) : ∃ ao cap, v = .slice ao n cap := by
  rcases h.2 with ⟨h2, h3⟩ | ⟨g, cap, cur, h2, _⟩
  · rw [h3]; exact ⟨_, _, h2⟩
  · exact ⟨_, _, h2⟩

theorem row_base {w : World} {b b' : Nat} {e : TypeId} {s : Nat} {v : Value} {n : Nat} {xs : List Value} (h : w.ownsRow b e s v n xs) (hb : b' ≤ b) : w.ownsRow b' e s v n xs := by
  refine ⟨h.1, ?_⟩
  rcases h.2 with h2 | ⟨g, cap, cur, hv, hg, r⟩
  · exact .inl h2
  · exact .inr ⟨g, cap, cur, hv, by omega, r⟩

/-- A row lies in another block than a circuit. -/
theorem row_ne_blk {w : World} {b C : Nat} {e : TypeId} {s : Nat} {v : Value} {n : Nat} {xs : List Value} {a0 a1 a2 a3 : Value} (h : w.ownsRow b e s v n xs) (hc : Blk4 w C a0 a1 a2 a3) (hne : e ≠ 33) : v.ownBlock ≠ some C := by
  intro k1
  rcases h.2 with ⟨h3, _⟩ | ⟨g1, c1, cur1, h3, _, hh1, _⟩
  · rw [h3] at k1; cases k1
  rw [h3] at k1
  have e1 : g1 = C := Option.some.inj k1
  subst e1
  unfold Blk4 at hc
  rw [hh1] at hc
  injection hc with h'
  injection h' with _ h'
  exact hne h'

section
variable {wr : World} {ls : List (Int × Bool)} {xs : List (Int × Int)} {cs : List Int}

theorem isLatches_row {base cap : Nat} {ao : Option Addr} (h : wr.ownsRow base 86 2 (.slice ao ls.length cap) ls.length (latV ls)) : IsLatches wr (.slice ao ls.length cap) ls := by
  refine ⟨ao, cap, rfl, fun hne => ?_⟩
  obtain ⟨g, c', h1, h2, h3⟩ := World.ownsRow.form h (List.length_pos_iff.2 hne)
  injection h1 with e1 e2 e3
  exact ⟨g, 0, e1, fun i hi => ⟨by subst e1; rw [Nat.zero_add]; exact (World.ownsRow.cellAt h (i * 2) (by omega)).trans (flat2_get0 (fun p : Int × Bool => Value.int .i64 p.1) (fun p => Value.bool p.2) ls (0, false) i hi),
    by subst e1; rw [Nat.zero_add]; exact (World.ownsRow.cellAt h (i * 2 + 1) (by omega)).trans (flat2_get1 (fun p : Int × Bool => Value.int .i64 p.1) (fun p => Value.bool p.2) ls (0, false) i hi)⟩⟩

theorem isAnds_row {base cap : Nat} {ao : Option Addr} (h : wr.ownsRow base 65 2 (.slice ao xs.length cap) xs.length (andV xs)) : IsAnds wr (.slice ao xs.length cap) xs := by
  refine ⟨ao, cap, rfl, fun hne => ?_⟩
  obtain ⟨g, c', h1, h2, h3⟩ := World.ownsRow.form h (List.length_pos_iff.2 hne)
  injection h1 with e1 e2 e3
  exact ⟨g, 0, e1, fun i hi => ⟨by subst e1; rw [Nat.zero_add]; exact (World.ownsRow.cellAt h (i * 2) (by omega)).trans (flat2_get0 (fun p : Int × Int => Value.int .i64 p.1) (fun p => Value.int .i64 p.2) xs (0, 0) i hi),
    by subst e1; rw [Nat.zero_add]; exact (World.ownsRow.cellAt h (i * 2 + 1) (by omega)).trans (flat2_get1 (fun p : Int × Int => Value.int .i64 p.1) (fun p => Value.int .i64 p.2) xs (0, 0) i hi)⟩⟩

theorem isInts_row {base cap : Nat} {ao : Option Addr} (h : wr.ownsRow base 3 1 (.slice ao cs.length cap) cs.length (intV cs)) : IsInts wr (.slice ao cs.length cap) cs := by
  refine ⟨ao, cap, rfl, fun hne => ?_⟩
  obtain ⟨g, c', h1, h2, h3⟩ := World.ownsRow.form h (List.length_pos_iff.2 hne)
  injection h1 with e1 e2 e3
  exact ⟨g, 0, e1, fun i hi => by subst e1; rw [Nat.zero_add]; exact (World.ownsRow.cellAt h i (by omega)).trans (by simp [intV, List.getD, hi])⟩

theorem row_in {base e s n cap : Nat} {ao : Option Addr} {zs : List Value} (h : wr.ownsRow base e s (.slice ao n cap) n zs) : ∀ b off, ao = some ⟨b, off, none⟩ → b < wr.heap.size := by
  intro b off e1
  rcases h.2 with ⟨h3, _⟩ | ⟨g1, c1, cur1, h3, _, hh1, _⟩
  · cases h3; cases e1
  · cases h3; cases e1
    exact (Array.getElem?_eq_some_iff.1 hh1).1

end

theorem news2 (w : World) (x y : Value) (t : TypeId) : ∀ j u, [x, y][j]? = some u → (w.alloc (.cells #[x, y] t)).cell? ((⟨w.heap.size, 0, none⟩ : Addr).add j) = some u := by
  intro j u h
  rw [Addr.add_lit]
  match j, h with
  | 0, h => simp at h; subst h; simp
  | 1, h => simp at h; subst h; simp
  | j + 2, h => simp at h

theorem news1 (w : World) (x : Value) (t : TypeId) : ∀ j u, [x][j]? = some u → (w.alloc (.cells #[x] t)).cell? ((⟨w.heap.size, 0, none⟩ : Addr).add j) = some u := by
  intro j u h
  cases j with
  | zero => simp at h; subst h; simp [Addr.add]
  | succ j => simp at h

theorem lat_oneCell (x : Int) (y : Bool) : ∀ u ∈ [Value.int .i64 x, .bool y], u.oneCell' = true := by intro u hu; simp at hu; rcases hu with rfl | rfl <;> rfl
theorem and_oneCell (x y : Int) : ∀ u ∈ [Value.int .i64 x, .int .i64 y], u.oneCell' = true := by intro u hu; simp at hu; rcases hu with rfl | rfl <;> rfl

end Go.Proofs.Ytbdjdgamnnifjaa

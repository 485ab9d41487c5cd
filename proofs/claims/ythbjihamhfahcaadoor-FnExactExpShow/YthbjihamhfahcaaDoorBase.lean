/-
  Plain facts that the walks over the exact laws of clauses share: what it means that a slice holds numbers, that a slice of slices holds lists of numbers. No walk.
-/
import Derived.Test.YthbjihamhfahcaaDoorRows
import Derived.WalkKit
import Derived.ProofKit
import Derived.OpenShut
import Derived.Handy
import Derived.Deep.OwnRows
import Derived.Deep.Matrix
import Derived.WalkLawsBesides
import Derived.WalkSpells
namespace Go.Proofs.YthbjihamhfahcaaDoor
open Go.RowKit Go.Deep

/-- The value is a slice of these numbers. -/
def IsInts (w : World) (v : Value) (xs : List Int) : Prop :=
  ∃ ao cap, v = .slice ao xs.length cap ∧ (xs ≠ [] → ∃ b off, ao = some ⟨b, off, none⟩ ∧ ∀ i, i < xs.length → w.cell? ⟨b, off + i, none⟩ = some (.int .i64 (xs.getD i 0)))

/-- The value is a slice of slices of these numbers. -/
def IsRows (w : World) (v : Value) (xss : List (List Int)) : Prop :=
  ∃ ao cap, v = .slice ao xss.length cap ∧ (xss ≠ [] → ∃ b off, ao = some ⟨b, off, none⟩ ∧ ∀ i, i < xss.length → ∃ r, w.cell? ⟨b, off + i, none⟩ = some r ∧ IsInts w r (xss.getD i []))

/-- How many numbers there are in the rows together. -/
def sumLen (xss : List (List Int)) : Nat := (xss.map List.length).sum

theorem sumLen_take_succ (xss : List (List Int)) (k : Nat) (h : k < xss.length) : sumLen (xss.take (k + 1)) = sumLen (xss.take k) + (xss.getD k []).length := by
  unfold sumLen
  rw [List.take_succ_eq_append_getElem h, List.map_append, List.sum_append]
  simp only [List.map_cons, List.map_nil, List.sum_cons, List.sum_nil, Nat.add_zero, List.getD, List.getElem?_eq_getElem h, Option.getD_some]

theorem sumLen_take_le (xss : List (List Int)) (k : Nat) : sumLen (xss.take k) ≤ sumLen xss := by
  have h : ((xss.take k ++ xss.drop k).map List.length).sum = (xss.map List.length).sum := by rw [List.take_append_drop]
  rw [List.map_append, List.sum_append] at h
  unfold sumLen
  omega

theorem row_le (xss : List (List Int)) (k : Nat) (h : k < xss.length) : (xss.getD k []).length ≤ sumLen xss := by
  have h1 := sumLen_take_succ xss k h
  have h2 := sumLen_take_le xss (k + 1)
  omega

theorem info_int : (Tryd.prog.info? 3).map (fun i => (i.zero, i.size, i.bytes)) = some (some (.int .i64 0), 1, 8) := by kernel_rfl
theorem info_bool : (Tryd.prog.info? 4).map (fun i => (i.zero, i.size, i.bytes)) = some (some (.bool false), 1, 1) := by kernel_rfl

/-- Cells that were there are there behind a call that turns nothing old. -/
theorem cell_lt {w : World} {a : Addr} {v : Value} (h : w.cell? a = some v) : a.block < w.heap.size := by
  unfold World.cell? at h
  split at h
  · rename_i hb
    exact (Array.getElem?_eq_some_iff.1 hb).1
  · cases h

theorem IsInts.below {w w' : World} {v : Value} {xs : List Int} (h : IsInts w v xs) (hb : Below w.heap.size w w') : IsInts w' v xs := by
  obtain ⟨ao, cap, rfl, h⟩ := h
  refine ⟨ao, cap, rfl, fun hne => ?_⟩
  obtain ⟨b, off, rfl, hc⟩ := h hne
  exact ⟨b, off, rfl, fun i hi => by rw [hb.cell (cell_lt (hc i hi))]; exact hc i hi⟩

theorem IsRows.below {w w' : World} {v : Value} {xss : List (List Int)} (h : IsRows w v xss) (hb : Below w.heap.size w w') : IsRows w' v xss := by
  obtain ⟨ao, cap, rfl, h⟩ := h
  refine ⟨ao, cap, rfl, fun hne => ?_⟩
  obtain ⟨b, off, rfl, hc⟩ := h hne
  refine ⟨b, off, rfl, fun i hi => ?_⟩
  obtain ⟨r, h1, h2⟩ := hc i hi
  exact ⟨r, by rw [hb.cell (cell_lt h1)]; exact h1, h2.below hb⟩

theorem IsInts.drewN {w : World} {v : Value} {xs : List Int} (h : IsInts w v xs) (n : Nat) : IsInts (w.drewN n) v xs := h
theorem IsRows.drewN {w : World} {v : Value} {xss : List (List Int)} (h : IsRows w v xss) (n : Nat) : IsRows (w.drewN n) v xss := h

theorem drewN_more {w wr : World} (h : ∃ m, wr = w.drewN m) (n : Nat) : ∃ m, wr.drewN n = w.drewN m := by
  obtain ⟨m, rfl⟩ := h
  exact ⟨_, World.drewN_drewN _ _ _⟩

theorem ret_int {k : IntKind} {a b : Int} (h : a = b) : Ending.returned (.int k a) = .returned (.int k b) := by rw [h]

/-- A block of two cells, as a struct of two fields lies in memory. -/
structure Two (w : World) (b : Nat) (a0 a1 : Value) : Prop where
  lt : b < w.heap.size
  c0 : w.cell? ⟨b, 0, none⟩ = some a0
  c1 : w.cell? ⟨b, 1, none⟩ = some a1

theorem Two.below {w w' : World} {b : Nat} {a0 a1 : Value} (h : Two w b a0 a1) (hb : Below w.heap.size w w') : Two w' b a0 a1 :=
  ⟨Nat.lt_of_lt_of_le h.lt hb.size, (hb.cell (p := ⟨b, 0, none⟩) h.lt).trans h.c0, (hb.cell (p := ⟨b, 1, none⟩) h.lt).trans h.c1⟩

theorem Two.new (w : World) (a0 a1 : Value) (t : TypeId) : Two (w.alloc (.cells #[a0, a1] t)) w.heap.size a0 a1 := ⟨by simp, by simp, by simp⟩

theorem belNext {w w1 w2 : World} (h : Below w.heap.size w w1) (k : Below w1.heap.size w1 w2) : Below w.heap.size w w2 := h.trans (k.mono h.size)
theorem belOne (w : World) (o : Obj) : Below w.heap.size w (w.alloc o) := (Below.refl _ _).alloc (Nat.le_refl _) _

theorem undrew {w w' : World} (h : Below w.drew.heap.size w.drew w') : Below w.heap.size w w' := (Below.refl w.heap.size w).drew.trans h

/-- All old cells and marks, as two rules. -/
theorem bcell {W w1 : World} (hb : Below W.heap.size W w1) : (∀ b o, b < W.heap.size → w1.cell? ⟨b, o, none⟩ = W.cell? ⟨b, o, none⟩) ∧ (∀ b o, b < W.heap.size → w1.frozen? ⟨b, o, none⟩ = W.frozen? ⟨b, o, none⟩) :=
  ⟨fun b o h => hb.cell (p := ⟨b, o, none⟩) h, fun b o h => hb.frozen (p := ⟨b, o, none⟩) h⟩

end Go.Proofs.YthbjihamhfahcaaDoor

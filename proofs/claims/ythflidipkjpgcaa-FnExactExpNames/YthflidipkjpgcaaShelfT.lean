/-
  Sorting a row of texts of the call's own, leaving of equal ones one, a copy of a text: slices.Sort, slices.Compact, strings.Clone, by the library's contracts.
-/
import Derived.Test.YthflidipkjpgcaaNmS
import Derived.Shelf.Lay
import Derived.Ground.NamesProg
import Derived.Shelf.Slices.CompactS
import Derived.Shelf.Slices.In.SortNone
import Derived.Shelf.Sort.Plain
import Derived.Shelf.Strconv.Clone
import Derived.Sort.OwnSorted
import Derived.Lib.OwnBridge
namespace Go.Proofs.Ythflidipkjpgcaa
open Go.RowKit Go.Deep Go.Shelf Go.Sort Go.Proofs
set_option linter.unusedVariables false

shelf_lay Lays.n190 Nm 190 at Try as laysSortT
shelf_lay Lays.n194 Nm 194 at Try as laysCompactT
shelf_lay LaysM.n316 Nm 316 at Try as laysCloneT

/-- Sorted, as the library says it. -/
def sortT (ss : List Bs) : List Bs := ss.mergeSort fun x y => decide (x ≤ y)

theorem sortT_any (base n cap : Nat) (ao : Option Addr) (ss : List Bs) (w : World) (hb : base ≤ w.heap.size) (h : Ownt w base (.slice ao n cap) ss) (hn : ss.length = n) (hn64 : n ≤ 1000) :
    Calls Try.prog 19 #[.slice ao n cap] w fun e w' => e = .returned (.tuple #[]) ∧ Ownt w' base (.slice ao n cap) (sortT ss) ∧ (∀ B w0, Below B w0 w → B ≤ base → Below B w0 w') := by
  have hl2 : (sortT ss).length = ss.length := List.length_mergeSort ss
  unfold Ownt at h ⊢
  rw [hn] at h
  rw [hl2, hn]
  rcases h.2 with ⟨h0, hz⟩ | ⟨g, cap', cur, hv, hbase, hh, h1, h2, h3, h4⟩
  · injection h0 with e1 e2 e3
    subst e1 e2 e3
    have hz0 : ss = [] := List.length_eq_zero_iff.1 hn
    subst hz0
    have hc := Any.slices_Sort_string_none laysSortT none 0 w
    change Calls Try.prog 19 _ _ _ at hc
    refine hc.mono ?_
    rintro e w' ⟨rfl, rfl⟩
    exact ⟨rfl, by simpa [sortT] using h, fun B w0 hB _ => hB⟩
  · injection hv with e1 e2 e3
    subst e1 e3
    subst hn
    have hH : Holds encStr w g 0 ss.toArray := holds_of_block hh (by rw [Nat.mul_one] at h4; exact h4)
    have hc := Any.slices_Sort_string laysSortT g 0 cap ss w hH (Array.getElem?_eq_some_iff.1 hh).1 (by omega)
    change Calls Try.prog 19 _ _ _ at hc
    refine hc.mono ?_
    rintro e w' ⟨rfl, nn, os, rfl⟩
    refine ⟨rfl, ownsRow_sorted (ss := ss) hl2 hbase hh h1 h2 h3, fun B w0 hB hb0 => hB.grown (grownBy_sorted _) (Nat.le_trans hb0 hb) (fun k e => by cases e; exact Nat.le_trans hb0 hbase)⟩

theorem compactT_any (base n cap : Nat) (ao : Option Addr) (ss : List Bs) (w : World) (hb : base ≤ w.heap.size) (h : Ownt w base (.slice ao n cap) ss) (hn : ss.length = n) (hn64 : n ≤ 1000) :
    Calls Try.prog 20 #[.slice ao n cap] w fun e w' => e = .returned (.slice ao (Lib.compact ss).length cap) ∧ Ownt w' base (.slice ao (Lib.compact ss).length cap) (Lib.compact ss) ∧ (∀ B w0, Below B w0 w → B ≤ base → Below B w0 w') := by
  unfold Ownt at h ⊢
  rw [hn] at h
  rcases h.2 with ⟨h0, hz⟩ | ⟨g, cap', cur, hv, hbase, hh, h1, h2, h3, h4⟩
  · injection h0 with e1 e2 e3
    subst e1 e2 e3
    have hz0 : ss = [] := List.length_eq_zero_iff.1 hn
    subst hz0
    have hc := Any.slices_Compact_string_empty laysCompactT none 0 w
    change Calls Try.prog 20 _ _ _ at hc
    refine hc.mono ?_
    rintro e w' ⟨rfl, rfl⟩
    exact ⟨rfl, h, fun B w0 hB _ => hB⟩
  · injection hv with e1 e2 e3
    subst e1 e3
    subst hn
    have hle := Lib.compact_length_le ss
    have hH : Holds encStr w g 0 ss.toArray := holds_of_block hh (by rw [Nat.mul_one] at h4; exact h4)
    have hc := Any.slices_Compact_string laysCompactT g 0 cap ss w hH (by omega) h1
    change Calls Try.prog 20 _ _ _ at hc
    refine hc.mono ?_
    rintro e w' ⟨rfl, q, rfl⟩
    have hr := Lib.ownsRow_putRow (q := q) (k := (Lib.compact ss).length) (ys := Lib.compact ss ++ List.replicate (ss.length - (Lib.compact ss).length) []) h (by simp; omega) hle
    rw [List.take_left] at hr
    exact ⟨rfl, hr, fun B w0 hB hb0 => Lib.below_putRow hB (Nat.le_trans hb0 hbase)⟩

set_option maxRecDepth 100000 in
theorem cloneT_any (s : ByteArray) (w : World) (hs : s.size ≤ 1048576) : Calls Try.prog 29 #[.string s] w fun e w' => e = .returned (.string s) ∧ Below w.heap.size w w' := by
  have hc := Any.stringslite_Clone laysCloneT s w (by omega)
  change Calls Try.prog 36 _ _ _ at hc
  have HC := hideN hc
  clear hc
  go_enter Try.func29, Try.ntmps29
  go_wp2_with fail
  refine HC.out.mono ?_
  rintro e w1 ⟨rfl, hb⟩
  have HB := hideN hb
  clear hb
  go_wp2_with fail
  go_ret
  exact ⟨rfl, HB.out⟩

end Go.Proofs.Ythflidipkjpgcaa

/-
  Sorting a row of numbers of the call's own, and leaving of equal ones one: slices.Sort and slices.Compact, by the library's contracts.
-/
import Derived.Test.YtmkbcfiechoebaaRowI
import Derived.Shelf.Lay
import Derived.Ground.NamesProg
import Derived.Ground.Names2Prog
import Derived.Shelf.Slices.CompactI
import Derived.Shelf.Slices.In.SortNone
import Derived.Shelf.Sort.Plain
import Derived.Sort.OwnSortedInts
import Derived.Lib.OwnBridge
namespace Go.Proofs.Ytmkbcfiechoebaa
open Go.RowKit Go.Deep Go.Shelf Go.Sort
set_option linter.unusedVariables false

shelf_lay Lays.n189 Nm 189 at Try as laysSort
shelf_lay Lays2.n20 Nm2 20 at Try as laysCompact

/-- Sorted, as the library says it. -/
def sortL (zs : List Int) : List Int := zs.mergeSort fun x y => decide (x ≤ y)

theorem sort_any (base n cap : Nat) (ao : Option Addr) (zs : List Int) (w : World) (hb : base ≤ w.heap.size) (h : Owni w base (.slice ao n cap) zs) (hn : zs.length = n) (hn64 : n ≤ 64) :
    Calls Try.prog 74 #[.slice ao n cap] w fun e w' => e = .returned (.tuple #[]) ∧ Owni w' base (.slice ao n cap) (sortL zs) ∧ (∀ B w0, Below B w0 w → B ≤ base → Below B w0 w') := by
  have hl2 : (sortL zs).length = zs.length := List.length_mergeSort zs
  unfold Owni at h ⊢
  rw [hn] at h
  rw [hl2, hn]
  rcases h.2 with ⟨h0, hz⟩ | ⟨g, cap', cur, hv, hbase, hh, h1, h2, h3, h4⟩
  · injection h0 with e1 e2 e3
    subst e1 e2 e3
    have hz0 : zs = [] := List.length_eq_zero_iff.1 hn
    subst hz0
    have hc := Any.slices_Sort_int_none laysSort none 0 w
    change Calls Try.prog 74 _ _ _ at hc
    refine hc.mono ?_
    rintro e w' ⟨rfl, rfl⟩
    exact ⟨rfl, by simpa [sortL] using h, fun B w0 hB _ => hB⟩
  · injection hv with e1 e2 e3
    subst e1 e3
    subst hn
    have hH : Holds (Value.int .i64) w g 0 zs.toArray := holds_of_blockI hh (by rw [Nat.mul_one] at h4; exact h4)
    have hc := Any.slices_Sort_int laysSort g 0 cap zs w hH (Array.getElem?_eq_some_iff.1 hh).1 (by omega)
    change Calls Try.prog 74 _ _ _ at hc
    refine hc.mono ?_
    rintro e w' ⟨rfl, nn, os, rfl⟩
    refine ⟨rfl, ownsRow_sortedI (ss := zs) hl2 hbase hh h1 h2 h3, fun B w0 hB hb0 => hB.grown (grownBy_sortedI _) (Nat.le_trans hb0 hb) (fun k e => by cases e; exact Nat.le_trans hb0 hbase)⟩

theorem compact_any (base n cap : Nat) (ao : Option Addr) (zs : List Int) (w : World) (hb : base ≤ w.heap.size) (h : Owni w base (.slice ao n cap) zs) (hn : zs.length = n) (hn64 : n ≤ 64) :
    Calls Try.prog 75 #[.slice ao n cap] w fun e w' => e = .returned (.slice ao (Lib.compact zs).length cap) ∧ Owni w' base (.slice ao (Lib.compact zs).length cap) (Lib.compact zs) ∧ (∀ B w0, Below B w0 w → B ≤ base → Below B w0 w') := by
  unfold Owni at h ⊢
  rw [hn] at h
  rcases h.2 with ⟨h0, hz⟩ | ⟨g, cap', cur, hv, hbase, hh, h1, h2, h3, h4⟩
  · injection h0 with e1 e2 e3
    subst e1 e2 e3
    have hz0 : zs = [] := List.length_eq_zero_iff.1 hn
    subst hz0
    have hc := Any.slices_Compact_int_empty laysCompact none 0 w
    change Calls Try.prog 75 _ _ _ at hc
    refine hc.mono ?_
    rintro e w' ⟨rfl, rfl⟩
    exact ⟨rfl, h, fun B w0 hB _ => hB⟩
  · injection hv with e1 e2 e3
    subst e1 e3
    subst hn
    have hle := Lib.compact_length_le zs
    have hH : Holds (Value.int .i64) w g 0 zs.toArray := holds_of_blockI hh (by rw [Nat.mul_one] at h4; exact h4)
    have hc := Any.slices_Compact_int laysCompact g 0 cap zs w hH (by omega) h1
    change Calls Try.prog 75 _ _ _ at hc
    refine hc.mono ?_
    rintro e w' ⟨rfl, q, rfl⟩
    have hr := Lib.ownsRow_putRow (q := q) (k := (Lib.compact zs).length) (ys := Lib.compact zs ++ List.replicate (zs.length - (Lib.compact zs).length) 0) h (by simp; omega) hle
    rw [List.take_left] at hr
    exact ⟨rfl, hr, fun B w0 hB hb0 => Lib.below_putRow hB (Nat.le_trans hb0 hbase)⟩

end Go.Proofs.Ytmkbcfiechoebaa

/-
  Sorting a row of texts of the call's own, leaving of equal ones one, a copy of a text: slices.Sort, slices.Compact, strings.Clone, by the library's contracts.
-/
import Derived.Test.YtgjficnpkmemgaaNmS
import Derived.Ground.NamesProg
import Derived.Shelf.Slices.CompactS
import Derived.Shelf.Slices.In.SortNone
import Derived.Shelf.Sort.Plain
import Derived.Shelf.Strconv.Clone
import Derived.Sort.OwnSorted
import Derived.Lib.OwnBridge
namespace Go.Proofs.Ytgjficnpkmemgaa
open Go.RowKit Go.Deep Go.Shelf Go.Sort Go.Proofs
set_option linter.unusedVariables false

def laysSortT_ren : Go.Shelf.Ren := ⟨fun | 190 => 13 | 125 => 27 | 258 => 26 | 128 => 46 | 129 => 47 | 302 => 37 | 303 => 38 | 304 => 39 | 305 => 40 | 306 => 41 | 307 => 42 | 308 => 43 | 309 => 44 | 310 => 45 | 333 => 54 | 329 => 55 | 330 => 56 | 334 => 57 | 335 => 58 | 336 => 59 | 344 => 66 | n => n, fun | 31 => 27 | 9 => 9 | 3 => 3 | 46 => 62 | 0 => 0 | 51 => 79 | 53 => 81 | 4 => 4 | 183 => 71 | 182 => 70 | 131 => 76 | 5 => 5 | 218 => 97 | 222 => 101 | 228 => 108 | 229 => 109 | n => n, fun | n => n⟩
theorem laysSortT : Go.Proofs.Lays.n190 Try.prog laysSortT_ren := {
  mixed := by kernel_rfl
  f125 := Try.func27.trans (congrArg some (by kernel_rfl))
  f128 := Try.func46.trans (congrArg some (by kernel_rfl))
  f129 := Try.func47.trans (congrArg some (by kernel_rfl))
  f190 := Try.func13.trans (congrArg some (by kernel_rfl))
  f258 := Try.func26.trans (congrArg some (by kernel_rfl))
  f302 := Try.func37.trans (congrArg some (by kernel_rfl))
  f303 := Try.func38.trans (congrArg some (by kernel_rfl))
  f304 := Try.func39.trans (congrArg some (by kernel_rfl))
  f305 := Try.func40.trans (congrArg some (by kernel_rfl))
  f306 := Try.func41.trans (congrArg some (by kernel_rfl))
  f307 := Try.func42.trans (congrArg some (by kernel_rfl))
  f308 := Try.func43.trans (congrArg some (by kernel_rfl))
  f309 := Try.func44.trans (congrArg some (by kernel_rfl))
  f310 := Try.func45.trans (congrArg some (by kernel_rfl))
  f329 := Try.func55.trans (congrArg some (by kernel_rfl))
  f330 := Try.func56.trans (congrArg some (by kernel_rfl))
  f333 := Try.func54.trans (congrArg some (by kernel_rfl))
  f334 := Try.func57.trans (congrArg some (by kernel_rfl))
  f335 := Try.func58.trans (congrArg some (by kernel_rfl))
  f336 := Try.func59.trans (congrArg some (by kernel_rfl))
  f344 := Try.func66.trans (congrArg some (by kernel_rfl))
  t0 := Try.underlying0
  a0 := Try.isAgg0
  z0 := Try.sizeOf0
  v0 := Try.zeroValue0
  t3 := Try.underlying3
  a3 := Try.isAgg3
  z3 := Try.sizeOf3
  v3 := Try.zeroValue3
  t4 := Try.underlying4
  a4 := Try.isAgg4
  z4 := Try.sizeOf4
  v4 := Try.zeroValue4
  t5 := Try.underlying5
  a5 := Try.isAgg5
  z5 := Try.sizeOf5
  v5 := Try.zeroValue5
  t9 := Try.underlying9
  a9 := Try.isAgg9
  z9 := Try.sizeOf9
  v9 := Try.zeroValue9
  t31 := Try.underlying27
  a31 := Try.isAgg27
  z31 := Try.sizeOf27
  v31 := Try.zeroValue27
  t46 := Try.underlying62
  a46 := Try.isAgg62
  z46 := Try.sizeOf62
  v46 := Try.zeroValue62
  t51 := Try.underlying79
  a51 := Try.isAgg79
  z51 := Try.sizeOf79
  v51 := Try.zeroValue79
  t53 := Try.underlying81
  a53 := Try.isAgg81
  z53 := Try.sizeOf81
  v53 := Try.zeroValue81
  t131 := Try.underlying76
  a131 := Try.isAgg76
  z131 := Try.sizeOf76
  v131 := Try.zeroValue76
  t182 := Try.underlying70
  a182 := Try.isAgg70
  z182 := Try.sizeOf70
  v182 := Try.zeroValue70
  t183 := Try.underlying71
  a183 := Try.isAgg71
  z183 := Try.sizeOf71
  v183 := Try.zeroValue71
  t218 := Try.underlying97
  a218 := Try.isAgg97
  z218 := Try.sizeOf97
  v218 := Try.zeroValue97
  t222 := Try.underlying101
  a222 := Try.isAgg101
  z222 := Try.sizeOf101
  v222 := Try.zeroValue101
  t228 := Try.underlying108
  a228 := Try.isAgg108
  z228 := Try.sizeOf108
  v228 := Try.zeroValue108
  t229 := Try.underlying109
  a229 := Try.isAgg109
  z229 := Try.sizeOf109
  v229 := Try.zeroValue109 }
def laysCompactT_ren : Go.Shelf.Ren := ⟨fun | 194 => 14 | n => n, fun | 31 => 27 | 9 => 9 | 3 => 3 | 4 => 4 | 0 => 0 | n => n, fun | n => n⟩
theorem laysCompactT : Go.Proofs.Lays.n194 Try.prog laysCompactT_ren := {
  mixed := by kernel_rfl
  f194 := Try.func14.trans (congrArg some (by kernel_rfl))
  t0 := Try.underlying0
  a0 := Try.isAgg0
  z0 := Try.sizeOf0
  v0 := Try.zeroValue0
  t3 := Try.underlying3
  a3 := Try.isAgg3
  z3 := Try.sizeOf3
  v3 := Try.zeroValue3
  t4 := Try.underlying4
  a4 := Try.isAgg4
  z4 := Try.sizeOf4
  v4 := Try.zeroValue4
  t9 := Try.underlying9
  a9 := Try.isAgg9
  z9 := Try.sizeOf9
  v9 := Try.zeroValue9
  t31 := Try.underlying27
  a31 := Try.isAgg27
  z31 := Try.sizeOf27
  v31 := Try.zeroValue27 }
def laysCloneT_ren : Go.Shelf.Ren := ⟨fun | 316 => 36 | n => n, fun | 9 => 9 | 3 => 3 | 4 => 4 | 37 => 22 | 0 => 0 | 127 => 96 | 5 => 5 | n => n, fun | n => n⟩
theorem laysCloneT : Go.Proofs.LaysM.n316 Try.prog laysCloneT_ren := {
  mixed := by kernel_rfl
  f316 := Try.func36.trans (congrArg some (by kernel_rfl))
  t0 := Try.underlying0
  a0 := Try.isAgg0
  z0 := Try.sizeOf0
  v0 := Try.zeroValue0
  t3 := Try.underlying3
  a3 := Try.isAgg3
  z3 := Try.sizeOf3
  v3 := Try.zeroValue3
  t4 := Try.underlying4
  a4 := Try.isAgg4
  z4 := Try.sizeOf4
  v4 := Try.zeroValue4
  t9 := Try.underlying9
  a9 := Try.isAgg9
  z9 := Try.sizeOf9
  v9 := Try.zeroValue9
  t37 := Try.underlying22
  a37 := Try.isAgg22
  z37 := Try.sizeOf22
  v37 := Try.zeroValue22
  t127 := Try.underlying96
  a127 := Try.isAgg96
  z127 := Try.sizeOf96
  v127 := Try.zeroValue96
  t5 := Try.underlying5
  a5 := Try.isAgg5
  z5 := Try.sizeOf5
  v5 := Try.zeroValue5
  i0 := by kernel_rfl
  i3 := by kernel_rfl
  i4 := by kernel_rfl
  i5 := by kernel_rfl
  i9 := by kernel_rfl
  i37 := by kernel_rfl
  i127 := by kernel_rfl }

/-- Sorted, as the library says it. -/
def sortT (ss : List Bs) : List Bs := ss.mergeSort fun x y => decide (x ≤ y)

theorem sortT_any (base n cap : Nat) (ao : Option Addr) (ss : List Bs) (w : World) (hb : base ≤ w.heap.size) (h : Ownt w base (.slice ao n cap) ss) (hn : ss.length = n) (hn64 : n ≤ 1000) :
    Calls Try.prog 13 #[.slice ao n cap] w fun e w' => e = .returned (.tuple #[]) ∧ Ownt w' base (.slice ao n cap) (sortT ss) ∧ (∀ B w0, Below B w0 w → B ≤ base → Below B w0 w') := by
  have hl2 : (sortT ss).length = ss.length := List.length_mergeSort ss
  unfold Ownt at h ⊢
  rw [hn] at h
  rw [hl2, hn]
  rcases h.2 with ⟨h0, hz⟩ | ⟨g, cap', cur, hv, hbase, hh, h1, h2, h3, h4⟩
  · injection h0 with e1 e2 e3
    subst e1 e2 e3
    have hz0 : ss = [] := List.length_eq_zero_iff.1 hn
    subst hz0
    have hc := Any.slices_Sort_string_none laysSortT none 0 w
    change Calls Try.prog 13 _ _ _ at hc
    refine hc.mono ?_
    rintro e w' ⟨rfl, rfl⟩
    exact ⟨rfl, by simpa [sortT] using h, fun B w0 hB _ => hB⟩
  · injection hv with e1 e2 e3
    subst e1 e3
    subst hn
    have hH : Holds encStr w g 0 ss.toArray := holds_of_block hh (by rw [Nat.mul_one] at h4; exact h4)
    have hc := Any.slices_Sort_string laysSortT g 0 cap ss w hH (Array.getElem?_eq_some_iff.1 hh).1 (by omega)
    change Calls Try.prog 13 _ _ _ at hc
    refine hc.mono ?_
    rintro e w' ⟨rfl, nn, os, rfl⟩
    refine ⟨rfl, ownsRow_sorted (ss := ss) hl2 hbase hh h1 h2 h3, fun B w0 hB hb0 => hB.grown (grownBy_sorted _) (Nat.le_trans hb0 hb) (fun k e => by cases e; exact Nat.le_trans hb0 hbase)⟩

theorem compactT_any (base n cap : Nat) (ao : Option Addr) (ss : List Bs) (w : World) (hb : base ≤ w.heap.size) (h : Ownt w base (.slice ao n cap) ss) (hn : ss.length = n) (hn64 : n ≤ 1000) :
    Calls Try.prog 14 #[.slice ao n cap] w fun e w' => e = .returned (.slice ao (Lib.compact ss).length cap) ∧ Ownt w' base (.slice ao (Lib.compact ss).length cap) (Lib.compact ss) ∧ (∀ B w0, Below B w0 w → B ≤ base → Below B w0 w') := by
  unfold Ownt at h ⊢
  rw [hn] at h
  rcases h.2 with ⟨h0, hz⟩ | ⟨g, cap', cur, hv, hbase, hh, h1, h2, h3, h4⟩
  · injection h0 with e1 e2 e3
    subst e1 e2 e3
    have hz0 : ss = [] := List.length_eq_zero_iff.1 hn
    subst hz0
    have hc := Any.slices_Compact_string_empty laysCompactT none 0 w
    change Calls Try.prog 14 _ _ _ at hc
    refine hc.mono ?_
    rintro e w' ⟨rfl, rfl⟩
    exact ⟨rfl, h, fun B w0 hB _ => hB⟩
  · injection hv with e1 e2 e3
    subst e1 e3
    subst hn
    have hle := Lib.compact_length_le ss
    have hH : Holds encStr w g 0 ss.toArray := holds_of_block hh (by rw [Nat.mul_one] at h4; exact h4)
    have hc := Any.slices_Compact_string laysCompactT g 0 cap ss w hH (by omega) h1
    change Calls Try.prog 14 _ _ _ at hc
    refine hc.mono ?_
    rintro e w' ⟨rfl, q, rfl⟩
    have hr := Lib.ownsRow_putRow (q := q) (k := (Lib.compact ss).length) (ys := Lib.compact ss ++ List.replicate (ss.length - (Lib.compact ss).length) []) h (by simp; omega) hle
    rw [List.take_left] at hr
    exact ⟨rfl, hr, fun B w0 hB hb0 => Lib.below_putRow hB (Nat.le_trans hb0 hbase)⟩

set_option maxRecDepth 100000 in
theorem cloneT_any (s : ByteArray) (w : World) (hs : s.size ≤ 1048576) : Calls Try.prog 25 #[.string s] w fun e w' => e = .returned (.string s) ∧ Below w.heap.size w w' := by
  have hc := Any.stringslite_Clone laysCloneT s w (by omega)
  change Calls Try.prog 36 _ _ _ at hc
  have HC := hideN hc
  clear hc
  go_enter Try.func25, Try.ntmps25
  go_wp2_with fail
  refine HC.out.mono ?_
  rintro e w1 ⟨rfl, hb⟩
  have HB := hideN hb
  clear hb
  go_wp2_with fail
  go_ret
  exact ⟨rfl, HB.out⟩

end Go.Proofs.Ytgjficnpkmemgaa

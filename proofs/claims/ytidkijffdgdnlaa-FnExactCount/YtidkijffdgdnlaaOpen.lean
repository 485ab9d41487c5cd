/-
  What comes in, read: a struct of a number and a slice of slices of numbers holds some lists of numbers.
-/
import Derived.Test.YtidkijffdgdnlaaBase
import Derived.Lib.SmallJoins
import Derived.ChangeOld
namespace Go.Proofs.Ytidkijffdgdnlaa
open Go.ChangeShapes Go.WideShapes Go.ChangeAt Go.RowKit Go.Deep Go.Joins

theorem own : ownKnob Try.prog.godebug = none := by kernel_rfl
theorem laidOut : laidOutB Try.prog = true := by kernel_rfl
theorem cells_int : Try.prog.cellsOf 3 = 1 := by kernel_rfl
theorem cells_ints : Try.prog.cellsOf 39 = 1 := by kernel_rfl
theorem cells_cnf : Try.prog.cellsOf 24 = 2 := by kernel_rfl

theorem addr_plain {w : World} {a : Addr} {n : Nat} {f : Nat → Value} (hn : 0 < n) (h : ∀ i, i < n → w.cell? (a.add i) = some (f i)) : ∃ b off, a = ⟨b, off, none⟩ ∧ ∀ i, i < n → w.cell? ⟨b, off + i, none⟩ = some (f i) := by
  obtain ⟨b, off, spot⟩ := a
  have hspot : spot = none := by simpa [Addr.add] using World.cell?_spot (h 0 hn)
  subst hspot
  refine ⟨b, off, rfl, fun i hi => ?_⟩
  have hc := h i hi
  unfold Addr.add at hc
  by_cases e : i = 0
  · subst e; simpa using hc
  · simpa [e] using hc

section
variable {H : Type} {enc : TypeId × Value → H} {w : World} {base : Nat} {held : Bool}

theorem isInts_of_trod {fuel : Nat} {v : Value} {x : DataW H × List MemPlace} (h : DataW.trod enc Try.prog w base (fun _ => true) held fuel 39 [v] = some x) :
    ∃ xs, IsInts w v xs ∧ xs.length ≤ maxLen := by
  rcases open_ints Try.underlying39 Try.underlying3 cells_int h with ⟨hcs, _⟩ | ⟨a, l, c, zs, hcs, _, hl, hm, hz, _, hcell, _⟩
  · simp at hcs
    subst hcs
    exact ⟨[], ⟨_, _, rfl, fun hne => absurd rfl hne⟩, by simp⟩
  · simp at hcs hz
    subst hcs
    have hlen : (zs.take l).length = l := by simp; omega
    refine ⟨zs.take l, ⟨some a, c, by rw [hlen], fun hne => ?_⟩, by rw [hlen]; omega⟩
    have hpos : 0 < l := by
      rcases Nat.eq_zero_or_pos l with e | e
      · subst e; simp at hne
      · exact e
    obtain ⟨b, off, rfl, hc⟩ := addr_plain (n := l) (f := fun i => .int .i64 (zs.getD i 0)) hpos (fun i hi => hcell i (by omega))
    refine ⟨b, off, rfl, fun i hi => ?_⟩
    rw [hlen] at hi
    rw [hc i hi]
    simp [List.getD, hi]

theorem isRows_of_trod {fuel : Nat} {v : Value} {x : DataW H × List MemPlace} (h : DataW.trod enc Try.prog w base (fun _ => true) held fuel 22 [v] = some x) :
    ∃ xss, IsRows w v xss ∧ xss.length ≤ maxLen ∧ ∀ xs ∈ xss, xs.length ≤ maxLen := by
  rcases open_int_rows Try.underlying22 Try.underlying39 Try.underlying3 cells_ints cells_int h with ⟨hcs, _⟩ | ⟨a, len, cap, A, L, C, Z, hcs, _, hl, hm, _, hr⟩
  · simp at hcs
    subst hcs
    exact ⟨[], ⟨_, _, rfl, fun hne => absurd rfl hne⟩, by simp, by simp⟩
  · simp at hcs
    subst hcs
    have hlen : ((List.range len).map fun r => (Z r).take (L r)).length = len := by simp
    refine ⟨(List.range len).map fun r => (Z r).take (L r), ⟨some a, cap, by rw [hlen], fun hne => ?_⟩, by rw [hlen]; omega, fun xs hx => ?_⟩
    · have hpos : 0 < len := by
        rcases Nat.eq_zero_or_pos len with e | e
        · subst e; simp at hne
        · exact e
      obtain ⟨b, off, rfl, hc⟩ := addr_plain (n := len) (f := fun r => .slice (A r) (L r) (C r)) hpos (fun i hi => (hr i (by omega)).1)
      refine ⟨b, off, rfl, fun i hi => ?_⟩
      rw [hlen] at hi
      refine ⟨_, hc i hi, ?_⟩
      obtain ⟨_, h1, h2, h3, _, h4, h5⟩ := hr i (by omega)
      have hget : ((List.range len).map fun r => (Z r).take (L r)).getD i [] = (Z i).take (L i) := by simp [List.getD, hi]
      rw [hget]
      have hli : ((Z i).take (L i)).length = L i := by simp; omega
      refine ⟨A i, C i, by rw [hli], fun hne => ?_⟩
      have hposi : 0 < L i := by
        rcases Nat.eq_zero_or_pos (L i) with e | e
        · rw [e] at hne; simp at hne
        · exact e
      cases hA : A i with
      | none => have := h4 hA; omega
      | some a' =>
        obtain ⟨_, hcc⟩ := h5 a' hA
        obtain ⟨b', off', rfl, hc'⟩ := addr_plain (n := L i) (f := fun j => .int .i64 ((Z i).getD j 0)) hposi (fun j hj => hcc j (by omega))
        refine ⟨b', off', rfl, fun j hj => ?_⟩
        rw [hli] at hj
        rw [hc' j hj]
        simp [List.getD, hj]
    · simp at hx
      obtain ⟨r, hr1, rfl⟩ := hx
      obtain ⟨_, h1, h2, h3, _⟩ := hr r (by omega)
      simp
      omega
end

end Go.Proofs.Ytidkijffdgdnlaa

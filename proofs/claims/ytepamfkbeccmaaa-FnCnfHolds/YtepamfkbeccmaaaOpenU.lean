/-
  What comes in, read: a slice of bytes.
-/
import Derived.Test.YtepamfkbeccmaaaDraw8
import Derived.Lib.SmallJoins
import Derived.ChangeOld
namespace Go.Proofs.Ytepamfkbeccmaaa
open Go.ChangeShapes Go.WideShapes Go.ChangeAt Go.RowKit Go.Deep Go.Joins

theorem own : ownKnob Try.prog.godebug = none := by kernel_rfl
theorem laidOut : laidOutB Try.prog = true := by kernel_rfl
theorem cells_byte : Try.prog.cellsOf 5 = 1 := by kernel_rfl

theorem addr_plain {w : World} {a : Addr} {n : Nat} {f : Nat → Value} (hn : 0 < n) (h : ∀ i, i < n → w.cell? (a.add i) = some (f i)) : ∃ b off, a = ⟨b, off, none⟩ ∧ ∀ i, i < n → w.cell? ⟨b, off + i, none⟩ = some (f i) := by
  obtain ⟨b, off, spot⟩ := a
  have hspot : spot = none := by simpa [Addr.add] using World.cell?_spot (h 0 hn)
  subst hspot
  refine ⟨b, off, rfl, fun i hi => ?_⟩
  have hc := h i hi
  unfold Addr.add at hc
  by_cases e : i = 0
  · subst e; simpa using hc
  · simpa [e] using hc

theorem okWide_slice_lt {P : Program} {w : World} {r : Reach} {base : Nat} {t e : TypeId} {a : Addr} {len cap : Nat} (ht : P.underlying t = some (.slice e)) (h : Value.okWide P w r base t (.slice (some a) len cap)) : a.block < w.heap.size := by
  simp only [Value.okWide, ht, Cell.okWide, Cell.ok] at h
  obtain ⟨_, _, _, _, row, cells, hs, _⟩ := h
  rcases Nat.lt_or_ge a.block w.heap.size with h1 | h1
  · exact h1
  · simp [World.shape?, Array.getElem?_eq_none h1] at hs

theorem isBytes_of_trod {H : Type} {enc : TypeId × Value → H} {w : World} {base : Nat} {held : Bool} {fuel : Nat} {v : Value} {x : DataW H × List MemPlace} (h : DataW.trod enc Try.prog w base (fun _ => true) held fuel 22 [v] = some x) :
    ∃ bs, IsBytes w v bs ∧ bs.length ≤ maxLen := by
  rcases open_ints Try.underlying22 Try.underlying5 cells_byte h with ⟨hcs, _⟩ | ⟨a, l, c, zs, hcs, _, hl, hm, hz, hx, hcell, hwf⟩
  · simp at hcs
    subst hcs
    exact ⟨[], ⟨_, _, rfl, by simp, fun hne => absurd rfl hne, fun i hi => by simp at hi⟩, by simp⟩
  · simp at hcs hz
    subst hcs
    have hlen : (zs.take l).length = l := by simp; omega
    refine ⟨zs.take l, ⟨some a, c, by rw [hlen], by rw [hlen]; exact hl, fun hne => ?_, fun i hi => ?_⟩, by rw [hlen]; omega⟩
    · have hpos : 0 < l := by
        rcases Nat.eq_zero_or_pos l with e | e
        · subst e; simp at hne
        · exact e
      obtain ⟨b, off, rfl, hc⟩ := addr_plain (n := l) (f := fun i => .int .u8 (zs.getD i 0)) hpos (fun i hi => hcell i (by omega))
      refine ⟨b, off, rfl, fun i hi => ?_⟩
      rw [hlen] at hi
      rw [hc i hi]
      simp [List.getD, hi]
    · rw [hlen] at hi
      have hm : zs.getD i 0 ∈ zs := by rw [List.getD, List.getElem?_eq_getElem (by omega)]; simp
      have hw := hwf _ hm
      have he : (zs.take l).getD i 0 = zs.getD i 0 := by simp [List.getD, hi]
      rw [he]
      clear hm he
      generalize zs.getD i 0 = z at hw ⊢
      simp [Lit.wf, IntKind.min, IntKind.max, IntKind.signed, IntKind.bits] at hw
      omega

end Go.Proofs.Ytepamfkbeccmaaa

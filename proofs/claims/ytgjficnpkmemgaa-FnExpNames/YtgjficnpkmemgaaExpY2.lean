/-
  What stands while a drawn expression is turned: its node in a block of the call's own, its lists away from that block.
-/
import Derived.Test.YtgjficnpkmemgaaExpY1
namespace Go.Proofs.Ytgjficnpkmemgaa
open Go.RowKit Go.Deep
set_option linter.unusedVariables false

theorem DrX.setE {w V : World} {R : Nat} {v : Value} {bs : List Int} {p : Nat} (h : DrX w V R v bs p) {E : Nat} (hE : w.heap.size < E) (i : Nat) (u : Value) : DrX w (V.setCell ⟨E, i, none⟩ u) R v bs p := by
  have ho : ∀ k, k ≠ E → (V.setCell ⟨E, i, none⟩ u).heap[k]? = V.heap[k]? := fun k hk => blk_setCell_other _ _ _ _ hk
  have hs : (V.setCell ⟨E, i, none⟩ u).heap.size = V.heap.size := by simp [World.setCell]
  have hg : V.grownBy (V.setCell ⟨E, i, none⟩ u) (some E) := ⟨rfl, rfl, rfl, by rw [hs]; exact Nat.le_refl _, fun k hk hne => ho k (fun e => hne (by rw [e]))⟩
  refine ⟨(ho _ (by omega)).trans h.q, h.rd.own hg h.lt h.al (fun k e => by have := Option.some.inj e; omega), ?_, h.lt, h.al⟩
  exact ⟨h.gr.os, h.gr.tape, h.gr.output, by rw [hs]; exact h.gr.size, fun k hk hne => (ho k (by omega)).trans (h.gr.block k hk hne)⟩

structure DrY (w V : World) (R : Nat) (v : Value) (bs : List Int) (p E : Nat) (a0 a1 a2 a3 : Value) (t : ExpT) : Prop where
  x : DrX w V R v bs p
  e : BlkE V E a0 a1 a2 a3 25
  h : IsE (hole V E) (w.heap.size + 1) t (.agg #[a0, a1, a2, a3])
  lt : w.heap.size < E

section
variable {w V V' : World} {R : Nat} {v : Value} {bs : List Int} {p p' E : Nat} {a0 a1 a2 a3 : Value} {t : ExpT}
theorem DrY.pick (h : DrY w V R v bs p E a0 a1 a2 a3 t) (hrd : Rd V' R v bs p') (hg : V.grownBy V' (some R)) : DrY w V' R v bs p' E a0 a1 a2 a3 t :=
  ⟨h.x.pick hrd hg, (hg.block _ h.e.lt (fun e => by have h1 : E = R := Option.some.inj e; have := h.x.lt; have := h.lt; omega)).trans h.e,
    h.h.hkept h.e.lt hg.size (fun k hl _ hk => hg.block k hk (fun e => by have h1 : k = R := Option.some.inj e; have := h.x.lt; omega)), h.lt⟩
theorem DrY.below (h : DrY w V R v bs p E a0 a1 a2 a3 t) (hb : Below V.heap.size V V') : DrY w V' R v bs p E a0 a1 a2 a3 t :=
  ⟨h.x.below hb, h.e.below hb, h.h.hkept h.e.lt hb.size (fun k _ _ hk => hb.block k hk), h.lt⟩

theorem setE_heap (V : World) (E i : Nat) (u : Value) : (∀ k, k ≠ E → (V.setCell ⟨E, i, none⟩ u).heap[k]? = V.heap[k]?) ∧ (V.setCell ⟨E, i, none⟩ u).heap.size = V.heap.size :=
  ⟨fun k hk => blk_setCell_other _ _ _ _ hk, by simp [World.setCell]⟩

/-- The kind is another. -/
theorem DrY.kind (h : DrY w V R v bs p E a0 a1 a2 a3 t) {y : Int} (hy : Num64 y) : ∃ t', totE t' = totE t ∧ DrY w (V.setCell ⟨E, 0, none⟩ (.int .i64 y)) R v bs p E (.int .i64 y) a1 a2 a3 t' := by
  obtain ⟨k, n, s, ks⟩ := t
  obtain ⟨ao, cap, e1, hb, hL⟩ := isE_node.1 h.h
  simp at e1
  obtain ⟨rfl, rfl, rfl, rfl⟩ := e1
  obtain ⟨ho, hs⟩ := setE_heap V E 0 (.int .i64 y)
  refine ⟨.node y n s ks, by rw [totE, totE], h.x.setE h.lt 0 _, h.e.set0 _, isE_node.2 ⟨ao, cap, rfl, ⟨hy, hb.2⟩, hL.hkept h.e.lt (by rw [hs]; exact Nat.le_refl _) (fun k _ hne _ => ho k hne)⟩, h.lt⟩
/-- The number is another. -/
theorem DrY.num (h : DrY w V R v bs p E a0 a1 a2 a3 t) {y : Int} (hy : Num64 y) : ∃ t', totE t' = totE t ∧ DrY w (V.setCell ⟨E, 1, none⟩ (.int .i64 y)) R v bs p E a0 (.int .i64 y) a2 a3 t' := by
  obtain ⟨k, n, s, ks⟩ := t
  obtain ⟨ao, cap, e1, hb, hL⟩ := isE_node.1 h.h
  simp at e1
  obtain ⟨rfl, rfl, rfl, rfl⟩ := e1
  obtain ⟨ho, hs⟩ := setE_heap V E 1 (.int .i64 y)
  refine ⟨.node k y s ks, by rw [totE, totE], h.x.setE h.lt 1 _, h.e.set1 _, isE_node.2 ⟨ao, cap, rfl, ⟨hb.1, hy, hb.2.2⟩, hL.hkept h.e.lt (by rw [hs]; exact Nat.le_refl _) (fun k _ hne _ => ho k hne)⟩, h.lt⟩
/-- The text is another. -/
theorem DrY.text (h : DrY w V R v bs p E a0 a1 a2 a3 t) {y : ByteArray} (hy : y.size ≤ 8) : ∃ t', totE t' ≤ totE t + 8 ∧ DrY w (V.setCell ⟨E, 2, none⟩ (.string y)) R v bs p E a0 a1 (.string y) a3 t' := by
  obtain ⟨k, n, s, ks⟩ := t
  obtain ⟨ao, cap, e1, hb, hL⟩ := isE_node.1 h.h
  simp at e1
  obtain ⟨rfl, rfl, rfl, rfl⟩ := e1
  obtain ⟨ho, hs⟩ := setE_heap V E 2 (.string y)
  refine ⟨.node k n y ks, by rw [totE, totE]; omega, h.x.setE h.lt 2 _, h.e.set2 _, isE_node.2 ⟨ao, cap, rfl, ⟨hb.1, hb.2.1, by unfold maxLen; omega, hb.2.2.2⟩, hL.hkept h.e.lt (by rw [hs]; exact Nat.le_refl _) (fun k _ hne _ => ho k hne)⟩, h.lt⟩
/-- The list is another: one that keeps away from the block. -/
theorem DrY.kids (h : DrY w V R v bs p E a0 a1 a2 a3 t) {ks' : List ExpT} {ao' : Option Addr} {cap' : Nat} (hc : ks'.length ≤ cap' ∧ cap' ≤ maxLen) (hL' : IsL (hole V E) (w.heap.size + 1) ks' ao') (hk : ∀ k n s ks, t = .node k n s ks → ks'.length + totL ks' ≤ ks.length + totL ks + 8) :
    ∃ t', totE t' ≤ totE t + 8 ∧ DrY w (V.setCell ⟨E, 3, none⟩ (.slice ao' ks'.length cap')) R v bs p E a0 a1 a2 (.slice ao' ks'.length cap') t' := by
  obtain ⟨k, n, s, ks⟩ := t
  obtain ⟨ao, cap, e1, hb, hL⟩ := isE_node.1 h.h
  simp at e1
  obtain ⟨rfl, rfl, rfl, rfl⟩ := e1
  obtain ⟨ho, hs⟩ := setE_heap V E 3 (.slice ao' ks'.length cap')
  have := hk k n s ks rfl
  refine ⟨.node k n s ks', by rw [totE, totE]; omega, h.x.setE h.lt 3 _, h.e.set3 _, isE_node.2 ⟨ao', cap', rfl, ⟨hb.1, hb.2.1, hb.2.2.1, hc⟩, hL'.hkept h.e.lt (by rw [hs]; exact Nat.le_refl _) (fun k _ hne _ => ho k hne)⟩, h.lt⟩
/-- One more node above. -/
theorem DrY.nots (h : DrY w V R v bs p E a0 a1 a2 a3 t) : DrY w ((set4E V E (.int .i64 5) (.int .i64 0) (.string ⟨#[]⟩) (.slice (some ⟨V.heap.size, 0, none⟩) 1 1)).alloc (.cells #[a0, a1, a2, a3] 25)) R v bs p E (.int .i64 5) (.int .i64 0) (.string ⟨#[]⟩) (.slice (some ⟨V.heap.size, 0, none⟩) 1 1) (.node 5 0 ⟨#[]⟩ [t]) := by
  have hsz := set4E_size V E (.int .i64 5) (.int .i64 0) (.string ⟨#[]⟩) (.slice (some ⟨V.heap.size, 0, none⟩) 1 1)
  have hlt := h.e.lt
  have hrm := h.x.room
  have h1 : IsE (hole (set4E V E (.int .i64 5) (.int .i64 0) (.string ⟨#[]⟩) (.slice (some ⟨V.heap.size, 0, none⟩) 1 1)) E) (w.heap.size + 1) t (.agg #[a0, a1, a2, a3]) :=
    h.h.hkept hlt (by rw [hsz]; exact Nat.le_refl _) (fun k _ hne _ => set4E_other _ _ _ _ hne)
  have h2 := IsE.hnot (by rw [hsz]; exact hlt) (by rw [hsz]; exact hrm) h1
  rw [hsz] at h2
  exact ⟨(h.x.set4 h.lt _ _ _ _).below (belOne _ _), (set4E_blk h.e _ _ _ _).below (belOne _ _), h2, h.lt⟩
end

end Go.Proofs.Ytgjficnpkmemgaa

/-
  An expression whose lists keep away from a block: that block taken for a hole.
-/
import Derived.Test.YtgjficnpkmemgaaExpX
namespace Go.Proofs.Ytgjficnpkmemgaa
open Go.RowKit Go.Deep
set_option linter.unusedVariables false

/-- The world with one block that holds no cells. -/
def hole (V : World) (E : Nat) : World := V.putObj E (.deferred (some []))
theorem hole_other {V : World} {E k : Nat} (h : k ≠ E) : (hole V E).heap[k]? = V.heap[k]? := World.putObj_heap_other h
theorem hole_same {V : World} {E : Nat} (h : E < V.heap.size) : (hole V E).heap[E]? = some (.deferred (some [])) := World.putObj_heap_same h
theorem hole_size (V : World) (E : Nat) : (hole V E).heap.size = V.heap.size := by simp [hole, World.putObj]

theorem hole_cells {V : World} {E b p : Nat} {v : Value} (hE : E < V.heap.size) (h : Cells4 (hole V E) b p v) : b ≠ E ∧ Cells4 V b p v := by
  have hb : b ≠ E := by
    intro e
    subst e
    obtain ⟨v0, v1, v2, v3, _, h0, _⟩ := h
    simp [World.cell?, hole_same hE] at h0
  exact ⟨hb, h.same (hole_other hb).symm⟩

theorem IsE.unhole {V : World} {E lo : Nat} (hE : E < V.heap.size) : ∀ (t : ExpT) (v : Value), IsE (hole V E) lo t v → IsE V lo t v := by
  refine ExpT.ind (fun k n s ks ih v h => ?_)
  obtain ⟨ao, cap, h1, h2, h3⟩ := isE_node.1 h
  refine isE_node.2 ⟨ao, cap, h1, h2, fun hp => ?_⟩
  obtain ⟨b, off, h4, h5, h6⟩ := h3 hp
  refine ⟨b, off, h4, h5, fun i hi => ?_⟩
  obtain ⟨u, c, hu⟩ := h6 i hi
  have hm : ks.getD i e0 ∈ ks := by rw [List.getD, List.getElem?_eq_getElem hi]; simp
  exact ⟨u, (hole_cells hE c).2, ih _ hm u hu⟩

/-- What turns just the hole. -/
theorem IsE.hkept {V V' : World} {E lo : Nat} (hE : E < V.heap.size) (hs : V.heap.size ≤ V'.heap.size) (hk : ∀ k, lo ≤ k → k ≠ E → k < V.heap.size → V'.heap[k]? = V.heap[k]?) {t : ExpT} {v : Value} (h : IsE (hole V E) lo t v) : IsE (hole V' E) lo t v :=
  IsE.kept (fun k hl hlt => by
    rw [hole_size] at hlt
    by_cases e : k = E
    · subst e; rw [hole_same (Nat.lt_of_lt_of_le hE hs), hole_same hE]
    · rw [hole_other e, hole_other e]; exact hk k hl e hlt) t v h
theorem IsL.hkept {V V' : World} {E lo : Nat} (hE : E < V.heap.size) (hs : V.heap.size ≤ V'.heap.size) (hk : ∀ k, lo ≤ k → k ≠ E → k < V.heap.size → V'.heap[k]? = V.heap[k]?) {ks : List ExpT} {ao : Option Addr} (h : IsL (hole V E) lo ks ao) : IsL (hole V' E) lo ks ao :=
  IsL.kept h (fun k hl hlt => by
    rw [hole_size] at hlt
    by_cases e : k = E
    · subst e; rw [hole_same (Nat.lt_of_lt_of_le hE hs), hole_same hE]
    · rw [hole_other e, hole_other e]; exact hk k hl e hlt)

/-- What lay there ahead of the block keeps away from it. -/
theorem IsE.intohole {V V' : World} {lo : Nat} {t : ExpT} {v : Value} (h : IsE V lo t v) (hk : ∀ k, k < V.heap.size → V'.heap[k]? = V.heap[k]?) : IsE (hole V' V.heap.size) lo t v :=
  IsE.kept (fun k _ hlt => by rw [hole_other (by omega)]; exact hk k hlt) t v h

/-- One more node above, its list in a new row behind the hole. -/
theorem IsE.hnot {U : World} {E lo : Nat} {t : ExpT} {a0 a1 a2 a3 : Value} (hE : E < U.heap.size) (hlo : lo ≤ U.heap.size) (h : IsE (hole U E) lo t (.agg #[a0, a1, a2, a3])) :
    IsE (hole (U.alloc (.cells #[a0, a1, a2, a3] 25)) E) lo (.node 5 0 ⟨#[]⟩ [t]) (.agg #[.int .i64 5, .int .i64 0, .string ⟨#[]⟩, .slice (some ⟨U.heap.size, 0, none⟩) 1 1]) := by
  have h1 := isE_row (w := hole U E) (lo := lo) (k := 5) (n := 0) (s := ⟨#[]⟩) [t] [.agg #[a0, a1, a2, a3]] #[a0, a1, a2, a3] rfl ⟨by unfold Num64; omega, by unfold Num64; omega, by decide⟩ (by simp) (fun i hi => by
    obtain rfl : i = 0 := by simpa using hi
    exact ⟨_, _, _, _, rfl, rfl, rfl, rfl, rfl⟩) (fun i hi => by
    obtain rfl : i = 0 := by simpa using hi
    exact h) (by rw [hole_size]; exact hlo)
  rw [hole_size] at h1
  refine IsE.kept (fun k _ hlt => ?_) _ _ h1
  by_cases e : k = E
  · subst e
    rw [hole_same (by simp; omega), Below.heap_alloc _ _ _ (by rw [hole_size]; exact hE), hole_same hE]
  · rw [hole_other e]
    by_cases e2 : k < U.heap.size
    · rw [Below.heap_alloc _ _ _ e2, Below.heap_alloc _ _ _ (by rw [hole_size]; exact e2), hole_other e]
    · have e3 : k = U.heap.size := by rw [World.size_alloc, hole_size] at hlt; omega
      subst e3
      rw [World.alloc_heap_new]
      have := World.alloc_heap_new (hole U E) (.cells #[a0, a1, a2, a3] 25)
      rw [hole_size] at this
      exact this.symm

end Go.Proofs.Ytgjficnpkmemgaa

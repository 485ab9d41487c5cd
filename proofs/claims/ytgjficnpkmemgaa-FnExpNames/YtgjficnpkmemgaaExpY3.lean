/-
  A list of expressions copied into a row of the call's own, and one put behind it.
-/
import Derived.Test.YtgjficnpkmemgaaExpY2
import Derived.Deep.AppendSrc
namespace Go.Proofs.Ytgjficnpkmemgaa
open Go.RowKit Go.Deep
set_option linter.unusedVariables false

/-- The cells of a list, one behind the other. -/
theorem kids_flat {V : World} {E lo b off : Nat} (hE : E < V.heap.size) (ks : List ExpT) (h : ∀ i, i < ks.length → ∃ v, Cells4 (hole V E) b (off + i * 4) v ∧ IsE (hole V E) lo (ks.getD i e0) v) :
    ∃ us : List Value, us.length = ks.length * 4 ∧ (∀ j u, us[j]? = some u → V.cell? ⟨b, off + j, none⟩ = some u) ∧ (∀ u ∈ us, u.oneCell' = true) ∧
      ∀ i, i < ks.length → ∃ v0 v1 v2 v3, us[i * 4]? = some v0 ∧ us[i * 4 + 1]? = some v1 ∧ us[i * 4 + 2]? = some v2 ∧ us[i * 4 + 3]? = some v3 ∧ IsE (hole V E) lo (ks.getD i e0) (.agg #[v0, v1, v2, v3]) := by
  have hcell : ∀ j, j < ks.length * 4 → ∃ u, V.cell? ⟨b, off + j, none⟩ = some u ∧ u.oneCell' = true := by
    intro j hj
    obtain ⟨v, hc, he⟩ := h (j / 4) (by omega)
    obtain ⟨_, v0, v1, v2, v3, e, c0, c1, c2, c3⟩ := hole_cells hE hc
    obtain ⟨k, n, s, ao, m, c, e2⟩ := he.agg
    rw [e] at e2
    simp at e2
    obtain ⟨rfl, rfl, rfl, rfl⟩ := e2
    have hm : j % 4 = 0 ∨ j % 4 = 1 ∨ j % 4 = 2 ∨ j % 4 = 3 := by omega
    rcases hm with hm | hm | hm | hm
    · rw [show off + j = off + j / 4 * 4 by omega]; exact ⟨_, c0, rfl⟩
    · rw [show off + j = off + j / 4 * 4 + 1 by omega]; exact ⟨_, c1, rfl⟩
    · rw [show off + j = off + j / 4 * 4 + 2 by omega]; exact ⟨_, c2, rfl⟩
    · rw [show off + j = off + j / 4 * 4 + 3 by omega]; exact ⟨_, c3, rfl⟩
  refine ⟨(List.range (ks.length * 4)).map fun j => (V.cell? ⟨b, off + j, none⟩).getD .nilIface, by simp, fun j u hu => ?_, fun u hu => ?_, fun i hi => ?_⟩
  · rw [List.getElem?_map] at hu
    obtain ⟨z, hz, rfl⟩ := Option.map_eq_some_iff.1 hu
    obtain ⟨hj, rfl⟩ := List.getElem?_eq_some_iff.1 hz
    simp at hj ⊢
    obtain ⟨u, hc, _⟩ := hcell j hj
    rw [hc]; rfl
  · obtain ⟨j, hj, rfl⟩ := List.mem_map.1 hu
    obtain ⟨u, hc, h1⟩ := hcell j (List.mem_range.1 hj)
    rw [hc]; exact h1
  · obtain ⟨v, hc, he⟩ := h i hi
    obtain ⟨_, v0, v1, v2, v3, rfl, c0, c1, c2, c3⟩ := hole_cells hE hc
    refine ⟨v0, v1, v2, v3, ?_, ?_, ?_, ?_, he⟩
    · simp [show i * 4 < ks.length * 4 by omega, c0]
    · simp [show i * 4 + 1 < ks.length * 4 by omega, ← Nat.add_assoc, c1]
    · simp [show i * 4 + 2 < ks.length * 4 by omega, ← Nat.add_assoc, c2]
    · simp [show i * 4 + 3 < ks.length * 4 by omega, ← Nat.add_assoc, c3]

/-- append of a list, or of none, onto a row of the call's own that holds so many. -/
theorem run_appE (w : World) (base : Nat) (ty : TypeId) (g0 n c0 : Nat) (xs us : List Value) (ao : Option Addr) (m c : Nat) (hv : w.ownsRow base 25 4 (.slice (some ⟨g0, 0, none⟩) n c0) n xs) (hl : us.length = m * 4) (hx : 0 < m → ∃ b off, ao = some ⟨b, off, none⟩ ∧ ∀ j u, us[j]? = some u → w.cell? ⟨b, off + j, none⟩ = some u) (h1 : ∀ u ∈ us, u.oneCell' = true) (hbase : base ≤ w.heap.size) (hn : n + m ≤ 1048576) :
    ∃ g cap w', (Builtin.append_ #[23, 23] ty #[.slice (some ⟨g0, 0, none⟩) n c0, .slice ao m c]).run Try.prog w = .ok (.slice (some ⟨g, 0, none⟩) (n + m) cap) w' ∧ w'.ownsRow base 25 4 (.slice (some ⟨g, 0, none⟩) (n + m) cap) (n + m) (xs ++ us) ∧ w.grownBy w' (some g0) ∧ (g = g0 ∨ g = w.heap.size) ∧ n + m ≤ cap ∧ cap ≤ maxLen := by
  obtain ⟨i0, hi, hz0, hz1, hz2⟩ := info_parts info_exp
  by_cases hm : 0 < m
  · obtain ⟨b, off, rfl, hc⟩ := hx hm
    obtain ⟨v', w', hr, h2, h3, h4, h5⟩ := run_append_own_at (P := Try.prog) w base 23 ty 25 i0 _ 4 56 Try.underlying23 hi hz0 hz1 hz2 rfl (by decide) _ n xs hv ⟨b, off, none⟩ m c us hl (fun j u hj => by rw [Addr.add_lit]; exact hc j u hj) h1 (by unfold maxLen; omega) (by omega) hbase
    rcases h2.2 with ⟨rfl, h0⟩ | ⟨g, cap, cur, rfl, _, hh, hc1, hc2, _⟩
    · omega
    · refine ⟨g, cap, w', hr, h2, h3, ?_, hc1, hc2⟩
      rcases h5 with h5 | h5
      · exact .inl (by simpa [Value.ownBlock] using h5)
      · exact .inr (by simpa [Value.ownBlock] using h5)
  · obtain rfl : m = 0 := by omega
    have hus : us = [] := List.length_eq_zero_iff.1 (by simpa using hl)
    subst hus
    rcases hv.2 with ⟨h0, _⟩ | ⟨g, cap, cur, e, _, hh, hc1, hc2, _⟩
    · cases h0
    · injection e with e1 e2 e3
      subst e3
      have hsrc : Src Try.prog i0.size 23 (.slice ao 0 c) 0 [] w := by
        cases ao with
        | none => exact ⟨.inl ⟨25, Try.underlying23⟩, fun _ => rfl, run_firstCells_none w i0.size 0 0 c, run_firstCells_none w.drew i0.size 0 0 c, by simp, fun _ h => by cases h⟩
        | some a => exact Src.ofSlice w Try.underlying23 a 0 c [] (by simp) (fun j u h => by simp at h) (fun u h => by cases h)
      have hr := run_append_room_src (P := Try.prog) w 23 23 ty 25 i0 Try.underlying23 hi g0 0 n c0 (.slice ao 0 c) 0 [] hsrc (by omega) (fun j h => by simp at h) (fun j h => by simp at h)
      refine ⟨g0, c0, w, by rw [hr]; rfl, by simpa using hv, below_grown (Below.refl _ _), .inl rfl, by omega, hc2⟩

theorem wpList_appE {w : World} {ops : Array Oper} {rest : List Oper} {o : Oper} {a : Act} {Q : Exit → Act → World → Prop} (hgd : o.guard = none) (s x : Operand)
    (ho : o.op = .call { callee := .builtin .append, args := #[s, x], argTypes := #[23, 23] })
    (base g0 n c0 : Nat) (xs us : List Value) (ao : Option Addr) (m c : Nat) (hs : a.eval s = .slice (some ⟨g0, 0, none⟩) n c0) (hxv : a.eval x = .slice ao m c) (hv : w.ownsRow base 25 4 (.slice (some ⟨g0, 0, none⟩) n c0) n xs) (hl : us.length = m * 4) (hx : 0 < m → ∃ b off, ao = some ⟨b, off, none⟩ ∧ ∀ j u, us[j]? = some u → w.cell? ⟨b, off + j, none⟩ = some u) (h1 : ∀ u ∈ us, u.oneCell' = true) (hbase : base ≤ w.heap.size) (hn : n + m ≤ 1048576)
    (h : ∀ g cap w', w'.ownsRow base 25 4 (.slice (some ⟨g, 0, none⟩) (n + m) cap) (n + m) (xs ++ us) → w.grownBy w' (some g0) → (g = g0 ∨ g = w.heap.size) → n + m ≤ cap → cap ≤ maxLen → wpList Try.prog ops Q rest (a.put o.dst (.slice (some ⟨g, 0, none⟩) (n + m) cap)) w') :
    wpList Try.prog ops Q (o :: rest) a w := by
  refine wpList_plain hgd fun K hK => ?_
  obtain ⟨g, cap, w', hr, h2, h3, h4, h5, h6⟩ := run_appE w base o.type g0 n c0 xs us ao m c hv hl hx h1 hbase hn
  unfold Oper.wp execOp
  simp only [ho, resolve, invoke, builtin, Sem.run_bind, Sem.run_pure, Result.andThen_ok, List.map_toArray, List.map_cons, List.map_nil, hs, hxv, hr]
  exact hK _ _ (h g cap w' h2 h3 h4 h5 h6)

theorem appE_empty (w : World) : (w.alloc (.cells #[] 25)).ownsRow w.heap.size 25 4 (.slice (some ⟨w.heap.size, 0, none⟩) 0 0) 0 [] := ⟨by simp, .inr ⟨w.heap.size, 0, #[], rfl, Nat.le_refl _, World.alloc_heap_new _ _, Nat.le_refl _, by decide, by simp, by simp⟩⟩

end Go.Proofs.Ytgjficnpkmemgaa

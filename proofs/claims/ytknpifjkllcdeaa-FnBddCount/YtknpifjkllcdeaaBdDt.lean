/-
  Drawn diagrams: nodes put behind nodes of the call's own; what stands while a diagram is drawn.
-/
import Derived.Test.YtknpifjkllcdeaaBdDs
import Derived.Deep.AppendSrc
namespace Go.Proofs.Ytknpifjkllcdeaa
open Go.RowKit Go.Deep
set_option linter.unusedVariables false

attribute [local go_sem] Oper.semAt_some

theorem ints_one (L : List Int) : ∀ u ∈ L.map (Value.int .i64), u.oneCell' = true := by
  intro u hu
  obtain ⟨x, _, rfl⟩ := List.mem_map.1 hu
  rfl

/-- Nodes put behind nodes of the call's own. -/
theorem run_nodes (w : World) (base n m c : Nat) (ty : TypeId) (g0 k0 : Nat) (ax : Option Addr) (hv : OwnL w base (.slice (some ⟨g0, 0, none⟩) n k0) n) (hx : ∃ L : List Int, L.length = m * 3 ∧ (∀ x ∈ L, Sm x) ∧ (0 < m → ∃ b off, ax = some ⟨b, off, none⟩ ∧ ∀ i, i < m * 3 → w.cell? ⟨b, off + i, none⟩ = some (.int .i64 (L.getD i 0)))) (hlen : n + m ≤ 1000) :
    ∃ g cap w', (Builtin.append_ #[23, 23] ty #[.slice (some ⟨g0, 0, none⟩) n k0, .slice ax m c]).run Try.prog w = .ok (.slice (some ⟨g, 0, none⟩) (n + m) cap) w' ∧ OwnL w' base (.slice (some ⟨g, 0, none⟩) (n + m) cap) (n + m) ∧ w.grownBy w' (some g0) ∧ (g = g0 ∨ g = w.heap.size) ∧ g < w'.heap.size := by
  obtain ⟨i0, hi, hz0, hz1, hz2⟩ := info_parts info_nd
  obtain ⟨L, hL, hS, hx⟩ := hx
  have hblk := hv.blk g0 rfl
  have hle : n ≤ k0 := by obtain ⟨ao, cap, he, h, _⟩ := hv.form; injection he with e1 e2 e3; omega
  by_cases hm : m = 0
  · subst hm
    have hs : Src Try.prog i0.size 23 (.slice ax 0 c) 0 [] w := by
      cases ax with
      | none => exact Src.ofNil w Try.underlying23 c
      | some a => exact Src.ofSlice w Try.underlying23 a 0 c [] (by simp) (by simp) (by simp)
    have hr := run_append_room_src (P := Try.prog) w 23 23 ty 50 i0 Try.underlying23 hi g0 0 n k0 (.slice ax 0 c) 0 [] hs (by omega) (by simp) (by simp)
    refine ⟨g0, k0, w, ?_, by simpa using hv, World.grownBy.refl w _, .inl rfl, hblk.2⟩
    simpa [World.setCells] using hr
  · obtain ⟨b, off, rfl, hc⟩ := hx (by omega)
    obtain ⟨L0, h0, hs0, hrow⟩ := hv
    obtain ⟨g, cp, w', hr, h2, h3, h4, h5⟩ := run_append_lies (P := Try.prog) w 23 ty base 50 i0 (.agg #[.int .i64 0, .int .i64 0, .int .i64 0]) 3 24 Try.underlying23 hi hz0 hz1 hz2 rfl (by decide) (.slice (some ⟨g0, 0, none⟩) n k0) n (L0.map (Value.int .i64)) hrow ⟨b, off, none⟩ m c (L.map (Value.int .i64)) (by simp [hL])
      (fun j u hj => by
        rw [List.getElem?_map] at hj
        obtain ⟨y, hy, rfl⟩ := Option.map_eq_some_iff.1 hj
        have hjl : j < L.length := (List.getElem?_eq_some_iff.1 hy).1
        have := hc j (by omega)
        rw [Addr.add_lit, this]
        simp [List.getD, hy])
      (ints_one L) (by omega) (by unfold maxLen; omega) (by omega) (by omega) _ rfl
    refine ⟨g, cp, w', hr, ⟨L0 ++ L, by simp [h0, hL]; omega, fun x hx => ?_, by rw [List.map_append]; exact h2⟩, h3, ?_, h5⟩
    · rcases List.mem_append.1 hx with h | h
      · exact hs0 x h
      · exact hS x h
    · rcases h4 with h4 | h4
      · exact .inl (Option.some.inj h4).symm
      · exact .inr h4

/-- At the list of a plain region's operations. -/
theorem wpList_nodes {w : World} {ops : Array Oper} {rest : List Oper} {o : Oper} {a : Act} {Q : Exit → Act → World → Prop} (hgd : o.guard = none) (s x : Operand)
    (ho : o.op = .call { callee := .builtin .append, args := #[s, x], argTypes := #[23, 23] })
    (base n m c g0 k0 : Nat) (ax : Option Addr) (hs : a.eval s = .slice (some ⟨g0, 0, none⟩) n k0) (hxv : a.eval x = .slice ax m c) (hv : OwnL w base (.slice (some ⟨g0, 0, none⟩) n k0) n) (hx : ∃ L : List Int, L.length = m * 3 ∧ (∀ x ∈ L, Sm x) ∧ (0 < m → ∃ b off, ax = some ⟨b, off, none⟩ ∧ ∀ i, i < m * 3 → w.cell? ⟨b, off + i, none⟩ = some (.int .i64 (L.getD i 0)))) (hlen : n + m ≤ 1000)
    (h : ∀ g cap w', OwnL w' base (.slice (some ⟨g, 0, none⟩) (n + m) cap) (n + m) → w.grownBy w' (some g0) → (g = g0 ∨ g = w.heap.size) → g < w'.heap.size → wpList Try.prog ops Q rest (a.put o.dst (.slice (some ⟨g, 0, none⟩) (n + m) cap)) w') :
    wpList Try.prog ops Q (o :: rest) a w := by
  refine wpList_plain hgd fun K hK => ?_
  obtain ⟨g, cap, w', hr, h2, h3, h4, h5⟩ := run_nodes w base n m c o.type g0 k0 ax hv hx hlen
  unfold Oper.wp execOp
  simp only [ho, resolve, invoke, builtin, Sem.run_bind, Sem.run_pure, Result.andThen_ok, List.map_toArray, List.map_cons, List.map_nil, hs, hxv, hr]
  exact hK _ _ (h g cap w' h2 h3 h4 h5)

theorem OwnL.src {w : World} {base m c : Nat} {ax : Option Addr} (h : OwnL w base (.slice ax m c) m) : ∃ L : List Int, L.length = m * 3 ∧ (∀ x ∈ L, Sm x) ∧ (0 < m → ∃ b off, ax = some ⟨b, off, none⟩ ∧ ∀ i, i < m * 3 → w.cell? ⟨b, off + i, none⟩ = some (.int .i64 (L.getD i 0))) := by
  obtain ⟨ao, cap, he, hle, hg⟩ := h.form
  injection he with e1 e2 e3
  obtain ⟨L, h1, h2, h3⟩ := h
  refine ⟨L, h1, h2, fun hm => ?_⟩
  obtain ⟨g, hgg⟩ := hg hm
  rw [← e1] at hgg
  subst hgg
  refine ⟨g, 0, rfl, fun i hi => ?_⟩
  have t := World.ownsRow.cellAt h3 i hi
  rw [Nat.zero_add, t, List.getElem?_map, List.getD, List.getElem?_eq_getElem (by omega)]
  rfl

/-- What stands while a diagram is drawn: the answer's block, the diagram's, its nodes, the reader. -/
structure StB (w V : World) (B R : Nat) (v : Value) (bs : List Int) (p : Nat) (vi root : Int) (ao : Option Addr) (n cap : Nat) : Prop where
  q : BlkD V w.heap.size (.int .i64 0) (.slice none 0 0) (.int .i64 0)
  b : BlkD V B (.int .i64 vi) (.slice ao n cap) (.int .i64 root)
  row : OwnL V (w.heap.size + 1) (.slice ao n cap) n
  nb : ∀ k, (Value.slice ao n cap).ownBlock = some k → k ≠ B
  rd : Rd V R v bs p
  old : Old R w.heap.size w V
  hB : w.heap.size < B
  sv : Sm vi
  sr : Sm root

section
variable {w V V' : World} {B R : Nat} {v : Value} {bs : List Int} {p : Nat} {vi root : Int} {ao : Option Addr} {n cap : Nat}

theorem StB.pick (h : StB w V B R v bs p vi root ao n cap) (hR : R < w.heap.size) {p' : Nat} (hrd : Rd V' R v bs p') (hg : V.grownBy V' (some R)) : StB w V' B R v bs p' vi root ao n cap :=
  ⟨(hg.block _ h.q.lt (fun e => by have := Option.some.inj e; omega)).trans h.q, (hg.block _ h.b.lt (fun e => by have := Option.some.inj e; have := h.hB; omega)).trans h.b, ownL_keptOld h.row hg (fun k e => by have := Option.some.inj e; omega), h.nb, hrd, h.old.grown hg h.old.size (fun q e => .inr (Option.some.inj e).symm), h.hB, h.sv, h.sr⟩
theorem StB.below (h : StB w V B R v bs p vi root ao n cap) (hb : Below V.heap.size V V') : StB w V' B R v bs p vi root ao n cap :=
  ⟨h.q.below hb, h.b.below hb, h.row.below hb, h.nb, h.rd.grown (row := none) ⟨hb.os, hb.tape, hb.output, hb.size, fun k hk _ => hb.block k hk⟩ (by simp) (by simp), h.old.below hb h.old.size, h.hB, h.sv, h.sr⟩
theorem grown_cell (w : World) (a : Addr) (u : Value) : w.grownBy (w.setCell a u) (some a.block) := ⟨rfl, rfl, rfl, by simp [World.setCell], fun k hk hne => Below.heap_setCell w _ _ k (fun e => hne (by rw [e]))⟩
/-- The variables turn. -/
theorem StB.setV (h : StB w V B R v bs p vi root ao n cap) (hR : R < w.heap.size) (hvb : ∀ ao n cap b off, v = .slice ao n cap → ao = some ⟨b, off, none⟩ → b < w.heap.size) {x : Int} (hx : Sm x) : StB w (V.setCell ⟨B, 0, none⟩ (.int .i64 x)) B R v bs p x root ao n cap :=
  have hg := grown_cell V ⟨B, 0, none⟩ (.int .i64 x)
  ⟨(hg.block _ h.q.lt (fun e => by have h1 : B = w.heap.size := Option.some.inj e.symm; have := h.hB; omega)).trans h.q, h.b.set0 _, h.row.of_block (fun k e => hg.block k (h.row.blk k e).2 (fun e2 => h.nb k e (Option.some.inj e2))), h.nb, h.rd.own hg hR hvb (fun k e => by have h1 : B = k := Option.some.inj e; have := h.hB; omega), h.old.grown hg h.old.size (fun q e => .inl (by have h1 : B = q := Option.some.inj e; have := h.hB; omega)), h.hB, hx, h.sr⟩
/-- Where it begins turns. -/
theorem StB.setR (h : StB w V B R v bs p vi root ao n cap) (hR : R < w.heap.size) (hvb : ∀ ao n cap b off, v = .slice ao n cap → ao = some ⟨b, off, none⟩ → b < w.heap.size) {x : Int} (hx : Sm x) : StB w (V.setCell ⟨B, 2, none⟩ (.int .i64 x)) B R v bs p vi x ao n cap :=
  have hg := grown_cell V ⟨B, 2, none⟩ (.int .i64 x)
  ⟨(hg.block _ h.q.lt (fun e => by have h1 : B = w.heap.size := Option.some.inj e.symm; have := h.hB; omega)).trans h.q, h.b.set2 _, h.row.of_block (fun k e => hg.block k (h.row.blk k e).2 (fun e2 => h.nb k e (Option.some.inj e2))), h.nb, h.rd.own hg hR hvb (fun k e => by have h1 : B = k := Option.some.inj e; have := h.hB; omega), h.old.grown hg h.old.size (fun q e => .inl (by have h1 : B = q := Option.some.inj e; have := h.hB; omega)), h.hB, h.sv, hx⟩
/-- A number of a node turns. -/
theorem StB.setC {g : Nat} (h : StB w V B R v bs p vi root (some ⟨g, 0, none⟩) n cap) (hR : R < w.heap.size) (hvb : ∀ ao n cap b off, v = .slice ao n cap → ao = some ⟨b, off, none⟩ → b < w.heap.size) {i : Nat} {x : Int} (hx : Sm x) : StB w (V.setCell ⟨g, i, none⟩ (.int .i64 x)) B R v bs p vi root (some ⟨g, 0, none⟩) n cap :=
  have hg := grown_cell V ⟨g, i, none⟩ (.int .i64 x)
  have hb := h.row.blk g rfl
  ⟨(hg.block _ h.q.lt (fun e => by have h1 : g = w.heap.size := Option.some.inj e.symm; omega)).trans h.q, (hg.block _ h.b.lt (fun e => h.nb g rfl (Option.some.inj e).symm)).trans h.b, h.row.set hx, h.nb, h.rd.own hg hR hvb (fun k e => by have h1 : g = k := Option.some.inj e; omega), h.old.grown hg h.old.size (fun q e => .inl (by have h1 : g = q := Option.some.inj e; omega)), h.hB, h.sv, h.sr⟩
/-- Other nodes. -/
theorem StB.setN (h : StB w V B R v bs p vi root ao n cap) (hR : R < w.heap.size) (hvb : ∀ ao n cap b off, v = .slice ao n cap → ao = some ⟨b, off, none⟩ → b < w.heap.size) {row : Option Nat} (hg : V.grownBy V' row) (hrow : ∀ k, row = some k → w.heap.size < k ∧ k ≠ B) {g n2 cap2 : Nat} (ho : OwnL V' (w.heap.size + 1) (.slice (some ⟨g, 0, none⟩) n2 cap2) n2) (hgB : g ≠ B) : StB w (V'.setCell ⟨B, 1, none⟩ (.slice (some ⟨g, 0, none⟩) n2 cap2)) B R v bs p vi root (some ⟨g, 0, none⟩) n2 cap2 := by
  have hg2 := grown_cell V' ⟨B, 1, none⟩ (.slice (some ⟨g, 0, none⟩) n2 cap2)
  have hbV : BlkD V' B (.int .i64 vi) (.slice ao n cap) (.int .i64 root) := (hg.block _ h.b.lt (fun e => (hrow B e.symm).2 rfl)).trans h.b
  have hqV : BlkD V' w.heap.size (.int .i64 0) (.slice none 0 0) (.int .i64 0) := (hg.block _ h.q.lt (fun e => by have := (hrow _ e.symm).1; omega)).trans h.q
  have hrd : Rd V' R v bs p := h.rd.own hg hR hvb (fun k e => by have := (hrow k e).1; omega)
  have hold : Old R w.heap.size w V' := h.old.grown hg h.old.size (fun q e => .inl (by have := (hrow q e).1; omega))
  exact ⟨(hg2.block _ hqV.lt (fun e => by have h1 : B = w.heap.size := Option.some.inj e.symm; have := h.hB; omega)).trans hqV, hbV.set1 _, ho.of_block (fun k e => hg2.block k (ho.blk k e).2 (fun e2 => hgB (by have h1 : g = k := Option.some.inj e; have h2 : k = B := Option.some.inj e2; omega))), fun k e => by have h1 : g = k := Option.some.inj e; omega, hrd.own hg2 hR hvb (fun k e => by have h1 : B = k := Option.some.inj e; have := h.hB; omega), hold.grown hg2 hold.size (fun q e => .inl (by have h1 : B = q := Option.some.inj e; have := h.hB; omega)), h.hB, h.sv, h.sr⟩
end

end Go.Proofs.Ytknpifjkllcdeaa

/-
  Drawn diagrams: nodes put behind nodes of the call's own; what stands while a diagram is drawn.
  A drawn diagram, whatever is turned in it: l13AnyBdd.
  A diagram drawn from bytes: DrawBddFirst, DrawBddNot, DrawBddNeeds.
-/
import Derived.Test.YtknpifjkllcdeaaBdDs
import Derived.Deep.AppendSrc
import Derived.Deep.DeepCutAuto
namespace Go.Proofs.Ytknpifjkllcdeaa
open Go.RowKit Go.Deep
set_option linter.unusedVariables false

attribute [local go_sem] Oper.semAt_some

theorem ints_one (L : List Int) : ∀ u ∈ L.map (Value.int .i64), u.oneCell' = true := by
  intro u hu
  obtain ⟨x, _, rfl⟩ := List.mem_map.1 hu
  rfl

/-- Nodes put behind nodes of the call's own. -/
theorem run_nodes (w : World) (base n m c : Nat) (ty : TypeId) (g0 k0 : Nat) (ax : Option Addr) (hv : OwnL w base (.slice (some ⟨g0, 0, none⟩) n k0) n) (hx : ∃ L : List Int, L.length = m * 3 ∧ (∀ x ∈ L, Sm x) ∧ (0 < m → ∃ b off, ax = some ⟨b, off, none⟩ ∧ ∀ i, i < m * 3 → w.cell? ⟨b, off + i, none⟩ = some (.int .i64 (L.getD i 0)))) (hlen : n + m ≤ 1000) :
    ∃ g cap w', (Builtin.append_ #[23, 23] ty #[.slice (some ⟨g0, 0, none⟩) n k0, .slice ax m c]).run Try.prog w = .ok (.slice (some ⟨g, 0, none⟩) (n + m) cap) w' ∧ OwnL w' base (.slice (some ⟨g, 0, none⟩) (n + m) cap) (n + m) ∧ w.grownBy w' (some g0) ∧ (g = g0 ∨ g = w.heap.size) ∧ g < w'.heap.size := by
  obtain ⟨i0, hi, hz0, hz1, hz2⟩ := info_parts info_nd
  obtain ⟨L, hL, hS, hx⟩ := hx
  have hblk := hv.blk g0 rfl
  have hle : n ≤ k0 := by obtain ⟨ao, cap, he, h, _⟩ := hv.form; injection he with e1 e2 e3; omega
  by_cases hm : m = 0
  · subst hm
    have hs : Src Try.prog i0.size 23 (.slice ax 0 c) 0 [] w := by
      cases ax with
      | none => exact Src.ofNil w Try.underlying23 c
      | some a => exact Src.ofSlice w Try.underlying23 a 0 c [] (by simp) (by simp) (by simp)
    have hr := run_append_room_src (P := Try.prog) w 23 23 ty 50 i0 Try.underlying23 hi g0 0 n k0 (.slice ax 0 c) 0 [] hs (by omega) (by simp) (by simp)
    refine ⟨g0, k0, w, ?_, by simpa using hv, World.grownBy.refl w _, .inl rfl, hblk.2⟩
    simpa [World.setCells] using hr
  · obtain ⟨b, off, rfl, hc⟩ := hx (by omega)
    obtain ⟨L0, h0, hs0, hrow⟩ := hv
    obtain ⟨g, cp, w', hr, h2, h3, h4, h5⟩ := run_append_lies (P := Try.prog) w 23 ty base 50 i0 (.agg #[.int .i64 0, .int .i64 0, .int .i64 0]) 3 24 Try.underlying23 hi hz0 hz1 hz2 rfl (by decide) (.slice (some ⟨g0, 0, none⟩) n k0) n (L0.map (Value.int .i64)) hrow ⟨b, off, none⟩ m c (L.map (Value.int .i64)) (by simp [hL])
      (fun j u hj => by
        rw [List.getElem?_map] at hj
        obtain ⟨y, hy, rfl⟩ := Option.map_eq_some_iff.1 hj
        have hjl : j < L.length := (List.getElem?_eq_some_iff.1 hy).1
        have := hc j (by omega)
        rw [Addr.add_lit, this]
        simp [List.getD, hy])
      (ints_one L) (by omega) (by unfold maxLen; omega) (by omega) (by omega) _ rfl
    refine ⟨g, cp, w', hr, ⟨L0 ++ L, by simp [h0, hL]; omega, fun x hx => ?_, by rw [List.map_append]; exact h2⟩, h3, ?_, h5⟩
    · rcases List.mem_append.1 hx with h | h
      · exact hs0 x h
      · exact hS x h
    · rcases h4 with h4 | h4
      · exact .inl (Option.some.inj h4).symm
      · exact .inr h4

/-- At the list of a plain region's operations. -/
theorem wpList_nodes {w : World} {ops : Array Oper} {rest : List Oper} {o : Oper} {a : Act} {Q : Exit → Act → World → Prop} (hgd : o.guard = none) (s x : Operand)
    (ho : o.op = .call { callee := .builtin .append, args := #[s, x], argTypes := #[23, 23] })
    (base n m c g0 k0 : Nat) (ax : Option Addr) (hs : a.eval s = .slice (some ⟨g0, 0, none⟩) n k0) (hxv : a.eval x = .slice ax m c) (hv : OwnL w base (.slice (some ⟨g0, 0, none⟩) n k0) n) (hx : ∃ L : List Int, L.length = m * 3 ∧ (∀ x ∈ L, Sm x) ∧ (0 < m → ∃ b off, ax = some ⟨b, off, none⟩ ∧ ∀ i, i < m * 3 → w.cell? ⟨b, off + i, none⟩ = some (.int .i64 (L.getD i 0)))) (hlen : n + m ≤ 1000)
    (h : ∀ g cap w', OwnL w' base (.slice (some ⟨g, 0, none⟩) (n + m) cap) (n + m) → w.grownBy w' (some g0) → (g = g0 ∨ g = w.heap.size) → g < w'.heap.size → wpList Try.prog ops Q rest (a.put o.dst (.slice (some ⟨g, 0, none⟩) (n + m) cap)) w') :
    wpList Try.prog ops Q (o :: rest) a w := by
  refine wpList_plain hgd fun K hK => ?_
  obtain ⟨g, cap, w', hr, h2, h3, h4, h5⟩ := run_nodes w base n m c o.type g0 k0 ax hv hx hlen
  unfold Oper.wp execOp
  simp only [ho, resolve, invoke, builtin, Sem.run_bind, Sem.run_pure, Result.andThen_ok, List.map_toArray, List.map_cons, List.map_nil, hs, hxv, hr]
  exact hK _ _ (h g cap w' h2 h3 h4 h5)

theorem OwnL.src {w : World} {base m c : Nat} {ax : Option Addr} (h : OwnL w base (.slice ax m c) m) : ∃ L : List Int, L.length = m * 3 ∧ (∀ x ∈ L, Sm x) ∧ (0 < m → ∃ b off, ax = some ⟨b, off, none⟩ ∧ ∀ i, i < m * 3 → w.cell? ⟨b, off + i, none⟩ = some (.int .i64 (L.getD i 0))) := by
  obtain ⟨ao, cap, he, hle, hg⟩ := h.form
  injection he with e1 e2 e3
  obtain ⟨L, h1, h2, h3⟩ := h
  refine ⟨L, h1, h2, fun hm => ?_⟩
  obtain ⟨g, hgg⟩ := hg hm
  rw [← e1] at hgg
  subst hgg
  refine ⟨g, 0, rfl, fun i hi => ?_⟩
  have t := World.ownsRow.cellAt h3 i hi
  rw [Nat.zero_add, t, List.getElem?_map, List.getD, List.getElem?_eq_getElem (by omega)]
  rfl

/-- What stands while a diagram is drawn: the answer's block, the diagram's, its nodes, the reader. -/
structure StB (w V : World) (B R : Nat) (v : Value) (bs : List Int) (p : Nat) (vi root : Int) (ao : Option Addr) (n cap : Nat) : Prop where
  q : BlkD V w.heap.size (.int .i64 0) (.slice none 0 0) (.int .i64 0)
  b : BlkD V B (.int .i64 vi) (.slice ao n cap) (.int .i64 root)
  row : OwnL V (w.heap.size + 1) (.slice ao n cap) n
  nb : ∀ k, (Value.slice ao n cap).ownBlock = some k → k ≠ B
  rd : Rd V R v bs p
  old : Old R w.heap.size w V
  hB : w.heap.size < B
  sv : Sm vi
  sr : Sm root

section
variable {w V V' : World} {B R : Nat} {v : Value} {bs : List Int} {p : Nat} {vi root : Int} {ao : Option Addr} {n cap : Nat}

theorem StB.pick (h : StB w V B R v bs p vi root ao n cap) (hR : R < w.heap.size) {p' : Nat} (hrd : Rd V' R v bs p') (hg : V.grownBy V' (some R)) : StB w V' B R v bs p' vi root ao n cap :=
  ⟨(hg.block _ h.q.lt (fun e => by have := Option.some.inj e; omega)).trans h.q, (hg.block _ h.b.lt (fun e => by have := Option.some.inj e; have := h.hB; omega)).trans h.b, ownL_keptOld h.row hg (fun k e => by have := Option.some.inj e; omega), h.nb, hrd, h.old.grown hg h.old.size (fun q e => .inr (Option.some.inj e).symm), h.hB, h.sv, h.sr⟩
theorem StB.below (h : StB w V B R v bs p vi root ao n cap) (hb : Below V.heap.size V V') : StB w V' B R v bs p vi root ao n cap :=
  ⟨h.q.below hb, h.b.below hb, h.row.below hb, h.nb, h.rd.grown (row := none) ⟨hb.os, hb.tape, hb.output, hb.size, fun k hk _ => hb.block k hk⟩ (by simp) (by simp), h.old.below hb h.old.size, h.hB, h.sv, h.sr⟩
theorem grown_cell (w : World) (a : Addr) (u : Value) : w.grownBy (w.setCell a u) (some a.block) := ⟨rfl, rfl, rfl, by simp [World.setCell], fun k hk hne => Below.heap_setCell w _ _ k (fun e => hne (by rw [e]))⟩
/-- The variables turn. -/
theorem StB.setV (h : StB w V B R v bs p vi root ao n cap) (hR : R < w.heap.size) (hvb : ∀ ao n cap b off, v = .slice ao n cap → ao = some ⟨b, off, none⟩ → b < w.heap.size) {x : Int} (hx : Sm x) : StB w (V.setCell ⟨B, 0, none⟩ (.int .i64 x)) B R v bs p x root ao n cap :=
  have hg := grown_cell V ⟨B, 0, none⟩ (.int .i64 x)
  ⟨(hg.block _ h.q.lt (fun e => by have h1 : B = w.heap.size := Option.some.inj e.symm; have := h.hB; omega)).trans h.q, h.b.set0 _, h.row.of_block (fun k e => hg.block k (h.row.blk k e).2 (fun e2 => h.nb k e (Option.some.inj e2))), h.nb, h.rd.own hg hR hvb (fun k e => by have h1 : B = k := Option.some.inj e; have := h.hB; omega), h.old.grown hg h.old.size (fun q e => .inl (by have h1 : B = q := Option.some.inj e; have := h.hB; omega)), h.hB, hx, h.sr⟩
/-- Where it begins turns. -/
theorem StB.setR (h : StB w V B R v bs p vi root ao n cap) (hR : R < w.heap.size) (hvb : ∀ ao n cap b off, v = .slice ao n cap → ao = some ⟨b, off, none⟩ → b < w.heap.size) {x : Int} (hx : Sm x) : StB w (V.setCell ⟨B, 2, none⟩ (.int .i64 x)) B R v bs p vi x ao n cap :=
  have hg := grown_cell V ⟨B, 2, none⟩ (.int .i64 x)
  ⟨(hg.block _ h.q.lt (fun e => by have h1 : B = w.heap.size := Option.some.inj e.symm; have := h.hB; omega)).trans h.q, h.b.set2 _, h.row.of_block (fun k e => hg.block k (h.row.blk k e).2 (fun e2 => h.nb k e (Option.some.inj e2))), h.nb, h.rd.own hg hR hvb (fun k e => by have h1 : B = k := Option.some.inj e; have := h.hB; omega), h.old.grown hg h.old.size (fun q e => .inl (by have h1 : B = q := Option.some.inj e; have := h.hB; omega)), h.hB, h.sv, hx⟩
/-- A number of a node turns. -/
theorem StB.setC {g : Nat} (h : StB w V B R v bs p vi root (some ⟨g, 0, none⟩) n cap) (hR : R < w.heap.size) (hvb : ∀ ao n cap b off, v = .slice ao n cap → ao = some ⟨b, off, none⟩ → b < w.heap.size) {i : Nat} {x : Int} (hx : Sm x) : StB w (V.setCell ⟨g, i, none⟩ (.int .i64 x)) B R v bs p vi root (some ⟨g, 0, none⟩) n cap :=
  have hg := grown_cell V ⟨g, i, none⟩ (.int .i64 x)
  have hb := h.row.blk g rfl
  ⟨(hg.block _ h.q.lt (fun e => by have h1 : g = w.heap.size := Option.some.inj e.symm; omega)).trans h.q, (hg.block _ h.b.lt (fun e => h.nb g rfl (Option.some.inj e).symm)).trans h.b, h.row.set hx, h.nb, h.rd.own hg hR hvb (fun k e => by have h1 : g = k := Option.some.inj e; omega), h.old.grown hg h.old.size (fun q e => .inl (by have h1 : g = q := Option.some.inj e; omega)), h.hB, h.sv, h.sr⟩
/-- Other nodes. -/
theorem StB.setN (h : StB w V B R v bs p vi root ao n cap) (hR : R < w.heap.size) (hvb : ∀ ao n cap b off, v = .slice ao n cap → ao = some ⟨b, off, none⟩ → b < w.heap.size) {row : Option Nat} (hg : V.grownBy V' row) (hrow : ∀ k, row = some k → w.heap.size < k ∧ k ≠ B) {g n2 cap2 : Nat} (ho : OwnL V' (w.heap.size + 1) (.slice (some ⟨g, 0, none⟩) n2 cap2) n2) (hgB : g ≠ B) : StB w (V'.setCell ⟨B, 1, none⟩ (.slice (some ⟨g, 0, none⟩) n2 cap2)) B R v bs p vi root (some ⟨g, 0, none⟩) n2 cap2 := by
  have hg2 := grown_cell V' ⟨B, 1, none⟩ (.slice (some ⟨g, 0, none⟩) n2 cap2)
  have hbV : BlkD V' B (.int .i64 vi) (.slice ao n cap) (.int .i64 root) := (hg.block _ h.b.lt (fun e => (hrow B e.symm).2 rfl)).trans h.b
  have hqV : BlkD V' w.heap.size (.int .i64 0) (.slice none 0 0) (.int .i64 0) := (hg.block _ h.q.lt (fun e => by have := (hrow _ e.symm).1; omega)).trans h.q
  have hrd : Rd V' R v bs p := h.rd.own hg hR hvb (fun k e => by have := (hrow k e).1; omega)
  have hold : Old R w.heap.size w V' := h.old.grown hg h.old.size (fun q e => .inl (by have := (hrow q e).1; omega))
  exact ⟨(hg2.block _ hqV.lt (fun e => by have h1 : B = w.heap.size := Option.some.inj e.symm; have := h.hB; omega)).trans hqV, hbV.set1 _, ho.of_block (fun k e => hg2.block k (ho.blk k e).2 (fun e2 => hgB (by have h1 : g = k := Option.some.inj e; have h2 : k = B := Option.some.inj e2; omega))), fun k e => by have h1 : g = k := Option.some.inj e; omega, hrd.own hg2 hR hvb (fun k e => by have h1 : B = k := Option.some.inj e; have := h.hB; omega), hold.grown hg2 hold.size (fun q e => .inl (by have h1 : B = q := Option.some.inj e; have := h.hB; omega)), h.hB, h.sv, h.sr⟩
end

end Go.Proofs.Ytknpifjkllcdeaa

namespace Go.Proofs.Ytknpifjkllcdeaa
open Go.RowKit Go.Deep
set_option linter.unusedVariables false

attribute [local go_sem] Oper.semAt_some

theorem litB_cells (w : World) (xs : List Int) (t : TypeId) : ∀ i, i < xs.length → (w.alloc (.cells (xs.map (Value.int .i64)).toArray t)).cell? ⟨w.heap.size, 0 + i, none⟩ = some (.int .i64 (xs.getD i 0)) := by
  intro i hi
  rw [World.cell?_alloc_new]
  simp [List.getD, hi]

set_option maxHeartbeats 1000000 in
theorem oneB_any (R : Nat) (v : Value) (bs : List Int) (p : Nat) (b off n cap : Nat) (xs : List Int) (w : World) (hr : Rd w R v bs p) (hp : p ≤ 500000) (hn : xs.length = n) (h0 : 0 < n) (h9 : n ≤ 9) (hb : b ≠ R) (hc : ∀ i, i < n → w.cell? ⟨b, off + i, none⟩ = some (.int .i64 (xs.getD i 0))) :
    Calls Try.prog 112 #[.pointer (some ⟨R, 0, none⟩), .slice (some ⟨b, off, none⟩) n cap] w fun e w' => ∃ x : Int, e = .returned (.int .i64 x) ∧ x ∈ xs ∧ Rd w' R v bs (p + 1) ∧ w.grownBy w' (some R) ∧ w'.heap.size = w.heap.size := by
  have HC : Hid (∀ i, i < n → w.cell? ⟨b, off + i, none⟩ = some (.int .i64 (xs.getD i 0))) := hc
  have HN : Hid (xs.length = n) := hn
  clear hc hn
  go_enter Try.func112, Try.ntmps112
  go_wp2_with fail
  refine (pick_any R v bs p _ _ hr (by omega) (by omega)).mono ?_
  rintro e w1 ⟨x, rfl, hx0, hx1, hx2, hrd1, hg1, hs1⟩
  have hxn : x < n := hx1 (by omega)
  obtain ⟨i, rfl⟩ := Int.eq_ofNat_of_zero_le hx0
  have hi : i < n := by omega
  have hcell : w1.cell? ⟨b, off + i, none⟩ = some (.int .i64 (xs.getD i 0)) := hg1.cell (HC.out i hi) (fun e => hb (Option.some.inj e))
  have HMEM : Hid (xs.getD i 0 ∈ xs) := by
    have hi' : i < xs.length := by rw [HN.out]; exact hi
    show xs.getD i 0 ∈ xs
    rw [List.getD, List.getElem?_eq_getElem hi']; simp
  have HR1 : Hid (Rd w1 R v bs (p + 1)) := hrd1
  have HG1 : Hid (w.grownBy w1 (some R)) := hg1
  have HS1 : Hid (w1.heap.size = w.heap.size) := hs1
  clear hrd1 hg1 hs1 hx1 hx2
  generalize xs.getD i 0 = z at *
  go_wp2
  go_ret
  exact ⟨z, rfl, HMEM.out, HR1.out, HG1.out, HS1.out⟩

theorem StB.done {w V : World} {B R : Nat} {v : Value} {bs : List Int} {p : Nat} {vi root : Int} {ao : Option Addr} {n cap : Nat} (h : StB w V B R v bs p vi root ao n cap) (hR : R < w.heap.size) (hvb : ∀ ao n cap b off, v = .slice ao n cap → ao = some ⟨b, off, none⟩ → b < w.heap.size) :
    BlkD (set3 V w.heap.size (.int .i64 vi) (.slice ao n cap) (.int .i64 root)) w.heap.size (.int .i64 vi) (.slice ao n cap) (.int .i64 root) ∧ OwnL (set3 V w.heap.size (.int .i64 vi) (.slice ao n cap) (.int .i64 root)) w.heap.size (.slice ao n cap) n ∧ Rd (set3 V w.heap.size (.int .i64 vi) (.slice ao n cap) (.int .i64 root)) R v bs p ∧ Old R w.heap.size w (set3 V w.heap.size (.int .i64 vi) (.slice ao n cap) (.int .i64 root)) := by
  have hg : V.grownBy (set3 V w.heap.size (.int .i64 vi) (.slice ao n cap) (.int .i64 root)) (some w.heap.size) := ⟨rfl, rfl, rfl, by simp [set3, World.setCell], fun k hk hne => set3_other _ _ _ (fun e => hne (by rw [e]))⟩
  refine ⟨h.q.set _ _ _, ?_, h.rd.own hg hR hvb (fun k e => by have := Option.some.inj e; omega), h.old.grown hg h.old.size (fun q e => .inl (by have := Option.some.inj e; omega))⟩
  obtain ⟨L, a1, a2, a3⟩ := h.row
  exact ⟨L, a1, a2, row_base (row_of_block a3 (fun k e => hg.block k (World.ownsRow.lt a3 k e).2 (fun e2 => by have := Option.some.inj e2; have := (World.ownsRow.lt a3 k e).1; omega))) (by omega)⟩

def AnyB (R : Nat) (v : Value) (bs : List Int) (p K : Nat) (w : World) (e : Ending) (w' : World) : Prop :=
  ∃ (vi root : Int) (ao : Option Addr) (n cap p' : Nat), e = .returned (.agg #[.int .i64 vi, .slice ao n cap, .int .i64 root]) ∧ Sm vi ∧ Sm root ∧ n ≤ 80 ∧ OwnL w' w.heap.size (.slice ao n cap) n ∧ p' ≤ p + K ∧ Rd w' R v bs p' ∧ Old R w.heap.size w w'

theorem ownL_empty (w : World) (base : Nat) (h : base ≤ w.heap.size) : OwnL (w.alloc (.cells #[] 50)) base (.slice (some ⟨w.heap.size, 0, none⟩) 0 0) 0 := ⟨[], rfl, by simp, by simp, .inr ⟨w.heap.size, 0, #[], rfl, h, World.alloc_heap_new _ _, Nat.le_refl _, by simp, by simp, by simp⟩⟩

set_option maxRecDepth 100000 in
set_option maxHeartbeats 16000000 in
theorem l13AnyBdd_any (R : Nat) (v : Value) (bs : List Int) (p : Nat) (w : World) (hr : Rd w R v bs p) (hvb : ∀ ao n cap b off, v = .slice ao n cap → ao = some ⟨b, off, none⟩ → b < w.heap.size) (hp : p ≤ 300000) :
    Calls Try.prog 84 #[.pointer (some ⟨R, 0, none⟩)] w (AnyB R v bs p 300 w) := by
  have hRlt := hr.lt
  obtain ⟨W1, hW1⟩ : ∃ W1, W1 = w.alloc (.cells #[.int .i64 0, .slice none 0 0, .int .i64 0] 25) := ⟨_, rfl⟩
  have hR1 : Rd W1 R v bs p := by rw [hW1]; exact hr.grown (World.grownBy_alloc w _ none) (by simp) (by simp)
  have HD1 : Hid (Old R w.heap.size w W1) := by rw [hW1]; exact (Old.refl R w.heap.size w).below (belOne _ _) (Nat.le_refl _)
  have HQ1 : Hid (BlkD W1 w.heap.size (.int .i64 0) (.slice none 0 0) (.int .i64 0)) := by rw [hW1]; exact BlkD.new _ _ _ _
  have hs1 : W1.heap.size = w.heap.size + 1 := by rw [hW1]; simp
  have HLB := hideN (l13Bdd_any R v bs p W1 hR1 (fun ao n cap b off h1 h2 => by have := hvb ao n cap b off h1 h2; omega) (by omega))
  have HV0 := hideN hvb
  have HW1 := hideN hW1
  have HS1 := hideN hs1
  clear hr hvb hW1 hR1 hs1
  go_enter Try.func84, Try.ntmps84
  go_wp2_with fail
  rw [← HW1.out]
  refine HLB.out.mono ?_
  rintro e w2 ⟨vi, root, ao, n, cap, p2, rfl, hsv6, hsr, hn70, hown, hp2, hrd2, hold2⟩
  have hsv : Sm vi := ⟨by have := hsv6.1; omega, by have := hsv6.2; omega⟩
  have hsz2 : w.heap.size + 1 ≤ w2.heap.size := by have := hold2.size; have := HS1.out; omega
  obtain ⟨V2, hV2⟩ : ∃ V2, V2 = (w2.alloc (.cells #[.int .i64 vi, .slice ao n cap, .int .i64 root] 25)).alloc (.cells #[] 50) := ⟨_, rfl⟩
  have hb22 : Below w2.heap.size w2 V2 := by rw [hV2]; exact belNext (belOne _ _) (belOne _ _)
  have HST2 : Hid (StB w V2 w2.heap.size R v bs p2 vi root ao n cap) := by
    rw [HS1.out] at hown
    refine ⟨?_, by rw [hV2]; exact (BlkD.new _ _ _ _).below (belOne _ _), hown.below hb22, fun k e => by have := (hown.blk k e).2; omega, hrd2.grown (row := none) ⟨hb22.os, hb22.tape, hb22.output, hb22.size, fun k hk _ => hb22.block k hk⟩ (by simp) (by simp), ?_, by omega, hsv, hsr⟩
    · exact (hb22.block _ (by omega)).trans ((hold2.2.2.2.2 _ (by have := HQ1.out.lt; omega) (by omega)).trans HQ1.out)
    · exact (HD1.out.trans ⟨hold2.1, hold2.2.1, hold2.2.2.1, hold2.2.2.2.1, fun k hk hne => hold2.2.2.2.2 k (by have := HS1.out; omega) hne⟩).below hb22 (by omega)
  have HEM : Hid (OwnL V2 (w.heap.size + 1) (.slice (some ⟨w2.heap.size + 1, 0, none⟩) 0 0) 0) := by
    have h := ownL_empty (w2.alloc (.cells #[.int .i64 vi, .slice ao n cap, .int .i64 root] 25)) (w.heap.size + 1) (by simp; omega)
    rw [World.size_alloc, ← hV2] at h
    exact h
  have HSRC := hideN (HST2.out.row.src)
  have HVE := hideN hV2
  have hsV2 : V2.heap.size = w2.heap.size + 2 := by rw [hV2]; simp
  clear hV2 hb22 hown hrd2 hold2
  go_wp2_with (at_builtin; (try rw [← HVE.out]); refine wpList_nodes rfl _ _ rfl (w.heap.size + 1) 0 n cap (w2.heap.size + 1) 0 ao rfl rfl HEM.out HSRC.out (by omega) ?_; intro g gcap w3 ho3 hg3 hat3 hlt3; have hb3 : BlkD w3 w2.heap.size (.int .i64 vi) (.slice ao n cap) (.int .i64 root) := (hg3.block _ HST2.out.b.lt (fun e => by have h1 : w2.heap.size + 1 = w2.heap.size := Option.some.inj e.symm; omega)).trans HST2.out.b; have b1 := hb3.c1; have b2 := hb3.f 1; have b3 := hb3.lt)
  rw [Nat.zero_add] at ho3
  have HS3 := hideN (HST2.out.setN hRlt HV0.out hg3 (fun k e => by have h1 : w2.heap.size + 1 = k := Option.some.inj e; omega) ho3 (by rcases hat3 with h | h <;> omega))
  have hgB : w.heap.size + 1 ≤ g := (ho3.blk g rfl).1
  clear hg3 ho3 hat3 hb3 HST2 HEM HSRC hsV2
  generalize w2.heap.size = B at *
  obtain ⟨V3, hV3⟩ : ∃ V3, V3 = w3.setCell ⟨B, 1, none⟩ (.slice (some ⟨g, 0, none⟩) n gcap) := ⟨_, rfl⟩
  try rw [← hV3]
  rw [← hV3] at HS3
  clear hV3 b1 b2 b3 hlt3
  refine (pick_any R v bs p2 _ _ HS3.out.rd (by omega) (by omega)).mono ?_
  rintro e w4 ⟨x, rfl, hx0, hx1, hx2, hrd4, hg4, hs4⟩
  have hx16 : x < 16 := hx1 (by omega)
  have HS4 := hideN (HS3.out.pick hRlt hrd4 hg4)
  have hBw : w.heap.size < B := HS4.out.hB
  clear hrd4 hg4 hs4 hx1 hx2 HS3
  have hsvl := hsv6.1
  have hsvh := hsv6.2
  have hsrl := hsr.1
  have hsrh := hsr.2
  have b0 := HS4.out.b.c0
  have b1 := HS4.out.b.c1
  have b2 := HS4.out.b.c2
  have b3 := HS4.out.b.lt
  have f0 := HS4.out.b.f 0
  have f1 := HS4.out.b.f 1
  have f2 := HS4.out.b.f 2
  by_cases hxv : x = 0
  · subst hxv
    have HLC := hideN (litB_cells w4 [-1, 7, vi + 1] 3)
    have hRd5 : Rd (w4.alloc (.cells ([-1, 7, vi + 1].map (Value.int .i64)).toArray 3)) R v bs (p2 + 1) := HS4.out.rd.grown (World.grownBy_alloc w4 _ none) (by simp) (by simp)
    have HOC := hideN (oneB_any R v bs (p2 + 1) w4.heap.size 0 3 3 [-1, 7, vi + 1] _ hRd5 (by omega) rfl (by decide) (by decide) (by have := HS4.out.rd.lt; omega) HLC.out)
    have HS5 := hideN (HS4.out.below (belOne w4 (.cells ([-1, 7, vi + 1].map (Value.int .i64)).toArray 3)))
    clear hRd5 HLC
    go_wp2_with fail
    refine HOC.out.mono ?_
    rintro e w6 ⟨y, rfl, hmem, hrd6, hg6, hs6⟩
    have hym : Sm y := by
      simp only [List.mem_cons, List.not_mem_nil, or_false] at hmem
      rcases hmem with rfl | rfl | rfl
      · exact ⟨by omega, by omega⟩
      · exact ⟨by omega, by omega⟩
      · exact ⟨by omega, by omega⟩
    have HS6 := hideN (HS5.out.pick hRlt hrd6 hg6)
    have HS7 := hideN (HS6.out.setV hRlt HV0.out hym)
    clear HOC hmem hrd6 hg6 hs6 b0 b1 b2 b3 f0 f1 f2 HS4 HS5
    have b0 := HS6.out.b.c0
    have b1 := HS6.out.b.c1
    have b2 := HS6.out.b.c2
    have b3 := HS6.out.b.lt
    have f0 := HS6.out.b.f 0
    have f1 := HS6.out.b.f 1
    have f2 := HS6.out.b.f 2
    go_upto_region 19 with fail
    obtain ⟨V7, hV7⟩ : ∃ V7, V7 = w6.setCell ⟨B, 0, none⟩ (.int .i64 y) := ⟨_, rfl⟩
    rw [← hV7] at HS7 ⊢
    clear hV7 b0 b1 b2 b3 f0 f1 f2 HS6
    have HQ := hideN HS7.out.q
    have HDN := hideN (HS7.out.done hRlt HV0.out)
    have HSV := hideN HS7.out.sv
    have HSR := hideN HS7.out.sr
    have b0 := HS7.out.b.c0
    have b1 := HS7.out.b.c1
    have b2 := HS7.out.b.c2
    have b3 := HS7.out.b.lt
    have m0 := HQ.out.c0
    have m1 := HQ.out.c1
    have m2 := HQ.out.c2
    have m3 := HQ.out.f 0
    have m4 := HQ.out.f 1
    have m5 := HQ.out.f 2
    have m6 := HQ.out.lt
    go_wp2
    have u0 := (HDN.out.1).c0
    have u1 := (HDN.out.1).c1
    have u2 := (HDN.out.1).c2
    unfold set3 at u0 u1 u2
    exact bodyPost_ret (v := .agg #[.int .i64 y, .slice (some ⟨g, 0, none⟩) n gcap, .int .i64 root]) (by simp [results, Try.results84, go_sem, u0, u1, u2]) rfl ⟨_, _, _, _, _, p2 + 1 + 1, rfl, HSV.out, HSR.out, by omega, HDN.out.2.1, by omega, HDN.out.2.2.1, HDN.out.2.2.2⟩
  have hx0n : ¬ x = 0 := hxv
  clear hxv
  by_cases hxv : x = 1
  · subst hxv
    have HLC := hideN (litB_cells w4 [-1, (n : Int) + 2, 0] 3)
    have hRd5 : Rd (w4.alloc (.cells ([-1, (n : Int) + 2, 0].map (Value.int .i64)).toArray 3)) R v bs (p2 + 1) := HS4.out.rd.grown (World.grownBy_alloc w4 _ none) (by simp) (by simp)
    have HOC := hideN (oneB_any R v bs (p2 + 1) w4.heap.size 0 3 3 [-1, (n : Int) + 2, 0] _ hRd5 (by omega) rfl (by decide) (by decide) (by have := HS4.out.rd.lt; omega) HLC.out)
    have HS5 := hideN (HS4.out.below (belOne w4 (.cells ([-1, (n : Int) + 2, 0].map (Value.int .i64)).toArray 3)))
    clear hRd5 HLC
    go_wp2_with fail
    refine HOC.out.mono ?_
    rintro e w6 ⟨y, rfl, hmem, hrd6, hg6, hs6⟩
    have hym : Sm y := by
      simp only [List.mem_cons, List.not_mem_nil, or_false] at hmem
      rcases hmem with rfl | rfl | rfl
      · exact ⟨by omega, by omega⟩
      · exact ⟨by omega, by omega⟩
      · exact ⟨by omega, by omega⟩
    have HS6 := hideN (HS5.out.pick hRlt hrd6 hg6)
    have HS7 := hideN (HS6.out.setR hRlt HV0.out hym)
    clear HOC hmem hrd6 hg6 hs6 b0 b1 b2 b3 f0 f1 f2 HS4 HS5
    have b0 := HS6.out.b.c0
    have b1 := HS6.out.b.c1
    have b2 := HS6.out.b.c2
    have b3 := HS6.out.b.lt
    have f0 := HS6.out.b.f 0
    have f1 := HS6.out.b.f 1
    have f2 := HS6.out.b.f 2
    go_upto_region 19 with fail
    obtain ⟨V7, hV7⟩ : ∃ V7, V7 = w6.setCell ⟨B, 2, none⟩ (.int .i64 y) := ⟨_, rfl⟩
    rw [← hV7] at HS7 ⊢
    clear hV7 b0 b1 b2 b3 f0 f1 f2 HS6
    have HQ := hideN HS7.out.q
    have HDN := hideN (HS7.out.done hRlt HV0.out)
    have HSV := hideN HS7.out.sv
    have HSR := hideN HS7.out.sr
    have b0 := HS7.out.b.c0
    have b1 := HS7.out.b.c1
    have b2 := HS7.out.b.c2
    have b3 := HS7.out.b.lt
    have m0 := HQ.out.c0
    have m1 := HQ.out.c1
    have m2 := HQ.out.c2
    have m3 := HQ.out.f 0
    have m4 := HQ.out.f 1
    have m5 := HQ.out.f 2
    have m6 := HQ.out.lt
    go_wp2
    have u0 := (HDN.out.1).c0
    have u1 := (HDN.out.1).c1
    have u2 := (HDN.out.1).c2
    unfold set3 at u0 u1 u2
    exact bodyPost_ret (v := .agg #[.int .i64 vi, .slice (some ⟨g, 0, none⟩) n gcap, .int .i64 y]) (by simp [results, Try.results84, go_sem, u0, u1, u2]) rfl ⟨_, _, _, _, _, p2 + 1 + 1, rfl, HSV.out, HSR.out, by omega, HDN.out.2.1, by omega, HDN.out.2.2.1, HDN.out.2.2.2⟩
  have hx1n : ¬ x = 1 := hxv
  clear hxv
  by_cases hxv : x = 2
  · subst hxv
    by_cases hn0 : 0 < n
    · have hni : (0 : Int) < (n : Int) := by omega
      go_wp2_with fail
      refine (pick_any R v bs (p2 + 1) _ _ HS4.out.rd (by omega) (by omega)).mono ?_
      rintro e w5 ⟨kk, rfl, hk0, hk1, hk2, hrd5, hg5, hs5⟩
      have hkn : kk < n := hk1 (by omega)
      obtain ⟨k, rfl⟩ : ∃ k : Nat, kk = (k : Int) := ⟨kk.toNat, by omega⟩
      have hkn2 : k < n := by omega
      have HS5 := hideN (HS4.out.pick hRlt hrd5 hg5)
      clear hrd5 hg5 hs5 hk1 hk2 HS4 b0 b1 b2 b3 f0 f1 f2
      obtain ⟨yy, hyy, cy, fy⟩ := HS5.out.row.cell (i := k * 3 + 2) (by omega)
      obtain ⟨y1, hy1, cy1, fy1⟩ := HS5.out.row.cell (i := k * 3 + 1) (by omega)
      have hgle : n ≤ gcap := by obtain ⟨ao', cap', he, h, _⟩ := HS5.out.row.form; injection he with e1 e2 e3; omega
      have HCL : Hid (∀ V, Below w5.heap.size w5 V → V.cell? ⟨B, 1, none⟩ = some (.slice (some ⟨g, 0, none⟩) n gcap) ∧ V.cell? ⟨g, k * 3 + 2, none⟩ = some (.int .i64 yy)) := fun V hV => ⟨(HS5.out.b.below hV).c1, (hV.cell (cell_lt cy)).trans cy⟩
      have HCY := hideN cy
      have HFY := hideN fy1
      have HCY1 := hideN cy1
      clear cy fy cy1 fy1
      go_wp2_with fail
      obtain ⟨z1, z2⟩ := HCL.out w5.drew (below_drewN (Below.refl _ _) 1)
      refine region_U (fin := 12) (S := fun V => V.cell? ⟨B, 1, none⟩ = some (.slice (some ⟨g, 0, none⟩) n gcap) ∧ V.cell? ⟨g, k * 3 + 2, none⟩ = some (.int .i64 yy)) (by kernel_rfl) ⟨z1, z2⟩ (fun hHeld => ?_)
      clear hHeld
      refine takeU (i := 0) (v := .pointer (some ⟨B, 1, none⟩)) rfl (by rfl) (by kernel_rfl) (by kernel_rfl) (by kernel_rfl) (by kernel_rfl) (by kernel_rfl) (fun _ _ _ h => h) (Or.inl ⟨by rfl, fun w hS => by obtain ⟨z1, z2⟩ := hS; go_simp⟩) ⟨z1, z2⟩ ?_
      simp only [List.getElem_toArray, List.getElem_cons_zero, Act.put, List.setIfInBounds_toArray, List.set_cons_zero, List.set_cons_succ]
      refine takeU (i := 1) (v := .slice (some ⟨g, 0, none⟩) n gcap) rfl (by rfl) (by kernel_rfl) (by kernel_rfl) (by kernel_rfl) (by kernel_rfl) (by kernel_rfl) (fun _ _ _ h => h) (Or.inl ⟨by rfl, fun w hS => by obtain ⟨z1, z2⟩ := hS; go_simp⟩) ⟨z1, z2⟩ ?_
      simp only [List.getElem_toArray, List.getElem_cons_zero, List.getElem_cons_succ, Act.put, List.setIfInBounds_toArray, List.set_cons_zero, List.set_cons_succ]
      refine takeU (i := 2) (v := .int .i64 (k : Int)) rfl (by rfl) (by kernel_rfl) (by kernel_rfl) (by kernel_rfl) (by kernel_rfl) (by kernel_rfl) (fun _ _ _ h => h) (Or.inl ⟨by rfl, fun w hS => by obtain ⟨z1, z2⟩ := hS; go_simp⟩) ⟨z1, z2⟩ ?_
      simp only [List.getElem_toArray, List.getElem_cons_zero, List.getElem_cons_succ, Act.put, List.setIfInBounds_toArray, List.set_cons_zero, List.set_cons_succ]
      refine takeU (i := 3) (v := .pointer (some ⟨R, 0, none⟩)) rfl (by rfl) (by kernel_rfl) (by kernel_rfl) (by kernel_rfl) (by kernel_rfl) (by kernel_rfl) (fun _ _ _ h => h) (Or.inl ⟨by rfl, fun w hS => by obtain ⟨z1, z2⟩ := hS; go_simp⟩) ⟨z1, z2⟩ ?_
      simp only [List.getElem_toArray, List.getElem_cons_zero, List.getElem_cons_succ, Act.put, List.setIfInBounds_toArray, List.set_cons_zero, List.set_cons_succ]
      refine takeU (i := 4) (v := .pointer (some ⟨B, 1, none⟩)) rfl (by rfl) (by kernel_rfl) (by kernel_rfl) (by kernel_rfl) (by kernel_rfl) (by kernel_rfl) (fun _ _ _ h => h) (Or.inl ⟨by rfl, fun w hS => by obtain ⟨z1, z2⟩ := hS; go_simp⟩) ⟨z1, z2⟩ ?_
      simp only [List.getElem_toArray, List.getElem_cons_zero, List.getElem_cons_succ, Act.put, List.setIfInBounds_toArray, List.set_cons_zero, List.set_cons_succ]
      refine takeU (i := 5) (v := .slice (some ⟨g, 0, none⟩) n gcap) rfl (by rfl) (by kernel_rfl) (by kernel_rfl) (by kernel_rfl) (by kernel_rfl) (by kernel_rfl) (fun _ _ _ h => h) (Or.inl ⟨by rfl, fun w hS => by obtain ⟨z1, z2⟩ := hS; go_simp⟩) ⟨z1, z2⟩ ?_
      simp only [List.getElem_toArray, List.getElem_cons_zero, List.getElem_cons_succ, Act.put, List.setIfInBounds_toArray, List.set_cons_zero, List.set_cons_succ]
      refine takeU (i := 6) (v := .int .i64 (k : Int)) rfl (by rfl) (by kernel_rfl) (by kernel_rfl) (by kernel_rfl) (by kernel_rfl) (by kernel_rfl) (fun _ _ _ h => h) (Or.inl ⟨by rfl, fun w hS => by obtain ⟨z1, z2⟩ := hS; go_simp⟩) ⟨z1, z2⟩ ?_
      simp only [List.getElem_toArray, List.getElem_cons_zero, List.getElem_cons_succ, Act.put, List.setIfInBounds_toArray, List.set_cons_zero, List.set_cons_succ]
      refine takeU (i := 7) (v := .pointer (some ⟨g, k * 3, none⟩)) rfl (by rfl) (by kernel_rfl) (by kernel_rfl) (by kernel_rfl) (by kernel_rfl) (by kernel_rfl) (fun _ _ _ h => h) (Or.inl ⟨by rfl, fun w hS => by obtain ⟨z1, z2⟩ := hS; go_simp⟩) ⟨z1, z2⟩ ?_
      simp only [List.getElem_toArray, List.getElem_cons_zero, List.getElem_cons_succ, Act.put, List.setIfInBounds_toArray, List.set_cons_zero, List.set_cons_succ]
      refine takeU (i := 8) (v := .pointer (some ⟨g, k * 3 + 2, none⟩)) rfl (by rfl) (by kernel_rfl) (by kernel_rfl) (by kernel_rfl) (by kernel_rfl) (by kernel_rfl) (fun _ _ _ h => h) (Or.inl ⟨by rfl, fun w hS => by obtain ⟨z1, z2⟩ := hS; go_simp⟩) ⟨z1, z2⟩ ?_
      simp only [List.getElem_toArray, List.getElem_cons_zero, List.getElem_cons_succ, Act.put, List.setIfInBounds_toArray, List.set_cons_zero, List.set_cons_succ]
      refine takeU (i := 9) (v := .int .i64 yy) rfl (by rfl) (by kernel_rfl) (by kernel_rfl) (by kernel_rfl) (by kernel_rfl) (by kernel_rfl) (fun _ _ _ h => h) (Or.inl ⟨by rfl, fun w hS => by obtain ⟨z1, z2⟩ := hS; go_simp⟩) ⟨z1, z2⟩ ?_
      simp only [List.getElem_toArray, List.getElem_cons_zero, List.getElem_cons_succ, Act.put, List.setIfInBounds_toArray, List.set_cons_zero, List.set_cons_succ]
      obtain ⟨q1, q2⟩ := HCL.out (w5.alloc (.cells #[.int .i64 yy, .int .i64 (-1), .int .i64 99, .int .i64 0] 3)) (belOne _ _)
      refine oneU (i := 10) (by kernel_rfl) rfl (by rfl) ?_
      simp only [List.getElem_toArray, List.getElem_cons_zero, List.getElem_cons_succ]
      go_simp
      have hb56 : Below w5.heap.size w5 (w5.alloc (.cells #[.int .i64 yy, .int .i64 (-1), .int .i64 99, .int .i64 0] 3)).drew := belNext (belOne _ _) (below_drewN (Below.refl _ _) 1)
      have HS5b := hideN (HS5.out.below hb56)
      have HLC := hideN (litB_cells w5 [yy, -1, 99, 0] 3)
      obtain ⟨z1, z2⟩ := HCL.out _ hb56
      refine oneU (i := 11) (by kernel_rfl) rfl (by rfl) ?_
      simp only [List.getElem_toArray, List.getElem_cons_zero, List.getElem_cons_succ]
      go_simp
      refine (oneB_any R v bs (p2 + 1 + 1) w5.heap.size 0 4 4 [yy, -1, 99, 0] (w5.alloc (.cells #[.int .i64 yy, .int .i64 (-1), .int .i64 99, .int .i64 0] 3)).drew HS5b.out.rd (by omega) rfl (by decide) (by decide) (by have := HS5.out.rd.lt; omega) HLC.out).mono ?_
      rintro e w6 ⟨y, rfl, hmem, hrd6, hg6, hs6⟩
      have hym : Sm y := by
        have hyl := hyy.1
        have hyh := hyy.2
        simp only [List.mem_cons, List.not_mem_nil, or_false] at hmem
        rcases hmem with rfl | rfl | rfl | rfl
        · exact ⟨by omega, by omega⟩
        · exact ⟨by omega, by omega⟩
        · exact ⟨by omega, by omega⟩
        · exact ⟨by omega, by omega⟩
      have HS6 := hideN (HS5b.out.pick hRlt hrd6 hg6)
      obtain ⟨y1b, hy1b, cy1, fy1⟩ := HS6.out.row.cell (i := k * 3 + 1) (by omega)
      have hgl6 := (HS6.out.row.blk g rfl).2
      have zz1 : w6.cell? ⟨B, 1, none⟩ = some (.slice (some ⟨g, 0, none⟩) n gcap) := HS6.out.b.c1
      have zz2 : w6.cell? ⟨g, k * 3 + 2, none⟩ = some (.int .i64 yy) := hg6.cell z2 (fun e => by have h1 : g = R := Option.some.inj e; omega)
      refine ⟨⟨zz1, zz2⟩, ?_⟩
      have HS7 := hideN (HS6.out.setC hRlt HV0.out hym (i := k * 3 + 1))
      clear hmem hrd6 hg6 hs6 z1 z2 q1 q2 HS5b HLC hb56 HCL HCY HFY HCY1
      refine oneU (i := 12) (by kernel_rfl) rfl (by rfl) ?_
      simp only [List.getElem_toArray, List.getElem_cons_zero, List.getElem_cons_succ]
      go_simp
      refine oneU (i := 13) (by kernel_rfl) rfl (by rfl) ?_
      simp only [List.getElem_toArray, List.getElem_cons_zero, List.getElem_cons_succ]
      go_simp
      refine oneU (i := 14) (by kernel_rfl) rfl (by rfl) ?_
      simp only [List.getElem_toArray, List.getElem_cons_zero, List.getElem_cons_succ]
      go_simp
      refine doneU (by kernel_rfl) ?_ _
      clear cy1 fy1 zz2
      have b0 := HS6.out.b.c0
      have b1 := HS6.out.b.c1
      have b2 := HS6.out.b.c2
      have b3 := HS6.out.b.lt
      have f0 := HS6.out.b.f 0
      have f1 := HS6.out.b.f 1
      have f2 := HS6.out.b.f 2
      go_upto_region 19 with fail
      obtain ⟨V7, hV7⟩ : ∃ V7, V7 = w6.setCell ⟨g, k * 3 + 1, none⟩ (.int .i64 y) := ⟨_, rfl⟩
      rw [← hV7] at HS7 ⊢
      clear hV7 b0 b1 b2 b3 f0 f1 f2 HS6 zz1
      have HQ := hideN HS7.out.q
      have HDN := hideN (HS7.out.done hRlt HV0.out)
      have HSV := hideN HS7.out.sv
      have HSR := hideN HS7.out.sr
      have b0 := HS7.out.b.c0
      have b1 := HS7.out.b.c1
      have b2 := HS7.out.b.c2
      have b3 := HS7.out.b.lt
      have m0 := HQ.out.c0
      have m1 := HQ.out.c1
      have m2 := HQ.out.c2
      have m3 := HQ.out.f 0
      have m4 := HQ.out.f 1
      have m5 := HQ.out.f 2
      have m6 := HQ.out.lt
      go_wp2
      have u0 := (HDN.out.1).c0
      have u1 := (HDN.out.1).c1
      have u2 := (HDN.out.1).c2
      unfold set3 at u0 u1 u2
      exact bodyPost_ret (v := .agg #[.int .i64 vi, .slice (some ⟨g, 0, none⟩) n gcap, .int .i64 root]) (by simp [results, Try.results84, go_sem, u0, u1, u2]) rfl ⟨_, _, _, _, _, p2 + 1 + 1 + 1, rfl, HSV.out, HSR.out, by omega, HDN.out.2.1, by omega, HDN.out.2.2.1, HDN.out.2.2.2⟩
    · have hni : ¬ (0 : Int) < (n : Int) := by omega
      go_upto_region 19 with fail
      clear b0 b1 b2 b3 f0 f1 f2
      have HQ := hideN HS4.out.q
      have HDN := hideN (HS4.out.done hRlt HV0.out)
      have HSV := hideN HS4.out.sv
      have HSR := hideN HS4.out.sr
      have b0 := HS4.out.b.c0
      have b1 := HS4.out.b.c1
      have b2 := HS4.out.b.c2
      have b3 := HS4.out.b.lt
      have m0 := HQ.out.c0
      have m1 := HQ.out.c1
      have m2 := HQ.out.c2
      have m3 := HQ.out.f 0
      have m4 := HQ.out.f 1
      have m5 := HQ.out.f 2
      have m6 := HQ.out.lt
      go_wp2
      have u0 := (HDN.out.1).c0
      have u1 := (HDN.out.1).c1
      have u2 := (HDN.out.1).c2
      unfold set3 at u0 u1 u2
      exact bodyPost_ret (v := .agg #[.int .i64 vi, .slice (some ⟨g, 0, none⟩) n gcap, .int .i64 root]) (by simp [results, Try.results84, go_sem, u0, u1, u2]) rfl ⟨_, _, _, _, _, p2 + 1, rfl, HSV.out, HSR.out, by omega, HDN.out.2.1, by omega, HDN.out.2.2.1, HDN.out.2.2.2⟩
  have hx2n : ¬ x = 2 := hxv
  clear hxv
  by_cases hxv : x = 3
  · subst hxv
    have hb45 := belOne w4 (.cells #[.int .i64 0, .int .i64 0, .int .i64 1] 50)
    have HS5 := hideN (HS4.out.below hb45)
    have HLC := hideN (litB_cells w4 [0, 0, 1] 50)
    have HX : Hid (∃ L : List Int, L.length = 1 * 3 ∧ (∀ x ∈ L, Sm x) ∧ (0 < 1 → ∃ b off, (some ⟨w4.heap.size, 0, none⟩ : Option Addr) = some ⟨b, off, none⟩ ∧ ∀ i, i < 1 * 3 → (w4.alloc (.cells #[.int .i64 0, .int .i64 0, .int .i64 1] 50)).cell? ⟨b, off + i, none⟩ = some (.int .i64 (L.getD i 0)))) :=
      ⟨[0, 0, 1], rfl, fun x hx => by
        simp only [List.mem_cons, List.not_mem_nil, or_false] at hx
        rcases hx with rfl | rfl | rfl
        · exact ⟨by omega, by omega⟩
        · exact ⟨by omega, by omega⟩
        · exact ⟨by omega, by omega⟩, fun _ => ⟨w4.heap.size, 0, rfl, HLC.out⟩⟩
    have hgl4 := (HS4.out.row.blk g rfl).2
    have hnbg : g ≠ B := HS4.out.nb g rfl
    go_upto_region 19 with (at_builtin; refine wpList_nodes rfl _ _ rfl (w.heap.size + 1) n 1 1 g gcap (some ⟨w4.heap.size, 0, none⟩) rfl rfl HS5.out.row HX.out (by omega) ?_; intro g2 gcap2 w6 ho6 hg6 hat6 hlt6; have hb6 : BlkD w6 B (.int .i64 vi) (.slice (some ⟨g, 0, none⟩) n gcap) (.int .i64 root) := (hg6.block _ HS5.out.b.lt (fun e => by have h1 : g = B := Option.some.inj e.symm; omega)).trans HS5.out.b; have d0 := hb6.c0; have d1 := hb6.c1; have d2 := hb6.f 1; have d3 := hb6.lt)
    have HS7 := hideN (HS5.out.setN hRlt HV0.out hg6 (fun k e => by have h1 : g = k := Option.some.inj e; omega) ho6 (by rcases hat6 with h | h; omega; rw [h, World.size_alloc]; omega))
    have hg2b : w.heap.size + 1 ≤ g2 := (ho6.blk g2 rfl).1
    obtain ⟨V7, hV7⟩ : ∃ V7, V7 = w6.setCell ⟨B, 1, none⟩ (.slice (some ⟨g2, 0, none⟩) (n + 1) gcap2) := ⟨_, rfl⟩
    try rw [← hV7]
    rw [← hV7] at HS7
    clear hV7 d0 d1 d2 d3 b0 b1 b2 b3 f0 f1 f2 hb6 ho6 hg6 hat6 hlt6 HX HLC hb45 HS5
    have HQ := hideN HS7.out.q
    have HDN := hideN (HS7.out.done hRlt HV0.out)
    have HSV := hideN HS7.out.sv
    have HSR := hideN HS7.out.sr
    have b0 := HS7.out.b.c0
    have b1 := HS7.out.b.c1
    have b2 := HS7.out.b.c2
    have b3 := HS7.out.b.lt
    have m0 := HQ.out.c0
    have m1 := HQ.out.c1
    have m2 := HQ.out.c2
    have m3 := HQ.out.f 0
    have m4 := HQ.out.f 1
    have m5 := HQ.out.f 2
    have m6 := HQ.out.lt
    go_wp2
    have u0 := (HDN.out.1).c0
    have u1 := (HDN.out.1).c1
    have u2 := (HDN.out.1).c2
    unfold set3 at u0 u1 u2
    exact bodyPost_ret (v := .agg #[.int .i64 vi, .slice (some ⟨g2, 0, none⟩) (n + 1) gcap2, .int .i64 root]) (by simp [results, Try.results84, go_sem, u0, u1, u2]) rfl ⟨_, _, _, _, _, p2 + 1, rfl, HSV.out, HSR.out, by omega, HDN.out.2.1, by omega, HDN.out.2.2.1, HDN.out.2.2.2⟩
  have hx3n : ¬ x = 3 := hxv
  clear hxv
  by_cases hxv : x = 4
  · subst hxv
    by_cases hn1 : 1 < n
    · have hni : (1 : Int) < (n : Int) := by omega
      obtain ⟨x0, hm0, k0, l0⟩ := HS4.out.row.cell (i := 0) (by omega)
      obtain ⟨x1, hm1, k1, l1⟩ := HS4.out.row.cell (i := 1) (by omega)
      obtain ⟨x2, hm2, k2, l2⟩ := HS4.out.row.cell (i := 2) (by omega)
      obtain ⟨x3, hm3, k3, l3⟩ := HS4.out.row.cell (i := 3) (by omega)
      obtain ⟨x4, hm4, k4, l4⟩ := HS4.out.row.cell (i := 4) (by omega)
      obtain ⟨x5, hm5, k5, l5⟩ := HS4.out.row.cell (i := 5) (by omega)
      have hgl4 := (HS4.out.row.blk g rfl).2
      have hnbg : g ≠ B := HS4.out.nb g rfl
      go_upto_region 17 with fail
      have hb45 : Below w4.heap.size w4 (w4.alloc (.cells #[.int .i64 x0, .int .i64 x1, .int .i64 x2] 50)).drew := belNext (belOne _ _) (below_drewN (Below.refl _ _) 1)
      have HS6 := hideN ((((((HS4.out.setC hRlt HV0.out hm3 (i := 0)).setC hRlt HV0.out hm4 (i := 1)).setC hRlt HV0.out hm5 (i := 2)).setC hRlt HV0.out hm0 (i := 3)).setC hRlt HV0.out hm1 (i := 4)).setC hRlt HV0.out hm2 (i := 5))
      have HS7 := hideN (HS6.out.below (belNext (belOne _ (.cells #[.int .i64 x0, .int .i64 x1, .int .i64 x2] 50)) (below_drewN (Below.refl _ _) 1)))
      have HCL : Hid (∀ V, Below w4.heap.size w4 V → V.cell? ⟨B, 1, none⟩ = some (.slice (some ⟨g, 0, none⟩) n gcap) ∧ V.cell? ⟨g, 3, none⟩ = some (.int .i64 x3) ∧ V.cell? ⟨g, 4, none⟩ = some (.int .i64 x4) ∧ V.cell? ⟨g, 5, none⟩ = some (.int .i64 x5)) := fun V hV => ⟨(HS4.out.b.below hV).c1, (hV.cell (cell_lt k3)).trans k3, (hV.cell (cell_lt k4)).trans k4, (hV.cell (cell_lt k5)).trans k5⟩
      obtain ⟨z1, z2, z3, z4⟩ := HCL.out _ hb45
      have hgle : n ≤ gcap := by obtain ⟨ao', cap', he, h, _⟩ := HS4.out.row.form; injection he with e1 e2 e3; omega
      refine region_U (fin := 6) (S := fun V => V.cell? ⟨B, 1, none⟩ = some (.slice (some ⟨g, 0, none⟩) n gcap) ∧ V.cell? ⟨g, 3, none⟩ = some (.int .i64 x3) ∧ V.cell? ⟨g, 4, none⟩ = some (.int .i64 x4) ∧ V.cell? ⟨g, 5, none⟩ = some (.int .i64 x5)) (by kernel_rfl) ⟨z1, z2, z3, z4⟩ (fun hHeld => ?_)
      clear hHeld
      refine takeU (i := 0) (v := .pointer (some ⟨B, 1, none⟩)) rfl (by rfl) (by kernel_rfl) (by kernel_rfl) (by kernel_rfl) (by kernel_rfl) (by kernel_rfl) (fun _ _ _ h => h) (Or.inl ⟨by rfl, fun w hS => by obtain ⟨z1, z2, z3, z4⟩ := hS; go_simp⟩) ⟨z1, z2, z3, z4⟩ ?_
      simp only [List.getElem_toArray, List.getElem_cons_zero, Act.put, List.setIfInBounds_toArray, List.set_cons_zero, List.set_cons_succ]
      refine takeU (i := 1) (v := .slice (some ⟨g, 0, none⟩) n gcap) rfl (by rfl) (by kernel_rfl) (by kernel_rfl) (by kernel_rfl) (by kernel_rfl) (by kernel_rfl) (fun _ _ _ h => h) (Or.inl ⟨by rfl, fun w hS => by obtain ⟨z1, z2, z3, z4⟩ := hS; go_simp⟩) ⟨z1, z2, z3, z4⟩ ?_
      simp only [List.getElem_toArray, List.getElem_cons_zero, List.getElem_cons_succ, Act.put, List.setIfInBounds_toArray, List.set_cons_zero, List.set_cons_succ]
      refine takeU (i := 2) (v := .pointer (some ⟨B, 1, none⟩)) rfl (by rfl) (by kernel_rfl) (by kernel_rfl) (by kernel_rfl) (by kernel_rfl) (by kernel_rfl) (fun _ _ _ h => h) (Or.inl ⟨by rfl, fun w hS => by obtain ⟨z1, z2, z3, z4⟩ := hS; go_simp⟩) ⟨z1, z2, z3, z4⟩ ?_
      simp only [List.getElem_toArray, List.getElem_cons_zero, List.getElem_cons_succ, Act.put, List.setIfInBounds_toArray, List.set_cons_zero, List.set_cons_succ]
      refine takeU (i := 3) (v := .slice (some ⟨g, 0, none⟩) n gcap) rfl (by rfl) (by kernel_rfl) (by kernel_rfl) (by kernel_rfl) (by kernel_rfl) (by kernel_rfl) (fun _ _ _ h => h) (Or.inl ⟨by rfl, fun w hS => by obtain ⟨z1, z2, z3, z4⟩ := hS; go_simp⟩) ⟨z1, z2, z3, z4⟩ ?_
      simp only [List.getElem_toArray, List.getElem_cons_zero, List.getElem_cons_succ, Act.put, List.setIfInBounds_toArray, List.set_cons_zero, List.set_cons_succ]
      refine takeU (i := 4) (v := .pointer (some ⟨g, 3, none⟩)) rfl (by rfl) (by kernel_rfl) (by kernel_rfl) (by kernel_rfl) (by kernel_rfl) (by kernel_rfl) (fun _ _ _ h => h) (Or.inl ⟨by rfl, fun w hS => by obtain ⟨z1, z2, z3, z4⟩ := hS; go_simp⟩) ⟨z1, z2, z3, z4⟩ ?_
      simp only [List.getElem_toArray, List.getElem_cons_zero, List.getElem_cons_succ, Act.put, List.setIfInBounds_toArray, List.set_cons_zero, List.set_cons_succ]
      refine takeU (i := 5) (v := .agg #[.int .i64 x3, .int .i64 x4, .int .i64 x5]) rfl (by rfl) (by kernel_rfl) (by kernel_rfl) (by kernel_rfl) (by kernel_rfl) (by kernel_rfl) (fun _ _ _ h => h) (Or.inl ⟨by rfl, fun w hS => by obtain ⟨z1, z2, z3, z4⟩ := hS; go_simp⟩) ⟨z1, z2, z3, z4⟩ ?_
      simp only [List.getElem_toArray, List.getElem_cons_zero, List.getElem_cons_succ, Act.put, List.setIfInBounds_toArray, List.set_cons_zero, List.set_cons_succ]
      have hn0 : 0 < n := by omega
      have hn0i : (0 : Int) < (n : Int) := by omega
      refine oneU (i := 6) (by kernel_rfl) rfl (by rfl) ?_
      simp only [List.getElem_toArray, List.getElem_cons_zero, List.getElem_cons_succ]
      go_simp
      refine oneU (i := 7) (by kernel_rfl) rfl (by rfl) ?_
      simp only [List.getElem_toArray, List.getElem_cons_zero, List.getElem_cons_succ]
      go_simp
      refine doneU (by kernel_rfl) ?_ _
      clear z1 z2 z3 z4 HCL
      go_upto_region 19 with fail
      obtain ⟨V7, hV7⟩ : ∃ V7, V7 = (((((((w4.setCell ⟨g, 0, none⟩ (.int .i64 x3)).setCell ⟨g, 1, none⟩ (.int .i64 x4)).setCell ⟨g, 2, none⟩ (.int .i64 x5)).setCell ⟨g, 3, none⟩ (.int .i64 x0)).setCell ⟨g, 4, none⟩ (.int .i64 x1)).setCell ⟨g, 5, none⟩ (.int .i64 x2)).alloc (.cells #[.int .i64 x0, .int .i64 x1, .int .i64 x2] 50)).drew := ⟨_, rfl⟩
      rw [← hV7]
      have HS7 : Hid (StB w V7 B R v bs (p2 + 1) vi root (some ⟨g, 0, none⟩) n gcap) := by rw [hV7]; exact HS7.out
      clear hV7 b0 b1 b2 b3 f0 f1 f2 HS6 k0 k1 k2 k3 k4 k5 l0 l1 l2 l3 l4 l5
      have HQ := hideN HS7.out.q
      have HDN := hideN (HS7.out.done hRlt HV0.out)
      have HSV := hideN HS7.out.sv
      have HSR := hideN HS7.out.sr
      have b0 := HS7.out.b.c0
      have b1 := HS7.out.b.c1
      have b2 := HS7.out.b.c2
      have b3 := HS7.out.b.lt
      have m0 := HQ.out.c0
      have m1 := HQ.out.c1
      have m2 := HQ.out.c2
      have m3 := HQ.out.f 0
      have m4 := HQ.out.f 1
      have m5 := HQ.out.f 2
      have m6 := HQ.out.lt
      go_wp2
      have u0 := (HDN.out.1).c0
      have u1 := (HDN.out.1).c1
      have u2 := (HDN.out.1).c2
      unfold set3 at u0 u1 u2
      exact bodyPost_ret (v := .agg #[.int .i64 vi, .slice (some ⟨g, 0, none⟩) n gcap, .int .i64 root]) (by simp [results, Try.results84, go_sem, u0, u1, u2]) rfl ⟨_, _, _, _, _, p2 + 1, rfl, HSV.out, HSR.out, by omega, HDN.out.2.1, by omega, HDN.out.2.2.1, HDN.out.2.2.2⟩
    · have hni : ¬ (1 : Int) < (n : Int) := by omega
      go_upto_region 19 with fail
      clear b0 b1 b2 b3 f0 f1 f2
      have HQ := hideN HS4.out.q
      have HDN := hideN (HS4.out.done hRlt HV0.out)
      have HSV := hideN HS4.out.sv
      have HSR := hideN HS4.out.sr
      have b0 := HS4.out.b.c0
      have b1 := HS4.out.b.c1
      have b2 := HS4.out.b.c2
      have b3 := HS4.out.b.lt
      have m0 := HQ.out.c0
      have m1 := HQ.out.c1
      have m2 := HQ.out.c2
      have m3 := HQ.out.f 0
      have m4 := HQ.out.f 1
      have m5 := HQ.out.f 2
      have m6 := HQ.out.lt
      go_wp2
      have u0 := (HDN.out.1).c0
      have u1 := (HDN.out.1).c1
      have u2 := (HDN.out.1).c2
      unfold set3 at u0 u1 u2
      exact bodyPost_ret (v := .agg #[.int .i64 vi, .slice (some ⟨g, 0, none⟩) n gcap, .int .i64 root]) (by simp [results, Try.results84, go_sem, u0, u1, u2]) rfl ⟨_, _, _, _, _, p2 + 1, rfl, HSV.out, HSR.out, by omega, HDN.out.2.1, by omega, HDN.out.2.2.1, HDN.out.2.2.2⟩
  have hx4n : ¬ x = 4 := hxv
  clear hxv
  go_upto_region 19 with fail
  clear b0 b1 b2 b3 f0 f1 f2
  have HQ := hideN HS4.out.q
  have HDN := hideN (HS4.out.done hRlt HV0.out)
  have HSV := hideN HS4.out.sv
  have HSR := hideN HS4.out.sr
  have b0 := HS4.out.b.c0
  have b1 := HS4.out.b.c1
  have b2 := HS4.out.b.c2
  have b3 := HS4.out.b.lt
  have m0 := HQ.out.c0
  have m1 := HQ.out.c1
  have m2 := HQ.out.c2
  have m3 := HQ.out.f 0
  have m4 := HQ.out.f 1
  have m5 := HQ.out.f 2
  have m6 := HQ.out.lt
  go_wp2
  have u0 := (HDN.out.1).c0
  have u1 := (HDN.out.1).c1
  have u2 := (HDN.out.1).c2
  unfold set3 at u0 u1 u2
  exact bodyPost_ret (v := .agg #[.int .i64 vi, .slice (some ⟨g, 0, none⟩) n gcap, .int .i64 root]) (by simp [results, Try.results84, go_sem, u0, u1, u2]) rfl ⟨_, _, _, _, _, p2 + 1, rfl, HSV.out, HSR.out, by omega, HDN.out.2.1, by omega, HDN.out.2.2.1, HDN.out.2.2.2⟩

end Go.Proofs.Ytknpifjkllcdeaa

namespace Go.Proofs.Ytknpifjkllcdeaa
open Go.RowKit Go.Deep
set_option linter.unusedVariables false

attribute [local go_sem] Oper.semAt_some

theorem isBytes_below {w w' : World} {v : Value} {bs : List Int} (h : IsBytes w v bs) (hb : Below w.heap.size w w') : IsBytes w' v bs := by
  obtain ⟨ao, cap, hv, hc, hx, hy⟩ := h
  exact ⟨ao, cap, hv, hc, fun hne => by
    obtain ⟨b, off, ha, hcc⟩ := hx hne
    exact ⟨b, off, ha, fun i hi => (hb.cell (cell_lt (hcc i hi))).trans (hcc i hi)⟩, hy⟩

/-- A drawn diagram: small numbers, its nodes the call's own. -/
def DrawnB (w : World) (e : Ending) (w' : World) : Prop :=
  ∃ (vi root : Int) (ao : Option Addr) (n cap : Nat) (ns : List Nd), e = .returned (.agg #[.int .i64 vi, .slice ao n cap, .int .i64 root]) ∧ Sm vi ∧ Sm root ∧ n ≤ 80 ∧ ns.length = n ∧ (∀ q ∈ ns, SmN q) ∧ w'.ownsRow w.heap.size 50 3 (.slice ao n cap) n (ndV ns) ∧ Below w.heap.size w w'

theorem smN64 {q : Nd} (h : SmN q) : I64N q := by obtain ⟨⟨a, b⟩, ⟨c, d⟩, e, f⟩ := h; unfold I64N I64; omega
theorem sm64 {x : Int} (h : Sm x) : I64 x := by obtain ⟨a, b⟩ := h; unfold I64; omega

set_option maxRecDepth 100000 in
set_option maxHeartbeats 4000000 in
theorem drawBddFirst_any (v : Value) (bs : List Int) (w : World) (hv : IsBytes w v bs) (hn : bs.length ≤ 1048576) (hal : ∀ ao n cap b off, v = .slice ao n cap → ao = some ⟨b, off, none⟩ → b < w.heap.size) :
    Calls Try.prog 56 #[v] w (DrawnB w) := by
  obtain ⟨W1, hW1⟩ : ∃ W1, W1 = w.alloc (.cells #[.int .i64 0, .slice none 0 0, .int .i64 0] 25) := ⟨_, rfl⟩
  have HB1 : Hid (Below w.heap.size w W1) := by rw [hW1]; exact belOne _ _
  have HQ1 : Hid (BlkD W1 w.heap.size (.int .i64 0) (.slice none 0 0) (.int .i64 0)) := by rw [hW1]; exact BlkD.new _ _ _ _
  have HOP := hideN (l1Open_any w.heap.size v bs W1 (isBytes_below hv HB1.out) hn hal)
  have HW1 := hideN hW1
  obtain ⟨aoc, capc, rfl, _⟩ := hv
  clear hal hW1
  go_enter Try.func56, Try.ntmps56
  go_wp2_with fail
  rw [← HW1.out]
  refine HOP.out.mono ?_
  rintro e w2 ⟨v2, bs2, rfl, hrd2, hb2, hs2, hal2⟩
  have HAN := hideN (l13AnyBdd_any W1.heap.size v2 bs2 0 w2 hrd2 (fun ao n cap b off h1 h2 => by have := hal2 ao n cap b off h1 h2; have := HQ1.out.lt; omega) (by omega))
  have HQ2 := hideN (HQ1.out.below hb2)
  have HB2 := hideN (belNext HB1.out hb2)
  have hs12 : w.heap.size < W1.heap.size := HQ1.out.lt
  have hs22 : W1.heap.size < w2.heap.size := by omega
  clear hrd2 hb2 hs2 hal2
  go_wp2_with fail
  refine HAN.out.mono ?_
  rintro e w3 ⟨vi, root, ao, n, cap, p', rfl, hsv, hsr, hn80, hown, -, -, hold⟩
  have hQ3 : BlkD w3 w.heap.size (.int .i64 0) (.slice none 0 0) (.int .i64 0) := (hold.2.2.2.2 _ (by omega) (by omega)).trans HQ2.out
  have hB3 : Below w.heap.size w w3 := ⟨hold.1.trans HB2.out.os, hold.2.1.trans HB2.out.tape, hold.2.2.1.trans HB2.out.output, Nat.le_trans HB2.out.size hold.2.2.2.1, fun k hk => (hold.2.2.2.2 k (by omega) (by omega)).trans (HB2.out.block k hk)⟩
  have HQ3 := hideN (hQ3.set (.int .i64 vi) (.slice ao n cap) (.int .i64 root))
  have HBE := hideN (set3_below hB3 (Nat.le_refl _) (.int .i64 vi) (.slice ao n cap) (.int .i64 root))
  obtain ⟨ns, hnl, hsm, hrow⟩ := hown.nodes
  have HRZ : Hid ((set3 w3 w.heap.size (.int .i64 vi) (.slice ao n cap) (.int .i64 root)).ownsRow w.heap.size 50 3 (.slice ao n cap) n (ndV ns)) :=
    row_base (row_of_block hrow (fun k e => set3_other _ _ _ (by have := (World.ownsRow.lt hrow k e).1; omega))) (by omega)
  have HNL := hideN hnl
  have HSM := hideN hsm
  have m0 := hQ3.c0
  have m1 := hQ3.c1
  have m2 := hQ3.c2
  have m3 := hQ3.f 0
  have m4 := hQ3.f 1
  have m5 := hQ3.f 2
  have m6 := hQ3.lt
  clear hold hown hrow hB3 hQ3 hnl hsm
  go_wp2
  have u0 := HQ3.out.c0
  have u1 := HQ3.out.c1
  have u2 := HQ3.out.c2
  unfold set3 at u0 u1 u2
  exact bodyPost_ret (v := .agg #[.int .i64 vi, .slice ao n cap, .int .i64 root]) (by simp [results, Try.results56, go_sem, u0, u1, u2]) rfl ⟨vi, root, ao, n, cap, ns, rfl, hsv, hsr, hn80, HNL.out, HSM.out, HRZ.out, HBE.out⟩

set_option maxRecDepth 100000 in
set_option maxHeartbeats 4000000 in
theorem drawBddNot_any (v : Value) (bs : List Int) (w : World) (hv : IsBytes w v bs) (hn : bs.length ≤ 1048576) (hal : ∀ ao n cap b off, v = .slice ao n cap → ao = some ⟨b, off, none⟩ → b < w.heap.size) :
    Calls Try.prog 42 #[v] w (DrawnB w) := by
  obtain ⟨W1, hW1⟩ : ∃ W1, W1 = w.alloc (.cells #[.int .i64 0, .slice none 0 0, .int .i64 0] 25) := ⟨_, rfl⟩
  have HB1 : Hid (Below w.heap.size w W1) := by rw [hW1]; exact belOne _ _
  have HQ1 : Hid (BlkD W1 w.heap.size (.int .i64 0) (.slice none 0 0) (.int .i64 0)) := by rw [hW1]; exact BlkD.new _ _ _ _
  have HOP := hideN (l1Open_any w.heap.size v bs W1 (isBytes_below hv HB1.out) hn hal)
  have HW1 := hideN hW1
  obtain ⟨aoc, capc, rfl, _⟩ := hv
  clear hal hW1
  go_enter Try.func42, Try.ntmps42
  go_wp2_with fail
  rw [← HW1.out]
  refine HOP.out.mono ?_
  rintro e w2 ⟨v2, bs2, rfl, hrd2, hb2, hs2, hal2⟩
  have HAN := hideN (l13AnyBdd_any W1.heap.size v2 bs2 0 w2 hrd2 (fun ao n cap b off h1 h2 => by have := hal2 ao n cap b off h1 h2; have := HQ1.out.lt; omega) (by omega))
  have HQ2 := hideN (HQ1.out.below hb2)
  have HB2 := hideN (belNext HB1.out hb2)
  have hs12 : w.heap.size < W1.heap.size := HQ1.out.lt
  have hs22 : W1.heap.size < w2.heap.size := by omega
  clear hrd2 hb2 hs2 hal2
  go_wp2_with fail
  refine HAN.out.mono ?_
  rintro e w3 ⟨vi, root, ao, n, cap, p', rfl, hsv, hsr, hn80, hown, -, -, hold⟩
  have hQ3 : BlkD w3 w.heap.size (.int .i64 0) (.slice none 0 0) (.int .i64 0) := (hold.2.2.2.2 _ (by omega) (by omega)).trans HQ2.out
  have hB3 : Below w.heap.size w w3 := ⟨hold.1.trans HB2.out.os, hold.2.1.trans HB2.out.tape, hold.2.2.1.trans HB2.out.output, Nat.le_trans HB2.out.size hold.2.2.2.1, fun k hk => (hold.2.2.2.2 k (by omega) (by omega)).trans (HB2.out.block k hk)⟩
  have HQ3 := hideN (hQ3.set (.int .i64 vi) (.slice ao n cap) (.int .i64 root))
  have HBE := hideN (set3_below hB3 (Nat.le_refl _) (.int .i64 vi) (.slice ao n cap) (.int .i64 root))
  obtain ⟨ns, hnl, hsm, hrow⟩ := hown.nodes
  have HRZ : Hid ((set3 w3 w.heap.size (.int .i64 vi) (.slice ao n cap) (.int .i64 root)).ownsRow w.heap.size 50 3 (.slice ao n cap) n (ndV ns)) :=
    row_base (row_of_block hrow (fun k e => set3_other _ _ _ (by have := (World.ownsRow.lt hrow k e).1; omega))) (by omega)
  have HNL := hideN hnl
  have HSM := hideN hsm
  have m0 := hQ3.c0
  have m1 := hQ3.c1
  have m2 := hQ3.c2
  have m3 := hQ3.f 0
  have m4 := hQ3.f 1
  have m5 := hQ3.f 2
  have m6 := hQ3.lt
  clear hold hown hrow hB3 hQ3 hnl hsm
  go_wp2
  have u0 := HQ3.out.c0
  have u1 := HQ3.out.c1
  have u2 := HQ3.out.c2
  unfold set3 at u0 u1 u2
  exact bodyPost_ret (v := .agg #[.int .i64 vi, .slice ao n cap, .int .i64 root]) (by simp [results, Try.results42, go_sem, u0, u1, u2]) rfl ⟨vi, root, ao, n, cap, ns, rfl, hsv, hsr, hn80, HNL.out, HSM.out, HRZ.out, HBE.out⟩

set_option maxRecDepth 100000 in
set_option maxHeartbeats 4000000 in
theorem drawBddNeeds_any (v : Value) (bs : List Int) (w : World) (hv : IsBytes w v bs) (hn : bs.length ≤ 1048576) (hal : ∀ ao n cap b off, v = .slice ao n cap → ao = some ⟨b, off, none⟩ → b < w.heap.size) :
    Calls Try.prog 58 #[v] w (DrawnB w) := by
  obtain ⟨W1, hW1⟩ : ∃ W1, W1 = w.alloc (.cells #[.int .i64 0, .slice none 0 0, .int .i64 0] 25) := ⟨_, rfl⟩
  have HB1 : Hid (Below w.heap.size w W1) := by rw [hW1]; exact belOne _ _
  have HQ1 : Hid (BlkD W1 w.heap.size (.int .i64 0) (.slice none 0 0) (.int .i64 0)) := by rw [hW1]; exact BlkD.new _ _ _ _
  have HOP := hideN (l1Open_any w.heap.size v bs W1 (isBytes_below hv HB1.out) hn hal)
  have HW1 := hideN hW1
  obtain ⟨aoc, capc, rfl, _⟩ := hv
  clear hal hW1
  go_enter Try.func58, Try.ntmps58
  go_wp2_with fail
  rw [← HW1.out]
  refine HOP.out.mono ?_
  rintro e w2 ⟨v2, bs2, rfl, hrd2, hb2, hs2, hal2⟩
  have HAN := hideN (l13AnyBdd_any W1.heap.size v2 bs2 0 w2 hrd2 (fun ao n cap b off h1 h2 => by have := hal2 ao n cap b off h1 h2; have := HQ1.out.lt; omega) (by omega))
  have HQ2 := hideN (HQ1.out.below hb2)
  have HB2 := hideN (belNext HB1.out hb2)
  have hs12 : w.heap.size < W1.heap.size := HQ1.out.lt
  have hs22 : W1.heap.size < w2.heap.size := by omega
  clear hrd2 hb2 hs2 hal2
  go_wp2_with fail
  refine HAN.out.mono ?_
  rintro e w3 ⟨vi, root, ao, n, cap, p', rfl, hsv, hsr, hn80, hown, -, -, hold⟩
  have hQ3 : BlkD w3 w.heap.size (.int .i64 0) (.slice none 0 0) (.int .i64 0) := (hold.2.2.2.2 _ (by omega) (by omega)).trans HQ2.out
  have hB3 : Below w.heap.size w w3 := ⟨hold.1.trans HB2.out.os, hold.2.1.trans HB2.out.tape, hold.2.2.1.trans HB2.out.output, Nat.le_trans HB2.out.size hold.2.2.2.1, fun k hk => (hold.2.2.2.2 k (by omega) (by omega)).trans (HB2.out.block k hk)⟩
  have HQ3 := hideN (hQ3.set (.int .i64 vi) (.slice ao n cap) (.int .i64 root))
  have HBE := hideN (set3_below hB3 (Nat.le_refl _) (.int .i64 vi) (.slice ao n cap) (.int .i64 root))
  obtain ⟨ns, hnl, hsm, hrow⟩ := hown.nodes
  have HRZ : Hid ((set3 w3 w.heap.size (.int .i64 vi) (.slice ao n cap) (.int .i64 root)).ownsRow w.heap.size 50 3 (.slice ao n cap) n (ndV ns)) :=
    row_base (row_of_block hrow (fun k e => set3_other _ _ _ (by have := (World.ownsRow.lt hrow k e).1; omega))) (by omega)
  have HNL := hideN hnl
  have HSM := hideN hsm
  have m0 := hQ3.c0
  have m1 := hQ3.c1
  have m2 := hQ3.c2
  have m3 := hQ3.f 0
  have m4 := hQ3.f 1
  have m5 := hQ3.f 2
  have m6 := hQ3.lt
  clear hold hown hrow hB3 hQ3 hnl hsm
  go_wp2
  have u0 := HQ3.out.c0
  have u1 := HQ3.out.c1
  have u2 := HQ3.out.c2
  unfold set3 at u0 u1 u2
  exact bodyPost_ret (v := .agg #[.int .i64 vi, .slice ao n cap, .int .i64 root]) (by simp [results, Try.results58, go_sem, u0, u1, u2]) rfl ⟨vi, root, ao, n, cap, ns, rfl, hsv, hsr, hn80, HNL.out, HSM.out, HRZ.out, HBE.out⟩

end Go.Proofs.Ytknpifjkllcdeaa

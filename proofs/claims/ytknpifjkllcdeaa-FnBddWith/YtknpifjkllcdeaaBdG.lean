/-
  Diagrams: whether all of it goes on, by the program.
-/
import Derived.Test.YtknpifjkllcdeaaBdQ
import Derived.Test.YtknpifjkllcdeaaBdE
import Derived.Deep.QuietTactic
import Derived.BigQuiet
namespace Go.Proofs.Ytknpifjkllcdeaa
open Go.RowKit Go.Deep
set_option linter.unusedVariables false

attribute [local go_sem] Oper.semAt_some

/-- A number of 64 bits. -/
def I64 (x : Int) : Prop := -9223372036854775808 ≤ x ∧ x < 9223372036854775808
/-- A node of such numbers. -/
def I64N (p : Nd) : Prop := I64 p.1 ∧ I64 p.2.1 ∧ I64 p.2.2

/-- A slice of nodes in memory. -/
structure Nds (W : World) (ao : Option Addr) (n cap : Nat) (ns : List Nd) : Prop where
  len : ns.length = n
  le : n ≤ cap
  cells : 0 < n → ∃ b off, ao = some ⟨b, off, none⟩ ∧ ∀ i, i < n → W.cell? ⟨b, off + i * 3, none⟩ = some (.int .i64 (ns.getD i (0, 0, 0)).1) ∧ W.cell? ⟨b, off + i * 3 + 1, none⟩ = some (.int .i64 (ns.getD i (0, 0, 0)).2.1) ∧ W.cell? ⟨b, off + i * 3 + 2, none⟩ = some (.int .i64 (ns.getD i (0, 0, 0)).2.2)
theorem Nds.below {W W' : World} {ao : Option Addr} {n cap : Nat} {ns : List Nd} (h : Nds W ao n cap ns) (hb : Below W.heap.size W W') : Nds W' ao n cap ns := by
  refine ⟨h.len, h.le, fun hn => ?_⟩
  obtain ⟨b, off, e, hc⟩ := h.cells hn
  exact ⟨b, off, e, fun i hi => ⟨(hb.cell (cell_lt (hc i hi).1)).trans (hc i hi).1, (hb.cell (cell_lt (hc i hi).2.1)).trans (hc i hi).2.1, (hb.cell (cell_lt (hc i hi).2.2)).trans (hc i hi).2.2⟩⟩

theorem oneH {P : Program} {md : Region.Mode} {ops : Array Oper} {Q : Exit → Act → World → Prop} {S : World → Prop} {i : Nat} {oi : Oper} {fuel : Nat} {listed : Array Bool} {a : Act} {w : World} (hr : Region.ready md ops listed = [i]) (hi : ops[i]? = some oi) (hwt : Region.wanted oi (yielded ops a.tmps) = true)
    (h : oi.wp P a w (fun a' w' => S w' ∧ wpAnyH P md ops Q S fuel (listed.setIfInBounds i true) a' w') Q) : wpAnyH P md ops Q S (fuel + 1) listed a w := by
  refine wpAnyH_all hr (by simp) fun j hj => ?_
  obtain rfl : j = i := by simpa using hj
  unfold wpOp
  simp only [hi, hwt, if_true]
  exact .inl h

set_option maxHeartbeats 1000000 in
theorem isVariable_any (vars root : Int) (ao : Option Addr) (n cap : Nat) (v : Int) (w : World) :
    Calls Try.prog 96 #[.agg #[.int .i64 vars, .slice ao n cap, .int .i64 root], .int .i64 v] w fun e w' => e = .returned (.bool (decide (0 ≤ v) && decide (v < vars))) ∧ Below w.heap.size w w' := by
  by_cases h0 : 0 ≤ v
  · have d0 : decide (0 ≤ v) = true := by simpa using h0
    go_enter Try.func96, Try.ntmps96
    go_wp2
    go_ret
    exact ⟨by rw [d0]; rfl, belOne _ _⟩
  · have d0 : decide (0 ≤ v) = false := by simpa using h0
    go_enter Try.func96, Try.ntmps96
    go_wp2
    go_ret
    exact ⟨by first | rfl | rw [d0]; rfl, belOne _ _⟩

set_option maxRecDepth 100000 in
set_option maxHeartbeats 4000000 in
theorem isBelow_any (x y z p : Int) (ao : Option Addr) (cap : Nat) (ns : List Nd) (i n : Nat) (w : World) (hN : Nds w ao n cap ns) (hi : i ≤ n) (hl : n ≤ 64) (hp : I64 p) :
    Calls Try.prog 105 #[.agg #[.int .i64 x, .int .i64 y, .int .i64 z], .slice ao i cap, .int .i64 p] w fun e w' => e = .returned (.bool (belowB ns i x p)) ∧ Below w.heap.size w w' := by
  unfold I64 at hp
  have HN := hideN hN
  obtain ⟨W1, hW1⟩ : ∃ W1, W1 = w.alloc (.cells #[.int .i64 x, .int .i64 y, .int .i64 z] 50) := ⟨_, rfl⟩
  have HB1 : Hid (Below w.heap.size w W1) := by rw [hW1]; exact belOne _ _
  have y0 : W1.cell? ⟨w.heap.size, 0, none⟩ = some (.int .i64 x) := by rw [hW1]; simp
  have HW1 := hideN hW1
  clear hN hW1
  by_cases h0 : p < 0
  · have d0 : decide (p < 0) = true := by simpa using h0
    have hb : belowB ns i x p = false := by unfold belowB; simp; omega
    rw [hb]
    go_enter Try.func105, Try.ntmps105
    go_wp2_with fail
    go_ret
    exact ⟨rfl, belOne _ _⟩
  have d0 : decide (p < 0) = false := by simpa using h0
  have w1 : IntKind.i64.wrap (2 + (i : Int)) = 2 + (i : Int) := by rw [IntKind.wrap_i64]; omega
  by_cases h1 : 2 + (i : Int) ≤ p
  · have d1 : decide (2 + (i : Int) ≤ p) = true := by simpa using h1
    have hb : belowB ns i x p = false := by unfold belowB; simp; omega
    rw [hb]
    go_enter Try.func105, Try.ntmps105
    go_wp2_with fail
    go_ret
    exact ⟨rfl, belOne _ _⟩
  have d1 : decide (2 + (i : Int) ≤ p) = false := by simpa using h1
  by_cases h2 : p < 2
  · have d2 : decide (p < 2) = true := by simpa using h2
    have hb : belowB ns i x p = true := by unfold belowB; simp; omega
    rw [hb]
    go_enter Try.func105, Try.ntmps105
    go_wp2_with fail
    rw [← HW1.out]
    go_quiet (fail)
    go_wp2_with fail
    go_ret
    exact ⟨rfl, HB1.out.trans ((below_drewN (Below.refl _ _) _).mono HB1.out.size)⟩
  have d2 : decide (p < 2) = false := by simpa using h2
  obtain ⟨q, hq⟩ : ∃ q : Nat, p = (q : Int) + 2 := ⟨(p - 2).toNat, by omega⟩
  subst hq
  have hqi : q < i := by omega
  have w2 : IntKind.i64.wrap ((q : Int) + 2 - 2) = (q : Int) := by rw [IntKind.wrap_i64]; omega
  obtain ⟨b, off, rfl, hc⟩ := HN.out.cells (by omega)
  have hc0 := (HB1.out.cell (cell_lt (hc q (by omega)).1)).trans (hc q (by omega)).1
  have hb : belowB ns i x ((q : Int) + 2) = decide (x < (ns.getD q (0, 0, 0)).1) := by
    unfold belowB
    have e1 : ((q : Int) + 2 - 2).toNat = q := by omega
    have e2 : decide ((0 : Int) ≤ (q : Int) + 2) = true := decide_eq_true (by omega)
    have e3 : decide ((q : Int) + 2 < 2 + (i : Int)) = true := decide_eq_true (by omega)
    rw [e1, e2, e3, d2]
    rfl
  rw [hb]
  clear hc hb
  generalize (ns.getD q (0, 0, 0)).1 = u at *
  go_enter Try.func105, Try.ntmps105
  go_wp2_with fail
  rw [← HW1.out]
  go_quiet (fail)
  go_wp2_with fail
  go_ret
  exact ⟨rfl, HB1.out.trans ((below_drewN (Below.refl _ _) _).mono HB1.out.size)⟩

end Go.Proofs.Ytknpifjkllcdeaa

/-
  What comes in, read: a diagram.
-/
import Derived.Test.YtknpifjkllcdeaaOpenN
import Derived.Test.YtknpifjkllcdeaaBdG
import Derived.Lib.SmallJoins
import Derived.ChangeOld
import Derived.Deep.SlicePairs
import Derived.Deep.Grids
namespace Go.Proofs.Ytknpifjkllcdeaa
open Go.ChangeShapes Go.WideShapes Go.ChangeAt Go.RowKit Go.Deep Go.Joins
set_option linter.unusedVariables false

theorem cells_intN : Try.prog.cellsOf 3 = 1 := by kernel_rfl
theorem cells_ndN : Try.prog.cellsOf 109 = 3 := by kernel_rfl
theorem cells_bddN : Try.prog.cellsOf 36 = 3 := by kernel_rfl

theorem i64_of_wf {x : Int} (h : (Lit.int .i64 x).wf = true) : I64 x := by
  simp [Lit.wf, IntKind.min, IntKind.max, IntKind.signed, IntKind.bits] at h
  unfold I64
  omega

/-- Three cells an element. -/
def three (f0 f1 f2 : Nat → Value) : Nat → Value := fun i => if i % 3 = 0 then f0 (i / 3) else if i % 3 = 1 then f1 (i / 3) else f2 (i / 3)
theorem three_0 (f0 f1 f2 : Nat → Value) (k : Nat) : three f0 f1 f2 (k * 3) = f0 k := by
  unfold three; rw [if_pos (by omega)]; congr 1; omega
theorem three_1 (f0 f1 f2 : Nat → Value) (k : Nat) : three f0 f1 f2 (k * 3 + 1) = f1 k := by
  unfold three; rw [if_neg (by omega), if_pos (by omega)]; congr 1; omega
theorem three_2 (f0 f1 f2 : Nat → Value) (k : Nat) : three f0 f1 f2 (k * 3 + 2) = f2 k := by
  unfold three; rw [if_neg (by omega), if_neg (by omega)]; congr 1; omega
theorem three_congr {f0 f1 f2 g0 g1 g2 : Nat → Value} {n : Nat} (h0 : ∀ i, i < n → f0 i = g0 i) (h1 : ∀ i, i < n → f1 i = g1 i) (h2 : ∀ i, i < n → f2 i = g2 i) : ∀ i, i < n * 3 → three f0 f1 f2 i = three g0 g1 g2 i := fun i hi => by
  unfold three
  split
  · exact h0 _ (by omega)
  · split
    · exact h1 _ (by omega)
    · exact h2 _ (by omega)

theorem addr_three {w : World} {a : Addr} {n : Nat} {f0 f1 f2 : Nat → Value} (hn : 0 < n) (h : ∀ i, i < n → w.cell? (a.add (i * 3)) = some (f0 i) ∧ w.cell? (a.add (i * 3 + 1)) = some (f1 i) ∧ w.cell? (a.add (i * 3 + 2)) = some (f2 i)) :
    ∃ b off, a = ⟨b, off, none⟩ ∧ ∀ i, i < n → w.cell? ⟨b, off + i * 3, none⟩ = some (f0 i) ∧ w.cell? ⟨b, off + i * 3 + 1, none⟩ = some (f1 i) ∧ w.cell? ⟨b, off + i * 3 + 2, none⟩ = some (f2 i) := by
  obtain ⟨b, off, rfl, hc⟩ := addr_plain (n := n * 3) (f := three f0 f1 f2) (by omega) (fun i hi => by
    unfold three
    by_cases hp : i % 3 = 0
    · rw [if_pos hp]
      have := (h (i / 3) (by omega)).1
      rwa [show i / 3 * 3 = i by omega] at this
    · rw [if_neg hp]
      by_cases hq : i % 3 = 1
      · rw [if_pos hq]
        have := (h (i / 3) (by omega)).2.1
        rwa [show i / 3 * 3 + 1 = i by omega] at this
      · rw [if_neg hq]
        have := (h (i / 3) (by omega)).2.2
        rwa [show i / 3 * 3 + 2 = i by omega] at this)
  refine ⟨b, off, rfl, fun i hi => ⟨?_, ?_, ?_⟩⟩
  · rw [hc (i * 3) (by omega), three_0]
  · have := hc (i * 3 + 1) (by omega)
    rw [three_1] at this
    rwa [← Nat.add_assoc] at this
  · have := hc (i * 3 + 2) (by omega)
    rw [three_2] at this
    rwa [← Nat.add_assoc] at this

section
variable {H : Type} {enc : TypeId × Value → H} {w : World} {base : Nat} {held : Bool}

/-- A slice of structs of three cells, read: its cells, and each read by its field's type. -/
theorem open_slice_triples {P : Program} {spare : Nat → Bool} {t e : TypeId} {f0 f1 f2 : Field} {fuel : Nat} {cs : List Value} {x : DataW H × List MemPlace} (ht : P.underlying t = some (.slice e)) (he : P.underlying e = some (.struct #[f0, f1, f2]))
    (ce : P.cellsOf e = 3) (o0 : f0.offset = 0) (o1 : f1.offset = 1) (o2 : f2.offset = 2) (c0 : P.cellsOf f0.type = 1) (c1 : P.cellsOf f1.type = 1) (c2 : P.cellsOf f2.type = 1)
    (h : DataW.trod enc P w base spare held fuel t cs = some x) :
    (cs = [.slice none 0 0]) ∨
    ∃ (a : Addr) (len cap m n : Nat) (V0 V1 V2 : Nat → Value) (Y0 Y1 Y2 : Nat → DataW H × List MemPlace), cs = [.slice (some a) len cap] ∧ base ≤ a.block ∧ len ≤ cap ∧ cap ≤ maxLen ∧ len ≤ m ∧
      ∀ i, i < m → (w.cell? (a.add (i * 3)) = some (V0 i) ∧ w.cell? (a.add (i * 3 + 1)) = some (V1 i) ∧ w.cell? (a.add (i * 3 + 2)) = some (V2 i)) ∧
        DataW.trod enc P w base spare held n f0.type [V0 i] = some (Y0 i) ∧ DataW.trod enc P w base spare held n f1.type [V1 i] = some (Y1 i) ∧ DataW.trod enc P w base spare held n f2.type [V2 i] = some (Y2 i) := by
  rcases open_slice ht h with h0 | ⟨a, len, cap, m, n, D, Pl, rfl, hb, hl, hm, hmm, rfl, hx⟩
  · exact Or.inl h0.1
  right
  have hlm : len ≤ m := by rw [hmm]; split <;> omega
  have each : ∀ i, i < m → ∃ q : (Value × Value × Value) × (DataW H × List MemPlace) × (DataW H × List MemPlace) × (DataW H × List MemPlace), (w.cell? (a.add (i * 3)) = some q.1.1 ∧ w.cell? (a.add (i * 3 + 1)) = some q.1.2.1 ∧ w.cell? (a.add (i * 3 + 2)) = some q.1.2.2) ∧
      DataW.trod enc P w base spare held (n - 1) f0.type [q.1.1] = some q.2.1 ∧ DataW.trod enc P w base spare held (n - 1) f1.type [q.1.2.1] = some q.2.2.1 ∧ DataW.trod enc P w base spare held (n - 1) f2.type [q.1.2.2] = some q.2.2.2 := by
    intro i hi
    obtain ⟨cs', h1, h2⟩ := hx i hi
    rw [ce] at h1
    obtain ⟨_, hlen, hcell⟩ := World.cells?_some h1
    obtain ⟨xs, k, hk, hxy, _, hxl, hf⟩ := DataW.trod_struct he h2
    have hk' : k = n - 1 := by omega
    subst hk'
    match xs, hxl, cs', hlen with
    | [y0, y1, y2], _, [v0, v1, v2], _ =>
      have g0 := hf 0 f0 rfl
      have g1 := hf 1 f1 rfl
      have g2 := hf 2 f2 rfl
      simp [o0, o1, o2, c0, c1, c2] at g0 g1 g2
      have e0 := hcell 0 (by omega)
      have e1 := hcell 1 (by omega)
      have e2 := hcell 2 (by omega)
      rw [add_add] at e0 e1 e2
      exact ⟨((v0, v1, v2), y0, y1, y2), ⟨by simpa using e0, by simpa using e1, by simpa using e2⟩, g0, g1, g2⟩
  obtain ⟨q, hq⟩ := choose_lt each
  exact ⟨a, len, cap, m, n - 1, fun i => (q i).1.1, fun i => (q i).1.2.1, fun i => (q i).1.2.2, fun i => (q i).2.1, fun i => (q i).2.2.1, fun i => (q i).2.2.2, rfl, hb, hl, hm, hlm, fun i hi => hq i hi⟩

set_option maxRecDepth 100000 in
theorem nds_of_trod {fuel : Nat} {v : Value} {x : DataW H × List MemPlace} (h : DataW.trod enc Try.prog w base (fun _ => true) held fuel 34 [v] = some x) :
    ∃ ao n cap ns, v = .slice ao n cap ∧ Nds w ao n cap ns ∧ n ≤ maxLen ∧ ∀ p ∈ ns, I64N p := by
  rcases open_slice_triples Try.underlying34 Try.underlying109 cells_ndN rfl rfl rfl cells_intN cells_intN cells_intN h with hcs | ⟨a, len, cap, m, n, V0, V1, V2, Y0, Y1, Y2, hcs, _, hl, hm, hmm, hall⟩
  · simp at hcs
    subst hcs
    exact ⟨none, 0, 0, [], rfl, ⟨rfl, Nat.le_refl _, fun h => absurd h (Nat.lt_irrefl _)⟩, by simp, by simp⟩
  · simp at hcs
    subst hcs
    have key : ∀ i, i < m → ∃ p : Nd, V0 i = .int .i64 p.1 ∧ V1 i = .int .i64 p.2.1 ∧ V2 i = .int .i64 p.2.2 ∧ I64N p := fun i hi => by
      obtain ⟨_, h0, h1, h2⟩ := hall i hi
      obtain ⟨y0, e0, _, w0⟩ := DataW.trod_int Try.underlying3 h0
      obtain ⟨y1, e1, _, w1⟩ := DataW.trod_int Try.underlying3 h1
      obtain ⟨y2, e2, _, w2⟩ := DataW.trod_int Try.underlying3 h2
      simp at e0 e1 e2
      exact ⟨(y0, y1, y2), e0, e1, e2, i64_of_wf w0, i64_of_wf w1, i64_of_wf w2⟩
    obtain ⟨q, hq⟩ := choose_lt key
    refine ⟨some a, len, cap, (List.range len).map q, rfl, ⟨by simp, hl, fun hpos => ?_⟩, by omega, fun p hp => ?_⟩
    · obtain ⟨b, off, rfl, hc⟩ := addr_three (n := len) (f0 := V0) (f1 := V1) (f2 := V2) hpos (fun i hi => (hall i (by omega)).1)
      refine ⟨b, off, rfl, fun i hi => ?_⟩
      have hg : ((List.range len).map q).getD i (0, 0, 0) = q i := by simp [List.getD, hi]
      obtain ⟨z0, z1, z2, _⟩ := hq i (by omega)
      rw [hg, ← z0, ← z1, ← z2]
      exact hc i hi
    · simp at hp
      obtain ⟨i, hi, rfl⟩ := hp
      exact (hq i (by omega)).2.2.2

set_option maxRecDepth 100000 in
/-- A diagram that comes in. -/
theorem bdd_of_trod {r : Reach} {b0 : Nat} {v : Value} {d : DataW H} {p : List MemPlace} (hv : Value.okWide Try.prog w r b0 36 v) (h : DataW.Trod enc Try.prog w base (fun _ => true) held 36 v d p) :
    ∃ (vi root : Int) (ao : Option Addr) (n cap : Nat) (ns : List Nd), v = .agg #[.int .i64 vi, .slice ao n cap, .int .i64 root] ∧ Nds w ao n cap ns ∧ n ≤ maxLen ∧ (∀ p ∈ ns, I64N p) ∧ I64 vi ∧ I64 root := by
  obtain ⟨c0, c1, c2, y0, y1, y2, m, rfl, hd, _, hy0, hy1, hy2⟩ := open_agg3 Try.underlying36 (by kernel_rfl) cells_bddN hv h
  obtain ⟨vi, e0, _, w0⟩ := DataW.trod_int Try.underlying3 hy0
  obtain ⟨root, e2, _, w2⟩ := DataW.trod_int Try.underlying3 hy2
  simp at e0 e2
  subst e0 e2
  obtain ⟨ao, n, cap, ns, rfl, hN, hml, h64⟩ := nds_of_trod hy1
  exact ⟨vi, root, ao, n, cap, ns, rfl, hN, hml, h64, i64_of_wf w0, i64_of_wf w2⟩
end

end Go.Proofs.Ytknpifjkllcdeaa

/-
  What comes in, read: an expression.
-/
import Derived.Test.YthbjihamhfahcaaDoorExpA
import Derived.Lib.SmallJoins
import Derived.ChangeOld
import Derived.Deep.SlicePairs
import Derived.Deep.Grids
namespace Go.Proofs.YthbjihamhfahcaaDoor
open Go.ChangeShapes Go.WideShapes Go.ChangeAt Go.RowKit Go.Deep Go.Joins
set_option linter.unusedVariables false

theorem ownE : ownKnob Tryd.prog.godebug = none := by kernel_rfl
theorem cells_intE : Tryd.prog.cellsOf 3 = 1 := by kernel_rfl
theorem cells_strE : Tryd.prog.cellsOf 9 = 1 := by kernel_rfl
theorem cells_expE : Tryd.prog.cellsOf 24 = 4 := by kernel_rfl
theorem cells_expsE : Tryd.prog.cellsOf 22 = 1 := by kernel_rfl

theorem num64_of_wf {x : Int} (h : (Lit.int .i64 x).wf = true) : Num64 x := by
  simp [Lit.wf, IntKind.min, IntKind.max, IntKind.signed, IntKind.bits] at h
  unfold Num64
  omega

section
variable {H : Type} {enc : TypeId × Value → H} {w : World} {base : Nat} {held : Bool}

/-- A slice's elements, each read with less. -/
theorem slice_elems {P : Program} {spare : Nat → Bool} {t e : TypeId} {fuel : Nat} {cs : List Value} {x : DataW H × List MemPlace} (ht : P.underlying t = some (.slice e)) (h : DataW.trod enc P w base spare held fuel t cs = some x) :
    cs = [.slice none 0 0] ∨ ∃ (a : Addr) (len cap n : Nat), fuel = n + 1 ∧ cs = [.slice (some a) len cap] ∧ len ≤ cap ∧ cap ≤ maxLen ∧
      ∀ i, i < len → ∃ cs' y, w.cells? base (a.add (i * P.cellsOf e)) (P.cellsOf e) = some cs' ∧ DataW.trod enc P w base spare held n e cs' = some y := by
  rcases DataW.trod_slice ht h with h0 | ⟨a, len, cap, elems, rest, n, hn, hcs, _, _, hl, hm, hlen, hel, _⟩
  · exact .inl h0.1
  · refine .inr ⟨a, len, cap, n, hn, hcs, hl, hm, fun i hi => ?_⟩
    have hk := hel i hi
    rw [List.getElem?_eq_getElem (by omega)] at hk
    obtain ⟨cs', h1, h2⟩ := Option.bind_eq_some_iff.1 hk
    exact ⟨cs', _, h1, h2⟩

theorem addr_cells {a : Addr} {v : Value} (h : w.cell? a = some v) : ∃ b off, a = ⟨b, off, none⟩ := by
  obtain ⟨b, off, spot⟩ := a
  have hs : spot = none := by simpa using World.cell?_spot h
  subst hs
  exact ⟨b, off, rfl⟩

theorem add_plain (b off i : Nat) : (⟨b, off, none⟩ : Addr).add i = ⟨b, off + i, none⟩ := by
  unfold Addr.add
  by_cases e : i = 0
  · subst e; simp
  · simp [e]

set_option maxRecDepth 100000 in
/-- What reads as an expression is one. -/
theorem exp_of_cells : ∀ (N fuel : Nat), fuel < N → ∀ (cs : List Value) (x : DataW H × List MemPlace), DataW.trod enc Tryd.prog w base (fun _ => true) held fuel 24 cs = some x → ∃ (t : ExpT) (v0 v1 v2 v3 : Value), cs = [v0, v1, v2, v3] ∧ IsE w 0 t (.agg #[v0, v1, v2, v3]) := by
  intro N
  induction N with
  | zero => intro fuel h; omega
  | succ N ih =>
    intro fuel hN cs x h
    obtain ⟨xs, k, hk, _, hcl, hxl, hf⟩ := DataW.trod_struct Tryd.underlying24 h
    rw [cells_expE] at hcl
    match xs, hxl, cs, hcl with
    | [y0, y1, y2, y3], _, [v0, v1, v2, v3], _ =>
      have g0 := hf 0 _ rfl
      have g1 := hf 1 _ rfl
      have g2 := hf 2 _ rfl
      have g3 := hf 3 _ rfl
      simp [cells_intE, cells_strE, cells_expsE] at g0 g1 g2 g3
      obtain ⟨kd, e0, _, w0⟩ := DataW.trod_int Tryd.underlying3 g0
      obtain ⟨nm, e1, _, w1⟩ := DataW.trod_int Tryd.underlying3 g1
      obtain ⟨s, e2, _, w2⟩ := DataW.trod_string Tryd.underlying9 g2
      simp at e0 e1 e2
      subst e0 e1 e2
      rcases slice_elems Tryd.underlying22 g3 with e3 | ⟨a, len, cap, n, hn, e3, hl, hm, hel⟩
      · simp at e3
        subst e3
        exact ⟨.node kd nm s [], _, _, _, _, rfl, isE_node.2 ⟨none, 0, rfl, ⟨num64_of_wf w0, num64_of_wf w1, w2, Nat.le_refl _, Nat.zero_le _⟩, fun hp => absurd hp (by simp)⟩⟩
      · simp at e3
        subst e3
        have each : ∀ i, i < len → ∃ q : ExpT × Value × Value × Value × Value, w.cell? (a.add (i * 4)) = some q.2.1 ∧ w.cell? ((a.add (i * 4)).add 1) = some q.2.2.1 ∧ w.cell? ((a.add (i * 4)).add 2) = some q.2.2.2.1 ∧ w.cell? ((a.add (i * 4)).add 3) = some q.2.2.2.2 ∧ IsE w 0 q.1 (.agg #[q.2.1, q.2.2.1, q.2.2.2.1, q.2.2.2.2]) := fun i hi => by
          obtain ⟨cs', y, h1, h2⟩ := hel i hi
          rw [cells_expE] at h1
          obtain ⟨t, u0, u1, u2, u3, rfl, hE⟩ := ih n (by omega) cs' y h2
          obtain ⟨_, _, hcell⟩ := World.cells?_some h1
          have c0 := hcell 0 (by omega)
          have c1 := hcell 1 (by omega)
          have c2 := hcell 2 (by omega)
          have c3 := hcell 3 (by omega)
          refine ⟨(t, u0, u1, u2, u3), ?_, c1, c2, c3, hE⟩
          simpa [Addr.add] using c0
        have inh : Inhabited ExpT := ⟨e0⟩
        obtain ⟨q, hq⟩ := choose_lt each
        refine ⟨.node kd nm s ((List.range len).map fun i => (q i).1), _, _, _, _, rfl, isE_node.2 ⟨some a, cap, by simp, ⟨num64_of_wf w0, num64_of_wf w1, w2, by simpa using hl, hm⟩, fun hp => ?_⟩⟩
        have hp : 0 < len := by simpa using hp
        obtain ⟨b, off, hab⟩ : ∃ b off, a = ⟨b, off, none⟩ := by
          obtain ⟨p0, _⟩ := hq 0 hp
          rw [Nat.zero_mul] at p0
          have : a.add 0 = a := by obtain ⟨b, o, sp⟩ := a; unfold Addr.add; simp
          rw [this] at p0
          exact addr_cells p0
        subst hab
        refine ⟨b, off, rfl, Nat.zero_le _, fun i hi => ?_⟩
        have hi : i < len := by simpa using hi
        obtain ⟨p0, p1, p2, p3, hE⟩ := hq i hi
        rw [add_plain] at p0 p1 p2 p3
        rw [add_plain] at p1 p2 p3
        refine ⟨_, ⟨_, _, _, _, rfl, p0, p1, p2, p3⟩, ?_⟩
        have hg : (((List.range len).map fun i => (q i).1).getD i e0) = (q i).1 := by simp [List.getD, hi]
        rw [hg]
        exact hE

set_option maxRecDepth 100000 in
/-- An expression that comes in. -/
theorem exp_of_trod {r : Reach} {b0 : Nat} {v : Value} {d : DataW H} {p : List MemPlace} (hv : Value.okWide Tryd.prog w r b0 24 v) (h : DataW.Trod enc Tryd.prog w base (fun _ => true) held 24 v d p) : ∃ t, IsE w 0 t v := by
  obtain ⟨cs, rfl, hsz⟩ := okWide_struct Tryd.underlying24 hv
  obtain ⟨fuel, hf⟩ := h
  obtain ⟨t, v0, v1, v2, v3, e, hE⟩ := exp_of_cells (fuel + 1) fuel (Nat.lt_succ_self _) _ _ hf
  simp [Value.cells] at e
  obtain ⟨c0, c1, c2, c3, rfl⟩ := array4 (hsz.trans cells_expE)
  refine ⟨t, ?_⟩
  simp at e
  obtain ⟨rfl, rfl, rfl, rfl⟩ := e
  exact hE
end

end Go.Proofs.YthbjihamhfahcaaDoor

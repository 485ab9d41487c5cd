/-
  Diagrams: the map from nodes to where they are, told by the list of nodes.
-/
import Derived.Test.YtknpifjkllcdeaaBdA
import Derived.Test.YtknpifjkllcdeaaChg
import Derived.Maps.OwnSet
import Derived.DeepKeys4
namespace Go.Proofs.Ytknpifjkllcdeaa
open Go.RowKit Go.Deep
set_option linter.unusedVariables false

theorem ndRow : (50 : TypeId) < Try.prog.types.size := of_decide_eq_true (by kernel_rfl)
theorem ndWide : (match Try.prog.underlying 50 with | some (.array _ _) | some (.struct _) => true | _ => false) = true := by kernel_rfl
theorem laidOutN : laidOutB Try.prog = true := by kernel_rfl
set_option maxRecDepth 100000 in
theorem ndKeyed : Maps.Keyed Try.prog 50 := Maps.Keyed.of_law (deep_law_laid laidOutN (m := 3) (by decide) ndRow (by kernel_rfl) ndWide)

/-- A node as a value. -/
def ndOf (p : Nd) : Value := .agg #[.int .i64 p.1, .int .i64 p.2.1, .int .i64 p.2.2]

/-- What a node reads as, as a key. -/
def keyN (p : Nd) : Lit := .string (keyBytes [.int .i64 p.1, .int .i64 p.2.1, .int .i64 p.2.2])

theorem wf_smallN {x : Int} (h0 : 0 ≤ x) (h1 : x ≤ 1000) : (Lit.int .i64 x).wf = true := by
  have e1 : IntKind.i64.min = -9223372036854775808 := by decide
  have e2 : IntKind.i64.max = 9223372036854775807 := by decide
  simp only [Lit.wf, e1, e2, Bool.and_eq_true, decide_eq_true_eq]
  omega

theorem keyOf_nd (p : Nd) (h : FitN p) : keyOf Try.prog 50 (ndOf p) = some (keyN p) := by
  obtain ⟨⟨a0, a1⟩, ⟨b0, b1⟩, c0, c1⟩ := h
  have w1 := wf_smallN a0 (by omega)
  have w2 := wf_smallN b0 b1
  have w3 := wf_smallN c0 c1
  have hn : ∃ n, Try.prog.types.size = n + 1 := by
    obtain ⟨m, hm⟩ := Nat.exists_eq_succ_of_ne_zero (Nat.ne_of_gt (Nat.lt_of_le_of_lt (Nat.zero_le _) ndRow))
    exact ⟨m, hm⟩
  obtain ⟨n, hn⟩ := hn
  have hu := Try.underlying50
  have hi := Try.underlying3
  have hk : Try.prog.keyType 50 = true := by kernel_rfl
  have hc : Try.prog.cellsOf 50 = 3 := by kernel_rfl
  have hc1 : Try.prog.cellsOf 3 = 1 := by kernel_rfl
  have hf : (ndOf p).formed Try.prog 50 = true := by simp [Value.formed, ndOf, hu, hc]
  unfold keyOf
  rw [hu]
  simp only [hk, hf, Bool.and_self, if_true]
  rw [hn]
  simp [Program.keyLits, ndOf, hu, hi, hc, hc1, w1, w2, w3, keyN, Value.cells]

theorem keyN_inj {p q : Nd} (hp : FitN p) (hq : FitN q) (h : keyN p = keyN q) : p = q := by
  have h1 := keyOf_nd p hp
  have h2 := keyOf_nd q hq
  rw [h] at h1
  have e := ndKeyed.inj h1 h2
  obtain ⟨p1, p2, p3⟩ := p
  obtain ⟨q1, q2, q3⟩ := q
  simpa [ndOf] using e

theorem keyN_lit (p : Nd) : WideAt.IsKeyLit (keyN p) := trivial

/-- The map tells of each node where it is. -/
def FoundN (D : DataW Nat) (ns : List Nd) : Prop :=
  Maps.IsMap D ∧ ∀ p, FitN p → Maps.has D (keyN p) = decide (placeB ns p < ns.length) ∧ (placeB ns p < ns.length → D.atKey (keyN p) (.lit (.int .i64 0)) = .lit (.int .i64 (2 + (placeB ns p : Int))))

theorem FoundN.nil : FoundN (.map []) [] := ⟨Maps.isMap_empty, fun p _ => ⟨by simp [Maps.has], fun h => absurd h (by simp)⟩⟩

theorem FoundN.snoc {D : DataW Nat} {ns : List Nd} (h : FoundN D ns) {q : Nd} (hq : FitN q) (hn : ¬ placeB ns q < ns.length) : FoundN (D.put (keyN q) (.lit (.int .i64 (2 + (ns.length : Int))))) (ns ++ [q]) := by
  refine ⟨h.1.put _ _, fun p hp => ?_⟩
  rw [placeB_snoc, List.length_append, List.length_cons, List.length_nil]
  by_cases e : p = q
  · subst e
    rw [if_neg hn, if_pos rfl]
    exact ⟨by rw [Maps.has_put_same h.1 (keyN_lit _)]; simp, fun _ => by rw [Maps.atKey_put_same h.1 (keyN_lit _)]⟩
  · have hk : keyN p ≠ keyN q := fun e2 => e (keyN_inj hp hq e2)
    obtain ⟨h1, h2⟩ := h.2 p hp
    rw [Maps.has_put_other hk, Maps.atKey_put_other hk]
    by_cases hw : placeB ns p < ns.length
    · rw [if_pos hw]
      exact ⟨by rw [h1]; simp [hw]; omega, fun _ => h2 hw⟩
    · rw [if_neg hw, if_neg (fun e2 => e e2.symm)]
      exact ⟨by rw [h1]; simp [hw], fun h3 => by omega⟩

/-- The cells of nodes, one behind the other. -/
def ndV (ns : List Nd) : List Value := ns.flatMap fun p => [.int .i64 p.1, .int .i64 p.2.1, .int .i64 p.2.2]
theorem ndV_snoc (ns : List Nd) (p : Nd) : ndV (ns ++ [p]) = ndV ns ++ [.int .i64 p.1, .int .i64 p.2.1, .int .i64 p.2.2] := by simp [ndV]
theorem ndV_length (ns : List Nd) : (ndV ns).length = ns.length * 3 := by
  induction ns with
  | nil => rfl
  | cons a l ih => unfold ndV at *; simp [ih]; omega
theorem ndV_get (ns : List Nd) (i : Nat) (h : i < ns.length) : (ndV ns)[i * 3]? = some (.int .i64 (ns.getD i (0, 0, 0)).1) ∧ (ndV ns)[i * 3 + 1]? = some (.int .i64 (ns.getD i (0, 0, 0)).2.1) ∧ (ndV ns)[i * 3 + 2]? = some (.int .i64 (ns.getD i (0, 0, 0)).2.2) := by
  induction ns generalizing i with
  | nil => simp at h
  | cons a l ih =>
    cases i with
    | zero => simp [ndV]
    | succ i =>
      obtain ⟨h1, h2, h3⟩ := ih i (by simpa using h)
      have e0 : (i + 1) * 3 = i * 3 + 3 := by omega
      have e1 : (i + 1) * 3 + 1 = i * 3 + 1 + 3 := by omega
      have e2 : (i + 1) * 3 + 2 = i * 3 + 2 + 3 := by omega
      refine ⟨?_, ?_, ?_⟩
      · rw [e0]; simpa [ndV] using h1
      · rw [e1]; simpa [ndV] using h2
      · rw [e2]; simpa [ndV] using h3

theorem news3 (w : World) (x y z : Value) (t : TypeId) : ∀ j u, [x, y, z][j]? = some u → (w.alloc (.cells #[x, y, z] t)).cell? ((⟨w.heap.size, 0, none⟩ : Addr).add j) = some u := by
  intro j u h
  rw [Addr.add_lit]
  match j, h with
  | 0, h => simp at h; subst h; simp
  | 1, h => simp at h; subst h; simp
  | 2, h => simp at h; subst h; simp
  | j + 3, h => simp at h

theorem nd_oneCell (x y z : Int) : ∀ u ∈ [Value.int .i64 x, .int .i64 y, .int .i64 z], u.oneCell' = true := by intro u hu; simp at hu; rcases hu with rfl | rfl | rfl <;> rfl

/-- The value is a slice of these nodes. -/
def IsNds (w : World) (v : Value) (ns : List Nd) : Prop :=
  ∃ ao cap, v = .slice ao ns.length cap ∧ (ns ≠ [] → ∃ b off, ao = some ⟨b, off, none⟩ ∧ ∀ i, i < ns.length → w.cell? ⟨b, off + i * 3, none⟩ = some (.int .i64 (ns.getD i (0, 0, 0)).1) ∧ w.cell? ⟨b, off + i * 3 + 1, none⟩ = some (.int .i64 (ns.getD i (0, 0, 0)).2.1) ∧ w.cell? ⟨b, off + i * 3 + 2, none⟩ = some (.int .i64 (ns.getD i (0, 0, 0)).2.2))

theorem IsNds.below {w w' : World} {v : Value} {ns : List Nd} (h : IsNds w v ns) (hb : Below w.heap.size w w') : IsNds w' v ns := by
  obtain ⟨ao, cap, rfl, h⟩ := h
  refine ⟨ao, cap, rfl, fun hne => ?_⟩
  obtain ⟨b, off, rfl, hc⟩ := h hne
  exact ⟨b, off, rfl, fun i hi => ⟨by rw [hb.cell (cell_lt (hc i hi).1)]; exact (hc i hi).1, by rw [hb.cell (cell_lt (hc i hi).2.1)]; exact (hc i hi).2.1, by rw [hb.cell (cell_lt (hc i hi).2.2)]; exact (hc i hi).2.2⟩⟩

theorem info_nd : (Try.prog.info? 50).map (fun i => (i.zero, i.size, i.bytes)) = some (some (.agg #[.int .i64 0, .int .i64 0, .int .i64 0]), 3, 24) := by kernel_rfl

end Go.Proofs.Ytknpifjkllcdeaa

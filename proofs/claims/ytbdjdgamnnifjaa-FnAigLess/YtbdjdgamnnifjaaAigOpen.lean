/-
  What comes in, read: a circuit.
-/
import Derived.Test.YtbdjdgamnnifjaaAigF
import Derived.Lib.SmallJoins
import Derived.ChangeOld
import Derived.Deep.SlicePairs
namespace Go.Proofs.Ytbdjdgamnnifjaa
open Go.ChangeShapes Go.WideShapes Go.ChangeAt Go.RowKit Go.Deep Go.Joins

theorem own : ownKnob Try.prog.godebug = none := by kernel_rfl
theorem laidOut : laidOutB Try.prog = true := by kernel_rfl
theorem cells_int : Try.prog.cellsOf 3 = 1 := by kernel_rfl
theorem cells_bool : Try.prog.cellsOf 4 = 1 := by kernel_rfl
theorem cells_and : Try.prog.cellsOf 111 = 2 := by kernel_rfl
theorem cells_latch : Try.prog.cellsOf 109 = 2 := by kernel_rfl
theorem cells_aig : Try.prog.cellsOf 26 = 4 := by kernel_rfl
theorem types_aig : Try.prog.cellTypes Try.prog.depth 26 = some [3, 22, 23, 24] := by kernel_rfl

theorem addr_plain {w : World} {a : Addr} {n : Nat} {f : Nat → Value} (hn : 0 < n) (h : ∀ i, i < n → w.cell? (a.add i) = some (f i)) : ∃ b off, a = ⟨b, off, none⟩ ∧ ∀ i, i < n → w.cell? ⟨b, off + i, none⟩ = some (f i) := by
  obtain ⟨b, off, spot⟩ := a
  have hspot : spot = none := by simpa [Addr.add] using World.cell?_spot (h 0 hn)
  subst hspot
  refine ⟨b, off, rfl, fun i hi => ?_⟩
  have hc := h i hi
  unfold Addr.add at hc
  by_cases e : i = 0
  · subst e; simpa using hc
  · simpa [e] using hc

theorem i64_of_wf {x : Int} (h : (Lit.int .i64 x).wf = true) : I64 x := by
  simp [Lit.wf, IntKind.min, IntKind.max, IntKind.signed, IntKind.bits] at h
  unfold I64
  omega

theorem cell_slice_lt {P : Program} {w : World} {r : Reach} {base : Nat} {t e : TypeId} {a : Addr} {len cap : Nat} (ht : P.underlying t = some (.slice e)) (h : Cell.okWide P w r base t (.slice (some a) len cap)) : a.block < w.heap.size := by
  simp only [ht, Cell.okWide, Cell.ok] at h
  obtain ⟨_, _, _, _, row, cells, hs, _⟩ := h
  rcases Nat.lt_or_ge a.block w.heap.size with h1 | h1
  · exact h1
  · simp [World.shape?, Array.getElem?_eq_none h1] at hs

set_option maxRecDepth 100000 in
theorem aig_cells {w : World} {r : Reach} {base : Nat} {c0 c1 c2 c3 : Value} (h : Value.okWide Try.prog w r base 26 (.agg #[c0, c1, c2, c3])) :
    Cell.okWide Try.prog w r base 22 c1 ∧ Cell.okWide Try.prog w r base 23 c2 ∧ Cell.okWide Try.prog w r base 24 c3 := by
  simp only [Value.okWide, Try.underlying26] at h
  obtain ⟨cs, hcs, _, ts, hts, _, hall⟩ := h
  rw [types_aig] at hts
  cases hts
  cases hcs
  obtain ⟨u1, e1, k1⟩ := hall 1 c1 rfl
  obtain ⟨u2, e2, k2⟩ := hall 2 c2 rfl
  obtain ⟨u3, e3, k3⟩ := hall 3 c3 rfl
  simp at e1 e2 e3
  subst e1 e2 e3
  exact ⟨k1, k2, k3⟩

section
variable {H : Type} {enc : TypeId × Value → H} {w : World} {base : Nat} {held : Bool}

theorem isInts64_of_trod {fuel : Nat} {v : Value} {x : DataW H × List MemPlace} (h : DataW.trod enc Try.prog w base (fun _ => true) held fuel 24 [v] = some x) :
    ∃ xs, IsInts w v xs ∧ xs.length ≤ maxLen ∧ ∀ y ∈ xs, I64 y := by
  rcases open_ints Try.underlying24 Try.underlying3 cells_int h with ⟨hcs, _⟩ | ⟨a, l, c, zs, hcs, _, hl, hm, hz, _, hcell, hwf⟩
  · simp at hcs
    subst hcs
    exact ⟨[], ⟨_, _, rfl, fun hne => absurd rfl hne⟩, by simp, by simp⟩
  · simp at hcs hz
    subst hcs
    have hlen : (zs.take l).length = l := by simp; omega
    refine ⟨zs.take l, ⟨some a, c, by rw [hlen], fun hne => ?_⟩, by rw [hlen]; omega, fun y hy => i64_of_wf (hwf y (List.mem_of_mem_take hy))⟩
    have hpos : 0 < l := by
      rcases Nat.eq_zero_or_pos l with e | e
      · subst e; simp at hne
      · exact e
    obtain ⟨b, off, rfl, hc⟩ := addr_plain (n := l) (f := fun i => .int .i64 (zs.getD i 0)) hpos (fun i hi => hcell i (by omega))
    refine ⟨b, off, rfl, fun i hi => ?_⟩
    rw [hlen] at hi
    rw [hc i hi]
    simp [List.getD, hi]

theorem addr_two {w : World} {a : Addr} {n : Nat} {f0 f1 : Nat → Value} (hn : 0 < n) (h : ∀ i, i < n → w.cell? (a.add (i * 2)) = some (f0 i) ∧ w.cell? (a.add (i * 2 + 1)) = some (f1 i)) : ∃ b off, a = ⟨b, off, none⟩ ∧ ∀ i, i < n → w.cell? ⟨b, off + i * 2, none⟩ = some (f0 i) ∧ w.cell? ⟨b, off + i * 2 + 1, none⟩ = some (f1 i) := by
  obtain ⟨b, off, rfl, hc⟩ := addr_plain (n := n * 2) (f := two f0 f1) (by omega) (fun i hi => by
    unfold two
    by_cases hp : i % 2 = 0
    · rw [if_pos hp]
      have := (h (i / 2) (by omega)).1
      rwa [show i / 2 * 2 = i by omega] at this
    · rw [if_neg hp]
      have := (h (i / 2) (by omega)).2
      rwa [show i / 2 * 2 + 1 = i by omega] at this)
  refine ⟨b, off, rfl, fun i hi => ⟨?_, ?_⟩⟩
  · rw [hc (i * 2) (by omega), two_even]
  · have := hc (i * 2 + 1) (by omega)
    rw [two_odd] at this
    rwa [← Nat.add_assoc] at this

theorem isAnds_of_trod {fuel : Nat} {v : Value} {x : DataW H × List MemPlace} (h : DataW.trod enc Try.prog w base (fun _ => true) held fuel 23 [v] = some x) :
    ∃ xs, IsAnds w v xs ∧ xs.length ≤ maxLen ∧ ∀ p ∈ xs, I64 p.1 ∧ I64 p.2 := by
  rcases open_slice_pairs Try.underlying23 Try.underlying111 cells_and rfl rfl cells_int cells_int h with ⟨hcs, _⟩ | ⟨a, len, cap, m, n, V0, V1, D0, D1, P0, P1, hcs, _, hl, hm, hmm, _, hall⟩
  · simp at hcs
    subst hcs
    exact ⟨[], ⟨_, _, rfl, fun hne => absurd rfl hne⟩, by simp, by simp⟩
  · simp at hcs hmm
    subst hcs hmm
    have key : ∀ i, i < m → ∃ p : Int × Int, V0 i = .int .i64 p.1 ∧ V1 i = .int .i64 p.2 ∧ I64 p.1 ∧ I64 p.2 := fun i hi => by
      obtain ⟨_, _, h0, h1⟩ := hall i hi
      obtain ⟨y0, e0, _, w0⟩ := DataW.trod_int Try.underlying3 h0
      obtain ⟨y1, e1, _, w1⟩ := DataW.trod_int Try.underlying3 h1
      simp at e0 e1
      exact ⟨(y0, y1), e0, e1, i64_of_wf w0, i64_of_wf w1⟩
    obtain ⟨q, hq⟩ := choose_lt key
    have hlen : ((List.range len).map q).length = len := by simp
    refine ⟨(List.range len).map q, ⟨some a, m, by rw [hlen], fun hne => ?_⟩, by rw [hlen]; omega, fun p hp => ?_⟩
    · have hpos : 0 < len := by
        rcases Nat.eq_zero_or_pos len with e | e
        · subst e; simp at hne
        · exact e
      obtain ⟨b, off, rfl, hc⟩ := addr_two (n := len) (f0 := V0) (f1 := V1) hpos (fun i hi => ⟨(hall i (by omega)).1, (hall i (by omega)).2.1⟩)
      refine ⟨b, off, rfl, fun i hi => ?_⟩
      rw [hlen] at hi
      have hg : ((List.range len).map q).getD i (0, 0) = q i := by simp [List.getD, hi]
      rw [hg, ← (hq i (by omega)).1, ← (hq i (by omega)).2.1]
      exact hc i hi
    · simp at hp
      obtain ⟨i, hi, rfl⟩ := hp
      exact (hq i (by omega)).2.2

theorem isLatches_of_trod {fuel : Nat} {v : Value} {x : DataW H × List MemPlace} (h : DataW.trod enc Try.prog w base (fun _ => true) held fuel 22 [v] = some x) :
    ∃ xs, IsLatches w v xs ∧ xs.length ≤ maxLen ∧ ∀ p ∈ xs, I64 p.1 := by
  rcases open_slice_pairs Try.underlying22 Try.underlying109 cells_latch rfl rfl cells_int cells_bool h with ⟨hcs, _⟩ | ⟨a, len, cap, m, n, V0, V1, D0, D1, P0, P1, hcs, _, hl, hm, hmm, _, hall⟩
  · simp at hcs
    subst hcs
    exact ⟨[], ⟨_, _, rfl, fun hne => absurd rfl hne⟩, by simp, by simp⟩
  · simp at hcs hmm
    subst hcs hmm
    have key : ∀ i, i < m → ∃ p : Int × Bool, V0 i = .int .i64 p.1 ∧ V1 i = .bool p.2 ∧ I64 p.1 := fun i hi => by
      obtain ⟨_, _, h0, h1⟩ := hall i hi
      obtain ⟨y0, e0, _, w0⟩ := DataW.trod_int Try.underlying3 h0
      obtain ⟨y1, e1, _⟩ := DataW.trod_bool Try.underlying4 h1
      simp at e0 e1
      exact ⟨(y0, y1), e0, e1, i64_of_wf w0⟩
    obtain ⟨q, hq⟩ := choose_lt key
    have hlen : ((List.range len).map q).length = len := by simp
    refine ⟨(List.range len).map q, ⟨some a, m, by rw [hlen], fun hne => ?_⟩, by rw [hlen]; omega, fun p hp => ?_⟩
    · have hpos : 0 < len := by
        rcases Nat.eq_zero_or_pos len with e | e
        · subst e; simp at hne
        · exact e
      obtain ⟨b, off, rfl, hc⟩ := addr_two (n := len) (f0 := V0) (f1 := V1) hpos (fun i hi => ⟨(hall i (by omega)).1, (hall i (by omega)).2.1⟩)
      refine ⟨b, off, rfl, fun i hi => ?_⟩
      rw [hlen] at hi
      have hg : ((List.range len).map q).getD i (0, false) = q i := by simp [List.getD, hi]
      rw [hg, ← (hq i (by omega)).1, ← (hq i (by omega)).2.1]
      exact hc i hi
    · simp at hp
      obtain ⟨i, hi, rfl⟩ := hp
      exact (hq i (by omega)).2.2

set_option maxRecDepth 100000 in
/-- A circuit that comes in. -/
theorem aig_of_trod {r : Reach} {b0 : Nat} {v : Value} {d : DataW H} {p : List MemPlace} (hv : Value.okWide Try.prog w r b0 26 v) (h : DataW.Trod enc Try.prog w base (fun _ => true) held 26 v d p) :
    ∃ (inp : Int) (al aa ab : Option Addr) (cl ca cb : Nat) (ls : List (Int × Bool)) (xs : List (Int × Int)) (bs : List Int), v = .agg #[.int .i64 inp, .slice al ls.length cl, .slice aa xs.length ca, .slice ab bs.length cb] ∧ IsCir w al aa ab cl ca cb ls xs bs ∧
      (∀ p ∈ ls, I64 p.1) ∧ (∀ p ∈ xs, I64 p.1 ∧ I64 p.2) ∧ (∀ x ∈ bs, I64 x) ∧ I64 inp := by
  obtain ⟨c0, c1, c2, c3, y0, y1, y2, y3, m, rfl, hd, _, hy0, hy1, hy2, hy3⟩ := open_agg4 Try.underlying26 (by kernel_rfl) cells_aig hv h
  obtain ⟨inp, e0, _, w0⟩ := DataW.trod_int Try.underlying3 hy0
  simp at e0
  subst e0
  obtain ⟨ls, hl, ll, l64⟩ := isLatches_of_trod hy1
  obtain ⟨xs, ha, la, a64⟩ := isAnds_of_trod hy2
  obtain ⟨bs, hb, lb, b64⟩ := isInts64_of_trod hy3
  obtain ⟨k1, k2, k3⟩ := aig_cells hv
  obtain ⟨al, cl, rfl, hl'⟩ := hl
  obtain ⟨aa, ca, rfl, ha'⟩ := ha
  obtain ⟨ab, cb, rfl, hb'⟩ := hb
  exact ⟨inp, al, aa, ab, cl, ca, cb, ls, xs, bs, rfl, ⟨⟨_, _, rfl, hl'⟩, ⟨_, _, rfl, ha'⟩, ⟨_, _, rfl, hb'⟩, fun b off e => by subst e; exact cell_slice_lt Try.underlying22 k1, fun b off e => by subst e; exact cell_slice_lt Try.underlying23 k2,
    fun b off e => by subst e; exact cell_slice_lt Try.underlying24 k3, ll, la, lb⟩, l64, a64, b64, i64_of_wf w0⟩
end

end Go.Proofs.Ytbdjdgamnnifjaa

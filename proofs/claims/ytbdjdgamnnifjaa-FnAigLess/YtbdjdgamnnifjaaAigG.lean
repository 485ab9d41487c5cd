/-
  The iterator over ands gives just the ands, each with its node.
-/
import Derived.Test.YtbdjdgamnnifjaaAigE
import Derived.Test.YtbdjdgamnnifjaaRangeAll
namespace Go.Proofs.Ytbdjdgamnnifjaa
open Go.RowKit Go.Deep Go.Shelf
set_option linter.unusedVariables false

attribute [local go_sem] Oper.semAt_some

theorem nodesFrom_get (f : Int) (xs : List (Int × Int)) (k : Nat) (h : k < xs.length) : (nodesFrom f xs xs.length)[k]? = some (f + (k : Int), xs.getD k (0, 0)) := by
  simp [nodesFrom, h]

/-- Old memory, and one block more, as it was. -/
def KpA (base Ba : Nat) (V V' : World) : Prop := Below base V V' ∧ V'.heap[Ba]? = V.heap[Ba]?

theorem KpA.trans {base Ba : Nat} {A B C : World} (h : KpA base Ba A B) (k : KpA base Ba B C) : KpA base Ba A C := ⟨h.1.trans k.1, k.2.trans h.2⟩
theorem KpA.refl (base Ba : Nat) (A : World) : KpA base Ba A A := ⟨Below.refl _ _, rfl⟩
theorem KpA.put {base Ba : Nat} {w : World} (hb : base ≤ w.heap.size) (hB : Ba < w.heap.size) (W : World) (l : Nat) (o o' : Obj) (hl : w.heap.size ≤ l) (h : W.heap[l]? = some o) (ho : o.isCells = false) : KpA base Ba W (W.putObj l o') :=
  ⟨(Below.refl base W).grown (grownBy_putObj' W l o') (by have := (Array.getElem?_eq_some_iff.1 h).1; omega) (fun k e => by cases e; omega), World.putObj_heap_other (by omega)⟩
theorem KpA.of_below {base Ba : Nat} {V V' : World} (hb : base ≤ V.heap.size) (hB : Ba < V.heap.size) (h : Below V.heap.size V V') : KpA base Ba V V' := ⟨h.mono hb, h.block Ba hB⟩

set_option maxRecDepth 100000 in
set_option maxHeartbeats 2000000 in
theorem andNodes_gives (n : Nat) (hn : 1 ≤ n) (Ba base : Nat) (inp : Int) (al aa ab : Option Addr) (nl cl ca nb cb : Nat) (xs : List (Int × Int)) (h0 : 0 ≤ inp) (h1 : inp ≤ 8) (h2 : nl ≤ 8) (h3 : xs.length ≤ 40) (w : World)
    (hn₀ : base ≤ w.heap.size) (hF0 : Own4 w Ba 33 (.int .i64 inp) (.slice al nl cl) (.slice aa xs.length ca) (.slice ab nb cb)) (hA0 : IsAnds w (.slice aa xs.length ca) xs) (hAb : ∀ b off, aa = some ⟨b, off, none⟩ → b < base) :
    GivesAll n Try.prog 96 #[.pointer (some ⟨Ba, 0, none⟩)] (fun x : Int × Int × Int => #[Value.int .i64 x.1, .agg #[.int .i64 x.2.1, .int .i64 x.2.2]]) (KpA base Ba) (nodesFrom (1 + inp + nl) xs xs.length) w := by
  intro l J W hW hJ hY hs
  rw [nodesFrom_length]
  have hF := hF0.below hW
  have hA := hA0.below hW
  replace hn₀ : base ≤ W.heap.size := Nat.le_trans hn₀ hW.size
  have hBa := hF.lt
  clear hF0 hA0 hW
  have hwr : ∀ k : Nat, k < xs.length → IntKind.i64.wrap (1 + inp + (nl : Int) + (k : Int)) = 1 + inp + (nl : Int) + (k : Int) := fun k hk => IntWalk.i64_in _ ⟨by omega, by omega⟩
  have HWR : Hid (∀ k : Nat, k < xs.length → IntKind.i64.wrap (1 + inp + (nl : Int) + (k : Int)) = 1 + inp + (nl : Int) + (k : Int)) := hwr
  clear hwr
  have c0 := hF.four.c0
  have c1 := hF.four.c1
  have c2 := hF.four.c2
  have c3 := hF.four.c3
  show CallsIn Fence.wide n Try.prog 96 #[.func (.yield l) #[] #[], .pointer (some ⟨Ba, 0, none⟩)] W _
  refine callsIn_of_wp Try.func96 rfl trivial ?_ rfl
  simp only [Try.ntmps96, List.size_toArray, List.length_cons, List.length_nil, Nat.reduceAdd, Nat.reduceSub, Array.replicate_succ, Array.replicate_zero, List.push_toArray, List.append_toArray, List.nil_append, List.cons_append]
  gi_wp2
  gi_loopw [8] (fun i wr => ∃ k : Nat, k ≤ xs.length ∧ i = .int .i64 k ∧ J k wr ∧ KpA base Ba W wr) (fun i _ => xs.length - (intOf i).toNat)
  case atStart => exact ⟨0, Nat.zero_le _, rfl, hs, KpA.refl _ _ _⟩
  case round =>
    obtain ⟨k, hk, rfl, hJs, hnx⟩ := hrel
    by_cases hlt : k < xs.length
    · obtain ⟨b, off, rfl, hcs⟩ : ∃ b off, aa = some ⟨b, off, none⟩ ∧ ∀ i, i < xs.length → W.cell? ⟨b, off + i * 2, none⟩ = some (.int .i64 (xs.getD i (0, 0)).1) ∧ W.cell? ⟨b, off + i * 2 + 1, none⟩ = some (.int .i64 (xs.getD i (0, 0)).2) := by
        obtain ⟨ao', cap', he, h⟩ := hA
        obtain ⟨b, off, ha, hc⟩ := h (by intro e; subst e; simp at hlt)
        injection he with e1 e2 e3
        exact ⟨b, off, e1.trans ha, hc⟩
      have hbn := hAb b off rfl
      obtain ⟨hc1, hc2⟩ := hcs k hlt
      have hwk := HWR.out k hlt
      have hYY : ∀ W', Below wr.heap.size wr W' → YieldAt Fence.wide (n - 1) Try.prog l #[.int .i64 (1 + inp + (nl : Int) + (k : Int)), .agg #[.int .i64 (xs.getD k (0, 0)).1, .int .i64 (xs.getD k (0, 0)).2]] W' fun e W3 =>
          e = .returned (.bool true) ∧ Hid (J (k + 1) W3 ∧ KpA base Ba W W3) := fun W' hW' => by
        have hle : base ≤ wr.heap.size := Nat.le_trans hn₀ hnx.1.size
        have hlB : Ba < wr.heap.size := Nat.lt_of_lt_of_le hBa hnx.1.size
        refine YieldAt.mono (hY k (1 + inp + (nl : Int) + (k : Int), xs.getD k (0, 0)) W' (nodesFrom_get _ xs k hlt) (hJ k _ _ hJs (grown_of_below hW'))) ?_
        rintro e W3 ⟨rfl, h4, h5⟩
        exact ⟨rfl, (show _ ∧ _ from ⟨h4, (hnx.trans (KpA.of_below hle hlB hW')).trans h5⟩)⟩
      have HYY : Hid (∀ W', Below wr.heap.size wr W' → YieldAt Fence.wide (n - 1) Try.prog l #[.int .i64 (1 + inp + (nl : Int) + (k : Int)), .agg #[.int .i64 (xs.getD k (0, 0)).1, .int .i64 (xs.getD k (0, 0)).2]] W' fun e W3 =>
          e = .returned (.bool true) ∧ Hid (J (k + 1) W3 ∧ KpA base Ba W W3)) := hYY
      clear hYY hcs
      generalize xs.getD k (0, 0) = q at *
      obtain ⟨q1, q2⟩ := q
      have hx1 : wr.cell? ⟨b, off + k * 2, none⟩ = some (.int .i64 q1) := (hnx.1.cell (p := ⟨b, off + k * 2, none⟩) hbn).trans hc1
      have hx2 : wr.cell? ⟨b, off + k * 2 + 1, none⟩ = some (.int .i64 q2) := (hnx.1.cell (p := ⟨b, off + k * 2 + 1, none⟩) hbn).trans hc2
      have hF1 : Four wr Ba (.int .i64 inp) (.slice al nl cl) (.slice (some ⟨b, off, none⟩) xs.length ca) (.slice ab nb cb) := Own4.four (hnx.2.trans hF)
      have e0 := hF1.c0
      have e1 := hF1.c1
      have e2 := hF1.c2
      have e3 := hF1.c3
      have hBl := hF1.lt
      have hmx : Try.prog.follows .mixedOrders = true := by kernel_rfl
      clear hc1 hc2 c0 c1 c2 c3 hF
      gi_wp2
      gi_region_with_o (first
        | (refine ⟨trivial, ?_⟩; gi_at_call 97; refine (callsIn_wide.2 (firstAnd_any _ _ _ _ _ _ _ _ _ _ _ h0 h1 h2)).mono ?_; rintro e w1 ⟨rfl, hb1⟩; have hbw : Below wr.heap.size wr w1 := belNext (belOne wr _) (by first | exact hb1 | exact undrew hb1); have hT := (Two.new wr (.int .i64 q1) (.int .i64 q2) 65).below (by first | exact hb1 | exact undrew hb1); have d0 := hT.c0; have d1 := hT.c1; have d2 := hT.lt; obtain ⟨fn, tmps, assign, body, hy, hR⟩ := HYY.out w1 hbw; clear hb1 hT)
        | (refine hR.mono ?_; rintro e W3 ⟨rfl, hp3⟩))
      all_goals
        gi_wp2
        go_roundw
        case rel => exact ⟨k + 1, by omega, by simp, hp3.out.1, hp3.out.2⟩
        case measure => simp [intOf]; omega
    · obtain rfl : k = xs.length := by omega
      gi_wp2
      go_end0
      exact ⟨⟨_, rfl⟩, hJs⟩

/-- The value is a slice of these truths. -/
def IsBits (w : World) (v : Value) (ms : List Bool) : Prop :=
  ∃ ao cap, v = .slice ao ms.length cap ∧ (ms ≠ [] → ∃ b off, ao = some ⟨b, off, none⟩ ∧ ∀ i, i < ms.length → w.cell? ⟨b, off + i, none⟩ = some (.bool (ms.getD i false)))

theorem IsBits.below {w w' : World} {v : Value} {ms : List Bool} (h : IsBits w v ms) (hb : Below w.heap.size w w') : IsBits w' v ms := by
  obtain ⟨ao, cap, rfl, h⟩ := h
  refine ⟨ao, cap, rfl, fun hne => ?_⟩
  obtain ⟨b, off, rfl, hc⟩ := h hne
  exact ⟨b, off, rfl, fun i hi => by rw [hb.cell (cell_lt (hc i hi))]; exact hc i hi⟩

theorem IsBits.drewN {w : World} {v : Value} {ms : List Bool} (h : IsBits w v ms) (n : Nat) : IsBits (w.drewN n) v ms := h

/-- What a literal of a circuit is, the nodes being so. -/
def litV (vs : List Bool) (x : Int) : Bool := vs.getD (x / 2).toNat false != decide (x % 2 = 1)

theorem bits_and_one (x : Int) (h0 : 0 ≤ x) (h1 : x ≤ 200) : Go.bits .and .i64 x 1 = x % 2 := by
  obtain ⟨n, rfl⟩ := Int.eq_ofNat_of_zero_le h0
  have h : ∀ m : Fin 201, Go.bits .and .i64 ((m.val : Nat) : Int) 1 = ((m.val : Nat) : Int) % 2 := by decide +kernel
  exact h ⟨n, by omega⟩

set_option maxHeartbeats 400000 in
theorem isOpposite_any (x : Int) (w : World) (h0 : 0 ≤ x) (h1 : x ≤ 200) :
    Calls Try.prog 98 #[.int .i64 x] w fun e w' => e = .returned (.bool (x % 2 == 1)) ∧ w' = w := by
  have hb := bits_and_one x h0 h1
  clear h0 h1
  go_enter Try.func98, Try.ntmps98
  go_wp2
  go_ret
  exact ⟨rfl, rfl⟩

set_option maxHeartbeats 1000000 in
theorem is_any (x : Int) (v : Value) (vs : List Bool) (w : World) (hv : IsBits w v vs) (h0 : 0 ≤ x) (hx : x < 2 * vs.length) (hl : vs.length ≤ 100) :
    Calls Try.prog 56 #[.int .i64 x, v] w fun e w' => e = .returned (.bool (litV vs x)) ∧ ∃ n, w' = w.drewN n := by
  obtain ⟨ao, cap, rfl, hv⟩ := hv
  obtain ⟨b, off, rfl, hc⟩ := hv (by intro e; subst e; simp at hx; omega)
  obtain ⟨k, hk⟩ : ∃ k : Nat, x / 2 = (k : Int) := ⟨(x / 2).toNat, by omega⟩
  have hkl : k < vs.length := by omega
  have hcell := hc k hkl
  have hr : litV vs x = (vs.getD k false != (x % 2 == 1)) := by
    unfold litV; rw [hk, Int.toNat_natCast]
    congr 1
  have hh : halfW x = (k : Int) := by rw [halfW_eq h0 (by unfold I64; omega), hk]
  have HN : Hid (∀ w, Calls Try.prog 72 #[.int .i64 x] w fun e w' => e = .returned (.int .i64 (k : Int)) ∧ w' = w) := fun w => by rw [← hh]; exact node_any x w
  rw [hr]
  obtain ⟨g, hg⟩ : ∃ g, (x % 2 == 1) = g := ⟨_, rfl⟩
  rw [hg]
  have HO : Hid (∀ w, Calls Try.prog 98 #[.int .i64 x] w fun e w' => e = .returned (.bool g) ∧ w' = w) := fun w => by rw [← hg]; exact isOpposite_any x w h0 (by omega)
  clear hc hv hr hk hg hh
  generalize vs.getD k false = m at *
  generalize vs.length = n at *
  go_enter Try.func56, Try.ntmps56
  go_wp2
  go_quiet ((first
    | (go_at_call 72; exact Calls.quiet_of_same (HN.out _))
    | (go_at_call 98; exact Calls.quiet_of_same (HO.out _))))
  go_wp2
  go_ret
  exact ⟨rfl, _, rfl⟩

end Go.Proofs.Ytbdjdgamnnifjaa

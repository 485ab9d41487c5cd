/-
  The iterator slices.Backward gives just the ands, from the last on, each with its place.
-/
import Derived.Test.YtbdjdgamnnifjaaNeed4
import Derived.Test.YtbdjdgamnnifjaaAigG
namespace Go.Proofs.Ytbdjdgamnnifjaa
open Go.RowKit Go.Deep Go.Shelf
set_option linter.unusedVariables false

attribute [local go_sem] Oper.semAt_some

/-- What is told, from the last on. -/
def backOf (xs : List (Int × Int)) : List (Int × Int × Int) := (List.range xs.length).map fun (i : Nat) => (((xs.length - 1 - i : Nat) : Int), xs.getD (xs.length - 1 - i) (0, 0))
theorem backOf_length (xs : List (Int × Int)) : (backOf xs).length = xs.length := by simp [backOf]
theorem backOf_get (xs : List (Int × Int)) (k : Nat) (h : k < xs.length) : (backOf xs)[k]? = some (((xs.length - 1 - k : Nat) : Int), xs.getD (xs.length - 1 - k) (0, 0)) := by
  simp [backOf, h]

/-- Old memory but one row, and one block more, as it was. -/
structure KpN (base Br Bx : Nat) (V V' : World) : Prop where
  os : V'.os = V.os
  tape : V'.tape = V.tape
  output : V'.output = V.output
  size : V.heap.size ≤ V'.heap.size
  old : ∀ k, k < base → k ≠ Br → V'.heap[k]? = V.heap[k]?
  box : V'.heap[Bx]? = V.heap[Bx]?

theorem KpN.trans {base Br Bx : Nat} {A B C : World} (h : KpN base Br Bx A B) (k : KpN base Br Bx B C) : KpN base Br Bx A C :=
  ⟨k.os.trans h.os, k.tape.trans h.tape, k.output.trans h.output, Nat.le_trans h.size k.size, fun i hi hn => (k.old i hi hn).trans (h.old i hi hn), k.box.trans h.box⟩
theorem KpN.refl (base Br Bx : Nat) (A : World) : KpN base Br Bx A A := ⟨rfl, rfl, rfl, Nat.le_refl _, fun _ _ _ => rfl, rfl⟩
theorem KpN.put {base Br Bx : Nat} {w : World} (hb : base ≤ w.heap.size) (hB : Bx < w.heap.size) (W : World) (l : Nat) (o o' : Obj) (hl : w.heap.size ≤ l) (h : W.heap[l]? = some o) (ho : o.isCells = false) : KpN base Br Bx W (W.putObj l o') := by
  have hg := grownBy_putObj' W l o'
  exact ⟨hg.os, hg.tape, hg.output, hg.size, fun k hk _ => World.putObj_heap_other (by omega), World.putObj_heap_other (by omega)⟩
theorem KpN.of_below {base Br Bx : Nat} {V V' : World} (hb : base ≤ V.heap.size) (hB : Bx < V.heap.size) (h : Below V.heap.size V V') : KpN base Br Bx V V' :=
  ⟨h.os, h.tape, h.output, h.size, fun k hk _ => h.block k (by omega), h.block Bx hB⟩

set_option maxRecDepth 100000 in
set_option maxHeartbeats 2000000 in
theorem backward_gives (n : Nat) (hn : 1 ≤ n) (base Br Bx : Nat) (aa : Option Addr) (ca : Nat) (xs : List (Int × Int)) (h3 : xs.length ≤ 40) (w : World)
    (hn₀ : base ≤ w.heap.size) (hF0 : w.heap[Bx]? = some (.cells #[.slice aa xs.length ca] 31 (0, 0))) (hA0 : IsAnds w (.slice aa xs.length ca) xs) (hAb : ∀ b off, aa = some ⟨b, off, none⟩ → b < base ∧ b ≠ Br) :
    GivesAll n Try.prog 117 #[.pointer (some ⟨Bx, 0, none⟩)] (fun x : Int × Int × Int => #[Value.int .i64 x.1, .agg #[.int .i64 x.2.1, .int .i64 x.2.2]]) (KpN base Br Bx) (backOf xs) w := by
  intro l J W hW hJ hY hs
  rw [backOf_length]
  have hBw : Bx < w.heap.size := (Array.getElem?_eq_some_iff.1 hF0).1
  have hF : W.heap[Bx]? = some (.cells #[.slice aa xs.length ca] 31 (0, 0)) := (hW.block Bx hBw).trans hF0
  have hA := hA0.below hW
  replace hn₀ : base ≤ W.heap.size := Nat.le_trans hn₀ hW.size
  have hBl : Bx < W.heap.size := (Array.getElem?_eq_some_iff.1 hF).1
  clear hF0 hA0 hW hBw
  have cB : ∀ V : World, V.heap[Bx]? = W.heap[Bx]? → V.cell? ⟨Bx, 0, none⟩ = some (.slice aa xs.length ca) := fun V e => by simp [World.cell?, e, hF]
  have c0 := cB W rfl
  have HCB : Hid (∀ V : World, V.heap[Bx]? = W.heap[Bx]? → V.cell? ⟨Bx, 0, none⟩ = some (.slice aa xs.length ca)) := cB
  clear cB
  show CallsIn Fence.wide n Try.prog 117 #[.func (.yield l) #[] #[], .pointer (some ⟨Bx, 0, none⟩)] W _
  refine callsIn_of_wp Try.func117 rfl trivial ?_ rfl
  simp only [Try.ntmps117, List.size_toArray, List.length_cons, List.length_nil, Nat.reduceAdd, Nat.reduceSub, Array.replicate_succ, Array.replicate_zero, List.push_toArray, List.append_toArray, List.nil_append, List.cons_append]
  gi_wp2
  gi_loopw [3] (fun i wr => ∃ k : Nat, k ≤ xs.length ∧ i = .int .i64 ((xs.length : Int) - 1 - k) ∧ J k wr ∧ KpN base Br Bx W wr) (fun i _ => (intOf i + 1).toNat)
  case atStart => exact ⟨0, Nat.zero_le _, by simp, hs, KpN.refl _ _ _ _⟩
  case round =>
    obtain ⟨k, hk, rfl, hJs, hnx⟩ := hrel
    by_cases hlt : k < xs.length
    · obtain ⟨b, off, rfl, hcs⟩ : ∃ b off, aa = some ⟨b, off, none⟩ ∧ ∀ i, i < xs.length → W.cell? ⟨b, off + i * 2, none⟩ = some (.int .i64 (xs.getD i (0, 0)).1) ∧ W.cell? ⟨b, off + i * 2 + 1, none⟩ = some (.int .i64 (xs.getD i (0, 0)).2) := by
        obtain ⟨ao', cap', he, h⟩ := hA
        obtain ⟨b, off, ha, hc⟩ := h (by intro e; subst e; simp at hlt)
        injection he with e1 e2 e3
        exact ⟨b, off, e1.trans ha, hc⟩
      obtain ⟨hbn, hbr⟩ := hAb b off rfl
      obtain ⟨j, hj⟩ : ∃ j, xs.length - 1 - k = j := ⟨_, rfl⟩
      have hjl : j < xs.length := by omega
      have hji : (xs.length : Int) - 1 - (k : Int) = (j : Int) := by omega
      obtain ⟨hc1, hc2⟩ := hcs j hjl
      have hg := backOf_get xs k hlt
      rw [hj] at hg
      have hYY : YieldAt Fence.wide (n - 1) Try.prog l #[.int .i64 (j : Int), .agg #[.int .i64 (xs.getD j (0, 0)).1, .int .i64 (xs.getD j (0, 0)).2]] wr fun e W3 => e = .returned (.bool true) ∧ Hid (J (k + 1) W3 ∧ KpN base Br Bx W W3) := by
        refine YieldAt.mono (hY k ((j : Int), xs.getD j (0, 0)) wr hg hJs) ?_
        rintro e W3 ⟨rfl, h4, h5⟩
        exact ⟨rfl, (show _ ∧ _ from ⟨h4, hnx.trans h5⟩)⟩
      have hbo := hnx.old b hbn hbr
      have hx1 := (World.cell?_of_block (a := ⟨b, off + j * 2, none⟩) hbo).trans hc1
      have hx2 := (World.cell?_of_block (a := ⟨b, off + j * 2 + 1, none⟩) hbo).trans hc2
      have hz0 := HCB.out wr hnx.box
      have hjk : Hid ((xs.length : Int) - 1 - ((k + 1 : Nat) : Int) = (j : Int) - 1) := by show _ = _; omega
      clear hcs hc1 hc2 hbo hg c0
      generalize xs.getD j (0, 0) = q at *
      obtain ⟨q1, q2⟩ := q
      have hx1 : wr.cell? ⟨b, off + j * 2, none⟩ = some (.int .i64 q1) := hx1
      have hx2 : wr.cell? ⟨b, off + j * 2 + 1, none⟩ = some (.int .i64 q2) := hx2
      obtain ⟨fn, tmps, assign, body, hy, hR⟩ := hYY
      rw [hji]
      clear hA hAb
      gi_wp2
      refine hR.mono ?_
      rintro e W3 ⟨rfl, hp3⟩
      gi_wp2
      go_roundw
      case rel => exact ⟨k + 1, by omega, by rw [hjk.out], hp3.out.1, hp3.out.2⟩
      case measure => simp [intOf]
    · obtain rfl : k = xs.length := by omega
      gi_wp2
      go_end0
      exact ⟨⟨_, rfl⟩, hJs⟩

end Go.Proofs.Ytbdjdgamnnifjaa

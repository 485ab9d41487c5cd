/-
  A circuit without what is needless: what a circuit is for, told one by one; roots marked.
-/
import Derived.Test.YtbdjdgamnnifjaaLess11
import Derived.Test.YtbdjdgamnnifjaaLess13
namespace Go.Proofs.Ytbdjdgamnnifjaa
open Go.RowKit Go.Deep Go.Shelf
set_option linter.unusedVariables false

attribute [local go_sem] Oper.semAt_some

theorem endsOf_length (ls : List (Int × Bool)) (bs : List Int) : (endsOf ls bs).length = ls.length + bs.length := by simp [endsOf]
theorem endsOf_get1 (ls : List (Int × Bool)) (bs : List Int) (k : Nat) (h : k < ls.length) : (endsOf ls bs)[k]? = some (ls.getD k (0, false)).1 := by
  unfold endsOf
  rw [List.getElem?_append_left (by simpa using h)]
  simp [List.getD, h]
theorem endsOf_get2 (ls : List (Int × Bool)) (bs : List Int) (k : Nat) (h : k < bs.length) : (endsOf ls bs)[ls.length + k]? = some (bs.getD k 0) := by
  unfold endsOf
  rw [List.getElem?_append_right (by simp)]
  simp [List.getD, h]

set_option maxRecDepth 100000 in
set_option maxHeartbeats 2000000 in
theorem ends_gives (n : Nat) (hn : 1 ≤ n) (Ba base : Nat) (inp : Int) (al aa ab : Option Addr) (cl na ca cb : Nat) (ls : List (Int × Bool)) (bs : List Int) (h2 : ls.length ≤ 8) (h3 : bs.length ≤ 4) (w : World)
    (hn₀ : base ≤ w.heap.size) (hF0 : Own4 w Ba 33 (.int .i64 inp) (.slice al ls.length cl) (.slice aa na ca) (.slice ab bs.length cb)) (hL0 : IsLatches w (.slice al ls.length cl) ls) (hB0 : IsInts w (.slice ab bs.length cb) bs)
    (hLb : ∀ b off, al = some ⟨b, off, none⟩ → b < base) (hBb : ∀ b off, ab = some ⟨b, off, none⟩ → b < base) :
    GivesAll n Try.prog 115 #[.pointer (some ⟨Ba, 0, none⟩)] (fun x : Int => #[Value.int .i64 x]) (KpA base Ba) (endsOf ls bs) w := by
  intro l J W hW hJ hY hs
  rw [endsOf_length]
  have hF := hF0.below hW
  have hL := hL0.below hW
  have hB := hB0.below hW
  replace hn₀ : base ≤ W.heap.size := Nat.le_trans hn₀ hW.size
  have hBa := hF.lt
  clear hF0 hL0 hB0 hW
  have HF : Hid (∀ V : World, V.heap[Ba]? = W.heap[Ba]? → Four V Ba (.int .i64 inp) (.slice al ls.length cl) (.slice aa na ca) (.slice ab bs.length cb)) := fun V e => Own4.four (e.trans hF)
  have c0 := hF.four.c0
  have c1 := hF.four.c1
  have c2 := hF.four.c2
  have c3 := hF.four.c3
  show CallsIn Fence.wide n Try.prog 115 #[.func (.yield l) #[] #[], .pointer (some ⟨Ba, 0, none⟩)] W _
  refine callsIn_of_wp Try.func115 rfl trivial ?_ rfl
  simp only [Try.ntmps115, List.size_toArray, List.length_cons, List.length_nil, Nat.reduceAdd, Nat.reduceSub, Array.replicate_succ, Array.replicate_zero, List.push_toArray, List.append_toArray, List.nil_append, List.cons_append]
  gi_wp2
  gi_loopw [10] (fun i wr => ∃ k : Nat, k ≤ ls.length ∧ i = .int .i64 k ∧ J k wr ∧ KpA base Ba W wr) (fun i _ => ls.length - (intOf i).toNat)
  case atStart => exact ⟨0, Nat.zero_le _, rfl, hs, KpA.refl _ _ _⟩
  case round =>
    obtain ⟨k, hk, rfl, hJs, hnx⟩ := hrel
    have hle : base ≤ wr.heap.size := Nat.le_trans hn₀ hnx.1.size
    have hlB : Ba < wr.heap.size := Nat.lt_of_lt_of_le hBa hnx.1.size
    by_cases hlt : k < ls.length
    · obtain ⟨b, off, rfl, hcs⟩ : ∃ b off, al = some ⟨b, off, none⟩ ∧ ∀ i, i < ls.length → W.cell? ⟨b, off + i * 2, none⟩ = some (.int .i64 (ls.getD i (0, false)).1) ∧ W.cell? ⟨b, off + i * 2 + 1, none⟩ = some (.bool (ls.getD i (0, false)).2) := by
        obtain ⟨ao', cap', he, h⟩ := hL
        obtain ⟨b, off, ha, hc⟩ := h (by intro e; subst e; simp at hlt)
        injection he with e1 e2 e3
        exact ⟨b, off, e1.trans ha, hc⟩
      have hbn := hLb b off rfl
      obtain ⟨hc1, hc2⟩ := hcs k hlt
      have hYY : ∀ W', Below wr.heap.size wr W' → YieldAt Fence.wide (n - 1) Try.prog l #[.int .i64 (ls.getD k (0, false)).1] W' fun e W3 =>
          e = .returned (.bool true) ∧ Hid (J (k + 1) W3 ∧ KpA base Ba W W3) := fun W' hW' => by
        refine YieldAt.mono (hY k (ls.getD k (0, false)).1 W' (endsOf_get1 ls bs k hlt) (hJ k _ _ hJs (grown_of_below hW'))) ?_
        rintro e W3 ⟨rfl, h4, h5⟩
        exact ⟨rfl, (show _ ∧ _ from ⟨h4, (hnx.trans (KpA.of_below hle hlB hW')).trans h5⟩)⟩
      clear hcs
      generalize ls.getD k (0, false) = q at *
      obtain ⟨q1, q2⟩ := q
      obtain ⟨fn, tmps, assign, body, hy, hR⟩ := hYY (wr.alloc (.cells #[.int .i64 q1, .bool q2] 86)) (belOne _ _)
      have hx1 : wr.cell? ⟨b, off + k * 2, none⟩ = some (.int .i64 q1) := (hnx.1.cell (p := ⟨b, off + k * 2, none⟩) hbn).trans hc1
      have hx2 : wr.cell? ⟨b, off + k * 2 + 1, none⟩ = some (.bool q2) := (hnx.1.cell (p := ⟨b, off + k * 2 + 1, none⟩) hbn).trans hc2
      dsimp only at hy
      clear hc1 hc2 hF hYY hL hB hLb hBb
      gi_wp2
      refine hR.mono ?_
      rintro e W3 ⟨rfl, hp3⟩
      gi_wp2
      go_roundw
      case rel => exact ⟨k + 1, by omega, by simp, hp3.out.1, hp3.out.2⟩
      case measure => simp [intOf]; omega
    · obtain rfl : k = ls.length := by omega
      have e3 := (HF.out wr hnx.2).c3
      gi_wp2
      gi_loopw [23] (fun i wq => ∃ k : Nat, k ≤ bs.length ∧ i = .int .i64 k ∧ J (ls.length + k) wq ∧ KpA base Ba W wq) (fun i _ => bs.length - (intOf i).toNat)
      case atStart => exact ⟨0, Nat.zero_le _, rfl, hJs, hnx⟩
      case round =>
        rename World => wq
        obtain ⟨k, hk, rfl, hJq, hnq⟩ := hrel
        by_cases hlt : k < bs.length
        · obtain ⟨b, off, rfl, hcs⟩ : ∃ b off, ab = some ⟨b, off, none⟩ ∧ ∀ i, i < bs.length → W.cell? ⟨b, off + i, none⟩ = some (.int .i64 (bs.getD i 0)) := by
            obtain ⟨ao', cap', he, h⟩ := hB
            obtain ⟨b, off, ha, hc⟩ := h (by intro e; subst e; simp at hlt)
            injection he with e1 e2 e3
            exact ⟨b, off, e1.trans ha, hc⟩
          have hbn := hBb b off rfl
          have hc1 := hcs k hlt
          have hYY : YieldAt Fence.wide (n - 1) Try.prog l #[.int .i64 (bs.getD k 0)] wq fun e W3 =>
              e = .returned (.bool true) ∧ Hid (J (ls.length + (k + 1)) W3 ∧ KpA base Ba W W3) := by
            refine YieldAt.mono (hY (ls.length + k) (bs.getD k 0) wq (endsOf_get2 ls bs k hlt) hJq) ?_
            rintro e W3 ⟨rfl, h4, h5⟩
            exact ⟨rfl, (show _ ∧ _ from ⟨h4, hnq.trans h5⟩)⟩
          clear hcs
          generalize bs.getD k 0 = q at *
          obtain ⟨fn, tmps, assign, body, hy, hR⟩ := hYY
          have hx1 : wq.cell? ⟨b, off + k, none⟩ = some (.int .i64 q) := (hnq.1.cell (p := ⟨b, off + k, none⟩) hbn).trans hc1
          clear hc1 hF hL hB hLb hBb
          gi_wp2
          refine hR.mono ?_
          rintro e W3 ⟨rfl, hp3⟩
          gi_wp2
          go_roundw
          case rel => exact ⟨k + 1, by omega, by simp, hp3.out.1, hp3.out.2⟩
          case measure => simp [intOf]; omega
        · obtain rfl : k = bs.length := by omega
          gi_wp2
          go_end0
          exact ⟨⟨_, rfl⟩, hJq⟩

end Go.Proofs.Ytbdjdgamnnifjaa

/-
  How many nodes a circuit has; what its two iterators give.
-/
import Derived.Test.YtbdjdgamnnifjaaAigA
import Derived.Deep.RegionHeld3
import Derived.RangeFuncNested
import Derived.RangeFuncBound
import Derived.RangeFuncCalls
import Derived.RangeFuncLeaves
import Derived.Shelf.Abstract
import Derived.Shelf.RegionOpen
import Derived.WalkKit
import Derived.OwnWalkIn
import Derived.TacticsInMore
import Derived.LoopNIn
import Derived.LoopIn
namespace Go.Proofs.Ytbdjdgamnnifjaa
open Go.RowKit Go.Deep Go.Shelf
set_option linter.unusedVariables false

attribute [local go_sem] Oper.semAt_some

set_option maxHeartbeats 1000000 in
theorem nodesOf_any (inp : Int) (al aa ab : Option Addr) (nl cl na ca nb cb : Nat) (w : World) (h0 : 0 ≤ inp) (h1 : inp ≤ 8) (h2 : nl ≤ 8) (h3 : na ≤ 40) :
    Calls Try.prog 71 #[.agg #[.int .i64 inp, .slice al nl cl, .slice aa na ca, .slice ab nb cb]] w fun e w' => e = .returned (.int .i64 (1 + inp + nl + na)) ∧ Below w.heap.size w w' := by
  have HB : Hid (∀ o, Below w.heap.size w (w.alloc o)) := fun o => belOne _ _
  have hwr : IntKind.i64.wrap (1 + inp + (nl : Int) + (na : Int)) = 1 + inp + (nl : Int) + (na : Int) := IntWalk.i64_in _ ⟨by omega, by omega⟩
  go_enter Try.func71, Try.ntmps71
  go_wp2
  go_region_held3 (fun w' => w'.cell? ⟨w.heap.size, 0, none⟩ = some (.int .i64 inp) ∧ w'.cell? ⟨w.heap.size, 1, none⟩ = some (.slice al nl cl) ∧ w'.cell? ⟨w.heap.size, 2, none⟩ = some (.slice aa na ca) ∧ w'.cell? ⟨w.heap.size, 3, none⟩ = some (.slice ab nb cb))
    (first | (go_keep; done) | exact ⟨by assumption, by assumption, by assumption, by assumption⟩)
    (first | (go_simp; go_at_call 97; refine (firstAnd_any _ _ _ _ _ _ _ _ _ _ _ h0 h1 h2).mono ?_; rintro e w1 ⟨rfl, hb1⟩; have HB1 : Hid (Below w.heap.size w w1) := belNext (HB.out _) (by first | exact hb1 | exact undrew hb1); have hF := (Four.new w (.int .i64 inp) (.slice al nl cl) (.slice aa na ca) (.slice ab nb cb) 33).below (by first | exact hb1 | exact undrew hb1); have d0 := hF.c0; have d1 := hF.c1; have d2 := hF.c2; have d3 := hF.c3; clear hb1 hF))
  all_goals go_wp2
  all_goals go_ret
  all_goals exact ⟨rfl, HB1.out⟩

/-- What the iterator over ands gives, from node f on. -/
def nodesFrom (f : Int) (xs : List (Int × Int)) (k : Nat) : List (Int × Int × Int) := (List.range k).map fun (i : Nat) => (f + (i : Int), xs.getD i (0, 0))
theorem nodesFrom_succ (f : Int) (xs : List (Int × Int)) (k : Nat) : nodesFrom f xs (k + 1) = nodesFrom f xs k ++ [(f + (k : Int), xs.getD k (0, 0))] := by simp [nodesFrom, List.range_succ]
theorem nodesFrom_length (f : Int) (xs : List (Int × Int)) (k : Nat) : (nodesFrom f xs k).length = k := by simp [nodesFrom]

theorem grown_of_below {w w' : World} (h : Below w.heap.size w w') : w.grownBy w' none := ⟨h.os, h.tape, h.output, h.size, fun k hk _ => h.block k hk⟩

set_option maxRecDepth 100000 in
set_option maxHeartbeats 2000000 in
theorem andNodes1_in (n : Nat) (hn : 1 ≤ n) (l Ba n₀ : Nat) (inp : Int) (al aa ab : Option Addr) (nl cl ca nb cb : Nat) (xs : List (Int × Int)) (h0 : 0 ≤ inp) (h1 : inp ≤ 8) (h2 : nl ≤ 8) (h3 : xs.length ≤ 40) (J Jx : List (Int × Int × Int) → World → Prop) (W : World) (hJ : AbidesFrom W.heap.size J)
    (hY : ∀ pre x W, J pre W → pre.length < xs.length → YieldAt Fence.wide (n - 1) Try.prog l #[.int .i64 x.1, .agg #[.int .i64 x.2.1, .int .i64 x.2.2]] W fun e W' =>
      (e = .returned (.bool true) ∧ J (pre ++ [x]) W' ∧ Below n₀ W W') ∨ (e = .returned (.bool false) ∧ Jx (pre ++ [x]) W'))
    (hn₀ : n₀ ≤ W.heap.size) (hBa : Ba < n₀) (hF : Four W Ba (.int .i64 inp) (.slice al nl cl) (.slice aa xs.length ca) (.slice ab nb cb)) (hA : IsAnds W (.slice aa xs.length ca) xs) (hAb : ∀ b off, aa = some ⟨b, off, none⟩ → b < n₀) (hs : J [] W) :
    CallsIn Fence.wide n Try.prog 96 #[.func (.yield l) #[] #[], .pointer (some ⟨Ba, 0, none⟩)] W fun e W' => (∃ v, e = .returned v) ∧
      ((∃ ys, ys = nodesFrom (1 + inp + nl) xs xs.length ∧ J ys W') ∨ (∃ pre, (∃ k, k ≤ xs.length ∧ pre = nodesFrom (1 + inp + nl) xs k) ∧ Jx pre W')) := by
  have hwr : ∀ k : Nat, k < xs.length → IntKind.i64.wrap (1 + inp + (nl : Int) + (k : Int)) = 1 + inp + (nl : Int) + (k : Int) := fun k hk => IntWalk.i64_in _ ⟨by omega, by omega⟩
  have HWR : Hid (∀ k : Nat, k < xs.length → IntKind.i64.wrap (1 + inp + (nl : Int) + (k : Int)) = 1 + inp + (nl : Int) + (k : Int)) := hwr
  clear hwr
  have c0 := hF.c0
  have c1 := hF.c1
  have c2 := hF.c2
  have c3 := hF.c3
  refine callsIn_of_wp Try.func96 rfl trivial ?_ rfl
  simp only [Try.ntmps96, List.size_toArray, List.length_cons, List.length_nil, Nat.reduceAdd, Nat.reduceSub, Array.replicate_succ, Array.replicate_zero, List.push_toArray, List.append_toArray, List.nil_append, List.cons_append]
  gi_wp2
  gi_loopw [8] (fun i wr => ∃ k : Nat, k ≤ xs.length ∧ i = .int .i64 k ∧ J (nodesFrom (1 + inp + nl) xs k) wr ∧ Below n₀ W wr) (fun i _ => xs.length - (intOf i).toNat)
  case atStart => exact ⟨0, Nat.zero_le _, rfl, hs, Below.refl _ _⟩
  case round =>
    obtain ⟨k, hk, rfl, hJs, hnx⟩ := hrel
    by_cases hlt : k < xs.length
    · obtain ⟨b, off, rfl, hcs⟩ : ∃ b off, aa = some ⟨b, off, none⟩ ∧ ∀ i, i < xs.length → W.cell? ⟨b, off + i * 2, none⟩ = some (.int .i64 (xs.getD i (0, 0)).1) ∧ W.cell? ⟨b, off + i * 2 + 1, none⟩ = some (.int .i64 (xs.getD i (0, 0)).2) := by
        obtain ⟨ao', cap', he, h⟩ := hA
        obtain ⟨b, off, ha, hc⟩ := h (by intro e; subst e; simp at hlt)
        injection he with e1 e2 e3
        exact ⟨b, off, e1.trans ha, hc⟩
      have hbn := hAb b off rfl
      obtain ⟨hc1, hc2⟩ := hcs k hlt
      have hwk := HWR.out k hlt
      have hYY : ∀ W', Below wr.heap.size wr W' → YieldAt Fence.wide (n - 1) Try.prog l #[.int .i64 (1 + inp + (nl : Int) + (k : Int)), .agg #[.int .i64 (xs.getD k (0, 0)).1, .int .i64 (xs.getD k (0, 0)).2]] W' fun e W3 =>
          ∃ bb : Bool, e = .returned (.bool bb) ∧ Hid ((bb = true → J (nodesFrom (1 + inp + nl) xs (k + 1)) W3 ∧ Below n₀ W W3) ∧ (bb = false → Jx (nodesFrom (1 + inp + nl) xs (k + 1)) W3)) := fun W' hW' => by
        have hle : n₀ ≤ wr.heap.size := Nat.le_trans hn₀ hnx.size
        refine YieldAt.mono (hY (nodesFrom (1 + inp + nl) xs k) (1 + inp + (nl : Int) + (k : Int), xs.getD k (0, 0)) W' (hJ _ _ _ none hJs (grown_of_below hW') (fun r e => by cases e)) (by rw [nodesFrom_length]; exact hlt)) ?_
        rintro e W3 (⟨rfl, h4, h5⟩ | ⟨rfl, h4⟩)
        · exact ⟨true, rfl, (show _ ∧ _ from ⟨fun _ => ⟨by rw [nodesFrom_succ]; exact h4, (hnx.trans (hW'.mono hle)).trans h5⟩, fun h => (by cases h)⟩)⟩
        · exact ⟨false, rfl, (show _ ∧ _ from ⟨fun h => (by cases h), fun _ => (by rw [nodesFrom_succ]; exact h4)⟩)⟩
      have HYY : Hid (∀ W', Below wr.heap.size wr W' → YieldAt Fence.wide (n - 1) Try.prog l #[.int .i64 (1 + inp + (nl : Int) + (k : Int)), .agg #[.int .i64 (xs.getD k (0, 0)).1, .int .i64 (xs.getD k (0, 0)).2]] W' fun e W3 =>
          ∃ bb : Bool, e = .returned (.bool bb) ∧ Hid ((bb = true → J (nodesFrom (1 + inp + nl) xs (k + 1)) W3 ∧ Below n₀ W W3) ∧ (bb = false → Jx (nodesFrom (1 + inp + nl) xs (k + 1)) W3))) := hYY
      clear hYY hcs
      generalize xs.getD k (0, 0) = q at *
      obtain ⟨q1, q2⟩ := q
      have hx1 : wr.cell? ⟨b, off + k * 2, none⟩ = some (.int .i64 q1) := (hnx.cell (p := ⟨b, off + k * 2, none⟩) hbn).trans hc1
      have hx2 : wr.cell? ⟨b, off + k * 2 + 1, none⟩ = some (.int .i64 q2) := (hnx.cell (p := ⟨b, off + k * 2 + 1, none⟩) hbn).trans hc2
      have hF1 : Four wr Ba (.int .i64 inp) (.slice al nl cl) (.slice (some ⟨b, off, none⟩) xs.length ca) (.slice ab nb cb) := ⟨Nat.lt_of_lt_of_le hBa (Nat.le_trans hn₀ hnx.size), (hnx.cell (p := ⟨Ba, 0, none⟩) hBa).trans c0, (hnx.cell (p := ⟨Ba, 1, none⟩) hBa).trans c1, (hnx.cell (p := ⟨Ba, 2, none⟩) hBa).trans c2, (hnx.cell (p := ⟨Ba, 3, none⟩) hBa).trans c3⟩
      have e0 := hF1.c0
      have e1 := hF1.c1
      have e2 := hF1.c2
      have e3 := hF1.c3
      have hBl := hF1.lt
      have hmx : Try.prog.follows .mixedOrders = true := by kernel_rfl
      clear hc1 hc2 c0 c1 c2 c3 hF
      gi_wp2
      gi_region_with_o (first
        | (refine ⟨trivial, ?_⟩; gi_at_call 97; refine (callsIn_wide.2 (firstAnd_any _ _ _ _ _ _ _ _ _ _ _ h0 h1 h2)).mono ?_; rintro e w1 ⟨rfl, hb1⟩; have hbw : Below wr.heap.size wr w1 := belNext (belOne wr _) (by first | exact hb1 | exact undrew hb1); have hT := (Two.new wr (.int .i64 q1) (.int .i64 q2) 65).below (by first | exact hb1 | exact undrew hb1); have d0 := hT.c0; have d1 := hT.c1; have d2 := hT.lt; obtain ⟨fn, tmps, assign, body, hy, hR⟩ := HYY.out w1 hbw; clear hb1 hT)
        | (refine hR.mono ?_; rintro e W3 ⟨bb, rfl, hp3⟩))
      all_goals
        cases bb with
        | true =>
          gi_wp2
          go_roundw
          case rel => exact ⟨k + 1, by omega, by simp, (hp3.out.1 rfl).1, (hp3.out.1 rfl).2⟩
          case measure => simp [intOf]; omega
        | false =>
          gi_wp2
          refine bodyPost_ret (results_none rfl _ _ _) rfl ?_
          exact ⟨⟨_, rfl⟩, .inr ⟨_, ⟨k + 1, by omega, rfl⟩, (by first | exact hp3.out.2 rfl | exact hp3.out.2 trivial)⟩⟩
    · obtain rfl : k = xs.length := by omega
      gi_wp2
      go_end0
      exact ⟨⟨_, rfl⟩, .inl ⟨_, rfl, hJs⟩⟩

/-- What the iterator over what a circuit is for gives. -/
def endsOf (ls : List (Int × Bool)) (bs : List Int) : List Int := ls.map (·.1) ++ bs

theorem map_take_succ (ls : List (Int × Bool)) (k : Nat) (h : k < ls.length) : (ls.take (k + 1)).map (·.1) = (ls.take k).map (·.1) ++ [(ls.getD k (0, false)).1] := by
  rw [List.take_succ_eq_append_getElem h, List.map_append]
  simp [List.getD, List.getElem?_eq_getElem h]
theorem take_snoc' (bs : List Int) (k : Nat) (h : k < bs.length) : bs.take (k + 1) = bs.take k ++ [bs.getD k 0] := by
  rw [List.take_succ_eq_append_getElem h]
  simp [List.getD, List.getElem?_eq_getElem h]

theorem take_le_prefix (ls : List (Int × Bool)) (bs : List Int) (k : Nat) : (ls.take k).map (·.1) <+: endsOf ls bs := by
  unfold endsOf
  exact ((List.take_prefix k ls).map _).trans (List.prefix_append _ _)
theorem take_le_prefix' (ls : List (Int × Bool)) (bs : List Int) (k : Nat) : ls.map (·.1) ++ bs.take k <+: endsOf ls bs := by
  unfold endsOf
  exact (List.prefix_append_right_inj _).2 (List.take_prefix k bs)

set_option maxRecDepth 100000 in
set_option maxHeartbeats 2000000 in
theorem ends1_in (n : Nat) (hn : 1 ≤ n) (l Ba n₀ : Nat) (inp : Int) (al aa ab : Option Addr) (cl na ca cb : Nat) (ls : List (Int × Bool)) (bs : List Int) (h2 : ls.length ≤ 8) (h3 : bs.length ≤ 4) (J Jx : List Int → World → Prop) (W : World) (hJ : AbidesFrom W.heap.size J)
    (hY : ∀ pre x W, J pre W → pre.length < ls.length + bs.length → YieldAt Fence.wide (n - 1) Try.prog l #[.int .i64 x] W fun e W' =>
      (e = .returned (.bool true) ∧ J (pre ++ [x]) W' ∧ Below n₀ W W') ∨ (e = .returned (.bool false) ∧ Jx (pre ++ [x]) W'))
    (hn₀ : n₀ ≤ W.heap.size) (hBa : Ba < n₀) (hF : Four W Ba (.int .i64 inp) (.slice al ls.length cl) (.slice aa na ca) (.slice ab bs.length cb)) (hL : IsLatches W (.slice al ls.length cl) ls) (hB : IsInts W (.slice ab bs.length cb) bs)
    (hLb : ∀ b off, al = some ⟨b, off, none⟩ → b < n₀) (hBb : ∀ b off, ab = some ⟨b, off, none⟩ → b < n₀) (hs : J [] W) :
    CallsIn Fence.wide n Try.prog 115 #[.func (.yield l) #[] #[], .pointer (some ⟨Ba, 0, none⟩)] W fun e W' => (∃ v, e = .returned v) ∧
      ((∃ ys, ys = endsOf ls bs ∧ J ys W') ∨ (∃ pre, pre <+: endsOf ls bs ∧ Jx pre W')) := by
  have c0 := hF.c0
  have c1 := hF.c1
  have c2 := hF.c2
  have c3 := hF.c3
  refine callsIn_of_wp Try.func115 rfl trivial ?_ rfl
  simp only [Try.ntmps115, List.size_toArray, List.length_cons, List.length_nil, Nat.reduceAdd, Nat.reduceSub, Array.replicate_succ, Array.replicate_zero, List.push_toArray, List.append_toArray, List.nil_append, List.cons_append]
  gi_wp2
  gi_loopw [10] (fun i wr => ∃ k : Nat, k ≤ ls.length ∧ i = .int .i64 k ∧ J ((ls.take k).map (·.1)) wr ∧ Below n₀ W wr) (fun i _ => ls.length - (intOf i).toNat)
  case atStart => exact ⟨0, Nat.zero_le _, rfl, hs, Below.refl _ _⟩
  case round =>
    obtain ⟨k, hk, rfl, hJs, hnx⟩ := hrel
    have hle : n₀ ≤ wr.heap.size := Nat.le_trans hn₀ hnx.size
    by_cases hlt : k < ls.length
    · obtain ⟨b, off, rfl, hcs⟩ : ∃ b off, al = some ⟨b, off, none⟩ ∧ ∀ i, i < ls.length → W.cell? ⟨b, off + i * 2, none⟩ = some (.int .i64 (ls.getD i (0, false)).1) ∧ W.cell? ⟨b, off + i * 2 + 1, none⟩ = some (.bool (ls.getD i (0, false)).2) := by
        obtain ⟨ao', cap', he, h⟩ := hL
        obtain ⟨b, off, ha, hc⟩ := h (by intro e; subst e; simp at hlt)
        injection he with e1 e2 e3
        exact ⟨b, off, e1.trans ha, hc⟩
      have hbn := hLb b off rfl
      obtain ⟨hc1, hc2⟩ := hcs k hlt
      have hYY : ∀ W', Below wr.heap.size wr W' → YieldAt Fence.wide (n - 1) Try.prog l #[.int .i64 (ls.getD k (0, false)).1] W' fun e W3 =>
          ∃ bb : Bool, e = .returned (.bool bb) ∧ Hid ((bb = true → J ((ls.take (k + 1)).map (·.1)) W3 ∧ Below n₀ W W3) ∧ (bb = false → Jx ((ls.take (k + 1)).map (·.1)) W3)) := fun W' hW' => by
        refine YieldAt.mono (hY ((ls.take k).map (·.1)) (ls.getD k (0, false)).1 W' (hJ _ _ _ none hJs (grown_of_below hW') (fun r e => by cases e)) (by simp; omega)) ?_
        rintro e W3 (⟨rfl, h4, h5⟩ | ⟨rfl, h4⟩)
        · exact ⟨true, rfl, (show _ ∧ _ from ⟨fun _ => ⟨by rw [map_take_succ ls k hlt]; exact h4, (hnx.trans (hW'.mono hle)).trans h5⟩, fun h => (by cases h)⟩)⟩
        · exact ⟨false, rfl, (show _ ∧ _ from ⟨fun h => (by cases h), fun _ => (by rw [map_take_succ ls k hlt]; exact h4)⟩)⟩
      clear hcs
      generalize ls.getD k (0, false) = q at *
      obtain ⟨q1, q2⟩ := q
      obtain ⟨fn, tmps, assign, body, hy, hR⟩ := hYY (wr.alloc (.cells #[.int .i64 q1, .bool q2] 86)) (belOne _ _)
      have hx1 : wr.cell? ⟨b, off + k * 2, none⟩ = some (.int .i64 q1) := (hnx.cell (p := ⟨b, off + k * 2, none⟩) hbn).trans hc1
      have hx2 : wr.cell? ⟨b, off + k * 2 + 1, none⟩ = some (.bool q2) := (hnx.cell (p := ⟨b, off + k * 2 + 1, none⟩) hbn).trans hc2
      dsimp only at hy
      clear hc1 hc2 hF hYY
      gi_wp2
      refine hR.mono ?_
      rintro e W3 ⟨bb, rfl, hp3⟩
      cases bb with
      | true =>
        gi_wp2
        go_roundw
        case rel => exact ⟨k + 1, by omega, by simp, (hp3.out.1 (by simp)).1, (hp3.out.1 (by simp)).2⟩
        case measure => simp [intOf]; omega
      | false =>
        gi_wp2
        refine bodyPost_ret (results_none rfl _ _ _) rfl ?_
        exact ⟨⟨_, rfl⟩, .inr ⟨_, take_le_prefix ls bs (k + 1), hp3.out.2 (by simp)⟩⟩
    · obtain rfl : k = ls.length := by omega
      rw [List.take_length] at hJs
      have e3 : wr.cell? ⟨Ba, 3, none⟩ = some (.slice ab bs.length cb) := (hnx.cell (p := ⟨Ba, 3, none⟩) hBa).trans c3
      gi_wp2
      gi_loopw [23] (fun i wq => ∃ k : Nat, k ≤ bs.length ∧ i = .int .i64 k ∧ J (ls.map (·.1) ++ bs.take k) wq ∧ Below n₀ W wq) (fun i _ => bs.length - (intOf i).toNat)
      case atStart => exact ⟨0, Nat.zero_le _, rfl, by simpa using hJs, hnx⟩
      case round =>
        rename World => wq
        obtain ⟨k, hk, rfl, hJq, hnq⟩ := hrel
        have hlq : n₀ ≤ wq.heap.size := Nat.le_trans hn₀ hnq.size
        by_cases hlt : k < bs.length
        · obtain ⟨b, off, rfl, hcs⟩ : ∃ b off, ab = some ⟨b, off, none⟩ ∧ ∀ i, i < bs.length → W.cell? ⟨b, off + i, none⟩ = some (.int .i64 (bs.getD i 0)) := by
            obtain ⟨ao', cap', he, h⟩ := hB
            obtain ⟨b, off, ha, hc⟩ := h (by intro e; subst e; simp at hlt)
            injection he with e1 e2 e3
            exact ⟨b, off, e1.trans ha, hc⟩
          have hbn := hBb b off rfl
          have hc1 := hcs k hlt
          have hYY : YieldAt Fence.wide (n - 1) Try.prog l #[.int .i64 (bs.getD k 0)] wq fun e W3 =>
              ∃ bb : Bool, e = .returned (.bool bb) ∧ Hid ((bb = true → J (ls.map (·.1) ++ bs.take (k + 1)) W3 ∧ Below n₀ W W3) ∧ (bb = false → Jx (ls.map (·.1) ++ bs.take (k + 1)) W3)) := by
            refine YieldAt.mono (hY (ls.map (·.1) ++ bs.take k) (bs.getD k 0) wq hJq (by simp; omega)) ?_
            rintro e W3 (⟨rfl, h4, h5⟩ | ⟨rfl, h4⟩)
            · exact ⟨true, rfl, (show _ ∧ _ from ⟨fun _ => ⟨by rw [take_snoc' bs k hlt, ← List.append_assoc]; exact h4, hnq.trans h5⟩, fun h => (by cases h)⟩)⟩
            · exact ⟨false, rfl, (show _ ∧ _ from ⟨fun h => (by cases h), fun _ => (by rw [take_snoc' bs k hlt, ← List.append_assoc]; exact h4)⟩)⟩
          clear hcs
          generalize bs.getD k 0 = q at *
          obtain ⟨fn, tmps, assign, body, hy, hR⟩ := hYY
          have hx1 : wq.cell? ⟨b, off + k, none⟩ = some (.int .i64 q) := (hnq.cell (p := ⟨b, off + k, none⟩) hbn).trans hc1
          clear hc1 hF
          gi_wp2
          refine hR.mono ?_
          rintro e W3 ⟨bb, rfl, hp3⟩
          cases bb with
          | true =>
            gi_wp2
            go_roundw
            case rel => exact ⟨k + 1, by omega, by simp, (hp3.out.1 (by simp)).1, (hp3.out.1 (by simp)).2⟩
            case measure => simp [intOf]; omega
          | false =>
            gi_wp2
            refine bodyPost_ret (results_none rfl _ _ _) rfl ?_
            exact ⟨⟨_, rfl⟩, .inr ⟨_, take_le_prefix' ls bs (k + 1), hp3.out.2 (by simp)⟩⟩
        · obtain rfl : k = bs.length := by omega
          rw [List.take_length] at hJq
          gi_wp2
          go_end0
          exact ⟨⟨_, rfl⟩, .inl ⟨_, rfl, hJq⟩⟩

end Go.Proofs.Ytbdjdgamnnifjaa

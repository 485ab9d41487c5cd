/-
  How large a circuit is; whether two circuits are the same, where they are; the model's AigOk at every circuit.
-/
import Derived.Test.YtbdjdgamnnifjaaAigE
namespace Go.Proofs.Ytbdjdgamnnifjaa
open Go.RowKit Go.Deep
set_option linter.unusedVariables false

set_option maxRecDepth 100000 in
set_option maxHeartbeats 2000000 in
theorem specAigOk_any (inp : Int) (al aa ab : Option Addr) (cl ca cb : Nat) (ls : List (Int × Bool)) (xs : List (Int × Int)) (bs : List Int) (w : World) (hC : IsCir w al aa ab cl ca cb ls xs bs) :
    Calls Try.prog 43 #[.agg #[.int .i64 inp, .slice al ls.length cl, .slice aa xs.length ca, .slice ab bs.length cb]] w fun e w' => e = .returned (.bool (okS inp ls xs bs)) ∧ Below w.heap.size w w' := by
  by_cases hs : 0 ≤ inp ∧ inp ≤ 8 ∧ ls.length ≤ 8 ∧ xs.length ≤ 40 ∧ bs.length ≤ 4
  · have e : okS inp ls xs bs = okF inp ls xs bs := by
      unfold okS sizesB; rw [decide_eq_true hs]; rfl
    rw [e]
    exact specAigOk_fit inp al aa ab cl ca cb ls xs bs w hs.1 hs.2.1 hs.2.2.1 hs.2.2.2.1 hs.2.2.2.2 hC
  · have e : okS inp ls xs bs = false := by unfold okS sizesB; rw [decide_eq_false hs]; rfl
    rw [e]
    have HL : Hid (¬ (0 ≤ inp ∧ inp ≤ 8 ∧ ls.length ≤ 8 ∧ xs.length ≤ 40 ∧ bs.length ≤ 4)) := hs
    have ml := hC.lenL
    have ma := hC.lenA
    have mb := hC.lenB
    unfold maxLen at ml ma mb
    clear hC hs e
    generalize ls.length = nl at *
    generalize xs.length = na at *
    generalize bs.length = nb at *
    obtain ⟨g, hg⟩ : ∃ g, inB inp 0 8 = g := ⟨_, rfl⟩
    have HG : Hid (inB inp 0 8 = g) := hg
    cases g with
    | false =>
      clear hg
      go_enter Try.func43, Try.ntmps43
      go_wp2_with (go_at_call 67; refine (l1In_any _ _ _ _).mono ?_; rintro e w' ⟨rfl, rfl⟩; rw [HG.out])
      go_ret
      exact ⟨rfl, belOne _ _⟩
    | true =>
      have hin : 0 ≤ inp ∧ inp ≤ 8 := by unfold inB at hg; simpa using hg
      clear hg
      by_cases c0 : 8 < nl
      · have b0 : decide ((8 : Int) < (nl : Int)) = true := by simp; omega
        clear hin
        go_enter Try.func43, Try.ntmps43
        go_wp2_with (go_at_call 67; refine (l1In_any _ _ _ _).mono ?_; rintro e w' ⟨rfl, rfl⟩; rw [HG.out])
        go_ret
        exact ⟨rfl, belOne _ _⟩
      have b0 : decide ((8 : Int) < (nl : Int)) = false := by simp; omega
      by_cases c1 : 40 < na
      · have b1 : decide ((40 : Int) < (na : Int)) = true := by simp; omega
        clear hin
        go_enter Try.func43, Try.ntmps43
        go_wp2_with (go_at_call 67; refine (l1In_any _ _ _ _).mono ?_; rintro e w' ⟨rfl, rfl⟩; rw [HG.out])
        go_ret
        exact ⟨rfl, belOne _ _⟩
      have b1 : decide ((40 : Int) < (na : Int)) = false := by simp; omega
      by_cases c2 : 4 < nb
      · have b2 : decide ((4 : Int) < (nb : Int)) = true := by simp; omega
        clear hin
        go_enter Try.func43, Try.ntmps43
        go_wp2_with (go_at_call 67; refine (l1In_any _ _ _ _).mono ?_; rintro e w' ⟨rfl, rfl⟩; rw [HG.out])
        go_ret
        exact ⟨rfl, belOne _ _⟩
      exact absurd ⟨hin.1, hin.2, by omega, by omega, by omega⟩ HL.out

set_option maxHeartbeats 400000 in
theorem szLatchS_any (ao : Option Addr) (n cap : Nat) (left : Int) (w : World) (hn : n ≤ maxLen) (h0 : 0 ≤ left) (h1 : left ≤ 1048576) :
    Calls Try.prog 47 #[.slice ao n cap, .int .i64 left] w fun e w' => e = .returned (.int .i64 (if (n : Int) ≤ left then left - n else -1)) ∧ w' = w := by
  unfold maxLen at hn
  by_cases h : (n : Int) ≤ left
  · rw [if_pos h]
    go_enter Try.func47, Try.ntmps47
    go_wp2
    go_ret
    exact ⟨rfl, rfl⟩
  · rw [if_neg h]
    go_enter Try.func47, Try.ntmps47
    go_wp2
    go_ret
    exact ⟨rfl, rfl⟩

set_option maxHeartbeats 400000 in
theorem szAndS_any (ao : Option Addr) (n cap : Nat) (left : Int) (w : World) (hn : n ≤ maxLen) (h0 : 0 ≤ left) (h1 : left ≤ 1048576) :
    Calls Try.prog 48 #[.slice ao n cap, .int .i64 left] w fun e w' => e = .returned (.int .i64 (if (n : Int) ≤ left then left - n else -1)) ∧ w' = w := by
  unfold maxLen at hn
  by_cases h : (n : Int) ≤ left
  · rw [if_pos h]
    go_enter Try.func48, Try.ntmps48
    go_wp2
    go_ret
    exact ⟨rfl, rfl⟩
  · rw [if_neg h]
    go_enter Try.func48, Try.ntmps48
    go_wp2
    go_ret
    exact ⟨rfl, rfl⟩

set_option maxHeartbeats 400000 in
theorem szIntS_any (ao : Option Addr) (n cap : Nat) (left : Int) (w : World) (hn : n ≤ maxLen) (h0 : 0 ≤ left) (h1 : left ≤ 1048576) :
    Calls Try.prog 49 #[.slice ao n cap, .int .i64 left] w fun e w' => e = .returned (.int .i64 (if (n : Int) ≤ left then left - n else -1)) ∧ w' = w := by
  unfold maxLen at hn
  by_cases h : (n : Int) ≤ left
  · rw [if_pos h]
    go_enter Try.func49, Try.ntmps49
    go_wp2
    go_ret
    exact ⟨rfl, rfl⟩
  · rw [if_neg h]
    go_enter Try.func49, Try.ntmps49
    go_wp2
    go_ret
    exact ⟨rfl, rfl⟩

/-- What szAig answers. -/
def szC (nl na nb : Nat) : Int := if nl + na + nb ≤ 1048576 then 1048576 - ((nl : Int) + na + nb) else -1

set_option maxHeartbeats 1000000 in
theorem szAig_any (inp : Int) (al aa ab : Option Addr) (nl cl na ca nb cb : Nat) (w : World) (hl : nl ≤ maxLen) (ha : na ≤ maxLen) (hb : nb ≤ maxLen) :
    Calls Try.prog 11 #[.agg #[.int .i64 inp, .slice al nl cl, .slice aa na ca, .slice ab nb cb], .int .i64 1048576] w fun e w' => e = .returned (.int .i64 (szC nl na nb)) ∧ Below w.heap.size w w' := by
  have HL : Hid (nl ≤ maxLen) := hl
  have HA : Hid (na ≤ maxLen) := ha
  have HB : Hid (nb ≤ maxLen) := hb
  clear hl ha hb
  have HW : Hid (∀ o, Below w.heap.size w (w.alloc o)) := fun o => belOne _ _
  by_cases c1 : (nl : Int) ≤ 1048576
  · by_cases c2 : (na : Int) ≤ 1048576 - nl
    · by_cases c3 : (nb : Int) ≤ 1048576 - nl - na
      · have e : szC nl na nb = 1048576 - nl - na - nb := by unfold szC; rw [if_pos (by omega)]; omega
        rw [e]
        clear e
        go_enter Try.func11, Try.ntmps11
        go_wp2_with fail
        refine (szLatchS_any _ _ _ _ _ HL.out (by omega) (by omega)).mono ?_
        rintro e w' ⟨rfl, rfl⟩
        rw [if_pos c1]
        go_wp2_with fail
        refine (szAndS_any _ _ _ _ _ HA.out (by omega) (by omega)).mono ?_
        rintro e w' ⟨rfl, rfl⟩
        rw [if_pos c2]
        go_wp2_with fail
        refine (szIntS_any _ _ _ _ _ HB.out (by omega) (by omega)).mono ?_
        rintro e w' ⟨rfl, rfl⟩
        rw [if_pos c3]
        go_wp2
        go_ret
        exact ⟨rfl, HW.out _⟩
      · have e : szC nl na nb = -1 := by unfold szC; rw [if_neg (by omega)]
        rw [e]
        clear e
        go_enter Try.func11, Try.ntmps11
        go_wp2_with fail
        refine (szLatchS_any _ _ _ _ _ HL.out (by omega) (by omega)).mono ?_
        rintro e w' ⟨rfl, rfl⟩
        rw [if_pos c1]
        go_wp2_with fail
        refine (szAndS_any _ _ _ _ _ HA.out (by omega) (by omega)).mono ?_
        rintro e w' ⟨rfl, rfl⟩
        rw [if_pos c2]
        go_wp2_with fail
        refine (szIntS_any _ _ _ _ _ HB.out (by omega) (by omega)).mono ?_
        rintro e w' ⟨rfl, rfl⟩
        rw [if_neg (by omega)]
        go_wp2
        go_ret
        exact ⟨rfl, HW.out _⟩
    · have e : szC nl na nb = -1 := by unfold szC; rw [if_neg (by omega)]
      rw [e]
      clear e
      go_enter Try.func11, Try.ntmps11
      go_wp2_with fail
      refine (szLatchS_any _ _ _ _ _ HL.out (by omega) (by omega)).mono ?_
      rintro e w' ⟨rfl, rfl⟩
      rw [if_pos c1]
      go_wp2_with fail
      refine (szAndS_any _ _ _ _ _ HA.out (by omega) (by omega)).mono ?_
      rintro e w' ⟨rfl, rfl⟩
      rw [if_neg (by omega)]
      go_wp2
      go_ret
      exact ⟨rfl, HW.out _⟩
  · have e : szC nl na nb = -1 := by unfold szC; rw [if_neg (by omega)]
    rw [e]
    clear e
    go_enter Try.func11, Try.ntmps11
    go_wp2_with fail
    refine (szLatchS_any _ _ _ _ _ HL.out (by omega) (by omega)).mono ?_
    rintro e w' ⟨rfl, rfl⟩
    rw [if_neg (by omega)]
    go_wp2
    go_ret
    exact ⟨rfl, HW.out _⟩

set_option maxHeartbeats 1000000 in
theorem eqAnd_same (a : Int) (b : Int) (w : World) :
    Calls Try.prog 100 #[.agg #[.int .i64 a, .int .i64 b], .agg #[.int .i64 a, .int .i64 b]] w fun e w' => e = .returned (.bool true) ∧ Below w.heap.size w w' := by
  go_enter Try.func100, Try.ntmps100
  go_wp2
  go_ret
  exact ⟨rfl, belNext (belOne _ _) (belOne _ _)⟩

set_option maxHeartbeats 2000000 in
theorem eqAndS_same (v1 v2 : Value) (xs : List (Int × Int)) (w : World) (h1 : IsAnds w v1 xs) (h2 : IsAnds w v2 xs) (hn : xs.length ≤ 1048576) :
    Calls Try.prog 58 #[v1, v2] w fun e w' => e = .returned (.bool true) ∧ Below w.heap.size w w' := by
  obtain ⟨ao1, cap1, rfl, h1⟩ := h1
  obtain ⟨ao2, cap2, rfl, h2⟩ := h2
  by_cases hne : 0 < xs.length
  · have hx : xs ≠ [] := by intro e; subst e; simp at hne
    obtain ⟨b1, off1, rfl, hc1⟩ := h1 hx
    obtain ⟨b2, off2, rfl, hc2⟩ := h2 hx
    have HC1 : Hid (∀ i, i < xs.length → w.cell? ⟨b1, off1 + i * 2, none⟩ = some (.int .i64 (xs.getD i (0, 0)).1) ∧ w.cell? ⟨b1, off1 + i * 2 + 1, none⟩ = some (.int .i64 (xs.getD i (0, 0)).2)) := hc1
    have HC2 : Hid (∀ i, i < xs.length → w.cell? ⟨b2, off2 + i * 2, none⟩ = some (.int .i64 (xs.getD i (0, 0)).1) ∧ w.cell? ⟨b2, off2 + i * 2 + 1, none⟩ = some (.int .i64 (xs.getD i (0, 0)).2)) := hc2
    clear hc1 hc2 h1 h2 hx
    go_enter Try.func58, Try.ntmps58
    go_wp2
    go_loopw [5] (fun i wr => ∃ k : Nat, k ≤ xs.length ∧ i = .int .i64 k ∧ Below w.heap.size w wr) (fun i _ => xs.length - (intOf i).toNat)
    case atStart => exact ⟨0, Nat.zero_le _, rfl, Below.refl _ _⟩
    case round =>
      obtain ⟨k, hk, rfl, hb⟩ := hrel
      have HB : Hid (Below w.heap.size w wr) := hb
      by_cases hlt : k < xs.length
      · obtain ⟨p1, p2⟩ := HC1.out k hlt
        obtain ⟨p3, p4⟩ := HC2.out k hlt
        have d1 := (hb.cell (cell_lt p1)).trans p1
        have d2 := (hb.cell (cell_lt p2)).trans p2
        have d3 := (hb.cell (cell_lt p3)).trans p3
        have d4 := (hb.cell (cell_lt p4)).trans p4
        clear p1 p2 p3 p4 hb
        generalize xs.getD k (0, 0) = q at *
        obtain ⟨q1, q2⟩ := q
        have k1 : wr.cell? ⟨b1, off1 + k * 2, none⟩ = some (.int .i64 q1) := d1
        have k2 : wr.cell? ⟨b1, off1 + k * 2 + 1, none⟩ = some (.int .i64 q2) := d2
        have k3 : wr.cell? ⟨b2, off2 + k * 2, none⟩ = some (.int .i64 q1) := d3
        have k4 : wr.cell? ⟨b2, off2 + k * 2 + 1, none⟩ = some (.int .i64 q2) := d4
        clear d1 d2 d3 d4
        go_wp2_with fail
        go_region_with (first
          | (go_at_call 100; refine (eqAnd_same q1 q2 _).mono ?_; rintro e w1 ⟨rfl, hbz⟩; have HB1 : Hid (Below w.heap.size w w1) := belNext HB.out (by first | exact hbz | exact undrew hbz); clear hbz))
        all_goals
          go_wp2
          go_roundw
          case rel => exact ⟨k + 1, by omega, by go_num, HB1.out⟩
          case measure => simp [intOf]; omega
      · clear hb
        go_wp2
        go_ret
        exact ⟨rfl, HB.out⟩
  · clear h1 h2
    go_enter Try.func58, Try.ntmps58
    go_wp2
    go_rounds 1
    go_ret
    exact ⟨rfl, Below.refl _ _⟩

set_option maxHeartbeats 1000000 in
theorem eqLatch_same (a : Int) (b : Bool) (w : World) :
    Calls Try.prog 99 #[.agg #[.int .i64 a, .bool b], .agg #[.int .i64 a, .bool b]] w fun e w' => e = .returned (.bool true) ∧ Below w.heap.size w w' := by
  go_enter Try.func99, Try.ntmps99
  go_wp2
  go_ret
  exact ⟨rfl, belNext (belOne _ _) (belOne _ _)⟩

set_option maxHeartbeats 2000000 in
theorem eqLatchS_same (v1 v2 : Value) (xs : List (Int × Bool)) (w : World) (h1 : IsLatches w v1 xs) (h2 : IsLatches w v2 xs) (hn : xs.length ≤ 1048576) :
    Calls Try.prog 57 #[v1, v2] w fun e w' => e = .returned (.bool true) ∧ Below w.heap.size w w' := by
  obtain ⟨ao1, cap1, rfl, h1⟩ := h1
  obtain ⟨ao2, cap2, rfl, h2⟩ := h2
  by_cases hne : 0 < xs.length
  · have hx : xs ≠ [] := by intro e; subst e; simp at hne
    obtain ⟨b1, off1, rfl, hc1⟩ := h1 hx
    obtain ⟨b2, off2, rfl, hc2⟩ := h2 hx
    have HC1 : Hid (∀ i, i < xs.length → w.cell? ⟨b1, off1 + i * 2, none⟩ = some (.int .i64 (xs.getD i (0, false)).1) ∧ w.cell? ⟨b1, off1 + i * 2 + 1, none⟩ = some (.bool (xs.getD i (0, false)).2)) := hc1
    have HC2 : Hid (∀ i, i < xs.length → w.cell? ⟨b2, off2 + i * 2, none⟩ = some (.int .i64 (xs.getD i (0, false)).1) ∧ w.cell? ⟨b2, off2 + i * 2 + 1, none⟩ = some (.bool (xs.getD i (0, false)).2)) := hc2
    clear hc1 hc2 h1 h2 hx
    go_enter Try.func57, Try.ntmps57
    go_wp2
    go_loopw [5] (fun i wr => ∃ k : Nat, k ≤ xs.length ∧ i = .int .i64 k ∧ Below w.heap.size w wr) (fun i _ => xs.length - (intOf i).toNat)
    case atStart => exact ⟨0, Nat.zero_le _, rfl, Below.refl _ _⟩
    case round =>
      obtain ⟨k, hk, rfl, hb⟩ := hrel
      have HB : Hid (Below w.heap.size w wr) := hb
      by_cases hlt : k < xs.length
      · obtain ⟨p1, p2⟩ := HC1.out k hlt
        obtain ⟨p3, p4⟩ := HC2.out k hlt
        have d1 := (hb.cell (cell_lt p1)).trans p1
        have d2 := (hb.cell (cell_lt p2)).trans p2
        have d3 := (hb.cell (cell_lt p3)).trans p3
        have d4 := (hb.cell (cell_lt p4)).trans p4
        clear p1 p2 p3 p4 hb
        generalize xs.getD k (0, false) = q at *
        obtain ⟨q1, q2⟩ := q
        have k1 : wr.cell? ⟨b1, off1 + k * 2, none⟩ = some (.int .i64 q1) := d1
        have k2 : wr.cell? ⟨b1, off1 + k * 2 + 1, none⟩ = some (.bool q2) := d2
        have k3 : wr.cell? ⟨b2, off2 + k * 2, none⟩ = some (.int .i64 q1) := d3
        have k4 : wr.cell? ⟨b2, off2 + k * 2 + 1, none⟩ = some (.bool q2) := d4
        clear d1 d2 d3 d4
        go_wp2_with fail
        go_region_with (first
          | (go_at_call 99; refine (eqLatch_same q1 q2 _).mono ?_; rintro e w1 ⟨rfl, hbz⟩; have HB1 : Hid (Below w.heap.size w w1) := belNext HB.out (by first | exact hbz | exact undrew hbz); clear hbz))
        all_goals
          go_wp2
          go_roundw
          case rel => exact ⟨k + 1, by omega, by go_num, HB1.out⟩
          case measure => simp [intOf]; omega
      · clear hb
        go_wp2
        go_ret
        exact ⟨rfl, HB.out⟩
  · clear h1 h2
    go_enter Try.func57, Try.ntmps57
    go_wp2
    go_rounds 1
    go_ret
    exact ⟨rfl, Below.refl _ _⟩

set_option maxHeartbeats 1000000 in
theorem eqIntS_same (v1 v2 : Value) (xs : List Int) (w : World) (h1 : IsInts w v1 xs) (h2 : IsInts w v2 xs) (hn : xs.length ≤ maxLen) :
    Calls Try.prog 30 #[v1, v2] w fun e w' => e = .returned (.bool true) ∧ ∃ n, w' = w.drewN n := by
  obtain ⟨ao1, cap1, rfl, h1⟩ := h1
  obtain ⟨ao2, cap2, rfl, h2⟩ := h2
  generalize hN : xs.length = n at *
  unfold maxLen at hn
  have HN : Hid (xs.length = n) := hN
  clear hN
  by_cases hne : 0 < n
  · have hx : xs ≠ [] := by intro e; have := HN.out; subst e; simp at this; omega
    obtain ⟨b1, off1, rfl, hc1⟩ := h1 hx
    obtain ⟨b2, off2, rfl, hc2⟩ := h2 hx
    have HC1 : Hid (∀ i, i < n → w.cell? ⟨b1, off1 + i, none⟩ = some (.int .i64 (xs.getD i 0))) := hc1
    have HC2 : Hid (∀ i, i < n → w.cell? ⟨b2, off2 + i, none⟩ = some (.int .i64 (xs.getD i 0))) := hc2
    clear hc1 hc2 h1 h2 hx
    go_enter Try.func30, Try.ntmps30
    go_wp2
    go_loopw [5] (fun i wr => ∃ k : Nat, k ≤ n ∧ i = .int .i64 k ∧ ∃ m, wr = w.drewN m) (fun i _ => n - (intOf i).toNat)
    case atStart => exact ⟨0, Nat.zero_le _, rfl, 0, rfl⟩
    case round =>
      obtain ⟨k, hk, rfl, m, rfl⟩ := hrel
      by_cases hlt : k < n
      · have hd1 := HC1.out k hlt
        have hd2 := HC2.out k hlt
        generalize xs.getD k 0 = x at *
        go_wp2
        go_quiet (fail)
        go_wp2
        go_roundw
        case rel => exact ⟨k + 1, by omega, by go_num, _, rfl⟩
        case measure => simp [intOf]; omega
      · go_wp2
        go_ret
        exact ⟨rfl, _, rfl⟩
  · clear h1 h2
    go_enter Try.func30, Try.ntmps30
    go_wp2
    go_rounds 1
    go_ret
    exact ⟨rfl, 0, rfl⟩

set_option maxHeartbeats 2000000 in
theorem eqAig_same (inp : Int) (al aa ab al' aa' ab' : Option Addr) (cl ca cb cl' ca' cb' : Nat) (ls : List (Int × Bool)) (xs : List (Int × Int)) (bs : List Int) (w : World) (h1 : IsCir w al aa ab cl ca cb ls xs bs) (h2 : IsCir w al' aa' ab' cl' ca' cb' ls xs bs)
    (hl : ls.length ≤ 1048576) (ha : xs.length ≤ 1048576) (hb : bs.length ≤ 1048576) :
    Calls Try.prog 17 #[.agg #[.int .i64 inp, .slice al ls.length cl, .slice aa xs.length ca, .slice ab bs.length cb], .agg #[.int .i64 inp, .slice al' ls.length cl', .slice aa' xs.length ca', .slice ab' bs.length cb']] w fun e w' => e = .returned (.bool true) ∧ Below w.heap.size w w' := by
  have H1 : Hid (∀ w', Below w.heap.size w w' → IsCir w' al aa ab cl ca cb ls xs bs) := fun w' h => h1.below h
  have H2 : Hid (∀ w', Below w.heap.size w w' → IsCir w' al' aa' ab' cl' ca' cb' ls xs bs) := fun w' h => h2.below h
  have HX : Hid (∀ o1 o2, Below w.heap.size w ((w.alloc o1).alloc o2)) := fun o1 o2 => belNext (belOne _ _) (belOne _ _)
  clear h1 h2
  have F1 : Hid (Four ((w.alloc (.cells #[.int .i64 inp, .slice al ls.length cl, .slice aa xs.length ca, .slice ab bs.length cb] 33)).alloc (.cells #[.int .i64 inp, .slice al' ls.length cl', .slice aa' xs.length ca', .slice ab' bs.length cb'] 33)) w.heap.size (.int .i64 inp) (.slice al ls.length cl) (.slice aa xs.length ca) (.slice ab bs.length cb)) := (Four.new _ _ _ _ _ _).below (belOne _ _)
  have F2 : Hid (Four ((w.alloc (.cells #[.int .i64 inp, .slice al ls.length cl, .slice aa xs.length ca, .slice ab bs.length cb] 33)).alloc (.cells #[.int .i64 inp, .slice al' ls.length cl', .slice aa' xs.length ca', .slice ab' bs.length cb'] 33)) (w.heap.size + 1) (.int .i64 inp) (.slice al' ls.length cl') (.slice aa' xs.length ca') (.slice ab' bs.length cb')) := by
    have h := Four.new (w.alloc (.cells #[.int .i64 inp, .slice al ls.length cl, .slice aa xs.length ca, .slice ab bs.length cb] 33)) (.int .i64 inp) (.slice al' ls.length cl') (.slice aa' xs.length ca') (.slice ab' bs.length cb') 33
    rw [World.size_alloc] at h
    exact h
  go_enter Try.func17, Try.ntmps17
  go_wp2_with fail
  refine (eqLatchS_same _ _ ls _ (H1.out _ (HX.out _ _)).isL (H2.out _ (HX.out _ _)).isL hl).mono ?_
  rintro e w1 ⟨rfl, hb1⟩
  have G1 : Hid (Four w1 w.heap.size (.int .i64 inp) (.slice al ls.length cl) (.slice aa xs.length ca) (.slice ab bs.length cb)) := F1.out.below hb1
  have G2 : Hid (Four w1 (w.heap.size + 1) (.int .i64 inp) (.slice al' ls.length cl') (.slice aa' xs.length ca') (.slice ab' bs.length cb')) := F2.out.below hb1
  have HB1 : Hid (Below w.heap.size w w1) := belNext (HX.out _ _) hb1
  clear hb1
  have d0 := G1.out.c0
  have d1 := G1.out.c1
  have d2 := G1.out.c2
  have d3 := G1.out.c3
  have e0 := G2.out.c0
  have e1 := G2.out.c1
  have e2 := G2.out.c2
  have e3 := G2.out.c3
  go_wp2_with fail
  refine (eqAndS_same _ _ xs _ (H1.out _ HB1.out).isA (H2.out _ HB1.out).isA ha).mono ?_
  rintro e w2 ⟨rfl, hb2⟩
  have K1 : Hid (Four w2 w.heap.size (.int .i64 inp) (.slice al ls.length cl) (.slice aa xs.length ca) (.slice ab bs.length cb)) := G1.out.below hb2
  have K2 : Hid (Four w2 (w.heap.size + 1) (.int .i64 inp) (.slice al' ls.length cl') (.slice aa' xs.length ca') (.slice ab' bs.length cb')) := G2.out.below hb2
  have HB2 : Hid (Below w.heap.size w w2) := belNext HB1.out hb2
  clear hb2 d0 d1 d2 d3 e0 e1 e2 e3
  have d0 := K1.out.c0
  have d1 := K1.out.c1
  have d2 := K1.out.c2
  have d3 := K1.out.c3
  have e0 := K2.out.c0
  have e1 := K2.out.c1
  have e2 := K2.out.c2
  have e3 := K2.out.c3
  go_wp2_with fail
  refine (eqIntS_same _ _ bs _ (H1.out _ HB2.out).isB (H2.out _ HB2.out).isB (by unfold maxLen; omega)).mono ?_
  rintro e w3 ⟨rfl, m, rfl⟩
  go_wp2
  go_ret
  exact ⟨rfl, below_drewN HB2.out _⟩

end Go.Proofs.Ytbdjdgamnnifjaa

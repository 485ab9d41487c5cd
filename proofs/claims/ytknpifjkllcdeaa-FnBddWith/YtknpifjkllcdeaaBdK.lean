/-
  Diagrams: whether two are the same; marks in an answer that owns its memory, and whether they are held.
-/
import Derived.Test.YtknpifjkllcdeaaBdE
import Derived.Deep.RegionWith
import Derived.Deep.QuietTactic
import Derived.BigQuiet
namespace Go.Proofs.Ytknpifjkllcdeaa
open Go.RowKit Go.Deep
set_option linter.unusedVariables false

set_option maxHeartbeats 1000000 in
theorem eqBddNode_same (x y z : Int) (w : World) :
    Calls Try.prog 101 #[.agg #[.int .i64 x, .int .i64 y, .int .i64 z], .agg #[.int .i64 x, .int .i64 y, .int .i64 z]] w fun e w' => e = .returned (.bool true) ∧ Below w.heap.size w w' := by
  go_enter Try.func101, Try.ntmps101
  go_wp2
  go_ret
  exact ⟨rfl, belNext (belOne _ _) (belOne _ _)⟩

set_option maxRecDepth 100000 in
set_option maxHeartbeats 4000000 in
theorem eqBddNodeS_same (v1 v2 : Value) (ns : List Nd) (w : World) (h1 : IsNds w v1 ns) (h2 : IsNds w v2 ns) (hn : ns.length ≤ 1048576) :
    Calls Try.prog 64 #[v1, v2] w fun e w' => e = .returned (.bool true) ∧ Below w.heap.size w w' := by
  obtain ⟨ao1, cap1, rfl, h1⟩ := h1
  obtain ⟨ao2, cap2, rfl, h2⟩ := h2
  by_cases hne : 0 < ns.length
  · have hx : ns ≠ [] := by intro e; subst e; simp at hne
    obtain ⟨b1, off1, rfl, hc1⟩ := h1 hx
    obtain ⟨b2, off2, rfl, hc2⟩ := h2 hx
    have HC1 := hideN hc1
    have HC2 := hideN hc2
    clear hc1 hc2 h1 h2 hx
    go_enter Try.func64, Try.ntmps64
    go_wp2
    go_loopw [5] (fun i wr => ∃ k : Nat, k ≤ ns.length ∧ i = .int .i64 k ∧ Below w.heap.size w wr) (fun i _ => ns.length - (intOf i).toNat)
    case atStart => exact ⟨0, Nat.zero_le _, rfl, Below.refl _ _⟩
    case round =>
      obtain ⟨k, hk, rfl, hb⟩ := hrel
      have HB : Hid (Below w.heap.size w wr) := hb
      by_cases hlt : k < ns.length
      · obtain ⟨p1, p2, p5⟩ := HC1.out k hlt
        obtain ⟨p3, p4, p6⟩ := HC2.out k hlt
        have d1 := (hb.cell (cell_lt p1)).trans p1
        have d2 := (hb.cell (cell_lt p2)).trans p2
        have d5 := (hb.cell (cell_lt p5)).trans p5
        have d3 := (hb.cell (cell_lt p3)).trans p3
        have d4 := (hb.cell (cell_lt p4)).trans p4
        have d6 := (hb.cell (cell_lt p6)).trans p6
        clear p1 p2 p3 p4 p5 p6 hb
        generalize ns.getD k (0, 0, 0) = q at *
        obtain ⟨q1, q2, q3⟩ := q
        have k1 : wr.cell? ⟨b1, off1 + k * 3, none⟩ = some (.int .i64 q1) := d1
        have k2 : wr.cell? ⟨b1, off1 + k * 3 + 1, none⟩ = some (.int .i64 q2) := d2
        have k5 : wr.cell? ⟨b1, off1 + k * 3 + 2, none⟩ = some (.int .i64 q3) := d5
        have k3 : wr.cell? ⟨b2, off2 + k * 3, none⟩ = some (.int .i64 q1) := d3
        have k4 : wr.cell? ⟨b2, off2 + k * 3 + 1, none⟩ = some (.int .i64 q2) := d4
        have k6 : wr.cell? ⟨b2, off2 + k * 3 + 2, none⟩ = some (.int .i64 q3) := d6
        clear d1 d2 d3 d4 d5 d6
        go_wp2_with fail
        go_region_with (first
          | (go_at_call 101; refine (eqBddNode_same q1 q2 q3 _).mono ?_; rintro e w1 ⟨rfl, hbz⟩; have HB1 : Hid (Below w.heap.size w w1) := belNext HB.out (by first | exact hbz | exact undrew hbz); clear hbz))
        all_goals
          go_wp2
          go_roundw
          case rel => exact ⟨k + 1, by omega, by go_num, HB1.out⟩
          case measure => simp [intOf]; omega
      · clear hb
        go_wp2
        go_ret
        exact ⟨rfl, HB.out⟩
  · clear h1 h2
    go_enter Try.func64, Try.ntmps64
    go_wp2
    go_rounds 1
    go_ret
    exact ⟨rfl, Below.refl _ _⟩

theorem isNds_row {w : World} {base n cap : Nat} {ao : Option Addr} {l : List Nd} (h : w.ownsRow base 50 3 (.slice ao n cap) n (ndV l)) (hn : l.length = n) : IsNds w (.slice ao n cap) l := by
  subst hn
  refine ⟨ao, cap, rfl, fun hne => ?_⟩
  obtain ⟨g, c', h1, h2, h3⟩ := World.ownsRow.form h (List.length_pos_iff.2 hne)
  injection h1 with e1 e2 e3
  refine ⟨g, 0, e1, fun i hi => ?_⟩
  subst e1
  obtain ⟨q0, q1, q2⟩ := ndV_get l i hi
  rw [Nat.zero_add]
  exact ⟨(World.ownsRow.cellAt h (i * 3) (by omega)).trans q0, (World.ownsRow.cellAt h (i * 3 + 1) (by omega)).trans q1, (World.ownsRow.cellAt h (i * 3 + 2) (by omega)).trans q2⟩

set_option maxRecDepth 100000 in
set_option maxHeartbeats 4000000 in
theorem eqBdd_same (vars root : Int) (a1 a2 : Option Addr) (n c1 c2 : Nat) (l : List Nd) (w : World) (h1 : IsNds w (.slice a1 n c1) l) (h2 : IsNds w (.slice a2 n c2) l) (hn : l.length ≤ 1048576) :
    Calls Try.prog 18 #[.agg #[.int .i64 vars, .slice a1 n c1, .int .i64 root], .agg #[.int .i64 vars, .slice a2 n c2, .int .i64 root]] w fun e w' => e = .returned (.bool true) ∧ Below w.heap.size w w' := by
  obtain ⟨W1, hW1⟩ : ∃ W1, W1 = (w.alloc (.cells #[.int .i64 vars, .slice a1 n c1, .int .i64 root] 25)).alloc (.cells #[.int .i64 vars, .slice a2 n c2, .int .i64 root] 25) := ⟨_, rfl⟩
  have HB1 : Hid (Below w.heap.size w W1) := by rw [hW1]; exact belNext (belOne _ _) (belOne _ _)
  have hA : BlkD W1 w.heap.size (.int .i64 vars) (.slice a1 n c1) (.int .i64 root) := by rw [hW1]; exact (BlkD.new _ _ _ _).below (belOne _ _)
  have hB : BlkD W1 (w.heap.size + 1) (.int .i64 vars) (.slice a2 n c2) (.int .i64 root) := by
    rw [hW1]
    have h := BlkD.new (w.alloc (.cells #[.int .i64 vars, .slice a1 n c1, .int .i64 root] 25)) (.int .i64 vars) (.slice a2 n c2) (.int .i64 root)
    rw [World.size_alloc] at h
    exact h
  have HA := hideN hA
  have HBk := hideN hB
  have HE := hideN (eqBddNodeS_same _ _ l W1 (h1.below HB1.out) (h2.below HB1.out) hn)
  have HW1 := hideN hW1
  have x0 := hA.c0
  have x1 := hA.c1
  have x2 := hA.c2
  have x3 := hA.lt
  have y0 := hB.c0
  have y1 := hB.c1
  have y2 := hB.c2
  have y3 := hB.lt
  clear h1 h2 hA hB hW1
  go_enter Try.func18, Try.ntmps18
  go_wp2_with fail
  rw [← HW1.out]
  try go_wp2_with fail
  refine HE.out.mono ?_
  rintro e w1 ⟨rfl, hb1⟩
  have HBE : Hid (Below w.heap.size w w1) := belNext HB1.out hb1
  have hA := HA.out.below hb1
  have hB := HBk.out.below hb1
  have x2 := hA.c2
  have y2 := hB.c2
  clear hA hB hb1 x0 x1 y0 y1
  go_wp2
  go_ret
  exact ⟨rfl, HBE.out⟩

/-- The marks of nodes, from a number on. -/
def markNd (k : Int) (n : Nat) : List Nd := (List.range n).map fun (i : Nat) => (k + 3 * (i : Int), k + 3 * (i : Int) + 1, k + 3 * (i : Int) + 2)
theorem markNd_length (k : Int) (n : Nat) : (markNd k n).length = n := by simp [markNd]
theorem markNd_get (k : Int) (n i : Nat) (h : i < n) : (markNd k n).getD i (0, 0, 0) = (k + 3 * (i : Int), k + 3 * (i : Int) + 1, k + 3 * (i : Int) + 2) := by simp [markNd, List.getD, h]

set_option maxHeartbeats 4000000 in
theorem markNds_to (b n cap : Nat) (f : Nat → Value) (k : Int) (w : World) (hrow : w.rowIs b 50 (cap * 3) f) (hn : n ≤ cap) (hc : n ≤ 4194304) (h0 : 0 ≤ k) (h1 : k ≤ 50000000) :
    Calls Try.prog 65 #[.slice (some ⟨b, 0, none⟩) n cap, .int .i64 k] w fun e w' => e = .returned (.int .i64 (k + 3 * n)) ∧ (∃ f', w'.rowIs b 50 (cap * 3) f' ∧ ∀ i, i < n → f' (i * 3) = .int .i64 (k + 3 * (i : Int)) ∧ f' (i * 3 + 1) = .int .i64 (k + 3 * (i : Int) + 1) ∧ f' (i * 3 + 2) = .int .i64 (k + 3 * (i : Int) + 2)) ∧ Chg (· = b) w w' := by
  have HR : Hid (w.rowIs b 50 (cap * 3) f) := hrow
  clear hrow
  go_enter Try.func65, Try.ntmps65
  go_wp2
  go_loopw [1, 5] (fun q i wr => ∃ j : Nat, j ≤ n ∧ i = .int .i64 j ∧ q = .int .i64 (k + 3 * j) ∧ (∃ f', wr.rowIs b 50 (cap * 3) f' ∧ ∀ i, i < j → f' (i * 3) = .int .i64 (k + 3 * (i : Int)) ∧ f' (i * 3 + 1) = .int .i64 (k + 3 * (i : Int) + 1) ∧ f' (i * 3 + 2) = .int .i64 (k + 3 * (i : Int) + 2)) ∧ Chg (· = b) w wr) (fun _ i _ => n - (intOf i).toNat)
  case atStart => exact ⟨0, Nat.zero_le _, rfl, by simp, ⟨f, HR.out, fun i hi => by omega⟩, Chg.refl _ _⟩
  case round =>
    obtain ⟨j, hj, rfl, rfl, ⟨f', hf, hm⟩, hch⟩ := hrel
    by_cases hlt : j < n
    · have d0 := hf.cell (i := j * 3) (by omega)
      have d1 := hf.cell (i := j * 3 + 1) (by omega)
      have d4 := hf.cell (i := j * 3 + 2) (by omega)
      have d2 := hf.frozen (j * 3)
      have d3 := hf.frozen (j * 3 + 1)
      have d5 := hf.frozen (j * 3 + 2)
      have HST : Hid ((((wr.setCell ⟨b, j * 3, none⟩ (.int .i64 (k + 3 * (j : Int)))).setCell ⟨b, j * 3 + 1, none⟩ (.int .i64 (k + 3 * (j : Int) + 1))).setCell ⟨b, j * 3 + 2, none⟩ (.int .i64 (k + 3 * (j : Int) + 1 + 1))).rowIs b 50 (cap * 3) (fun i => if i = j * 3 + 2 then .int .i64 (k + 3 * (j : Int) + 1 + 1) else if i = j * 3 + 1 then .int .i64 (k + 3 * (j : Int) + 1) else if i = j * 3 then .int .i64 (k + 3 * (j : Int)) else f' i)) := ((hf.set (j * 3) _).set (j * 3 + 1) _).set (j * 3 + 2) _
      have HM : Hid (∀ i, i < j → f' (i * 3) = .int .i64 (k + 3 * (i : Int)) ∧ f' (i * 3 + 1) = .int .i64 (k + 3 * (i : Int) + 1) ∧ f' (i * 3 + 2) = .int .i64 (k + 3 * (i : Int) + 2)) := hm
      have HCH : Hid (Chg (· = b) w (((wr.setCell ⟨b, j * 3, none⟩ (.int .i64 (k + 3 * (j : Int)))).setCell ⟨b, j * 3 + 1, none⟩ (.int .i64 (k + 3 * (j : Int) + 1))).setCell ⟨b, j * 3 + 2, none⟩ (.int .i64 (k + 3 * (j : Int) + 1 + 1)))) := ((hch.trans (Chg.set _ _ _ _)).trans (Chg.set _ _ _ _)).trans (Chg.set _ _ _ _)
      clear hf hm hch
      go_wp2
      go_roundw
      case rel =>
        refine ⟨j + 1, by omega, by go_num, by go_num, ⟨_, HST.out, fun i hi => ?_⟩, HCH.out⟩
        by_cases e : i = j
        · subst e
          exact ⟨by rw [if_neg (by omega), if_neg (by omega), if_pos rfl], by rw [if_neg (by omega), if_pos rfl], by rw [if_pos rfl, show k + 3 * (i : Int) + 1 + 1 = k + 3 * (i : Int) + 2 from by omega]⟩
        · have h := HM.out i (by omega)
          exact ⟨by rw [if_neg (by omega), if_neg (by omega), if_neg (by omega)]; exact h.1, by rw [if_neg (by omega), if_neg (by omega), if_neg (by omega)]; exact h.2.1, by rw [if_neg (by omega), if_neg (by omega), if_neg (by omega)]; exact h.2.2⟩
      case measure => simp [intOf]; omega
    · obtain rfl : j = n := by omega
      have HF := hideN (show ∃ f', wr.rowIs b 50 (cap * 3) f' ∧ ∀ i, i < j → f' (i * 3) = .int .i64 (k + 3 * (i : Int)) ∧ f' (i * 3 + 1) = .int .i64 (k + 3 * (i : Int) + 1) ∧ f' (i * 3 + 2) = .int .i64 (k + 3 * (i : Int) + 2) from ⟨f', hf, hm⟩)
      clear hf hm
      go_wp2
      go_ret
      exact ⟨rfl, HF.out, hch⟩

set_option maxHeartbeats 400000 in
theorem markNds_none (ao : Option Addr) (cap : Nat) (k : Int) (w : World) (h0 : 0 ≤ k) (h1 : k ≤ 100000000) :
    Calls Try.prog 65 #[.slice ao 0 cap, .int .i64 k] w fun e w' => e = .returned (.int .i64 k) ∧ w' = w := by
  go_enter Try.func65, Try.ntmps65
  go_wp2
  go_rounds 1
  go_ret
  exact ⟨rfl, rfl⟩

theorem mark_ownN (w : World) (base : Nat) (ao : Option Addr) (n cap : Nat) (zs : List Value) (k : Int) (h : w.ownsRow base 50 3 (.slice ao n cap) n zs) (hl : n ≤ 1000) (h0 : 0 ≤ k) (h1 : k ≤ 1000000) :
    Calls Try.prog 65 #[.slice ao n cap, .int .i64 k] w fun e w' => e = .returned (.int .i64 (k + 3 * n)) ∧ IsNds w' (.slice ao n cap) (markNd k n) ∧ Chg (fun k => (Value.slice ao n cap).ownBlock = some k) w w' := by
  by_cases hz : n = 0
  · subst hz
    refine (markNds_none ao cap k w h0 (by omega)).mono ?_
    rintro e w' ⟨rfl, rfl⟩
    exact ⟨by simp, ⟨ao, cap, by simp [markNd], fun hne => absurd (by simp [markNd]) hne⟩, Chg.refl _ _⟩
  · rcases h.2 with ⟨_, h0⟩ | ⟨g, cp, cur, hv, hg, hh, hle, hmx, hsz, htk⟩
    · omega
    · cases hv
      refine (markNds_to g n cap _ k w (cur_row (n := 0) (fz := (0, 0)) (.int .i64 0) hh hsz) hle (by omega) (by omega) (by omega)).mono ?_
      rintro e w' ⟨rfl, ⟨f', hr', hf'⟩, hch⟩
      refine ⟨rfl, ⟨_, _, by rw [markNd_length], fun _ => ⟨g, 0, rfl, fun i hi => ?_⟩⟩, hch.mono (fun k e => by subst e; rfl)⟩
      rw [markNd_length] at hi
      rw [Nat.zero_add, markNd_get k _ i hi, hr'.cell (i := i * 3) (by omega), hr'.cell (i := i * 3 + 1) (by omega), hr'.cell (i := i * 3 + 2) (by omega), (hf' i hi).1, (hf' i hi).2.1, (hf' i hi).2.2]
      exact ⟨rfl, rfl, rfl⟩

set_option maxHeartbeats 1000000 in
theorem heldNds_any (v : Value) (n : Nat) (k : Int) (w : World) (hv : IsNds w v (markNd k n)) (hc : n ≤ 4194304) (h0 : 0 ≤ k) (h1 : k ≤ 50000000) :
    Calls Try.prog 66 #[v, .int .i64 k] w fun e w' => e = .returned (.int .i64 (k + 3 * n)) ∧ w' = w := by
  obtain ⟨ao, cap, rfl, hv⟩ := hv
  have hlen := markNd_length k n
  have HV := hideN hv
  have HNE : Hid (0 < n → markNd k n ≠ []) := fun hn e => by rw [e] at hlen; simp at hlen; omega
  have HL : Hid ((markNd k n).length = n) := hlen
  rw [hlen]
  clear hv hlen
  by_cases hne : 0 < n
  · obtain ⟨b, off, rfl, hcs⟩ := HV.out (HNE.out hne)
    have HCS : Hid (∀ i, i < n → w.cell? ⟨b, off + i * 3, none⟩ = some (.int .i64 (k + 3 * (i : Int))) ∧ w.cell? ⟨b, off + i * 3 + 1, none⟩ = some (.int .i64 (k + 3 * (i : Int) + 1)) ∧ w.cell? ⟨b, off + i * 3 + 2, none⟩ = some (.int .i64 (k + 3 * (i : Int) + 2))) := fun i hi => by
      have h := hcs i (by rw [HL.out]; exact hi)
      rw [markNd_get k n i hi] at h
      exact h
    clear hcs HV HNE
    go_enter Try.func66, Try.ntmps66
    go_wp2
    go_loop [1, 5] (fun q i => ∃ j : Nat, j ≤ n ∧ i = .int .i64 j ∧ q = .int .i64 (k + 3 * j)) (fun _ i => n - (intOf i).toNat)
    case atStart => exact ⟨0, Nat.zero_le _, rfl, by simp⟩
    case round =>
      obtain ⟨j, hj, rfl, rfl⟩ := hrel
      by_cases hlt : j < n
      · obtain ⟨d0, d1, d2⟩ := HCS.out j hlt
        go_wp2
        go_round
        case rel => exact ⟨j + 1, by omega, by go_num, by go_num⟩
        case measure => simp [intOf]; omega
      · obtain rfl : j = n := by omega
        go_wp2
        go_ret
        exact ⟨rfl, rfl⟩
  · obtain rfl : n = 0 := by omega
    clear HV HNE
    go_enter Try.func66, Try.ntmps66
    go_wp2
    go_rounds 1
    go_ret
    exact ⟨by simp, rfl⟩

set_option maxRecDepth 100000 in
set_option maxHeartbeats 2000000 in
theorem markBdd_any (vars root : Int) (base : Nat) (ao : Option Addr) (n cap : Nat) (zs : List Value) (w : World) (h : w.ownsRow base 50 3 (.slice ao n cap) n zs) (hl : n ≤ 1000) :
    Calls Try.prog 21 #[.agg #[.int .i64 vars, .slice ao n cap, .int .i64 root], .int .i64 1] w fun e w' => e = .returned (.int .i64 (1 + 3 * n)) ∧ IsNds w' (.slice ao n cap) (markNd 1 n) ∧ Chg (fun k => (Value.slice ao n cap).ownBlock = some k) w w' := by
  obtain ⟨W1, hW1⟩ : ∃ W1, W1 = w.alloc (.cells #[.int .i64 vars, .slice ao n cap, .int .i64 root] 25) := ⟨_, rfl⟩
  have hA : BlkD W1 w.heap.size (.int .i64 vars) (.slice ao n cap) (.int .i64 root) := by rw [hW1]; exact BlkD.new _ _ _ _
  have HB1 : Hid (Below w.heap.size w W1) := by rw [hW1]; exact belOne _ _
  have HM := hideN (mark_ownN W1 base ao n cap zs 1 (row_below h HB1.out) hl (by omega) (by omega))
  have HW1 := hideN hW1
  have x1 := hA.c1
  have x3 := hA.lt
  clear h hA hW1
  go_enter Try.func21, Try.ntmps21
  go_wp2_with fail
  rw [← HW1.out]
  refine HM.out.mono ?_
  rintro e w1 ⟨rfl, hi, hc⟩
  have HI := hideN hi
  have HC : Hid (Chg (fun k => (Value.slice ao n cap).ownBlock = some k) w w1) := (Chg.of_below HB1.out).trans hc
  clear hi hc x1 x3
  go_wp2
  go_ret
  exact ⟨rfl, HI.out, HC.out⟩

set_option maxRecDepth 100000 in
set_option maxHeartbeats 2000000 in
theorem heldBdd_any (vars root : Int) (ao : Option Addr) (n cap : Nat) (w : World) (h : IsNds w (.slice ao n cap) (markNd 1 n)) (hl : n ≤ 1000) :
    Calls Try.prog 22 #[.agg #[.int .i64 vars, .slice ao n cap, .int .i64 root], .int .i64 1] w fun e w' => e = .returned (.int .i64 (1 + 3 * n)) ∧ Below w.heap.size w w' := by
  obtain ⟨W1, hW1⟩ : ∃ W1, W1 = w.alloc (.cells #[.int .i64 vars, .slice ao n cap, .int .i64 root] 25) := ⟨_, rfl⟩
  have hA : BlkD W1 w.heap.size (.int .i64 vars) (.slice ao n cap) (.int .i64 root) := by rw [hW1]; exact BlkD.new _ _ _ _
  have HB1 : Hid (Below w.heap.size w W1) := by rw [hW1]; exact belOne _ _
  have HM := hideN (heldNds_any _ n 1 W1 (h.below HB1.out) (by omega) (by omega) (by omega))
  have HW1 := hideN hW1
  have x1 := hA.c1
  have x3 := hA.lt
  have k1 : decide ((1 : Int) + 3 * n < 0) = false := by simp; omega
  clear h hA hW1
  go_enter Try.func22, Try.ntmps22
  go_wp2_with fail
  rw [← HW1.out]
  refine HM.out.mono ?_
  rintro e w1 ⟨rfl, hw⟩
  obtain rfl := hw.symm
  go_wp2
  go_ret
  exact ⟨rfl, HB1.out⟩

end Go.Proofs.Ytknpifjkllcdeaa

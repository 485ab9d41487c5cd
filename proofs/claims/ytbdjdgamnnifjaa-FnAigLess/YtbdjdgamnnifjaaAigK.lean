/-
  Marks that are written into memory of one's own, and held against it: markLatchS, markAndS, markIntS, markBoolS, heldBoolS, markAig.
-/
import Derived.Test.YtbdjdgamnnifjaaAigJ
import Derived.Test.YtbdjdgamnnifjaaChg
namespace Go.Proofs.Ytbdjdgamnnifjaa
open Go.RowKit Go.Deep Go.Shelf
set_option linter.unusedVariables false

theorem Chg.four {p : Nat → Prop} {a b : World} (h : Chg p a b) {g : Nat} {c0 c1 c2 c3 : Value} (hr : Four a g c0 c1 c2 c3) (hg : ¬ p g) : Four b g c0 c1 c2 c3 := by
  have e := h.block g hr.lt hg
  exact ⟨Nat.lt_of_lt_of_le hr.lt h.size, (World.cell?_of_block e).trans hr.c0, (World.cell?_of_block e).trans hr.c1, (World.cell?_of_block e).trans hr.c2, (World.cell?_of_block e).trans hr.c3⟩

/-- The marks from a number on. -/
def markL (k : Int) (n : Nat) : List Bool := (List.range n).map fun (i : Nat) => (k + (i : Int)) % 3 == 0
theorem markL_length (k : Int) (n : Nat) : (markL k n).length = n := by simp [markL]
theorem markL_get (k : Int) (n i : Nat) (h : i < n) : (markL k n).getD i false = ((k + (i : Int)) % 3 == 0) := by simp [markL, List.getD, h]

set_option maxHeartbeats 1000000 in
theorem markBoolS_any (b n cap : Nat) (f : Nat → Value) (k : Int) (w : World) (hrow : w.rowIs b 4 cap f) (hn : n ≤ cap) (hc : n ≤ 4194304) (h0 : 0 ≤ k) (h1 : k ≤ 100000000) :
    Calls Try.prog 19 #[.slice (some ⟨b, 0, none⟩) n cap, .int .i64 k] w fun e w' => e = .returned (.int .i64 (k + n)) ∧ (∃ f', w'.rowIs b 4 cap f' ∧ ∀ i, i < n → f' i = .bool ((k + (i : Int)) % 3 == 0)) ∧ Chg (· = b) w w' := by
  have HR : Hid (w.rowIs b 4 cap f) := hrow
  clear hrow
  go_enter Try.func19, Try.ntmps19
  go_wp2
  go_loopw [1, 5] (fun q i wr => ∃ j : Nat, j ≤ n ∧ i = .int .i64 j ∧ q = .int .i64 (k + j) ∧ (∃ f', wr.rowIs b 4 cap f' ∧ ∀ i, i < j → f' i = .bool ((k + (i : Int)) % 3 == 0)) ∧ Chg (· = b) w wr) (fun _ i _ => n - (intOf i).toNat)
  case atStart => exact ⟨0, Nat.zero_le _, rfl, by simp, ⟨f, HR.out, fun i hi => by omega⟩, Chg.refl _ _⟩
  case round =>
    obtain ⟨j, hj, rfl, rfl, ⟨f', hf, hm⟩, hch⟩ := hrel
    by_cases hlt : j < n
    · have d0 := hf.cell (i := j) (by omega)
      have d1 := hf.frozen j
      have HST : Hid ((wr.setCell ⟨b, j, none⟩ (.bool ((k + (j : Int)) % 3 == 0))).rowIs b 4 cap (fun i => if i = j then .bool ((k + (j : Int)) % 3 == 0) else f' i)) := hf.set j _
      have HM : Hid (∀ i, i < j → f' i = .bool ((k + (i : Int)) % 3 == 0)) := hm
      have HCH : Hid (Chg (· = b) w (wr.setCell ⟨b, j, none⟩ (.bool ((k + (j : Int)) % 3 == 0)))) := hch.trans (Chg.set _ _ _ _)
      clear hf hm hch
      go_wp2
      go_roundw
      case rel =>
        refine ⟨j + 1, by omega, by go_num, by go_num, ⟨_, HST.out, fun i hi => ?_⟩, HCH.out⟩
        by_cases e : i = j
        · subst e; simp
        · rw [if_neg e]; exact HM.out i (by omega)
      case measure => simp [intOf]; omega
    · obtain rfl : j = n := by omega
      have HF : Hid (∃ f', wr.rowIs b 4 cap f' ∧ ∀ i, i < j → f' i = .bool ((k + (i : Int)) % 3 == 0)) := ⟨f', hf, hm⟩
      clear hf hm
      go_wp2
      go_ret
      exact ⟨rfl, HF.out, hch⟩

set_option maxHeartbeats 400000 in
theorem markBoolS_none (v : Value) (ao : Option Addr) (cap : Nat) (k : Int) (w : World) (h0 : 0 ≤ k) (h1 : k ≤ 100000000) :
    Calls Try.prog 19 #[.slice ao 0 cap, .int .i64 k] w fun e w' => e = .returned (.int .i64 k) ∧ w' = w := by
  go_enter Try.func19, Try.ntmps19
  go_wp2
  go_rounds 1
  go_ret
  exact ⟨rfl, rfl⟩

set_option maxHeartbeats 1000000 in
theorem heldBoolS_any (v : Value) (n : Nat) (k : Int) (w : World) (hv : IsBits w v (markL k n)) (hc : n ≤ 4194304) (h0 : 0 ≤ k) (h1 : k ≤ 100000000) :
    Calls Try.prog 20 #[v, .int .i64 k] w fun e w' => e = .returned (.int .i64 (k + n)) ∧ w' = w := by
  obtain ⟨ao, cap, rfl, hv⟩ := hv
  have hlen := markL_length k n
  have HV : Hid (markL k n ≠ [] → ∃ b off, ao = some ⟨b, off, none⟩ ∧ ∀ i, i < (markL k n).length → w.cell? ⟨b, off + i, none⟩ = some (.bool ((markL k n).getD i false))) := hv
  have HG : Hid (∀ i, i < n → (markL k n).getD i false = ((k + (i : Int)) % 3 == 0)) := fun i hi => markL_get k n i hi
  have HNE : Hid (0 < n → markL k n ≠ []) := fun hn e => by rw [e] at hlen; simp at hlen; omega
  have HL : Hid ((markL k n).length = n) := hlen
  rw [hlen]
  clear hv hlen
  by_cases hne : 0 < n
  · obtain ⟨b, off, rfl, hcs⟩ := HV.out (HNE.out hne)
    have HCS : Hid (∀ i, i < n → w.cell? ⟨b, off + i, none⟩ = some (.bool ((k + (i : Int)) % 3 == 0))) := fun i hi => by rw [hcs i (by rw [HL.out]; exact hi), HG.out i hi]
    clear hcs HV HNE HG
    go_enter Try.func20, Try.ntmps20
    go_wp2
    go_loop [1, 5] (fun q i => ∃ j : Nat, j ≤ n ∧ i = .int .i64 j ∧ q = .int .i64 (k + j)) (fun _ i => n - (intOf i).toNat)
    case atStart => exact ⟨0, Nat.zero_le _, rfl, by simp⟩
    case round =>
      obtain ⟨j, hj, rfl, rfl⟩ := hrel
      by_cases hlt : j < n
      · have d0 := HCS.out j hlt
        generalize hx : ((k + (j : Int)) % 3 == 0) = x at *
        go_wp2
        go_round
        case rel => exact ⟨j + 1, by omega, by go_num, by go_num⟩
        case measure => simp [intOf]; omega
      · obtain rfl : j = n := by omega
        go_wp2
        go_ret
        exact ⟨rfl, rfl⟩
  · obtain rfl : n = 0 := by omega
    clear HV HG HNE
    go_enter Try.func20, Try.ntmps20
    go_wp2
    go_rounds 1
    go_ret
    exact ⟨by simp, rfl⟩

set_option maxHeartbeats 1000000 in
theorem markLatchS_any (b n cap : Nat) (f : Nat → Value) (k : Int) (w : World) (hrow : w.rowIs b 86 (cap * 2) f) (hn : n ≤ cap) (hc : n ≤ 4194304) (h0 : 0 ≤ k) (h1 : k ≤ 50000000) :
    Calls Try.prog 59 #[.slice (some ⟨b, 0, none⟩) n cap, .int .i64 k] w fun e w' => e = .returned (.int .i64 (k + 2 * n)) ∧ Chg (· = b) w w' := by
  have HR : Hid (w.rowIs b 86 (cap * 2) f) := hrow
  clear hrow
  go_enter Try.func59, Try.ntmps59
  go_wp2
  go_loopw [1, 5] (fun q i wr => ∃ j : Nat, j ≤ n ∧ i = .int .i64 j ∧ q = .int .i64 (k + 2 * j) ∧ (∃ f', wr.rowIs b 86 (cap * 2) f') ∧ Chg (· = b) w wr) (fun _ i _ => n - (intOf i).toNat)
  case atStart => exact ⟨0, Nat.zero_le _, rfl, by simp, ⟨f, HR.out⟩, Chg.refl _ _⟩
  case round =>
    obtain ⟨j, hj, rfl, rfl, ⟨f', hf⟩, hch⟩ := hrel
    by_cases hlt : j < n
    · have d0 := hf.cell (i := j * 2) (by omega)
      have d1 := hf.cell (i := j * 2 + 1) (by omega)
      have d2 := hf.frozen (j * 2)
      have d3 := hf.frozen (j * 2 + 1)
      have HF : Hid (wr.rowIs b 86 (cap * 2) f') := hf
      have HCH : Hid (Chg (· = b) w wr) := hch
      clear hf hch
      go_wp2
      go_roundw
      case rel => exact ⟨j + 1, by omega, by go_num, by go_num, ⟨_, (HF.out.set _ _).set _ _⟩, (HCH.out.trans (Chg.set _ _ _ _)).trans (Chg.set _ _ _ _)⟩
      case measure => simp [intOf]; omega
    · obtain rfl : j = n := by omega
      clear hf
      go_wp2
      go_ret
      exact ⟨rfl, hch⟩

set_option maxHeartbeats 1000000 in
theorem markAndS_any (b n cap : Nat) (f : Nat → Value) (k : Int) (w : World) (hrow : w.rowIs b 65 (cap * 2) f) (hn : n ≤ cap) (hc : n ≤ 4194304) (h0 : 0 ≤ k) (h1 : k ≤ 50000000) :
    Calls Try.prog 60 #[.slice (some ⟨b, 0, none⟩) n cap, .int .i64 k] w fun e w' => e = .returned (.int .i64 (k + 2 * n)) ∧ Chg (· = b) w w' := by
  have HR : Hid (w.rowIs b 65 (cap * 2) f) := hrow
  clear hrow
  go_enter Try.func60, Try.ntmps60
  go_wp2
  go_loopw [1, 5] (fun q i wr => ∃ j : Nat, j ≤ n ∧ i = .int .i64 j ∧ q = .int .i64 (k + 2 * j) ∧ (∃ f', wr.rowIs b 65 (cap * 2) f') ∧ Chg (· = b) w wr) (fun _ i _ => n - (intOf i).toNat)
  case atStart => exact ⟨0, Nat.zero_le _, rfl, by simp, ⟨f, HR.out⟩, Chg.refl _ _⟩
  case round =>
    obtain ⟨j, hj, rfl, rfl, ⟨f', hf⟩, hch⟩ := hrel
    by_cases hlt : j < n
    · have d0 := hf.cell (i := j * 2) (by omega)
      have d1 := hf.cell (i := j * 2 + 1) (by omega)
      have d2 := hf.frozen (j * 2)
      have d3 := hf.frozen (j * 2 + 1)
      have HF : Hid (wr.rowIs b 65 (cap * 2) f') := hf
      have HCH : Hid (Chg (· = b) w wr) := hch
      clear hf hch
      go_wp2
      go_roundw
      case rel => exact ⟨j + 1, by omega, by go_num, by go_num, ⟨_, (HF.out.set _ _).set _ _⟩, (HCH.out.trans (Chg.set _ _ _ _)).trans (Chg.set _ _ _ _)⟩
      case measure => simp [intOf]; omega
    · obtain rfl : j = n := by omega
      clear hf
      go_wp2
      go_ret
      exact ⟨rfl, hch⟩

set_option maxHeartbeats 1000000 in
theorem markIntS_any (b n cap : Nat) (f : Nat → Value) (k : Int) (w : World) (hrow : w.rowIs b 3 cap f) (hn : n ≤ cap) (hc : n ≤ 4194304) (h0 : 0 ≤ k) (h1 : k ≤ 50000000) :
    Calls Try.prog 31 #[.slice (some ⟨b, 0, none⟩) n cap, .int .i64 k] w fun e w' => e = .returned (.int .i64 (k + n)) ∧ Chg (· = b) w w' := by
  have HR : Hid (w.rowIs b 3 cap f) := hrow
  clear hrow
  go_enter Try.func31, Try.ntmps31
  go_wp2
  go_loopw [1, 5] (fun q i wr => ∃ j : Nat, j ≤ n ∧ i = .int .i64 j ∧ q = .int .i64 (k + j) ∧ (∃ f', wr.rowIs b 3 cap f') ∧ Chg (· = b) w wr) (fun _ i _ => n - (intOf i).toNat)
  case atStart => exact ⟨0, Nat.zero_le _, rfl, by simp, ⟨f, HR.out⟩, Chg.refl _ _⟩
  case round =>
    obtain ⟨j, hj, rfl, rfl, ⟨f', hf⟩, hch⟩ := hrel
    by_cases hlt : j < n
    · have d0 := hf.cell (i := j) (by omega)
      have d2 := hf.frozen j
      have HF : Hid (wr.rowIs b 3 cap f') := hf
      have HCH : Hid (Chg (· = b) w wr) := hch
      clear hf hch
      go_wp2
      go_roundw
      case rel => exact ⟨j + 1, by omega, by go_num, by go_num, ⟨_, HF.out.set _ _⟩, HCH.out.trans (Chg.set _ _ _ _)⟩
      case measure => simp [intOf]; omega
    · obtain rfl : j = n := by omega
      clear hf
      go_wp2
      go_ret
      exact ⟨rfl, hch⟩

/-- Blocks of a copied circuit. -/
def inCir (bl ba bb : Nat) : Nat → Prop := fun k => k = bl ∨ k = ba ∨ k = bb

set_option maxHeartbeats 2000000 in
theorem markAig_any (inp : Int) (bl ba bb : Nat) (ls : List (Int × Bool)) (xs : List (Int × Int)) (bs : List Int) (w : World) (hC : CirAt w bl ba bb ls xs bs) (h12 : bl ≠ ba) (h13 : bl ≠ bb) (h23 : ba ≠ bb) (hl : ls.length ≤ 1048576) (ha : xs.length ≤ 1048576) (hb : bs.length ≤ 1048576) :
    Calls Try.prog 18 #[.agg #[.int .i64 inp, .slice (some ⟨bl, 0, none⟩) ls.length ls.length, .slice (some ⟨ba, 0, none⟩) xs.length xs.length, .slice (some ⟨bb, 0, none⟩) bs.length bs.length], .int .i64 1] w fun e w' => (∃ q : Int, e = .returned (.int .i64 q) ∧ 0 ≤ q ∧ q ≤ 6000000) ∧ Chg (inCir bl ba bb) w w' := by
  have HC : Hid (CirAt (w.alloc (.cells #[.int .i64 inp, .slice (some ⟨bl, 0, none⟩) ls.length ls.length, .slice (some ⟨ba, 0, none⟩) xs.length xs.length, .slice (some ⟨bb, 0, none⟩) bs.length bs.length] 33)) bl ba bb ls xs bs) := hC.below (belOne _ _)
  have hbl : bl < w.heap.size := hC.rl.lt
  have hba : ba < w.heap.size := hC.ra.lt
  have hbb : bb < w.heap.size := hC.rb.lt
  have HF0 : Hid (Four (w.alloc (.cells #[.int .i64 inp, .slice (some ⟨bl, 0, none⟩) ls.length ls.length, .slice (some ⟨ba, 0, none⟩) xs.length xs.length, .slice (some ⟨bb, 0, none⟩) bs.length bs.length] 33)) w.heap.size (.int .i64 inp) (.slice (some ⟨bl, 0, none⟩) ls.length ls.length) (.slice (some ⟨ba, 0, none⟩) xs.length xs.length) (.slice (some ⟨bb, 0, none⟩) bs.length bs.length)) := Four.new _ _ _ _ _ _
  have HW : Hid (Chg (inCir bl ba bb) w (w.alloc (.cells #[.int .i64 inp, .slice (some ⟨bl, 0, none⟩) ls.length ls.length, .slice (some ⟨ba, 0, none⟩) xs.length xs.length, .slice (some ⟨bb, 0, none⟩) bs.length bs.length] 33))) := Chg.of_below (belOne _ _)
  clear hC
  go_enter Try.func18, Try.ntmps18
  go_wp2_with fail
  refine (markLatchS_any bl ls.length ls.length _ 1 _ HC.out.rl (Nat.le_refl _) (by omega) (by omega) (by omega)).mono ?_
  rintro e w1 ⟨rfl, hc1⟩
  have HF1 : Hid (Four w1 w.heap.size (.int .i64 inp) (.slice (some ⟨bl, 0, none⟩) ls.length ls.length) (.slice (some ⟨ba, 0, none⟩) xs.length xs.length) (.slice (some ⟨bb, 0, none⟩) bs.length bs.length)) := hc1.four HF0.out (by omega)
  have HA1 : Hid (w1.rowIs ba 65 (xs.length * 2) (andF xs)) := hc1.row HC.out.ra (by omega)
  have HBb1 : Hid (w1.rowIs bb 3 bs.length (fun i => .int .i64 (bs.getD i 0))) := hc1.row HC.out.rb (by omega)
  have HW1 : Hid (Chg (inCir bl ba bb) w w1) := HW.out.trans (hc1.mono (fun k e => .inl e))
  clear hc1
  have d0 := HF1.out.c0
  have d1 := HF1.out.c1
  have d2 := HF1.out.c2
  have d3 := HF1.out.c3
  go_wp2_with fail
  refine (markAndS_any ba xs.length xs.length _ (1 + 2 * (ls.length : Int)) _ HA1.out (Nat.le_refl _) (by omega) (by omega) (by omega)).mono ?_
  rintro e w2 ⟨rfl, hc2⟩
  have HF2 : Hid (Four w2 w.heap.size (.int .i64 inp) (.slice (some ⟨bl, 0, none⟩) ls.length ls.length) (.slice (some ⟨ba, 0, none⟩) xs.length xs.length) (.slice (some ⟨bb, 0, none⟩) bs.length bs.length)) := hc2.four HF1.out (by omega)
  have HBb2 : Hid (w2.rowIs bb 3 bs.length (fun i => .int .i64 (bs.getD i 0))) := hc2.row HBb1.out (by omega)
  have HW2 : Hid (Chg (inCir bl ba bb) w w2) := HW1.out.trans (hc2.mono (fun k e => .inr (.inl e)))
  clear hc2 d0 d1 d2 d3
  have d0 := HF2.out.c0
  have d1 := HF2.out.c1
  have d2 := HF2.out.c2
  have d3 := HF2.out.c3
  go_wp2_with fail
  refine (markIntS_any bb bs.length bs.length _ (1 + 2 * (ls.length : Int) + 2 * (xs.length : Int)) _ HBb2.out (Nat.le_refl _) (by omega) (by omega) (by omega)).mono ?_
  rintro e w3 ⟨rfl, hc3⟩
  have HW3 : Hid (Chg (inCir bl ba bb) w w3) := HW2.out.trans (hc3.mono (fun k e => .inr (.inr e)))
  clear hc3
  go_wp2
  go_ret
  exact ⟨⟨_, rfl, by omega, by omega⟩, HW3.out⟩

end Go.Proofs.Ytbdjdgamnnifjaa

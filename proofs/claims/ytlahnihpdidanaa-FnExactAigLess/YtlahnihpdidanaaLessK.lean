/-
  A circuit without what is needless: marks in an answer that owns its memory, and whether they are held.
-/
import Derived.Test.YtlahnihpdidanaaLess16
namespace Go.Proofs.Ytlahnihpdidanaa
open Go.RowKit Go.Deep Go.Shelf
set_option linter.unusedVariables false

/-- The marks of latches, from a number on. -/
def markLat (k : Int) (n : Nat) : List (Int × Bool) := (List.range n).map fun (i : Nat) => (k + 2 * (i : Int), (k + 2 * (i : Int) + 1) % 3 == 0)
def markAnd (k : Int) (n : Nat) : List (Int × Int) := (List.range n).map fun (i : Nat) => (k + 2 * (i : Int), k + 2 * (i : Int) + 1)
theorem markLat_length (k : Int) (n : Nat) : (markLat k n).length = n := by simp [markLat]
theorem markAnd_length (k : Int) (n : Nat) : (markAnd k n).length = n := by simp [markAnd]
theorem markLat_get (k : Int) (n i : Nat) (h : i < n) : (markLat k n).getD i (0, false) = (k + 2 * (i : Int), (k + 2 * (i : Int) + 1) % 3 == 0) := by simp [markLat, List.getD, h]
theorem markAnd_get (k : Int) (n i : Nat) (h : i < n) : (markAnd k n).getD i (0, 0) = (k + 2 * (i : Int), k + 2 * (i : Int) + 1) := by simp [markAnd, List.getD, h]

set_option maxHeartbeats 2000000 in
theorem markAndS_to (b n cap : Nat) (f : Nat → Value) (k : Int) (w : World) (hrow : w.rowIs b 65 (cap * 2) f) (hn : n ≤ cap) (hc : n ≤ 4194304) (h0 : 0 ≤ k) (h1 : k ≤ 50000000) :
    Calls Try.prog 60 #[.slice (some ⟨b, 0, none⟩) n cap, .int .i64 k] w fun e w' => e = .returned (.int .i64 (k + 2 * n)) ∧ (∃ f', w'.rowIs b 65 (cap * 2) f' ∧ ∀ i, i < n → f' (i * 2) = .int .i64 (k + 2 * (i : Int)) ∧ f' (i * 2 + 1) = .int .i64 (k + 2 * (i : Int) + 1)) ∧ Chg (· = b) w w' := by
  have HR : Hid (w.rowIs b 65 (cap * 2) f) := hrow
  clear hrow
  go_enter Try.func60, Try.ntmps60
  go_wp2
  go_loopw [1, 5] (fun q i wr => ∃ j : Nat, j ≤ n ∧ i = .int .i64 j ∧ q = .int .i64 (k + 2 * j) ∧ (∃ f', wr.rowIs b 65 (cap * 2) f' ∧ ∀ i, i < j → f' (i * 2) = .int .i64 (k + 2 * (i : Int)) ∧ f' (i * 2 + 1) = .int .i64 (k + 2 * (i : Int) + 1)) ∧ Chg (· = b) w wr) (fun _ i _ => n - (intOf i).toNat)
  case atStart => exact ⟨0, Nat.zero_le _, rfl, by simp, ⟨f, HR.out, fun i hi => by omega⟩, Chg.refl _ _⟩
  case round =>
    obtain ⟨j, hj, rfl, rfl, ⟨f', hf, hm⟩, hch⟩ := hrel
    by_cases hlt : j < n
    · have d0 := hf.cell (i := j * 2) (by omega)
      have d1 := hf.cell (i := j * 2 + 1) (by omega)
      have d2 := hf.frozen (j * 2)
      have d3 := hf.frozen (j * 2 + 1)
      have HST : Hid (((wr.setCell ⟨b, j * 2, none⟩ (.int .i64 (k + 2 * (j : Int)))).setCell ⟨b, j * 2 + 1, none⟩ (.int .i64 (k + 2 * (j : Int) + 1))).rowIs b 65 (cap * 2) (fun i => if i = j * 2 + 1 then .int .i64 (k + 2 * (j : Int) + 1) else if i = j * 2 then .int .i64 (k + 2 * (j : Int)) else f' i)) := (hf.set (j * 2) _).set (j * 2 + 1) _
      have HM : Hid (∀ i, i < j → f' (i * 2) = .int .i64 (k + 2 * (i : Int)) ∧ f' (i * 2 + 1) = .int .i64 (k + 2 * (i : Int) + 1)) := hm
      have HCH : Hid (Chg (· = b) w ((wr.setCell ⟨b, j * 2, none⟩ (.int .i64 (k + 2 * (j : Int)))).setCell ⟨b, j * 2 + 1, none⟩ (.int .i64 (k + 2 * (j : Int) + 1)))) := (hch.trans (Chg.set _ _ _ _)).trans (Chg.set _ _ _ _)
      clear hf hm hch
      go_wp2
      go_roundw
      case rel =>
        refine ⟨j + 1, by omega, by go_num, by go_num, ⟨_, HST.out, fun i hi => ?_⟩, HCH.out⟩
        by_cases e : i = j
        · subst e
          exact ⟨by rw [if_neg (by omega), if_pos rfl], by rw [if_pos rfl]⟩
        · have h := HM.out i (by omega)
          exact ⟨by rw [if_neg (by omega), if_neg (by omega)]; exact h.1, by rw [if_neg (by omega), if_neg (by omega)]; exact h.2⟩
      case measure => simp [intOf]; omega
    · obtain rfl : j = n := by omega
      have HF : Hid (∃ f', wr.rowIs b 65 (cap * 2) f' ∧ ∀ i, i < j → f' (i * 2) = .int .i64 (k + 2 * (i : Int)) ∧ f' (i * 2 + 1) = .int .i64 (k + 2 * (i : Int) + 1)) := ⟨f', hf, hm⟩
      clear hf hm
      go_wp2
      go_ret
      exact ⟨rfl, HF.out, hch⟩

set_option maxHeartbeats 2000000 in
theorem markLatchS_to (b n cap : Nat) (f : Nat → Value) (k : Int) (w : World) (hrow : w.rowIs b 86 (cap * 2) f) (hn : n ≤ cap) (hc : n ≤ 4194304) (h0 : 0 ≤ k) (h1 : k ≤ 50000000) :
    Calls Try.prog 59 #[.slice (some ⟨b, 0, none⟩) n cap, .int .i64 k] w fun e w' => e = .returned (.int .i64 (k + 2 * n)) ∧ (∃ f', w'.rowIs b 86 (cap * 2) f' ∧ ∀ i, i < n → f' (i * 2) = .int .i64 (k + 2 * (i : Int)) ∧ f' (i * 2 + 1) = .bool ((k + 2 * (i : Int) + 1) % 3 == 0)) ∧ Chg (· = b) w w' := by
  have HR : Hid (w.rowIs b 86 (cap * 2) f) := hrow
  clear hrow
  go_enter Try.func59, Try.ntmps59
  go_wp2
  go_loopw [1, 5] (fun q i wr => ∃ j : Nat, j ≤ n ∧ i = .int .i64 j ∧ q = .int .i64 (k + 2 * j) ∧ (∃ f', wr.rowIs b 86 (cap * 2) f' ∧ ∀ i, i < j → f' (i * 2) = .int .i64 (k + 2 * (i : Int)) ∧ f' (i * 2 + 1) = .bool ((k + 2 * (i : Int) + 1) % 3 == 0)) ∧ Chg (· = b) w wr) (fun _ i _ => n - (intOf i).toNat)
  case atStart => exact ⟨0, Nat.zero_le _, rfl, by simp, ⟨f, HR.out, fun i hi => by omega⟩, Chg.refl _ _⟩
  case round =>
    obtain ⟨j, hj, rfl, rfl, ⟨f', hf, hm⟩, hch⟩ := hrel
    by_cases hlt : j < n
    · have d0 := hf.cell (i := j * 2) (by omega)
      have d1 := hf.cell (i := j * 2 + 1) (by omega)
      have d2 := hf.frozen (j * 2)
      have d3 := hf.frozen (j * 2 + 1)
      have hwm : (k + 2 * (j : Int) + 1).tmod 3 = (k + 2 * (j : Int) + 1) % 3 := by rw [Int.tmod_eq_emod_of_nonneg (by omega)]
      have HST : Hid (((wr.setCell ⟨b, j * 2, none⟩ (.int .i64 (k + 2 * (j : Int)))).setCell ⟨b, j * 2 + 1, none⟩ (.bool ((k + 2 * (j : Int) + 1) % 3 == 0))).rowIs b 86 (cap * 2) (fun i => if i = j * 2 + 1 then .bool ((k + 2 * (j : Int) + 1) % 3 == 0) else if i = j * 2 then .int .i64 (k + 2 * (j : Int)) else f' i)) := (hf.set (j * 2) _).set (j * 2 + 1) _
      have HM : Hid (∀ i, i < j → f' (i * 2) = .int .i64 (k + 2 * (i : Int)) ∧ f' (i * 2 + 1) = .bool ((k + 2 * (i : Int) + 1) % 3 == 0)) := hm
      have HCH : Hid (Chg (· = b) w ((wr.setCell ⟨b, j * 2, none⟩ (.int .i64 (k + 2 * (j : Int)))).setCell ⟨b, j * 2 + 1, none⟩ (.bool ((k + 2 * (j : Int) + 1) % 3 == 0)))) := (hch.trans (Chg.set _ _ _ _)).trans (Chg.set _ _ _ _)
      clear hf hm hch
      go_wp2
      go_roundw
      case rel =>
        refine ⟨j + 1, by omega, by go_num, by go_num, ⟨_, HST.out, fun i hi => ?_⟩, HCH.out⟩
        by_cases e : i = j
        · subst e
          exact ⟨by rw [if_neg (by omega), if_pos rfl], by rw [if_pos rfl]⟩
        · have h := HM.out i (by omega)
          exact ⟨by rw [if_neg (by omega), if_neg (by omega)]; exact h.1, by rw [if_neg (by omega), if_neg (by omega)]; exact h.2⟩
      case measure => simp [intOf]; omega
    · obtain rfl : j = n := by omega
      have HF : Hid (∃ f', wr.rowIs b 86 (cap * 2) f' ∧ ∀ i, i < j → f' (i * 2) = .int .i64 (k + 2 * (i : Int)) ∧ f' (i * 2 + 1) = .bool ((k + 2 * (i : Int) + 1) % 3 == 0)) := ⟨f', hf, hm⟩
      clear hf hm
      go_wp2
      go_ret
      exact ⟨rfl, HF.out, hch⟩

set_option maxHeartbeats 400000 in
theorem markAndS_none (ao : Option Addr) (cap : Nat) (k : Int) (w : World) (h0 : 0 ≤ k) (h1 : k ≤ 100000000) :
    Calls Try.prog 60 #[.slice ao 0 cap, .int .i64 k] w fun e w' => e = .returned (.int .i64 k) ∧ w' = w := by
  go_enter Try.func60, Try.ntmps60
  go_wp2
  go_rounds 1
  go_ret
  exact ⟨rfl, rfl⟩

set_option maxHeartbeats 400000 in
theorem markLatchS_none (ao : Option Addr) (cap : Nat) (k : Int) (w : World) (h0 : 0 ≤ k) (h1 : k ≤ 100000000) :
    Calls Try.prog 59 #[.slice ao 0 cap, .int .i64 k] w fun e w' => e = .returned (.int .i64 k) ∧ w' = w := by
  go_enter Try.func59, Try.ntmps59
  go_wp2
  go_rounds 1
  go_ret
  exact ⟨rfl, rfl⟩

theorem cur_row {w : World} {g cap s n : Nat} {e : TypeId} {cur : Array Value} {fz : Nat × Nat} (d : Value) (hh : w.heap[g]? = some (.cells cur e (0, 0))) (hsz : cur.size = cap * s) : w.rowIs g e (cap * s) (fun i => cur.getD i d) :=
  ⟨cur, hh, hsz, fun i hi => by rw [Array.getElem?_eq_getElem (by omega)]; simp [Array.getD, show i < cur.size by omega]⟩

theorem mark_ownL (w : World) (base : Nat) (ao : Option Addr) (cap : Nat) (ls : List (Int × Bool)) (k : Int) (h : w.ownsRow base 86 2 (.slice ao ls.length cap) ls.length (latV ls)) (hl : ls.length ≤ 1000) (h0 : 0 ≤ k) (h1 : k ≤ 1000000) :
    Calls Try.prog 59 #[.slice ao ls.length cap, .int .i64 k] w fun e w' => e = .returned (.int .i64 (k + 2 * ls.length)) ∧ IsLatches w' (.slice ao ls.length cap) (markLat k ls.length) ∧ Chg (fun k => (Value.slice ao ls.length cap).ownBlock = some k) w w' := by
  by_cases hz : ls.length = 0
  · rw [hz]
    refine (markLatchS_none ao cap k w h0 (by omega)).mono ?_
    rintro e w' ⟨rfl, rfl⟩
    exact ⟨by simp, ⟨ao, cap, by simp [markLat], fun hne => absurd (by simp [markLat]) hne⟩, Chg.refl _ _⟩
  · rcases h.2 with ⟨_, h0⟩ | ⟨g, cp, cur, hv, hg, hh, hle, hmx, hsz, htk⟩
    · omega
    · cases hv
      refine (markLatchS_to g ls.length cap _ k w (cur_row (n := 0) (fz := (0, 0)) (.int .i64 0) hh hsz) hle (by omega) (by omega) (by omega)).mono ?_
      rintro e w' ⟨rfl, ⟨f', hr', hf'⟩, hch⟩
      refine ⟨rfl, ⟨_, _, by rw [markLat_length], fun _ => ⟨g, 0, rfl, fun i hi => ?_⟩⟩, hch.mono (fun k e => by subst e; rfl)⟩
      rw [markLat_length] at hi
      rw [Nat.zero_add, markLat_get k _ i hi, hr'.cell (i := i * 2) (by omega), hr'.cell (i := i * 2 + 1) (by omega), (hf' i hi).1, (hf' i hi).2]
      exact ⟨rfl, rfl⟩

theorem mark_ownA (w : World) (base : Nat) (ao : Option Addr) (cap : Nat) (xs : List (Int × Int)) (k : Int) (h : w.ownsRow base 65 2 (.slice ao xs.length cap) xs.length (andV xs)) (hl : xs.length ≤ 1000) (h0 : 0 ≤ k) (h1 : k ≤ 1000000) :
    Calls Try.prog 60 #[.slice ao xs.length cap, .int .i64 k] w fun e w' => e = .returned (.int .i64 (k + 2 * xs.length)) ∧ IsAnds w' (.slice ao xs.length cap) (markAnd k xs.length) ∧ Chg (fun k => (Value.slice ao xs.length cap).ownBlock = some k) w w' := by
  by_cases hz : xs.length = 0
  · rw [hz]
    refine (markAndS_none ao cap k w h0 (by omega)).mono ?_
    rintro e w' ⟨rfl, rfl⟩
    exact ⟨by simp, ⟨ao, cap, by simp [markAnd], fun hne => absurd (by simp [markAnd]) hne⟩, Chg.refl _ _⟩
  · rcases h.2 with ⟨_, h0⟩ | ⟨g, cp, cur, hv, hg, hh, hle, hmx, hsz, htk⟩
    · omega
    · cases hv
      refine (markAndS_to g xs.length cap _ k w (cur_row (n := 0) (fz := (0, 0)) (.int .i64 0) hh hsz) hle (by omega) (by omega) (by omega)).mono ?_
      rintro e w' ⟨rfl, ⟨f', hr', hf'⟩, hch⟩
      refine ⟨rfl, ⟨_, _, by rw [markAnd_length], fun _ => ⟨g, 0, rfl, fun i hi => ?_⟩⟩, hch.mono (fun k e => by subst e; rfl)⟩
      rw [markAnd_length] at hi
      rw [Nat.zero_add, markAnd_get k _ i hi, hr'.cell (i := i * 2) (by omega), hr'.cell (i := i * 2 + 1) (by omega), (hf' i hi).1, (hf' i hi).2]
      exact ⟨rfl, rfl⟩

theorem mark_ownI (w : World) (base : Nat) (ao : Option Addr) (cap : Nat) (bs : List Int) (k : Int) (h : w.ownsRow base 3 1 (.slice ao bs.length cap) bs.length (intV bs)) (hl : bs.length ≤ 1000) (h0 : 0 ≤ k) (h1 : k ≤ 1000000) :
    Calls Try.prog 31 #[.slice ao bs.length cap, .int .i64 k] w fun e w' => e = .returned (.int .i64 (k + bs.length)) ∧ IsInts w' (.slice ao bs.length cap) (markN k bs.length) ∧ Chg (fun k => (Value.slice ao bs.length cap).ownBlock = some k) w w' := by
  by_cases hz : bs.length = 0
  · rw [hz]
    refine (markIntS_none ao cap k w h0 (by omega)).mono ?_
    rintro e w' ⟨rfl, rfl⟩
    exact ⟨by simp, ⟨ao, cap, by simp [markN], fun hne => absurd (by simp [markN]) hne⟩, Chg.refl _ _⟩
  · rcases h.2 with ⟨_, h0⟩ | ⟨g, cp, cur, hv, hg, hh, hle, hmx, hsz, htk⟩
    · omega
    · cases hv
      have hrow := cur_row (n := 0) (fz := (0, 0)) (.int .i64 0) hh hsz
      rw [Nat.mul_one] at hrow
      refine (markIntS_to g bs.length cap _ k w hrow hle (by omega) (by omega) (by omega)).mono ?_
      rintro e w' ⟨rfl, ⟨f', hr', hf'⟩, hch⟩
      refine ⟨rfl, ?_, hch.mono (fun k e => by subst e; rfl)⟩
      have := IsInts.of_rowc (xs := markN k bs.length) (by rw [markN_length]; exact hle) hr' (fun i hi => by rw [markN_length] at hi; rw [hf' i hi, markN_get k bs.length i hi])
      rwa [markN_length] at this

set_option maxHeartbeats 1000000 in
theorem heldLatchS_any (v : Value) (n : Nat) (k : Int) (w : World) (hv : IsLatches w v (markLat k n)) (hc : n ≤ 4194304) (h0 : 0 ≤ k) (h1 : k ≤ 50000000) :
    Calls Try.prog 86 #[v, .int .i64 k] w fun e w' => e = .returned (.int .i64 (k + 2 * n)) ∧ w' = w := by
  obtain ⟨ao, cap, rfl, hv⟩ := hv
  have hlen := markLat_length k n
  have HV := hideN hv
  have HNE : Hid (0 < n → markLat k n ≠ []) := fun hn e => by rw [e] at hlen; simp at hlen; omega
  have HL : Hid ((markLat k n).length = n) := hlen
  rw [hlen]
  clear hv hlen
  by_cases hne : 0 < n
  · obtain ⟨b, off, rfl, hcs⟩ := HV.out (HNE.out hne)
    have HCS : Hid (∀ i, i < n → w.cell? ⟨b, off + i * 2, none⟩ = some (.int .i64 (k + 2 * (i : Int))) ∧ w.cell? ⟨b, off + i * 2 + 1, none⟩ = some (.bool ((k + 2 * (i : Int) + 1) % 3 == 0))) := fun i hi => by
      have h := hcs i (by rw [HL.out]; exact hi)
      rw [markLat_get k n i hi] at h
      exact h
    clear hcs HV HNE
    go_enter Try.func86, Try.ntmps86
    go_wp2
    go_loop [1, 5] (fun q i => ∃ j : Nat, j ≤ n ∧ i = .int .i64 j ∧ q = .int .i64 (k + 2 * j)) (fun _ i => n - (intOf i).toNat)
    case atStart => exact ⟨0, Nat.zero_le _, rfl, by simp⟩
    case round =>
      obtain ⟨j, hj, rfl, rfl⟩ := hrel
      by_cases hlt : j < n
      · obtain ⟨d0, d1⟩ := HCS.out j hlt
        generalize hx : ((k + 2 * (j : Int) + 1) % 3 == 0) = x at *
        go_wp2
        go_round
        case rel => exact ⟨j + 1, by omega, by go_num, by go_num⟩
        case measure => simp [intOf]; omega
      · obtain rfl : j = n := by omega
        go_wp2
        go_ret
        exact ⟨rfl, rfl⟩
  · obtain rfl : n = 0 := by omega
    clear HV HNE
    go_enter Try.func86, Try.ntmps86
    go_wp2
    go_rounds 1
    go_ret
    exact ⟨by simp, rfl⟩

set_option maxHeartbeats 1000000 in
theorem heldAndS_any (v : Value) (n : Nat) (k : Int) (w : World) (hv : IsAnds w v (markAnd k n)) (hc : n ≤ 4194304) (h0 : 0 ≤ k) (h1 : k ≤ 50000000) :
    Calls Try.prog 87 #[v, .int .i64 k] w fun e w' => e = .returned (.int .i64 (k + 2 * n)) ∧ w' = w := by
  obtain ⟨ao, cap, rfl, hv⟩ := hv
  have hlen := markAnd_length k n
  have HV := hideN hv
  have HNE : Hid (0 < n → markAnd k n ≠ []) := fun hn e => by rw [e] at hlen; simp at hlen; omega
  have HL : Hid ((markAnd k n).length = n) := hlen
  rw [hlen]
  clear hv hlen
  by_cases hne : 0 < n
  · obtain ⟨b, off, rfl, hcs⟩ := HV.out (HNE.out hne)
    have HCS : Hid (∀ i, i < n → w.cell? ⟨b, off + i * 2, none⟩ = some (.int .i64 (k + 2 * (i : Int))) ∧ w.cell? ⟨b, off + i * 2 + 1, none⟩ = some (.int .i64 (k + 2 * (i : Int) + 1))) := fun i hi => by
      have h := hcs i (by rw [HL.out]; exact hi)
      rw [markAnd_get k n i hi] at h
      exact h
    clear hcs HV HNE
    go_enter Try.func87, Try.ntmps87
    go_wp2
    go_loop [1, 5] (fun q i => ∃ j : Nat, j ≤ n ∧ i = .int .i64 j ∧ q = .int .i64 (k + 2 * j)) (fun _ i => n - (intOf i).toNat)
    case atStart => exact ⟨0, Nat.zero_le _, rfl, by simp⟩
    case round =>
      obtain ⟨j, hj, rfl, rfl⟩ := hrel
      by_cases hlt : j < n
      · obtain ⟨d0, d1⟩ := HCS.out j hlt
        go_wp2
        go_round
        case rel => exact ⟨j + 1, by omega, by go_num, by go_num⟩
        case measure => simp [intOf]; omega
      · obtain rfl : j = n := by omega
        go_wp2
        go_ret
        exact ⟨rfl, rfl⟩
  · obtain rfl : n = 0 := by omega
    clear HV HNE
    go_enter Try.func87, Try.ntmps87
    go_wp2
    go_rounds 1
    go_ret
    exact ⟨by simp, rfl⟩

end Go.Proofs.Ytlahnihpdidanaa

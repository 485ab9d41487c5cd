/-
  A row of numbers in a block of the call's own; marks of numbers that are written into an answer, and held against it: markIntS, heldIntS.
-/
import Derived.Test.YtknpifjkllcdeaaChg
import Derived.Deep.AppendLies
import Derived.OwnWalk
import Derived.RangeFuncRecord
namespace Go.Proofs.Ytknpifjkllcdeaa
open Go.RowKit Go.Deep
set_option linter.unusedVariables false

/-- The value is a slice of these numbers in a block of the call's own. -/
def Owni (w : World) (base : Nat) (v : Value) (vs : List Int) : Prop := w.ownsRow base 3 1 v vs.length (vs.map (Value.int .i64))

theorem owni_empty (w : World) : Owni (w.alloc (.cells #[] 3)) w.heap.size (.slice (some ⟨w.heap.size, 0, none⟩) 0 0) [] := ⟨by simp, .inr ⟨w.heap.size, 0, #[], rfl, Nat.le_refl _, World.alloc_heap_new _ _, Nat.le_refl _, by simp, by simp, by simp⟩⟩

theorem owni_of_block {w w' : World} {base : Nat} {v : Value} {vs : List Int} (h : Owni w base v vs) (hk : ∀ k, v.ownBlock = some k → w'.heap[k]? = w.heap[k]?) : Owni w' base v vs := by
  refine ⟨h.1, ?_⟩
  rcases h.2 with h2 | ⟨g, cap, cur, hv, hg, hh, r⟩
  · exact .inl h2
  · exact .inr ⟨g, cap, cur, hv, hg, (hk g (by rw [hv]; rfl)).trans hh, r⟩

theorem Owni.below {w w' : World} {base : Nat} {v : Value} {vs : List Int} (h : Owni w base v vs) (hb : Below w.heap.size w w') : Owni w' base v vs := owni_of_block h (fun k e => hb.block k (World.ownsRow.lt h k e).2)

theorem Owni.base {w : World} {a b : Nat} {v : Value} {vs : List Int} (h : Owni w a v vs) (hb : b ≤ a) : Owni w b v vs := by
  refine ⟨h.1, ?_⟩
  rcases h.2 with h2 | ⟨g, cap, cur, hv, hg, r⟩
  · exact .inl h2
  · exact .inr ⟨g, cap, cur, hv, by omega, r⟩

theorem owni_nil (w : World) (base : Nat) (h : base ≤ w.heap.size) : Owni w base (.slice none 0 0) [] := ⟨by simp, .inl ⟨rfl, rfl⟩⟩

theorem newsN (w : World) (x : Value) (t : TypeId) : ∀ j u, [x][j]? = some u → (w.alloc (.cells #[x] t)).cell? ((⟨w.heap.size, 0, none⟩ : Addr).add j) = some u := by
  intro j u h
  cases j with
  | zero => simp at h; subst h; simp [Addr.add]
  | succ j => simp at h

theorem Owni.isInts {w : World} {base : Nat} {v : Value} {vs : List Int} (h : Owni w base v vs) : IsInts w v vs := by
  rcases h.2 with ⟨rfl, h0⟩ | ⟨g, cap, cur, rfl, hg, hb, hle, hsz, hcells, _⟩
  · have : vs = [] := List.length_eq_zero_iff.1 h0
    subst this
    exact ⟨none, 0, rfl, fun h => absurd rfl h⟩
  · refine ⟨_, cap, rfl, fun _ => ⟨g, 0, rfl, fun i hi => ?_⟩⟩
    have := World.ownsRow.cellAt h i (by omega)
    rw [Nat.zero_add, this]
    simp [List.getD, hi]

theorem Owni.blk {w : World} {base : Nat} {v : Value} {vs : List Int} (h : Owni w base v vs) : ∀ k, v.ownBlock = some k → base ≤ k ∧ k < w.heap.size := World.ownsRow.lt h

theorem Owni.chg {p : Nat → Prop} {a b : World} {base : Nat} {v : Value} {vs : List Int} (h : Owni a base v vs) (hc : Chg p a b) (hne : ∀ k, v.ownBlock = some k → ¬ p k) : Owni b base v vs :=
  owni_of_block h (fun g e => hc.block g (h.blk g e).2 (hne g e))

/-- The marks from a number on. -/
def markN (k : Int) (n : Nat) : List Int := (List.range n).map fun (i : Nat) => k + (i : Int)
theorem markN_length (k : Int) (n : Nat) : (markN k n).length = n := by simp [markN]
theorem markN_get (k : Int) (n i : Nat) (h : i < n) : (markN k n).getD i 0 = k + (i : Int) := by simp [markN, List.getD, h]

set_option maxHeartbeats 1000000 in
theorem markIntS_to (b n cap : Nat) (f : Nat → Value) (k : Int) (w : World) (hrow : w.rowIs b 3 cap f) (hn : n ≤ cap) (hc : n ≤ 4194304) (h0 : 0 ≤ k) (h1 : k ≤ 100000000) :
    Calls Try.prog 31 #[.slice (some ⟨b, 0, none⟩) n cap, .int .i64 k] w fun e w' => e = .returned (.int .i64 (k + n)) ∧ (∃ f', w'.rowIs b 3 cap f' ∧ ∀ i, i < n → f' i = .int .i64 (k + (i : Int))) ∧ Chg (· = b) w w' := by
  have HR : Hid (w.rowIs b 3 cap f) := hrow
  clear hrow
  go_enter Try.func31, Try.ntmps31
  go_wp2
  go_loopw [1, 5] (fun q i wr => ∃ j : Nat, j ≤ n ∧ i = .int .i64 j ∧ q = .int .i64 (k + j) ∧ (∃ f', wr.rowIs b 3 cap f' ∧ ∀ i, i < j → f' i = .int .i64 (k + (i : Int))) ∧ Chg (· = b) w wr) (fun _ i _ => n - (intOf i).toNat)
  case atStart => exact ⟨0, Nat.zero_le _, rfl, by simp, ⟨f, HR.out, fun i hi => by omega⟩, Chg.refl _ _⟩
  case round =>
    obtain ⟨j, hj, rfl, rfl, ⟨f', hf, hm⟩, hch⟩ := hrel
    by_cases hlt : j < n
    · have d0 := hf.cell (i := j) (by omega)
      have d1 := hf.frozen j
      have HST : Hid ((wr.setCell ⟨b, j, none⟩ (.int .i64 (k + (j : Int)))).rowIs b 3 cap (fun i => if i = j then .int .i64 (k + (j : Int)) else f' i)) := hf.set j _
      have HM : Hid (∀ i, i < j → f' i = .int .i64 (k + (i : Int))) := hm
      have HCH : Hid (Chg (· = b) w (wr.setCell ⟨b, j, none⟩ (.int .i64 (k + (j : Int))))) := hch.trans (Chg.set _ _ _ _)
      clear hf hm hch
      go_wp2
      go_roundw
      case rel =>
        refine ⟨j + 1, by omega, by go_num, by go_num, ⟨_, HST.out, fun i hi => ?_⟩, HCH.out⟩
        by_cases e : i = j
        · subst e; simp
        · rw [if_neg e]; exact HM.out i (by omega)
      case measure => simp [intOf]; omega
    · obtain rfl : j = n := by omega
      have HF : Hid (∃ f', wr.rowIs b 3 cap f' ∧ ∀ i, i < j → f' i = .int .i64 (k + (i : Int))) := ⟨f', hf, hm⟩
      clear hf hm
      go_wp2
      go_ret
      exact ⟨rfl, HF.out, hch⟩

set_option maxHeartbeats 400000 in
theorem markIntS_none (ao : Option Addr) (cap : Nat) (k : Int) (w : World) (h0 : 0 ≤ k) (h1 : k ≤ 100000000) :
    Calls Try.prog 31 #[.slice ao 0 cap, .int .i64 k] w fun e w' => e = .returned (.int .i64 k) ∧ w' = w := by
  go_enter Try.func31, Try.ntmps31
  go_wp2
  go_rounds 1
  go_ret
  exact ⟨rfl, rfl⟩

set_option maxHeartbeats 1000000 in
theorem heldIntS_any (v : Value) (n : Nat) (k : Int) (w : World) (hv : IsInts w v (markN k n)) (hc : n ≤ 4194304) (h0 : 0 ≤ k) (h1 : k ≤ 100000000) :
    Calls Try.prog 32 #[v, .int .i64 k] w fun e w' => e = .returned (.int .i64 (k + n)) ∧ w' = w := by
  obtain ⟨ao, cap, rfl, hv⟩ := hv
  have hlen := markN_length k n
  have HV : Hid (markN k n ≠ [] → ∃ b off, ao = some ⟨b, off, none⟩ ∧ ∀ i, i < (markN k n).length → w.cell? ⟨b, off + i, none⟩ = some (.int .i64 ((markN k n).getD i 0))) := hv
  have HG : Hid (∀ i, i < n → (markN k n).getD i 0 = k + (i : Int)) := fun i hi => markN_get k n i hi
  have HNE : Hid (0 < n → markN k n ≠ []) := fun hn e => by rw [e] at hlen; simp at hlen; omega
  have HL : Hid ((markN k n).length = n) := hlen
  rw [hlen]
  clear hv hlen
  by_cases hne : 0 < n
  · obtain ⟨b, off, rfl, hcs⟩ := HV.out (HNE.out hne)
    have HCS : Hid (∀ i, i < n → w.cell? ⟨b, off + i, none⟩ = some (.int .i64 (k + (i : Int)))) := fun i hi => by rw [hcs i (by rw [HL.out]; exact hi), HG.out i hi]
    clear hcs HV HNE HG
    go_enter Try.func32, Try.ntmps32
    go_wp2
    go_loop [1, 5] (fun q i => ∃ j : Nat, j ≤ n ∧ i = .int .i64 j ∧ q = .int .i64 (k + j)) (fun _ i => n - (intOf i).toNat)
    case atStart => exact ⟨0, Nat.zero_le _, rfl, by simp⟩
    case round =>
      obtain ⟨j, hj, rfl, rfl⟩ := hrel
      by_cases hlt : j < n
      · have d0 := HCS.out j hlt
        go_wp2
        go_round
        case rel => exact ⟨j + 1, by omega, by go_num, by go_num⟩
        case measure => simp [intOf]; omega
      · obtain rfl : j = n := by omega
        go_wp2
        go_ret
        exact ⟨rfl, rfl⟩
  · obtain rfl : n = 0 := by omega
    clear HV HG HNE
    go_enter Try.func32, Try.ntmps32
    go_wp2
    go_rounds 1
    go_ret
    exact ⟨by simp, rfl⟩

theorem IsInts.of_rowc {w : World} {b cap : Nat} {xs : List Int} {f : Nat → Value} (hle : xs.length ≤ cap) (h : w.rowIs b 3 cap f) (hf : ∀ i, i < xs.length → f i = .int .i64 (xs.getD i 0)) : IsInts w (.slice (some ⟨b, 0, none⟩) xs.length cap) xs :=
  ⟨_, _, rfl, fun _ => ⟨b, 0, rfl, fun i hi => by rw [Nat.zero_add, h.cell (i := i) (by omega), hf i hi]⟩⟩

/-- Marks written into an answer that owns its memory. -/
theorem mark_owni (w : World) (base : Nat) (ao : Option Addr) (m cap : Nat) (vs : List Int) (h : Owni w base (.slice ao m cap) vs) (hm : vs.length = m) (hl : vs.length ≤ 1000) :
    Calls Try.prog 31 #[.slice ao m cap, .int .i64 1] w fun e w' => e = .returned (.int .i64 (1 + m)) ∧ IsInts w' (.slice ao m cap) (markN 1 m) ∧ Chg (fun k => (Value.slice ao m cap).ownBlock = some k) w w' := by
  subst hm
  by_cases hz : vs.length = 0
  · have e0 : (1 : Int) + ((vs.length : Nat) : Int) = 1 := by omega
    rw [e0]
    rw [hz]
    refine (markIntS_none ao cap 1 w (by omega) (by omega)).mono ?_
    rintro e w' ⟨rfl, rfl⟩
    exact ⟨rfl, ⟨ao, cap, by simp [markN], fun hne => absurd (by simp [markN]) hne⟩, Chg.refl _ _⟩
  · rcases h.2 with ⟨_, h0⟩ | ⟨g, cp, cur, hv, hg, hh, hle, hmx, hsz, htk⟩
    · omega
    · cases hv
      have hrow : w.rowIs g 3 cap (fun i => cur.getD i (.int .i64 0)) := ⟨cur, hh, by omega, fun i hi => by rw [Array.getElem?_eq_getElem (by omega)]; simp [Array.getD, show i < cur.size by omega]⟩
      refine (markIntS_to g vs.length cap _ 1 w hrow hle (by omega) (by omega) (by omega)).mono ?_
      rintro e w' ⟨rfl, ⟨f', hr', hf'⟩, hch⟩
      refine ⟨rfl, ?_, hch.mono (fun k e => by subst e; rfl)⟩
      have := IsInts.of_rowc (xs := markN 1 vs.length) (by rw [markN_length]; exact hle) hr' (fun i hi => by rw [markN_length] at hi; rw [hf' i hi, markN_get 1 vs.length i hi])
      rwa [markN_length] at this

end Go.Proofs.Ytknpifjkllcdeaa

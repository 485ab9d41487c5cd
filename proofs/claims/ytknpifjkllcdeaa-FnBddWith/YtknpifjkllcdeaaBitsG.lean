/-
  Rows of truths: copies, comparisons, marks; memory of a call's own.
-/
import Derived.Test.YtknpifjkllcdeaaRowN
namespace Go.Proofs.Ytknpifjkllcdeaa
open Go.RowKit Go.Deep
set_option linter.unusedVariables false

attribute [local go_sem] Oper.semAt_some

/-- The value is a slice of these truths. -/
def IsBits (w : World) (v : Value) (ms : List Bool) : Prop :=
  ∃ ao cap, v = .slice ao ms.length cap ∧ (ms ≠ [] → ∃ b off, ao = some ⟨b, off, none⟩ ∧ ∀ i, i < ms.length → w.cell? ⟨b, off + i, none⟩ = some (.bool (ms.getD i false)))

theorem IsBits.below {w w' : World} {v : Value} {ms : List Bool} (h : IsBits w v ms) (hb : Below w.heap.size w w') : IsBits w' v ms := by
  obtain ⟨ao, cap, rfl, h⟩ := h
  refine ⟨ao, cap, rfl, fun hne => ?_⟩
  obtain ⟨b, off, rfl, hc⟩ := h hne
  exact ⟨b, off, rfl, fun i hi => by rw [hb.cell (cell_lt (hc i hi))]; exact hc i hi⟩

theorem IsBits.drewN {w : World} {v : Value} {ms : List Bool} (h : IsBits w v ms) (n : Nat) : IsBits (w.drewN n) v ms := h

/-- Of the copy, so many cells are filled. -/
def partB (ms : List Bool) (k : Nat) : Nat → Value := fun i => if i < k then .bool (ms.getD i false) else .bool false

theorem partB_set {w : World} {b : Nat} {t : TypeId} {n : Nat} {ms : List Bool} {k : Nat} (h : w.rowIs b t n (partB ms k)) : (w.setCell ⟨b, k, none⟩ (.bool (ms.getD k false))).rowIs b t n (partB ms (k + 1)) := by
  refine (h.set k _).congr (fun i _ => ?_)
  unfold partB
  by_cases e : i = k
  · subst e; simp
  · rw [if_neg e]
    by_cases hlt : i < k
    · rw [if_pos hlt, if_pos (by omega)]
    · rw [if_neg hlt, if_neg (by omega)]

set_option maxHeartbeats 1000000 in
theorem toBoolS_any (v : Value) (ms : List Bool) (w : World) (hv : IsBits w v ms) (hn : ms.length ≤ 1048576) :
    Calls Try.prog 16 #[v] w fun e w' => e = .returned (.slice (some ⟨w.heap.size, 0, none⟩) ms.length ms.length) ∧ Below w.heap.size w w' ∧ w'.heap.size = w.heap.size + 1 ∧ w'.rowIs w.heap.size 4 ms.length (fun i => .bool (ms.getD i false)) := by
  obtain ⟨ao, cap, rfl, hv⟩ := hv
  generalize hN : ms.length = n at *
  have hmk := run_make_row' (P := Try.prog) 22 4 (.bool false) 1 Try.underlying22 info_bool rfl .i64 .i64 n (by omega) (by omega)
  have HN : Hid (ms.length = n) := hN
  clear hN
  by_cases hne : 0 < n
  · obtain ⟨b, off, rfl, hc⟩ := hv (by intro e; have := HN.out; subst e; simp at this; omega)
    have HC : Hid (∀ i, i < n → w.cell? ⟨b, off + i, none⟩ = some (.bool (ms.getD i false))) := hc
    clear hc hv
    go_enter Try.func16, Try.ntmps16
    go_wp2
    go_loopw [4] (fun i wr => ∃ k : Nat, k ≤ n ∧ i = .int .i64 k ∧ Below w.heap.size w wr ∧ wr.heap.size = w.heap.size + 1 ∧ wr.rowIs w.heap.size 4 n (partB ms k)) (fun i _ => n - (intOf i).toNat)
    case atStart => exact ⟨0, Nat.zero_le _, rfl, (Below.refl _ _).alloc (Nat.le_refl _) _, by simp, (World.rowIs_made w _ n 4).congr (fun j _ => by simp [partB])⟩
    case round =>
      obtain ⟨k, hk, rfl, hb, hsz, hrow⟩ := hrel
      by_cases hlt : k < n
      · have hcell := HC.out k hlt
        have hc1 : wr.cell? ⟨b, off + k, none⟩ = some (.bool (ms.getD k false)) := (hb.cell (cell_lt hcell)).trans hcell
        have hc2 := hrow.cell hlt
        have hfz := hrow.frozen k
        have hstep := partB_set hrow
        have HB : Hid (Below w.heap.size w wr) := hb
        have HS : Hid (wr.heap.size = w.heap.size + 1) := hsz
        have HST : Hid ((wr.setCell ⟨w.heap.size, k, none⟩ (.bool (ms.getD k false))).rowIs w.heap.size 4 n (partB ms (k + 1))) := hstep
        clear hcell hrow hb hsz hstep
        generalize ms.getD k false = x at *
        go_wp2
        go_roundw
        case rel => exact ⟨k + 1, by omega, by go_num, HB.out.setCell (Nat.le_refl _) _, by simp [HS.out], HST.out⟩
        case measure => simp [intOf]; omega
      · have hrow' : wr.rowIs w.heap.size 4 n (fun i => .bool (ms.getD i false)) := hrow.congr (fun i hi => by unfold partB; rw [if_pos (by omega)])
        go_wp2
        go_ret
        exact ⟨rfl, hb, hsz, hrow'⟩
  · go_enter Try.func16, Try.ntmps16
    go_wp2
    go_rounds 1
    go_ret
    exact ⟨rfl, (Below.refl _ _).alloc (Nat.le_refl _) _, by simp, (World.rowIs_made w _ n 4).congr (fun j _ => by omega)⟩

set_option maxHeartbeats 1000000 in
theorem eqBoolS_same (v1 v2 : Value) (ms : List Bool) (w : World) (h1 : IsBits w v1 ms) (h2 : IsBits w v2 ms) (hn : ms.length ≤ maxLen) :
    Calls Try.prog 19 #[v1, v2] w fun e w' => e = .returned (.bool true) ∧ ∃ n, w' = w.drewN n := by
  obtain ⟨ao1, cap1, rfl, h1⟩ := h1
  obtain ⟨ao2, cap2, rfl, h2⟩ := h2
  generalize hN : ms.length = n at *
  unfold maxLen at hn
  have HN : Hid (ms.length = n) := hN
  clear hN
  by_cases hne : 0 < n
  · have hx : ms ≠ [] := by intro e; have := HN.out; subst e; simp at this; omega
    obtain ⟨b1, off1, rfl, hc1⟩ := h1 hx
    obtain ⟨b2, off2, rfl, hc2⟩ := h2 hx
    have HC1 : Hid (∀ i, i < n → w.cell? ⟨b1, off1 + i, none⟩ = some (.bool (ms.getD i false))) := hc1
    have HC2 : Hid (∀ i, i < n → w.cell? ⟨b2, off2 + i, none⟩ = some (.bool (ms.getD i false))) := hc2
    clear hc1 hc2 h1 h2 hx
    go_enter Try.func19, Try.ntmps19
    go_wp2
    go_loopw [5] (fun i wr => ∃ k : Nat, k ≤ n ∧ i = .int .i64 k ∧ ∃ m, wr = w.drewN m) (fun i _ => n - (intOf i).toNat)
    case atStart => exact ⟨0, Nat.zero_le _, rfl, 0, rfl⟩
    case round =>
      obtain ⟨k, hk, rfl, m, rfl⟩ := hrel
      by_cases hlt : k < n
      · have hd1 := HC1.out k hlt
        have hd2 := HC2.out k hlt
        generalize ms.getD k false = x at *
        go_wp2
        go_quiet (fail)
        go_wp2
        go_roundw
        case rel => exact ⟨k + 1, by omega, by go_num, _, rfl⟩
        case measure => simp [intOf]; omega
      · go_wp2
        go_ret
        exact ⟨rfl, _, rfl⟩
  · clear h1 h2
    go_enter Try.func19, Try.ntmps19
    go_wp2
    go_rounds 1
    go_ret
    exact ⟨rfl, 0, rfl⟩


theorem IsBits.of_row {w : World} {b cap : Nat} {ms : List Bool} {f : Nat → Value} (hc : ms.length ≤ cap) (h : w.rowIs b 4 cap f) (hf : ∀ i, i < ms.length → f i = .bool (ms.getD i false)) : IsBits w (.slice (some ⟨b, 0, none⟩) ms.length cap) ms :=
  ⟨_, _, rfl, fun _ => ⟨b, 0, rfl, fun i hi => by rw [Nat.zero_add, h.cell (by omega), hf i hi]⟩⟩

/-- The marks from a number on. -/
def markL (k : Int) (n : Nat) : List Bool := (List.range n).map fun (i : Nat) => (k + (i : Int)) % 3 == 0
theorem markL_length (k : Int) (n : Nat) : (markL k n).length = n := by simp [markL]
theorem markL_get (k : Int) (n i : Nat) (h : i < n) : (markL k n).getD i false = ((k + (i : Int)) % 3 == 0) := by simp [markL, List.getD, h]

set_option maxHeartbeats 1000000 in
theorem markBoolS_any (b n cap : Nat) (f : Nat → Value) (k : Int) (w : World) (hrow : w.rowIs b 4 cap f) (hn : n ≤ cap) (hc : n ≤ 4194304) (h0 : 0 ≤ k) (h1 : k ≤ 100000000) :
    Calls Try.prog 20 #[.slice (some ⟨b, 0, none⟩) n cap, .int .i64 k] w fun e w' => e = .returned (.int .i64 (k + n)) ∧ (∃ f', w'.rowIs b 4 cap f' ∧ ∀ i, i < n → f' i = .bool ((k + (i : Int)) % 3 == 0)) ∧ Chg (· = b) w w' := by
  have HR : Hid (w.rowIs b 4 cap f) := hrow
  clear hrow
  go_enter Try.func20, Try.ntmps20
  go_wp2
  go_loopw [1, 5] (fun q i wr => ∃ j : Nat, j ≤ n ∧ i = .int .i64 j ∧ q = .int .i64 (k + j) ∧ (∃ f', wr.rowIs b 4 cap f' ∧ ∀ i, i < j → f' i = .bool ((k + (i : Int)) % 3 == 0)) ∧ Chg (· = b) w wr) (fun _ i _ => n - (intOf i).toNat)
  case atStart => exact ⟨0, Nat.zero_le _, rfl, by simp, ⟨f, HR.out, fun i hi => by omega⟩, Chg.refl _ _⟩
  case round =>
    obtain ⟨j, hj, rfl, rfl, ⟨f', hf, hm⟩, hch⟩ := hrel
    by_cases hlt : j < n
    · have d0 := hf.cell (i := j) (by omega)
      have d1 := hf.frozen j
      have HST : Hid ((wr.setCell ⟨b, j, none⟩ (.bool ((k + (j : Int)) % 3 == 0))).rowIs b 4 cap (fun i => if i = j then .bool ((k + (j : Int)) % 3 == 0) else f' i)) := hf.set j _
      have HM : Hid (∀ i, i < j → f' i = .bool ((k + (i : Int)) % 3 == 0)) := hm
      have HCH : Hid (Chg (· = b) w (wr.setCell ⟨b, j, none⟩ (.bool ((k + (j : Int)) % 3 == 0)))) := hch.trans (Chg.set _ _ _ _)
      clear hf hm hch
      go_wp2
      go_roundw
      case rel =>
        refine ⟨j + 1, by omega, by go_num, by go_num, ⟨_, HST.out, fun i hi => ?_⟩, HCH.out⟩
        by_cases e : i = j
        · subst e; simp
        · rw [if_neg e]; exact HM.out i (by omega)
      case measure => simp [intOf]; omega
    · obtain rfl : j = n := by omega
      have HF : Hid (∃ f', wr.rowIs b 4 cap f' ∧ ∀ i, i < j → f' i = .bool ((k + (i : Int)) % 3 == 0)) := ⟨f', hf, hm⟩
      clear hf hm
      go_wp2
      go_ret
      exact ⟨rfl, HF.out, hch⟩

set_option maxHeartbeats 400000 in
theorem markBoolS_none (v : Value) (ao : Option Addr) (cap : Nat) (k : Int) (w : World) (h0 : 0 ≤ k) (h1 : k ≤ 100000000) :
    Calls Try.prog 20 #[.slice ao 0 cap, .int .i64 k] w fun e w' => e = .returned (.int .i64 k) ∧ w' = w := by
  go_enter Try.func20, Try.ntmps20
  go_wp2
  go_rounds 1
  go_ret
  exact ⟨rfl, rfl⟩

set_option maxHeartbeats 1000000 in
theorem heldBoolS_any (v : Value) (n : Nat) (k : Int) (w : World) (hv : IsBits w v (markL k n)) (hc : n ≤ 4194304) (h0 : 0 ≤ k) (h1 : k ≤ 100000000) :
    Calls Try.prog 27 #[v, .int .i64 k] w fun e w' => e = .returned (.int .i64 (k + n)) ∧ w' = w := by
  obtain ⟨ao, cap, rfl, hv⟩ := hv
  have hlen := markL_length k n
  have HV : Hid (markL k n ≠ [] → ∃ b off, ao = some ⟨b, off, none⟩ ∧ ∀ i, i < (markL k n).length → w.cell? ⟨b, off + i, none⟩ = some (.bool ((markL k n).getD i false))) := hv
  have HG : Hid (∀ i, i < n → (markL k n).getD i false = ((k + (i : Int)) % 3 == 0)) := fun i hi => markL_get k n i hi
  have HNE : Hid (0 < n → markL k n ≠ []) := fun hn e => by rw [e] at hlen; simp at hlen; omega
  have HL : Hid ((markL k n).length = n) := hlen
  rw [hlen]
  clear hv hlen
  by_cases hne : 0 < n
  · obtain ⟨b, off, rfl, hcs⟩ := HV.out (HNE.out hne)
    have HCS : Hid (∀ i, i < n → w.cell? ⟨b, off + i, none⟩ = some (.bool ((k + (i : Int)) % 3 == 0))) := fun i hi => by rw [hcs i (by rw [HL.out]; exact hi), HG.out i hi]
    clear hcs HV HNE HG
    go_enter Try.func27, Try.ntmps27
    go_wp2
    go_loop [1, 5] (fun q i => ∃ j : Nat, j ≤ n ∧ i = .int .i64 j ∧ q = .int .i64 (k + j)) (fun _ i => n - (intOf i).toNat)
    case atStart => exact ⟨0, Nat.zero_le _, rfl, by simp⟩
    case round =>
      obtain ⟨j, hj, rfl, rfl⟩ := hrel
      by_cases hlt : j < n
      · have d0 := HCS.out j hlt
        generalize hx : ((k + (j : Int)) % 3 == 0) = x at *
        go_wp2
        go_round
        case rel => exact ⟨j + 1, by omega, by go_num, by go_num⟩
        case measure => simp [intOf]; omega
      · obtain rfl : j = n := by omega
        go_wp2
        go_ret
        exact ⟨rfl, rfl⟩
  · obtain rfl : n = 0 := by omega
    clear HV HG HNE
    go_enter Try.func27, Try.ntmps27
    go_wp2
    go_rounds 1
    go_ret
    exact ⟨by simp, rfl⟩

/-- The value is a slice of these truths in a block of the call's own. -/
def Ownb (w : World) (base : Nat) (v : Value) (vs : List Bool) : Prop := w.ownsRow base 4 1 v vs.length (vs.map Value.bool)

theorem Ownb.form {w : World} {base : Nat} {v : Value} {vs : List Bool} (h : Ownb w base v vs) : ∃ ao cap, v = .slice ao vs.length cap := by
  rcases h.2 with ⟨rfl, h0⟩ | ⟨g, cap, cur, rfl, _⟩
  · exact ⟨none, 0, by rw [h0]⟩
  · exact ⟨_, cap, rfl⟩

theorem Ownb.cons_form {w : World} {base : Nat} {v : Value} {vs : List Bool} (h : Ownb w base v vs) (hne : 0 < vs.length) : ∃ g cap, v = .slice (some ⟨g, 0, none⟩) vs.length cap ∧ base ≤ g ∧ g < w.heap.size := by
  rcases h.2 with ⟨rfl, h0⟩ | ⟨g, cap, cur, rfl, hg, hb, _⟩
  · omega
  · exact ⟨g, cap, rfl, hg, (Array.getElem?_eq_some_iff.1 hb).1⟩

theorem Ownb.isBits {w : World} {base : Nat} {v : Value} {vs : List Bool} (h : Ownb w base v vs) : IsBits w v vs := by
  rcases h.2 with ⟨rfl, h0⟩ | ⟨g, cap, cur, rfl, hg, hb, hle, hsz, hcells, _⟩
  · have : vs = [] := List.length_eq_zero_iff.1 h0
    subst this
    exact ⟨none, 0, rfl, fun h => absurd rfl h⟩
  · refine ⟨_, cap, rfl, fun _ => ⟨g, 0, rfl, fun i hi => ?_⟩⟩
    have := World.ownsRow.cellAt h i (by omega)
    rw [Nat.zero_add, this]
    simp [List.getD, hi]

theorem Ownb.below {w w' : World} {base : Nat} {v : Value} {vs : List Bool} (h : Ownb w base v vs) (hb : Below w.heap.size w w') : Ownb w' base v vs := by
  refine ⟨h.1, ?_⟩
  rcases h.2 with h2 | ⟨g, cap, cur, hv, hg, hh, r⟩
  · exact .inl h2
  · exact .inr ⟨g, cap, cur, hv, hg, (hb.block g (Array.getElem?_eq_some_iff.1 hh).1).trans hh, r⟩

theorem Ownb.of_block {w w' : World} {base : Nat} {v : Value} {vs : List Bool} (h : Ownb w base v vs) (hb : ∀ g, v.ownBlock = some g → w'.heap[g]? = w.heap[g]?) : Ownb w' base v vs := by
  refine ⟨h.1, ?_⟩
  rcases h.2 with h2 | ⟨g, cap, cur, hv, hg, hh, r⟩
  · exact .inl h2
  · exact .inr ⟨g, cap, cur, hv, hg, (hb g (by rw [hv]; rfl)).trans hh, r⟩

theorem bools_oneCell (vs : List Bool) : ∀ u ∈ vs.map Value.bool, u.oneCell' = true := fun u hu => by
  obtain ⟨_, _, rfl⟩ := List.mem_map.1 hu
  rfl

theorem ownb_nil (w : World) (base : Nat) : Ownb w base (.slice none 0 0) [] := ⟨rfl, .inl ⟨rfl, rfl⟩⟩
theorem ownb_empty (w : World) : Ownb (w.alloc (.cells #[] 4)) w.heap.size (.slice (some ⟨w.heap.size, 0, none⟩) 0 0) [] := ⟨by simp, .inr ⟨w.heap.size, 0, #[], rfl, Nat.le_refl _, World.alloc_heap_new _ _, Nat.le_refl _, by simp, by simp, by simp⟩⟩
theorem Ownb.base {w : World} {a b : Nat} {v : Value} {vs : List Bool} (h : Ownb w a v vs) (hb : b ≤ a) : Ownb w b v vs := by
  refine ⟨h.1, ?_⟩
  rcases h.2 with h2 | ⟨g, cap, cur, hv, hg, r⟩
  · exact .inl h2
  · exact .inr ⟨g, cap, cur, hv, by omega, r⟩

theorem Ownb.chg {p : Nat → Prop} {a b : World} {base : Nat} {v : Value} {vs : List Bool} (h : Ownb a base v vs) (hc : Chg p a b) (hne : ∀ k, v.ownBlock = some k → ¬ p k) : Ownb b base v vs :=
  h.of_block (fun g e => hc.block g (by
    rcases h.2 with ⟨rfl, _⟩ | ⟨g', cap, cur, rfl, _, hh, _⟩
    · cases e
    · cases e; exact (Array.getElem?_eq_some_iff.1 hh).1) (hne g e))

theorem Ownb.blk {w : World} {base : Nat} {v : Value} {vs : List Bool} (h : Ownb w base v vs) : ∀ k, v.ownBlock = some k → base ≤ k ∧ k < w.heap.size := World.ownsRow.lt h

/-- Marks written into an answer that owns its memory. -/
theorem mark_own (w : World) (base : Nat) (ao : Option Addr) (m cap : Nat) (vs : List Bool) (h : Ownb w base (.slice ao m cap) vs) (hm : vs.length = m) (hl : vs.length ≤ 100) :
    Calls Try.prog 20 #[.slice ao m cap, .int .i64 1] w fun e w' => e = .returned (.int .i64 (1 + m)) ∧ IsBits w' (.slice ao m cap) (markL 1 m) ∧ Chg (fun k => (Value.slice ao m cap).ownBlock = some k) w w' := by
  subst hm
  by_cases hz : vs.length = 0
  · have e0 : (1 : Int) + ((vs.length : Nat) : Int) = 1 := by omega
    rw [e0]
    rw [hz]
    refine (markBoolS_none (.slice ao 0 cap) ao cap 1 w (by omega) (by omega)).mono ?_
    rintro e w' ⟨rfl, rfl⟩
    exact ⟨rfl, ⟨ao, cap, by simp [markL], fun hne => absurd (by simp [markL]) hne⟩, Chg.refl _ _⟩
  · rcases h.2 with ⟨_, h0⟩ | ⟨g, cp, cur, hv, hg, hh, hle, hmx, hsz, htk⟩
    · omega
    · cases hv
      have hrow : w.rowIs g 4 cap (fun i => cur.getD i (.bool false)) := ⟨cur, hh, by omega, fun i hi => by rw [Array.getElem?_eq_getElem (by omega)]; simp [Array.getD, show i < cur.size by omega]⟩
      refine (markBoolS_any g vs.length cap _ 1 w hrow hle (by omega) (by omega) (by omega)).mono ?_
      rintro e w' ⟨rfl, ⟨f', hr', hf'⟩, hch⟩
      refine ⟨rfl, ?_, hch.mono (fun k e => by subst e; rfl)⟩
      have := IsBits.of_row (ms := markL 1 vs.length) (by rw [markL_length]; exact hle) hr' (fun i hi => by rw [markL_length] at hi; rw [hf' i hi, markL_get 1 vs.length i hi])
      rwa [markL_length] at this

end Go.Proofs.Ytknpifjkllcdeaa

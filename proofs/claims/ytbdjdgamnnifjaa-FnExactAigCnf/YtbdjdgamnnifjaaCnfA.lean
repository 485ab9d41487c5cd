/-
  Clauses of a circuit: what a literal is, one clause more, of model (l4Lit, l4Not, l4Add) and program (literal, opposite, putClause).
-/
import Derived.Test.YtbdjdgamnnifjaaGridJ
import Derived.Test.YtbdjdgamnnifjaaAigG
namespace Go.Proofs.Ytbdjdgamnnifjaa
open Go.RowKit Go.Deep Go.Shelf
set_option linter.unusedVariables false

attribute [local go_sem] Oper.semAt_some

/-- A literal of a circuit as one of clauses. -/
def litN (x : Int) : Int := if x % 2 = 1 then -(x / 2) else x / 2
/-- The opposite. -/
def oppL (x : Int) : Int := if x % 2 = 0 then x + 1 else x - 1
def clauseK (ys : List Int) (k : Nat) : List Int := ((ys.take k).filter (fun x => x != 0)).map litN
def hasOne (ys : List Int) : Bool := ys.any (fun x => x == 1)
/-- One clause more, if it says something. -/
def addCl (css : List (List Int)) (ys : List Int) : List (List Int) := if hasOne ys = true then css else css ++ [clauseK ys ys.length]

theorem clauseK_succ (ys : List Int) (k : Nat) (h : k < ys.length) : clauseK ys (k + 1) = if ys.getD k 0 = 0 then clauseK ys k else clauseK ys k ++ [litN (ys.getD k 0)] := by
  unfold clauseK
  rw [List.take_succ_eq_append_getElem h, List.filter_append, List.map_append]
  have e : ys.getD k 0 = ys[k] := by simp [List.getD, h]
  rw [e]
  by_cases h0 : ys[k] = 0
  · simp [h0]
  · simp [h0]

theorem clauseK_le (ys : List Int) (k : Nat) : (clauseK ys k).length ≤ k := by
  unfold clauseK
  rw [List.length_map]
  exact Nat.le_trans (List.length_filter_le _ _) (by simp; omega)

theorem hasOne_take_succ (ys : List Int) (k : Nat) (h : k < ys.length) : hasOne (ys.take (k + 1)) = (hasOne (ys.take k) || (ys.getD k 0 == 1)) := by
  unfold hasOne
  rw [List.take_succ_eq_append_getElem h, List.any_append]
  simp [List.getD, h]

theorem hasOne_of_take {ys : List Int} {k : Nat} (h : hasOne (ys.take k) = true) : hasOne ys = true := by
  unfold hasOne at h ⊢
  rw [← List.take_append_drop k ys, List.any_append, h]
  rfl

/-- The rows of a list. -/
def GridL (w : World) (lo hi : Nat) (v : Value) (css : List (List Int)) : Prop := GridF w lo hi v css.length (fun i => css.getD i [])

/-- What one clause more leaves. -/
def AddPost (lo : Nat) (v : Value) (css : List (List Int)) (w : World) (e : Ending) (w' : World) : Prop :=
  ∃ ao n cap, e = .returned (.slice ao n cap) ∧ css.length = n ∧ GridL w' lo w'.heap.size (.slice ao n cap) css ∧ Chg (fun k => v.ownBlock = some k) w w' ∧ (∀ k, (Value.slice ao n cap).ownBlock = some k → v.ownBlock = some k ∨ w.heap.size ≤ k)

theorem gridL_same {w w' : World} {lo hi n cap : Nat} {ao : Option Addr} {css : List (List Int)} (h : GridL w lo hi (.slice ao n cap) css) (hn : css.length = n) (hh : hi ≤ w.heap.size) (hb : Below w.heap.size w w') : AddPost lo (.slice ao n cap) css w (.returned (.slice ao n cap)) w' :=
  ⟨ao, n, cap, rfl, hn, (GridF.below h hb).wide (Nat.le_refl _) (Nat.le_trans hh hb.size), Chg.of_below hb, fun k e => .inl e⟩

theorem bits_xor_one (x : Int) (h0 : 0 ≤ x) (h1 : x ≤ 200) : Go.bits .xor .i64 x 1 = oppL x := by
  obtain ⟨n, rfl⟩ := Int.eq_ofNat_of_zero_le h0
  have h : ∀ m : Fin 201, Go.bits .xor .i64 ((m.val : Nat) : Int) 1 = oppL ((m.val : Nat) : Int) := by decide +kernel
  exact h ⟨n, by omega⟩

set_option maxHeartbeats 400000 in
theorem opposite_any (x : Int) (w : World) (h0 : 0 ≤ x) (h1 : x ≤ 200) :
    Calls Try.prog 105 #[.int .i64 x] w fun e w' => e = .returned (.int .i64 (oppL x)) ∧ w' = w := by
  have hb := bits_xor_one x h0 h1
  clear h0 h1
  go_enter Try.func105, Try.ntmps105
  go_wp2
  go_ret
  exact ⟨rfl, rfl⟩

set_option maxHeartbeats 400000 in
theorem meaningOf_any (n : Int) (w : World) (h0 : 0 ≤ n) (h1 : n ≤ 200) :
    Calls Try.prog 78 #[.int .i64 n] w fun e w' => e = .returned (.int .i64 (2 * n)) ∧ w' = w := by
  go_enter Try.func78, Try.ntmps78
  go_wp2
  go_ret
  exact ⟨rfl, rfl⟩

set_option maxHeartbeats 400000 in
theorem literal_any (x : Int) (w : World) (h0 : 0 ≤ x) (h1 : x ≤ 200) :
    Calls Try.prog 119 #[.int .i64 x] w fun e w' => e = .returned (.int .i64 (litN x)) ∧ w' = w := by
  have hh : halfW x = x / 2 := halfW_eq h0 (by unfold I64; omega)
  obtain ⟨q, hq⟩ : ∃ q, x / 2 = q := ⟨_, rfl⟩
  have hq0 : 0 ≤ q := by omega
  have hq1 : q ≤ 100 := by omega
  have HN : Hid (∀ V, Calls Try.prog 72 #[.int .i64 x] V fun e w' => e = .returned (.int .i64 q) ∧ w' = V) := fun V => by rw [← hq, ← hh]; exact node_any x V
  obtain ⟨g, hg⟩ : ∃ g, (x % 2 == 1) = g := ⟨_, rfl⟩
  have HO : Hid (∀ V, Calls Try.prog 98 #[.int .i64 x] V fun e w' => e = .returned (.bool g) ∧ w' = V) := fun V => by rw [← hg]; exact isOpposite_any x V h0 h1
  cases g with
  | true =>
    have hr : litN x = -q := by unfold litN; rw [if_pos (by simpa using hg), hq]
    rw [hr]
    clear hr hg hq hh h0 h1
    go_enter Try.func119, Try.ntmps119
    go_wp2_with (first
      | (go_at_call 98; refine (HO.out _).mono ?_; rintro e w' ⟨rfl, rfl⟩)
      | (go_at_call 72; refine (HN.out _).mono ?_; rintro e w' ⟨rfl, rfl⟩))
    go_ret
    exact ⟨rfl, rfl⟩
  | false =>
    have hr : litN x = q := by unfold litN; rw [if_neg (by simpa using hg), hq]
    rw [hr]
    clear hr hg hq hh h0 h1
    go_enter Try.func119, Try.ntmps119
    go_wp2_with (first
      | (go_at_call 98; refine (HO.out _).mono ?_; rintro e w' ⟨rfl, rfl⟩)
      | (go_at_call 72; refine (HN.out _).mono ?_; rintro e w' ⟨rfl, rfl⟩))
    go_ret
    exact ⟨rfl, rfl⟩

set_option maxHeartbeats 400000 in
theorem l4Lit_any (x : Int) (w : World) (h0 : 0 ≤ x) (h1 : x ≤ 200) :
    Calls Try.prog 103 #[.int .i64 x] w fun e w' => e = .returned (.int .i64 (litN x)) ∧ w' = w := by
  obtain ⟨q, r, hx, hr0, hr1⟩ : ∃ q r : Int, x = 2 * q + r ∧ 0 ≤ r ∧ r ≤ 1 := ⟨x / 2, x % 2, by omega, by omega, by omega⟩
  have e1 : x / 2 = q := by omega
  have e2 : x % 2 = r := by omega
  have hq0 : 0 ≤ q := by omega
  have hq1 : q ≤ 100 := by omega
  rcases (show r = 0 ∨ r = 1 by omega) with e | e
  · have hr : litN x = q := by unfold litN; rw [if_neg (by omega), e1]
    rw [hr]
    subst e
    clear hr hx
    go_enter Try.func103, Try.ntmps103
    go_wp2
    go_ret
    exact ⟨ret_int (by omega), rfl⟩
  · have hr : litN x = -q := by unfold litN; rw [if_pos (by omega), e1]
    rw [hr]
    subst e
    clear hr hx
    go_enter Try.func103, Try.ntmps103
    go_wp2
    go_ret
    exact ⟨ret_int (by omega), rfl⟩

set_option maxHeartbeats 400000 in
theorem l4Not_any (x : Int) (w : World) (h0 : 0 ≤ x) (h1 : x ≤ 200) :
    Calls Try.prog 76 #[.int .i64 x] w fun e w' => e = .returned (.int .i64 (oppL x)) ∧ w' = w := by
  obtain ⟨r, hr, hr0, hr1⟩ : ∃ r : Int, x % 2 = r ∧ 0 ≤ r ∧ r ≤ 1 := ⟨x % 2, rfl, by omega, by omega⟩
  have he : oppL x = x + 1 - r * 2 := by
    unfold oppL
    rcases (show r = 0 ∨ r = 1 by omega) with e | e
    · rw [if_pos (by omega)]; omega
    · rw [if_neg (by omega)]; omega
  rw [he]
  clear he
  go_enter Try.func76, Try.ntmps76
  go_wp2
  go_ret
  exact ⟨rfl, rfl⟩

set_option maxHeartbeats 1000000 in
theorem indexM_any (v : Value) (ys : List Int) (w : World) (hv : IsInts w v ys) (hl : ys.length ≤ 100) :
    Calls Try.prog 120 #[v, .int .i64 1] w fun e w' => (∃ q : Int, e = .returned (.int .i64 q) ∧ -1 ≤ q ∧ q ≤ 100 ∧ decide (0 ≤ q) = hasOne ys) ∧ w' = w := by
  obtain ⟨ao, cap, rfl, hv⟩ := hv
  generalize hN : ys.length = n at *
  have HN : Hid (ys.length = n) := hN
  clear hN
  by_cases hne : 0 < n
  · obtain ⟨b, off, rfl, hc⟩ := hv (by intro e; have := HN.out; subst e; simp at this; omega)
    have HC : Hid (∀ i, i < n → w.cell? ⟨b, off + i, none⟩ = some (.int .i64 (ys.getD i 0))) := hc
    clear hc hv
    go_enter Try.func120, Try.ntmps120
    go_wp2
    go_loop [8] (fun i => ∃ k : Nat, k ≤ n ∧ i = .int .i64 k ∧ Hid (hasOne (ys.take k) = false)) (fun i => n - (intOf i).toNat)
    case atStart => exact ⟨0, Nat.zero_le _, rfl, rfl⟩
    case round =>
      obtain ⟨k, hk, rfl, hf⟩ := hrel
      by_cases hlt : k < n
      · have hd := HC.out k hlt
        have HS : Hid (hasOne (ys.take (k + 1)) = (ys.getD k 0 == 1)) := by show hasOne (ys.take (k + 1)) = _; rw [hasOne_take_succ ys k (by rw [HN.out]; exact hlt), hf.out, Bool.false_or]
        generalize ys.getD k 0 = x at *
        by_cases hx : x = 1
        · subst hx
          have HT : Hid (hasOne ys = true) := hasOne_of_take (k := k + 1) (by rw [HS.out]; rfl)
          go_wp2
          go_ret
          exact ⟨⟨k, rfl, by omega, by omega, by rw [HT.out]; simp⟩, rfl⟩
        · have hb : ((1 : Int) == x) = false := by simpa using fun e => hx e.symm
          have HS' : Hid (hasOne (ys.take (k + 1)) = false) := by show _ = _; rw [HS.out]; simpa using hx
          clear hx
          go_wp2
          go_round
          case rel => exact ⟨k + 1, by omega, by go_num, HS'⟩
          case measure => simp [intOf]; omega
      · have HT : Hid (hasOne ys = false) := by
          have h := hf.out
          rwa [List.take_of_length_le (by rw [HN.out]; omega)] at h
        go_wp2
        go_ret
        exact ⟨⟨-1, rfl, by omega, by omega, by rw [HT.out]; rfl⟩, rfl⟩
  · obtain rfl : ys = [] := List.length_eq_zero_iff.1 (by rw [HN.out]; omega)
    clear hv HN
    obtain rfl : n = 0 := by omega
    go_enter Try.func120, Try.ntmps120
    go_wp2
    go_rounds 1
    go_ret
    exact ⟨⟨-1, rfl, by omega, by omega, rfl⟩, rfl⟩

set_option maxHeartbeats 1000000 in
theorem containsM_any (v : Value) (ys : List Int) (w : World) (hv : IsInts w v ys) (hl : ys.length ≤ 100) :
    Calls Try.prog 118 #[v, .int .i64 1] w fun e w' => e = .returned (.bool (hasOne ys)) ∧ w' = w := by
  have HV : Hid (IsInts w v ys) := hv
  obtain ⟨ao, cap, rfl, _⟩ := hv
  go_enter Try.func118, Try.ntmps118
  go_wp2_with fail
  refine (indexM_any _ ys _ HV.out hl).mono ?_
  rintro e w' ⟨⟨q, rfl, h0, h1, hq⟩, hw'⟩
  subst hw'
  have HQ : Hid (decide (0 ≤ q) = hasOne ys) := hq
  clear hq
  go_wp2
  go_ret
  exact ⟨ret_b HQ.out, rfl⟩

/-- The cells of a slice that was built of one slice. -/
theorem slice_one (ao : Option Addr) (n cap : Nat) : ∀ u ∈ [Value.slice ao n cap], u.oneCell' = true := fun u hu => by
  obtain rfl : u = .slice ao n cap := by simpa using hu
  rfl

theorem GridL.snoc {w w' : World} {lo hi g cap : Nat} {v rv : Value} {css : List (List Int)} {vs : List Value} {xs : List Int} (h1 : w.ownsRow lo 24 1 v css.length vs) (h3 : ∀ i, i < css.length → ∃ rv, vs[i]? = some rv ∧ Owni w lo rv (css.getD i []) ∧ ∀ k, rv.ownBlock = some k → k < hi) (h4 : vs.Pairwise apartV)
    (hlo : lo ≤ hi) (hx : Owni w hi rv xs) (hg : w.grownBy w' v.ownBlock) (ho : w'.ownsRow lo 24 1 (.slice (some ⟨g, 0, none⟩) (css.length + 1) cap) (css.length + 1) (vs ++ [rv])) : GridL w' lo w'.heap.size (.slice (some ⟨g, 0, none⟩) (css.length + 1) cap) (css ++ [xs]) := by
  have h := GridF.snoc h1 h3 h4 hlo hx hg ho
  unfold GridL
  rw [List.length_append]
  refine h.congr (fun i hi => ?_)
  by_cases e : i = css.length
  · subst e; simp [List.getD]
  · rw [if_neg e]
    have hi' : i < css.length := by omega
    simp [List.getD, List.getElem?_append_left hi']

theorem chg_grown {w w1 w' : World} {v : Value} (hb : Below w.heap.size w w1) (hg : w1.grownBy w' v.ownBlock) : Chg (fun k => v.ownBlock = some k) w w' :=
  (Chg.of_below hb).trans ⟨hg.os, hg.tape, hg.output, hg.size, fun k hk hp => hg.block k hk (fun e => hp e.symm)⟩

end Go.Proofs.Ytbdjdgamnnifjaa

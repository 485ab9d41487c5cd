/-
  Rows of numbers, compared, marked, and held against their marks: eqIntSS, eqCnf, markIntSS, markCnf, heldIntSS, heldCnf.
-/
import Derived.Test.YtbdjdgamnnifjaaGridI
import Derived.Test.YtbdjdgamnnifjaaAigF
namespace Go.Proofs.Ytbdjdgamnnifjaa
open Go.RowKit Go.Deep
set_option linter.unusedVariables false

set_option maxHeartbeats 1000000 in
theorem eqIntSS_same (v1 v2 : Value) (xss : List (List Int)) (w : World) (h1 : IsRows w v1 xss) (h2 : IsRows w v2 xss) (hn : xss.length + sumLen xss ≤ 1048576) :
    Calls Try.prog 79 #[v1, v2] w fun e w' => e = .returned (.bool true) ∧ ∃ n, w' = w.drewN n := by
  obtain ⟨ao1, cap1, rfl, h1⟩ := h1
  obtain ⟨ao2, cap2, rfl, h2⟩ := h2
  have HW : Hid (∀ i, i < xss.length → (xss.getD i []).length ≤ maxLen) := fun i hi => by have := row_le xss i hi; unfold maxLen; omega
  generalize hN : xss.length = n at *
  have HN : Hid (xss.length = n) := hN
  clear hN
  by_cases hne : 0 < n
  · have hx : xss ≠ [] := by intro e; have := HN.out; subst e; simp at this; omega
    obtain ⟨b1, off1, rfl, hc1⟩ := h1 hx
    obtain ⟨b2, off2, rfl, hc2⟩ := h2 hx
    have HC1 : Hid (∀ i, i < n → ∃ r, w.cell? ⟨b1, off1 + i, none⟩ = some r ∧ IsInts w r (xss.getD i [])) := hc1
    have HC2 : Hid (∀ i, i < n → ∃ r, w.cell? ⟨b2, off2 + i, none⟩ = some r ∧ IsInts w r (xss.getD i [])) := hc2
    clear hc1 hc2 h1 h2 hx
    go_enter Try.func79, Try.ntmps79
    go_wp2
    go_loopw [5] (fun i wr => ∃ k : Nat, k ≤ n ∧ i = .int .i64 k ∧ ∃ m, wr = w.drewN m) (fun i _ => n - (intOf i).toNat)
    case atStart => exact ⟨0, Nat.zero_le _, rfl, 0, rfl⟩
    case round =>
      obtain ⟨k, hk, rfl, hwr⟩ := hrel
      by_cases hlt : k < n
      · obtain ⟨r1, hd1, hi1⟩ : ∃ r, wr.cell? ⟨b1, off1 + k, none⟩ = some r ∧ IsInts wr r (xss.getD k []) := by obtain ⟨m, rfl⟩ := hwr; exact HC1.out k hlt
        obtain ⟨r2, hd2, hi2⟩ : ∃ r, wr.cell? ⟨b2, off2 + k, none⟩ = some r ∧ IsInts wr r (xss.getD k []) := by obtain ⟨m, rfl⟩ := hwr; exact HC2.out k hlt
        have hm := HW.out k hlt
        have HWR : Hid (∃ m, wr = w.drewN m) := hwr
        clear hwr
        generalize xss.getD k [] = ys at *
        have HI1 : Hid (IsInts wr r1 ys) := hi1
        have HI2 : Hid (IsInts wr r2 ys) := hi2
        obtain ⟨a1, c1, rfl, _⟩ := hi1
        obtain ⟨a2, c2, rfl, _⟩ := hi2
        have HM : Hid (ys.length ≤ maxLen) := hm
        clear hm
        go_wp2
        go_quiet ((go_at_call 30; exact Calls.quiet_of (eqIntS_same _ _ _ _ (HI1.out.drewN _) (HI2.out.drewN _) HM.out)))
        go_wp2
        go_roundw
        case rel => exact ⟨k + 1, by omega, by go_num, drewN_more HWR.out _⟩
        case measure => simp [intOf]; omega
      · have HWR : Hid (∃ m, wr = w.drewN m) := hwr
        clear hwr
        go_wp2
        go_ret
        exact ⟨rfl, HWR.out⟩
  · clear h1 h2
    go_enter Try.func79, Try.ntmps79
    go_wp2
    go_rounds 1
    go_ret
    exact ⟨rfl, 0, rfl⟩

set_option maxHeartbeats 1000000 in
theorem eqCnf_same (vars : Int) (v1 v2 : Value) (xss : List (List Int)) (w : World) (h1 : IsRows w v1 xss) (h2 : IsRows w v2 xss) (hn : xss.length + sumLen xss ≤ 1048576) :
    Calls Try.prog 35 #[.agg #[.int .i64 vars, v1], .agg #[.int .i64 vars, v2]] w fun e w' => e = .returned (.bool true) ∧ Below w.heap.size w w' := by
  have HV1 : Hid (∀ w', Below w.heap.size w w' → IsRows w' v1 xss) := fun w' h => h1.below h
  have HV2 : Hid (∀ w', Below w.heap.size w w' → IsRows w' v2 xss) := fun w' h => h2.below h
  obtain ⟨ao1, cap1, rfl, _⟩ := h1
  obtain ⟨ao2, cap2, rfl, _⟩ := h2
  have hb : ∀ o1 o2, Below w.heap.size w ((w.alloc o1).alloc o2) := fun o1 o2 => ((Below.refl _ _).alloc (Nat.le_refl _) _).alloc (by simp) _
  have HB : Hid (∀ o1 o2, Below w.heap.size w ((w.alloc o1).alloc o2)) := hb
  clear hb
  go_enter Try.func35, Try.ntmps35
  go_wp2_with (go_at_call 79; refine (eqIntSS_same _ _ xss _ (HV1.out _ (HB.out _ _)) (HV2.out _ (HB.out _ _)) hn).mono ?_; rintro e w' ⟨rfl, m, rfl⟩)
  go_ret
  exact ⟨rfl, below_drewN (HB.out _ _) _⟩

theorem Owni.form {w : World} {base : Nat} {v : Value} {vs : List Int} (h : Owni w base v vs) : ∃ ao cap, v = .slice ao vs.length cap := by
  rcases h.2 with ⟨rfl, h0⟩ | ⟨g, cap, cur, rfl, _⟩
  · exact ⟨none, 0, by rw [h0]⟩
  · exact ⟨_, cap, rfl⟩

theorem offG_le (f : Nat → List Int) (n m : Nat) (h : ∀ i, i < n → (f i).length ≤ m) : offG f n ≤ n * m := by
  induction n with
  | zero => exact Nat.zero_le _
  | succ n ih =>
    have h1 := ih (fun i hi => h i (by omega))
    have h2 := h n (by omega)
    show offG f n + (f n).length ≤ (n + 1) * m
    rw [Nat.succ_mul]
    omega

set_option maxRecDepth 100000 in
set_option maxHeartbeats 2000000 in
theorem markIntSS_any (lo hi n : Nat) (f : Nat → List Int) (v : Value) (k : Int) (w : World) (h : GridF w lo hi v n f) (hn : n ≤ 1000) (hl : ∀ i, i < n → (f i).length ≤ 1000) (h0 : 0 ≤ k) (h1 : k ≤ 10000000) :
    Calls Try.prog 80 #[v, .int .i64 k] w fun e w' => e = .returned (.int .i64 (k + (offG f n : Int))) ∧ GridF w' lo hi v n (markR k f) ∧ Chg (fun b => lo ≤ b ∧ b < hi) w w' := by
  have HG : Hid (GridF w lo hi v n f) := h
  have HL : Hid (∀ i, i < n → (f i).length ≤ 1000) := hl
  have HOF : Hid (∀ j, j ≤ n → offG f j ≤ 1000000) := fun j hj => by have := offG_le f j 1000 (fun i hi => hl i (by omega)); omega
  obtain ⟨ao, cap, rfl⟩ := h.form
  clear h hl
  go_enter Try.func80, Try.ntmps80
  go_wp2
  go_loopw [1, 5] (fun q i wr => ∃ j : Nat, j ≤ n ∧ i = .int .i64 j ∧ q = .int .i64 (k + (offG f j : Int)) ∧ Hid (GridF wr lo hi (.slice ao n cap) n (fun i => if i < j then markR k f i else f i)) ∧ Hid (Chg (fun b => lo ≤ b ∧ b < hi) w wr)) (fun _ i _ => n - (intOf i).toNat)
  case atStart => exact ⟨0, Nat.zero_le _, rfl, by simp [offG], HG.out.congr (fun i _ => by simp), Chg.refl _ _⟩
  case round =>
    obtain ⟨j, hj, rfl, rfl, hgr, hch⟩ := hrel
    by_cases hlt : j < n
    · obtain ⟨vs, g1, g2, g3, g4⟩ := hgr.out
      obtain ⟨rv, r1, r2, r3⟩ := g3 j hlt
      have hlj := HL.out j hlt
      have hoj := HOF.out j (by omega)
      have hon := HOF.out (j + 1) (by omega)
      have hos : offG f (j + 1) = offG f j + (f j).length := rfl
      have HS : Hid (∀ w1, Owni w1 lo rv (markN (k + (offG f j : Int)) (f j).length) → Chg (fun b => rv.ownBlock = some b) wr w1 → GridF w1 lo hi (.slice ao n cap) n (fun i => if i < j + 1 then markR k f i else f i) ∧ Chg (fun b => lo ≤ b ∧ b < hi) w w1) := fun w1 ho hc => by
        refine ⟨(GridF.set g1 g2 g3 g4 r1 hlt r3 r2 ho hc).congr (fun i hi => ?_), hch.out.trans (hc.mono (fun b e => ⟨(r2.blk b e).1, r3 b e⟩))⟩
        by_cases e : i = j
        · subst e; simp [markR]
        · simp only [if_neg e]
          by_cases e2 : i < j
          · rw [if_pos e2, if_pos (by omega)]
          · rw [if_neg e2, if_neg (by omega)]
      have hr2 : Owni wr lo rv (f j) := by have h := r2; simp only [Nat.lt_irrefl, if_false] at h; exact h
      have HR2 : Hid (Owni wr lo rv (f j)) := hr2
      obtain ⟨g, hg⟩ : ∃ g, ao = some ⟨g, 0, none⟩ := by
        rcases g1.2 with ⟨_, h4⟩ | ⟨g, cp, cur, h4, _⟩
        · omega
        · injection h4 with e1; exact ⟨g, e1⟩
      subst hg
      have d0 : wr.cell? ⟨g, j, none⟩ = some rv := by rw [World.ownsRow.cellAt g1 j (by omega)]; exact r1
      obtain ⟨ar, cr, rfl⟩ := hr2.form
      have HOS : Hid (offG f (j + 1) = offG f j + (f j).length) := hos
      clear hgr hch g1 g2 g3 g4 r1 r2 r3 hr2 hos
      go_wp2_with fail
      refine (mark_row _ lo _ (f j) (k + (offG f j : Int)) HR2.out (by omega) (by omega) (by omega)).mono ?_
      rintro e w1 ⟨rfl, ho, hc⟩
      have HN := hideN (HS.out w1 ho hc)
      clear ho hc d0
      go_wp2_with fail
      go_roundw
      case rel => exact ⟨j + 1, by omega, by go_num, by rw [HOS.out]; go_num, HN.out.1, HN.out.2⟩
      case measure => simp [intOf]; omega
    · obtain rfl : j = n := by omega
      go_wp2
      go_ret
      exact ⟨rfl, hgr.out.congr (fun i hi => by simp [hi]), hch.out⟩

set_option maxRecDepth 100000 in
set_option maxHeartbeats 2000000 in
theorem heldIntSS_any (lo hi n : Nat) (f : Nat → List Int) (v : Value) (k : Int) (w : World) (h : GridF w lo hi v n (markR k f)) (hn : n ≤ 1000) (hl : ∀ i, i < n → (f i).length ≤ 1000) (h0 : 0 ≤ k) (h1 : k ≤ 10000000) :
    Calls Try.prog 81 #[v, .int .i64 k] w fun e w' => e = .returned (.int .i64 (k + (offG f n : Int))) ∧ w' = w := by
  have HG : Hid (GridF w lo hi v n (markR k f)) := h
  have HL : Hid (∀ i, i < n → (f i).length ≤ 1000) := hl
  have HOF : Hid (∀ j, j ≤ n → offG f j ≤ 1000000) := fun j hj => by have := offG_le f j 1000 (fun i hi => hl i (by omega)); omega
  obtain ⟨ao, cap, rfl⟩ := h.form
  clear h hl
  go_enter Try.func81, Try.ntmps81
  go_wp2
  go_loop [1, 5] (fun q i => ∃ j : Nat, j ≤ n ∧ i = .int .i64 j ∧ q = .int .i64 (k + (offG f j : Int))) (fun _ i => n - (intOf i).toNat)
  case atStart => exact ⟨0, Nat.zero_le _, rfl, by simp [offG]⟩
  case round =>
    obtain ⟨j, hj, rfl, rfl⟩ := hrel
    by_cases hlt : j < n
    · obtain ⟨vs, g1, g2, g3, g4⟩ := HG.out
      obtain ⟨rv, r1, r2, r3⟩ := g3 j hlt
      have hlj := HL.out j hlt
      have hoj := HOF.out j (by omega)
      have hon := HOF.out (j + 1) (by omega)
      have HOS : Hid (offG f (j + 1) = offG f j + (f j).length) := rfl
      have HR2 : Hid (IsInts w rv (markN (k + (offG f j : Int)) (f j).length)) := r2.isInts
      obtain ⟨g, hg⟩ : ∃ g, ao = some ⟨g, 0, none⟩ := by
        rcases g1.2 with ⟨_, h4⟩ | ⟨g, cp, cur, h4, _⟩
        · omega
        · injection h4 with e1; exact ⟨g, e1⟩
      subst hg
      have d0 : w.cell? ⟨g, j, none⟩ = some rv := by rw [World.ownsRow.cellAt g1 j (by omega)]; exact r1
      obtain ⟨ar, cr, rfl⟩ := r2.form
      clear g1 g2 g3 g4 r1 r2 r3
      go_wp2_with fail
      refine (heldIntS_any _ (f j).length (k + (offG f j : Int)) _ HR2.out (by omega) (by omega) (by omega)).mono ?_
      rintro e w1 ⟨rfl, hw1⟩
      subst hw1
      have dd : decide (k + (offG f j : Int) + ((f j).length : Int) < 0) = false := by simp; omega
      clear d0
      go_wp2_with fail
      go_round
      case rel => exact ⟨j + 1, by omega, by go_num, by rw [HOS.out]; go_num⟩
      case measure => simp [intOf]; omega
    · obtain rfl : j = n := by omega
      go_wp2
      go_ret
      exact ⟨rfl, rfl⟩

set_option maxHeartbeats 1000000 in
theorem markCnf_any (lo hi n : Nat) (f : Nat → List Int) (vars : Int) (ao : Option Addr) (cap : Nat) (k : Int) (w : World) (h : GridF w lo hi (.slice ao n cap) n f) (hh : hi ≤ w.heap.size) (hn : n ≤ 1000) (hl : ∀ i, i < n → (f i).length ≤ 1000) (h0 : 0 ≤ k) (h1 : k ≤ 10000000) :
    Calls Try.prog 36 #[.agg #[.int .i64 vars, .slice ao n cap], .int .i64 k] w fun e w' => e = .returned (.int .i64 (k + (offG f n : Int))) ∧ GridF w' lo hi (.slice ao n cap) n (markR k f) ∧ Chg (fun b => lo ≤ b ∧ b < hi) w w' := by
  have HG : Hid (GridF (w.alloc (.cells #[.int .i64 vars, .slice ao n cap] 55)) lo hi (.slice ao n cap) n f) := h.below (belOne _ _)
  have HL : Hid (∀ i, i < n → (f i).length ≤ 1000) := hl
  have HC : Hid (Chg (fun b => lo ≤ b ∧ b < hi) w (w.alloc (.cells #[.int .i64 vars, .slice ao n cap] 55))) := Chg.of_below (belOne _ _)
  clear h hl
  go_enter Try.func36, Try.ntmps36
  go_wp2_with fail
  refine (markIntSS_any lo hi n f _ k _ HG.out hn HL.out h0 h1).mono ?_
  rintro e w1 ⟨rfl, hg, hc⟩
  have HG1 := hideN hg
  have HC1 := hideN (HC.out.trans hc)
  clear hg hc
  go_wp2
  go_ret
  exact ⟨rfl, HG1.out, HC1.out⟩

set_option maxHeartbeats 1000000 in
theorem heldCnf_any (lo hi n : Nat) (f : Nat → List Int) (vars : Int) (ao : Option Addr) (cap : Nat) (k : Int) (w : World) (h : GridF w lo hi (.slice ao n cap) n (markR k f)) (hn : n ≤ 1000) (hl : ∀ i, i < n → (f i).length ≤ 1000) (h0 : 0 ≤ k) (h1 : k ≤ 10000000) :
    Calls Try.prog 37 #[.agg #[.int .i64 vars, .slice ao n cap], .int .i64 k] w fun e w' => e = .returned (.int .i64 (k + (offG f n : Int))) ∧ Below w.heap.size w w' := by
  have HG : Hid (GridF (w.alloc (.cells #[.int .i64 vars, .slice ao n cap] 55)) lo hi (.slice ao n cap) n (markR k f)) := h.below (belOne _ _)
  have HL : Hid (∀ i, i < n → (f i).length ≤ 1000) := hl
  have HB : Hid (Below w.heap.size w (w.alloc (.cells #[.int .i64 vars, .slice ao n cap] 55))) := belOne _ _
  have hof : offG f n ≤ 1000000 := by have := offG_le f n 1000 hl; omega
  clear h hl
  go_enter Try.func37, Try.ntmps37
  go_wp2_with fail
  refine (heldIntSS_any lo hi n f _ k _ HG.out hn HL.out h0 h1).mono ?_
  rintro e w1 ⟨rfl, hw1⟩
  subst hw1
  have dd : decide (k + (offG f n : Int) < 0) = false := by simp; omega
  go_wp2
  go_ret
  exact ⟨rfl, HB.out⟩

end Go.Proofs.Ytbdjdgamnnifjaa

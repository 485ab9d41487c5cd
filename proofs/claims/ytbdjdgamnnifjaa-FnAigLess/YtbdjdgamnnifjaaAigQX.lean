/-
  A run of a circuit: AigRun of the program.
  Rows of rows of truths, all in memory of a call's own.
-/
import Derived.Test.YtbdjdgamnnifjaaAigP
import Derived.Test.YtbdjdgamnnifjaaAigH
import Derived.Test.YtbdjdgamnnifjaaAigNX
import Derived.Test.YtbdjdgamnnifjaaRow2
namespace Go.Proofs.Ytbdjdgamnnifjaa
open Go.RowKit Go.Deep Go.Shelf
set_option linter.unusedVariables false

attribute [local go_sem] Oper.semAt_some

set_option maxRecDepth 100000 in
set_option maxHeartbeats 4000000 in
theorem implAigRun_any (inp : Int) (al aa ab : Option Addr) (cl ca cb : Nat) (ls : List (Int × Bool)) (xs : List (Int × Int)) (bs : List Int) (ar : Option Addr) (cr : Nat) (rows : List (List Bool)) (w : World) (hC : IsCir w al aa ab cl ca cb ls xs bs)
    (hR : IsBRows w (.slice ar rows.length cr) rows) (hl64 : ∀ p ∈ ls, I64 p.1) (h64 : ∀ p ∈ xs, I64 p.1 ∧ I64 p.2) (hb64 : ∀ x ∈ bs, I64 x) (hr1 : rows.length + sumB rows ≤ 1048576) :
    Calls Try.prog 26 #[.agg #[.int .i64 inp, .slice al ls.length cl, .slice aa xs.length ca, .slice ab bs.length cb], .slice ar rows.length cr] w fun e w' => e = .returned (.int .i64 (runOf inp ls xs bs rows)) ∧ Below w.heap.size w w' := by
  have HE : Hid (okC inp ls xs bs = okS inp ls xs bs) := okC_eq hl64 h64 hb64
  have HC : Hid (∀ w', Below w.heap.size w w' → IsCir w' al aa ab cl ca cb ls xs bs) := fun w' h => hC.below h
  have HR : Hid (∀ w', Below w.heap.size w w' → IsBRows w' (.slice ar rows.length cr) rows) := fun w' h => hR.below h
  have H64 : Hid (∀ p ∈ xs, I64 p.1 ∧ I64 p.2) := h64
  have HL64 : Hid (∀ p ∈ ls, I64 p.1) := hl64
  have HB64 : Hid (∀ x ∈ bs, I64 x) := hb64
  have HW : Hid (∀ i, i < rows.length → (rows.getD i []).length ≤ 1048576) := fun i hi => by have := rowB_le rows i hi; omega
  have HF0 : Hid (Four (w.alloc (.cells #[.int .i64 inp, .slice al ls.length cl, .slice aa xs.length ca, .slice ab bs.length cb] 33)) w.heap.size (.int .i64 inp) (.slice al ls.length cl) (.slice aa xs.length ca) (.slice ab bs.length cb)) := Four.new _ _ _ _ _ _
  have hrl : rows.length ≤ 1048576 := by omega
  clear hC hR h64 hl64 hb64 hr1
  obtain ⟨o, ho⟩ : ∃ o, okC inp ls xs bs = o := ⟨_, rfl⟩
  have HO : Hid (okC inp ls xs bs = o) := ho
  clear ho
  cases o with
  | false =>
    have HRUN : Hid (runOf inp ls xs bs rows = -1) := by show runOf inp ls xs bs rows = -1; unfold runOf; rw [if_neg (fun h => by rw [HO.out] at h; exact Bool.false_ne_true h.1)]
    rw [HRUN.out]
    go_enter Try.func26, Try.ntmps26
    go_wp2_with fail
    refine (implAigOk_any inp al aa ab cl ca cb ls xs bs _ (HC.out _ (belOne _ _))).mono ?_
    rintro e w1 ⟨rfl, hb⟩
    rw [HO.out]
    have HB1 : Hid (Below w.heap.size w w1) := belNext (belOne _ _) hb
    clear hb
    go_wp2
    go_ret
    exact ⟨rfl, HB1.out⟩
  | true =>
    by_cases hlong : rows.length ≤ 40
    case neg =>
      have HRUN : Hid (runOf inp ls xs bs rows = -1) := by show runOf inp ls xs bs rows = -1; unfold runOf; rw [if_neg (fun h => hlong h.2)]
      rw [HRUN.out]
      have dl : decide ((40 : Int) < (rows.length : Int)) = true := by simp; omega
      go_enter Try.func26, Try.ntmps26
      go_wp2_with fail
      refine (implAigOk_any inp al aa ab cl ca cb ls xs bs _ (HC.out _ (belOne _ _))).mono ?_
      rintro e w1 ⟨rfl, hb⟩
      rw [HO.out]
      have HB1 : Hid (Below w.heap.size w w1) := belNext (belOne _ _) hb
      clear hb
      go_wp2
      go_ret
      exact ⟨rfl, HB1.out⟩
    have HRUN : Hid (runOf inp ls xs bs rows = runF inp ls xs bs rows (ls.map Prod.snd) 0) := by show runOf inp ls xs bs rows = _; unfold runOf; rw [if_pos ⟨HO.out, hlong⟩]
    rw [HRUN.out]
    have dl : decide ((40 : Int) < (rows.length : Int)) = false := by simp; omega
    have hsz : 0 ≤ inp ∧ inp ≤ 8 ∧ ls.length ≤ 8 ∧ xs.length ≤ 40 ∧ bs.length ≤ 4 := by
      have h := HO.out
      unfold okC sizesB at h
      simp only [Bool.and_eq_true, decide_eq_true_eq] at h
      exact h.1
    obtain ⟨h0, h1, h2, h3, h4⟩ := hsz
    go_enter Try.func26, Try.ntmps26
    go_wp2_with fail
    refine (implAigOk_any inp al aa ab cl ca cb ls xs bs _ (HC.out _ (belOne _ _))).mono ?_
    rintro e w1 ⟨rfl, hb⟩
    rw [HO.out]
    have HB1 : Hid (Below w.heap.size w w1) := belNext (belOne _ _) hb
    have HF1 : Hid (Four w1 w.heap.size (.int .i64 inp) (.slice al ls.length cl) (.slice aa xs.length ca) (.slice ab bs.length cb)) := HF0.out.below hb
    clear hb
    have c0 := HF1.out.c0
    have c1 := HF1.out.c1
    have c2 := HF1.out.c2
    have c3 := HF1.out.c3
    have c4 := HF1.out.lt
    go_wp2_with fail
    refine (initsOf_any inp al aa ab cl ca cb ls xs bs _ (HC.out _ HB1.out) h2).mono ?_
    rintro e w2 ⟨ai, mi, ci, rfl, hmi, hoi, hb2⟩
    have HB2 : Hid (Below w.heap.size w w2) := belNext HB1.out hb2
    have HF2 : Hid (Four w2 w.heap.size (.int .i64 inp) (.slice al ls.length cl) (.slice aa xs.length ca) (.slice ab bs.length cb)) := HF1.out.below hb2
    have HI2 : Hid (IsBits w2 (.slice ai mi ci) (ls.map Prod.snd)) := hoi.isBits
    have HMI : Hid ((ls.map Prod.snd).length = mi) := hmi
    clear hb2 hoi hmi c0 c1 c2 c3 c4
    go_wp2
    go_loopw [5, 22] (fun o i wr => ∃ (a : Option Addr) (cp k : Nat) (L : List Bool), k ≤ rows.length ∧ i = .int .i64 (k : Nat) ∧ o = .slice a L.length cp ∧ Hid (L.length = ls.length) ∧ Hid (runF inp ls xs bs rows (ls.map Prod.snd) 0 = runF inp ls xs bs (rows.drop k) L k) ∧ IsBits wr (.slice a L.length cp) L ∧ Four wr w.heap.size (.int .i64 inp) (.slice al ls.length cl) (.slice aa xs.length ca) (.slice ab bs.length cb) ∧ Below w.heap.size w wr) (fun _ i _ => rows.length - (intOf i).toNat)
    case atStart => exact ⟨ai, ci, 0, ls.map Prod.snd, Nat.zero_le _, rfl, by rw [HMI.out], by show (ls.map Prod.snd).length = ls.length; simp, rfl, by rw [HMI.out]; exact HI2.out, HF2.out, HB2.out⟩
    case round =>
      obtain ⟨a, cp, k, L, hk, rfl, rfl, hLl, hrun, hL, hF, hB⟩ := hrel
      have c0 := hF.c0
      have c1 := hF.c1
      have c2 := hF.c2
      have c3 := hF.c3
      have c4 := hF.lt
      by_cases hkl : k < rows.length
      · have hRr := HR.out _ hB
        obtain ⟨b, off, rfl, hbl, r, hx1, hrow⟩ : ∃ b off, ar = some ⟨b, off, none⟩ ∧ b < wr.heap.size ∧ ∃ r, wr.cell? ⟨b, off + k, none⟩ = some r ∧ IsBits wr r (rows.getD k []) := by
          obtain ⟨ao', cap', he, h⟩ := hRr
          obtain ⟨b, off, ha, hc⟩ := h (by intro e; subst e; simp at hkl)
          injection he with e1 e2 e3
          obtain ⟨r, g1, g2⟩ := hc k hkl
          exact ⟨b, off, e1.trans ha, cell_lt g1, r, g1, g2⟩
        have hdrop := runF_drop (inp := inp) (ls := ls) (xs := xs) (bs := bs) (lats := L) hkl
        have hrw := HW.out k hkl
        clear hRr
        generalize rows.getD k [] = row at *
        have HROW : Hid (IsBits wr r row) := hrow
        obtain ⟨arw, crw, rfl, _⟩ := hrow
        have HRUNK : Hid (runF inp ls xs bs rows (ls.map Prod.snd) 0 = runF inp ls xs bs (rows.drop k) L k) := hrun
        have HLA : Hid (IsBits wr (.slice a L.length cp) L) := hL
        have HLL : Hid (L.length = ls.length) := hLl
        have HFK : Hid (Four wr w.heap.size (.int .i64 inp) (.slice al ls.length cl) (.slice aa xs.length ca) (.slice ab bs.length cb)) := hF
        have HBK : Hid (Below w.heap.size w wr) := hB
        clear hrun hL hLl hF hB
        by_cases hfit : (row.length : Int) = inp
        · have HFIT : Hid (fitsB inp ls xs bs L row = true) := fitsB_iff.2 ⟨HO.out, HLL.out, hfit⟩
          rw [if_pos hfit] at hdrop
          have HDROP : Hid (runF inp ls xs bs (rows.drop k) L k = if anyOf (badOf inp ls xs bs L row) = true then (k : Int) else runF inp ls xs bs (rows.drop (k + 1)) (nextOf inp ls xs bs L row) (k + 1)) := hdrop
          have dne : ((row.length : Int) != inp) = false := by simp [hfit]
          clear hdrop hfit
          have hlb : (badOf inp ls xs bs L row).length ≤ 100 := by rw [badOf_len HFIT.out]; omega
          have HNL : Hid ((nextOf inp ls xs bs L row).length = ls.length) := nextOf_len HFIT.out
          have hll20 : L.length ≤ 1048576 := by have := HLL.out; omega
          go_wp2_with fail
          refine (implAigStep_any inp al aa ab cl ca cb ls xs bs _ _ _ _ L row _ (HC.out _ HBK.out) HLA.out HROW.out HL64.out H64.out HB64.out hll20 hrw).mono ?_
          rintro e w5 ⟨a1, m1, k1, a2, m2, k2, n5, rfl, e1, e2, hn5, o1, hlt5, o2, hb5⟩
          have HB5 : Hid (Below w.heap.size w w5) := belNext HBK.out hb5
          have HF5 : Hid (Four w5 w.heap.size (.int .i64 inp) (.slice al ls.length cl) (.slice aa xs.length ca) (.slice ab bs.length cb)) := HFK.out.below hb5
          have HN5 : Hid (IsBits w5 (.slice a1 m1 k1) (nextOf inp ls xs bs L row)) := o1.isBits
          have HD5 : Hid (IsBits w5 (.slice a2 m2 k2) (badOf inp ls xs bs L row)) := o2.isBits
          have HE1 : Hid ((nextOf inp ls xs bs L row).length = m1) := e1
          clear e1 e2 hn5 o1 hlt5 o2 hb5
          obtain ⟨y, hy⟩ : ∃ y, anyOf (badOf inp ls xs bs L row) = y := ⟨_, rfl⟩
          have HY : Hid (anyOf (badOf inp ls xs bs L row) = y) := hy
          clear hy c0 c1 c2 c3 c4
          go_wp2_with fail
          refine (contains_true _ (badOf inp ls xs bs L row) _ HD5.out hlb).mono ?_
          rintro e w' ⟨rfl, hw'⟩
          subst hw'
          rw [HY.out]
          cases y with
          | true =>
            have HEND : Hid (runF inp ls xs bs rows (ls.map Prod.snd) 0 = (k : Int)) := by show runF inp ls xs bs rows (ls.map Prod.snd) 0 = (k : Int); rw [HRUNK.out, HDROP.out, if_pos HY.out]
            go_wp2
            go_ret
            exact ⟨by rw [HEND.out]; rfl, HB5.out⟩
          | false =>
            have HNX : Hid (runF inp ls xs bs rows (ls.map Prod.snd) 0 = runF inp ls xs bs (rows.drop (k + 1)) (nextOf inp ls xs bs L row) (k + 1)) := by show runF inp ls xs bs rows (ls.map Prod.snd) 0 = _; rw [HRUNK.out, HDROP.out, if_neg (by rw [HY.out]; simp)]
            go_wp2
            go_roundw
            case rel => exact ⟨a1, k1, k + 1, nextOf inp ls xs bs L row, by omega, by go_num, by rw [HE1.out], HNL.out, HNX.out, by rw [HE1.out]; exact HN5.out, HF5.out, HB5.out⟩
            case measure => simp [intOf]; omega
        · rw [if_neg hfit] at hdrop
          have HEND : Hid (runF inp ls xs bs rows (ls.map Prod.snd) 0 = -1) := HRUNK.out.trans hdrop
          have dne : ((row.length : Int) != inp) = true := by simp [hfit]
          clear hdrop hfit
          go_wp2
          go_ret
          exact ⟨by rw [HEND.out]; rfl, HBK.out⟩
      · have HEND : Hid (runF inp ls xs bs rows (ls.map Prod.snd) 0 = -1) := by
          have h := hrun.out
          rw [List.drop_of_length_le (by omega)] at h
          exact h
        have HBK : Hid (Below w.heap.size w wr) := hB
        clear hrun hB hL hF hLl
        go_wp2
        go_ret
        exact ⟨by rw [HEND.out]; rfl, HBK.out⟩

end Go.Proofs.Ytbdjdgamnnifjaa

namespace Go.Proofs.Ytbdjdgamnnifjaa
open Go.RowKit Go.Deep
set_option linter.unusedVariables false

/-- Rows of truths, all in memory of the call's own. -/
def GridB (w : World) (base : Nat) (v : Value) (xss : List (List Bool)) : Prop :=
  ∃ vs, w.ownsRow base 27 1 v xss.length vs ∧ ∀ i, i < xss.length → ∃ rv, vs[i]? = some rv ∧ Ownb w base rv (xss.getD i [])

theorem GridB.keep {w w' : World} {base : Nat} {v : Value} {xss : List (List Bool)} (h : GridB w base v xss) (hk : ∀ k, base ≤ k → k < w.heap.size → w'.heap[k]? = w.heap[k]?) : GridB w' base v xss := by
  obtain ⟨vs, h1, h2⟩ := h
  refine ⟨vs, row_of_block h1 (fun k e => by have := World.ownsRow.lt h1 k e; exact hk k this.1 this.2), fun i hi => ?_⟩
  obtain ⟨rv, h3, h4⟩ := h2 i hi
  exact ⟨rv, h3, row_of_block h4 (fun k e => by have := World.ownsRow.lt h4 k e; exact hk k this.1 this.2)⟩

theorem GridB.isRows {w : World} {base : Nat} {v : Value} {xss : List (List Bool)} (h : GridB w base v xss) : IsBRows w v xss := by
  obtain ⟨vs, h1, h2⟩ := h
  have h1' := h1
  rcases h1.2 with ⟨h3, h4⟩ | ⟨g, cap, cur, h3, _⟩
  · obtain rfl := List.length_eq_zero_iff.1 h4
    subst h3
    exact ⟨_, _, rfl, fun hne => absurd rfl hne⟩
  · subst h3
    refine ⟨_, _, rfl, fun _ => ⟨g, 0, rfl, fun i hi => ?_⟩⟩
    obtain ⟨rv, h5, h6⟩ := h2 i hi
    refine ⟨rv, ?_, h6.isBits⟩
    rw [Nat.zero_add, World.ownsRow.cellAt h1' i (by omega)]
    exact h5

theorem GridB.room {w : World} {base n cap : Nat} {ao : Option Addr} {xss : List (List Bool)} (h : GridB w base (.slice ao n cap) xss) : n ≤ cap := by
  obtain ⟨vs, h1, _⟩ := h
  rcases h1.2 with ⟨h3, h4⟩ | ⟨g, c, cur, h3, _, _, h5, _⟩
  · injection h3 with e1 e2 e3; omega
  · injection h3 with e1 e2 e3; omega

theorem gridB_empty (w : World) : GridB (w.alloc (.cells #[] 27)) w.heap.size (.slice (some ⟨w.heap.size, 0, none⟩) 0 0) [] :=
  ⟨[], ⟨by simp, .inr ⟨w.heap.size, 0, #[], rfl, Nat.le_refl _, World.alloc_heap_new _ _, Nat.le_refl _, by simp, by simp, by simp⟩⟩, fun i hi => by simp at hi⟩

/-- One row more: what append leaves. -/
theorem GridB.snoc {w w' : World} {base g cap : Nat} {v rv : Value} {xss : List (List Bool)} {vs : List Value} {xs : List Bool} (h1 : w.ownsRow base 27 1 v xss.length vs) (h2 : ∀ i, i < xss.length → ∃ rv, vs[i]? = some rv ∧ Ownb w base rv (xss.getD i []))
    (hx : Ownb w base rv xs) (hg : w.grownBy w' v.ownBlock) (ho : w'.ownsRow base 27 1 (.slice (some ⟨g, 0, none⟩) (xss.length + 1) cap) (xss.length + 1) (vs ++ [rv])) : GridB w' base (.slice (some ⟨g, 0, none⟩) (xss.length + 1) cap) (xss ++ [xs]) := by
  have hkeep : ∀ (rv : Value) (xs : List Bool), Ownb w base rv xs → Ownb w' base rv xs := fun rv xs h =>
    row_of_block h (fun k e => hg.block k (World.ownsRow.lt h k e).2 (fun e2 => rows_apart h h1 (by decide) k e e2.symm))
  have hl : vs.length = xss.length := by simpa using h1.1
  refine ⟨vs ++ [rv], by rw [List.length_append]; exact ho, fun i hi => ?_⟩
  rw [List.length_append] at hi
  by_cases e : i < xss.length
  · obtain ⟨r, h5, h6⟩ := h2 i e
    refine ⟨r, by rw [List.getElem?_append_left (by omega)]; exact h5, ?_⟩
    have : (xss ++ [xs]).getD i [] = xss.getD i [] := by simp [List.getD, List.getElem?_append_left e]
    rw [this]
    exact hkeep _ _ h6
  · have hi' : i = xss.length := by simp at hi; omega
    subst hi'
    refine ⟨rv, by rw [List.getElem?_append_right (by omega), hl]; simp, ?_⟩
    have : (xss ++ [xs]).getD xss.length [] = xs := by simp [List.getD]
    rw [this]
    exact hkeep _ _ hx

theorem sumB_le (xss : List (List Bool)) (m : Nat) (h : ∀ i, i < xss.length → (xss.getD i []).length ≤ m) : sumB xss ≤ m * xss.length := by
  induction xss with
  | nil => simp [sumB]
  | cons a l ih =>
    have h0 := h 0 (by simp)
    have h1 := ih (fun i hi => by have := h (i + 1) (by simp; omega); simpa using this)
    simp [sumB] at h0 h1 ⊢
    rw [Nat.mul_add]
    omega

end Go.Proofs.Ytbdjdgamnnifjaa

/-
  What something needs: the model's l3Mark.
  What something needs: the model's AigNeeds.
  What something needs: the model's AigNeeds, walked.
  The iterator slices.Backward gives just the ands, from the last on, each with its place.
-/
import Derived.Test.YtbdjdgamnnifjaaAigK
import Derived.Test.YtbdjdgamnnifjaaNeed1
import Derived.Deep.RegionHeld3
import Derived.Deep.RegionLaw
import Derived.Test.YtbdjdgamnnifjaaAigH
import Derived.Test.YtbdjdgamnnifjaaRowI
import Derived.Deep.AppendLies
import Derived.Test.YtbdjdgamnnifjaaAigF
import Derived.OwnWalk
import Derived.Test.YtbdjdgamnnifjaaAigG
namespace Go.Proofs.Ytbdjdgamnnifjaa
open Go.RowKit Go.Deep Go.Shelf
set_option linter.unusedVariables false

attribute [local go_sem] Oper.semAt_some

theorem IsAnds.chg {p : Nat → Prop} {a b : World} {ao : Option Addr} {len cap : Nat} {xs : List (Int × Int)} (h : IsAnds a (.slice ao len cap) xs) (hc : Chg p a b) (hp : ∀ k off, ao = some ⟨k, off, none⟩ → ¬ p k) : IsAnds b (.slice ao len cap) xs := by
  obtain ⟨ao', cap', he, h⟩ := h
  cases he
  refine ⟨_, _, rfl, fun hne => ?_⟩
  obtain ⟨g, off, rfl, hcs⟩ := h hne
  exact ⟨g, off, rfl, fun i hi => ⟨(World.cell?_of_block (hc.block g (cell_lt (hcs i hi).1) (hp g off rfl))).trans (hcs i hi).1, (World.cell?_of_block (hc.block g (cell_lt (hcs i hi).2) (hp g off rfl))).trans (hcs i hi).2⟩⟩

theorem Two.chg {p : Nat → Prop} {a b : World} {g : Nat} {c0 c1 : Value} (hr : Two a g c0 c1) (h : Chg p a b) (hg : ¬ p g) : Two b g c0 c1 := by
  have e := h.block g hr.lt hg
  exact ⟨Nat.lt_of_lt_of_le hr.lt h.size, (World.cell?_of_block e).trans hr.c0, (World.cell?_of_block e).trans hr.c1⟩

theorem alloc_facts {w w2 : World} {x y : Value} {t : TypeId} (h : Below (w.alloc (.cells #[x, y] t)).heap.size (w.alloc (.cells #[x, y] t)) w2) : w2.cell? ⟨w.heap.size, 0, none⟩ = some x ∧ w2.cell? ⟨w.heap.size, 1, none⟩ = some y ∧ w2.frozen? ⟨w.heap.size, 0, none⟩ = false ∧ w2.frozen? ⟨w.heap.size, 1, none⟩ = false ∧ w.heap.size < w2.heap.size :=
  ⟨((bcell h).1 w.heap.size 0 (by simp)).trans (by simp), ((bcell h).1 w.heap.size 1 (by simp)).trans (by simp), ((bcell h).2 w.heap.size 0 (by simp)).trans (by simp), ((bcell h).2 w.heap.size 1 (by simp)).trans (by simp), by have h' := h.size; rw [World.size_alloc] at h'; exact h'⟩

theorem two_set {w : World} {B : Nat} {u0 u1 : Value} (h0 : w.cell? ⟨B, 0, none⟩ = some u0) (h1 : w.cell? ⟨B, 1, none⟩ = some u1) (hl : B < w.heap.size) (x y : Value) : Two ((w.setCell ⟨B, 0, none⟩ x).setCell ⟨B, 1, none⟩ y) B x y := by
  have e1 : (w.setCell ⟨B, 0, none⟩ x).cell? ⟨B, 1, none⟩ = some u1 := by rw [World.cell?_setCell_other w _ _ _ (by simp)]; exact h1
  have e0 : (w.setCell ⟨B, 0, none⟩ x).cell? ⟨B, 0, none⟩ = some x := World.cell?_setCell_same w _ _ h0
  refine ⟨by simpa [World.setCell] using hl, ?_, World.cell?_setCell_same _ _ _ e1⟩
  rw [World.cell?_setCell_other _ _ _ _ (by simp)]; exact e0

/-- The marks of a set. -/
def setF (S : Nat → Bool) : Nat → Value := fun i => .bool (S i)
theorem setF_set {w : World} {b : Nat} {t : TypeId} {M : Nat} {S : Nat → Bool} {n : Nat} (h : w.rowIs b t M (setF S)) : (w.setCell ⟨b, n, none⟩ (.bool true)).rowIs b t M (setF (setS S n)) := by
  refine (h.set n _).congr (fun i _ => ?_)
  unfold setF setS
  by_cases e : i = n
  · subst e; simp
  · rw [if_neg e, if_neg e]

set_option maxRecDepth 100000 in
set_option maxHeartbeats 4000000 in
theorem l3Mark_any (inp : Int) (al aa ab : Option Addr) (cl ca cb : Nat) (ls : List (Int × Bool)) (xs : List (Int × Int)) (bs : List Int) (b M F : Nat) (h0 : 0 ≤ inp) (h1 : inp ≤ 8) (h2 : ls.length ≤ 8) (h3 : xs.length ≤ 40) (hF : (F : Int) = 1 + inp + ls.length) (hM : M = F + xs.length)
    (hA : Ahead F xs) (hP : ∀ p ∈ xs, (0 ≤ p.1 ∧ p.1 ≤ 1000) ∧ (0 ≤ p.2 ∧ p.2 ≤ 1000)) (hab : ∀ k off, aa = some ⟨k, off, none⟩ → k ≠ b) :
    ∀ (n : Nat) (lit : Int) (N : Nat) (S : Nat → Bool) (w : World), lit / 2 = (n : Int) → 0 ≤ lit → lit ≤ 1000 → n < M → n < N → ClosedB F xs N S → IsAnds w (.slice aa xs.length ca) xs → w.rowIs b 4 M (setF S) →
      Calls Try.prog 69 #[.agg #[.int .i64 inp, .slice al ls.length cl, .slice aa xs.length ca, .slice ab bs.length cb], .slice (some ⟨b, 0, none⟩) M M, .int .i64 lit] w fun e w' => e = .returned (.tuple #[]) ∧ ∃ S', MarkPost F xs S n N S' ∧ w'.rowIs b 4 M (setF S') ∧ Chg (· = b) w w' := by
  intro n
  induction n using Nat.strongRecOn with
  | ind n ih =>
  intro lit N S w hn hl0 hl1 hnM hnN hcl hands hrow
  have HIH : Hid (∀ m < n, ∀ (lit : Int) (N : Nat) (S : Nat → Bool) (w : World), lit / 2 = (m : Int) → 0 ≤ lit → lit ≤ 1000 → m < M → m < N → ClosedB F xs N S → IsAnds w (.slice aa xs.length ca) xs → w.rowIs b 4 M (setF S) →
      Calls Try.prog 69 #[.agg #[.int .i64 inp, .slice al ls.length cl, .slice aa xs.length ca, .slice ab bs.length cb], .slice (some ⟨b, 0, none⟩) M M, .int .i64 lit] w fun e w' => e = .returned (.tuple #[]) ∧ ∃ S', MarkPost F xs S m N S' ∧ w'.rowIs b 4 M (setF S') ∧ Chg (· = b) w w') := ih
  have HCL : Hid (ClosedB F xs N S) := hcl
  have HAN : Hid (IsAnds w (.slice aa xs.length ca) xs) := hands
  have HRW : Hid (w.rowIs b 4 M (setF S)) := hrow
  have hbl : b < w.heap.size := hrow.lt
  have hM100 : M ≤ 100 := by omega
  have hcell0 := (hrow.of_block (((belOne w (.cells #[.int .i64 inp, .slice al ls.length cl, .slice aa xs.length ca, .slice ab bs.length cb] 33)).block b hbl))).cell hnM
  have hfz := (hrow.of_block (((belOne w (.cells #[.int .i64 inp, .slice al ls.length cl, .slice aa xs.length ca, .slice ab bs.length cb] 33)).block b hbl))).frozen n
  have hcell : (w.alloc (.cells #[.int .i64 inp, .slice al ls.length cl, .slice aa xs.length ca, .slice ab bs.length cb] 33)).cell? ⟨b, n, none⟩ = some (.bool (S n)) := hcell0
  clear hcell0
  have HFF : Hid ((F : Int) = 1 + inp + ls.length) := hF
  have HMM : Hid (M = F + xs.length) := hM
  have HN : Hid (lit / 2 = (n : Int)) := hn
  have hdiv : lit.tdiv 2 = (n : Int) := by rw [← hn]; exact Int.tdiv_eq_ediv_of_nonneg hl0
  obtain ⟨s, hs⟩ : ∃ s, S n = s := ⟨_, rfl⟩
  have HS : Hid (S n = s) := hs
  rw [hs] at hcell
  have HA : Hid (Ahead F xs) := hA
  have HP : Hid (∀ p ∈ xs, (0 ≤ p.1 ∧ p.1 ≤ 1000) ∧ (0 ≤ p.2 ∧ p.2 ≤ 1000)) := hP
  have HAB : Hid (∀ k off, aa = some ⟨k, off, none⟩ → k ≠ b) := hab
  clear ih hcl hands hrow hs hn hA hP hab hF hM
  cases s with
  | true =>
    go_enter Try.func69, Try.ntmps69
    go_wp2
    first | go_end0 | (simp only [Exit.inBlock, Exit.then]; refine bodyPost_ret (results_none rfl _ _ _) rfl ?_) | refine bodyPost_ret (results_none rfl _ _ _) rfl ?_
    exact ⟨rfl, S, MarkPost.there HCL.out HS.out, HRW.out.of_block ((belOne w _).block b hbl), Chg.of_below (belOne _ _)⟩
  | false =>
    have hsz : (w.setCell ⟨b, n, none⟩ (.bool true)).heap.size = w.heap.size := by simp
    have HF1 : Hid (Four ((w.setCell ⟨b, n, none⟩ (.bool true)).alloc (.cells #[.int .i64 inp, .slice al ls.length cl, .slice aa xs.length ca, .slice ab bs.length cb] 33)) w.heap.size (.int .i64 inp) (.slice al ls.length cl) (.slice aa xs.length ca) (.slice ab bs.length cb)) := by
      have h := Four.new (w.setCell ⟨b, n, none⟩ (.bool true)) (.int .i64 inp) (.slice al ls.length cl) (.slice aa xs.length ca) (.slice ab bs.length cb) 33
      rw [hsz] at h
      exact h
    have HR1 : Hid (((w.setCell ⟨b, n, none⟩ (.bool true)).alloc (.cells #[.int .i64 inp, .slice al ls.length cl, .slice aa xs.length ca, .slice ab bs.length cb] 33)).rowIs b 4 M (setF (setS S n))) := (setF_set HRW.out).of_block ((belOne _ _).block b (by rw [hsz]; exact hbl))
    have HC1 : Hid (Chg (· = b) w ((w.setCell ⟨b, n, none⟩ (.bool true)).alloc (.cells #[.int .i64 inp, .slice al ls.length cl, .slice aa xs.length ca, .slice ab bs.length cb] 33))) := (Chg.set _ _ _ _).trans (Chg.of_below (belOne _ _))
    have c0 := HF1.out.c0
    have c1 := HF1.out.c1
    have c2 := HF1.out.c2
    have c3 := HF1.out.c3
    clear hsz
    go_enter Try.func69, Try.ntmps69
    go_wp2_with fail
    refine (l3First_any inp al aa ab ls.length cl xs.length ca bs.length cb _ h0 h1 h2).mono ?_
    rintro e w1 ⟨rfl, hb1⟩
    have HF2 : Hid (Four w1 w.heap.size (.int .i64 inp) (.slice al ls.length cl) (.slice aa xs.length ca) (.slice ab bs.length cb)) := HF1.out.below hb1
    have HR2 : Hid (w1.rowIs b 4 M (setF (setS S n))) := HR1.out.of_block (hb1.block b HR1.out.lt)
    have HC2 : Hid (Chg (· = b) w w1) := HC1.out.trans (Chg.of_below hb1)
    clear hb1 c0 c1 c2 c3 hcell hfz
    have c0 := HF2.out.c0
    have c1 := HF2.out.c1
    have c2 := HF2.out.c2
    have c3 := HF2.out.c3
    have c4 := HF2.out.lt
    by_cases hge : F ≤ n
    · have dg : decide (1 + inp + (ls.length : Int) ≤ (n : Int)) = true := by have := HFF.out; simp; omega
      obtain ⟨k, rfl⟩ : ∃ k, n = F + k := ⟨n - F, by omega⟩
      have hkl : k < xs.length := by have := HMM.out; omega
      have hA1 : IsAnds w1 (.slice aa xs.length ca) xs := HAN.out.chg HC2.out (fun g off e => HAB.out g off e)
      obtain ⟨ba, off, rfl, hbb, hx1, hx2⟩ : ∃ ba off, aa = some ⟨ba, off, none⟩ ∧ ba < w1.heap.size ∧ w1.cell? ⟨ba, off + k * 2, none⟩ = some (.int .i64 (xs.getD k (0, 0)).1) ∧ w1.cell? ⟨ba, off + k * 2 + 1, none⟩ = some (.int .i64 (xs.getD k (0, 0)).2) := by
        obtain ⟨ao', cap', he, h⟩ := hA1
        obtain ⟨ba, off, ha, hc⟩ := h (by intro e; subst e; simp at hkl)
        injection he with e1 e2 e3
        exact ⟨ba, off, e1.trans ha, cell_lt (hc k hkl).1, hc k hkl⟩
      have HA1 : Hid (IsAnds w1 (.slice (some ⟨ba, off, none⟩) xs.length ca) xs) := hA1
      have hmem : xs.getD k (0, 0) ∈ xs := by rw [List.getD, List.getElem?_eq_getElem hkl]; simp
      have hpq := HP.out _ hmem
      have hkids := HA.out (F + k) (by omega) (by omega)
      have HKA : Hid (kidA F xs (F + k) = ((xs.getD k (0, 0)).1 / 2).toNat) := by show kidA F xs (F + k) = _; unfold kidA; rw [show F + k - F = k by omega]
      have HKB : Hid (kidB F xs (F + k) = ((xs.getD k (0, 0)).2 / 2).toNat) := by show kidB F xs (F + k) = _; unfold kidB; rw [show F + k - F = k by omega]
      have HKI : Hid (kidA F xs (F + k) < F + k ∧ kidB F xs (F + k) < F + k) := hkids
      clear hA1 hmem hkids
      generalize xs.getD k (0, 0) = q at *
      obtain ⟨q1, q2⟩ := q
      have hx1 : w1.cell? ⟨ba, off + k * 2, none⟩ = some (.int .i64 q1) := hx1
      have hx2 : w1.cell? ⟨ba, off + k * 2 + 1, none⟩ = some (.int .i64 q2) := hx2
      have hFle : 1 + inp + (ls.length : Int) ≤ (F : Int) + (k : Int) := by have := HFF.out; omega
      have hwr : IntKind.i64.wrap ((F : Int) + (k : Int) - (1 + inp + (ls.length : Int))) = (k : Int) := by have := HFF.out; rw [IntKind.wrap_i64]; omega
      have HT : Hid (∀ W : World, Two (W.alloc (.cells #[.int .i64 q1, .int .i64 q2] 65)) W.heap.size (.int .i64 q1) (.int .i64 q2)) := fun W => Two.new W _ _ _
      go_wp2_with fail
      go_region_law (first
          | (go_simp; go_at_call 74; refine (l3First_any _ _ _ _ _ _ _ _ _ _ _ h0 h1 h2).mono ?_; rintro e w2 ⟨rfl, hbz⟩; have hA : Below (w1.drew.alloc (.cells #[.int .i64 0, .int .i64 0] 65)).heap.size (w1.drew.alloc (.cells #[.int .i64 0, .int .i64 0] 65)) w2 := hbz; have hAF := alloc_facts hA; have x0 : w2.cell? ⟨w1.heap.size, 0, none⟩ = some (.int .i64 0) := hAF.1; have x1 : w2.cell? ⟨w1.heap.size, 1, none⟩ = some (.int .i64 0) := hAF.2.1; have x2 : w2.frozen? ⟨w1.heap.size, 0, none⟩ = false := hAF.2.2.1; have x3 : w2.frozen? ⟨w1.heap.size, 1, none⟩ = false := hAF.2.2.2.1; have x4 : w1.heap.size < w2.heap.size := hAF.2.2.2.2; clear hAF; clear hA; have hB : Below w1.heap.size w1 w2 := (by first | exact hbz | exact undrew hbz | exact undrew (belNext (belOne _ _) hbz) | exact belNext (belOne _ _) hbz); have HBZ : Hid (Below w1.heap.size w1 w2) := hB; have z0 : Four w2 w.heap.size (.int .i64 inp) (.slice al ls.length cl) (.slice (some ⟨ba, off, none⟩) xs.length ca) (.slice ab bs.length cb) := HF2.out.below hB; have z1 := z0.c0; have z2 := z0.c1; have z3 := z0.c2; have z4 := z0.c3; have z5 := z0.lt; have y1 := (hB.cell (p := ⟨ba, off + k * 2, none⟩) hbb).trans hx1; have y2 := (hB.cell (p := ⟨ba, off + k * 2 + 1, none⟩) hbb).trans hx2; have y3 : ba < w2.heap.size := Nat.lt_of_lt_of_le hbb hB.size; clear hbz z0 hB)
          | (go_simp; go_at_call 74; refine (l3First_any _ _ _ _ _ _ _ _ _ _ _ h0 h1 h2).mono ?_; rintro e w2 ⟨rfl, hbz⟩; have hB : Below w1.heap.size w1 w2 := (by first | exact hbz | exact undrew hbz | exact undrew (belNext (belOne _ _) hbz) | exact belNext (belOne _ _) hbz); have HBZ : Hid (Below w1.heap.size w1 w2) := hB; have z0 : Four w2 w.heap.size (.int .i64 inp) (.slice al ls.length cl) (.slice (some ⟨ba, off, none⟩) xs.length ca) (.slice ab bs.length cb) := HF2.out.below hB; have z1 := z0.c0; have z2 := z0.c1; have z3 := z0.c2; have z4 := z0.c3; have z5 := z0.lt; have y1 := (hB.cell (p := ⟨ba, off + k * 2, none⟩) hbb).trans hx1; have y2 := (hB.cell (p := ⟨ba, off + k * 2 + 1, none⟩) hbb).trans hx2; have y3 : ba < w2.heap.size := Nat.lt_of_lt_of_le hbb hB.size; clear hbz z0 hB))
      all_goals
        first
          | (have hx := x4
             have HT3 := hideN (two_set x0 x1 x4 (.int .i64 q1) (.int .i64 q2))
             have HB3 := hideN ((HBZ.out.setCell (p := ⟨w1.heap.size, 0, none⟩) (Nat.le_refl _) (.int .i64 q1)).setCell (p := ⟨w1.heap.size, 1, none⟩) (Nat.le_refl _) (.int .i64 q2))
             have hB3 : w1.heap.size ≤ w1.heap.size := Nat.le_refl _
             clear hx x0 x1 x2 x3 x4)
          | (have HT3 := hideN (Two.new w2 (.int .i64 q1) (.int .i64 q2) 65)
             have HB3 := hideN (belNext HBZ.out (belOne w2 (.cells #[.int .i64 q1, .int .i64 q2] 65)))
             have hB3 : w1.heap.size ≤ w2.heap.size := HBZ.out.size)
        clear c0 c1 c2 c3 c4 z1 z2 z3 z4 z5 y1 y2 y3 hx1 hx2 hwr dg
        have HF3 := hideN (HF2.out.below HB3.out)
        have HR3 := hideN (HR2.out.of_block (HB3.out.block b HR2.out.lt))
        have HA3 := hideN (HA1.out.below HB3.out)
        have HC3 := hideN (HC2.out.trans (Chg.of_below HB3.out))
        have c0 := HF3.out.c0
        have c1 := HF3.out.c1
        have c2 := HF3.out.c2
        have c3 := HF3.out.c3
        have c4 := HF3.out.lt
        have t0 := HT3.out.c0
        have t1 := HT3.out.c1
        have t2 := HT3.out.lt
        have hq1 : 0 ≤ q1 ∧ q1 ≤ 1000 := hpq.1
        have hq2 : 0 ≤ q2 ∧ q2 ≤ 1000 := hpq.2
        have hka : q1 / 2 = ((kidA F xs (F + k) : Nat) : Int) := by rw [HKA.out]; show q1 / 2 = (((q1 / 2).toNat : Nat) : Int); omega
        have hkb : q2 / 2 = ((kidB F xs (F + k) : Nat) : Int) := by rw [HKB.out]; show q2 / 2 = (((q2 / 2).toNat : Nat) : Int); omega
        have HKA2 := hideN hka
        have HKB2 := hideN hkb
        clear hka hkb
        have HCS : Hid (ClosedB F xs (F + k) (setS S (F + k))) := HCL.out.set (by omega)
        go_wp2_with fail
        refine (HIH.out _ HKI.out.1 q1 (F + k) _ _ HKA2.out hq1.1 hq1.2 (by have := HKI.out.1; omega) HKI.out.1 HCS.out HA3.out HR3.out).mono ?_
        rintro e w5 ⟨rfl, S2, hp, hr5, hc5⟩
        have HP5 : Hid (MarkPost F xs (setS S (F + k)) (kidA F xs (F + k)) (F + k) S2) := hp
        have HR5 : Hid (w5.rowIs b 4 M (setF S2)) := hr5
        have hne1 : w.heap.size ≠ b := by omega
        have hb1 : b < w1.heap.size := HR2.out.lt
        have HF5 := hideN (hc5.four HF3.out (fun hk => hne1 hk))
        have HT5 := hideN (HT3.out.chg hc5 (fun hk => by have hk' : _ = b := hk; omega))
        have HA5 := hideN (HA3.out.chg hc5 (fun g off e => HAB.out g off e))
        have HC5 := hideN (HC3.out.trans hc5)
        clear hp hr5 hc5 c0 c1 c2 c3 c4 t0 t1 t2
        have c0 := HF5.out.c0
        have c1 := HF5.out.c1
        have c2 := HF5.out.c2
        have c3 := HF5.out.c3
        have c4 := HF5.out.lt
        have t0 := HT5.out.c0
        have t1 := HT5.out.c1
        have t2 := HT5.out.lt
        go_wp2_with fail
        refine (HIH.out _ HKI.out.2 q2 (F + k) _ _ HKB2.out hq2.1 hq2.2 (by have := HKI.out.2; omega) HKI.out.2 HP5.out.cb HA5.out HR5.out).mono ?_
        rintro e w6 ⟨rfl, S3, hp6, hr6, hc6⟩
        have HP6 : Hid (MarkPost F xs S2 (kidB F xs (F + k)) (F + k) S3) := hp6
        have HR6 : Hid (w6.rowIs b 4 M (setF S3)) := hr6
        have HC6 := hideN (HC5.out.trans hc6)
        clear hp6 hr6 hc6 c0 c1 c2 c3 c4 t0 t1 t2
        go_wp2
        go_end0
        exact ⟨rfl, S3, MarkPost.node HA.out HCL.out (by omega) (by omega) hnN HP5.out HP6.out, HR6.out, HC6.out⟩
    · have dg : decide (1 + inp + (ls.length : Int) ≤ (n : Int)) = false := by have := HFF.out; simp; omega
      go_wp2
      go_end0
      exact ⟨rfl, _, MarkPost.leaf HCL.out (fun h => hge h.1), HR2.out, HC2.out⟩

end Go.Proofs.Ytbdjdgamnnifjaa

namespace Go.Proofs.Ytbdjdgamnnifjaa
open Go.RowKit Go.Deep Go.Shelf
set_option linter.unusedVariables false

/-- The numbers below one that are marked, without 0. -/
def pickN (S : Nat → Bool) (k : Nat) : List Int := ((List.range k).filter (fun i => decide (0 < i) && S i)).map (fun (i : Nat) => (i : Int))

theorem pickN_succ (S : Nat → Bool) (k : Nat) : pickN S (k + 1) = if 0 < k ∧ S k = true then pickN S k ++ [(k : Int)] else pickN S k := by
  unfold pickN
  rw [List.range_succ, List.filter_append, List.map_append]
  by_cases h : 0 < k ∧ S k = true
  · rw [if_pos h]; simp [h.1, h.2]
  · rw [if_neg h]
    have : (decide (0 < k) && S k) = false := by
      cases hs : S k
      · simp
      · rcases Nat.eq_zero_or_pos k with e | e
        · subst e; rfl
        · exact absurd ⟨e, hs⟩ h
    simp [this]

theorem pickN_le (S : Nat → Bool) (k : Nat) : (pickN S k).length ≤ k := by
  unfold pickN
  rw [List.length_map]
  exact Nat.le_trans (List.length_filter_le _ _) (by simp)

/-- Ands of a circuit that is ok mean what stands ahead. -/
theorem ahead_ok {inp : Int} {ls : List (Int × Bool)} {xs : List (Int × Int)} {bs : List Int} {F : Nat} (h : okC inp ls xs bs = true) (h64 : ∀ p ∈ xs, I64 p.1 ∧ I64 p.2) (hF : (F : Int) = 1 + inp + ls.length) : Ahead F xs := by
  intro m h1 h2
  have hk : m - F < xs.length := by omega
  obtain ⟨p1, p2⟩ := pair_of_ok h hk
  have hm : xs.getD (m - F) (0, 0) ∈ xs := by rw [List.getD, List.getElem?_eq_getElem hk]; simp
  obtain ⟨q1, q2⟩ := h64 _ hm
  obtain ⟨a0, a1⟩ := ahead_of p1 q1
  obtain ⟨b0, b1⟩ := ahead_of p2 q2
  unfold kidA kidB
  omega

theorem small_ok {inp : Int} {ls : List (Int × Bool)} {xs : List (Int × Int)} {bs : List Int} (h : okC inp ls xs bs = true) (h64 : ∀ p ∈ xs, I64 p.1 ∧ I64 p.2) : ∀ p ∈ xs, (0 ≤ p.1 ∧ p.1 ≤ 1000) ∧ (0 ≤ p.2 ∧ p.2 ≤ 1000) := by
  intro p hp
  obtain ⟨k, hk, rfl⟩ := List.mem_iff_getElem.1 hp
  obtain ⟨p1, p2⟩ := pair_of_ok h hk
  have e : xs.getD k (0, 0) = xs[k] := by simp [List.getD, List.getElem?_eq_getElem hk]
  rw [e] at p1 p2
  obtain ⟨q1, q2⟩ := h64 _ hp
  obtain ⟨a0, a1⟩ := ahead_of p1 q1
  obtain ⟨b0, b1⟩ := ahead_of p2 q2
  unfold okC sizesB at h
  simp only [Bool.and_eq_true, decide_eq_true_eq] at h
  obtain ⟨⟨c0, c1, c2, c3, _⟩, _⟩ := h
  omega

end Go.Proofs.Ytbdjdgamnnifjaa

namespace Go.Proofs.Ytbdjdgamnnifjaa
open Go.RowKit Go.Deep Go.Shelf
set_option linter.unusedVariables false

attribute [local go_sem] Oper.semAt_some

/-- What AigNeeds answers: the numbers of the least set, ascending, without 0. -/
def IsNeeds (inp : Int) (ls : List (Int × Bool)) (xs : List (Int × Int)) (bs : List Int) (lit : Int) (vs : List Int) : Prop :=
  (okC inp ls xs bs = true ∧ 0 ≤ lit ∧ lit ≤ 2 * (inp + ls.length + xs.length) + 1 → ∃ S F, ((F : Nat) : Int) = 1 + inp + ls.length ∧ Least F xs (lit / 2).toNat S ∧ vs = pickN S (F + xs.length)) ∧
  (¬ (okC inp ls xs bs = true ∧ 0 ≤ lit ∧ lit ≤ 2 * (inp + ls.length + xs.length) + 1) → vs = [])

theorem IsNeeds.uniq {inp : Int} {ls : List (Int × Bool)} {xs : List (Int × Int)} {bs : List Int} {lit : Int} {vs us : List Int} (h : IsNeeds inp ls xs bs lit vs) (k : IsNeeds inp ls xs bs lit us) : vs = us := by
  by_cases hc : okC inp ls xs bs = true ∧ 0 ≤ lit ∧ lit ≤ 2 * (inp + ls.length + xs.length) + 1
  · obtain ⟨S, F, h1, h2, rfl⟩ := h.1 hc
    obtain ⟨T, G, k1, k2, rfl⟩ := k.1 hc
    obtain rfl : F = G := by omega
    rw [Least.uniq h2 k2]
  · rw [h.2 hc, k.2 hc]

def NeedPost (inp : Int) (ls : List (Int × Bool)) (xs : List (Int × Int)) (bs : List Int) (lit : Int) (w : World) (e : Ending) (w' : World) : Prop :=
  ∃ ao m cap vs, e = .returned (.slice ao m cap) ∧ vs.length = m ∧ m ≤ 100 ∧ Owni w' w.heap.size (.slice ao m cap) vs ∧ Below w.heap.size w w' ∧ IsNeeds inp ls xs bs lit vs

theorem pickN_one (S : Nat → Bool) : pickN S 1 = [] := by
  rw [pickN_succ, if_neg (by simp)]
  rfl

theorem row_ne_row {w : World} {base : Nat} {v : Value} {vs : List Int} {b n : Nat} {f : Nat → Value} (h : Owni w base v vs) (hr : w.rowIs b 4 n f) : some b ≠ v.ownBlock := by
  intro e
  rcases h.2 with ⟨h3, _⟩ | ⟨g1, c1, cur1, h3, _, hh1, _⟩
  · rw [h3] at e; cases e
  · rw [h3] at e
    have e1 : b = g1 := Option.some.inj e
    subst e1
    obtain ⟨cells, hb, _⟩ := hr
    rw [hh1] at hb
    cases hb

set_option maxRecDepth 100000 in
set_option maxHeartbeats 4000000 in
theorem specAigNeeds_any (inp : Int) (al aa ab : Option Addr) (cl ca cb : Nat) (ls : List (Int × Bool)) (xs : List (Int × Int)) (bs : List Int) (lit : Int) (w : World) (hC : IsCir w al aa ab cl ca cb ls xs bs) (hl64 : ∀ p ∈ ls, I64 p.1) (h64 : ∀ p ∈ xs, I64 p.1 ∧ I64 p.2) (hb64 : ∀ x ∈ bs, I64 x) :
    Calls Try.prog 28 #[.agg #[.int .i64 inp, .slice al ls.length cl, .slice aa xs.length ca, .slice ab bs.length cb], .int .i64 lit] w (NeedPost inp ls xs bs lit w) := by
  have HC : Hid (∀ w', Below w.heap.size w w' → IsCir w' al aa ab cl ca cb ls xs bs) := fun w' h => hC.below h
  have HAA : Hid (∀ k off, aa = some ⟨k, off, none⟩ → k < w.heap.size) := fun k off e => hC.inA k off e
  have H64 : Hid (∀ p ∈ xs, I64 p.1 ∧ I64 p.2) := h64
  obtain ⟨o, ho⟩ : ∃ o, okC inp ls xs bs = o := ⟨_, rfl⟩
  have HO : Hid (okC inp ls xs bs = o) := ho
  have HOS : Hid (okS inp ls xs bs = o) := by show okS inp ls xs bs = o; rw [← okC_eq hl64 h64 hb64]; exact ho
  obtain ⟨W1, hW1⟩ : ∃ W1, W1 = w.alloc (.cells #[.int .i64 inp, .slice al ls.length cl, .slice aa xs.length ca, .slice ab bs.length cb] 33) := ⟨_, rfl⟩
  have hs1 : W1.heap.size = w.heap.size + 1 := by rw [hW1]; simp
  have HF1 : Hid (Four W1 w.heap.size (.int .i64 inp) (.slice al ls.length cl) (.slice aa xs.length ca) (.slice ab bs.length cb)) := by rw [hW1]; exact Four.new _ _ _ _ _ _
  have HB1 : Hid (Below w.heap.size w W1) := by rw [hW1]; exact belOne _ _
  have HW1 : Hid (W1 = w.alloc (.cells #[.int .i64 inp, .slice al ls.length cl, .slice aa xs.length ca, .slice ab bs.length cb] 33)) := hW1
  have HB2 : Hid (Below w.heap.size w (W1.alloc (.cells #[] 3))) := belNext HB1.out (belOne _ _)
  have HF2 := hideN (HF1.out.below (belOne W1 (.cells #[] 3)))
  have HE2 : Hid (Owni (W1.alloc (.cells #[] 3)) w.heap.size (.slice (some ⟨w.heap.size + 1, 0, none⟩) 0 0) []) := by
    have h := owni_empty W1
    rw [hs1] at h
    exact h.base (by omega)
  obtain ⟨ib, hib, hzb0, hzb1, hzb2⟩ := info_parts info_int
  clear hC hl64 h64 hb64 ho hW1
  go_enter Try.func28, Try.ntmps28
  go_wp2_with fail
  rw [← HW1.out]
  refine (specAigOk_any inp al aa ab cl ca cb ls xs bs _ (HC.out _ HB2.out)).mono ?_
  rintro e w3 ⟨he, hb3⟩
  rw [HOS.out] at he
  subst he
  have HB3 : Hid (Below w.heap.size w w3) := belNext HB2.out hb3
  have HF3 := hideN (HF2.out.below hb3)
  have HE3 : Hid (Owni w3 w.heap.size (.slice (some ⟨w.heap.size + 1, 0, none⟩) 0 0) []) := HE2.out.below hb3
  clear hb3
  cases o with
  | false =>
    go_wp2
    go_ret
    exact ⟨_, 0, 0, [], rfl, rfl, by omega, HE3.out, HB3.out, ⟨(fun h => by rw [HO.out] at h; exact absurd h.1 (by simp)), fun _ => rfl⟩⟩
  | true =>
    have hsz : 0 ≤ inp ∧ inp ≤ 8 ∧ ls.length ≤ 8 ∧ xs.length ≤ 40 ∧ bs.length ≤ 4 := by
      have h := HO.out
      unfold okC sizesB at h
      simp only [Bool.and_eq_true, decide_eq_true_eq] at h
      exact h.1
    obtain ⟨h0, h8, hl8, hx40, hb4⟩ := hsz
    obtain ⟨F, hF⟩ : ∃ F : Nat, (F : Int) = 1 + inp + ls.length := ⟨(1 + inp + ls.length).toNat, by omega⟩
    have HFF : Hid ((F : Int) = 1 + inp + ls.length) := hF
    obtain ⟨M, hM⟩ : ∃ M : Nat, M = F + xs.length := ⟨_, rfl⟩
    have HMM : Hid (M = F + xs.length) := hM
    have hMe : inp + (ls.length : Int) + (xs.length : Int) + 1 = (M : Int) := by omega
    have hM100 : M ≤ 100 := by omega
    have hM1 : 1 ≤ M := by omega
    obtain ⟨r, hr⟩ : ∃ r, inB lit 0 (2 * (inp + (ls.length : Int) + (xs.length : Int)) + 1) = r := ⟨_, rfl⟩
    have HIN : Hid (inB lit 0 (2 * (inp + (ls.length : Int) + (xs.length : Int)) + 1) = r) := hr
    have hw4 : IntKind.i64.wrap (2 * (inp + (ls.length : Int) + (xs.length : Int))) = 2 * (inp + (ls.length : Int) + (xs.length : Int)) := by rw [IntKind.wrap_i64]; omega
    have hw5 : IntKind.i64.wrap (2 * (inp + (ls.length : Int) + (xs.length : Int)) + 1) = 2 * (inp + (ls.length : Int) + (xs.length : Int)) + 1 := by rw [IntKind.wrap_i64]; omega
    have HRG : Hid (r = true ↔ 0 ≤ lit ∧ lit ≤ 2 * (inp + (ls.length : Int) + (xs.length : Int)) + 1) := by show _ ↔ _; rw [← hr]; unfold inB; simp
    have HME : Hid (inp + (ls.length : Int) + (xs.length : Int) + 1 = (M : Int)) := hMe
    clear hF hM hr hMe
    have c0 := HF3.out.c0
    have c1 := HF3.out.c1
    have c2 := HF3.out.c2
    have c3 := HF3.out.c3
    go_wp2_with fail
    refine (l3Nodes_any _ _ _ _ _ _ _ _ _ _ _ h0 h8 hl8 hx40).mono ?_
    rintro e w4 ⟨rfl, hb4'⟩
    have HB4 : Hid (Below w.heap.size w w4) := belNext HB3.out hb4'
    have HF4 := hideN (HF3.out.below hb4')
    have HE4 : Hid (Owni w4 w.heap.size (.slice (some ⟨w.heap.size + 1, 0, none⟩) 0 0) []) := HE3.out.below hb4'
    clear hb4' c0 c1 c2 c3
    go_wp2_with fail
    refine (l1In_any _ _ _ _).mono ?_
    rintro e w' ⟨he, hw'⟩
    rw [HIN.out] at he
    subst he
    subst hw'
    cases r with
    | false =>
      go_wp2
      go_ret
      exact ⟨_, 0, 0, [], rfl, rfl, by omega, HE4.out, HB4.out, ⟨(fun h => absurd (HRG.out.2 h.2) (by simp)), fun _ => rfl⟩⟩
    | true =>
      obtain ⟨hlit0, hlit1⟩ := HRG.out.1 rfl
      have hl1000 : lit ≤ 1000 := by omega
      have HNM : Hid ((lit / 2).toNat < M) := by have := HME.out; show _ < _; omega
      have c0 := HF4.out.c0
      have c1 := HF4.out.c1
      have c2 := HF4.out.c2
      have c3 := HF4.out.c3
      clear hw4 hw5
      go_wp2_with fail
      refine (l3Nodes_any _ _ _ _ _ _ _ _ _ _ _ h0 h8 hl8 hx40).mono ?_
      rintro e w5 ⟨rfl, hb5⟩
      have HB5 : Hid (Below w.heap.size w w5) := belNext HB4.out hb5
      have HF5 := hideN (HF4.out.below hb5)
      have HE5 : Hid (Owni w5 w.heap.size (.slice (some ⟨w.heap.size + 1, 0, none⟩) 0 0) []) := HE4.out.below hb5
      clear hb5 c0 c1 c2 c3
      have c0 := HF5.out.c0
      have c1 := HF5.out.c1
      have c2 := HF5.out.c2
      have c3 := HF5.out.c3
      have c4 := HF5.out.lt
      have hmk := run_make_row' (P := Try.prog) 27 4 (.bool false) 1 Try.underlying27 info_bool rfl .i64 .i64 M (by omega) (by omega)
      have hMe := HME.out
      have HR6 : Hid ((w5.alloc (.cells (madeCells #[.bool false] M) 4)).rowIs w5.heap.size 4 M (setF (fun _ => false))) := (World.rowIs_made w5 _ M 4).congr (fun j _ => rfl)
      go_wp2_with fail
      have HB6 : Hid (Below w.heap.size w (w5.alloc (.cells (madeCells #[.bool false] M) 4))) := belNext HB5.out (belOne _ _)
      have hs5 := HB5.out.size
      refine (l3Mark_any inp al aa ab cl ca cb ls xs bs w5.heap.size M F h0 h8 hl8 hx40 HFF.out HMM.out (ahead_ok HO.out H64.out HFF.out) (small_ok HO.out H64.out) (fun k off e => by have := HAA.out k off e; omega) (lit / 2).toNat lit M (fun _ => false) _ (by omega) hlit0 hl1000 HNM.out HNM.out (fun m _ _ _ h => by cases h) (HC.out _ HB6.out).isA HR6.out).mono ?_
      rintro e w6 ⟨rfl, S, hmp, hr6, hc6⟩
      have HLS : Hid (Least F xs (lit / 2).toNat S) := hmp.isLeast (by have := HMM.out; omega)
      have HB7 : Hid (Below w.heap.size w w6) := Chg.below HB6.out HB6.out.size hc6 (fun k hk => by have hk' : k = w5.heap.size := hk; omega)
      have HE7 : Hid (Owni w6 w.heap.size (.slice (some ⟨w.heap.size + 1, 0, none⟩) 0 0) []) := owni_of_block (HE5.out.below (belOne _ _)) (fun k e => hc6.block k (World.ownsRow.lt (HE5.out.below (belOne _ _)) k e).2 (fun hk => by have hk' : k = w5.heap.size := hk; have := (World.ownsRow.lt HE5.out k e).2; omega))
      have HR7 : Hid (w6.rowIs w5.heap.size 4 M (setF S)) := hr6
      clear hmp hr6 hc6 hmk c0 c1 c2 c3 c4 hMe
      go_wp2_with fail
      go_loopw [5, 7] (fun o i wr => ∃ a m cp k, 1 ≤ k ∧ k ≤ M ∧ i = .int .i64 (k : Nat) ∧ o = .slice a m cp ∧ Hid ((pickN S k).length = m) ∧ Owni wr w.heap.size (.slice a m cp) (pickN S k) ∧ wr.rowIs w5.heap.size 4 M (setF S) ∧ Below w.heap.size w wr) (fun _ i _ => M - (intOf i).toNat)
      case atStart => exact ⟨_, 0, 0, 1, Nat.le_refl _, hM1, rfl, rfl, by show (pickN S 1).length = 0; rw [pickN_one]; rfl, by rw [pickN_one]; exact HE7.out, HR7.out, HB7.out⟩
      case round =>
        obtain ⟨a, m, cp, k, hk1, hkM, rfl, rfl, hm, hown, hrow, hbel⟩ := hrel
        have hm100 : m ≤ 100 := by have := pickN_le S k; have := hm.out; omega
        have HOW : Hid (Owni wr w.heap.size (.slice a m cp) (pickN S k)) := hown
        have HRW : Hid (wr.rowIs w5.heap.size 4 M (setF S)) := hrow
        have HBR : Hid (Below w.heap.size w wr) := hbel
        have hsw := hbel.size
        clear hown hbel
        by_cases hlt : k < M
        · have hcell : wr.cell? ⟨w5.heap.size, k, none⟩ = some (.bool (S k)) := hrow.cell hlt
          have hps := pickN_succ S k
          clear hrow
          obtain ⟨b, hb⟩ : ∃ b, S k = b := ⟨_, rfl⟩
          rw [hb] at hcell hps
          clear hb
          cases b
          · have HPS : Hid (pickN S (k + 1) = pickN S k) := by rw [if_neg (by simp)] at hps; exact hps
            clear hps
            go_wp2_with fail
            go_roundw
            case rel => exact ⟨a, m, cp, k + 1, by omega, by omega, by go_num, rfl, by show (pickN S (k + 1)).length = m; rw [HPS.out]; exact hm.out, by rw [HPS.out]; exact HOW.out, HRW.out, HBR.out⟩
            case measure => simp [intOf]; omega
          · have HPS : Hid (pickN S (k + 1) = pickN S k ++ [(k : Int)]) := by rw [if_pos ⟨by omega, rfl⟩] at hps; exact hps
            clear hps
            have HOM : Hid ((wr.alloc (.cells #[.int .i64 (k : Int)] 3)).ownsRow w.heap.size 3 1 (.slice a m cp) m ((pickN S k).map (Value.int .i64))) := by have h := HOW.out.below (belOne wr (.cells #[.int .i64 (k : Int)] 3)); unfold Owni at h; rw [hm.out] at h; exact h
            go_wp2_with (at_builtin; refine wpList_append_lies _ rfl _ _ 24 rfl w.heap.size 3 ib (.int .i64 0) 1 8 Try.underlying24 hib hzb0 hzb1 hzb2 rfl (by decide) _ m ((pickN S k).map (Value.int .i64)) rfl HOM.out ⟨wr.heap.size, 0, none⟩ 1 1 [.int .i64 (k : Int)] rfl rfl (newsN _ _ _) (ints_oneCell .i64 [(k : Int)]) (by decide) (by unfold maxLen; omega) (by omega) (by simp; omega) _ rfl ?_; intro g gcap w8 hown8 hgrow8 hat8 hlt8)
            have HO8 : Hid (Owni w8 w.heap.size (.slice (some ⟨g, 0, none⟩) (m + 1) gcap) (pickN S (k + 1))) := by
              show Owni _ _ _ _
              unfold Owni
              rw [HPS.out, List.length_append, hm.out, List.map_append]
              exact hown8
            have HR8 : Hid (w8.rowIs w5.heap.size 4 M (setF S)) := by
              have h1 := HRW.out.of_block ((belOne wr (.cells #[.int .i64 (k : Int)] 3)).block _ HRW.out.lt)
              exact h1.of_block (hgrow8.block _ h1.lt (row_ne_row (HOW.out.below (belOne _ _)) h1))
            have HB8 : Hid (Below w.heap.size w w8) := (belNext HBR.out (belOne _ _)).grown hgrow8 (by simp; omega) (fun q e => (World.ownsRow.lt HOW.out q e).1)
            clear hown8 hgrow8 hat8 hlt8
            go_wp2_with fail
            go_roundw
            case rel => exact ⟨_, m + 1, gcap, k + 1, by omega, by omega, by go_num, rfl, by show (pickN S (k + 1)).length = m + 1; rw [HPS.out, List.length_append, hm.out]; rfl, HO8.out, HR8.out, HB8.out⟩
            case measure => simp [intOf]; omega
        · obtain rfl : k = M := by omega
          clear hrow
          go_wp2
          go_ret
          exact ⟨a, m, cp, pickN S k, rfl, hm.out, hm100, HOW.out, HBR.out, ⟨fun _ => ⟨S, F, HFF.out, HLS.out, by rw [← HMM.out]⟩, fun h => absurd ⟨HO.out, hlit0, hlit1⟩ h⟩⟩

end Go.Proofs.Ytbdjdgamnnifjaa

namespace Go.Proofs.Ytbdjdgamnnifjaa
open Go.RowKit Go.Deep Go.Shelf
set_option linter.unusedVariables false

attribute [local go_sem] Oper.semAt_some

/-- What is told, from the last on. -/
def backOf (xs : List (Int × Int)) : List (Int × Int × Int) := (List.range xs.length).map fun (i : Nat) => (((xs.length - 1 - i : Nat) : Int), xs.getD (xs.length - 1 - i) (0, 0))
theorem backOf_length (xs : List (Int × Int)) : (backOf xs).length = xs.length := by simp [backOf]
theorem backOf_get (xs : List (Int × Int)) (k : Nat) (h : k < xs.length) : (backOf xs)[k]? = some (((xs.length - 1 - k : Nat) : Int), xs.getD (xs.length - 1 - k) (0, 0)) := by
  simp [backOf, h]

/-- Old memory but one row, and one block more, as it was. -/
structure KpN (base Br Bx : Nat) (V V' : World) : Prop where
  os : V'.os = V.os
  tape : V'.tape = V.tape
  output : V'.output = V.output
  size : V.heap.size ≤ V'.heap.size
  old : ∀ k, k < base → k ≠ Br → V'.heap[k]? = V.heap[k]?
  box : V'.heap[Bx]? = V.heap[Bx]?

theorem KpN.trans {base Br Bx : Nat} {A B C : World} (h : KpN base Br Bx A B) (k : KpN base Br Bx B C) : KpN base Br Bx A C :=
  ⟨k.os.trans h.os, k.tape.trans h.tape, k.output.trans h.output, Nat.le_trans h.size k.size, fun i hi hn => (k.old i hi hn).trans (h.old i hi hn), k.box.trans h.box⟩
theorem KpN.refl (base Br Bx : Nat) (A : World) : KpN base Br Bx A A := ⟨rfl, rfl, rfl, Nat.le_refl _, fun _ _ _ => rfl, rfl⟩
theorem KpN.put {base Br Bx : Nat} {w : World} (hb : base ≤ w.heap.size) (hB : Bx < w.heap.size) (W : World) (l : Nat) (o o' : Obj) (hl : w.heap.size ≤ l) (h : W.heap[l]? = some o) (ho : o.isCells = false) : KpN base Br Bx W (W.putObj l o') := by
  have hg := grownBy_putObj' W l o'
  exact ⟨hg.os, hg.tape, hg.output, hg.size, fun k hk _ => World.putObj_heap_other (by omega), World.putObj_heap_other (by omega)⟩
theorem KpN.of_below {base Br Bx : Nat} {V V' : World} (hb : base ≤ V.heap.size) (hB : Bx < V.heap.size) (h : Below V.heap.size V V') : KpN base Br Bx V V' :=
  ⟨h.os, h.tape, h.output, h.size, fun k hk _ => h.block k (by omega), h.block Bx hB⟩

set_option maxRecDepth 100000 in
set_option maxHeartbeats 2000000 in
theorem backward_gives (n : Nat) (hn : 1 ≤ n) (base Br Bx : Nat) (aa : Option Addr) (ca : Nat) (xs : List (Int × Int)) (h3 : xs.length ≤ 40) (w : World)
    (hn₀ : base ≤ w.heap.size) (hF0 : w.heap[Bx]? = some (.cells #[.slice aa xs.length ca] 31 (0, 0))) (hA0 : IsAnds w (.slice aa xs.length ca) xs) (hAb : ∀ b off, aa = some ⟨b, off, none⟩ → b < base ∧ b ≠ Br) :
    GivesAll n Try.prog 117 #[.pointer (some ⟨Bx, 0, none⟩)] (fun x : Int × Int × Int => #[Value.int .i64 x.1, .agg #[.int .i64 x.2.1, .int .i64 x.2.2]]) (KpN base Br Bx) (backOf xs) w := by
  intro l J W hW hJ hY hs
  rw [backOf_length]
  have hBw : Bx < w.heap.size := (Array.getElem?_eq_some_iff.1 hF0).1
  have hF : W.heap[Bx]? = some (.cells #[.slice aa xs.length ca] 31 (0, 0)) := (hW.block Bx hBw).trans hF0
  have hA := hA0.below hW
  replace hn₀ : base ≤ W.heap.size := Nat.le_trans hn₀ hW.size
  have hBl : Bx < W.heap.size := (Array.getElem?_eq_some_iff.1 hF).1
  clear hF0 hA0 hW hBw
  have cB : ∀ V : World, V.heap[Bx]? = W.heap[Bx]? → V.cell? ⟨Bx, 0, none⟩ = some (.slice aa xs.length ca) := fun V e => by simp [World.cell?, e, hF]
  have c0 := cB W rfl
  have HCB : Hid (∀ V : World, V.heap[Bx]? = W.heap[Bx]? → V.cell? ⟨Bx, 0, none⟩ = some (.slice aa xs.length ca)) := cB
  clear cB
  show CallsIn Fence.wide n Try.prog 117 #[.func (.yield l) #[] #[], .pointer (some ⟨Bx, 0, none⟩)] W _
  refine callsIn_of_wp Try.func117 rfl trivial ?_ rfl
  simp only [Try.ntmps117, List.size_toArray, List.length_cons, List.length_nil, Nat.reduceAdd, Nat.reduceSub, Array.replicate_succ, Array.replicate_zero, List.push_toArray, List.append_toArray, List.nil_append, List.cons_append]
  gi_wp2
  gi_loopw [3] (fun i wr => ∃ k : Nat, k ≤ xs.length ∧ i = .int .i64 ((xs.length : Int) - 1 - k) ∧ J k wr ∧ KpN base Br Bx W wr) (fun i _ => (intOf i + 1).toNat)
  case atStart => exact ⟨0, Nat.zero_le _, by simp, hs, KpN.refl _ _ _ _⟩
  case round =>
    obtain ⟨k, hk, rfl, hJs, hnx⟩ := hrel
    by_cases hlt : k < xs.length
    · obtain ⟨b, off, rfl, hcs⟩ : ∃ b off, aa = some ⟨b, off, none⟩ ∧ ∀ i, i < xs.length → W.cell? ⟨b, off + i * 2, none⟩ = some (.int .i64 (xs.getD i (0, 0)).1) ∧ W.cell? ⟨b, off + i * 2 + 1, none⟩ = some (.int .i64 (xs.getD i (0, 0)).2) := by
        obtain ⟨ao', cap', he, h⟩ := hA
        obtain ⟨b, off, ha, hc⟩ := h (by intro e; subst e; simp at hlt)
        injection he with e1 e2 e3
        exact ⟨b, off, e1.trans ha, hc⟩
      obtain ⟨hbn, hbr⟩ := hAb b off rfl
      obtain ⟨j, hj⟩ : ∃ j, xs.length - 1 - k = j := ⟨_, rfl⟩
      have hjl : j < xs.length := by omega
      have hji : (xs.length : Int) - 1 - (k : Int) = (j : Int) := by omega
      obtain ⟨hc1, hc2⟩ := hcs j hjl
      have hg := backOf_get xs k hlt
      rw [hj] at hg
      have hYY : YieldAt Fence.wide (n - 1) Try.prog l #[.int .i64 (j : Int), .agg #[.int .i64 (xs.getD j (0, 0)).1, .int .i64 (xs.getD j (0, 0)).2]] wr fun e W3 => e = .returned (.bool true) ∧ Hid (J (k + 1) W3 ∧ KpN base Br Bx W W3) := by
        refine YieldAt.mono (hY k ((j : Int), xs.getD j (0, 0)) wr hg hJs) ?_
        rintro e W3 ⟨rfl, h4, h5⟩
        exact ⟨rfl, (show _ ∧ _ from ⟨h4, hnx.trans h5⟩)⟩
      have hbo := hnx.old b hbn hbr
      have hx1 := (World.cell?_of_block (a := ⟨b, off + j * 2, none⟩) hbo).trans hc1
      have hx2 := (World.cell?_of_block (a := ⟨b, off + j * 2 + 1, none⟩) hbo).trans hc2
      have hz0 := HCB.out wr hnx.box
      have hjk : Hid ((xs.length : Int) - 1 - ((k + 1 : Nat) : Int) = (j : Int) - 1) := by show _ = _; omega
      clear hcs hc1 hc2 hbo hg c0
      generalize xs.getD j (0, 0) = q at *
      obtain ⟨q1, q2⟩ := q
      have hx1 : wr.cell? ⟨b, off + j * 2, none⟩ = some (.int .i64 q1) := hx1
      have hx2 : wr.cell? ⟨b, off + j * 2 + 1, none⟩ = some (.int .i64 q2) := hx2
      obtain ⟨fn, tmps, assign, body, hy, hR⟩ := hYY
      rw [hji]
      clear hA hAb
      gi_wp2
      refine hR.mono ?_
      rintro e W3 ⟨rfl, hp3⟩
      gi_wp2
      go_roundw
      case rel => exact ⟨k + 1, by omega, by rw [hjk.out], hp3.out.1, hp3.out.2⟩
      case measure => simp [intOf]
    · obtain rfl : k = xs.length := by omega
      gi_wp2
      go_end0
      exact ⟨⟨_, rfl⟩, hJs⟩

end Go.Proofs.Ytbdjdgamnnifjaa

/-
  What something needs: the model's l3Mark.
-/
import Derived.Test.YtbdjdgamnnifjaaAigK
import Derived.Test.YtbdjdgamnnifjaaNeed1
import Derived.Deep.RegionHeld3
import Derived.Deep.RegionLaw
namespace Go.Proofs.Ytbdjdgamnnifjaa
open Go.RowKit Go.Deep Go.Shelf
set_option linter.unusedVariables false

attribute [local go_sem] Oper.semAt_some

theorem IsAnds.chg {p : Nat → Prop} {a b : World} {ao : Option Addr} {len cap : Nat} {xs : List (Int × Int)} (h : IsAnds a (.slice ao len cap) xs) (hc : Chg p a b) (hp : ∀ k off, ao = some ⟨k, off, none⟩ → ¬ p k) : IsAnds b (.slice ao len cap) xs := by
  obtain ⟨ao', cap', he, h⟩ := h
  cases he
  refine ⟨_, _, rfl, fun hne => ?_⟩
  obtain ⟨g, off, rfl, hcs⟩ := h hne
  exact ⟨g, off, rfl, fun i hi => ⟨(World.cell?_of_block (hc.block g (cell_lt (hcs i hi).1) (hp g off rfl))).trans (hcs i hi).1, (World.cell?_of_block (hc.block g (cell_lt (hcs i hi).2) (hp g off rfl))).trans (hcs i hi).2⟩⟩

theorem Two.chg {p : Nat → Prop} {a b : World} {g : Nat} {c0 c1 : Value} (hr : Two a g c0 c1) (h : Chg p a b) (hg : ¬ p g) : Two b g c0 c1 := by
  have e := h.block g hr.lt hg
  exact ⟨Nat.lt_of_lt_of_le hr.lt h.size, (World.cell?_of_block e).trans hr.c0, (World.cell?_of_block e).trans hr.c1⟩

theorem alloc_facts {w w2 : World} {x y : Value} {t : TypeId} (h : Below (w.alloc (.cells #[x, y] t)).heap.size (w.alloc (.cells #[x, y] t)) w2) : w2.cell? ⟨w.heap.size, 0, none⟩ = some x ∧ w2.cell? ⟨w.heap.size, 1, none⟩ = some y ∧ w2.frozen? ⟨w.heap.size, 0, none⟩ = false ∧ w2.frozen? ⟨w.heap.size, 1, none⟩ = false ∧ w.heap.size < w2.heap.size :=
  ⟨((bcell h).1 w.heap.size 0 (by simp)).trans (by simp), ((bcell h).1 w.heap.size 1 (by simp)).trans (by simp), ((bcell h).2 w.heap.size 0 (by simp)).trans (by simp), ((bcell h).2 w.heap.size 1 (by simp)).trans (by simp), by have h' := h.size; rw [World.size_alloc] at h'; exact h'⟩

theorem two_set {w : World} {B : Nat} {u0 u1 : Value} (h0 : w.cell? ⟨B, 0, none⟩ = some u0) (h1 : w.cell? ⟨B, 1, none⟩ = some u1) (hl : B < w.heap.size) (x y : Value) : Two ((w.setCell ⟨B, 0, none⟩ x).setCell ⟨B, 1, none⟩ y) B x y := by
  have e1 : (w.setCell ⟨B, 0, none⟩ x).cell? ⟨B, 1, none⟩ = some u1 := by rw [World.cell?_setCell_other w _ _ _ (by simp)]; exact h1
  have e0 : (w.setCell ⟨B, 0, none⟩ x).cell? ⟨B, 0, none⟩ = some x := World.cell?_setCell_same w _ _ h0
  refine ⟨by simpa [World.setCell] using hl, ?_, World.cell?_setCell_same _ _ _ e1⟩
  rw [World.cell?_setCell_other _ _ _ _ (by simp)]; exact e0

/-- The marks of a set. -/
def setF (S : Nat → Bool) : Nat → Value := fun i => .bool (S i)
theorem setF_set {w : World} {b : Nat} {t : TypeId} {M : Nat} {S : Nat → Bool} {n : Nat} (h : w.rowIs b t M (setF S)) : (w.setCell ⟨b, n, none⟩ (.bool true)).rowIs b t M (setF (setS S n)) := by
  refine (h.set n _).congr (fun i _ => ?_)
  unfold setF setS
  by_cases e : i = n
  · subst e; simp
  · rw [if_neg e, if_neg e]

set_option maxRecDepth 100000 in
set_option maxHeartbeats 4000000 in
theorem l3Mark_any (inp : Int) (al aa ab : Option Addr) (cl ca cb : Nat) (ls : List (Int × Bool)) (xs : List (Int × Int)) (bs : List Int) (b M F : Nat) (h0 : 0 ≤ inp) (h1 : inp ≤ 8) (h2 : ls.length ≤ 8) (h3 : xs.length ≤ 40) (hF : (F : Int) = 1 + inp + ls.length) (hM : M = F + xs.length)
    (hA : Ahead F xs) (hP : ∀ p ∈ xs, (0 ≤ p.1 ∧ p.1 ≤ 1000) ∧ (0 ≤ p.2 ∧ p.2 ≤ 1000)) (hab : ∀ k off, aa = some ⟨k, off, none⟩ → k ≠ b) :
    ∀ (n : Nat) (lit : Int) (N : Nat) (S : Nat → Bool) (w : World), lit / 2 = (n : Int) → 0 ≤ lit → lit ≤ 1000 → n < M → n < N → ClosedB F xs N S → IsAnds w (.slice aa xs.length ca) xs → w.rowIs b 4 M (setF S) →
      Calls Try.prog 69 #[.agg #[.int .i64 inp, .slice al ls.length cl, .slice aa xs.length ca, .slice ab bs.length cb], .slice (some ⟨b, 0, none⟩) M M, .int .i64 lit] w fun e w' => e = .returned (.tuple #[]) ∧ ∃ S', MarkPost F xs S n N S' ∧ w'.rowIs b 4 M (setF S') ∧ Chg (· = b) w w' := by
  intro n
  induction n using Nat.strongRecOn with
  | ind n ih =>
  intro lit N S w hn hl0 hl1 hnM hnN hcl hands hrow
  have HIH : Hid (∀ m < n, ∀ (lit : Int) (N : Nat) (S : Nat → Bool) (w : World), lit / 2 = (m : Int) → 0 ≤ lit → lit ≤ 1000 → m < M → m < N → ClosedB F xs N S → IsAnds w (.slice aa xs.length ca) xs → w.rowIs b 4 M (setF S) →
      Calls Try.prog 69 #[.agg #[.int .i64 inp, .slice al ls.length cl, .slice aa xs.length ca, .slice ab bs.length cb], .slice (some ⟨b, 0, none⟩) M M, .int .i64 lit] w fun e w' => e = .returned (.tuple #[]) ∧ ∃ S', MarkPost F xs S m N S' ∧ w'.rowIs b 4 M (setF S') ∧ Chg (· = b) w w') := ih
  have HCL : Hid (ClosedB F xs N S) := hcl
  have HAN : Hid (IsAnds w (.slice aa xs.length ca) xs) := hands
  have HRW : Hid (w.rowIs b 4 M (setF S)) := hrow
  have hbl : b < w.heap.size := hrow.lt
  have hM100 : M ≤ 100 := by omega
  have hcell0 := (hrow.of_block (((belOne w (.cells #[.int .i64 inp, .slice al ls.length cl, .slice aa xs.length ca, .slice ab bs.length cb] 33)).block b hbl))).cell hnM
  have hfz := (hrow.of_block (((belOne w (.cells #[.int .i64 inp, .slice al ls.length cl, .slice aa xs.length ca, .slice ab bs.length cb] 33)).block b hbl))).frozen n
  have hcell : (w.alloc (.cells #[.int .i64 inp, .slice al ls.length cl, .slice aa xs.length ca, .slice ab bs.length cb] 33)).cell? ⟨b, n, none⟩ = some (.bool (S n)) := hcell0
  clear hcell0
  have HFF : Hid ((F : Int) = 1 + inp + ls.length) := hF
  have HMM : Hid (M = F + xs.length) := hM
  have HN : Hid (lit / 2 = (n : Int)) := hn
  have hdiv : lit.tdiv 2 = (n : Int) := by rw [← hn]; exact Int.tdiv_eq_ediv_of_nonneg hl0
  obtain ⟨s, hs⟩ : ∃ s, S n = s := ⟨_, rfl⟩
  have HS : Hid (S n = s) := hs
  rw [hs] at hcell
  have HA : Hid (Ahead F xs) := hA
  have HP : Hid (∀ p ∈ xs, (0 ≤ p.1 ∧ p.1 ≤ 1000) ∧ (0 ≤ p.2 ∧ p.2 ≤ 1000)) := hP
  have HAB : Hid (∀ k off, aa = some ⟨k, off, none⟩ → k ≠ b) := hab
  clear ih hcl hands hrow hs hn hA hP hab hF hM
  cases s with
  | true =>
    go_enter Try.func69, Try.ntmps69
    go_wp2
    first | go_end0 | (simp only [Exit.inBlock, Exit.then]; refine bodyPost_ret (results_none rfl _ _ _) rfl ?_) | refine bodyPost_ret (results_none rfl _ _ _) rfl ?_
    exact ⟨rfl, S, MarkPost.there HCL.out HS.out, HRW.out.of_block ((belOne w _).block b hbl), Chg.of_below (belOne _ _)⟩
  | false =>
    have hsz : (w.setCell ⟨b, n, none⟩ (.bool true)).heap.size = w.heap.size := by simp
    have HF1 : Hid (Four ((w.setCell ⟨b, n, none⟩ (.bool true)).alloc (.cells #[.int .i64 inp, .slice al ls.length cl, .slice aa xs.length ca, .slice ab bs.length cb] 33)) w.heap.size (.int .i64 inp) (.slice al ls.length cl) (.slice aa xs.length ca) (.slice ab bs.length cb)) := by
      have h := Four.new (w.setCell ⟨b, n, none⟩ (.bool true)) (.int .i64 inp) (.slice al ls.length cl) (.slice aa xs.length ca) (.slice ab bs.length cb) 33
      rw [hsz] at h
      exact h
    have HR1 : Hid (((w.setCell ⟨b, n, none⟩ (.bool true)).alloc (.cells #[.int .i64 inp, .slice al ls.length cl, .slice aa xs.length ca, .slice ab bs.length cb] 33)).rowIs b 4 M (setF (setS S n))) := (setF_set HRW.out).of_block ((belOne _ _).block b (by rw [hsz]; exact hbl))
    have HC1 : Hid (Chg (· = b) w ((w.setCell ⟨b, n, none⟩ (.bool true)).alloc (.cells #[.int .i64 inp, .slice al ls.length cl, .slice aa xs.length ca, .slice ab bs.length cb] 33))) := (Chg.set _ _ _ _).trans (Chg.of_below (belOne _ _))
    have c0 := HF1.out.c0
    have c1 := HF1.out.c1
    have c2 := HF1.out.c2
    have c3 := HF1.out.c3
    clear hsz
    go_enter Try.func69, Try.ntmps69
    go_wp2_with fail
    refine (l3First_any inp al aa ab ls.length cl xs.length ca bs.length cb _ h0 h1 h2).mono ?_
    rintro e w1 ⟨rfl, hb1⟩
    have HF2 : Hid (Four w1 w.heap.size (.int .i64 inp) (.slice al ls.length cl) (.slice aa xs.length ca) (.slice ab bs.length cb)) := HF1.out.below hb1
    have HR2 : Hid (w1.rowIs b 4 M (setF (setS S n))) := HR1.out.of_block (hb1.block b HR1.out.lt)
    have HC2 : Hid (Chg (· = b) w w1) := HC1.out.trans (Chg.of_below hb1)
    clear hb1 c0 c1 c2 c3 hcell hfz
    have c0 := HF2.out.c0
    have c1 := HF2.out.c1
    have c2 := HF2.out.c2
    have c3 := HF2.out.c3
    have c4 := HF2.out.lt
    by_cases hge : F ≤ n
    · have dg : decide (1 + inp + (ls.length : Int) ≤ (n : Int)) = true := by have := HFF.out; simp; omega
      obtain ⟨k, rfl⟩ : ∃ k, n = F + k := ⟨n - F, by omega⟩
      have hkl : k < xs.length := by have := HMM.out; omega
      have hA1 : IsAnds w1 (.slice aa xs.length ca) xs := HAN.out.chg HC2.out (fun g off e => HAB.out g off e)
      obtain ⟨ba, off, rfl, hbb, hx1, hx2⟩ : ∃ ba off, aa = some ⟨ba, off, none⟩ ∧ ba < w1.heap.size ∧ w1.cell? ⟨ba, off + k * 2, none⟩ = some (.int .i64 (xs.getD k (0, 0)).1) ∧ w1.cell? ⟨ba, off + k * 2 + 1, none⟩ = some (.int .i64 (xs.getD k (0, 0)).2) := by
        obtain ⟨ao', cap', he, h⟩ := hA1
        obtain ⟨ba, off, ha, hc⟩ := h (by intro e; subst e; simp at hkl)
        injection he with e1 e2 e3
        exact ⟨ba, off, e1.trans ha, cell_lt (hc k hkl).1, hc k hkl⟩
      have HA1 : Hid (IsAnds w1 (.slice (some ⟨ba, off, none⟩) xs.length ca) xs) := hA1
      have hmem : xs.getD k (0, 0) ∈ xs := by rw [List.getD, List.getElem?_eq_getElem hkl]; simp
      have hpq := HP.out _ hmem
      have hkids := HA.out (F + k) (by omega) (by omega)
      have HKA : Hid (kidA F xs (F + k) = ((xs.getD k (0, 0)).1 / 2).toNat) := by show kidA F xs (F + k) = _; unfold kidA; rw [show F + k - F = k by omega]
      have HKB : Hid (kidB F xs (F + k) = ((xs.getD k (0, 0)).2 / 2).toNat) := by show kidB F xs (F + k) = _; unfold kidB; rw [show F + k - F = k by omega]
      have HKI : Hid (kidA F xs (F + k) < F + k ∧ kidB F xs (F + k) < F + k) := hkids
      clear hA1 hmem hkids
      generalize xs.getD k (0, 0) = q at *
      obtain ⟨q1, q2⟩ := q
      have hx1 : w1.cell? ⟨ba, off + k * 2, none⟩ = some (.int .i64 q1) := hx1
      have hx2 : w1.cell? ⟨ba, off + k * 2 + 1, none⟩ = some (.int .i64 q2) := hx2
      have hFle : 1 + inp + (ls.length : Int) ≤ (F : Int) + (k : Int) := by have := HFF.out; omega
      have hwr : IntKind.i64.wrap ((F : Int) + (k : Int) - (1 + inp + (ls.length : Int))) = (k : Int) := by have := HFF.out; rw [IntKind.wrap_i64]; omega
      have HT : Hid (∀ W : World, Two (W.alloc (.cells #[.int .i64 q1, .int .i64 q2] 65)) W.heap.size (.int .i64 q1) (.int .i64 q2)) := fun W => Two.new W _ _ _
      go_wp2_with fail
      go_region_law (first
          | (go_simp; go_at_call 74; refine (l3First_any _ _ _ _ _ _ _ _ _ _ _ h0 h1 h2).mono ?_; rintro e w2 ⟨rfl, hbz⟩; have hA : Below (w1.drew.alloc (.cells #[.int .i64 0, .int .i64 0] 65)).heap.size (w1.drew.alloc (.cells #[.int .i64 0, .int .i64 0] 65)) w2 := hbz; have hAF := alloc_facts hA; have x0 : w2.cell? ⟨w1.heap.size, 0, none⟩ = some (.int .i64 0) := hAF.1; have x1 : w2.cell? ⟨w1.heap.size, 1, none⟩ = some (.int .i64 0) := hAF.2.1; have x2 : w2.frozen? ⟨w1.heap.size, 0, none⟩ = false := hAF.2.2.1; have x3 : w2.frozen? ⟨w1.heap.size, 1, none⟩ = false := hAF.2.2.2.1; have x4 : w1.heap.size < w2.heap.size := hAF.2.2.2.2; clear hAF; clear hA; have hB : Below w1.heap.size w1 w2 := (by first | exact hbz | exact undrew hbz | exact undrew (belNext (belOne _ _) hbz) | exact belNext (belOne _ _) hbz); have HBZ : Hid (Below w1.heap.size w1 w2) := hB; have z0 : Four w2 w.heap.size (.int .i64 inp) (.slice al ls.length cl) (.slice (some ⟨ba, off, none⟩) xs.length ca) (.slice ab bs.length cb) := HF2.out.below hB; have z1 := z0.c0; have z2 := z0.c1; have z3 := z0.c2; have z4 := z0.c3; have z5 := z0.lt; have y1 := (hB.cell (p := ⟨ba, off + k * 2, none⟩) hbb).trans hx1; have y2 := (hB.cell (p := ⟨ba, off + k * 2 + 1, none⟩) hbb).trans hx2; have y3 : ba < w2.heap.size := Nat.lt_of_lt_of_le hbb hB.size; clear hbz z0 hB)
          | (go_simp; go_at_call 74; refine (l3First_any _ _ _ _ _ _ _ _ _ _ _ h0 h1 h2).mono ?_; rintro e w2 ⟨rfl, hbz⟩; have hB : Below w1.heap.size w1 w2 := (by first | exact hbz | exact undrew hbz | exact undrew (belNext (belOne _ _) hbz) | exact belNext (belOne _ _) hbz); have HBZ : Hid (Below w1.heap.size w1 w2) := hB; have z0 : Four w2 w.heap.size (.int .i64 inp) (.slice al ls.length cl) (.slice (some ⟨ba, off, none⟩) xs.length ca) (.slice ab bs.length cb) := HF2.out.below hB; have z1 := z0.c0; have z2 := z0.c1; have z3 := z0.c2; have z4 := z0.c3; have z5 := z0.lt; have y1 := (hB.cell (p := ⟨ba, off + k * 2, none⟩) hbb).trans hx1; have y2 := (hB.cell (p := ⟨ba, off + k * 2 + 1, none⟩) hbb).trans hx2; have y3 : ba < w2.heap.size := Nat.lt_of_lt_of_le hbb hB.size; clear hbz z0 hB))
      all_goals
        first
          | (have hx := x4
             have HT3 := hideN (two_set x0 x1 x4 (.int .i64 q1) (.int .i64 q2))
             have HB3 := hideN ((HBZ.out.setCell (p := ⟨w1.heap.size, 0, none⟩) (Nat.le_refl _) (.int .i64 q1)).setCell (p := ⟨w1.heap.size, 1, none⟩) (Nat.le_refl _) (.int .i64 q2))
             have hB3 : w1.heap.size ≤ w1.heap.size := Nat.le_refl _
             clear hx x0 x1 x2 x3 x4)
          | (have HT3 := hideN (Two.new w2 (.int .i64 q1) (.int .i64 q2) 65)
             have HB3 := hideN (belNext HBZ.out (belOne w2 (.cells #[.int .i64 q1, .int .i64 q2] 65)))
             have hB3 : w1.heap.size ≤ w2.heap.size := HBZ.out.size)
        clear c0 c1 c2 c3 c4 z1 z2 z3 z4 z5 y1 y2 y3 hx1 hx2 hwr dg
        have HF3 := hideN (HF2.out.below HB3.out)
        have HR3 := hideN (HR2.out.of_block (HB3.out.block b HR2.out.lt))
        have HA3 := hideN (HA1.out.below HB3.out)
        have HC3 := hideN (HC2.out.trans (Chg.of_below HB3.out))
        have c0 := HF3.out.c0
        have c1 := HF3.out.c1
        have c2 := HF3.out.c2
        have c3 := HF3.out.c3
        have c4 := HF3.out.lt
        have t0 := HT3.out.c0
        have t1 := HT3.out.c1
        have t2 := HT3.out.lt
        have hq1 : 0 ≤ q1 ∧ q1 ≤ 1000 := hpq.1
        have hq2 : 0 ≤ q2 ∧ q2 ≤ 1000 := hpq.2
        have hka : q1 / 2 = ((kidA F xs (F + k) : Nat) : Int) := by rw [HKA.out]; show q1 / 2 = (((q1 / 2).toNat : Nat) : Int); omega
        have hkb : q2 / 2 = ((kidB F xs (F + k) : Nat) : Int) := by rw [HKB.out]; show q2 / 2 = (((q2 / 2).toNat : Nat) : Int); omega
        have HKA2 := hideN hka
        have HKB2 := hideN hkb
        clear hka hkb
        have HCS : Hid (ClosedB F xs (F + k) (setS S (F + k))) := HCL.out.set (by omega)
        go_wp2_with fail
        refine (HIH.out _ HKI.out.1 q1 (F + k) _ _ HKA2.out hq1.1 hq1.2 (by have := HKI.out.1; omega) HKI.out.1 HCS.out HA3.out HR3.out).mono ?_
        rintro e w5 ⟨rfl, S2, hp, hr5, hc5⟩
        have HP5 : Hid (MarkPost F xs (setS S (F + k)) (kidA F xs (F + k)) (F + k) S2) := hp
        have HR5 : Hid (w5.rowIs b 4 M (setF S2)) := hr5
        have hne1 : w.heap.size ≠ b := by omega
        have hb1 : b < w1.heap.size := HR2.out.lt
        have HF5 := hideN (hc5.four HF3.out (fun hk => hne1 hk))
        have HT5 := hideN (HT3.out.chg hc5 (fun hk => by have hk' : _ = b := hk; omega))
        have HA5 := hideN (HA3.out.chg hc5 (fun g off e => HAB.out g off e))
        have HC5 := hideN (HC3.out.trans hc5)
        clear hp hr5 hc5 c0 c1 c2 c3 c4 t0 t1 t2
        have c0 := HF5.out.c0
        have c1 := HF5.out.c1
        have c2 := HF5.out.c2
        have c3 := HF5.out.c3
        have c4 := HF5.out.lt
        have t0 := HT5.out.c0
        have t1 := HT5.out.c1
        have t2 := HT5.out.lt
        go_wp2_with fail
        refine (HIH.out _ HKI.out.2 q2 (F + k) _ _ HKB2.out hq2.1 hq2.2 (by have := HKI.out.2; omega) HKI.out.2 HP5.out.cb HA5.out HR5.out).mono ?_
        rintro e w6 ⟨rfl, S3, hp6, hr6, hc6⟩
        have HP6 : Hid (MarkPost F xs S2 (kidB F xs (F + k)) (F + k) S3) := hp6
        have HR6 : Hid (w6.rowIs b 4 M (setF S3)) := hr6
        have HC6 := hideN (HC5.out.trans hc6)
        clear hp6 hr6 hc6 c0 c1 c2 c3 c4 t0 t1 t2
        go_wp2
        go_end0
        exact ⟨rfl, S3, MarkPost.node HA.out HCL.out (by omega) (by omega) hnN HP5.out HP6.out, HR6.out, HC6.out⟩
    · have dg : decide (1 + inp + (ls.length : Int) ≤ (n : Int)) = false := by have := HFF.out; simp; omega
      go_wp2
      go_end0
      exact ⟨rfl, _, MarkPost.leaf HCL.out (fun h => hge h.1), HR2.out, HC2.out⟩

end Go.Proofs.Ytbdjdgamnnifjaa

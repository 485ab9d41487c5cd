/-
  The law FnExactBddOf: at every argument the program's BddOf answers as the model's, writes into no argument, and its answer owns its memory. No condition: every argument that can be read.
-/
import Derived.Test.YthknboefajbnkaaBdO
import Derived.Test.YthknboefajbnkaaBdK
import Derived.Test.YthknboefajbnkaaOpenN
import Derived.Lib.SmallJoins
import Derived.ChangeOld
import Derived.Deep.SlicePairs
import Derived.Deep.Grids
namespace Go.Proofs.Ythknboefajbnkaa
open Go.ChangeShapes Go.WideShapes Go.ChangeAt Go.RowKit Go.Deep Go.Joins
set_option linter.unusedVariables false

theorem ofNodes_le (vars : Int) (t : List Bool) : (ofNodes vars t).length ≤ 64 := by
  unfold ofNodes
  by_cases h : bddFits vars t.length = true
  · rw [if_pos h]
    have h2 := drawB_len vars.toNat 0 t []
    unfold bddFits at h
    simp only [Bool.and_eq_true, decide_eq_true_eq] at h
    have h3 : 2 ^ vars.toNat ≤ 2 ^ 6 := Nat.pow_le_pow_right (by decide) (by omega)
    simp at h2
    omega
  · rw [if_neg h]; simp

theorem tab_of_row {w : World} {b : Nat} {ms : List Bool} (h : w.rowIs b 4 ms.length (fun i => .bool (ms.getD i false))) : Tab w b 0 ms.length ms := ⟨Nat.le_refl _, fun i hi => by rw [Nat.zero_add]; exact h.cell hi⟩

/-- What stands while the law goes on: both answers. -/
structure OfSt (w V : World) (s5 s8 lo1 lo8 : Nat) (fv fr : Int) (aw ag : Option Addr) (n cw cg : Nat) (l : List Nd) : Prop where
  b5 : BlkD V s5 (.int .i64 fv) (.slice aw n cw) (.int .i64 fr)
  b8 : BlkD V s8 (.int .i64 fv) (.slice ag n cg) (.int .i64 fr)
  rw : V.ownsRow lo1 70 3 (.slice aw n cw) n (ndV l)
  rg : V.ownsRow lo8 70 3 (.slice ag n cg) n (ndV l)
  kw : ∀ k, (Value.slice aw n cw).ownBlock = some k → k < s5
  kg : ∀ k, (Value.slice ag n cg).ownBlock = some k → k < s8
  be : Below w.heap.size w V
theorem OfSt.below {w V V' : World} {s5 s8 lo1 lo8 : Nat} {fv fr : Int} {aw ag : Option Addr} {n cw cg : Nat} {l : List Nd} (h : OfSt w V s5 s8 lo1 lo8 fv fr aw ag n cw cg l) (hb : Below V.heap.size V V') : OfSt w V' s5 s8 lo1 lo8 fv fr aw ag n cw cg l :=
  ⟨h.b5.below hb, h.b8.below hb, row_below h.rw hb, row_below h.rg hb, h.kw, h.kg, belNext h.be hb⟩
theorem OfSt.chg {p : Nat → Prop} {w V V' : World} {s5 s8 lo1 lo8 : Nat} {fv fr : Int} {aw ag : Option Addr} {n cw cg : Nat} {l : List Nd} (h : OfSt w V s5 s8 lo1 lo8 fv fr aw ag n cw cg l) (hc : Chg p V V') (hp : ∀ k, p k → s5 < k ∧ k < lo8 ∧ w.heap.size ≤ k) (hs : s5 < s8 ∧ lo8 ≤ s8) : OfSt w V' s5 s8 lo1 lo8 fv fr aw ag n cw cg l :=
  ⟨(hc.block _ h.b5.lt (fun e => by have := hp _ e; omega)).trans h.b5, (hc.block _ h.b8.lt (fun e => by have := hp _ e; omega)).trans h.b8,
    row_of_block h.rw (fun k e => hc.block k (World.ownsRow.lt h.rw k e).2 (fun e2 => by have := hp _ e2; have := h.kw k e; omega)),
    row_of_block h.rg (fun k e => hc.block k (World.ownsRow.lt h.rg k e).2 (fun e2 => by have := hp _ e2; have := (World.ownsRow.lt h.rg k e).1; omega)), h.kw, h.kg,
    Chg.below h.be h.be.size hc (fun k e => (hp k e).2.2)⟩

/-- What stands behind the marks. -/
structure OfTt (w V : World) (s5 s8 lo1 : Nat) (fv fr : Int) (aw ag : Option Addr) (n cw cg : Nat) (l : List Nd) : Prop where
  b5 : BlkD V s5 (.int .i64 fv) (.slice aw n cw) (.int .i64 fr)
  b8 : BlkD V s8 (.int .i64 fv) (.slice ag n cg) (.int .i64 fr)
  rw : V.ownsRow lo1 70 3 (.slice aw n cw) n (ndV l)
  ig : IsNds V (.slice ag n cg) (markNd 1 n)
  be : Below w.heap.size w V
theorem OfTt.below {w V V' : World} {s5 s8 lo1 : Nat} {fv fr : Int} {aw ag : Option Addr} {n cw cg : Nat} {l : List Nd} (h : OfTt w V s5 s8 lo1 fv fr aw ag n cw cg l) (hb : Below V.heap.size V V') : OfTt w V' s5 s8 lo1 fv fr aw ag n cw cg l :=
  ⟨h.b5.below hb, h.b8.below hb, row_below h.rw hb, h.ig.below hb, belNext h.be hb⟩
theorem OfSt.marked {w V V' : World} {s5 s8 lo1 lo8 : Nat} {fv fr : Int} {aw ag : Option Addr} {n cw cg : Nat} {l : List Nd} (h : OfSt w V s5 s8 lo1 lo8 fv fr aw ag n cw cg l) (hc : Chg (fun k => (Value.slice ag n cg).ownBlock = some k) V V') (hi : IsNds V' (.slice ag n cg) (markNd 1 n)) (hs : s5 < lo8) (hw : w.heap.size ≤ lo8) : OfTt w V' s5 s8 lo1 fv fr aw ag n cw cg l :=
  ⟨(hc.block _ h.b5.lt (fun e => by have := (World.ownsRow.lt h.rg _ e).1; omega)).trans h.b5, (hc.block _ h.b8.lt (fun e => by have := h.kg _ e; omega)).trans h.b8,
    row_of_block h.rw (fun k e => hc.block k (World.ownsRow.lt h.rw k e).2 (fun e2 => by have := (World.ownsRow.lt h.rg _ e2).1; have := h.kw k e; omega)), hi,
    Chg.below h.be h.be.size hc (fun k e => by have := (World.ownsRow.lt h.rg _ e).1; omega)⟩

set_option maxRecDepth 100000 in
set_option maxHeartbeats 8000000 in
theorem fnExactBddOf_walk (vars : Int) (v : Value) (ms : List Bool) (w : World) (hv : IsBits w v ms) (hml : ms.length ≤ maxLen) :
    Calls Try.prog 3 #[.int .i64 vars, v] w fun e w' => e = .returned (.bool true) ∧ Below w.heap.size w w' := by
  unfold maxLen at hml
  have HV : Hid (∀ w', Below w.heap.size w w' → IsBits w' v ms) := fun w' h => hv.below h
  obtain ⟨aov, capv, rfl, _⟩ := hv
  by_cases hbig : ms.length ≤ 1048576
  case neg =>
    have d1 : decide ((1048576 : Int) < (ms.length : Int)) = true := by simp; omega
    go_enter Try.func3, Try.ntmps3
    go_wp2_with fail
    go_ret
    exact ⟨rfl, Below.refl _ _⟩
  have d1 : decide ((1048576 : Int) < (ms.length : Int)) = false := by simp; omega
  have HLE0 := hideN (ofNodes_le vars ms)
  obtain ⟨m, hm⟩ : ∃ m, ms.length = m := ⟨_, rfl⟩
  have HMM := hideN hm
  obtain ⟨fv, hfv⟩ : ∃ x, ofVars vars ms = x := ⟨_, rfl⟩
  obtain ⟨fr, hfr⟩ : ∃ x, ofRoot vars ms = x := ⟨_, rfl⟩
  obtain ⟨l, hfl⟩ : ∃ x, ofNodes vars ms = x := ⟨_, rfl⟩
  obtain ⟨f, hff⟩ : ∃ x, bddFits vars ms.length = x := ⟨_, rfl⟩
  obtain ⟨n, hnl⟩ : ∃ n, l.length = n := ⟨_, rfl⟩
  have hn64 : n ≤ 64 := by have := HLE0.out; rw [hfl, hnl] at this; exact this
  have HNL := hideN hnl
  have HTB : Hid (∀ W, Below w.heap.size w W → Calls Try.prog 15 #[.slice aov m capv] W fun e w' => e = .returned (.slice (some ⟨W.heap.size, 0, none⟩) m m) ∧ Below W.heap.size W w' ∧ w'.heap.size = W.heap.size + 1 ∧ w'.rowIs W.heap.size 4 m (fun i => .bool (ms.getD i false))) := fun W hW => by
    have h := toBoolS_any _ ms W (HV.out W hW) hbig
    rw [hm] at h
    exact h
  have HSB : Hid (∀ (W : World) b, W.rowIs b 4 m (fun i => .bool (ms.getD i false)) → Calls Try.prog 14 #[.int .i64 vars, .slice (some ⟨b, 0, none⟩) m m] W fun e w' => ∃ aa ca, e = .returned (.tuple #[.agg #[.int .i64 fv, .slice aa n ca, .int .i64 fr], .bool f]) ∧ w'.ownsRow W.heap.size 70 3 (.slice aa n ca) n (ndV l) ∧ Below W.heap.size W w') := fun W b h => by
    have hlt := h.lt
    rw [← hm] at h ⊢
    refine (specBddOf_any vars b 0 _ _ ms W rfl hbig (tab_of_row h) hlt).mono ?_
    rintro e w' ⟨aa, n', ca, rfl, h1, h2, h3⟩
    rw [hfl] at h1 h2
    have : n' = n := h1.symm.trans hnl
    subst this
    exact ⟨aa, ca, by rw [hfv, hfr, hff], h2, h3⟩
  have HIB : Hid (∀ (W : World) b, W.rowIs b 4 m (fun i => .bool (ms.getD i false)) → Calls Try.prog 16 #[.int .i64 vars, .slice (some ⟨b, 0, none⟩) m m] W fun e w' => ∃ aa ca, e = .returned (.tuple #[.agg #[.int .i64 fv, .slice aa n ca, .int .i64 fr], .bool f]) ∧ w'.ownsRow W.heap.size 70 3 (.slice aa n ca) n (ndV l) ∧ Below W.heap.size W w') := fun W b h => by
    have hlt := h.lt
    rw [← hm] at h ⊢
    refine (implBddOf_any vars b 0 _ _ ms W rfl hbig (tab_of_row h) hlt).mono ?_
    rintro e w' ⟨aa, n', ca, rfl, h1, h2, h3⟩
    rw [hfl] at h1 h2
    have : n' = n := h1.symm.trans hnl
    subst this
    exact ⟨aa, ca, by rw [hfv, hfr, hff], h2, h3⟩
  have HEQ : Hid (∀ (W : World) (a1 a2 : Option Addr) (c1 c2 lo1 lo2 : Nat), W.ownsRow lo1 70 3 (.slice a1 n c1) n (ndV l) → W.ownsRow lo2 70 3 (.slice a2 n c2) n (ndV l) → Calls Try.prog 17 #[.agg #[.int .i64 fv, .slice a1 n c1, .int .i64 fr], .agg #[.int .i64 fv, .slice a2 n c2, .int .i64 fr]] W fun e w' => e = .returned (.bool true) ∧ Below W.heap.size W w') := fun W a1 a2 c1 c2 lo1 lo2 h1 h2 =>
    eqBdd_same fv fr a1 a2 n c1 c2 l W (isNds_row h1 HNL.out) (isNds_row h2 HNL.out) (by rw [hnl]; omega)
  have HEB : Hid (∀ (W : World) b b2, W.rowIs b 4 m (fun i => .bool (ms.getD i false)) → W.rowIs b2 4 m (fun i => .bool (ms.getD i false)) → Calls Try.prog 18 #[.slice (some ⟨b, 0, none⟩) m m, .slice (some ⟨b2, 0, none⟩) m m] W fun e w' => e = .returned (.bool true) ∧ ∃ n, w' = W.drewN n) := fun W b b2 h1 h2 => by
    rw [← hm] at h1 h2 ⊢
    exact eqBoolS_same _ _ ms W (IsBits.of_row (Nat.le_refl _) h1 (fun i _ => rfl)) (IsBits.of_row (Nat.le_refl _) h2 (fun i _ => rfl)) hml
  have hfe : (f == f) = true := by simp
  rw [hm] at hbig d1 hml ⊢
  clear hm hfv hfr hfl hff hnl HLE0 hml
  go_enter Try.func3, Try.ntmps3
  go_wp2_with fail
  refine (HTB.out _ (Below.refl _ _)).mono ?_
  rintro e w1 ⟨rfl, hb1, hsz1, hr1⟩
  go_wp2_with fail
  refine (HSB.out w1 w.heap.size hr1).mono ?_
  rintro e w2 ⟨aw, cw, rfl, hrw, hb2⟩
  have HB2 : Hid (Below w.heap.size w w2) := belNext hb1 hb2
  have HRW := hideN hrw
  have hs12 : w.heap.size ≤ w1.heap.size ∧ w1.heap.size ≤ w2.heap.size := ⟨hb1.size, hb2.size⟩
  have HS12 := hideN hs12
  clear hb1 hsz1 hr1 hrw hb2 hs12
  go_wp2_with fail
  obtain ⟨W3, hW3⟩ : ∃ W3, W3 = w2.alloc (.cells #[.int .i64 fv, .slice aw n cw, .int .i64 fr] 25) := ⟨_, rfl⟩
  rw [← hW3]
  have HB3 : Hid (Below w.heap.size w W3) := by rw [hW3]; exact belNext HB2.out (belOne _ _)
  have HK5 : Hid (BlkD W3 w2.heap.size (.int .i64 fv) (.slice aw n cw) (.int .i64 fr)) := by rw [hW3]; exact BlkD.new _ _ _ _
  have HRW3 : Hid (W3.ownsRow w1.heap.size 70 3 (.slice aw n cw) n (ndV l)) := by rw [hW3]; exact row_below HRW.out (belOne _ _)
  have HS3 : Hid (W3.heap.size = w2.heap.size + 1) := by show _ = _; rw [hW3]; simp
  have HKW : Hid (∀ k, (Value.slice aw n cw).ownBlock = some k → k < w2.heap.size) := fun k e => (World.ownsRow.lt HRW.out k e).2
  clear hW3
  refine (HTB.out W3 HB3.out).mono ?_
  rintro e w4 ⟨rfl, hb4, hsz4, hr4⟩
  have HX4 := hideN hr4
  have HS4 := hideN hsz4
  have HB4 := hideN hb4
  clear hb4 hsz4 hr4
  go_wp2_with fail
  refine (HIB.out w4 W3.heap.size HX4.out).mono ?_
  rintro e w5 ⟨ag, cg, rfl, hrg, hb5⟩
  have HB5 := hideN hb5
  have HRG := hideN hrg
  have HK5w := hideN (HK5.out.below (belNext HB4.out hb5))
  have x0 := HK5w.out.c0
  have x1 := HK5w.out.c1
  have x2 := HK5w.out.c2
  have x3 := HK5w.out.lt
  clear hb5 hrg
  go_wp2_with fail
  obtain ⟨W6, hW6⟩ : ∃ W6, W6 = w5.alloc (.cells #[.int .i64 fv, .slice ag n cg, .int .i64 fr] 25) := ⟨_, rfl⟩
  rw [← hW6]
  have HB6 : Hid (Below w4.heap.size w4 W6) := by rw [hW6]; exact belNext HB5.out (belOne _ _)
  have HST6 : Hid (OfSt w W6 w2.heap.size w5.heap.size w1.heap.size w4.heap.size fv fr aw ag n cw cg l) := by
    have hb36 : Below W3.heap.size W3 W6 := belNext HB4.out HB6.out
    refine ⟨HK5.out.below hb36, by rw [hW6]; exact BlkD.new _ _ _ _, row_below HRW3.out hb36, by rw [hW6]; exact row_below HRG.out (belOne _ _), HKW.out, fun k e => (World.ownsRow.lt HRG.out k e).2, belNext HB3.out hb36⟩
  have HX6 : Hid (W6.rowIs W3.heap.size 4 m (fun i => .bool (ms.getD i false))) := HX4.out.of_block (HB6.out.block _ HX4.out.lt)
  have HOR : Hid (w.heap.size ≤ w2.heap.size ∧ w2.heap.size < W3.heap.size ∧ W3.heap.size < w4.heap.size ∧ w4.heap.size ≤ w5.heap.size) := ⟨by have := HS12.out; omega, by have := HS3.out; omega, by have := HS4.out; omega, HB5.out.size⟩
  clear hW6 HB5 HRG HX4 HB4 HS4 HS3 HRW3 HRW HK5
  refine (HEQ.out W6 ag aw cg cw _ _ HST6.out.rg HST6.out.rw).mono ?_
  rintro e w7 ⟨rfl, hb7⟩
  have HST7 := hideN (HST6.out.below hb7)
  have HX7 : Hid (w7.rowIs W3.heap.size 4 m (fun i => .bool (ms.getD i false))) := HX6.out.of_block (hb7.block _ HX6.out.lt)
  clear hb7 x0 x1 x2 x3 HK5w HST6 HX6
  go_wp2_with fail
  refine (HTB.out w7 HST7.out.be).mono ?_
  rintro e w8 ⟨rfl, hb8, hsz8, hr8⟩
  have HST8 := hideN (HST7.out.below hb8)
  have HX8 : Hid (w8.rowIs W3.heap.size 4 m (fun i => .bool (ms.getD i false))) := HX7.out.of_block (hb8.block _ HX7.out.lt)
  have HY8 := hideN hr8
  clear hb8 hsz8 hr8 HST7 HX7
  go_wp2_with fail
  refine (HEB.out w8 _ _ HX8.out HY8.out).mono ?_
  rintro e w9 ⟨rfl, q, rfl⟩
  have HST9 : Hid (OfSt w (w8.drewN q) w2.heap.size w5.heap.size w1.heap.size w4.heap.size fv fr aw ag n cw cg l) := HST8.out.below (below_drewN (Below.refl _ _) q)
  have HX9 : Hid ((w8.drewN q).rowIs W3.heap.size 4 m (fun i => .bool (ms.getD i false))) := HX8.out.of_block rfl
  clear HST8 HX8 HY8
  generalize w8.drewN q = W9 at *
  go_wp2_with fail
  refine (markBoolS_any W3.heap.size m m _ 1 W9 HX9.out (Nat.le_refl _) (by omega) (by omega) (by omega)).mono ?_
  rintro e w10 ⟨rfl, -, hc10⟩
  have HST10 := hideN (HST9.out.chg hc10 (fun k e => by have := HOR.out; omega) (by have := HOR.out; omega))
  clear hc10 HST9 HX9
  have k10 : decide ((1 : Int) + (m : Int) < 0) = false := by simp; omega
  have x0 := HST10.out.b5.c0
  have x1 := HST10.out.b5.c1
  have x2 := HST10.out.b5.c2
  have x3 := HST10.out.b5.lt
  have y0 := HST10.out.b8.c0
  have y1 := HST10.out.b8.c1
  have y2 := HST10.out.b8.c2
  have y3 := HST10.out.b8.lt
  go_wp2_with fail
  refine (HEQ.out w10 ag aw cg cw _ _ HST10.out.rg HST10.out.rw).mono ?_
  rintro e w11 ⟨rfl, hb11⟩
  have HST11 := hideN (HST10.out.below hb11)
  clear hb11 x0 x1 x2 x3 y0 y1 y2 y3 HST10 k10
  have y0 := HST11.out.b8.c0
  have y1 := HST11.out.b8.c1
  have y2 := HST11.out.b8.c2
  have y3 := HST11.out.b8.lt
  go_wp2_with fail
  refine (markBdd_any fv fr _ ag n cg _ w11 HST11.out.rg (by omega)).mono ?_
  rintro e w12 ⟨rfl, hi12, hc12⟩
  have HTT := hideN (HST11.out.marked hc12 hi12 (by have := HOR.out; omega) (by have := HOR.out; omega))
  clear hi12 hc12 HST11 y0 y1 y2 y3
  have y0 := HTT.out.b8.c0
  have y1 := HTT.out.b8.c1
  have y2 := HTT.out.b8.c2
  have y3 := HTT.out.b8.lt
  go_wp2_with fail
  refine (heldBdd_any fv fr ag n cg w12 HTT.out.ig (by omega)).mono ?_
  rintro e w13 ⟨rfl, hb13⟩
  have HTT13 := hideN (HTT.out.below hb13)
  have k13 : decide ((1 : Int) + 3 * (n : Int) < 0) = false := by simp; omega
  clear hb13 HTT y0 y1 y2 y3
  go_wp2_with fail
  refine (HTB.out w13 HTT13.out.be).mono ?_
  rintro e w14 ⟨rfl, hb14, hsz14, hr14⟩
  have HTT14 := hideN (HTT13.out.below hb14)
  have HY14 := hideN hr14
  clear hb14 hsz14 hr14 HTT13
  go_wp2_with fail
  refine (HIB.out w14 _ HY14.out).mono ?_
  rintro e w15 ⟨ah, ch, rfl, hrh, hb15⟩
  have HTT15 := hideN (HTT14.out.below hb15)
  have HRH := hideN hrh
  have x0 := HTT15.out.b5.c0
  have x1 := HTT15.out.b5.c1
  have x2 := HTT15.out.b5.c2
  have x3 := HTT15.out.b5.lt
  clear hb15 hrh HTT14 HY14
  go_wp2_with fail
  obtain ⟨W16, hW16⟩ : ∃ W16, W16 = w15.alloc (.cells #[.int .i64 fv, .slice ah n ch, .int .i64 fr] 25) := ⟨_, rfl⟩
  try rw [← hW16]
  have HTT16 : Hid (OfTt w W16 w2.heap.size w5.heap.size w1.heap.size fv fr aw ag n cw cg l) := by rw [hW16]; exact HTT15.out.below (belOne _ _)
  have HRH16 : Hid (W16.ownsRow w14.heap.size 70 3 (.slice ah n ch) n (ndV l)) := by rw [hW16]; exact row_below HRH.out (belOne _ _)
  have HK16 : Hid (BlkD W16 w15.heap.size (.int .i64 fv) (.slice ah n ch) (.int .i64 fr)) := by rw [hW16]; exact BlkD.new _ _ _ _
  clear hW16 HTT15 HRH x0 x1 x2 x3
  refine (HEQ.out W16 ah aw ch cw _ _ HRH16.out HTT16.out.rw).mono ?_
  rintro e w17 ⟨rfl, hb17⟩
  have HTT17 := hideN (HTT16.out.below hb17)
  clear hb17 HTT16 HRH16 HK16
  have y0 := HTT17.out.b8.c0
  have y1 := HTT17.out.b8.c1
  have y2 := HTT17.out.b8.c2
  have y3 := HTT17.out.b8.lt
  go_wp2_with fail
  refine (heldBdd_any fv fr ag n cg w17 HTT17.out.ig (by omega)).mono ?_
  rintro e w18 ⟨rfl, hb18⟩
  have HBE : Hid (Below w.heap.size w w18) := belNext HTT17.out.be hb18
  clear hb18 HTT17 y0 y1 y2 y3
  go_wp2_with fail
  go_ret
  exact ⟨rfl, HBE.out⟩

set_option maxRecDepth 100000 in
theorem fnExactBddOf_lifted (os : Os) (started : os.Started) (H : Type) (enc : TypeId × Value → H) :
    ReturnsInHanded {} Try.checked os 3 .any (Rows.fnExactBddOfSpec.pre6 enc Try.prog Try.f3 Rows.fnExactBddOfRow.domain false) (Rows.fnExactBddOfSpec.post enc Try.prog Try.f3 false true false false) := by
  refine returnsInHanded_of_change (C := Try.checked) own started (by kernel_rfl) Try.func3
    (ChangeSpec.witness6 (enc := enc) (C := Try.checked) false ⟨#[], #[.int .i64 0, .slice none 0 0], []⟩ 8 (by kernel_rfl) (by kernel_rfl) (by kernel_rfl) (by kernel_rfl)) ?_
  intro W base args ds gs before hval0 hW hcnd _
  have hval : ∀ (j : Nat) t v, Try.f3.params[j]? = some t → args[j]? = some v → Value.okWide Try.prog W .any base t v := hval0
  have hW' := hW
  obtain ⟨p, q, hA0, hV, rfl, hfz, hnd⟩ := hW
  have hA : DataW.TrodAll enc Try.prog W 0 (fun _ => true) true Try.f3.params.toList args.toList ds p := hA0
  rw [Try.params3] at hA hval
  obtain ⟨v0, vs0, d0, ds0, p0, q0, hargs, rfl, rfl, h0, r0⟩ := trodAll_cons hA
  obtain ⟨v1, vs1, d1, ds1, p1, q1, rfl, rfl, rfl, h1, r1⟩ := trodAll_cons r0
  obtain ⟨rfl, rfl, rfl⟩ := trodAll_nil r1
  obtain rfl : args = #[v0, v1] := by cases args; simp_all
  obtain ⟨rfl, rfl⟩ := trodVars_none hV
  have k0 := h0
  have k1 := h1
  have lt0 : ∀ x ∈ p0, x.block < W.heap.size := by obtain ⟨m, hm⟩ := k0; exact DataW.trod_lt m _ _ _ hm
  have lt1 : ∀ x ∈ p1, x.block < W.heap.size := by obtain ⟨m, hm⟩ := k1; exact DataW.trod_lt m _ _ _ hm
  obtain ⟨vars, rfl⟩ := okWide_int Try.underlying3 (hval 0 3 v0 rfl rfl)
  obtain ⟨ao1, len1, cap1, rfl⟩ := okWide_slice Try.underlying22 (hval 1 22 v1 rfl rfl)
  obtain ⟨fuel1, hf1⟩ := h1
  obtain ⟨ms, hms, hml⟩ := isBits_of_trod (by simpa [Value.cells] using hf1)
  clear hA0 hval0
  refine (fnExactBddOf_walk vars _ ms W hms hml).mono fun e W' ⟨he, bel⟩ => ?_
  subst he
  exact ⟨_, rfl, _, _, _, [], _, [], hW', trodAll_mk1 (shut_bool Try.underlying4 _),
    (trodAll_cons_mk (Below.trod laidOutN (by kernel_rfl) (of_decide_eq_true (by kernel_rfl)) k0 bel lt0) (trodAll_cons_mk (Below.trod laidOutN (by kernel_rfl) (of_decide_eq_true (by kernel_rfl)) k1 bel lt1) trodAll_mk0)), rfl, bel.frame _, fun h => by cases h⟩

theorem fnExactBddOf_holds : Rows.FnExactBddOfSaid :=
  OpenClaim.holds_of_wide 3 Try.f3 rfl rfl rfl rfl rfl rfl rfl ⟨rfl, rfl, rfl, rfl, rfl⟩ rfl rfl rfl rfl rfl (by kernel_rfl) Try.func3 (by kernel_rfl)
    (of_decide_eq_true (by kernel_rfl)) (by unfold Func.isWrapper; first | (rw [if_pos (by decide +kernel)]; kernel_rfl) | (rw [if_neg (by decide +kernel)]; exact ⟨rfl, rfl⟩))
    (fun os started H enc _ => fnExactBddOf_lifted os started H enc)

end Go.Proofs.Ythknboefajbnkaa

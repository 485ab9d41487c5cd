/-
  Clauses of a circuit: the program's AigCnf.
-/
import Derived.Test.YtbdjdgamnnifjaaCnfF
import Derived.Test.YtbdjdgamnnifjaaNeed6
namespace Go.Proofs.Ytbdjdgamnnifjaa
open Go.RowKit Go.Deep Go.Shelf
set_option linter.unusedVariables false

attribute [local go_sem] Oper.semAt_some

theorem keeps_trans {A B C : World} (h : KeepsOthers A B) (k : KeepsOthers B C) : KeepsOthers A C := ⟨Nat.le_trans h.1 k.1, fun i o hi ho => k.2 i o (h.2 i o hi ho) ho⟩

/-- What a round may turn. -/
theorem Cst.keeps {w wr w1 w2 : World} {Q C lo Bn n cap : Nat} {vars : Int} {vc : Value} {ao : Option Addr} {css : List (List Int)} {c0 c1 c2 c3 : Value} (h : Cst w wr Q C lo vars vc css c0 c1 c2 c3) (hb : Below wr.heap.size wr w1) (hc : Chg (fun k => vc.ownBlock = some k) w1 w2) (hB : Bn < lo) (hBC : Bn ≠ C) (hBw : Bn < wr.heap.size) :
    KeepsOthers wr (w2.setCell ⟨C, 1, none⟩ (.slice ao n cap)) ∧ KpA w.heap.size Bn wr (w2.setCell ⟨C, 1, none⟩ (.slice ao n cap)) := by
  have h1 := h.below hb
  have hk := h1.blk
  have hwq := h1.wq
  have hqc := h1.qc
  have hsz : (w2.setCell ⟨C, 1, none⟩ (.slice ao n cap)).heap.size = w2.heap.size := by simp
  refine ⟨⟨by rw [hsz]; exact Nat.le_trans hb.size hc.size, fun k o hko ho => ?_⟩, ?_, ?_⟩
  · have hk1 : w1.heap[k]? = some o := (hb.block k (Array.getElem?_eq_some_iff.1 hko).1).trans hko
    have hne : ¬ vc.ownBlock = some k := fun e => by
      obtain ⟨vs, g1, _⟩ := h1.g
      rcases g1.2 with ⟨h5, _⟩ | ⟨g, cap, cur, h5, _, hh, _⟩
      · rw [h5] at e; cases e
      · rw [h5] at e
        have e' : g = k := Option.some.inj e
        subst e'
        rw [hh] at hk1
        cases hk1
        cases ho
    have hkC : k ≠ C := fun e => by
      subst e
      have := h1.c
      unfold BlkC at this
      rw [this] at hk1
      cases hk1
      cases ho
    exact (blk_setCell_other _ _ _ _ hkC).trans ((hc.block k (Array.getElem?_eq_some_iff.1 hk1).1 hne).trans hk1)
  · exact (Chg.below (hb.mono h.bel.size) h1.bel.size hc (fun k e => by have := hk _ e; have := h1.cl; omega)).setCell (p := ⟨C, 1, none⟩) (by show w.heap.size ≤ C; omega) _
  · have h2 := hb.block Bn hBw
    exact (blk_setCell_other _ _ _ _ hBC).trans ((hc.block Bn (by have := hb.size; omega) (fun e => by have := (hk _ e).1; omega)).trans h2)

theorem grid_kept {A B : World} {lo hi : Nat} {v : Value} {n : Nat} {f : Nat → List Int} {row : Option Nat} (h : GridF A lo hi v n f) (hg : A.grownBy B row) (hr : ∀ r, row = some r → ∃ o : Obj, A.heap[r]? = some o ∧ o.isCells = false) : GridF B lo hi v n f := by
  obtain ⟨vs, h1, h2, h3, h4⟩ := h
  refine ⟨vs, ⟨h1.1, ?_⟩, h2, fun i hi => ?_, h4⟩
  · rcases h1.2 with h | ⟨g, cap, cur, hv, hgb, hh, r⟩
    · exact .inl h
    · exact .inr ⟨g, cap, cur, hv, hgb, kept_cells hg hr hh, r⟩
  · obtain ⟨rv, h5, h6, h7⟩ := h3 i hi
    refine ⟨rv, h5, ⟨h6.1, ?_⟩, h7⟩
    rcases h6.2 with h | ⟨g, cap, cur, hv, hgb, hh, r⟩
    · exact .inl h
    · exact .inr ⟨g, cap, cur, hv, hgb, kept_cells hg hr hh, r⟩

set_option maxRecDepth 100000 in
set_option maxHeartbeats 8000000 in
theorem implAigCnf_any (inp : Int) (al aa ab : Option Addr) (cl ca cb : Nat) (ls : List (Int × Bool)) (xs : List (Int × Int)) (bs : List Int) (w : World) (hC : IsCir w al aa ab cl ca cb ls xs bs) (h64 : ∀ p ∈ xs, I64 p.1 ∧ I64 p.2) :
    Calls Try.prog 34 #[.agg #[.int .i64 inp, .slice al ls.length cl, .slice aa xs.length ca, .slice ab bs.length cb]] w (CnfPostA inp ls xs bs w) := by
  have HC : Hid (∀ w', Below w.heap.size w w' → IsCir w' al aa ab cl ca cb ls xs bs) := fun w' h => hC.below h
  have HC0 : Hid (IsCir w al aa ab cl ca cb ls xs bs) := hC
  have H64 : Hid (∀ p ∈ xs, I64 p.1 ∧ I64 p.2) := h64
  obtain ⟨o, ho⟩ : ∃ o, okC inp ls xs bs = o := ⟨_, rfl⟩
  have HO : Hid (okC inp ls xs bs = o) := ho
  obtain ⟨W1, hW1⟩ : ∃ W1, W1 = (w.alloc (.cells #[.int .i64 inp, .slice al ls.length cl, .slice aa xs.length ca, .slice ab bs.length cb] 33)).alloc (.cells #[.int .i64 0, .slice none 0 0] 55) := ⟨_, rfl⟩
  have HA1 : Hid (Own4 W1 w.heap.size 33 (.int .i64 inp) (.slice al ls.length cl) (.slice aa xs.length ca) (.slice ab bs.length cb)) := by rw [hW1]; exact (Own4.new _ _ _ _ _ _).below (belOne _ _)
  have HQ1 : Hid (BlkC W1 (w.heap.size + 1) (.int .i64 0) (.slice none 0 0)) := by
    rw [hW1]
    have h := BlkC.new (w.alloc (.cells #[.int .i64 inp, .slice al ls.length cl, .slice aa xs.length ca, .slice ab bs.length cb] 33)) (.int .i64 0) (.slice none 0 0)
    rw [World.size_alloc] at h
    exact h
  have HB1 : Hid (Below w.heap.size w W1) := by rw [hW1]; exact belNext (belOne _ _) (belOne _ _)
  have HW1 := hideN hW1
  clear hC h64 ho hW1
  refine (callsIn_wide (n := 8)).1 ?_
  refine callsIn_of_wp_marks Try.func34 rfl trivial ?_ rfl
  simp only [Try.ntmps34, List.size_toArray, List.length_cons, List.length_nil, Nat.reduceAdd, Nat.reduceSub, Array.replicate_succ, Array.replicate_zero, List.push_toArray, List.append_toArray, List.nil_append, List.cons_append]
  refine wpIn_wide.2 ?_
  go_wp2_with fail
  rw [← HW1.out]
  refine (implAigOk_any inp al aa ab cl ca cb ls xs bs _ (HC.out _ HB1.out)).mono ?_
  rintro e w3 ⟨he, hb3⟩
  rw [HO.out] at he
  subst he
  have HB3 : Hid (Below w.heap.size w w3) := belNext HB1.out hb3
  have HA3 := hideN (HA1.out.below hb3)
  have HQ3 := hideN (HQ1.out.below hb3)
  clear hb3
  cases o with
  | false =>
    have m0 := HQ3.out.c0
    have m1 := HQ3.out.c1
    have m2 := HQ3.out.lt
    have m3 := HQ3.out.f 0
    have m4 := HQ3.out.f 1
    have hqq := (HQ3.out.set0 (.int .i64 0)).set1 (.slice none 0 0)
    have u0 := hqq.c0
    have u1 := hqq.c1
    have HBE : Hid (Below w.heap.size w ((w3.setCell ⟨w.heap.size + 1, 0, none⟩ (.int .i64 0)).setCell ⟨w.heap.size + 1, 1, none⟩ (.slice none 0 0))) := (HB3.out.setCell (p := ⟨w.heap.size + 1, 0, none⟩) (by show _ ≤ w.heap.size + 1; omega) _).setCell (p := ⟨w.heap.size + 1, 1, none⟩) (by show _ ≤ w.heap.size + 1; omega) _
    clear hqq
    go_wp2
    refine ⟨.agg #[.int .i64 0, .slice none 0 0], by simp [results, Try.f34, go_sem, u0, u1], none, 0, 0, ?_, ?_, ?_, HBE.out⟩
    · unfold cnfVars; rw [if_neg (by rw [HO.out]; simp)]
    · unfold cnfCss; rw [if_neg (by rw [HO.out]; simp)]; rfl
    · unfold cnfCss; rw [if_neg (by rw [HO.out]; simp)]; exact grid_none _ _ _ _
  | true =>
    have hsz : 0 ≤ inp ∧ inp ≤ 8 ∧ ls.length ≤ 8 ∧ xs.length ≤ 40 ∧ bs.length ≤ 4 := by
      have h := HO.out
      unfold okC sizesB at h
      simp only [Bool.and_eq_true, decide_eq_true_eq] at h
      exact h.1
    obtain ⟨h0, h8, hl8, hx40, hb4⟩ := hsz
    have c0 := HA3.out.four.c0
    have c1 := HA3.out.four.c1
    have c2 := HA3.out.four.c2
    have c3 := HA3.out.four.c3
    have c4 := HA3.out.lt
    go_wp2_with fail
    refine (nodesOf_any _ _ _ _ _ _ _ _ _ _ _ h0 h8 hl8 hx40).mono ?_
    rintro e w4 ⟨rfl, hb4'⟩
    obtain ⟨nn, hnn⟩ : ∃ nn, 1 + inp + (ls.length : Int) + (xs.length : Int) = nn := ⟨_, rfl⟩
    obtain ⟨vars, hvv⟩ : ∃ vars, inp + (ls.length : Int) + (xs.length : Int) = vars := ⟨_, rfl⟩
    have hvb0 : 0 ≤ vars := by omega
    have hvb1 : vars ≤ 100 := by omega
    have hwv2 : nn - 1 = vars := by omega
    have HVV := hideN hvv
    rw [hnn]
    have HB4 : Hid (Below w.heap.size w w4) := belNext HB3.out hb4'
    have HA4 := hideN (HA3.out.below hb4')
    have HQ4 := hideN (HQ3.out.below hb4')
    clear hb4' c0 c1 c2 c3 c4 hnn hvv
    have hq4 := HQ4.out.lt
    have HA5 : Hid (Own4 (w4.alloc (.cells #[.int .i64 vars, .slice none 0 0] 55)) w.heap.size 33 (.int .i64 inp) (.slice al ls.length cl) (.slice aa xs.length ca) (.slice ab bs.length cb)) := HA4.out.below (belOne _ _)
    have c0 := HA5.out.four.c0
    have c1 := HA5.out.four.c1
    have c2 := HA5.out.four.c2
    have c3 := HA5.out.four.c3
    go_wp2_with (first | (go_at_call 55; refine (andNodes_any _ _ _ _ _ _ _ _ _ _ _).mono ?_; rintro e w' ⟨rfl, rfl⟩))
    have hS0 : Cst w ((w4.alloc (.cells #[.int .i64 vars, .slice none 0 0] 55)).alloc (.cells #[.int .i64 inp, .slice al ls.length cl, .slice aa xs.length ca, .slice ab bs.length cb] 33)) (w.heap.size + 1) w4.heap.size (w4.heap.size + 2) vars (.slice none 0 0) [] (.int .i64 inp) (.slice al ls.length cl) (.slice aa xs.length ca) (.slice ab bs.length cb) :=
      ⟨(BlkC.new _ _ _).below (belOne _ _), grid_none _ _ _ _, (HQ4.out.below (belOne _ _)).below (belOne _ _), HA5.out.below (belOne _ _), belNext (belNext HB4.out (belOne _ _)) (belOne _ _), by omega, hq4, by omega, by simp⟩
    have hN0 : Own4 ((w4.alloc (.cells #[.int .i64 vars, .slice none 0 0] 55)).alloc (.cells #[.int .i64 inp, .slice al ls.length cl, .slice aa xs.length ca, .slice ab bs.length cb] 33)) (w4.heap.size + 1) 33 (.int .i64 inp) (.slice al ls.length cl) (.slice aa xs.length ca) (.slice ab bs.length cb) := by
      have h := Own4.new (w4.alloc (.cells #[.int .i64 vars, .slice none 0 0] 55)) 33 (.int .i64 inp) (.slice al ls.length cl) (.slice aa xs.length ca) (.slice ab bs.length cb)
      rw [World.size_alloc] at h
      exact h
    have hs0 : ((w4.alloc (.cells #[.int .i64 vars, .slice none 0 0] 55)).alloc (.cells #[.int .i64 inp, .slice al ls.length cl, .slice aa xs.length ca, .slice ab bs.length cb] 33)).heap.size = w4.heap.size + 2 := by simp
    generalize ((w4.alloc (.cells #[.int .i64 vars, .slice none 0 0] 55)).alloc (.cells #[.int .i64 inp, .slice al ls.length cl, .slice aa xs.length ca, .slice ab bs.length cb] 33)) = W0 at *
    have HS0 := hideN hs0
    have HCS0 := hideN hS0
    clear c0 c1 c2 c3 hwv2
    refine (wpIn_wide (n := 8)).1 ?_
    refine rangeAll (by omega) (gf := 96) (lb := #[.pointer (some ⟨w4.heap.size + 1, 0, none⟩)]) rfl (enters_of Try.func96 (by kernel_rfl) rfl)
      (andNodes_gives 7 (by omega) (w4.heap.size + 1) w.heap.size inp al aa ab ls.length cl ca bs.length cb xs h0 h8 hl8 hx40 W0 hS0.bel.size hN0 (HC.out _ hS0.bel).isA (fun b off e => (HC0.out.inA b off e))) KpA.trans (KpA.put hS0.bel.size (by omega)) (fun _ => rfl)
      (fun k W => ∃ ao n cap, Hid ((clsF (1 + inp + ls.length) xs k).length = n) ∧ Cst w W (w.heap.size + 1) w4.heap.size (w4.heap.size + 2) vars (.slice ao n cap) (clsF (1 + inp + ls.length) xs k) (.int .i64 inp) (.slice al ls.length cl) (.slice aa xs.length ca) (.slice ab bs.length cb) ∧ Own4 W (w4.heap.size + 1) 33 (.int .i64 inp) (.slice al ls.length cl) (.slice aa xs.length ca) (.slice ab bs.length cb))
      ?hI ⟨none, 0, 0, rfl, hS0, hN0⟩
      (fun x a' W => ∃ Bx, W0.heap.size ≤ Bx ∧ W.heap[Bx]? = some (.cells #[.int .i64 x.2.1, .int .i64 x.2.2] 65 (0, 0)) ∧ a' = { tmps := #[.agg #[.int .i64 inp, .slice al ls.length cl, .slice aa xs.length ca, .slice ab bs.length cb], .pointer (some ⟨w.heap.size, 0, none⟩), .pointer (some ⟨w.heap.size + 1, 0, none⟩), .pointer (some ⟨w4.heap.size, 0, none⟩), .int .i64 x.1, .pointer (some ⟨Bx, 0, none⟩), .agg #[.int .i64 inp, .slice al ls.length cl, .slice aa xs.length ca, .slice ab bs.length cb], .bool true, .bool false, undef, .agg #[.int .i64 inp, .slice al ls.length cl, .slice aa xs.length ca, .slice ab bs.length cb], .int .i64 nn, .int .i64 vars, .agg #[.int .i64 vars, .slice none 0 0], .agg #[.int .i64 inp, .slice al ls.length cl, .slice aa xs.length ca, .slice ab bs.length cb], .func (.func 96) #[] #[.pointer (some ⟨w4.heap.size + 1, 0, none⟩)], .int .i64 x.1, .agg #[.int .i64 x.2.1, .int .i64 x.2.2], undef, undef, undef, undef, undef, undef, undef, undef, undef, undef, undef], defers := [] })
      ?hAx ?assign ?body ?done
    case hI =>
      rintro k A B row ⟨ao, n, cap, hn, hS, hN⟩ hg hr
      have hb0 := hS0.bel.size
      refine ⟨ao, n, cap, hn, ⟨kept_cells hg (fun r e => (hr r e).2) hS.c, ?_, kept_cells hg (fun r e => (hr r e).2) hS.q, kept_cells hg (fun r e => (hr r e).2) hS.a, hS.bel.grown hg hS.bel.size (fun r e => by have := (hr r e).1; omega), hS.wq, hS.qc, hS.cl, Nat.le_trans hS.ll hg.size⟩, kept_cells hg (fun r e => (hr r e).2) hN⟩
      exact GridF.wide (grid_kept hS.g hg (fun r e => (hr r e).2)) (Nat.le_refl _) hg.size
    case hAx =>
      rintro x a' s A B row ⟨Bx, hBx, hT, he⟩ hg hr
      exact ⟨Bx, hBx, kept_cells hg (fun r e => (hr r e).2) hT, he⟩
    case assign =>
      rintro l k x W K hx ⟨ao, n, cap, hn, hS, hN⟩ hK
      gi_wp2
      have hll := hS.ll
      exact hK _ _ ((KeepsOthers.alloc _ _).from _) (KpA.of_below hS.bel.size hN.lt (belOne _ _)) ⟨ao, n, cap, hn, hS.below (belOne _ _), hN.below (belOne _ _)⟩ ⟨W.heap.size, by omega, World.alloc_heap_new _ _, rfl⟩
    case body =>
      rintro l k x a' W hx ⟨ao, n, cap, hn, hS, hN⟩ ⟨Bx, hBx, hT, rfl⟩
      have hkl : k < xs.length := by
        have := (List.getElem?_eq_some_iff.1 hx).1
        rw [nodesFrom_length] at this
        exact this
      rw [nodesFrom_get _ xs k hkl] at hx
      obtain rfl : (1 + inp + (ls.length : Int) + (k : Int), xs.getD k (0, 0)) = x := by simpa using hx
      have hps := pair_small HO.out H64.out hkl
      have HS : Hid (clsF (1 + inp + ls.length) xs (k + 1) = cl3 (clsF (1 + inp + ls.length) xs k) (1 + inp + ls.length + (k : Int)) (xs.getD k (0, 0))) := rfl
      have hn120 : n ≤ 120 := by have := clsF_le (1 + inp + ls.length) xs k; have := hn.out; omega
      obtain ⟨N, hN'⟩ : ∃ N, 1 + inp + (ls.length : Int) + (k : Int) = N := ⟨_, rfl⟩
      have hNd0 : 1 ≤ N := by omega
      have hNd1 : N ≤ 60 := by omega
      rw [hN'] at HS
      have HI1 : Hid (∀ V ao n cap, Hid ((clsF (1 + inp + ls.length) xs (k + 1)).length = n) → Cst w V (w.heap.size + 1) w4.heap.size (w4.heap.size + 2) vars (.slice ao n cap) (clsF (1 + inp + ls.length) xs (k + 1)) (.int .i64 inp) (.slice al ls.length cl) (.slice aa xs.length ca) (.slice ab bs.length cb) → Own4 V (w4.heap.size + 1) 33 (.int .i64 inp) (.slice al ls.length cl) (.slice aa xs.length ca) (.slice ab bs.length cb) → KeepsOthers W V → KpA w.heap.size (w4.heap.size + 1) W V → KeepsFrom W0.heap.size W V ∧ KpA w.heap.size (w4.heap.size + 1) W V ∧ ∃ ao n cap, Hid ((clsF (1 + inp + ls.length) xs (k + 1)).length = n) ∧ Cst w V (w.heap.size + 1) w4.heap.size (w4.heap.size + 2) vars (.slice ao n cap) (clsF (1 + inp + ls.length) xs (k + 1)) (.int .i64 inp) (.slice al ls.length cl) (.slice aa xs.length ca) (.slice ab bs.length cb) ∧ Own4 V (w4.heap.size + 1) 33 (.int .i64 inp) (.slice al ls.length cl) (.slice aa xs.length ca) (.slice ab bs.length cb)) := fun V ao n cap h1 h2 h3 h4 h5 => ⟨h4.from _, h5, ao, n, cap, h1, h2, h3⟩
      generalize xs.getD k (0, 0) = pq at *
      obtain ⟨p1, p2⟩ := pq
      obtain ⟨⟨hp10, hp11⟩, hp20, hp21⟩ := hps
      have hp10 : 0 ≤ p1 := hp10
      have hp11 : p1 ≤ 190 := hp11
      have hp20 : 0 ≤ p2 := hp20
      have hp21 : p2 ≤ 190 := hp21
      have hT : W.heap[Bx]? = some (.cells #[.int .i64 p1, .int .i64 p2] 65 (0, 0)) := hT
      have t1 : W.cell? ⟨Bx, 0, none⟩ = some (.int .i64 p1) := by simp [World.cell?, hT]
      have t2 : W.cell? ⟨Bx, 1, none⟩ = some (.int .i64 p2) := by simp [World.cell?, hT]
      have ho1 := oppL_range hp10 hp11
      have ho2 := oppL_range hp20 hp21
      have hoN : oppL (2 * N) = 2 * N + 1 := by unfold oppL; rw [if_pos (by omega)]
      have HON := hideN hoN
      have HCW := hideN hS
      have HNW := hideN hN
      have HFS : Hid (clsF (1 + inp + ls.length) xs (k + 1) = cl3 (clsF (1 + inp + ls.length) xs k) N (p1, p2)) := HS.out
      generalize clsF (1 + inp + ls.length) xs k = css at *
      clear hx hS hN HS hoN
      simp only [hN']
      clear hN'
      have s0 := HCW.out.c.c1
      have s3 := HCW.out.c.lt
      have s6 := HCW.out.c.f 1
      gi_wp2
      refine region_roundS (fin := 10) (S := fun V => V.cell? ⟨w4.heap.size, 1, none⟩ = some (.slice ao n cap) ∧ V.cell? ⟨Bx, 0, none⟩ = some (.int .i64 p1) ∧ V.cell? ⟨Bx, 1, none⟩ = some (.int .i64 p2)) (by kernel_rfl) (by kernel_rfl) ?letsA ⟨s0, t1, t2⟩ (fun hHeld => ?walkA)
      case letsA =>
        rintro ⟨a, v, h⟩
        have h' := (show Exit.outgrown = Exit.normal ∧ _ from h).1
        cases h'
      case walkA =>
      clear hHeld
      refine takeS (i := 0) (v := .pointer (some ⟨w4.heap.size, 1, none⟩)) rfl (by kernel_rfl) (by kernel_rfl) (by kernel_rfl) (by kernel_rfl) (fun _ _ _ h => h) (Or.inl ⟨by rfl, fun w hS => by obtain ⟨s0, t1, t2⟩ := hS; go_simp⟩) ⟨s0, t1, t2⟩ ?_
      simp only [List.getElem_toArray, List.getElem_cons_zero, Act.put, List.setIfInBounds_toArray, List.set_cons_zero, List.set_cons_succ]
      refine takeS (i := 1) (v := .slice ao n cap) rfl (by kernel_rfl) (by kernel_rfl) (by kernel_rfl) (by kernel_rfl) (fun _ _ _ h => h) (Or.inl ⟨by rfl, fun w hS => by obtain ⟨s0, t1, t2⟩ := hS; go_simp⟩) ⟨s0, t1, t2⟩ ?_
      simp only [List.getElem_toArray, List.getElem_cons_zero, List.getElem_cons_succ, Act.put, List.setIfInBounds_toArray, List.set_cons_zero, List.set_cons_succ]
      refine takeS (i := 2) (v := .int .i64 N) rfl (by kernel_rfl) (by kernel_rfl) (by kernel_rfl) (by kernel_rfl) (fun _ _ _ h => h) (Or.inl ⟨by rfl, fun w hS => by obtain ⟨s0, t1, t2⟩ := hS; go_simp⟩) ⟨s0, t1, t2⟩ ?_
      simp only [List.getElem_toArray, List.getElem_cons_zero, List.getElem_cons_succ, Act.put, List.setIfInBounds_toArray, List.set_cons_zero, List.set_cons_succ]
      refine takeS (i := 4) (v := .pointer (some ⟨Bx, 0, none⟩)) rfl (by kernel_rfl) (by kernel_rfl) (by kernel_rfl) (by kernel_rfl) (fun _ _ _ h => h) (Or.inl ⟨by rfl, fun w hS => by obtain ⟨s0, t1, t2⟩ := hS; go_simp⟩) ⟨s0, t1, t2⟩ ?_
      simp only [List.getElem_toArray, List.getElem_cons_zero, List.getElem_cons_succ, Act.put, List.setIfInBounds_toArray, List.set_cons_zero, List.set_cons_succ]
      refine takeS (i := 5) (v := .int .i64 p1) rfl (by kernel_rfl) (by kernel_rfl) (by kernel_rfl) (by kernel_rfl) (fun _ _ _ h => h) (Or.inl ⟨by rfl, fun w hS => by obtain ⟨s0, t1, t2⟩ := hS; go_simp⟩) ⟨s0, t1, t2⟩ ?_
      simp only [List.getElem_toArray, List.getElem_cons_zero, List.getElem_cons_succ, Act.put, List.setIfInBounds_toArray, List.set_cons_zero, List.set_cons_succ]
      refine takeS (i := 6) (v := .pointer (some ⟨Bx, 1, none⟩)) rfl (by kernel_rfl) (by kernel_rfl) (by kernel_rfl) (by kernel_rfl) (fun _ _ _ h => h) (Or.inl ⟨by rfl, fun w hS => by obtain ⟨s0, t1, t2⟩ := hS; go_simp⟩) ⟨s0, t1, t2⟩ ?_
      simp only [List.getElem_toArray, List.getElem_cons_zero, List.getElem_cons_succ, Act.put, List.setIfInBounds_toArray, List.set_cons_zero, List.set_cons_succ]
      refine takeS (i := 7) (v := .int .i64 p2) rfl (by kernel_rfl) (by kernel_rfl) (by kernel_rfl) (by kernel_rfl) (fun _ _ _ h => h) (Or.inl ⟨by rfl, fun w hS => by obtain ⟨s0, t1, t2⟩ := hS; go_simp⟩) ⟨s0, t1, t2⟩ ?_
      simp only [List.getElem_toArray, List.getElem_cons_zero, List.getElem_cons_succ, Act.put, List.setIfInBounds_toArray, List.set_cons_zero, List.set_cons_succ]
      refine oneS (i := 3) (by kernel_rfl) rfl (by rfl) ?_
      simp only [List.getElem_toArray, List.getElem_cons_zero, List.getElem_cons_succ]
      go_simp
      refine (meaningOf_any _ _ (by omega) (by omega)).mono ?_
      rintro e w' ⟨rfl, hw'⟩
      obtain rfl := hw'.symm
      refine ⟨⟨s0, t1, t2⟩, ?_⟩
      have HBA : Hid (Below W.heap.size W W.drew) := below_drewN (Below.refl _ _) 1
      have hll := HCW.out.ll
      refine oneS (i := 8) (by kernel_rfl) rfl (by rfl) ?_
      simp only [List.getElem_toArray, List.getElem_cons_zero, List.getElem_cons_succ]
      go_simp
      refine (putAnd_any (w4.heap.size + 2) n cap ao css N p1 p2 W.drew (by exact GridF.below HCW.out.g HBA.out) hn.out (by omega) (by exact hll) hNd0 hNd1 hp10 (by omega) hp20 (by omega)).mono ?_
      rintro e XA ⟨a7, n7, c7, rfl, hnA, hgA, hcA, -⟩
      have hmidA := HCW.out.mid HBA.out hcA
      have r0 := hmidA.1.c1
      have r4 := hmidA.1.f 1
      have hnB : ¬ (Value.slice ao n cap).ownBlock = some Bx := fun e => by
        obtain ⟨vs, g1, _⟩ := HCW.out.g
        rcases g1.2 with ⟨h5, _⟩ | ⟨g, cp, cur, h5, _, hh, _⟩
        · rw [h5] at e; cases e
        · rw [h5] at e
          have e' : g = Bx := Option.some.inj e
          subst e'
          rw [hT] at hh
          simp at hh
      have hTA : XA.heap[Bx]? = some (.cells #[.int .i64 p1, .int .i64 p2] 65 (0, 0)) := (hcA.block Bx (Array.getElem?_eq_some_iff.1 hT).1 hnB).trans hT
      have q1 : XA.cell? ⟨Bx, 0, none⟩ = some (.int .i64 p1) := by simp [World.cell?, hTA]
      have q2 : XA.cell? ⟨Bx, 1, none⟩ = some (.int .i64 p2) := by simp [World.cell?, hTA]
      have HN7 := hideN hnA
      have HSTA := hideN (HCW.out.step HBA.out hgA hcA)
      have HKPA := hideN (HCW.out.keeps (ao := a7) (n := n7) (cap := c7) (Bn := w4.heap.size + 1) HBA.out hcA (by omega) (by omega) HNW.out.lt)
      have HNWA : Hid (Own4 (XA.setCell ⟨w4.heap.size, 1, none⟩ (.slice a7 n7 c7)) (w4.heap.size + 1) 33 (.int .i64 inp) (.slice al ls.length cl) (.slice aa xs.length ca) (.slice ab bs.length cb)) := HKPA.out.2.2.trans HNW.out
      clear hnA hgA hcA hmidA s0 s3 s6 t1 t2 hT hTA hnB
      refine ⟨⟨r0, q1, q2⟩, ?_⟩
      refine takeS (i := 9) (v := .pointer (some ⟨w4.heap.size, 1, none⟩)) rfl (by kernel_rfl) (by kernel_rfl) (by kernel_rfl) (by kernel_rfl) (fun _ _ _ h => h) (Or.inl ⟨by rfl, fun w hS => by obtain ⟨r0, q1, q2⟩ := hS; go_simp⟩) ⟨r0, q1, q2⟩ ?_
      simp only [List.getElem_toArray, List.getElem_cons_zero, List.getElem_cons_succ, Act.put, List.setIfInBounds_toArray, List.set_cons_zero, List.set_cons_succ]
      refine oneS (i := 10) (by kernel_rfl) rfl (by rfl) ?_
      simp only [List.getElem_toArray, List.getElem_cons_zero, List.getElem_cons_succ]
      go_simp
      refine doneS (by kernel_rfl) ?_ _
      clear r0 r4 q1 q2
      generalize (XA.setCell ⟨w4.heap.size, 1, none⟩ (.slice a7 n7 c7)) = V7 at *
      refine ⟨rfl, HI1.out V7 a7 n7 c7 (by rw [HFS.out]; exact HN7) (by rw [HFS.out]; exact HSTA.out) HNWA.out HKPA.out.1 HKPA.out.2⟩
    case done =>
      rintro D W hD ⟨ao, n, cap, hn, hS, hN⟩ hK
      rw [nodesFrom_length] at hn hS
      have d0 := hS.c.c0
      have d1 := hS.c.c1
      have d2 := hS.c.lt
      have m0 := hS.q.c0
      have m1 := hS.q.c1
      have m2 := hS.q.lt
      have m3 := hS.q.f 0
      have m4 := hS.q.f 1
      have hqq := (hS.q.set0 (.int .i64 vars)).set1 (.slice ao n cap)
      have HQQ := hideN hqq
      have HBE : Hid (Below w.heap.size w ((W.setCell ⟨w.heap.size + 1, 0, none⟩ (.int .i64 vars)).setCell ⟨w.heap.size + 1, 1, none⟩ (.slice ao n cap))) := (hS.bel.setCell (p := ⟨w.heap.size + 1, 0, none⟩) (by show _ ≤ w.heap.size + 1; omega) _).setCell (p := ⟨w.heap.size + 1, 1, none⟩) (by show _ ≤ w.heap.size + 1; omega) _
      have HGE : Hid (GridL ((W.setCell ⟨w.heap.size + 1, 0, none⟩ (.int .i64 vars)).setCell ⟨w.heap.size + 1, 1, none⟩ (.slice ao n cap)) (w4.heap.size + 2) W.heap.size (.slice ao n cap) (clsF (1 + inp + ls.length) xs xs.length)) := by
        refine GridF.keep hS.g (fun k hlo _ _ => ?_)
        rw [blk_setCell_other _ _ _ _ (by show k ≠ w.heap.size + 1; omega), blk_setCell_other _ _ _ _ (by show k ≠ w.heap.size + 1; omega)]
      have HKE : Hid (((W.setCell ⟨w.heap.size + 1, 0, none⟩ (.int .i64 vars)).setCell ⟨w.heap.size + 1, 1, none⟩ (.slice ao n cap)).heap[D]? = some (.deferred (some []))) := by
        show _ = _
        rw [blk_setCell_other _ _ _ _ (by show D ≠ w.heap.size + 1; omega), blk_setCell_other _ _ _ _ (by show D ≠ w.heap.size + 1; omega)]
        exact hK
      have HSZ : Hid (((W.setCell ⟨w.heap.size + 1, 0, none⟩ (.int .i64 vars)).setCell ⟨w.heap.size + 1, 1, none⟩ (.slice ao n cap)).heap.size = W.heap.size) := by show _ = _; simp
      clear hqq
      go_wp2
      generalize ((W.setCell ⟨w.heap.size + 1, 0, none⟩ (.int .i64 vars)).setCell ⟨w.heap.size + 1, 1, none⟩ (.slice ao n cap)) = WE at *
      refine ⟨by simp, .inl ⟨_, _, rfl, run_takeDeferred HKE.out, ?_⟩⟩
      have hq2 := HQQ.out
      have hqe : BlkC (WE.putObj D (.deferred none)) (w.heap.size + 1) (.int .i64 vars) (.slice ao n cap) := (World.putObj_heap_other (by omega)).trans hq2
      have u0 := hqe.c0
      have u1 := hqe.c1
      have hg := grownBy_putObj' WE D (.deferred none)
      have hll := hS.ll
      refine ⟨.agg #[.int .i64 vars, .slice ao n cap], by simp [results, Try.f34, go_sem, u0, u1], ao, n, cap, ?_, ?_, ?_, ?_⟩
      · unfold cnfVars; rw [if_pos HO.out, HVV.out]
      · unfold cnfCss; rw [if_pos HO.out]; exact hn.out
      · unfold cnfCss; rw [if_pos HO.out]
        exact GridF.wide (grid_kept HGE.out hg (fun r e => by cases e; exact ⟨_, HKE.out, rfl⟩)) (by omega) (by rw [← HSZ.out]; exact hg.size)
      · exact HBE.out.grown hg HBE.out.size (fun r e => by cases e; omega)

end Go.Proofs.Ytbdjdgamnnifjaa

/-
  What something needs: the program's spreadNeeds is the sweep.
-/
import Derived.Test.YtbdjdgamnnifjaaNeed2X
namespace Go.Proofs.Ytbdjdgamnnifjaa
open Go.RowKit Go.Deep Go.Shelf
set_option linter.unusedVariables false

attribute [local go_sem] Oper.semAt_some

theorem keeps_of_chg {W W' : World} {b : Nat} (h : Chg (· = b) W W') {t : TypeId} {n : Nat} {f : Nat → Value} (hr : W.rowIs b t n f) : KeepsOthers W W' :=
  ⟨h.size, fun k o hk ho => (h.block k (Array.getElem?_eq_some_iff.1 hk).1 (fun e => by
    have e' : k = b := e
    subst e'
    obtain ⟨cells, hb, _⟩ := hr
    rw [hb] at hk
    cases hk
    cases ho)).trans hk⟩

theorem KpN.of_chg {base Br Bx : Nat} {V V' : World} (hb : base ≤ V.heap.size) (hB : Bx < V.heap.size) (hne : Bx ≠ Br) (h : Chg (· = Br) V V') : KpN base Br Bx V V' :=
  ⟨h.os, h.tape, h.output, h.size, fun k hk hn => h.block k (by omega) hn, h.block Bx hB hne⟩

theorem KpN.chg {base Br Bx : Nat} {V V' : World} (h : KpN base Br Bx V V') (hb : V.heap.size ≤ base) : Chg (· = Br) V V' :=
  ⟨h.os, h.tape, h.output, h.size, fun k hk hn => h.old k (by omega) hn⟩

theorem KpN.grown {base Br Bx : Nat} {V A B : World} (h : KpN base Br Bx V A) (hb : base ≤ V.heap.size) (hB : Bx < V.heap.size) {row : Option Nat} (hg : A.grownBy B row) (hr : ∀ r, row = some r → base ≤ r) (hrx : ∀ r, row = some r → Bx ≠ r) : KpN base Br Bx V B :=
  ⟨hg.os.trans h.os, hg.tape.trans h.tape, hg.output.trans h.output, Nat.le_trans h.size hg.size, fun k hk hn => (hg.block k (by have := h.size; omega) (fun e => by have := hr k e.symm; omega)).trans (h.old k hk hn),
    (hg.block Bx (by have := h.size; omega) (fun e => hrx Bx e.symm rfl)).trans h.box⟩

/-- One step of a walk: number i alone can come up. -/
theorem oneH {P : Program} {md : Region.Mode} {ops : Array Oper} {Q : Exit → Act → World → Prop} {S : World → Prop} {i : Nat} {oi : Oper} {fuel : Nat} {listed : Array Bool} {a : Act} {w : World} (hr : Region.ready md ops listed = [i]) (hi : ops[i]? = some oi) (hwt : Region.wanted oi (yielded ops a.tmps) = true)
    (h : oi.wp P a w (fun a' w' => S w' ∧ wpAnyH P md ops Q S fuel (listed.setIfInBounds i true) a' w') Q) : wpAnyH P md ops Q S (fuel + 1) listed a w := by
  refine wpAnyH_all hr (by simp) fun j hj => ?_
  obtain rfl : j = i := by simpa using hj
  unfold wpOp
  simp only [hi, hwt, if_true]
  exact .inl h

set_option maxHeartbeats 400000 in
theorem backward_any (aa : Option Addr) (n ca : Nat) (w : World) :
    Calls Try.prog 102 #[.slice aa n ca] w fun e w' => e = .returned (.func (.func 117) #[] #[.pointer (some ⟨w.heap.size, 0, none⟩)]) ∧ w' = w.alloc (.cells #[.slice aa n ca] 31) := by
  go_enter Try.func102, Try.ntmps102
  go_wp2
  go_ret
  exact ⟨rfl, rfl⟩

/-- One and of the sweep, in memory. -/
theorem sweepF_succ (F : Nat) (xs : List (Int × Int)) (S : Nat → Bool) (k : Nat) : sweepF F xs S (k + 1) = sweep1 F xs (sweepF F xs S k) (F + (xs.length - 1 - k)) := rfl

set_option maxRecDepth 100000 in
set_option maxHeartbeats 4000000 in
theorem spread_any (inp : Int) (al aa ab : Option Addr) (cl ca cb : Nat) (ls : List (Int × Bool)) (xs : List (Int × Int)) (bs : List Int) (Br M F : Nat) (S : Nat → Bool) (w : World) (h0 : 0 ≤ inp) (h1 : inp ≤ 8) (h2 : ls.length ≤ 8) (h3 : xs.length ≤ 40) (hF : (F : Int) = 1 + inp + ls.length) (hM : M = F + xs.length)
    (hA : Ahead F xs) (hP : ∀ p ∈ xs, (0 ≤ p.1 ∧ p.1 ≤ 1000) ∧ (0 ≤ p.2 ∧ p.2 ≤ 1000)) (hab : ∀ k off, aa = some ⟨k, off, none⟩ → k < w.heap.size ∧ k ≠ Br) (hands : IsAnds w (.slice aa xs.length ca) xs) (hrow : w.rowIs Br 4 M (setF S)) :
    Calls Try.prog 73 #[.agg #[.int .i64 inp, .slice al ls.length cl, .slice aa xs.length ca, .slice ab bs.length cb], .slice (some ⟨Br, 0, none⟩) M M] w fun e w' => e = .returned (.tuple #[]) ∧ w'.rowIs Br 4 M (setF (sweepF F xs S xs.length)) ∧ Chg (· = Br) w w' := by
  have hBr : Br < w.heap.size := hrow.lt
  have HRW : Hid (w.rowIs Br 4 M (setF S)) := hrow
  have HAN : Hid (IsAnds w (.slice aa xs.length ca) xs) := hands
  have HAB : Hid (∀ k off, aa = some ⟨k, off, none⟩ → k < w.heap.size ∧ k ≠ Br) := hab
  have HFF : Hid ((F : Int) = 1 + inp + ls.length) := hF
  have HMM : Hid (M = F + xs.length) := hM
  have HA : Hid (Ahead F xs) := hA
  have HP : Hid (∀ p ∈ xs, (0 ≤ p.1 ∧ p.1 ≤ 1000) ∧ (0 ≤ p.2 ∧ p.2 ≤ 1000)) := hP
  have hM100 : M ≤ 100 := by omega
  clear hrow hands hab hF hM hA hP
  refine (callsIn_wide (n := 8)).1 ?_
  refine callsIn_of_wp_marks Try.func73 rfl trivial ?_ rfl
  simp only [Try.ntmps73, List.size_toArray, List.length_cons, List.length_nil, Nat.reduceAdd, Nat.reduceSub, Array.replicate_succ, Array.replicate_zero, List.push_toArray, List.append_toArray, List.nil_append, List.cons_append]
  refine wpIn_wide.2 ?_
  go_wp2_with (go_at_call 102; refine (backward_any _ _ _ _).mono ?_; rintro e w' ⟨rfl, rfl⟩)
  have hB3 : Below w.heap.size w (((w.alloc (.cells #[.int .i64 inp, .slice al ls.length cl, .slice aa xs.length ca, .slice ab bs.length cb] 33)).alloc (.cells #[.slice (some ⟨Br, 0, none⟩) M M] 27)).alloc (.cells #[.slice aa xs.length ca] 31)) := belNext (belNext (belOne _ _) (belOne _ _)) (belOne _ _)
  have hX0 : (((w.alloc (.cells #[.int .i64 inp, .slice al ls.length cl, .slice aa xs.length ca, .slice ab bs.length cb] 33)).alloc (.cells #[.slice (some ⟨Br, 0, none⟩) M M] 27)).alloc (.cells #[.slice aa xs.length ca] 31)).heap[w.heap.size]? = some (.cells #[.int .i64 inp, .slice al ls.length cl, .slice aa xs.length ca, .slice ab bs.length cb] 33 (0, 0)) := by
    rw [blk_alloc_lt _ _ _ (by simp; omega), blk_alloc_lt _ _ _ (by simp)]; exact World.alloc_heap_new _ _
  have hX1 : (((w.alloc (.cells #[.int .i64 inp, .slice al ls.length cl, .slice aa xs.length ca, .slice ab bs.length cb] 33)).alloc (.cells #[.slice (some ⟨Br, 0, none⟩) M M] 27)).alloc (.cells #[.slice aa xs.length ca] 31)).heap[w.heap.size + 1]? = some (.cells #[.slice (some ⟨Br, 0, none⟩) M M] 27 (0, 0)) := by
    rw [blk_alloc_lt _ _ _ (by simp)]
    have h := World.alloc_heap_new (w.alloc (.cells #[.int .i64 inp, .slice al ls.length cl, .slice aa xs.length ca, .slice ab bs.length cb] 33)) (.cells #[.slice (some ⟨Br, 0, none⟩) M M] 27)
    rw [World.size_alloc] at h
    exact h
  have hX2 : (((w.alloc (.cells #[.int .i64 inp, .slice al ls.length cl, .slice aa xs.length ca, .slice ab bs.length cb] 33)).alloc (.cells #[.slice (some ⟨Br, 0, none⟩) M M] 27)).alloc (.cells #[.slice aa xs.length ca] 31)).heap[w.heap.size + 2]? = some (.cells #[.slice aa xs.length ca] 31 (0, 0)) := by
    have h := World.alloc_heap_new ((w.alloc (.cells #[.int .i64 inp, .slice al ls.length cl, .slice aa xs.length ca, .slice ab bs.length cb] 33)).alloc (.cells #[.slice (some ⟨Br, 0, none⟩) M M] 27)) (.cells #[.slice aa xs.length ca] 31)
    rw [World.size_alloc, World.size_alloc] at h
    exact h
  have hs3 : (((w.alloc (.cells #[.int .i64 inp, .slice al ls.length cl, .slice aa xs.length ca, .slice ab bs.length cb] 33)).alloc (.cells #[.slice (some ⟨Br, 0, none⟩) M M] 27)).alloc (.cells #[.slice aa xs.length ca] 31)).heap.size = w.heap.size + 3 := by simp
  generalize (((w.alloc (.cells #[.int .i64 inp, .slice al ls.length cl, .slice aa xs.length ca, .slice ab bs.length cb] 33)).alloc (.cells #[.slice (some ⟨Br, 0, none⟩) M M] 27)).alloc (.cells #[.slice aa xs.length ca] 31)) = W0 at *
  have HB3 := hideN hB3
  have HX0 := hideN hX0
  have HX1 := hideN hX1
  have HS3 := hideN hs3
  refine (wpIn_wide (n := 8)).1 ?_
  refine rangeAll (by omega) (gf := 117) (lb := #[.pointer (some ⟨w.heap.size + 2, 0, none⟩)]) rfl (enters_of Try.func117 (by kernel_rfl) rfl)
    (backward_gives 7 (by omega) W0.heap.size Br (w.heap.size + 2) aa ca xs h3 W0 (Nat.le_refl _) hX2 (HAN.out.below hB3) (fun b off e => by have := HAB.out b off e; exact ⟨by omega, this.2⟩)) KpN.trans (KpN.put (Nat.le_refl _) (by omega)) (fun _ => rfl)
    (fun k W => W.rowIs Br 4 M (setF (sweepF F xs S k)) ∧ KpN W0.heap.size Br (w.heap.size + 2) W0 W)
    ?hI ⟨HRW.out.of_block (hB3.block _ hBr), KpN.refl _ _ _ _⟩
    (fun x a' W => ∃ Bx, W0.heap.size ≤ Bx ∧ W.heap[Bx]? = some (.cells #[.int .i64 x.2.1, .int .i64 x.2.2] 65 (0, 0)) ∧ a' = { tmps := #[.agg #[.int .i64 inp, .slice al ls.length cl, .slice aa xs.length ca, .slice ab bs.length cb], .slice (some ⟨Br, 0, none⟩) M M, .pointer (some ⟨w.heap.size, 0, none⟩), .pointer (some ⟨w.heap.size + 1, 0, none⟩), .int .i64 x.1, .pointer (some ⟨Bx, 0, none⟩), .pointer (some ⟨w.heap.size, 2, none⟩), .slice aa xs.length ca, .func (.func 117) #[] #[.pointer (some ⟨w.heap.size + 2, 0, none⟩)], .int .i64 x.1, .agg #[.int .i64 x.2.1, .int .i64 x.2.2], undef, undef, undef, undef, undef, undef, undef, undef, undef, undef, undef, undef, undef, undef, undef, undef, undef], defers := [] })
    ?hAx ?assign ?body ?done
  case hI =>
    rintro k A B row ⟨hr, hk⟩ hg hrw
    refine ⟨hr.of_block (hg.block Br hr.lt (fun e => ?_)), hk.grown (Nat.le_refl _) (by omega) hg (fun r e => (hrw r e).1) (fun r e => by have := (hrw r e).1; omega)⟩
    have := (hrw Br e.symm).1
    omega
  case hAx =>
    rintro x a' s A B row ⟨Bx, hBx, hT, he⟩ hg hr
    exact ⟨Bx, hBx, kept_cells hg (fun r e => (hr r e).2) hT, he⟩
  case assign =>
    rintro l k x W K hx ⟨hr, hk⟩ hK
    gi_wp2
    have hsz := hk.size
    exact hK _ _ ((KeepsOthers.alloc _ _).from _) (KpN.of_below hsz (by omega) (belOne _ _)) ⟨hr.of_block ((belOne _ _).block _ hr.lt), hk.trans (KpN.of_below hsz (by omega) (belOne _ _))⟩ ⟨W.heap.size, hsz, World.alloc_heap_new _ _, rfl⟩
  case body =>
    rintro l k x a' W hx ⟨hr, hk⟩ ⟨Bx, hBx, hT, rfl⟩
    have hkl : k < xs.length := by
      have := (List.getElem?_eq_some_iff.1 hx).1
      rw [backOf_length] at this
      exact this
    rw [backOf_get xs k hkl] at hx
    obtain ⟨j, hj⟩ : ∃ j, xs.length - 1 - k = j := ⟨_, rfl⟩
    rw [hj] at hx
    obtain rfl : ((j : Int), xs.getD j (0, 0)) = x := by simpa using hx
    have hjl : j < xs.length := by omega
    have hsucc := sweepF_succ F xs S k
    rw [hj] at hsucc
    have hmem : xs.getD j (0, 0) ∈ xs := by rw [List.getD, List.getElem?_eq_getElem hjl]; simp
    have hpq := HP.out _ hmem
    have hkids := HA.out (F + j) (by omega) (by omega)
    have hkA : kidA F xs (F + j) = ((xs.getD j (0, 0)).1 / 2).toNat := by unfold kidA; rw [show F + j - F = j by omega]
    have hkB : kidB F xs (F + j) = ((xs.getD j (0, 0)).2 / 2).toNat := by unfold kidB; rw [show F + j - F = j by omega]
    have hsz := hk.size
    have y0 := (hk.old w.heap.size (by omega) (by omega)).trans HX0.out
    have y1 := (hk.old (w.heap.size + 1) (by omega) (by omega)).trans HX1.out
    have hTl : Bx < W.heap.size := (Array.getElem?_eq_some_iff.1 hT).1
    generalize xs.getD j (0, 0) = q at *
    obtain ⟨q1, q2⟩ := q
    obtain ⟨⟨g1, g2⟩, g3, g4⟩ := hpq
    have hT : W.heap[Bx]? = some (.cells #[.int .i64 q1, .int .i64 q2] 65 (0, 0)) := hT
    have g1 : 0 ≤ q1 := g1
    have g2 : q1 ≤ 1000 := g2
    have g3 : 0 ≤ q2 := g3
    have g4 : q2 ≤ 1000 := g4
    have hkA : kidA F xs (F + j) = (q1 / 2).toNat := hkA
    have hkB : kidB F xs (F + j) = (q2 / 2).toNat := hkB
    obtain ⟨ka, eka⟩ : ∃ ka, kidA F xs (F + j) = ka := ⟨_, rfl⟩
    obtain ⟨kb, ekb⟩ : ∃ kb, kidB F xs (F + j) = kb := ⟨_, rfl⟩
    rw [eka, ekb] at hkids
    rw [eka] at hkA
    rw [ekb] at hkB
    have HNA : Hid (∀ V, Calls Try.prog 72 #[.int .i64 q1] V fun e w' => e = .returned (.int .i64 ((ka : Nat) : Int)) ∧ w' = V) := fun V => by rw [show ((ka : Nat) : Int) = halfW q1 by rw [halfW_eq g1 (by unfold I64; omega)]; omega]; exact node_any q1 V
    have HNB : Hid (∀ V, Calls Try.prog 72 #[.int .i64 q2] V fun e w' => e = .returned (.int .i64 ((kb : Nat) : Int)) ∧ w' = V) := fun V => by rw [show ((kb : Nat) : Int) = halfW q2 by rw [halfW_eq g3 (by unfold I64; omega)]; omega]; exact node_any q2 V
    have hka : ka < M := by have := HMM.out; omega
    have hkb : kb < M := by have := HMM.out; omega
    obtain ⟨p, hp⟩ : ∃ p, F + j = p := ⟨_, rfl⟩
    have hpM : p < M := by have := HMM.out; omega
    have hwp : IntKind.i64.wrap (1 + inp + (ls.length : Int) + (j : Int)) = (p : Int) := by have := HFF.out; rw [IntKind.wrap_i64]; omega
    rw [hp] at hsucc eka ekb
    have HSU : Hid (sweepF F xs S (k + 1) = if sweepF F xs S k p = true then setS (setS (sweepF F xs S k) ka) kb else sweepF F xs S k) := by show _ = _; rw [hsucc]; unfold sweep1; rw [eka, ekb]
    clear hsucc hmem hkids hkA hkB eka ekb hx hp
    have HR : Hid (W.rowIs Br 4 M (setF (sweepF F xs S k))) := hr
    have HK : Hid (KpN W0.heap.size Br (w.heap.size + 2) W0 W) := hk
    have HT : Hid (W.heap[Bx]? = some (.cells #[.int .i64 q1, .int .i64 q2] 65 (0, 0))) := hT
    have HY0 := hideN y0
    have HY1 := hideN y1
    obtain ⟨b, hb⟩ : ∃ b, sweepF F xs S k p = b := ⟨_, rfl⟩
    have s5 : W.cell? ⟨Br, p, none⟩ = some (.bool b) := by have h := hr.cell (i := p) hpM; rw [h]; unfold setF; rw [hb]
    have HBT : Hid (sweepF F xs S k p = b) := hb
    have s0 : W.cell? ⟨w.heap.size + 1, 0, none⟩ = some (.slice (some ⟨Br, 0, none⟩) M M) := by simp [World.cell?, y1]
    have s1 : W.cell? ⟨w.heap.size, 0, none⟩ = some (.int .i64 inp) := by simp [World.cell?, y0]
    have s2 : W.cell? ⟨w.heap.size, 1, none⟩ = some (.slice al ls.length cl) := by simp [World.cell?, y0]
    have s3 : W.cell? ⟨w.heap.size, 2, none⟩ = some (.slice aa xs.length ca) := by simp [World.cell?, y0]
    have s4 : W.cell? ⟨w.heap.size, 3, none⟩ = some (.slice ab bs.length cb) := by simp [World.cell?, y0]
    clear hr hk hT hb y0 y1 hX0 hX1 hX2 hB3
    gi_wp2
    refine region_round (S := fun V => V.cell? ⟨w.heap.size + 1, 0, none⟩ = some (.slice (some ⟨Br, 0, none⟩) M M) ∧ V.cell? ⟨w.heap.size, 0, none⟩ = some (.int .i64 inp) ∧ V.cell? ⟨w.heap.size, 1, none⟩ = some (.slice al ls.length cl) ∧ V.cell? ⟨w.heap.size, 2, none⟩ = some (.slice aa xs.length ca) ∧ V.cell? ⟨w.heap.size, 3, none⟩ = some (.slice ab bs.length cb) ∧ V.cell? ⟨Br, p, none⟩ = some (.bool b)) (by kernel_rfl) (by kernel_rfl) ?lets ⟨s0, s1, s2, s3, s4, s5⟩ (fun hHeld => ?walk)
    case lets =>
      rintro ⟨a, v, h⟩
      have h' := (show Exit.outgrown = Exit.normal ∧ _ from h).1
      cases h'
    case walk =>
      refine wpAnyH_take (i := 0) (v := .slice (some ⟨Br, 0, none⟩) M M) rfl (by kernel_rfl) (by kernel_rfl) (by kernel_rfl) (fun _ _ _ h => h) (Or.inl ⟨by rfl, fun w hS => by obtain ⟨s0, s1, s2, s3, s4, s5⟩ := hS; go_simp⟩) ⟨s0, s1, s2, s3, s4, s5⟩ ?_
      simp only [List.getElem_toArray, List.getElem_cons_zero, Act.put, List.setIfInBounds_toArray, List.set_cons_zero, List.set_cons_succ]
      refine wpAnyH_take (i := 1) (v := .agg #[.int .i64 inp, .slice al ls.length cl, .slice aa xs.length ca, .slice ab bs.length cb]) rfl (by kernel_rfl) (by kernel_rfl) (by kernel_rfl) (fun _ _ _ h => h) (Or.inl ⟨by rfl, fun w hS => by obtain ⟨s0, s1, s2, s3, s4, s5⟩ := hS; go_simp⟩) ⟨s0, s1, s2, s3, s4, s5⟩ ?_
      simp only [List.getElem_toArray, List.getElem_cons_zero, List.getElem_cons_succ, Act.put, List.setIfInBounds_toArray, List.set_cons_zero, List.set_cons_succ]
      refine wpAnyH_take (i := 3) (v := .int .i64 (j : Int)) rfl (by kernel_rfl) (by kernel_rfl) (by kernel_rfl) (fun _ _ _ h => h) (Or.inl ⟨by rfl, fun w hS => by obtain ⟨s0, s1, s2, s3, s4, s5⟩ := hS; go_simp⟩) ⟨s0, s1, s2, s3, s4, s5⟩ ?_
      simp only [List.getElem_toArray, List.getElem_cons_zero, List.getElem_cons_succ, Act.put, List.setIfInBounds_toArray, List.set_cons_zero, List.set_cons_succ]
      refine oneH (i := 2) (by kernel_rfl) rfl (by rfl) ?_
      simp only [List.getElem_toArray, List.getElem_cons_zero, List.getElem_cons_succ]
      go_simp
      refine (firstAnd_any inp al aa ab ls.length cl xs.length ca bs.length cb _ h0 h1 h2).mono ?_
      rintro e W1 ⟨rfl, hb1⟩
      have hB1 : Below W.heap.size W W1 := (by first | exact hb1 | exact undrew hb1)
      have HB1 := hideN hB1
      replace s0 := (hB1.cell (p := ⟨w.heap.size + 1, 0, none⟩) (by show w.heap.size + 1 < W.heap.size; omega)).trans s0
      replace s1 := (hB1.cell (p := ⟨w.heap.size, 0, none⟩) (by show w.heap.size < W.heap.size; omega)).trans s1
      replace s2 := (hB1.cell (p := ⟨w.heap.size, 1, none⟩) (by show w.heap.size < W.heap.size; omega)).trans s2
      replace s3 := (hB1.cell (p := ⟨w.heap.size, 2, none⟩) (by show w.heap.size < W.heap.size; omega)).trans s3
      replace s4 := (hB1.cell (p := ⟨w.heap.size, 3, none⟩) (by show w.heap.size < W.heap.size; omega)).trans s4
      replace s5 := (hB1.cell (p := ⟨Br, p, none⟩) (by show Br < W.heap.size; omega)).trans s5
      clear hb1 hHeld
      refine ⟨⟨s0, s1, s2, s3, s4, s5⟩, ?_⟩
      refine wpAnyH_take (i := 4) (v := .int .i64 (p : Int)) rfl (by kernel_rfl) (by kernel_rfl) (by kernel_rfl) (fun _ _ _ h => h) (Or.inl ⟨by rfl, fun w hS => by obtain ⟨s0, s1, s2, s3, s4, s5⟩ := hS; go_simp⟩) ⟨s0, s1, s2, s3, s4, s5⟩ ?_
      simp only [List.getElem_toArray, List.getElem_cons_zero, List.getElem_cons_succ, Act.put, List.setIfInBounds_toArray, List.set_cons_zero, List.set_cons_succ]
      refine wpAnyH_take (i := 5) (v := .pointer (some ⟨Br, p, none⟩)) rfl (by kernel_rfl) (by kernel_rfl) (by kernel_rfl) (fun _ _ _ h => h) (Or.inl ⟨by rfl, fun w hS => by obtain ⟨s0, s1, s2, s3, s4, s5⟩ := hS; go_simp⟩) ⟨s0, s1, s2, s3, s4, s5⟩ ?_
      simp only [List.getElem_toArray, List.getElem_cons_zero, List.getElem_cons_succ, Act.put, List.setIfInBounds_toArray, List.set_cons_zero, List.set_cons_succ]
      refine oneH (i := 6) (by kernel_rfl) rfl (by rfl) ?_
      simp only [List.getElem_toArray, List.getElem_cons_zero, List.getElem_cons_succ]
      go_simp
      refine wpAnyH_done (by kernel_rfl) ?_ _
      clear s1 s2 s3 s4 s5 hwp
      have HR1 : Hid (W1.rowIs Br 4 M (setF (sweepF F xs S k))) := HR.out.of_block (hB1.block _ HR.out.lt)
      have HC1 : Hid (Chg (· = Br) W W1) := Chg.of_below hB1
      have HT1 : Hid (W1.heap[Bx]? = some (.cells #[.int .i64 q1, .int .i64 q2] 65 (0, 0))) := (hB1.block _ hTl).trans HT.out
      have hBw : W.heap.size ≤ W1.heap.size := hB1.size
      clear hB1
      have HKT : Hid (∀ V : World, Chg (· = Br) W V → V.rowIs Br 4 M (setF (sweepF F xs S (k + 1))) → KeepsFrom (w.heap.size + 3) W V ∧ KpN (w.heap.size + 3) Br (w.heap.size + 2) W V ∧ V.rowIs Br 4 M (setF (sweepF F xs S (k + 1))) ∧ KpN (w.heap.size + 3) Br (w.heap.size + 2) W0 V) := fun V hc hr => by
        have hk := HK.out
        rw [hs3] at hk
        have hkv : KpN (w.heap.size + 3) Br (w.heap.size + 2) W V := KpN.of_chg (by omega) (by omega) (by omega) hc
        exact ⟨(keeps_of_chg hc HR.out).from _, hkv, hr, hk.trans hkv⟩
      cases b with
      | false =>
        gi_wp2
        exact HKT.out _ HC1.out (by rw [HSU.out, HBT.out, if_neg (by simp)]; exact HR1.out)
      | true =>
        have t1 : W1.cell? ⟨Bx, 0, none⟩ = some (.int .i64 q1) := by simp [World.cell?, HT1.out]
        have t2 : W1.cell? ⟨Bx, 1, none⟩ = some (.int .i64 q2) := by simp [World.cell?, HT1.out]
        have d0 := HR1.out.cell (i := ka) hka
        have d1 := HR1.out.frozen ka
        have hne1 : w.heap.size + 1 ≠ Br := by omega
        have hne2 : Bx ≠ Br := by omega
        gi_wp2
        refine region_round (S := fun V => V.cell? ⟨w.heap.size + 1, 0, none⟩ = some (.slice (some ⟨Br, 0, none⟩) M M) ∧ V.cell? ⟨Bx, 0, none⟩ = some (.int .i64 q1) ∧ V.cell? ⟨Bx, 1, none⟩ = some (.int .i64 q2)) (by kernel_rfl) (by kernel_rfl) ?lets2 ⟨s0, t1, t2⟩ (fun hHeld => ?walk2)
        case lets2 =>
          rintro ⟨a, v, h⟩
          have h' := (show Exit.outgrown = Exit.normal ∧ _ from h).1
          cases h'
        case walk2 =>
          clear hHeld
          refine wpAnyH_take (i := 0) (v := .slice (some ⟨Br, 0, none⟩) M M) rfl (by kernel_rfl) (by kernel_rfl) (by kernel_rfl) (fun _ _ _ h => h) (Or.inl ⟨by rfl, fun w hS => by obtain ⟨s0, t1, t2⟩ := hS; go_simp⟩) ⟨s0, t1, t2⟩ ?_
          simp only [List.getElem_toArray, List.getElem_cons_zero, Act.put, List.setIfInBounds_toArray, List.set_cons_zero, List.set_cons_succ]
          refine wpAnyH_take (i := 1) (v := .pointer (some ⟨Bx, 0, none⟩)) rfl (by kernel_rfl) (by kernel_rfl) (by kernel_rfl) (fun _ _ _ h => h) (Or.inl ⟨by rfl, fun w hS => by obtain ⟨s0, t1, t2⟩ := hS; go_simp⟩) ⟨s0, t1, t2⟩ ?_
          simp only [List.getElem_toArray, List.getElem_cons_zero, List.getElem_cons_succ, Act.put, List.setIfInBounds_toArray, List.set_cons_zero, List.set_cons_succ]
          refine wpAnyH_take (i := 2) (v := .int .i64 q1) rfl (by kernel_rfl) (by kernel_rfl) (by kernel_rfl) (fun _ _ _ h => h) (Or.inl ⟨by rfl, fun w hS => by obtain ⟨s0, t1, t2⟩ := hS; go_simp⟩) ⟨s0, t1, t2⟩ ?_
          simp only [List.getElem_toArray, List.getElem_cons_zero, List.getElem_cons_succ, Act.put, List.setIfInBounds_toArray, List.set_cons_zero, List.set_cons_succ]
          refine oneH (i := 3) (by kernel_rfl) rfl (by rfl) ?_
          simp only [List.getElem_toArray, List.getElem_cons_zero, List.getElem_cons_succ]
          go_simp
          refine (HNA.out _).mono ?_
          rintro e W2 ⟨rfl, rfl⟩
          refine ⟨⟨s0, t1, t2⟩, ?_⟩
          refine wpAnyH_take (i := 4) (v := .pointer (some ⟨Br, ka, none⟩)) rfl (by kernel_rfl) (by kernel_rfl) (by kernel_rfl) (fun _ _ _ h => h) (Or.inl ⟨by rfl, fun w hS => by obtain ⟨s0, t1, t2⟩ := hS; go_simp⟩) ⟨s0, t1, t2⟩ ?_
          simp only [List.getElem_toArray, List.getElem_cons_zero, List.getElem_cons_succ, Act.put, List.setIfInBounds_toArray, List.set_cons_zero, List.set_cons_succ]
          refine oneH (i := 5) (by kernel_rfl) rfl (by rfl) ?_
          simp only [List.getElem_toArray, List.getElem_cons_zero, List.getElem_cons_succ]
          go_simp
          refine wpAnyH_done (by kernel_rfl) ?_ _
          have HR2 : Hid ((W1.setCell ⟨Br, ka, none⟩ (.bool true)).drew.rowIs Br 4 M (setF (setS (sweepF F xs S k) ka))) := setF_set HR1.out
          have HC2 : Hid (Chg (· = Br) W (W1.setCell ⟨Br, ka, none⟩ (.bool true)).drew) := (HC1.out.trans (Chg.set _ _ _ _)).trans (Chg.of_below (below_drewN (Below.refl _ _) 1))
          have HT2 : Hid ((W1.setCell ⟨Br, ka, none⟩ (.bool true)).drew.heap[Bx]? = some (.cells #[.int .i64 q1, .int .i64 q2] 65 (0, 0))) := (blk_setCell_other _ _ _ _ hne2).trans HT1.out
          have u0 : (W1.setCell ⟨Br, ka, none⟩ (.bool true)).drew.cell? ⟨w.heap.size + 1, 0, none⟩ = some (.slice (some ⟨Br, 0, none⟩) M M) := (World.cell?_setCell_other W1 _ _ _ (fun e => hne1 (congrArg Addr.block e).symm)).trans s0
          clear s0 t1 t2 d0 d1
          generalize (W1.setCell ⟨Br, ka, none⟩ (.bool true)).drew = V2 at *
          have t1 : V2.cell? ⟨Bx, 0, none⟩ = some (.int .i64 q1) := by simp [World.cell?, HT2.out]
          have t2 : V2.cell? ⟨Bx, 1, none⟩ = some (.int .i64 q2) := by simp [World.cell?, HT2.out]
          have d0 := HR2.out.cell (i := kb) hkb
          have d1 := HR2.out.frozen kb
          gi_wp2
          refine region_round (S := fun V => V.cell? ⟨w.heap.size + 1, 0, none⟩ = some (.slice (some ⟨Br, 0, none⟩) M M) ∧ V.cell? ⟨Bx, 0, none⟩ = some (.int .i64 q1) ∧ V.cell? ⟨Bx, 1, none⟩ = some (.int .i64 q2)) (by kernel_rfl) (by kernel_rfl) ?lets3 ⟨u0, t1, t2⟩ (fun hHeld => ?walk3)
          case lets3 =>
            rintro ⟨a, v, h⟩
            have h' := (show Exit.outgrown = Exit.normal ∧ _ from h).1
            cases h'
          case walk3 =>
            clear hHeld
            refine wpAnyH_take (i := 0) (v := .slice (some ⟨Br, 0, none⟩) M M) rfl (by kernel_rfl) (by kernel_rfl) (by kernel_rfl) (fun _ _ _ h => h) (Or.inl ⟨by rfl, fun w hS => by obtain ⟨u0, t1, t2⟩ := hS; go_simp⟩) ⟨u0, t1, t2⟩ ?_
            simp only [List.getElem_toArray, List.getElem_cons_zero, Act.put, List.setIfInBounds_toArray, List.set_cons_zero, List.set_cons_succ]
            refine wpAnyH_take (i := 1) (v := .pointer (some ⟨Bx, 1, none⟩)) rfl (by kernel_rfl) (by kernel_rfl) (by kernel_rfl) (fun _ _ _ h => h) (Or.inl ⟨by rfl, fun w hS => by obtain ⟨u0, t1, t2⟩ := hS; go_simp⟩) ⟨u0, t1, t2⟩ ?_
            simp only [List.getElem_toArray, List.getElem_cons_zero, List.getElem_cons_succ, Act.put, List.setIfInBounds_toArray, List.set_cons_zero, List.set_cons_succ]
            refine wpAnyH_take (i := 2) (v := .int .i64 q2) rfl (by kernel_rfl) (by kernel_rfl) (by kernel_rfl) (fun _ _ _ h => h) (Or.inl ⟨by rfl, fun w hS => by obtain ⟨u0, t1, t2⟩ := hS; go_simp⟩) ⟨u0, t1, t2⟩ ?_
            simp only [List.getElem_toArray, List.getElem_cons_zero, List.getElem_cons_succ, Act.put, List.setIfInBounds_toArray, List.set_cons_zero, List.set_cons_succ]
            refine oneH (i := 3) (by kernel_rfl) rfl (by rfl) ?_
            simp only [List.getElem_toArray, List.getElem_cons_zero, List.getElem_cons_succ]
            go_simp
            refine (HNB.out _).mono ?_
            rintro e W2 ⟨rfl, rfl⟩
            refine ⟨⟨u0, t1, t2⟩, ?_⟩
            refine wpAnyH_take (i := 4) (v := .pointer (some ⟨Br, kb, none⟩)) rfl (by kernel_rfl) (by kernel_rfl) (by kernel_rfl) (fun _ _ _ h => h) (Or.inl ⟨by rfl, fun w hS => by obtain ⟨u0, t1, t2⟩ := hS; go_simp⟩) ⟨u0, t1, t2⟩ ?_
            simp only [List.getElem_toArray, List.getElem_cons_zero, List.getElem_cons_succ, Act.put, List.setIfInBounds_toArray, List.set_cons_zero, List.set_cons_succ]
            refine oneH (i := 5) (by kernel_rfl) rfl (by rfl) ?_
            simp only [List.getElem_toArray, List.getElem_cons_zero, List.getElem_cons_succ]
            go_simp
            refine wpAnyH_done (by kernel_rfl) ?_ _
            have hfin := HKT.out _ ((HC2.out.trans (Chg.set _ Br kb (.bool true))).trans (Chg.of_below (below_drewN (Below.refl _ _) 1))) (by rw [HSU.out, HBT.out, if_pos rfl]; exact setF_set HR2.out)
            rw [← hs3] at hfin
            exact ⟨rfl, hfin⟩
  case done =>
    rintro D W hD ⟨hr, hk⟩ hK
    go_wp2
    refine ⟨by simp, .inl ⟨_, _, rfl, run_takeDeferred hK, ?_⟩⟩
    rw [backOf_length] at hr
    refine ⟨_, results_none rfl _ _ _, rfl, hr.of_block (World.putObj_heap_other (by omega)), ?_⟩
    have hg := grownBy_putObj' W D (.deferred none)
    have hc := (Chg.of_below hB3).trans (hk.chg (Nat.le_refl _))
    exact ⟨hg.os.trans hc.os, hg.tape.trans hc.tape, hg.output.trans hc.output, Nat.le_trans hc.size hg.size, fun i hi hn => (World.putObj_heap_other (by omega)).trans (hc.block i hi hn)⟩

end Go.Proofs.Ytbdjdgamnnifjaa

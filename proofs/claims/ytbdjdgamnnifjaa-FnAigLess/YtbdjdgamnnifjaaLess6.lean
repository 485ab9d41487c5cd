/-
  A circuit without what is needless: the model's l3Prune.
-/
import Derived.Test.YtbdjdgamnnifjaaLess5
import Derived.Test.YtbdjdgamnnifjaaNeed6
namespace Go.Proofs.Ytbdjdgamnnifjaa
open Go.RowKit Go.Deep Go.Shelf
set_option linter.unusedVariables false

attribute [local go_sem] Oper.semAt_some

/-- What l3Prune answers. -/
def PrunePost (inp : Int) (F : Nat) (ls : List (Int × Bool)) (xs : List (Int × Int)) (bs : List Int) (w : World) (e : Ending) (w' : World) : Prop :=
  ∃ S, LeastR F xs (rootsOf ls bs) S ∧ LessPost inp (mapLat (pruneS F xs S xs.length).1 ls) (pruneS F xs S xs.length).2 (mapBad (pruneS F xs S xs.length).1 bs) w e w'

set_option maxRecDepth 100000 in
set_option maxHeartbeats 8000000 in
theorem l3Prune_any (inp : Int) (al aa ab : Option Addr) (cl ca cb : Nat) (ls : List (Int × Bool)) (xs : List (Int × Int)) (bs : List Int) (F : Nat) (w : World) (hC : IsCir w al aa ab cl ca cb ls xs bs) (h0 : 0 ≤ inp) (h8 : inp ≤ 8) (hl8 : ls.length ≤ 8) (hx40 : xs.length ≤ 40) (hb4 : bs.length ≤ 4) (hF : (F : Int) = 1 + inp + ls.length) (hA : AndsOk F xs) (hL : ∀ p ∈ ls, 0 ≤ p.1 ∧ p.1 < 2 * ((F : Int) + xs.length)) (hB : ∀ x ∈ bs, 0 ≤ x ∧ x < 2 * ((F : Int) + xs.length)) :
    Calls Try.prog 82 #[.agg #[.int .i64 inp, .slice al ls.length cl, .slice aa xs.length ca, .slice ab bs.length cb]] w (PrunePost inp F ls xs bs w) := by
  have HC : Hid (∀ w', Below w.heap.size w w' → IsCir w' al aa ab cl ca cb ls xs bs) := fun w' h => hC.below h
  have HAA : Hid (∀ k off, aa = some ⟨k, off, none⟩ → k < w.heap.size) := fun k off e => hC.inA k off e
  have HA := hideN hA
  have HL := hideN hL
  have HBD := hideN hB
  have HFF := hideN hF
  obtain ⟨M, hM⟩ : ∃ M : Nat, M = F + xs.length := ⟨_, rfl⟩
  have HMM := hideN hM
  have hMe : inp + (ls.length : Int) + (xs.length : Int) + 1 = (M : Int) := by omega
  have hM100 : M ≤ 60 := by omega
  have hM1 : 1 ≤ M := by omega
  have HME := hideN hMe
  have HL3F : Hid (∀ V, Calls Try.prog 74 #[.agg #[.int .i64 inp, .slice al ls.length cl, .slice aa xs.length ca, .slice ab bs.length cb]] V fun e w' => e = .returned (.int .i64 (F : Int)) ∧ Below V.heap.size V w') := fun V => by rw [hF]; exact l3First_any _ _ _ _ _ _ _ _ _ _ _ h0 h8 hl8
  have hF17 : F ≤ 17 := by omega
  have hF1 : 1 ≤ F := by omega
  obtain ⟨N, hN⟩ : ∃ N : Nat, (N : Int) = inp + (ls.length : Int) + (xs.length : Int) := ⟨(inp + (ls.length : Int) + (xs.length : Int)).toNat, by omega⟩
  have HL3N : Hid (∀ V, Calls Try.prog 68 #[.agg #[.int .i64 inp, .slice al ls.length cl, .slice aa xs.length ca, .slice ab bs.length cb]] V fun e w' => e = .returned (.int .i64 (N : Int)) ∧ Below V.heap.size V w') := fun V => by rw [hN]; exact l3Nodes_any _ _ _ _ _ _ _ _ _ _ _ h0 h8 hl8 hx40
  have hNM : (N : Int) + 1 = (M : Int) := by omega
  have hwM : IntKind.i64.wrap ((N : Int) + 1) = (M : Int) := by rw [IntKind.wrap_i64]; omega
  obtain ⟨ib, hib, hzb0, hzb1, hzb2⟩ := info_parts info_int
  obtain ⟨ia, hia, hza0, hza1, hza2⟩ := info_parts info_and
  obtain ⟨il, hil, hzl0, hzl1, hzl2⟩ := info_parts info_latch
  obtain ⟨W1, hW1⟩ : ∃ W1, W1 = (w.alloc (.cells #[.int .i64 inp, .slice al ls.length cl, .slice aa xs.length ca, .slice ab bs.length cb] 33)).alloc (.cells #[.int .i64 0, .slice none 0 0, .slice none 0 0, .slice none 0 0] 33) := ⟨_, rfl⟩
  have hs1 : W1.heap.size = w.heap.size + 2 := by rw [hW1]; simp
  have HBO : Hid (Own4 W1 w.heap.size 33 (.int .i64 inp) (.slice al ls.length cl) (.slice aa xs.length ca) (.slice ab bs.length cb)) := by rw [hW1]; exact (Own4.new _ _ _ _ _ _).below (belOne _ _)
  have HQO : Hid (Own4 W1 (w.heap.size + 1) 33 (.int .i64 0) (.slice none 0 0) (.slice none 0 0) (.slice none 0 0)) := by
    rw [hW1]
    have hq := Own4.new (w.alloc (.cells #[.int .i64 inp, .slice al ls.length cl, .slice aa xs.length ca, .slice ab bs.length cb] 33)) 33 (.int .i64 0) (.slice none 0 0) (.slice none 0 0) (.slice none 0 0)
    rw [World.size_alloc] at hq
    exact hq
  have HB1 : Hid (Below w.heap.size w W1) := by rw [hW1]; exact belNext (belOne _ _) (belOne _ _)
  have HW1 := hideN hW1
  have c0 := HBO.out.four.c0
  have c1 := HBO.out.four.c1
  have c2 := HBO.out.four.c2
  have c3 := HBO.out.four.c3
  clear hC hA hL hB hF hW1 hM hN hMe
  go_enter Try.func82, Try.ntmps82
  go_wp2_with fail
  rw [← HW1.out]
  refine (HL3N.out _).mono ?_
  rintro e w5 ⟨rfl, hb5⟩
  have HB5 : Hid (Below w.heap.size w w5) := belNext HB1.out hb5
  have HBO5 := hideN (HBO.out.below hb5)
  have HQO5 := hideN (HQO.out.below hb5)
  have hs5 : w.heap.size + 2 ≤ w5.heap.size := by have := hb5.size; omega
  clear hb5 c0 c1 c2 c3 HBO HQO HB1
  have hmk := run_make_row' (P := Try.prog) 27 4 (.bool false) 1 Try.underlying27 info_bool rfl .i64 .i64 M (by omega) (by omega)
  have HP6 : Hid (Pst w (w5.alloc (.cells (madeCells #[.bool false] M) 4)) w.heap.size (w.heap.size + 1) w5.heap.size M inp (.slice al ls.length cl) (.slice aa xs.length ca) (.slice ab bs.length cb) (fun _ => false)) :=
    ⟨HBO5.out.below (belOne _ _), HQO5.out.below (belOne _ _), (World.rowIs_made w5 _ M 4).congr (fun j _ => rfl), belNext HB5.out (belOne _ _), Nat.le_refl _, by omega, by omega, by omega, by omega, by omega⟩
  have HMARK : Hid (∀ (lit : Int) (S : Nat → Bool) (R : List Nat) (V : World), 0 ≤ lit → lit < 2 * ((F : Int) + xs.length) → LeastR F xs R S → Pst w V w.heap.size (w.heap.size + 1) w5.heap.size M inp (.slice al ls.length cl) (.slice aa xs.length ca) (.slice ab bs.length cb) S → Calls Try.prog 69 #[.agg #[.int .i64 inp, .slice al ls.length cl, .slice aa xs.length ca, .slice ab bs.length cb], .slice (some ⟨w5.heap.size, 0, none⟩) M M, .int .i64 lit] V fun e w' => e = .returned (.tuple #[]) ∧ ∃ S', LeastR F xs (R ++ [(lit / 2).toNat]) S' ∧ Pst w w' w.heap.size (w.heap.size + 1) w5.heap.size M inp (.slice al ls.length cl) (.slice aa xs.length ca) (.slice ab bs.length cb) S') := fun lit S R V g0 g1 hr hp => by
    have hMM := HMM.out
    refine (l3Mark_any inp al aa ab cl ca cb ls xs bs w5.heap.size M F h0 h8 hl8 hx40 HFF.out HMM.out (aheadA HA.out) (smallA HA.out (by omega)) (fun k off e => by have := HAA.out k off e; omega) (lit / 2).toNat lit M S V (by omega) g0 (by omega) (by omega) (by omega) (hr.cb M) (HC.out _ hp.bel).isA hp.row).mono ?_
    rintro e w6 ⟨rfl, S', hmp, hr6, hc6⟩
    exact ⟨rfl, S', hr.more hmp (by omega), hp.mark hr6 hc6⟩
  clear HBO5 HQO5 HB5
  have c4 : w.heap.size + 2 ≤ w5.heap.size := hs5
  have HR0 : Hid (LeastR F xs (nodesL ((ls.map Prod.fst).take 0)) (fun _ => false)) := LeastR.nil F xs
  go_wp2_with fail
  go_loopw [4] (fun i wr => ∃ j S, j ≤ ls.length ∧ i = .int .i64 (j : Nat) ∧ Hid (LeastR F xs (nodesL ((ls.map Prod.fst).take j)) S) ∧ Hid (Pst w wr w.heap.size (w.heap.size + 1) w5.heap.size M inp (.slice al ls.length cl) (.slice aa xs.length ca) (.slice ab bs.length cb) S)) (fun i _ => ls.length - (intOf i).toNat)
  case atStart => exact ⟨0, _, Nat.zero_le _, rfl, HR0, HP6⟩
  case round =>
    rename World => wg
    obtain ⟨j, S, hj, rfl, hr, hp⟩ := hrel
    have s1 := hp.out.b.four.c1
    by_cases hlt : j < ls.length
    · obtain ⟨bl, off, hao, hbb, hxc⟩ : ∃ bl off, al = some ⟨bl, off, none⟩ ∧ bl < w.heap.size ∧ ∀ W, Below w.heap.size w W → W.cell? ⟨bl, off + j * 2, none⟩ = some (.int .i64 (ls.getD j (0, false)).1) := by
        obtain ⟨ao', cap', he, h⟩ := (HC.out w (Below.refl _ _)).isL
        obtain ⟨bl, off, ha, hc⟩ := h (by intro e; subst e; simp at hlt)
        injection he with e1 e2 e3
        refine ⟨bl, off, e1.trans ha, cell_lt (hc j hlt).1, fun W hW => ?_⟩
        obtain ⟨q1, q2⟩ := hc j hlt
        exact (hW.cell (p := ⟨bl, off + j * 2, none⟩) (cell_lt q1)).trans q1
      subst hao
      have hmem : ls.getD j (0, false) ∈ ls := by rw [List.getD, List.getElem?_eq_getElem hlt]; simp
      obtain ⟨hn0, hn1⟩ := HL.out _ hmem
      have HSU : Hid (nodesL ((ls.map Prod.fst).take (j + 1)) = nodesL ((ls.map Prod.fst).take j) ++ [((ls.getD j (0, false)).1 / 2).toNat]) := by
        show _ = _
        rw [nodesL_take_succ _ _ (by simpa using hlt)]
        simp [List.getD, hlt]
      generalize (ls.getD j (0, false)).1 = nx at *
      have s0 := hp.out.b.four.c0
      have s2 := hp.out.b.four.c2
      have s3 := hp.out.b.four.c3
      have s4 : wg.cell? ⟨bl, off + j * 2, none⟩ = some (.int .i64 nx) := hxc _ hp.out.bel
      have HXC := hideN hxc
      clear hxc hmem
      go_wp2_with fail
      refine wp_region_held (S := fun V => V.cell? ⟨w.heap.size, 0, none⟩ = some (.int .i64 inp) ∧ V.cell? ⟨w.heap.size, 1, none⟩ = some (.slice (some ⟨bl, off, none⟩) ls.length cl) ∧ V.cell? ⟨w.heap.size, 2, none⟩ = some (.slice aa xs.length ca) ∧ V.cell? ⟨w.heap.size, 3, none⟩ = some (.slice ab bs.length cb) ∧ V.cell? ⟨bl, off + j * 2, none⟩ = some (.int .i64 nx)) (by kernel_rfl) ?_
      refine wpAnyH_take (i := 0) (v := .agg #[.int .i64 inp, .slice (some ⟨bl, off, none⟩) ls.length cl, .slice aa xs.length ca, .slice ab bs.length cb]) rfl (by kernel_rfl) (by kernel_rfl) (by kernel_rfl) (fun _ _ _ h => h) (Or.inl ⟨by rfl, fun w hS => by obtain ⟨s0, s1, s2, s3, s4⟩ := hS; go_simp⟩) ⟨s0, s1, s2, s3, s4⟩ ?_
      simp only [List.getElem_toArray, List.getElem_cons_zero, Act.put, List.setIfInBounds_toArray, List.set_cons_zero, List.set_cons_succ]
      refine wpAnyH_take (i := 1) (v := .slice (some ⟨w5.heap.size, 0, none⟩) M M) rfl (by kernel_rfl) (by kernel_rfl) (by kernel_rfl) (fun _ _ _ h => h) (Or.inl ⟨by rfl, fun w hS => by obtain ⟨s0, s1, s2, s3, s4⟩ := hS; go_simp⟩) ⟨s0, s1, s2, s3, s4⟩ ?_
      simp only [List.getElem_toArray, List.getElem_cons_zero, List.getElem_cons_succ, Act.put, List.setIfInBounds_toArray, List.set_cons_zero, List.set_cons_succ]
      refine wpAnyH_take (i := 2) (v := .pointer (some ⟨w.heap.size, 1, none⟩)) rfl (by kernel_rfl) (by kernel_rfl) (by kernel_rfl) (fun _ _ _ h => h) (Or.inl ⟨by rfl, fun w hS => by obtain ⟨s0, s1, s2, s3, s4⟩ := hS; go_simp⟩) ⟨s0, s1, s2, s3, s4⟩ ?_
      simp only [List.getElem_toArray, List.getElem_cons_zero, List.getElem_cons_succ, Act.put, List.setIfInBounds_toArray, List.set_cons_zero, List.set_cons_succ]
      refine wpAnyH_take (i := 3) (v := .slice (some ⟨bl, off, none⟩) ls.length cl) rfl (by kernel_rfl) (by kernel_rfl) (by kernel_rfl) (fun _ _ _ h => h) (Or.inl ⟨by rfl, fun w hS => by obtain ⟨s0, s1, s2, s3, s4⟩ := hS; go_simp⟩) ⟨s0, s1, s2, s3, s4⟩ ?_
      simp only [List.getElem_toArray, List.getElem_cons_zero, List.getElem_cons_succ, Act.put, List.setIfInBounds_toArray, List.set_cons_zero, List.set_cons_succ]
      refine wpAnyH_take (i := 4) (v := .int .i64 (j : Int)) rfl (by kernel_rfl) (by kernel_rfl) (by kernel_rfl) (fun _ _ _ h => h) (Or.inl ⟨by rfl, fun w hS => by obtain ⟨s0, s1, s2, s3, s4⟩ := hS; go_simp⟩) ⟨s0, s1, s2, s3, s4⟩ ?_
      simp only [List.getElem_toArray, List.getElem_cons_zero, List.getElem_cons_succ, Act.put, List.setIfInBounds_toArray, List.set_cons_zero, List.set_cons_succ]
      refine wpAnyH_take (i := 5) (v := .pointer (some ⟨bl, off + j * 2, none⟩)) rfl (by kernel_rfl) (by kernel_rfl) (by kernel_rfl) (fun _ _ _ h => h) (Or.inl ⟨by rfl, fun w hS => by obtain ⟨s0, s1, s2, s3, s4⟩ := hS; go_simp⟩) ⟨s0, s1, s2, s3, s4⟩ ?_
      simp only [List.getElem_toArray, List.getElem_cons_zero, List.getElem_cons_succ, Act.put, List.setIfInBounds_toArray, List.set_cons_zero, List.set_cons_succ]
      refine wpAnyH_take (i := 6) (v := .pointer (some ⟨bl, off + j * 2, none⟩)) rfl (by kernel_rfl) (by kernel_rfl) (by kernel_rfl) (fun _ _ _ h => h) (Or.inl ⟨by rfl, fun w hS => by obtain ⟨s0, s1, s2, s3, s4⟩ := hS; go_simp⟩) ⟨s0, s1, s2, s3, s4⟩ ?_
      simp only [List.getElem_toArray, List.getElem_cons_zero, List.getElem_cons_succ, Act.put, List.setIfInBounds_toArray, List.set_cons_zero, List.set_cons_succ]
      refine wpAnyH_take (i := 7) (v := .int .i64 nx) rfl (by kernel_rfl) (by kernel_rfl) (by kernel_rfl) (fun _ _ _ h => h) (Or.inl ⟨by rfl, fun w hS => by obtain ⟨s0, s1, s2, s3, s4⟩ := hS; go_simp⟩) ⟨s0, s1, s2, s3, s4⟩ ?_
      simp only [List.getElem_toArray, List.getElem_cons_zero, List.getElem_cons_succ, Act.put, List.setIfInBounds_toArray, List.set_cons_zero, List.set_cons_succ]
      refine oneH (i := 8) (by kernel_rfl) rfl (by rfl) ?_
      simp only [List.getElem_toArray, List.getElem_cons_zero, List.getElem_cons_succ]
      go_simp
      refine (HMARK.out nx S _ _ hn0 hn1 hr.out (hp.out.below (below_drewN (Below.refl _ _) 1))).mono ?_
      rintro e w6 ⟨rfl, S', hr6, hp6⟩
      have HR6 : Hid (LeastR F xs (nodesL ((ls.map Prod.fst).take (j + 1))) S') := by show LeastR _ _ _ _; rw [HSU.out]; exact hr6
      have HP7 := hideN hp6
      clear hr6 hp6 s0 s1 s2 s3 s4 hp
      have s0 := HP7.out.b.four.c0
      have s1 := HP7.out.b.four.c1
      have s2 := HP7.out.b.four.c2
      have s3 := HP7.out.b.four.c3
      have s4 := HXC.out _ HP7.out.bel
      refine ⟨⟨s0, s1, s2, s3, s4⟩, ?_⟩
      refine wpAnyH_done (by kernel_rfl) ?_ _
      clear s0 s1 s2 s3 s4
      go_wp2_with fail
      go_roundw
      case rel => exact ⟨j + 1, S', by omega, by go_num, HR6, HP7⟩
      case measure => simp [intOf]; omega
    · obtain rfl : j = ls.length := by omega
      have HR1 : Hid (LeastR F xs (nodesL (ls.map Prod.fst) ++ nodesL (bs.take 0)) S) := by have h := hr.out; rw [List.take_of_length_le (by simp)] at h; show LeastR _ _ _ _; rw [List.take_zero, show nodesL [] = [] from rfl, List.append_nil]; exact h
      clear hj hlt hr
      go_wp2_with fail
      go_loopw [5] (fun i wr => ∃ j S, j ≤ bs.length ∧ i = .int .i64 (j : Nat) ∧ Hid (LeastR F xs (nodesL (ls.map Prod.fst) ++ nodesL (bs.take j)) S) ∧ Hid (Pst w wr w.heap.size (w.heap.size + 1) w5.heap.size M inp (.slice al ls.length cl) (.slice aa xs.length ca) (.slice ab bs.length cb) S)) (fun i _ => bs.length - (intOf i).toNat)
      case atStart => exact ⟨0, _, Nat.zero_le _, rfl, HR1, hp⟩
      case round =>
        rename World => wi
        obtain ⟨j, S, hj, rfl, hr, hp⟩ := hrel
        have s3 := hp.out.b.four.c3
        by_cases hlt : j < bs.length
        · obtain ⟨bb, off, hao, hbb, hxc⟩ : ∃ bb off, ab = some ⟨bb, off, none⟩ ∧ bb < w.heap.size ∧ ∀ W, Below w.heap.size w W → W.cell? ⟨bb, off + j, none⟩ = some (.int .i64 (bs.getD j 0)) := by
            obtain ⟨ao', cap', he, h⟩ := (HC.out w (Below.refl _ _)).isB
            obtain ⟨bb, off, ha, hc⟩ := h (by intro e; subst e; simp at hlt)
            injection he with e1 e2 e3
            refine ⟨bb, off, e1.trans ha, cell_lt (hc j hlt), fun W hW => ?_⟩
            exact (hW.cell (p := ⟨bb, off + j, none⟩) (cell_lt (hc j hlt))).trans (hc j hlt)
          subst hao
          have hmem : bs.getD j 0 ∈ bs := by rw [List.getD, List.getElem?_eq_getElem hlt]; simp
          obtain ⟨hn0, hn1⟩ := HBD.out _ hmem
          have HSU : Hid (nodesL (ls.map Prod.fst) ++ nodesL (bs.take (j + 1)) = (nodesL (ls.map Prod.fst) ++ nodesL (bs.take j)) ++ [(bs.getD j 0 / 2).toNat]) := by
            show _ = _
            rw [nodesL_take_succ _ _ hlt, List.append_assoc]
          generalize bs.getD j 0 = nx at *
          have s0 := hp.out.b.four.c0
          have s1 := hp.out.b.four.c1
          have s2 := hp.out.b.four.c2
          have s4 : wi.cell? ⟨bb, off + j, none⟩ = some (.int .i64 nx) := hxc _ hp.out.bel
          have HXC := hideN hxc
          clear hxc hmem
          go_wp2_with fail
          refine wp_region_held (S := fun V => V.cell? ⟨w.heap.size, 0, none⟩ = some (.int .i64 inp) ∧ V.cell? ⟨w.heap.size, 1, none⟩ = some (.slice al ls.length cl) ∧ V.cell? ⟨w.heap.size, 2, none⟩ = some (.slice aa xs.length ca) ∧ V.cell? ⟨w.heap.size, 3, none⟩ = some (.slice (some ⟨bb, off, none⟩) bs.length cb) ∧ V.cell? ⟨bb, off + j, none⟩ = some (.int .i64 nx)) (by kernel_rfl) ?_
          refine wpAnyH_take (i := 0) (v := .agg #[.int .i64 inp, .slice al ls.length cl, .slice aa xs.length ca, .slice (some ⟨bb, off, none⟩) bs.length cb]) rfl (by kernel_rfl) (by kernel_rfl) (by kernel_rfl) (fun _ _ _ h => h) (Or.inl ⟨by rfl, fun w hS => by obtain ⟨s0, s1, s2, s3, s4⟩ := hS; go_simp⟩) ⟨s0, s1, s2, s3, s4⟩ ?_
          simp only [List.getElem_toArray, List.getElem_cons_zero, Act.put, List.setIfInBounds_toArray, List.set_cons_zero, List.set_cons_succ]
          refine wpAnyH_take (i := 1) (v := .slice (some ⟨w5.heap.size, 0, none⟩) M M) rfl (by kernel_rfl) (by kernel_rfl) (by kernel_rfl) (fun _ _ _ h => h) (Or.inl ⟨by rfl, fun w hS => by obtain ⟨s0, s1, s2, s3, s4⟩ := hS; go_simp⟩) ⟨s0, s1, s2, s3, s4⟩ ?_
          simp only [List.getElem_toArray, List.getElem_cons_zero, List.getElem_cons_succ, Act.put, List.setIfInBounds_toArray, List.set_cons_zero, List.set_cons_succ]
          refine wpAnyH_take (i := 2) (v := .pointer (some ⟨w.heap.size, 3, none⟩)) rfl (by kernel_rfl) (by kernel_rfl) (by kernel_rfl) (fun _ _ _ h => h) (Or.inl ⟨by rfl, fun w hS => by obtain ⟨s0, s1, s2, s3, s4⟩ := hS; go_simp⟩) ⟨s0, s1, s2, s3, s4⟩ ?_
          simp only [List.getElem_toArray, List.getElem_cons_zero, List.getElem_cons_succ, Act.put, List.setIfInBounds_toArray, List.set_cons_zero, List.set_cons_succ]
          refine wpAnyH_take (i := 3) (v := .slice (some ⟨bb, off, none⟩) bs.length cb) rfl (by kernel_rfl) (by kernel_rfl) (by kernel_rfl) (fun _ _ _ h => h) (Or.inl ⟨by rfl, fun w hS => by obtain ⟨s0, s1, s2, s3, s4⟩ := hS; go_simp⟩) ⟨s0, s1, s2, s3, s4⟩ ?_
          simp only [List.getElem_toArray, List.getElem_cons_zero, List.getElem_cons_succ, Act.put, List.setIfInBounds_toArray, List.set_cons_zero, List.set_cons_succ]
          refine wpAnyH_take (i := 4) (v := .int .i64 (j : Int)) rfl (by kernel_rfl) (by kernel_rfl) (by kernel_rfl) (fun _ _ _ h => h) (Or.inl ⟨by rfl, fun w hS => by obtain ⟨s0, s1, s2, s3, s4⟩ := hS; go_simp⟩) ⟨s0, s1, s2, s3, s4⟩ ?_
          simp only [List.getElem_toArray, List.getElem_cons_zero, List.getElem_cons_succ, Act.put, List.setIfInBounds_toArray, List.set_cons_zero, List.set_cons_succ]
          refine wpAnyH_take (i := 5) (v := .pointer (some ⟨bb, off + j, none⟩)) rfl (by kernel_rfl) (by kernel_rfl) (by kernel_rfl) (fun _ _ _ h => h) (Or.inl ⟨by rfl, fun w hS => by obtain ⟨s0, s1, s2, s3, s4⟩ := hS; go_simp⟩) ⟨s0, s1, s2, s3, s4⟩ ?_
          simp only [List.getElem_toArray, List.getElem_cons_zero, List.getElem_cons_succ, Act.put, List.setIfInBounds_toArray, List.set_cons_zero, List.set_cons_succ]
          refine wpAnyH_take (i := 6) (v := .int .i64 nx) rfl (by kernel_rfl) (by kernel_rfl) (by kernel_rfl) (fun _ _ _ h => h) (Or.inl ⟨by rfl, fun w hS => by obtain ⟨s0, s1, s2, s3, s4⟩ := hS; go_simp⟩) ⟨s0, s1, s2, s3, s4⟩ ?_
          simp only [List.getElem_toArray, List.getElem_cons_zero, List.getElem_cons_succ, Act.put, List.setIfInBounds_toArray, List.set_cons_zero, List.set_cons_succ]
          refine oneH (i := 7) (by kernel_rfl) rfl (by rfl) ?_
          simp only [List.getElem_toArray, List.getElem_cons_zero, List.getElem_cons_succ]
          go_simp
          refine (HMARK.out nx S _ _ hn0 hn1 hr.out (hp.out.below (below_drewN (Below.refl _ _) 1))).mono ?_
          rintro e w6 ⟨rfl, S', hr6, hp6⟩
          have HR6 : Hid (LeastR F xs (nodesL (ls.map Prod.fst) ++ nodesL (bs.take (j + 1))) S') := by show LeastR _ _ _ _; rw [HSU.out]; exact hr6
          have HP7 := hideN hp6
          clear hr6 hp6 s0 s1 s2 s3 s4 hp
          have s0 := HP7.out.b.four.c0
          have s1 := HP7.out.b.four.c1
          have s2 := HP7.out.b.four.c2
          have s3 := HP7.out.b.four.c3
          have s4 := HXC.out _ HP7.out.bel
          refine ⟨⟨s0, s1, s2, s3, s4⟩, ?_⟩
          refine wpAnyH_done (by kernel_rfl) ?_ _
          clear s0 s1 s2 s3 s4
          go_wp2_with fail
          go_roundw
          case rel => exact ⟨j + 1, S', by omega, by go_num, HR6, HP7⟩
          case measure => simp [intOf]; omega
        · obtain rfl : j = bs.length := by omega
          have HRR : Hid (LeastR F xs (rootsOf ls bs) S) := by have h := hr.out; rw [List.take_length] at h; exact h
          have s0 := hp.out.b.four.c0
          obtain ⟨W7, hW7⟩ : ∃ W7, W7 = wi.alloc (.cells #[.int .i64 inp, .slice none 0 0, .slice none 0 0, .slice none 0 0] 33) := ⟨_, rfl⟩
          have hbb1 := hp.out.b.lt
          have hqq1 := hp.out.q.lt
          have hnn1 := hp.out.row.lt
          have HST0 : Hid (Fst w W7 w.heap.size (w.heap.size + 1) wi.heap.size (wi.heap.size + 1) inp (.slice al ls.length cl) (.slice aa xs.length ca) (.slice ab bs.length cb) (.slice none 0 0) (.slice none 0 0) (.slice none 0 0)) := by
            rw [hW7]
            exact ⟨hp.out.b.below (belOne _ _), hp.out.q.below (belOne _ _), Own4.new _ _ _ _ _ _, belNext hp.out.bel (belOne _ _), Nat.le_refl _, by omega, by omega, by omega, by omega, by omega, by omega, by omega, by omega, by simp⟩
          have HRW0 : Hid (W7.rowIs w5.heap.size 4 M (setF S)) := by rw [hW7]; exact hp.out.row.of_block ((belOne _ _).block _ hp.out.row.lt)
          have hs7 : W7.heap.size = wi.heap.size + 1 := by rw [hW7]; simp
          have HST1 := hideN (HST0.out.below (belOne W7 (.cells #[] 3)))
          have HRW1 := hideN (HRW0.out.of_block ((belOne W7 (.cells #[] 3)).block _ HRW0.out.lt))
          have HTO1 : Hid (Owni (W7.alloc (.cells #[] 3)) (wi.heap.size + 1) (.slice (some ⟨wi.heap.size + 1, 0, none⟩) 0 0) (prS F xs S 0).1) := by
            have h := owni_empty W7
            rw [hs7] at h
            rw [prS_zero]
            exact h
          have HAN1 : Hid ((W7.alloc (.cells #[] 3)).ownsRow (wi.heap.size + 1) 65 2 (.slice none 0 0) 0 (andV (prS F xs S 0).2)) := by rw [prS_zero]; exact World.ownsRow_nil _ _ _ _
          have HW7 := hideN hW7
          have HNL0 : Hid ((prS F xs S 0).2.length = 0) := by rw [prS_zero]; exact rfl
          clear hj hlt hr hp hW7 hs7 HR0 HR1 HST0 HRW0
          go_wp2_with fail
          rw [← HW7.out]
          go_loopw [7, 8] (fun t i wr => ∃ at' cp av n cv k, k ≤ M ∧ i = .int .i64 (k : Nat) ∧ t = .slice at' k cp ∧ n ≤ k ∧ Hid ((prS F xs S k).2.length = n) ∧ Hid (Owni wr (wi.heap.size + 1) (.slice at' k cp) (prS F xs S k).1) ∧ Hid (wr.ownsRow (wi.heap.size + 1) 65 2 (.slice av n cv) n (andV (prS F xs S k).2)) ∧ Hid (wr.rowIs w5.heap.size 4 M (setF S)) ∧ Hid (Fst w wr w.heap.size (w.heap.size + 1) wi.heap.size (wi.heap.size + 1) inp (.slice al ls.length cl) (.slice aa xs.length ca) (.slice ab bs.length cb) (.slice none 0 0) (.slice av n cv) (.slice none 0 0))) (fun _ i _ => M - (intOf i).toNat)
          case atStart => exact ⟨_, 0, none, 0, 0, 0, Nat.zero_le _, rfl, rfl, Nat.le_refl _, HNL0, HTO1, HAN1, HRW1, HST1⟩
          case round =>
            rename World => wg
            obtain ⟨at', cp, av, n, cv, k, hk, rfl, rfl, hnk, hn, hto, han, hrw, hst⟩ := hrel
            have c0 := hst.out.b.four.c0
            have c1 := hst.out.b.four.c1
            have c2 := hst.out.b.four.c2
            have c3 := hst.out.b.four.c3
            go_wp2_with fail
            refine (HL3N.out _).mono ?_
            rintro e w7 ⟨rfl, hb7⟩
            have HTO := hideN (hto.out.below hb7)
            have HAN := hideN (row_below han.out hb7)
            have HRW := hideN (hrw.out.of_block (hb7.block _ hrw.out.lt))
            have HST := hideN (hst.out.below hb7)
            clear hb7 hto han hrw hst c0 c1 c2 c3
            by_cases hlt : k < M
            · have dlt : decide ((k : Int) ≤ (N : Int)) = true := by simp; omega
              have c0 := HST.out.b.four.c0
              have c1 := HST.out.b.four.c1
              have c2 := HST.out.b.four.c2
              have c3 := HST.out.b.four.c3
              go_wp2_with fail
              refine (HL3F.out _).mono ?_
              rintro e w8 ⟨rfl, hb8⟩
              have HTO8 := hideN (HTO.out.below hb8)
              have HAN8 := hideN (row_below HAN.out hb8)
              have HRW8 := hideN (HRW.out.of_block (hb8.block _ HRW.out.lt))
              have HST8 := hideN (HST.out.below hb8)
              clear hb8 HTO HAN HRW HST c0 c1 c2 c3
              have hpo := prS_ok hF1 HA.out S (n := k) (by have := HMM.out; omega)
              have HPO := hideN hpo
              have hlen := hpo.1
              have hll := HST8.out.ll
              clear hpo
              have HLEN := hideN hlen
              clear hlen
              by_cases hkF : k < F
              · have dlF : decide ((k : Int) < (F : Int)) = true := by simp; omega
                have HNEW := hideN (prS_lo (xs := xs) (S := S) hkF)
                have HOM : Hid ((w8.alloc (.cells #[.int .i64 (2 * (k : Int))] 3)).ownsRow (wi.heap.size + 1) 3 1 (.slice at' k cp) k ((prS F xs S k).1.map (Value.int .i64))) := by have h := HTO8.out.below (belOne w8 (.cells #[.int .i64 (2 * (k : Int))] 3)); unfold Owni at h; rw [HLEN.out] at h; exact h
                go_wp2_with (at_builtin; refine wpList_append_lies _ rfl _ _ 24 rfl (wi.heap.size + 1) 3 ib (.int .i64 0) 1 8 Try.underlying24 hib hzb0 hzb1 hzb2 rfl (by decide) _ k ((prS F xs S k).1.map (Value.int .i64)) rfl HOM.out ⟨w8.heap.size, 0, none⟩ 1 1 [.int .i64 (2 * (k : Int))] rfl rfl (newsN _ _ _) (ints_oneCell .i64 [2 * (k : Int)]) (by decide) (by unfold maxLen; omega) (by omega) (by simp; omega) _ rfl ?_; intro g gcap w9 hown9 hgrow9 hat9 hlt9)
                have HO9 : Hid (Owni w9 (wi.heap.size + 1) (.slice (some ⟨g, 0, none⟩) (k + 1) gcap) (prS F xs S (k + 1)).1) := by
                  show Owni _ _ _ _
                  unfold Owni
                  rw [HNEW.out, List.length_append, HLEN.out, List.map_append]
                  exact hown9
                have HA9 : Hid (w9.ownsRow (wi.heap.size + 1) 65 2 (.slice av n cv) n (andV (prS F xs S (k + 1)).2)) := by
                  show World.ownsRow _ _ _ _ _ _ _
                  rw [HNEW.out]
                  have h := row_below HAN8.out (belOne w8 (.cells #[.int .i64 (2 * (k : Int))] 3))
                  exact row_of_block h (fun q e => hgrow9.block q (World.ownsRow.lt h q e).2 (fun e2 => rows_apart h HOM.out (by decide) q e e2.symm))
                have HR9 := hideN (rowIs_grown (HRW8.out.of_block ((belOne w8 (.cells #[.int .i64 (2 * (k : Int))] 3)).block _ HRW8.out.lt)) hgrow9 HOM.out (by omega))
                have HS9 := hideN ((HST8.out.below (belOne _ _)).grown hgrow9 (fun q e => (World.ownsRow.lt HOM.out q e).1))
                have HN9 : Hid ((prS F xs S (k + 1)).2.length = n) := by show _ = _; rw [HNEW.out]; exact hn.out
                clear hown9 hgrow9 hat9 hlt9
                go_wp2_with fail
                go_roundw
                case rel => exact ⟨_, gcap, _, n, _, k + 1, by omega, by go_num, rfl, by omega, HN9, HO9, HA9, HR9, HS9⟩
                case measure => simp [intOf]; omega
              · have dlF : decide ((k : Int) < (F : Int)) = false := by simp; omega
                have hwk : IntKind.i64.wrap ((F : Int) + (n : Int)) = (F : Int) + (n : Int) := by rw [IntKind.wrap_i64]; omega
                have hwk2 : IntKind.i64.wrap (2 * ((F : Int) + (n : Int))) = 2 * ((F : Int) + (n : Int)) := by rw [IntKind.wrap_i64]; omega
                obtain ⟨j, hj⟩ : ∃ j, j = k - F := ⟨_, rfl⟩
                have hjx : j < xs.length := by have := HMM.out; omega
                have hsub : IntKind.i64.wrap ((k : Int) - (F : Int)) = (j : Int) := by rw [IntKind.wrap_i64]; omega
                have HJ := hideN hj
                obtain ⟨T, hT⟩ : ∃ T, T = (prS F xs S k).1 ++ [2 * ((F : Int) + (n : Int))] := ⟨_, rfl⟩
                have HTD := hideN hT
                have HTOK : Hid (ToOk T (k + 1) (F + n + 1)) := by
                  show ToOk _ _ _
                  rw [hT]
                  exact ToOk.snoc (m := F + n + 1) ⟨HLEN.out, fun i hi => by have := HPO.out.2.2 i hi; have := hn.out; omega⟩ (Nat.le_refl _) (by omega) (by omega)
                have HSTEP : Hid (prS F xs S (k + 1) = if S k = true then (T, (prS F xs S k).2 ++ [(mapL T (xs.getD j (0, 0)).1, mapL T (xs.getD j (0, 0)).2)]) else (T, (prS F xs S k).2)) := by
                  show _ = _
                  rw [prS_hi (by omega), ← hj]
                  unfold pruneStep
                  simp only [hn.out, ← hT, show F + j = k by omega]
                clear hT hj
                have s0 := HST8.out.c.four.c2
                have s1 := HST8.out.b.four.c0
                have s2 := HST8.out.b.four.c1
                have s3 := HST8.out.b.four.c2
                have s4 := HST8.out.b.four.c3
                go_wp2_with fail
                refine wp_region_held (S := fun V => V.cell? ⟨wi.heap.size, 2, none⟩ = some (.slice av n cv) ∧ V.cell? ⟨w.heap.size, 0, none⟩ = some (.int .i64 inp) ∧ V.cell? ⟨w.heap.size, 1, none⟩ = some (.slice al ls.length cl) ∧ V.cell? ⟨w.heap.size, 2, none⟩ = some (.slice aa xs.length ca) ∧ V.cell? ⟨w.heap.size, 3, none⟩ = some (.slice ab bs.length cb)) (by kernel_rfl) ?_
                refine wpAnyH_take (i := 0) (v := .slice at' k cp) rfl (by kernel_rfl) (by kernel_rfl) (by kernel_rfl) (fun _ _ _ h => h) (Or.inl ⟨by rfl, fun w hS => by obtain ⟨s0, s1, s2, s3, s4⟩ := hS; go_simp⟩) ⟨s0, s1, s2, s3, s4⟩ ?_
                simp only [List.getElem_toArray, List.getElem_cons_zero, Act.put, List.setIfInBounds_toArray, List.set_cons_zero, List.set_cons_succ]
                refine wpAnyH_take (i := 1) (v := .agg #[.int .i64 inp, .slice al ls.length cl, .slice aa xs.length ca, .slice ab bs.length cb]) rfl (by kernel_rfl) (by kernel_rfl) (by kernel_rfl) (fun _ _ _ h => h) (Or.inl ⟨by rfl, fun w hS => by obtain ⟨s0, s1, s2, s3, s4⟩ := hS; go_simp⟩) ⟨s0, s1, s2, s3, s4⟩ ?_
                simp only [List.getElem_toArray, List.getElem_cons_zero, List.getElem_cons_succ, Act.put, List.setIfInBounds_toArray, List.set_cons_zero, List.set_cons_succ]
                refine wpAnyH_take (i := 3) (v := .pointer (some ⟨wi.heap.size, 2, none⟩)) rfl (by kernel_rfl) (by kernel_rfl) (by kernel_rfl) (fun _ _ _ h => h) (Or.inl ⟨by rfl, fun w hS => by obtain ⟨s0, s1, s2, s3, s4⟩ := hS; go_simp⟩) ⟨s0, s1, s2, s3, s4⟩ ?_
                simp only [List.getElem_toArray, List.getElem_cons_zero, List.getElem_cons_succ, Act.put, List.setIfInBounds_toArray, List.set_cons_zero, List.set_cons_succ]
                refine wpAnyH_take (i := 4) (v := .slice av n cv) rfl (by kernel_rfl) (by kernel_rfl) (by kernel_rfl) (fun _ _ _ h => h) (Or.inl ⟨by rfl, fun w hS => by obtain ⟨s0, s1, s2, s3, s4⟩ := hS; go_simp⟩) ⟨s0, s1, s2, s3, s4⟩ ?_
                simp only [List.getElem_toArray, List.getElem_cons_zero, List.getElem_cons_succ, Act.put, List.setIfInBounds_toArray, List.set_cons_zero, List.set_cons_succ]
                refine wpAnyH_take (i := 5) (v := .int .i64 (n : Int)) rfl (by kernel_rfl) (by kernel_rfl) (by kernel_rfl) (fun _ _ _ h => h) (Or.inl ⟨by rfl, fun w hS => by obtain ⟨s0, s1, s2, s3, s4⟩ := hS; go_simp⟩) ⟨s0, s1, s2, s3, s4⟩ ?_
                simp only [List.getElem_toArray, List.getElem_cons_zero, List.getElem_cons_succ, Act.put, List.setIfInBounds_toArray, List.set_cons_zero, List.set_cons_succ]
                refine oneH (i := 2) (by kernel_rfl) rfl (by rfl) ?_
                simp only [List.getElem_toArray, List.getElem_cons_zero, List.getElem_cons_succ]
                go_simp
                refine (HL3F.out _).mono ?_
                rintro e w3 ⟨rfl, hb3'⟩
                have hb3 : Below w8.heap.size w8 w3 := (by first | exact hb3' | exact undrew hb3' | exact (by simpa using hb3'))
                have HTO3 := hideN (HTO8.out.below hb3)
                have HAN3 := hideN (row_below HAN8.out hb3)
                have HRW3 := hideN (HRW8.out.of_block (hb3.block _ HRW8.out.lt))
                have HST3 := hideN (HST8.out.below hb3)
                clear hb3 hb3' s0 s1 s2 s3 s4 HTO8 HAN8 HRW8 HST8
                have s0 := HST3.out.c.four.c2
                have s1 := HST3.out.b.four.c0
                have s2 := HST3.out.b.four.c1
                have s3 := HST3.out.b.four.c2
                have s4 := HST3.out.b.four.c3
                have s5 := HST3.out.b.lt
                have s7 := HST3.out.c.lt
                refine ⟨⟨s0, s1, s2, s3, s4⟩, ?_⟩
                refine wpAnyH_take (i := 6) (v := .int .i64 ((F : Int) + (n : Int))) rfl (by kernel_rfl) (by kernel_rfl) (by kernel_rfl) (fun _ _ _ h => h) (Or.inl ⟨by rfl, fun w hS => by obtain ⟨s0, s1, s2, s3, s4⟩ := hS; go_simp⟩) ⟨s0, s1, s2, s3, s4⟩ ?_
                simp only [List.getElem_toArray, List.getElem_cons_zero, List.getElem_cons_succ, Act.put, List.setIfInBounds_toArray, List.set_cons_zero, List.set_cons_succ]
                refine wpAnyH_take (i := 7) (v := .int .i64 (2 * ((F : Int) + (n : Int)))) rfl (by kernel_rfl) (by kernel_rfl) (by kernel_rfl) (fun _ _ _ h => h) (Or.inl ⟨by rfl, fun w hS => by obtain ⟨s0, s1, s2, s3, s4⟩ := hS; go_simp⟩) ⟨s0, s1, s2, s3, s4⟩ ?_
                simp only [List.getElem_toArray, List.getElem_cons_zero, List.getElem_cons_succ, Act.put, List.setIfInBounds_toArray, List.set_cons_zero, List.set_cons_succ]
                refine oneH (i := 8) (by kernel_rfl) rfl (by rfl) ?_
                simp only [List.getElem_toArray, List.getElem_cons_zero, List.getElem_cons_succ]
                go_simp
                have HBD1 : Hid (Below w3.heap.size w3 (w3.alloc (.cells #[.int .i64 (2 * ((F : Int) + (n : Int)))] 3))) := belOne _ _
                have HOM : Hid ((w3.alloc (.cells #[.int .i64 (2 * ((F : Int) + (n : Int)))] 3)).ownsRow (wi.heap.size + 1) 3 1 (.slice at' k cp) k ((prS F xs S k).1.map (Value.int .i64))) := by have h := HTO3.out.below HBD1.out; unfold Owni at h; rw [HLEN.out] at h; exact h
                refine oneH (i := 9) (by kernel_rfl) rfl (by rfl) ?_
                simp only [List.getElem_toArray, List.getElem_cons_zero, List.getElem_cons_succ]
                refine wp_append_lies _ (.tmp 66) (.tmp 74) 24 rfl (wi.heap.size + 1) 3 ib (.int .i64 0) 1 8 Try.underlying24 hib hzb0 hzb1 hzb2 rfl (by decide) (.slice at' k cp) k ((prS F xs S k).1.map (Value.int .i64)) rfl HOM.out ⟨w3.heap.size, 0, none⟩ 1 1 [.int .i64 (2 * ((F : Int) + (n : Int)))] rfl rfl (by exact news1 w3 _ _) (ints_oneCell .i64 [2 * ((F : Int) + (n : Int))]) (by decide) (by unfold maxLen; omega) (by omega) (by have := HST3.out.ll; simp; omega) _ rfl ?_
                intro g gcap w9 hown9 hgrow9 hat9 hlt9
                have HO9 : Hid (Owni w9 (wi.heap.size + 1) (.slice (some ⟨g, 0, none⟩) (k + 1) gcap) T) := by
                  show Owni _ _ _ _
                  unfold Owni
                  rw [HTD.out, List.length_append, HLEN.out, List.map_append]
                  exact hown9
                have HAN9 : Hid (w9.ownsRow (wi.heap.size + 1) 65 2 (.slice av n cv) n (andV (prS F xs S k).2)) := by
                  have h := row_below HAN3.out HBD1.out
                  exact row_of_block h (fun q e => hgrow9.block q (World.ownsRow.lt h q e).2 (fun e2 => rows_apart h HOM.out (by decide) q e e2.symm))
                have HRW9 := hideN (rowIs_grown (HRW3.out.of_block (HBD1.out.block _ HRW3.out.lt)) hgrow9 HOM.out (by omega))
                have HST9 := hideN ((HST3.out.below HBD1.out).grown hgrow9 (fun q e => (World.ownsRow.lt HOM.out q e).1))
                clear hown9 hgrow9 hat9 hlt9 s0 s1 s2 s3 s4 s5 s7 HTO3 HAN3 HRW3 HST3 HOM HBD1
                have s0 := HST9.out.c.four.c2
                have s1 := HST9.out.b.four.c0
                have s2 := HST9.out.b.four.c1
                have s3 := HST9.out.b.four.c2
                have s4 := HST9.out.b.four.c3
                refine ⟨⟨s0, s1, s2, s3, s4⟩, ?_⟩
                simp only [Act.put, List.setIfInBounds_toArray, List.set_cons_zero, List.set_cons_succ]
                refine oneH (i := 10) (by kernel_rfl) rfl (by rfl) ?_
                simp only [List.getElem_toArray, List.getElem_cons_zero, List.getElem_cons_succ]
                go_simp
                refine wpAnyH_done (by kernel_rfl) ?_ _
                have hneed : w9.cell? ⟨w5.heap.size, k, none⟩ = some (.bool (S k)) := HRW9.out.cell hlt
                obtain ⟨sk, hsk⟩ : ∃ sk, S k = sk := ⟨_, rfl⟩
                rw [hsk] at hneed
                have HST := HSTEP.out
                rw [hsk] at HST
                clear hsk HSTEP
                cases sk with
                | false =>
                  have HNEW : Hid (prS F xs S (k + 1) = (T, (prS F xs S k).2)) := by rw [if_neg (by simp)] at HST; exact HST
                  have HO10 : Hid (Owni w9 (wi.heap.size + 1) (.slice (some ⟨g, 0, none⟩) (k + 1) gcap) (prS F xs S (k + 1)).1) := by show Owni _ _ _ _; rw [HNEW.out]; exact HO9.out
                  have HA10 : Hid (w9.ownsRow (wi.heap.size + 1) 65 2 (.slice av n cv) n (andV (prS F xs S (k + 1)).2)) := by show World.ownsRow _ _ _ _ _ _ _; rw [HNEW.out]; exact HAN9.out
                  have HN10 : Hid ((prS F xs S (k + 1)).2.length = n) := by show _ = _; rw [HNEW.out]; exact hn.out
                  clear HST s0 s1 s2 s3 s4
                  go_wp2_with fail
                  go_roundw
                  case rel => exact ⟨_, gcap, _, n, _, k + 1, by omega, by go_num, rfl, by omega, HN10, HO10, HA10, HRW9, HST9⟩
                  case measure => simp [intOf]; omega
                | true =>
                  rw [if_pos rfl] at HST
                  obtain ⟨ba, off, hao, hbb, hxc⟩ : ∃ ba off, aa = some ⟨ba, off, none⟩ ∧ ba < w.heap.size ∧ ∀ W, Below w.heap.size w W → W.cell? ⟨ba, off + j * 2, none⟩ = some (.int .i64 (xs.getD j (0, 0)).1) ∧ W.cell? ⟨ba, off + j * 2 + 1, none⟩ = some (.int .i64 (xs.getD j (0, 0)).2) := by
                    obtain ⟨ao', cap', he, h⟩ := (HC.out w (Below.refl _ _)).isA
                    obtain ⟨ba, off, ha, hc⟩ := h (by intro e; subst e; simp at hjx)
                    injection he with e1 e2 e3
                    refine ⟨ba, off, e1.trans ha, cell_lt (hc j hjx).1, fun W hW => ?_⟩
                    obtain ⟨q1, q2⟩ := hc j hjx
                    exact ⟨(hW.cell (p := ⟨ba, off + j * 2, none⟩) (cell_lt q1)).trans q1, (hW.cell (p := ⟨ba, off + j * 2 + 1, none⟩) (cell_lt q2)).trans q2⟩
                  subst hao
                  obtain ⟨⟨xa0, xa1⟩, xb0, xb1⟩ := HA.out j hjx
                  generalize xs.getD j (0, 0) = x at *
                  obtain ⟨xa, xb⟩ := x
                  have xa0 : 0 ≤ xa := xa0
                  have xa1 : xa < 2 * ((F : Int) + (j : Int)) := xa1
                  have xb0 : 0 ≤ xb := xb0
                  have xb1 : xb < 2 * ((F : Int) + (j : Int)) := xb1
                  obtain ⟨P, hP⟩ : ∃ P, mapL T xa = P := ⟨_, rfl⟩
                  obtain ⟨R, hR⟩ : ∃ R, mapL T xb = R := ⟨_, rfl⟩
                  have HNEW : Hid (prS F xs S (k + 1) = (T, (prS F xs S k).2 ++ [(P, R)])) := by show _ = _; rw [← hP, ← hR]; exact HST
                  have hFj : (F : Int) + (j : Int) = (k : Int) := by have := HJ.out; omega
                  have HMA : Hid (∀ V, IsInts V (.slice (some ⟨g, 0, none⟩) (k + 1) gcap) T → Calls Try.prog 106 #[.slice (some ⟨g, 0, none⟩) (k + 1) gcap, .int .i64 xa] V fun e w' => e = .returned (.int .i64 P) ∧ w' = V) := fun V hV => by
                    have h := l3Map_any (.slice (some ⟨g, 0, none⟩) (k + 1) gcap) T xa (k + 1) (F + n + 1) V hV HTOK.out xa0 (by omega) (by omega) (by omega)
                    rw [hP] at h
                    exact h
                  have HMB : Hid (∀ V, IsInts V (.slice (some ⟨g, 0, none⟩) (k + 1) gcap) T → Calls Try.prog 106 #[.slice (some ⟨g, 0, none⟩) (k + 1) gcap, .int .i64 xb] V fun e w' => e = .returned (.int .i64 R) ∧ w' = V) := fun V hV => by
                    have h := l3Map_any (.slice (some ⟨g, 0, none⟩) (k + 1) gcap) T xb (k + 1) (F + n + 1) V hV HTOK.out xb0 (by omega) (by omega) (by omega)
                    rw [hR] at h
                    exact h
                  have s5 : w9.cell? ⟨ba, off + j * 2, none⟩ = some (.int .i64 xa) := (hxc _ HST9.out.bel).1
                  have s6 : w9.cell? ⟨ba, off + j * 2 + 1, none⟩ = some (.int .i64 xb) := (hxc _ HST9.out.bel).2
                  have HXC : Hid (∀ W, Below w.heap.size w W → W.cell? ⟨ba, off + j * 2, none⟩ = some (.int .i64 xa) ∧ W.cell? ⟨ba, off + j * 2 + 1, none⟩ = some (.int .i64 xb)) := hxc
                  have HYN : Hid (∀ q, w9.heap.size ≤ q → (Value.slice av n cv).ownBlock ≠ some q) := fun q hq e => by have := (World.ownsRow.lt HAN9.out q e).2; omega
                  have hl9 := HST9.out.b.lt
                  have hba : ba < w9.heap.size := cell_lt s5
                  clear HST hP hR hxc hFj s0
                  go_wp2_with fail
                  refine wp_region_held (S := fun V => V.cell? ⟨w.heap.size, 0, none⟩ = some (.int .i64 inp) ∧ V.cell? ⟨w.heap.size, 1, none⟩ = some (.slice al ls.length cl) ∧ V.cell? ⟨w.heap.size, 2, none⟩ = some (.slice (some ⟨ba, off, none⟩) xs.length ca) ∧ V.cell? ⟨w.heap.size, 3, none⟩ = some (.slice ab bs.length cb) ∧ V.cell? ⟨ba, off + j * 2, none⟩ = some (.int .i64 xa) ∧ V.cell? ⟨ba, off + j * 2 + 1, none⟩ = some (.int .i64 xb)) (by kernel_rfl) ?_
                  refine wpAnyH_take (i := 0) (v := .pointer (some ⟨w.heap.size, 2, none⟩)) rfl (by kernel_rfl) (by kernel_rfl) (by kernel_rfl) (fun _ _ _ h => h) (Or.inl ⟨by rfl, fun w hS => by obtain ⟨s1, s2, s3, s4, s5, s6⟩ := hS; go_simp⟩) ⟨s1, s2, s3, s4, s5, s6⟩ ?_
                  simp only [List.getElem_toArray, List.getElem_cons_zero, Act.put, List.setIfInBounds_toArray, List.set_cons_zero, List.set_cons_succ]
                  refine wpAnyH_take (i := 1) (v := .slice (some ⟨ba, off, none⟩) xs.length ca) rfl (by kernel_rfl) (by kernel_rfl) (by kernel_rfl) (fun _ _ _ h => h) (Or.inl ⟨by rfl, fun w hS => by obtain ⟨s1, s2, s3, s4, s5, s6⟩ := hS; go_simp⟩) ⟨s1, s2, s3, s4, s5, s6⟩ ?_
                  simp only [List.getElem_toArray, List.getElem_cons_zero, List.getElem_cons_succ, Act.put, List.setIfInBounds_toArray, List.set_cons_zero, List.set_cons_succ]
                  refine wpAnyH_take (i := 2) (v := .int .i64 (k : Int)) rfl (by kernel_rfl) (by kernel_rfl) (by kernel_rfl) (fun _ _ _ h => h) (Or.inl ⟨by rfl, fun w hS => by obtain ⟨s1, s2, s3, s4, s5, s6⟩ := hS; go_simp⟩) ⟨s1, s2, s3, s4, s5, s6⟩ ?_
                  simp only [List.getElem_toArray, List.getElem_cons_zero, List.getElem_cons_succ, Act.put, List.setIfInBounds_toArray, List.set_cons_zero, List.set_cons_succ]
                  refine wpAnyH_take (i := 3) (v := .agg #[.int .i64 inp, .slice al ls.length cl, .slice (some ⟨ba, off, none⟩) xs.length ca, .slice ab bs.length cb]) rfl (by kernel_rfl) (by kernel_rfl) (by kernel_rfl) (fun _ _ _ h => h) (Or.inl ⟨by rfl, fun w hS => by obtain ⟨s1, s2, s3, s4, s5, s6⟩ := hS; go_simp⟩) ⟨s1, s2, s3, s4, s5, s6⟩ ?_
                  simp only [List.getElem_toArray, List.getElem_cons_zero, List.getElem_cons_succ, Act.put, List.setIfInBounds_toArray, List.set_cons_zero, List.set_cons_succ]
                  refine twoH (i := 4) (j := 8) (by kernel_rfl) rfl rfl (by rfl) (by rfl) ?arm1 ?arm2
                  case arm1 =>
                    simp only [List.getElem_toArray, List.getElem_cons_zero, List.getElem_cons_succ]
                    go_simp
                    refine (HL3F.out _).mono ?_
                    rintro e w10 ⟨rfl, hb10'⟩
                    have hb10 : Below w9.heap.size w9 w10 := (by first | exact hb10' | exact undrew hb10' | exact (by simpa using hb10'))
                    have HB10 := hideN hb10
                    have HS10 := hideN (HST9.out.below hb10)
                    clear hb10 hb10' s1 s2 s3 s4 s5 s6
                    have s1 := HS10.out.b.four.c0
                    have s2 := HS10.out.b.four.c1
                    have s3 := HS10.out.b.four.c2
                    have s4 := HS10.out.b.four.c3
                    obtain ⟨s5, s6⟩ := HXC.out _ HS10.out.bel
                    have l1 := HS10.out.b.lt
                    have l2 : ba < w10.heap.size := cell_lt s5
                    refine ⟨⟨s1, s2, s3, s4, s5, s6⟩, ?_⟩
                    refine wpAnyH_take (i := 5) (v := .int .i64 (j : Int)) rfl (by kernel_rfl) (by kernel_rfl) (by kernel_rfl) (fun _ _ _ h => h) (Or.inl ⟨by rfl, fun w hS => by obtain ⟨s1, s2, s3, s4, s5, s6⟩ := hS; go_simp⟩) ⟨s1, s2, s3, s4, s5, s6⟩ ?_
                    simp only [List.getElem_toArray, List.getElem_cons_zero, List.getElem_cons_succ, Act.put, List.setIfInBounds_toArray, List.set_cons_zero, List.set_cons_succ]
                    refine wpAnyH_take (i := 6) (v := .pointer (some ⟨ba, off + j * 2, none⟩)) rfl (by kernel_rfl) (by kernel_rfl) (by kernel_rfl) (fun _ _ _ h => h) (Or.inl ⟨by rfl, fun w hS => by obtain ⟨s1, s2, s3, s4, s5, s6⟩ := hS; go_simp⟩) ⟨s1, s2, s3, s4, s5, s6⟩ ?_
                    simp only [List.getElem_toArray, List.getElem_cons_zero, List.getElem_cons_succ, Act.put, List.setIfInBounds_toArray, List.set_cons_zero, List.set_cons_succ]
                    refine wpAnyH_take (i := 7) (v := .agg #[.int .i64 xa, .int .i64 xb]) rfl (by kernel_rfl) (by kernel_rfl) (by kernel_rfl) (fun _ _ _ h => h) (Or.inl ⟨by rfl, fun w hS => by obtain ⟨s1, s2, s3, s4, s5, s6⟩ := hS; go_simp⟩) ⟨s1, s2, s3, s4, s5, s6⟩ ?_
                    simp only [List.getElem_toArray, List.getElem_cons_zero, List.getElem_cons_succ, Act.put, List.setIfInBounds_toArray, List.set_cons_zero, List.set_cons_succ]
                    refine oneH (i := 8) (by kernel_rfl) rfl (by rfl) ?_
                    simp only [List.getElem_toArray, List.getElem_cons_zero, List.getElem_cons_succ]
                    go_simp
                    refine oneH (i := 9) (by kernel_rfl) rfl (by rfl) ?_
                    simp only [List.getElem_toArray, List.getElem_cons_zero, List.getElem_cons_succ]
                    go_simp
                    refine wpAnyH_done (by kernel_rfl) ?_ _
                    have hz9 : w9.heap.size ≤ w10.heap.size := HB10.out.size
                    have HBV : Hid (Below w9.heap.size w9 (w10.alloc (.cells #[.int .i64 xa, .int .i64 xb] 65))) := belNext HB10.out (belOne _ _)
                    have y0 : (w10.alloc (.cells #[.int .i64 xa, .int .i64 xb] 65)).cell? ⟨w10.heap.size, 0, none⟩ = some (.int .i64 xa) := by simp
                    have y1 : (w10.alloc (.cells #[.int .i64 xa, .int .i64 xb] 65)).cell? ⟨w10.heap.size, 1, none⟩ = some (.int .i64 xb) := by simp
                    clear s1 s2 s3 s4 s5 s6 l1 l2 HS10
                    have HTOV := hideN (HO9.out.below HBV.out)
                    have HANV := hideN (row_below HAN9.out HBV.out)
                    have HRWV := hideN (HRW9.out.of_block (HBV.out.block _ HRW9.out.lt))
                    have HSTV := hideN (HST9.out.below HBV.out)
                    clear HBV
                    generalize (w10.alloc (.cells #[.int .i64 xa, .int .i64 xb] 65)) = V at *
                    clear HO9 HAN9 HRW9 HST9
                    have s0 := HSTV.out.c.four.c2
                    have s4 := HSTV.out.c.lt
                    have s6 := HSTV.out.c.fz 2
                    have hyl : w10.heap.size < V.heap.size := cell_lt y0
                    go_wp2_with fail
                    refine region_S (fin := 14) (S := fun V => V.cell? ⟨wi.heap.size, 2, none⟩ = some (.slice av n cv) ∧ V.cell? ⟨w10.heap.size, 0, none⟩ = some (.int .i64 xa) ∧ V.cell? ⟨w10.heap.size, 1, none⟩ = some (.int .i64 xb)) (by kernel_rfl) ⟨s0, y0, y1⟩ (fun hHeld => ?walk7)
                    case walk7 =>
                    clear hHeld
                    refine takeS (i := 0) (v := .pointer (some ⟨wi.heap.size, 2, none⟩)) rfl (by kernel_rfl) (by kernel_rfl) (by kernel_rfl) (by kernel_rfl) (fun _ _ _ h => h) (Or.inl ⟨by rfl, fun w hS => by obtain ⟨s0, y0, y1⟩ := hS; go_simp⟩) ⟨s0, y0, y1⟩ ?_
                    simp only [List.getElem_toArray, List.getElem_cons_zero, Act.put, List.setIfInBounds_toArray, List.set_cons_zero, List.set_cons_succ]
                    refine takeS (i := 1) (v := .slice av n cv) rfl (by kernel_rfl) (by kernel_rfl) (by kernel_rfl) (by kernel_rfl) (fun _ _ _ h => h) (Or.inl ⟨by rfl, fun w hS => by obtain ⟨s0, y0, y1⟩ := hS; go_simp⟩) ⟨s0, y0, y1⟩ ?_
                    simp only [List.getElem_toArray, List.getElem_cons_zero, List.getElem_cons_succ, Act.put, List.setIfInBounds_toArray, List.set_cons_zero, List.set_cons_succ]
                    refine takeS (i := 2) (v := .slice (some ⟨g, 0, none⟩) (k + 1) gcap) rfl (by kernel_rfl) (by kernel_rfl) (by kernel_rfl) (by kernel_rfl) (fun _ _ _ h => h) (Or.inl ⟨by rfl, fun w hS => by obtain ⟨s0, y0, y1⟩ := hS; go_simp⟩) ⟨s0, y0, y1⟩ ?_
                    simp only [List.getElem_toArray, List.getElem_cons_zero, List.getElem_cons_succ, Act.put, List.setIfInBounds_toArray, List.set_cons_zero, List.set_cons_succ]
                    refine takeS (i := 3) (v := .pointer (some ⟨w10.heap.size, 0, none⟩)) rfl (by kernel_rfl) (by kernel_rfl) (by kernel_rfl) (by kernel_rfl) (fun _ _ _ h => h) (Or.inl ⟨by rfl, fun w hS => by obtain ⟨s0, y0, y1⟩ := hS; go_simp⟩) ⟨s0, y0, y1⟩ ?_
                    simp only [List.getElem_toArray, List.getElem_cons_zero, List.getElem_cons_succ, Act.put, List.setIfInBounds_toArray, List.set_cons_zero, List.set_cons_succ]
                    refine takeS (i := 4) (v := .int .i64 xa) rfl (by kernel_rfl) (by kernel_rfl) (by kernel_rfl) (by kernel_rfl) (fun _ _ _ h => h) (Or.inl ⟨by rfl, fun w hS => by obtain ⟨s0, y0, y1⟩ := hS; go_simp⟩) ⟨s0, y0, y1⟩ ?_
                    simp only [List.getElem_toArray, List.getElem_cons_zero, List.getElem_cons_succ, Act.put, List.setIfInBounds_toArray, List.set_cons_zero, List.set_cons_succ]
                    refine takeS (i := 6) (v := .slice (some ⟨g, 0, none⟩) (k + 1) gcap) rfl (by kernel_rfl) (by kernel_rfl) (by kernel_rfl) (by kernel_rfl) (fun _ _ _ h => h) (Or.inl ⟨by rfl, fun w hS => by obtain ⟨s0, y0, y1⟩ := hS; go_simp⟩) ⟨s0, y0, y1⟩ ?_
                    simp only [List.getElem_toArray, List.getElem_cons_zero, List.getElem_cons_succ, Act.put, List.setIfInBounds_toArray, List.set_cons_zero, List.set_cons_succ]
                    refine takeS (i := 7) (v := .pointer (some ⟨w10.heap.size, 1, none⟩)) rfl (by kernel_rfl) (by kernel_rfl) (by kernel_rfl) (by kernel_rfl) (fun _ _ _ h => h) (Or.inl ⟨by rfl, fun w hS => by obtain ⟨s0, y0, y1⟩ := hS; go_simp⟩) ⟨s0, y0, y1⟩ ?_
                    simp only [List.getElem_toArray, List.getElem_cons_zero, List.getElem_cons_succ, Act.put, List.setIfInBounds_toArray, List.set_cons_zero, List.set_cons_succ]
                    refine takeS (i := 8) (v := .int .i64 xb) rfl (by kernel_rfl) (by kernel_rfl) (by kernel_rfl) (by kernel_rfl) (fun _ _ _ h => h) (Or.inl ⟨by rfl, fun w hS => by obtain ⟨s0, y0, y1⟩ := hS; go_simp⟩) ⟨s0, y0, y1⟩ ?_
                    simp only [List.getElem_toArray, List.getElem_cons_zero, List.getElem_cons_succ, Act.put, List.setIfInBounds_toArray, List.set_cons_zero, List.set_cons_succ]
                    refine oneS (i := 5) (by kernel_rfl) rfl (by rfl) ?_
                    simp only [List.getElem_toArray, List.getElem_cons_zero, List.getElem_cons_succ]
                    go_simp
                    refine (HMA.out _ (by exact HTOV.out.isInts)).mono ?_
                    rintro e w' ⟨rfl, hw'⟩
                    obtain rfl := hw'.symm
                    refine ⟨⟨s0, y0, y1⟩, ?_⟩
                    refine oneS (i := 9) (by kernel_rfl) rfl (by rfl) ?_
                    simp only [List.getElem_toArray, List.getElem_cons_zero, List.getElem_cons_succ]
                    go_simp
                    refine (HMB.out _ (by exact HTOV.out.isInts)).mono ?_
                    rintro e w' ⟨rfl, hw'⟩
                    obtain rfl := hw'.symm
                    refine ⟨⟨s0, y0, y1⟩, ?_⟩
                    refine takeS (i := 10) (v := .agg #[.int .i64 P, .int .i64 R]) rfl (by kernel_rfl) (by kernel_rfl) (by kernel_rfl) (by kernel_rfl) (fun _ _ _ h => h) (Or.inl ⟨by rfl, fun w hS => by obtain ⟨s0, y0, y1⟩ := hS; go_simp⟩) ⟨s0, y0, y1⟩ ?_
                    simp only [List.getElem_toArray, List.getElem_cons_zero, List.getElem_cons_succ, Act.put, List.setIfInBounds_toArray, List.set_cons_zero, List.set_cons_succ]
                    refine oneS (i := 11) (by kernel_rfl) rfl (by rfl) ?_
                    simp only [List.getElem_toArray, List.getElem_cons_zero, List.getElem_cons_succ]
                    go_simp
                    have HBD2 : Hid (Below V.heap.size V (V.alloc (.cells #[.int .i64 P, .int .i64 R] 65)).drew) := below_drewN (belOne _ _) 1
                    have HLD := hideN (row_below HANV.out HBD2.out)
                    refine oneS (i := 12) (by kernel_rfl) rfl (by rfl) ?_
                    simp only [List.getElem_toArray, List.getElem_cons_zero, List.getElem_cons_succ]
                    refine wp_append_lies _ (.tmp 89) (.tmp 99) 31 rfl (wi.heap.size + 1) 65 ia (.agg #[.int .i64 0, .int .i64 0]) 2 16 Try.underlying31 hia hza0 hza1 hza2 rfl (by decide) (.slice av n cv) n (andV (prS F xs S k).2) rfl HLD.out ⟨V.heap.size, 0, none⟩ 1 1 [.int .i64 P, .int .i64 R] rfl rfl (by exact news2 V _ _ _) (and_oneCell _ _) (by decide) (by unfold maxLen; omega) (by omega) (by have := HSTV.out.ll; simp; omega) _ rfl ?_
                    intro g2 gcap2 w11 hown11 hgrow11 hat11 hlt11
                    have hfr : ∀ q, (Value.slice av n cv).ownBlock = some q → wi.heap.size + 1 ≤ q := fun q e => (World.ownsRow.lt HLD.out q e).1
                    have HS11 := hideN ((HSTV.out.below HBD2.out).grown hgrow11 hfr)
                    have HT11 : Hid (Owni w11 (wi.heap.size + 1) (.slice (some ⟨g, 0, none⟩) (k + 1) gcap) T) := by have h := HTOV.out.below HBD2.out; exact owni_of_block h (fun q e => hgrow11.block q (h.blk q e).2 (fun e2 => rows_apart h HLD.out (by decide) q e e2.symm))
                    have HR11 := hideN (rowIs_grown (HRWV.out.of_block (HBD2.out.block _ HRWV.out.lt)) hgrow11 HLD.out (by omega))
                    have HA11 : Hid (w11.ownsRow (wi.heap.size + 1) 65 2 (.slice (some ⟨g2, 0, none⟩) (n + 1) gcap2) (n + 1) (andV (prS F xs S (k + 1)).2)) := by show World.ownsRow _ _ _ _ _ _ _; rw [HNEW.out, andV_snoc]; exact hown11
                    have q0 : w11.cell? ⟨w10.heap.size, 0, none⟩ = some (.int .i64 xa) := by
                      rw [cellOfBlock (hgrow11.block w10.heap.size (Nat.lt_of_lt_of_le hyl HBD2.out.size) (fun e2 => HYN.out w10.heap.size (by omega) e2.symm))]; exact (HBD2.out.cell (p := ⟨w10.heap.size, 0, none⟩) hyl).trans y0
                    have q1 : w11.cell? ⟨w10.heap.size, 1, none⟩ = some (.int .i64 xb) := by
                      rw [cellOfBlock (hgrow11.block w10.heap.size (Nat.lt_of_lt_of_le hyl HBD2.out.size) (fun e2 => HYN.out w10.heap.size (by omega) e2.symm))]; exact (HBD2.out.cell (p := ⟨w10.heap.size, 1, none⟩) hyl).trans y1
                    clear hown11 hgrow11 hat11 hlt11 hfr s0 s4 s6
                    have r0 := HS11.out.c.four.c2
                    have r4 := HS11.out.c.lt
                    have r6 := HS11.out.c.fz 2
                    refine ⟨fun _ => ⟨r0, q0, q1⟩, ?_⟩
                    simp only [Act.put, List.setIfInBounds_toArray, List.set_cons_zero, List.set_cons_succ]
                    refine takeS (i := 13) (v := .pointer (some ⟨wi.heap.size, 2, none⟩)) rfl (by kernel_rfl) (by kernel_rfl) (by kernel_rfl) (by kernel_rfl) (fun _ _ _ h => h) (Or.inl ⟨by rfl, fun w hS => by obtain ⟨r0, q0, q1⟩ := hS; go_simp⟩) ⟨r0, q0, q1⟩ ?_
                    simp only [List.getElem_toArray, List.getElem_cons_zero, List.getElem_cons_succ, Act.put, List.setIfInBounds_toArray, List.set_cons_zero, List.set_cons_succ]
                    refine oneS (i := 14) (by kernel_rfl) rfl (by rfl) ?_
                    simp only [List.getElem_toArray, List.getElem_cons_zero, List.getElem_cons_succ]
                    go_simp
                    refine doneS (by kernel_rfl) ?_ _
                    have HS12 := hideN (HS11.out.set2 (.slice (some ⟨g2, 0, none⟩) (n + 1) gcap2))
                    have HT12 : Hid (Owni (w11.setCell ⟨wi.heap.size, 2, none⟩ (.slice (some ⟨g2, 0, none⟩) (n + 1) gcap2)) (wi.heap.size + 1) (.slice (some ⟨g, 0, none⟩) (k + 1) gcap) (prS F xs S (k + 1)).1) := by show Owni _ _ _ _; rw [HNEW.out]; exact HT11.out.setC (i := 2) HS11.out.cl (.slice (some ⟨g2, 0, none⟩) (n + 1) gcap2)
                    have HA12 := hideN (row_setC (i := 2) HA11.out HS11.out.cl (.slice (some ⟨g2, 0, none⟩) (n + 1) gcap2))
                    have HR12 := hideN (rowIs_setC (i := 2) HR11.out (show w5.heap.size ≠ wi.heap.size by omega) (.slice (some ⟨g2, 0, none⟩) (n + 1) gcap2))
                    have HN12 : Hid ((prS F xs S (k + 1)).2.length = n + 1) := by show _ = _; rw [HNEW.out, List.length_append, hn.out]; rfl
                    clear r0 r4 r6 q0 q1 HS11 HT11 HA11 HR11
                    go_wp2_with fail
                    go_roundw
                    case rel => exact ⟨_, gcap, _, n + 1, _, k + 1, by omega, by go_num, rfl, by omega, HN12, HT12, HA12, HR12, HS12⟩
                    case measure => simp [intOf]; omega
                  case arm2 =>
                    simp only [List.getElem_toArray, List.getElem_cons_zero, List.getElem_cons_succ]
                    go_simp
                    refine oneH (i := 4) (by kernel_rfl) rfl (by rfl) ?_
                    simp only [List.getElem_toArray, List.getElem_cons_zero, List.getElem_cons_succ]
                    go_simp
                    refine (HL3F.out _).mono ?_
                    rintro e w10 ⟨rfl, hb10'⟩
                    have hb10 : Below (w9.alloc (.cells #[.int .i64 0, .int .i64 0] 65)).heap.size (w9.alloc (.cells #[.int .i64 0, .int .i64 0] 65)) w10 := (by first | exact hb10' | exact undrew hb10' | exact (by simpa using hb10'))
                    obtain ⟨a1, a2, a3, a4, a5⟩ := alloc_facts hb10
                    have HB10 : Hid (Below w9.heap.size w9 w10) := belNext (belOne _ _) hb10
                    have HS10 := hideN (HST9.out.below HB10.out)
                    clear hb10 hb10' s1 s2 s3 s4 s5 s6
                    have s1 := HS10.out.b.four.c0
                    have s2 := HS10.out.b.four.c1
                    have s3 := HS10.out.b.four.c2
                    have s4 := HS10.out.b.four.c3
                    obtain ⟨s5, s6⟩ := HXC.out _ HS10.out.bel
                    refine ⟨⟨s1, s2, s3, s4, s5, s6⟩, ?_⟩
                    refine wpAnyH_take (i := 5) (v := .int .i64 (j : Int)) rfl (by kernel_rfl) (by kernel_rfl) (by kernel_rfl) (fun _ _ _ h => h) (Or.inl ⟨by rfl, fun w hS => by obtain ⟨s1, s2, s3, s4, s5, s6⟩ := hS; go_simp⟩) ⟨s1, s2, s3, s4, s5, s6⟩ ?_
                    simp only [List.getElem_toArray, List.getElem_cons_zero, List.getElem_cons_succ, Act.put, List.setIfInBounds_toArray, List.set_cons_zero, List.set_cons_succ]
                    refine wpAnyH_take (i := 6) (v := .pointer (some ⟨ba, off + j * 2, none⟩)) rfl (by kernel_rfl) (by kernel_rfl) (by kernel_rfl) (fun _ _ _ h => h) (Or.inl ⟨by rfl, fun w hS => by obtain ⟨s1, s2, s3, s4, s5, s6⟩ := hS; go_simp⟩) ⟨s1, s2, s3, s4, s5, s6⟩ ?_
                    simp only [List.getElem_toArray, List.getElem_cons_zero, List.getElem_cons_succ, Act.put, List.setIfInBounds_toArray, List.set_cons_zero, List.set_cons_succ]
                    refine wpAnyH_take (i := 7) (v := .agg #[.int .i64 xa, .int .i64 xb]) rfl (by kernel_rfl) (by kernel_rfl) (by kernel_rfl) (fun _ _ _ h => h) (Or.inl ⟨by rfl, fun w hS => by obtain ⟨s1, s2, s3, s4, s5, s6⟩ := hS; go_simp⟩) ⟨s1, s2, s3, s4, s5, s6⟩ ?_
                    simp only [List.getElem_toArray, List.getElem_cons_zero, List.getElem_cons_succ, Act.put, List.setIfInBounds_toArray, List.set_cons_zero, List.set_cons_succ]
                    refine oneH (i := 9) (by kernel_rfl) rfl (by rfl) ?_
                    simp only [List.getElem_toArray, List.getElem_cons_zero, List.getElem_cons_succ]
                    go_simp
                    refine wpAnyH_done (by kernel_rfl) ?_ _
                    have HBV : Hid (Below w9.heap.size w9 ((w10.setCell ⟨w9.heap.size, 0, none⟩ (.int .i64 xa)).setCell ⟨w9.heap.size, 1, none⟩ (.int .i64 xb))) := (HB10.out.setCell (p := ⟨w9.heap.size, 0, none⟩) (Nat.le_refl _) _).setCell (p := ⟨w9.heap.size, 1, none⟩) (Nat.le_refl _) _
                    have hz9 : w9.heap.size ≤ w9.heap.size := Nat.le_refl _
                    have y0 := (two_set a1 a2 a5 (.int .i64 xa) (.int .i64 xb)).c0
                    have y1 := (two_set a1 a2 a5 (.int .i64 xa) (.int .i64 xb)).c1
                    clear s1 s2 s3 s4 s5 s6 a1 a2 a3 a4 a5 HS10
                    have HTOV := hideN (HO9.out.below HBV.out)
                    have HANV := hideN (row_below HAN9.out HBV.out)
                    have HRWV := hideN (HRW9.out.of_block (HBV.out.block _ HRW9.out.lt))
                    have HSTV := hideN (HST9.out.below HBV.out)
                    clear HBV
                    generalize ((w10.setCell ⟨w9.heap.size, 0, none⟩ (.int .i64 xa)).setCell ⟨w9.heap.size, 1, none⟩ (.int .i64 xb)) = V at *
                    clear HO9 HAN9 HRW9 HST9
                    have s0 := HSTV.out.c.four.c2
                    have s4 := HSTV.out.c.lt
                    have s6 := HSTV.out.c.fz 2
                    have hyl : w9.heap.size < V.heap.size := cell_lt y0
                    go_wp2_with fail
                    refine region_S (fin := 14) (S := fun V => V.cell? ⟨wi.heap.size, 2, none⟩ = some (.slice av n cv) ∧ V.cell? ⟨w9.heap.size, 0, none⟩ = some (.int .i64 xa) ∧ V.cell? ⟨w9.heap.size, 1, none⟩ = some (.int .i64 xb)) (by kernel_rfl) ⟨s0, y0, y1⟩ (fun hHeld => ?walk8)
                    case walk8 =>
                    clear hHeld
                    refine takeS (i := 0) (v := .pointer (some ⟨wi.heap.size, 2, none⟩)) rfl (by kernel_rfl) (by kernel_rfl) (by kernel_rfl) (by kernel_rfl) (fun _ _ _ h => h) (Or.inl ⟨by rfl, fun w hS => by obtain ⟨s0, y0, y1⟩ := hS; go_simp⟩) ⟨s0, y0, y1⟩ ?_
                    simp only [List.getElem_toArray, List.getElem_cons_zero, Act.put, List.setIfInBounds_toArray, List.set_cons_zero, List.set_cons_succ]
                    refine takeS (i := 1) (v := .slice av n cv) rfl (by kernel_rfl) (by kernel_rfl) (by kernel_rfl) (by kernel_rfl) (fun _ _ _ h => h) (Or.inl ⟨by rfl, fun w hS => by obtain ⟨s0, y0, y1⟩ := hS; go_simp⟩) ⟨s0, y0, y1⟩ ?_
                    simp only [List.getElem_toArray, List.getElem_cons_zero, List.getElem_cons_succ, Act.put, List.setIfInBounds_toArray, List.set_cons_zero, List.set_cons_succ]
                    refine takeS (i := 2) (v := .slice (some ⟨g, 0, none⟩) (k + 1) gcap) rfl (by kernel_rfl) (by kernel_rfl) (by kernel_rfl) (by kernel_rfl) (fun _ _ _ h => h) (Or.inl ⟨by rfl, fun w hS => by obtain ⟨s0, y0, y1⟩ := hS; go_simp⟩) ⟨s0, y0, y1⟩ ?_
                    simp only [List.getElem_toArray, List.getElem_cons_zero, List.getElem_cons_succ, Act.put, List.setIfInBounds_toArray, List.set_cons_zero, List.set_cons_succ]
                    refine takeS (i := 3) (v := .pointer (some ⟨w9.heap.size, 0, none⟩)) rfl (by kernel_rfl) (by kernel_rfl) (by kernel_rfl) (by kernel_rfl) (fun _ _ _ h => h) (Or.inl ⟨by rfl, fun w hS => by obtain ⟨s0, y0, y1⟩ := hS; go_simp⟩) ⟨s0, y0, y1⟩ ?_
                    simp only [List.getElem_toArray, List.getElem_cons_zero, List.getElem_cons_succ, Act.put, List.setIfInBounds_toArray, List.set_cons_zero, List.set_cons_succ]
                    refine takeS (i := 4) (v := .int .i64 xa) rfl (by kernel_rfl) (by kernel_rfl) (by kernel_rfl) (by kernel_rfl) (fun _ _ _ h => h) (Or.inl ⟨by rfl, fun w hS => by obtain ⟨s0, y0, y1⟩ := hS; go_simp⟩) ⟨s0, y0, y1⟩ ?_
                    simp only [List.getElem_toArray, List.getElem_cons_zero, List.getElem_cons_succ, Act.put, List.setIfInBounds_toArray, List.set_cons_zero, List.set_cons_succ]
                    refine takeS (i := 6) (v := .slice (some ⟨g, 0, none⟩) (k + 1) gcap) rfl (by kernel_rfl) (by kernel_rfl) (by kernel_rfl) (by kernel_rfl) (fun _ _ _ h => h) (Or.inl ⟨by rfl, fun w hS => by obtain ⟨s0, y0, y1⟩ := hS; go_simp⟩) ⟨s0, y0, y1⟩ ?_
                    simp only [List.getElem_toArray, List.getElem_cons_zero, List.getElem_cons_succ, Act.put, List.setIfInBounds_toArray, List.set_cons_zero, List.set_cons_succ]
                    refine takeS (i := 7) (v := .pointer (some ⟨w9.heap.size, 1, none⟩)) rfl (by kernel_rfl) (by kernel_rfl) (by kernel_rfl) (by kernel_rfl) (fun _ _ _ h => h) (Or.inl ⟨by rfl, fun w hS => by obtain ⟨s0, y0, y1⟩ := hS; go_simp⟩) ⟨s0, y0, y1⟩ ?_
                    simp only [List.getElem_toArray, List.getElem_cons_zero, List.getElem_cons_succ, Act.put, List.setIfInBounds_toArray, List.set_cons_zero, List.set_cons_succ]
                    refine takeS (i := 8) (v := .int .i64 xb) rfl (by kernel_rfl) (by kernel_rfl) (by kernel_rfl) (by kernel_rfl) (fun _ _ _ h => h) (Or.inl ⟨by rfl, fun w hS => by obtain ⟨s0, y0, y1⟩ := hS; go_simp⟩) ⟨s0, y0, y1⟩ ?_
                    simp only [List.getElem_toArray, List.getElem_cons_zero, List.getElem_cons_succ, Act.put, List.setIfInBounds_toArray, List.set_cons_zero, List.set_cons_succ]
                    refine oneS (i := 5) (by kernel_rfl) rfl (by rfl) ?_
                    simp only [List.getElem_toArray, List.getElem_cons_zero, List.getElem_cons_succ]
                    go_simp
                    refine (HMA.out _ (by exact HTOV.out.isInts)).mono ?_
                    rintro e w' ⟨rfl, hw'⟩
                    obtain rfl := hw'.symm
                    refine ⟨⟨s0, y0, y1⟩, ?_⟩
                    refine oneS (i := 9) (by kernel_rfl) rfl (by rfl) ?_
                    simp only [List.getElem_toArray, List.getElem_cons_zero, List.getElem_cons_succ]
                    go_simp
                    refine (HMB.out _ (by exact HTOV.out.isInts)).mono ?_
                    rintro e w' ⟨rfl, hw'⟩
                    obtain rfl := hw'.symm
                    refine ⟨⟨s0, y0, y1⟩, ?_⟩
                    refine takeS (i := 10) (v := .agg #[.int .i64 P, .int .i64 R]) rfl (by kernel_rfl) (by kernel_rfl) (by kernel_rfl) (by kernel_rfl) (fun _ _ _ h => h) (Or.inl ⟨by rfl, fun w hS => by obtain ⟨s0, y0, y1⟩ := hS; go_simp⟩) ⟨s0, y0, y1⟩ ?_
                    simp only [List.getElem_toArray, List.getElem_cons_zero, List.getElem_cons_succ, Act.put, List.setIfInBounds_toArray, List.set_cons_zero, List.set_cons_succ]
                    refine oneS (i := 11) (by kernel_rfl) rfl (by rfl) ?_
                    simp only [List.getElem_toArray, List.getElem_cons_zero, List.getElem_cons_succ]
                    go_simp
                    have HBD2 : Hid (Below V.heap.size V (V.alloc (.cells #[.int .i64 P, .int .i64 R] 65)).drew) := below_drewN (belOne _ _) 1
                    have HLD := hideN (row_below HANV.out HBD2.out)
                    refine oneS (i := 12) (by kernel_rfl) rfl (by rfl) ?_
                    simp only [List.getElem_toArray, List.getElem_cons_zero, List.getElem_cons_succ]
                    refine wp_append_lies _ (.tmp 89) (.tmp 99) 31 rfl (wi.heap.size + 1) 65 ia (.agg #[.int .i64 0, .int .i64 0]) 2 16 Try.underlying31 hia hza0 hza1 hza2 rfl (by decide) (.slice av n cv) n (andV (prS F xs S k).2) rfl HLD.out ⟨V.heap.size, 0, none⟩ 1 1 [.int .i64 P, .int .i64 R] rfl rfl (by exact news2 V _ _ _) (and_oneCell _ _) (by decide) (by unfold maxLen; omega) (by omega) (by have := HSTV.out.ll; simp; omega) _ rfl ?_
                    intro g2 gcap2 w11 hown11 hgrow11 hat11 hlt11
                    have hfr : ∀ q, (Value.slice av n cv).ownBlock = some q → wi.heap.size + 1 ≤ q := fun q e => (World.ownsRow.lt HLD.out q e).1
                    have HS11 := hideN ((HSTV.out.below HBD2.out).grown hgrow11 hfr)
                    have HT11 : Hid (Owni w11 (wi.heap.size + 1) (.slice (some ⟨g, 0, none⟩) (k + 1) gcap) T) := by have h := HTOV.out.below HBD2.out; exact owni_of_block h (fun q e => hgrow11.block q (h.blk q e).2 (fun e2 => rows_apart h HLD.out (by decide) q e e2.symm))
                    have HR11 := hideN (rowIs_grown (HRWV.out.of_block (HBD2.out.block _ HRWV.out.lt)) hgrow11 HLD.out (by omega))
                    have HA11 : Hid (w11.ownsRow (wi.heap.size + 1) 65 2 (.slice (some ⟨g2, 0, none⟩) (n + 1) gcap2) (n + 1) (andV (prS F xs S (k + 1)).2)) := by show World.ownsRow _ _ _ _ _ _ _; rw [HNEW.out, andV_snoc]; exact hown11
                    have q0 : w11.cell? ⟨w9.heap.size, 0, none⟩ = some (.int .i64 xa) := by
                      rw [cellOfBlock (hgrow11.block w9.heap.size (Nat.lt_of_lt_of_le hyl HBD2.out.size) (fun e2 => HYN.out w9.heap.size (by omega) e2.symm))]; exact (HBD2.out.cell (p := ⟨w9.heap.size, 0, none⟩) hyl).trans y0
                    have q1 : w11.cell? ⟨w9.heap.size, 1, none⟩ = some (.int .i64 xb) := by
                      rw [cellOfBlock (hgrow11.block w9.heap.size (Nat.lt_of_lt_of_le hyl HBD2.out.size) (fun e2 => HYN.out w9.heap.size (by omega) e2.symm))]; exact (HBD2.out.cell (p := ⟨w9.heap.size, 1, none⟩) hyl).trans y1
                    clear hown11 hgrow11 hat11 hlt11 hfr s0 s4 s6
                    have r0 := HS11.out.c.four.c2
                    have r4 := HS11.out.c.lt
                    have r6 := HS11.out.c.fz 2
                    refine ⟨fun _ => ⟨r0, q0, q1⟩, ?_⟩
                    simp only [Act.put, List.setIfInBounds_toArray, List.set_cons_zero, List.set_cons_succ]
                    refine takeS (i := 13) (v := .pointer (some ⟨wi.heap.size, 2, none⟩)) rfl (by kernel_rfl) (by kernel_rfl) (by kernel_rfl) (by kernel_rfl) (fun _ _ _ h => h) (Or.inl ⟨by rfl, fun w hS => by obtain ⟨r0, q0, q1⟩ := hS; go_simp⟩) ⟨r0, q0, q1⟩ ?_
                    simp only [List.getElem_toArray, List.getElem_cons_zero, List.getElem_cons_succ, Act.put, List.setIfInBounds_toArray, List.set_cons_zero, List.set_cons_succ]
                    refine oneS (i := 14) (by kernel_rfl) rfl (by rfl) ?_
                    simp only [List.getElem_toArray, List.getElem_cons_zero, List.getElem_cons_succ]
                    go_simp
                    refine doneS (by kernel_rfl) ?_ _
                    have HS12 := hideN (HS11.out.set2 (.slice (some ⟨g2, 0, none⟩) (n + 1) gcap2))
                    have HT12 : Hid (Owni (w11.setCell ⟨wi.heap.size, 2, none⟩ (.slice (some ⟨g2, 0, none⟩) (n + 1) gcap2)) (wi.heap.size + 1) (.slice (some ⟨g, 0, none⟩) (k + 1) gcap) (prS F xs S (k + 1)).1) := by show Owni _ _ _ _; rw [HNEW.out]; exact HT11.out.setC (i := 2) HS11.out.cl (.slice (some ⟨g2, 0, none⟩) (n + 1) gcap2)
                    have HA12 := hideN (row_setC (i := 2) HA11.out HS11.out.cl (.slice (some ⟨g2, 0, none⟩) (n + 1) gcap2))
                    have HR12 := hideN (rowIs_setC (i := 2) HR11.out (show w5.heap.size ≠ wi.heap.size by omega) (.slice (some ⟨g2, 0, none⟩) (n + 1) gcap2))
                    have HN12 : Hid ((prS F xs S (k + 1)).2.length = n + 1) := by show _ = _; rw [HNEW.out, List.length_append, hn.out]; rfl
                    clear r0 r4 r6 q0 q1 HS11 HT11 HA11 HR11
                    go_wp2_with fail
                    go_roundw
                    case rel => exact ⟨_, gcap, _, n + 1, _, k + 1, by omega, by go_num, rfl, by omega, HN12, HT12, HA12, HR12, HS12⟩
                    case measure => simp [intOf]; omega
            · obtain rfl : k = M := by omega
              have dlt : decide ((k : Int) ≤ (N : Int)) = false := by simp; omega
              have HPE : Hid (prS F xs S k = pruneS F xs S xs.length) := by show _ = _; rw [prS_ge (by have := HMM.out; omega), HMM.out, Nat.add_sub_cancel_left]
              have hpo := prS_ok hF1 HA.out S (n := k) (by have := HMM.out; omega)
              have HTOK : Hid (ToOk (pruneS F xs S xs.length).1 k (F + n + 1)) := by
                show ToOk _ _ _
                rw [← HPE.out]
                exact ⟨hpo.1, fun i hi => by have := hpo.2.2 i hi; have := hn.out; omega⟩
              have hto : Hid (Owni w7 (wi.heap.size + 1) (.slice at' k cp) (pruneS F xs S xs.length).1) := by show Owni _ _ _ _; rw [← HPE.out]; exact HTO.out
              have han : Hid (w7.ownsRow (wi.heap.size + 1) 65 2 (.slice av n cv) n (andV (pruneS F xs S xs.length).2)) := by show World.ownsRow _ _ _ _ _ _ _; rw [← HPE.out]; exact HAN.out
              have hn : Hid ((pruneS F xs S xs.length).2.length = n) := by show _ = _; rw [← HPE.out]; exact hn.out
              have hst := HST
              obtain ⟨st, hste⟩ : ∃ st, st = pruneS F xs S xs.length := ⟨_, rfl⟩
              rw [← hste] at HTOK hto han hn
              have HSTE := hideN hste
              clear hste hpo HPE HTO HAN HST HRW HRW1 HST1 HTO1 HAN1 HNL0 hlt hk
              have HTL : Hid (∀ q, (Value.slice at' k cp).ownBlock = some q → q < w7.heap.size) := fun q e => (hto.out.blk q e).2
              have HAL : Hid (∀ q, (Value.slice av n cv).ownBlock = some q → q < w7.heap.size) := fun q e => (World.ownsRow.lt han.out q e).2
              have hlo := hst.out.ll
              have HLR : Hid (w7.ownsRow w7.heap.size 86 2 (.slice none 0 0) 0 (latV (mapLat st.1 (ls.take 0)))) := World.ownsRow_nil _ _ _ _
              go_wp2_with fail
              go_loopw [10] (fun i wr => ∃ al' cl' j, j ≤ ls.length ∧ i = .int .i64 (j : Nat) ∧ Hid (wr.ownsRow w7.heap.size 86 2 (.slice al' j cl') j (latV (mapLat st.1 (ls.take j)))) ∧ Hid (Owni wr (wi.heap.size + 1) (.slice at' k cp) st.1) ∧ Hid (wr.ownsRow (wi.heap.size + 1) 65 2 (.slice av n cv) n (andV st.2)) ∧ w7.heap.size ≤ wr.heap.size ∧ Hid (Fst w wr w.heap.size (w.heap.size + 1) (wi.heap.size) (wi.heap.size + 1) inp (.slice al ls.length cl) (.slice aa xs.length ca) (.slice ab bs.length cb) (.slice al' j cl') (.slice av n cv) (.slice none 0 0))) (fun i _ => ls.length - (intOf i).toNat)
              case atStart => exact ⟨none, 0, 0, Nat.zero_le _, rfl, HLR, hto, han, Nat.le_refl _, hst⟩
              case round =>
                rename World => wp
                obtain ⟨al', cl', j, hj, rfl, hlr, hto, han, hgs, hst⟩ := hrel
                have c1 := hst.out.b.four.c1
                by_cases hlt : j < ls.length
                · obtain ⟨bl, off, hao, hbb, hxc⟩ : ∃ bl off, al = some ⟨bl, off, none⟩ ∧ bl < w.heap.size ∧ ∀ W, Below w.heap.size w W → W.cell? ⟨bl, off + j * 2, none⟩ = some (.int .i64 (ls.getD j (0, false)).1) ∧ W.cell? ⟨bl, off + j * 2 + 1, none⟩ = some (.bool (ls.getD j (0, false)).2) := by
                    obtain ⟨ao', cap', he, h⟩ := (HC.out w (Below.refl _ _)).isL
                    obtain ⟨bl, off, ha, hc⟩ := h (by intro e; subst e; simp at hlt)
                    injection he with e1 e2 e3
                    refine ⟨bl, off, e1.trans ha, cell_lt (hc j hlt).1, fun W hW => ?_⟩
                    obtain ⟨q1, q2⟩ := hc j hlt
                    exact ⟨(hW.cell (p := ⟨bl, off + j * 2, none⟩) (cell_lt q1)).trans q1, (hW.cell (p := ⟨bl, off + j * 2 + 1, none⟩) (cell_lt q2)).trans q2⟩
                  subst hao
                  have hmem : ls.getD j (0, false) ∈ ls := by rw [List.getD, List.getElem?_eq_getElem hlt]; simp
                  obtain ⟨hn0, hn1⟩ := HL.out _ hmem
                  have HSU : Hid (latV (mapLat st.1 (ls.take (j + 1))) = latV (mapLat st.1 (ls.take j)) ++ [.int .i64 (mapL st.1 (ls.getD j (0, false)).1), .bool (ls.getD j (0, false)).2]) := by
                    show _ = _
                    rw [List.take_succ_eq_append_getElem hlt]
                    have e : ls.getD j (0, false) = ls[j] := by simp [List.getD, hlt]
                    rw [e]
                    unfold mapLat
                    rw [List.map_append]
                    exact latV_snoc _ _ _
                  generalize ls.getD j (0, false) = x at *
                  obtain ⟨nx, ini⟩ := x
                  have hn0 : 0 ≤ nx := hn0
                  have hn1 : nx < 2 * ((F : Int) + xs.length) := hn1
                  have s0 := hst.out.c.four.c1
                  have s1 := hst.out.b.four.c1
                  have s2 : wp.cell? ⟨bl, off + j * 2, none⟩ = some (.int .i64 nx) := (hxc _ hst.out.bel).1
                  have s3 : wp.cell? ⟨bl, off + j * 2 + 1, none⟩ = some (.bool ini) := (hxc _ hst.out.bel).2
                  have s4 := hst.out.c.lt
                  have s5 := hst.out.b.lt
                  have s6 := hst.out.c.fz 1
                  have s7 : bl < wp.heap.size := Nat.lt_of_lt_of_le hbb hst.out.bel.size
                  obtain ⟨P, hP⟩ : ∃ P, mapL st.1 nx = P := ⟨_, rfl⟩
                  have HMA : Hid (∀ V, IsInts V (.slice at' k cp) st.1 → Calls Try.prog 106 #[.slice at' k cp, .int .i64 nx] V fun e w' => e = .returned (.int .i64 P) ∧ w' = V) := fun V hV => by
                    have h := l3Map_any (.slice at' k cp) st.1 nx k (F + n + 1) V hV HTOK.out hn0 (by have := HMM.out; omega) (by omega) (by omega)
                    rw [hP] at h
                    exact h
                  have HXC := hideN hxc
                  have HSU2 : Hid (latV (mapLat st.1 (ls.take (j + 1))) = latV (mapLat st.1 (ls.take j)) ++ [.int .i64 P, .bool ini]) := by show _ = _; rw [← hP]; exact HSU.out
                  clear hP hxc hmem c1 HSU
                  go_wp2_with fail
                  refine region_S (fin := 20) (S := fun V => V.cell? ⟨wi.heap.size, 1, none⟩ = some (.slice al' j cl') ∧ V.cell? ⟨w.heap.size, 1, none⟩ = some (.slice (some ⟨bl, off, none⟩) ls.length cl) ∧ V.cell? ⟨bl, off + j * 2, none⟩ = some (.int .i64 nx) ∧ V.cell? ⟨bl, off + j * 2 + 1, none⟩ = some (.bool ini)) (by kernel_rfl) ⟨s0, s1, s2, s3⟩ (fun hHeld => ?walkL)
                  case walkL =>
                  clear hHeld
                  refine takeS (i := 0) (v := .pointer (some ⟨wi.heap.size, 1, none⟩)) rfl (by kernel_rfl) (by kernel_rfl) (by kernel_rfl) (by kernel_rfl) (fun _ _ _ h => h) (Or.inl ⟨by rfl, fun w hS => by obtain ⟨s0, s1, s2, s3⟩ := hS; go_simp⟩) ⟨s0, s1, s2, s3⟩ ?_
                  simp only [List.getElem_toArray, List.getElem_cons_zero, Act.put, List.setIfInBounds_toArray, List.set_cons_zero, List.set_cons_succ]
                  refine takeS (i := 1) (v := .slice al' j cl') rfl (by kernel_rfl) (by kernel_rfl) (by kernel_rfl) (by kernel_rfl) (fun _ _ _ h => h) (Or.inl ⟨by rfl, fun w hS => by obtain ⟨s0, s1, s2, s3⟩ := hS; go_simp⟩) ⟨s0, s1, s2, s3⟩ ?_
                  simp only [List.getElem_toArray, List.getElem_cons_zero, List.getElem_cons_succ, Act.put, List.setIfInBounds_toArray, List.set_cons_zero, List.set_cons_succ]
                  refine takeS (i := 2) (v := .slice at' k cp) rfl (by kernel_rfl) (by kernel_rfl) (by kernel_rfl) (by kernel_rfl) (fun _ _ _ h => h) (Or.inl ⟨by rfl, fun w hS => by obtain ⟨s0, s1, s2, s3⟩ := hS; go_simp⟩) ⟨s0, s1, s2, s3⟩ ?_
                  simp only [List.getElem_toArray, List.getElem_cons_zero, List.getElem_cons_succ, Act.put, List.setIfInBounds_toArray, List.set_cons_zero, List.set_cons_succ]
                  refine takeS (i := 3) (v := .pointer (some ⟨w.heap.size, 1, none⟩)) rfl (by kernel_rfl) (by kernel_rfl) (by kernel_rfl) (by kernel_rfl) (fun _ _ _ h => h) (Or.inl ⟨by rfl, fun w hS => by obtain ⟨s0, s1, s2, s3⟩ := hS; go_simp⟩) ⟨s0, s1, s2, s3⟩ ?_
                  simp only [List.getElem_toArray, List.getElem_cons_zero, List.getElem_cons_succ, Act.put, List.setIfInBounds_toArray, List.set_cons_zero, List.set_cons_succ]
                  refine takeS (i := 4) (v := .slice (some ⟨bl, off, none⟩) ls.length cl) rfl (by kernel_rfl) (by kernel_rfl) (by kernel_rfl) (by kernel_rfl) (fun _ _ _ h => h) (Or.inl ⟨by rfl, fun w hS => by obtain ⟨s0, s1, s2, s3⟩ := hS; go_simp⟩) ⟨s0, s1, s2, s3⟩ ?_
                  simp only [List.getElem_toArray, List.getElem_cons_zero, List.getElem_cons_succ, Act.put, List.setIfInBounds_toArray, List.set_cons_zero, List.set_cons_succ]
                  refine takeS (i := 5) (v := .int .i64 (j : Int)) rfl (by kernel_rfl) (by kernel_rfl) (by kernel_rfl) (by kernel_rfl) (fun _ _ _ h => h) (Or.inl ⟨by rfl, fun w hS => by obtain ⟨s0, s1, s2, s3⟩ := hS; go_simp⟩) ⟨s0, s1, s2, s3⟩ ?_
                  simp only [List.getElem_toArray, List.getElem_cons_zero, List.getElem_cons_succ, Act.put, List.setIfInBounds_toArray, List.set_cons_zero, List.set_cons_succ]
                  refine takeS (i := 6) (v := .pointer (some ⟨bl, off + j * 2, none⟩)) rfl (by kernel_rfl) (by kernel_rfl) (by kernel_rfl) (by kernel_rfl) (fun _ _ _ h => h) (Or.inl ⟨by rfl, fun w hS => by obtain ⟨s0, s1, s2, s3⟩ := hS; go_simp⟩) ⟨s0, s1, s2, s3⟩ ?_
                  simp only [List.getElem_toArray, List.getElem_cons_zero, List.getElem_cons_succ, Act.put, List.setIfInBounds_toArray, List.set_cons_zero, List.set_cons_succ]
                  refine takeS (i := 7) (v := .pointer (some ⟨bl, off + j * 2, none⟩)) rfl (by kernel_rfl) (by kernel_rfl) (by kernel_rfl) (by kernel_rfl) (fun _ _ _ h => h) (Or.inl ⟨by rfl, fun w hS => by obtain ⟨s0, s1, s2, s3⟩ := hS; go_simp⟩) ⟨s0, s1, s2, s3⟩ ?_
                  simp only [List.getElem_toArray, List.getElem_cons_zero, List.getElem_cons_succ, Act.put, List.setIfInBounds_toArray, List.set_cons_zero, List.set_cons_succ]
                  refine takeS (i := 8) (v := .int .i64 nx) rfl (by kernel_rfl) (by kernel_rfl) (by kernel_rfl) (by kernel_rfl) (fun _ _ _ h => h) (Or.inl ⟨by rfl, fun w hS => by obtain ⟨s0, s1, s2, s3⟩ := hS; go_simp⟩) ⟨s0, s1, s2, s3⟩ ?_
                  simp only [List.getElem_toArray, List.getElem_cons_zero, List.getElem_cons_succ, Act.put, List.setIfInBounds_toArray, List.set_cons_zero, List.set_cons_succ]
                  refine takeS (i := 10) (v := .pointer (some ⟨w.heap.size, 1, none⟩)) rfl (by kernel_rfl) (by kernel_rfl) (by kernel_rfl) (by kernel_rfl) (fun _ _ _ h => h) (Or.inl ⟨by rfl, fun w hS => by obtain ⟨s0, s1, s2, s3⟩ := hS; go_simp⟩) ⟨s0, s1, s2, s3⟩ ?_
                  simp only [List.getElem_toArray, List.getElem_cons_zero, List.getElem_cons_succ, Act.put, List.setIfInBounds_toArray, List.set_cons_zero, List.set_cons_succ]
                  refine takeS (i := 11) (v := .slice (some ⟨bl, off, none⟩) ls.length cl) rfl (by kernel_rfl) (by kernel_rfl) (by kernel_rfl) (by kernel_rfl) (fun _ _ _ h => h) (Or.inl ⟨by rfl, fun w hS => by obtain ⟨s0, s1, s2, s3⟩ := hS; go_simp⟩) ⟨s0, s1, s2, s3⟩ ?_
                  simp only [List.getElem_toArray, List.getElem_cons_zero, List.getElem_cons_succ, Act.put, List.setIfInBounds_toArray, List.set_cons_zero, List.set_cons_succ]
                  refine takeS (i := 12) (v := .int .i64 (j : Int)) rfl (by kernel_rfl) (by kernel_rfl) (by kernel_rfl) (by kernel_rfl) (fun _ _ _ h => h) (Or.inl ⟨by rfl, fun w hS => by obtain ⟨s0, s1, s2, s3⟩ := hS; go_simp⟩) ⟨s0, s1, s2, s3⟩ ?_
                  simp only [List.getElem_toArray, List.getElem_cons_zero, List.getElem_cons_succ, Act.put, List.setIfInBounds_toArray, List.set_cons_zero, List.set_cons_succ]
                  refine takeS (i := 13) (v := .pointer (some ⟨bl, off + j * 2, none⟩)) rfl (by kernel_rfl) (by kernel_rfl) (by kernel_rfl) (by kernel_rfl) (fun _ _ _ h => h) (Or.inl ⟨by rfl, fun w hS => by obtain ⟨s0, s1, s2, s3⟩ := hS; go_simp⟩) ⟨s0, s1, s2, s3⟩ ?_
                  simp only [List.getElem_toArray, List.getElem_cons_zero, List.getElem_cons_succ, Act.put, List.setIfInBounds_toArray, List.set_cons_zero, List.set_cons_succ]
                  refine takeS (i := 14) (v := .pointer (some ⟨bl, off + j * 2 + 1, none⟩)) rfl (by kernel_rfl) (by kernel_rfl) (by kernel_rfl) (by kernel_rfl) (fun _ _ _ h => h) (Or.inl ⟨by rfl, fun w hS => by obtain ⟨s0, s1, s2, s3⟩ := hS; go_simp⟩) ⟨s0, s1, s2, s3⟩ ?_
                  simp only [List.getElem_toArray, List.getElem_cons_zero, List.getElem_cons_succ, Act.put, List.setIfInBounds_toArray, List.set_cons_zero, List.set_cons_succ]
                  refine takeS (i := 15) (v := .bool ini) rfl (by kernel_rfl) (by kernel_rfl) (by kernel_rfl) (by kernel_rfl) (fun _ _ _ h => h) (Or.inl ⟨by rfl, fun w hS => by obtain ⟨s0, s1, s2, s3⟩ := hS; go_simp⟩) ⟨s0, s1, s2, s3⟩ ?_
                  simp only [List.getElem_toArray, List.getElem_cons_zero, List.getElem_cons_succ, Act.put, List.setIfInBounds_toArray, List.set_cons_zero, List.set_cons_succ]
                  refine oneS (i := 9) (by kernel_rfl) rfl (by rfl) ?_
                  simp only [List.getElem_toArray, List.getElem_cons_zero, List.getElem_cons_succ]
                  go_simp
                  refine (HMA.out _ (by exact hto.out.isInts)).mono ?_
                  rintro e w' ⟨rfl, hw'⟩
                  obtain rfl := hw'.symm
                  refine ⟨⟨s0, s1, s2, s3⟩, ?_⟩
                  refine takeS (i := 16) (v := .agg #[.int .i64 P, .bool ini]) rfl (by kernel_rfl) (by kernel_rfl) (by kernel_rfl) (by kernel_rfl) (fun _ _ _ h => h) (Or.inl ⟨by rfl, fun w hS => by obtain ⟨s0, s1, s2, s3⟩ := hS; go_simp⟩) ⟨s0, s1, s2, s3⟩ ?_
                  simp only [List.getElem_toArray, List.getElem_cons_zero, List.getElem_cons_succ, Act.put, List.setIfInBounds_toArray, List.set_cons_zero, List.set_cons_succ]
                  refine oneS (i := 17) (by kernel_rfl) rfl (by rfl) ?_
                  simp only [List.getElem_toArray, List.getElem_cons_zero, List.getElem_cons_succ]
                  go_simp
                  have HBD : Hid (Below wp.heap.size wp (wp.alloc (.cells #[.int .i64 P, .bool ini] 86)).drew) := below_drewN (belOne _ _) 1
                  have HLD := hideN (row_below hlr.out HBD.out)
                  refine oneS (i := 18) (by kernel_rfl) rfl (by rfl) ?_
                  simp only [List.getElem_toArray, List.getElem_cons_zero, List.getElem_cons_succ]
                  refine wp_append_lies _ (.tmp 110) (.tmp 126) 30 rfl w7.heap.size 86 il (.agg #[.int .i64 0, .bool false]) 2 16 Try.underlying30 hil hzl0 hzl1 hzl2 rfl (by decide) (.slice al' j cl') j (latV (mapLat st.1 (ls.take j))) rfl HLD.out ⟨wp.heap.size, 0, none⟩ 1 1 [.int .i64 P, .bool ini] rfl rfl (by exact news2 wp _ _ _) (lat_oneCell _ _) (by decide) (by unfold maxLen; omega) (by omega) (by simp; omega) _ rfl ?_
                  intro g gcap w9 hown9 hgrow9 hat9 hlt9
                  have hfr : ∀ q, (Value.slice al' j cl').ownBlock = some q → wi.heap.size + 1 ≤ q := fun q e => by have := (World.ownsRow.lt HLD.out q e).1; omega
                  have HS9 := hideN ((hst.out.below HBD.out).grown hgrow9 hfr)
                  have HT9 : Hid (Owni w9 (wi.heap.size + 1) (.slice at' k cp) st.1) := by have h := hto.out.below HBD.out; exact owni_of_block h (fun q e => hgrow9.block q (h.blk q e).2 (fun e2 => rows_apart h HLD.out (by decide) q e e2.symm))
                  have HA9 : Hid (w9.ownsRow (wi.heap.size + 1) 65 2 (.slice av n cv) n (andV st.2)) := by have h := row_below han.out HBD.out; exact row_of_block h (fun q e => hgrow9.block q (World.ownsRow.lt h q e).2 (fun e2 => rows_apart h HLD.out (by decide) q e e2.symm))
                  have HSZ := hgrow9.size
                  have HL9 : Hid (w9.ownsRow w7.heap.size 86 2 (.slice (some ⟨g, 0, none⟩) (j + 1) gcap) (j + 1) (latV (mapLat st.1 (ls.take (j + 1))))) := by show World.ownsRow _ _ _ _ _ _ _; rw [HSU2.out]; exact hown9
                  have hgs9 : w7.heap.size ≤ w9.heap.size := by have := hgrow9.size; simp at this; omega
                  clear hown9 hgrow9 hat9 hlt9 hfr s0 s1 s2 s3 s4 s5 s6 HSZ
                  have r0 := HS9.out.c.four.c1
                  have r1 := HS9.out.b.four.c1
                  obtain ⟨r2, r3⟩ := HXC.out _ HS9.out.bel
                  have r4 := HS9.out.c.lt
                  have r6 := HS9.out.c.fz 1
                  refine ⟨fun _ => ⟨r0, r1, r2, r3⟩, ?_⟩
                  simp only [Act.put, List.setIfInBounds_toArray, List.set_cons_zero, List.set_cons_succ]
                  refine takeS (i := 19) (v := .pointer (some ⟨wi.heap.size, 1, none⟩)) rfl (by kernel_rfl) (by kernel_rfl) (by kernel_rfl) (by kernel_rfl) (fun _ _ _ h => h) (Or.inl ⟨by rfl, fun w hS => by obtain ⟨r0, r1, r2, r3⟩ := hS; go_simp⟩) ⟨r0, r1, r2, r3⟩ ?_
                  simp only [List.getElem_toArray, List.getElem_cons_zero, List.getElem_cons_succ, Act.put, List.setIfInBounds_toArray, List.set_cons_zero, List.set_cons_succ]
                  refine oneS (i := 20) (by kernel_rfl) rfl (by rfl) ?_
                  simp only [List.getElem_toArray, List.getElem_cons_zero, List.getElem_cons_succ]
                  go_simp
                  refine doneS (by kernel_rfl) ?_ _
                  have HS10 := hideN (HS9.out.set1 (.slice (some ⟨g, 0, none⟩) (j + 1) gcap))
                  have HT10 := hideN (HT9.out.setC (i := 1) HS9.out.cl (.slice (some ⟨g, 0, none⟩) (j + 1) gcap))
                  have HA10 := hideN (row_setC (i := 1) HA9.out HS9.out.cl (.slice (some ⟨g, 0, none⟩) (j + 1) gcap))
                  have HL10 := hideN (row_setC (i := 1) HL9.out (show wi.heap.size < w7.heap.size by omega) (.slice (some ⟨g, 0, none⟩) (j + 1) gcap))
                  clear r0 r1 r2 r3 r4 r6 HS9 HT9 HA9 HL9
                  go_wp2_with fail
                  go_roundw
                  case rel => first | exact ⟨_, gcap, j + 1, by omega, by go_num, HL10, HT10, HA10, by simpa using hgs9, HS10⟩ | exact ⟨_, gcap, j + 1, by omega, by go_num, HL10, HS10⟩
                  case measure => simp [intOf]; omega
                · obtain rfl : j = ls.length := by omega
                  have HLK : Hid (wp.ownsRow w7.heap.size 86 2 (.slice al' ls.length cl') ls.length (latV (mapLat st.1 ls))) := by have h := hlr.out; rw [List.take_length] at h; exact h
                  have hlh := hst.out.ll
                  have HBR : Hid (wp.ownsRow wp.heap.size 3 1 (.slice none 0 0) 0 (intV (mapBad st.1 (bs.take 0)))) := World.ownsRow_nil _ _ _ _
                  clear hlr hlt hj
                  have HTL2 : Hid (∀ q, (Value.slice at' k cp).ownBlock = some q → q < wp.heap.size) := fun q e => Nat.lt_of_lt_of_le (HTL.out q e) hgs
                  go_wp2_with fail
                  go_loopw [11] (fun i wr => ∃ ab' cb' j, j ≤ bs.length ∧ i = .int .i64 (j : Nat) ∧ Hid (wr.ownsRow wp.heap.size 3 1 (.slice ab' j cb') j (intV (mapBad st.1 (bs.take j)))) ∧ Hid (wr.ownsRow w7.heap.size 86 2 (.slice al' ls.length cl') ls.length (latV (mapLat st.1 ls))) ∧ Hid (Owni wr (wi.heap.size + 1) (.slice at' k cp) st.1) ∧ Hid (wr.ownsRow (wi.heap.size + 1) 65 2 (.slice av n cv) n (andV st.2)) ∧ wp.heap.size ≤ wr.heap.size ∧ Hid (Fst w wr w.heap.size (w.heap.size + 1) (wi.heap.size) (wi.heap.size + 1) inp (.slice al ls.length cl) (.slice aa xs.length ca) (.slice ab bs.length cb) (.slice al' ls.length cl') (.slice av n cv) (.slice ab' j cb'))) (fun i _ => bs.length - (intOf i).toNat)
                  case atStart => exact ⟨none, 0, 0, Nat.zero_le _, rfl, HBR, HLK, hto, han, Nat.le_refl _, hst⟩
                  case round =>
                    rename World => wq
                    obtain ⟨ab', cb', j, hj, rfl, hbr, hlr, hto, han, hgs2, hst⟩ := hrel
                    have c3 := hst.out.b.four.c3
                    by_cases hlt : j < bs.length
                    · obtain ⟨bb, off, hao, hbb, hxc⟩ : ∃ bb off, ab = some ⟨bb, off, none⟩ ∧ bb < w.heap.size ∧ ∀ W, Below w.heap.size w W → W.cell? ⟨bb, off + j, none⟩ = some (.int .i64 (bs.getD j 0)) := by
                        obtain ⟨ao', cap', he, h⟩ := (HC.out w (Below.refl _ _)).isB
                        obtain ⟨bb, off, ha, hc⟩ := h (by intro e; subst e; simp at hlt)
                        injection he with e1 e2 e3
                        refine ⟨bb, off, e1.trans ha, cell_lt (hc j hlt), fun W hW => ?_⟩
                        exact (hW.cell (p := ⟨bb, off + j, none⟩) (cell_lt (hc j hlt))).trans (hc j hlt)
                      subst hao
                      have hmem : bs.getD j 0 ∈ bs := by rw [List.getD, List.getElem?_eq_getElem hlt]; simp
                      obtain ⟨hn0, hn1⟩ := HBD.out _ hmem
                      have HSU : Hid (intV (mapBad st.1 (bs.take (j + 1))) = intV (mapBad st.1 (bs.take j)) ++ [.int .i64 (mapL st.1 (bs.getD j 0))]) := by
                        show _ = _
                        rw [List.take_succ_eq_append_getElem hlt]
                        have e : bs.getD j 0 = bs[j] := by simp [List.getD, hlt]
                        rw [e]
                        unfold mapBad intV
                        rw [List.map_append, List.map_append]
                        rfl
                      generalize bs.getD j 0 = nx at *
                      have s0 := hst.out.c.four.c3
                      have s1 := hst.out.b.four.c3
                      have s2 : wq.cell? ⟨bb, off + j, none⟩ = some (.int .i64 nx) := hxc _ hst.out.bel
                      have s4 := hst.out.c.lt
                      have s5 := hst.out.b.lt
                      have s6 := hst.out.c.fz 3
                      have s7 : bb < wq.heap.size := Nat.lt_of_lt_of_le hbb hst.out.bel.size
                      obtain ⟨P, hP⟩ : ∃ P, mapL st.1 nx = P := ⟨_, rfl⟩
                      have HMA : Hid (∀ V, IsInts V (.slice at' k cp) st.1 → Calls Try.prog 106 #[.slice at' k cp, .int .i64 nx] V fun e w' => e = .returned (.int .i64 P) ∧ w' = V) := fun V hV => by
                        have h := l3Map_any (.slice at' k cp) st.1 nx k (F + n + 1) V hV HTOK.out hn0 (by have := HMM.out; omega) (by omega) (by omega)
                        rw [hP] at h
                        exact h
                      have HXC := hideN hxc
                      have HSU2 : Hid (intV (mapBad st.1 (bs.take (j + 1))) = intV (mapBad st.1 (bs.take j)) ++ [.int .i64 P]) := by show _ = _; rw [← hP]; exact HSU.out
                      clear hP hxc hmem c3 HSU
                      go_wp2_with fail
                      refine region_S (fin := 12) (S := fun V => V.cell? ⟨wi.heap.size, 3, none⟩ = some (.slice ab' j cb') ∧ V.cell? ⟨w.heap.size, 3, none⟩ = some (.slice (some ⟨bb, off, none⟩) bs.length cb) ∧ V.cell? ⟨bb, off + j, none⟩ = some (.int .i64 nx)) (by kernel_rfl) ⟨s0, s1, s2⟩ (fun hHeld => ?walkM)
                      case walkM =>
                      clear hHeld
                      refine takeS (i := 0) (v := .pointer (some ⟨wi.heap.size, 3, none⟩)) rfl (by kernel_rfl) (by kernel_rfl) (by kernel_rfl) (by kernel_rfl) (fun _ _ _ h => h) (Or.inl ⟨by rfl, fun w hS => by obtain ⟨s0, s1, s2⟩ := hS; go_simp⟩) ⟨s0, s1, s2⟩ ?_
                      simp only [List.getElem_toArray, List.getElem_cons_zero, Act.put, List.setIfInBounds_toArray, List.set_cons_zero, List.set_cons_succ]
                      refine takeS (i := 1) (v := .slice ab' j cb') rfl (by kernel_rfl) (by kernel_rfl) (by kernel_rfl) (by kernel_rfl) (fun _ _ _ h => h) (Or.inl ⟨by rfl, fun w hS => by obtain ⟨s0, s1, s2⟩ := hS; go_simp⟩) ⟨s0, s1, s2⟩ ?_
                      simp only [List.getElem_toArray, List.getElem_cons_zero, List.getElem_cons_succ, Act.put, List.setIfInBounds_toArray, List.set_cons_zero, List.set_cons_succ]
                      refine takeS (i := 2) (v := .slice at' k cp) rfl (by kernel_rfl) (by kernel_rfl) (by kernel_rfl) (by kernel_rfl) (fun _ _ _ h => h) (Or.inl ⟨by rfl, fun w hS => by obtain ⟨s0, s1, s2⟩ := hS; go_simp⟩) ⟨s0, s1, s2⟩ ?_
                      simp only [List.getElem_toArray, List.getElem_cons_zero, List.getElem_cons_succ, Act.put, List.setIfInBounds_toArray, List.set_cons_zero, List.set_cons_succ]
                      refine takeS (i := 3) (v := .pointer (some ⟨w.heap.size, 3, none⟩)) rfl (by kernel_rfl) (by kernel_rfl) (by kernel_rfl) (by kernel_rfl) (fun _ _ _ h => h) (Or.inl ⟨by rfl, fun w hS => by obtain ⟨s0, s1, s2⟩ := hS; go_simp⟩) ⟨s0, s1, s2⟩ ?_
                      simp only [List.getElem_toArray, List.getElem_cons_zero, List.getElem_cons_succ, Act.put, List.setIfInBounds_toArray, List.set_cons_zero, List.set_cons_succ]
                      refine takeS (i := 4) (v := .slice (some ⟨bb, off, none⟩) bs.length cb) rfl (by kernel_rfl) (by kernel_rfl) (by kernel_rfl) (by kernel_rfl) (fun _ _ _ h => h) (Or.inl ⟨by rfl, fun w hS => by obtain ⟨s0, s1, s2⟩ := hS; go_simp⟩) ⟨s0, s1, s2⟩ ?_
                      simp only [List.getElem_toArray, List.getElem_cons_zero, List.getElem_cons_succ, Act.put, List.setIfInBounds_toArray, List.set_cons_zero, List.set_cons_succ]
                      refine takeS (i := 5) (v := .int .i64 (j : Int)) rfl (by kernel_rfl) (by kernel_rfl) (by kernel_rfl) (by kernel_rfl) (fun _ _ _ h => h) (Or.inl ⟨by rfl, fun w hS => by obtain ⟨s0, s1, s2⟩ := hS; go_simp⟩) ⟨s0, s1, s2⟩ ?_
                      simp only [List.getElem_toArray, List.getElem_cons_zero, List.getElem_cons_succ, Act.put, List.setIfInBounds_toArray, List.set_cons_zero, List.set_cons_succ]
                      refine takeS (i := 6) (v := .pointer (some ⟨bb, off + j, none⟩)) rfl (by kernel_rfl) (by kernel_rfl) (by kernel_rfl) (by kernel_rfl) (fun _ _ _ h => h) (Or.inl ⟨by rfl, fun w hS => by obtain ⟨s0, s1, s2⟩ := hS; go_simp⟩) ⟨s0, s1, s2⟩ ?_
                      simp only [List.getElem_toArray, List.getElem_cons_zero, List.getElem_cons_succ, Act.put, List.setIfInBounds_toArray, List.set_cons_zero, List.set_cons_succ]
                      refine takeS (i := 7) (v := .int .i64 nx) rfl (by kernel_rfl) (by kernel_rfl) (by kernel_rfl) (by kernel_rfl) (fun _ _ _ h => h) (Or.inl ⟨by rfl, fun w hS => by obtain ⟨s0, s1, s2⟩ := hS; go_simp⟩) ⟨s0, s1, s2⟩ ?_
                      simp only [List.getElem_toArray, List.getElem_cons_zero, List.getElem_cons_succ, Act.put, List.setIfInBounds_toArray, List.set_cons_zero, List.set_cons_succ]
                      refine oneS (i := 8) (by kernel_rfl) rfl (by rfl) ?_
                      simp only [List.getElem_toArray, List.getElem_cons_zero, List.getElem_cons_succ]
                      go_simp
                      refine (HMA.out _ (by exact hto.out.isInts)).mono ?_
                      rintro e w' ⟨rfl, hw'⟩
                      obtain rfl := hw'.symm
                      refine ⟨⟨s0, s1, s2⟩, ?_⟩
                      refine oneS (i := 9) (by kernel_rfl) rfl (by rfl) ?_
                      simp only [List.getElem_toArray, List.getElem_cons_zero, List.getElem_cons_succ]
                      go_simp
                      have HBE : Hid (Below wq.heap.size wq (wq.alloc (.cells #[.int .i64 P] 3)).drew) := below_drewN (belOne _ _) 1
                      have HLD := hideN (row_below hbr.out HBE.out)
                      refine oneS (i := 10) (by kernel_rfl) rfl (by rfl) ?_
                      simp only [List.getElem_toArray, List.getElem_cons_zero, List.getElem_cons_succ]
                      refine wp_append_lies _ (.tmp 137) (.tmp 145) 24 rfl wp.heap.size 3 ib (.int .i64 0) 1 8 Try.underlying24 hib hzb0 hzb1 hzb2 rfl (by decide) (.slice ab' j cb') j (intV (mapBad st.1 (bs.take j))) rfl HLD.out ⟨wq.heap.size, 0, none⟩ 1 1 [.int .i64 P] rfl rfl (by exact news1 wq _ _) (ints_oneCell .i64 [P]) (by decide) (by unfold maxLen; omega) (by omega) (by simp; omega) _ rfl ?_
                      intro g gcap w9 hown9 hgrow9 hat9 hlt9
                      have hfr : ∀ q, (Value.slice ab' j cb').ownBlock = some q → wp.heap.size ≤ q := fun q e => (World.ownsRow.lt HLD.out q e).1
                      have HS9 := hideN ((hst.out.below HBE.out).grown hgrow9 (fun q e => by have := hfr q e; omega))
                      have HT9 : Hid (Owni w9 (wi.heap.size + 1) (.slice at' k cp) st.1) := by have h := hto.out.below HBE.out; exact owni_of_block h (fun q e => hgrow9.block q (h.blk q e).2 (fun e2 => by have := hfr q e2.symm; have := HTL2.out q e; omega))
                      have HA9 : Hid (w9.ownsRow (wi.heap.size + 1) 65 2 (.slice av n cv) n (andV st.2)) := by have h := row_below han.out HBE.out; exact row_of_block h (fun q e => hgrow9.block q (World.ownsRow.lt h q e).2 (fun e2 => rows_apart h HLD.out (by decide) q e e2.symm))
                      have HL9 : Hid (w9.ownsRow w7.heap.size 86 2 (.slice al' ls.length cl') ls.length (latV (mapLat st.1 ls))) := by have h := row_below hlr.out HBE.out; exact row_of_block h (fun q e => hgrow9.block q (World.ownsRow.lt h q e).2 (fun e2 => rows_apart h HLD.out (by decide) q e e2.symm))
                      have HB9 : Hid (w9.ownsRow wp.heap.size 3 1 (.slice (some ⟨g, 0, none⟩) (j + 1) gcap) (j + 1) (intV (mapBad st.1 (bs.take (j + 1))))) := by show World.ownsRow _ _ _ _ _ _ _; rw [HSU2.out]; exact hown9
                      have hgs9 : wp.heap.size ≤ w9.heap.size := by have := hgrow9.size; simp at this; omega
                      clear hown9 hgrow9 hat9 hlt9 hfr s0 s1 s2 s4 s5 s6
                      have r0 := HS9.out.c.four.c3
                      have r1 := HS9.out.b.four.c3
                      have r2 := HXC.out _ HS9.out.bel
                      have r4 := HS9.out.c.lt
                      have r6 := HS9.out.c.fz 3
                      refine ⟨fun _ => ⟨r0, r1, r2⟩, ?_⟩
                      simp only [Act.put, List.setIfInBounds_toArray, List.set_cons_zero, List.set_cons_succ]
                      refine takeS (i := 11) (v := .pointer (some ⟨wi.heap.size, 3, none⟩)) rfl (by kernel_rfl) (by kernel_rfl) (by kernel_rfl) (by kernel_rfl) (fun _ _ _ h => h) (Or.inl ⟨by rfl, fun w hS => by obtain ⟨r0, r1, r2⟩ := hS; go_simp⟩) ⟨r0, r1, r2⟩ ?_
                      simp only [List.getElem_toArray, List.getElem_cons_zero, List.getElem_cons_succ, Act.put, List.setIfInBounds_toArray, List.set_cons_zero, List.set_cons_succ]
                      refine oneS (i := 12) (by kernel_rfl) rfl (by rfl) ?_
                      simp only [List.getElem_toArray, List.getElem_cons_zero, List.getElem_cons_succ]
                      go_simp
                      refine doneS (by kernel_rfl) ?_ _
                      have HS10 := hideN (HS9.out.set3 (.slice (some ⟨g, 0, none⟩) (j + 1) gcap))
                      have HT10 := hideN (HT9.out.setC (i := 3) HS9.out.cl (.slice (some ⟨g, 0, none⟩) (j + 1) gcap))
                      have HA10 := hideN (row_setC (i := 3) HA9.out HS9.out.cl (.slice (some ⟨g, 0, none⟩) (j + 1) gcap))
                      have HL10 := hideN (row_setC (i := 3) HL9.out (show wi.heap.size < w7.heap.size by omega) (.slice (some ⟨g, 0, none⟩) (j + 1) gcap))
                      have HB10 := hideN (row_setC (i := 3) HB9.out (show wi.heap.size < wp.heap.size by omega) (.slice (some ⟨g, 0, none⟩) (j + 1) gcap))
                      clear r0 r1 r2 r4 r6 HS9 HT9 HA9 HL9 HB9
                      go_wp2_with fail
                      go_roundw
                      case rel => first | exact ⟨_, gcap, j + 1, by omega, by go_num, HB10, HL10, HT10, HA10, by simpa using hgs9, HS10⟩ | exact ⟨_, gcap, j + 1, by omega, by go_num, HB10, HS10⟩
                      case measure => simp [intOf]; omega
                    · obtain rfl : j = bs.length := by omega
                      have HBK : Hid (wq.ownsRow wp.heap.size 3 1 (.slice ab' bs.length cb') bs.length (intV (mapBad st.1 bs))) := by have h := hbr.out; rw [List.take_length] at h; exact h
                      have d0 := hst.out.c.four.c0
                      have d1 := hst.out.c.four.c1
                      have d2 := hst.out.c.four.c2
                      have d3 := hst.out.c.four.c3
                      have d4 := hst.out.c.lt
                      have m2 := hst.out.q.lt
                      have m3 := hst.out.q.fz 0
                      have m4 := hst.out.q.fz 1
                      have m5 := hst.out.q.fz 2
                      have m6 := hst.out.q.fz 3
                      have m7 := hst.out.q.four.c0
                      have m8 := hst.out.q.four.c1
                      have m9 := hst.out.q.four.c2
                      have m10 := hst.out.q.four.c3
                      have hqq := (((hst.out.q.set0 (.int .i64 inp)).set1 (.slice al' ls.length cl')).set2 (.slice av n cv)).set3 (.slice ab' bs.length cb')
                      have u0 := hqq.four.c0
                      have u1 := hqq.four.c1
                      have u2 := hqq.four.c2
                      have u3 := hqq.four.c3
                      clear hqq hbr
                      have hq3 : w.heap.size + 1 < wi.heap.size + 1 := by omega
                      have hq4 : w.heap.size + 1 < w7.heap.size := by omega
                      have hq5 : w.heap.size + 1 < wp.heap.size := by omega
                      have HLE := hideN (row_base (row_setC (i := 3) (row_setC (i := 2) (row_setC (i := 1) (row_setC (i := 0) hlr.out hq4 (.int .i64 inp)) hq4 (.slice al' ls.length cl')) hq4 (.slice av n cv)) hq4 (.slice ab' bs.length cb')) (show w.heap.size ≤ w7.heap.size by omega))
                      have HAE := hideN (row_base (row_setC (i := 3) (row_setC (i := 2) (row_setC (i := 1) (row_setC (i := 0) han.out hq3 (.int .i64 inp)) hq3 (.slice al' ls.length cl')) hq3 (.slice av n cv)) hq3 (.slice ab' bs.length cb')) (show w.heap.size ≤ wi.heap.size + 1 by omega))
                      have HBK2 := hideN (row_base (row_setC (i := 3) (row_setC (i := 2) (row_setC (i := 1) (row_setC (i := 0) HBK.out hq5 (.int .i64 inp)) hq5 (.slice al' ls.length cl')) hq5 (.slice av n cv)) hq5 (.slice ab' bs.length cb')) (show w.heap.size ≤ wp.heap.size by omega))
                      have hwq : w.heap.size ≤ w.heap.size + 1 := by omega
                      have HBE := hideN ((((hst.out.bel.setCell (p := ⟨w.heap.size + 1, 0, none⟩) hwq (.int .i64 inp)).setCell (p := ⟨w.heap.size + 1, 1, none⟩) hwq (.slice al' ls.length cl')).setCell (p := ⟨w.heap.size + 1, 2, none⟩) hwq (.slice av n cv)).setCell (p := ⟨w.heap.size + 1, 3, none⟩) hwq (.slice ab' bs.length cb'))
                      have HZL : Hid ((mapLat st.1 ls).length = ls.length) := by show _ = _; simp [mapLat]
                      have HZB : Hid ((mapBad st.1 bs).length = bs.length) := by show _ = _; simp [mapBad]
                      go_wp2
                      refine bodyPost_ret (v := .agg #[.int .i64 inp, .slice al' ls.length cl', .slice av n cv, .slice ab' bs.length cb']) (by simp [results, Try.results82, go_sem, u0, u1, u2, u3]) rfl ⟨S, HRR.out, ?_⟩
                      rw [← HSTE.out]
                      refine ⟨al', av, ab', cl', cv, cb', ?_, ?_, ?_, ?_, HBE.out⟩
                      · rw [HZL.out, HZB.out, hn.out]
                      · rw [HZL.out]; exact HLE.out
                      · rw [hn.out]; exact HAE.out
                      · rw [HZB.out]; exact HBK2.out

end Go.Proofs.Ytbdjdgamnnifjaa

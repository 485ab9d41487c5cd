/-
  Drawn clauses and a model: DrawCnfHolds walked.
-/
import Derived.Test.YtepamfkbeccmaaaDraw10
namespace Go.Proofs.Ytepamfkbeccmaaa
open Go.RowKit Go.Deep
set_option linter.unusedVariables false

theorem IsBools.setBlk {wr : World} {v : Value} {ms : List Bool} {Q : Nat} {n : Int} {o2 : Option Addr} {l c : Nat} (h : IsBools wr v ms) (hq : Blk wr Q (.int .i64 n) (.slice o2 l c)) (a b : Value) : IsBools ((wr.setCell ⟨Q, 0, none⟩ a).setCell ⟨Q, 1, none⟩ b) v ms := by
  obtain ⟨ao, cap, rfl, h⟩ := h
  refine ⟨ao, cap, rfl, fun hne => ?_⟩
  obtain ⟨b', off, ha, hc⟩ := h hne
  refine ⟨b', off, ha, fun i hi => ?_⟩
  have hci := hc i hi
  have hbq : b' ≠ Q := by
    intro e
    subst e
    unfold Blk at hq
    generalize off + i = j at hci
    match j, hci with
    | 0, hci => simp [World.cell?, hq] at hci
    | 1, hci => simp [World.cell?, hq] at hci
    | j + 2, hci => simp [World.cell?, hq] at hci
  rw [World.cell?_of_block (w := wr.setCell ⟨Q, 0, none⟩ a) (Below.heap_setCell _ _ _ _ hbq), World.cell?_of_block (w := wr) (Below.heap_setCell _ _ _ _ hbq)]
  exact hci

theorem IsBytes.alloc {w : World} {v : Value} {bs : List Int} (h : IsBytes w v bs) (o : Obj) : IsBytes (w.alloc o) v bs := by
  obtain ⟨ao, cap, rfl, h0, h1, h2⟩ := h
  refine ⟨ao, cap, rfl, h0, fun hne => ?_, h2⟩
  obtain ⟨b, off, ha, hc⟩ := h1 hne
  exact ⟨b, off, ha, fun i hi => by rw [World.cell?_alloc_lt w _ _ (cell_lt (hc i hi))]; exact hc i hi⟩

set_option maxRecDepth 100000 in
set_option maxHeartbeats 8000000 in
theorem drawCnfHolds_any (v : Value) (bs : List Int) (w : World) (hv : IsBytes w v bs) (hn : bs.length ≤ 1048576) (hal : ∀ ao n cap b off, v = .slice ao n cap → ao = some ⟨b, off, none⟩ → b < w.heap.size) :
    Calls Try.prog 4 #[v] w (DrawPost w) := by
  have HV0 : Hid (IsBytes (w.alloc (.cells #[.int .i64 0, .slice none 0 0] 25)) v bs) := hv.alloc _
  have HAL : Hid (∀ ao n cap b off, v = .slice ao n cap → ao = some ⟨b, off, none⟩ → b < w.heap.size) := hal
  obtain ⟨aoc, capc, rfl, _⟩ := hv
  clear hal
  go_enter Try.func4, Try.ntmps4
  go_wp2_with fail
  refine (l1Open_any w.heap.size _ bs _ HV0.out hn HAL.out).mono ?_
  rintro e w1 ⟨v1, bs1, rfl, hrd1, hb1, hs1, hvb1⟩
  simp only [World.size_alloc] at hrd1 hs1
  have HQ1 : Hid (Blk w1 w.heap.size (.int .i64 0) (.slice none 0 0)) := (Blk.new w _ _).below hb1
  have HB1 : Hid (Below w.heap.size w w1) := belNext (belOne _ _) hb1
  have HRD1 : Hid (Rd w1 (w.heap.size + 1) v1 bs1 0) := hrd1
  have HVB : Hid (∀ ao n cap b off, v1 = .slice ao n cap → ao = some ⟨b, off, none⟩ → b < w.heap.size) := hvb1
  have HS1 : Hid (w1.heap.size = w.heap.size + 2) := hs1
  clear hrd1 hb1 hs1 hvb1
  go_wp2_with fail
  refine (l13AnyCnf_any (w.heap.size + 1) v1 bs1 0 _ HRD1.out (fun a b c d e h1 h2 => by have := HVB.out a b c d e h1 h2; have := HS1.out; omega) (by omega)).mono ?_
  rintro e w2 ⟨vars, ao, cap, css, p2, rfl, hgrid, ⟨hv0, hv1⟩, hcl, hthin, hp2, hrd2, hold2⟩
  have HS2 : Hid (Dw w (w2.alloc (.cells #[.int .i64 vars, .slice ao css.length cap] 25)) v1 bs1 p2 w2.heap.size (.int .i64 0) (.slice none 0 0) vars (.slice ao css.length cap) css) := by
    have h1 := HS1.out
    have hsz := hold2.size
    have hg : Grid w2 (w.heap.size + 5) (.slice ao css.length cap) css := by rw [h1] at hgrid; exact hgrid
    have hrg := hrd2.lt
    have hsz3 : w.heap.size + 2 ≤ w2.heap.size := by omega
    exact ⟨(HQ1.out.old hold2 (by omega) (by omega)).below (belOne _ _), Blk.new w2 _ _, hg.keep (fun k hk hlt => (belOne w2 _).block k hlt), hrd2.grown (World.grownBy_alloc w2 _ none) (by simp) (by simp),
      (HB1.out.trans ⟨hold2.1, hold2.2.1, hold2.2.2.1, hold2.2.2.2.1, fun k hk => hold2.2.2.2.2 k (by omega) (by omega)⟩).trans ((belOne w2 _).mono (by omega)), hsz3, HVB.out⟩
  have HTH : Hid (∀ i, i < css.length → (css.getD i []).length ≤ 9) := hthin
  clear hgrid hrd2 hold2 hthin
  have n0 := HS2.out.c.c0
  have n1 := HS2.out.c.c1
  have n2 := HS2.out.c.lt
  by_cases hneg : vars < 0
  · go_wp2_with fail
    refine (pick_any (w.heap.size + 1) v1 bs1 p2 _ _ HS2.out.rd (by omega) (by omega)).mono ?_
    rintro e w4 ⟨x, rfl, hx0, hx1, hx2, hrdx, hgx, hsx⟩
    have HS4 : Hid (Dw w w4 v1 bs1 (p2 + 1) w2.heap.size (.int .i64 0) (.slice none 0 0) vars (.slice ao css.length cap) css) := HS2.out.pick hrdx hgx
    have hxb : x ≤ 100 := by have := hx1 (by omega); omega
    obtain ⟨pb, hpb⟩ : ∃ pb, pb = p2 + 1 := ⟨_, rfl⟩
    have hpb2 : pb ≤ 2000 := by omega
    rw [← hpb] at HS4
    clear hrdx hgx hsx hpb
    clear hx1 hx2 n0 n1 n2
    go_wp2_with fail
    refine (pick_any (w.heap.size + 1) v1 bs1 pb _ _ HS4.out.rd (by omega) (by omega)).mono ?_
    rintro e w5 ⟨y, rfl, hy0, hy1, hy2, hrdx, hgx, hsx⟩
    have HS5 : Hid (Dw w w5 v1 bs1 (pb + 1) w2.heap.size (.int .i64 0) (.slice none 0 0) vars (.slice ao css.length cap) css) := HS4.out.pick hrdx hgx
    clear hrdx hgx hsx hy1 hy2
    have hp5 : pb + 1 ≤ 3000 := by omega
    by_cases hy : y = 0
    · subst hy
      have n0 := HS5.out.c.c0
      have n1 := HS5.out.c.c1
      have n2 := HS5.out.c.lt
      go_wp2_with fail
      refine (specSolve_nil vars _ css _ _ _ (HS5.out.below (belOne _ _)).grid.isRows (by unfold maxLen; omega) (fun i hi => by have := HTH.out i hi; unfold maxLen; omega)).mono ?_
      rintro e w6 ⟨ao6, cap6, ms6, b6, rfl, hm6, hml6, hb6⟩
      have HS6 : Hid (Dw w w6 v1 bs1 (pb + 1) w2.heap.size (.int .i64 0) (.slice none 0 0) vars (.slice ao css.length cap) css) := (HS5.out.below (belOne _ _)).below hb6
      have HM6 : Hid (IsBools w6 (.slice ao6 ms6.length cap6) ms6) := hm6
      clear hm6 hb6 n0 n1 n2
      cases b6 with
      | true =>
        have HF := hideD (HS6.out.setq (.int .i64 vars) (.slice ao css.length cap))
        have HMF := hideD (HM6.out.setBlk HS6.out.q (.int .i64 vars) (.slice ao css.length cap))
        have n0 := HS6.out.c.c0
        have n1 := HS6.out.c.c1
        have n2 := HS6.out.c.lt
        have n3 := HS6.out.q.c0
        have n4 := HS6.out.q.c1
        have n5 := HS6.out.q.lt
        have n6 := HS6.out.q.f 0
        have n7 := HS6.out.q.f 1
        have u0 := HF.out.q.c0
        have u1 := HF.out.q.c1
        go_wp2
        exact bodyPost_ret (v := .tuple #[.agg #[.int .i64 vars, .slice ao css.length cap], .slice ao6 ms6.length cap6]) (by simp [results, Try.results4, go_sem, u0, u1]) rfl ⟨vars, ao, cap, css, ao6, cap6, ms6, rfl, HF.out.grid.isRows, by omega, HTH.out, HMF.out, by omega, HF.out.bel⟩
      | false =>
        have HVL : Hid (∀ ao n cap b off, v1 = .slice ao n cap → ao = some ⟨b, off, none⟩ → b < w6.drew.heap.size) := fun a b c d e h1 h2 => by have := HVB.out a b c d e h1 h2; have := HS6.out.size; show d < w6.heap.size; omega
        have HSQ : Hid (Dw w ((w6.drew.setCell ⟨w.heap.size, 0, none⟩ (.int .i64 vars)).setCell ⟨w.heap.size, 1, none⟩ (.slice ao css.length cap)) v1 bs1 (pb + 1) w2.heap.size (.int .i64 vars) (.slice ao css.length cap) vars (.slice ao css.length cap) css) := HS6.out.drew.setq _ _
        have HVQ : Hid (∀ aq nq cq b off, v1 = .slice aq nq cq → aq = some ⟨b, off, none⟩ → b < ((w6.drew.setCell ⟨w.heap.size, 0, none⟩ (.int .i64 vars)).setCell ⟨w.heap.size, 1, none⟩ (.slice ao css.length cap)).heap.size) := fun a b c d e h1 h2 => by have := HVB.out a b c d e h1 h2; have := HSQ.out.size; omega
        have n0 := HS6.out.c.c0
        have n1 := HS6.out.c.c1
        have n2 := HS6.out.c.lt
        have n3 := HS6.out.q.c0
        have n4 := HS6.out.q.c1
        have n5 := HS6.out.q.lt
        have n6 := HS6.out.q.f 0
        have n7 := HS6.out.q.f 1
        have n8 : w.heap.size ≠ w2.heap.size := by have := HS6.out.cl; omega
        have HBW : Hid (w.heap.size < w6.heap.size) := n5
        go_wp2_with fail
        go_region_with (first
          | (go_at_call 13; refine (l13Model_any (w.heap.size + 1) v1 bs1 (pb + 1) _ _ HS6.out.drew.rd HVL.out (by omega) (by omega)).mono ?_; rintro e w7 ⟨ao7, cap7, ms, p7, rfl, hown7, hml7, hp7, hrd7, hold7⟩; have HS7 : Hid (Dw w w7 v1 bs1 p7 w2.heap.size (.int .i64 0) (.slice none 0 0) vars (.slice ao css.length cap) css) := HS6.out.drew.old hrd7 hold7; have HO7 : Hid (OwnsB w7 w6.heap.size (.slice ao7 ms.length cap7) ms) := hown7; have HML7 : Hid (ms.length ≤ 100) := hml7; have z0 := HS7.out.c.c0; have z1 := HS7.out.c.c1; have z2 := HS7.out.c.lt; have y0 := HS7.out.q.c0; have y1 := HS7.out.q.c1; have y2 := HS7.out.q.lt; have y3 := HS7.out.q.f 0; have y4 := HS7.out.q.f 1; clear hrd7 hold7 hown7 hml7 hp7)
          | (go_at_call 13; refine (l13Model_any (w.heap.size + 1) v1 bs1 (pb + 1) _ _ HSQ.out.rd HVQ.out (by omega) (by omega)).mono ?_; rintro e w7 ⟨ao7, cap7, ms, p7, rfl, hown7, hml7, hp7, hrd7, hold7⟩; have HS8 : Hid (Dw w w7 v1 bs1 p7 w2.heap.size (.int .i64 vars) (.slice ao css.length cap) vars (.slice ao css.length cap) css) := HSQ.out.old hrd7 hold7; have HO8 : Hid (IsBools w7 (.slice ao7 ms.length cap7) ms) := hown7.isBools; have HML7 : Hid (ms.length ≤ 100) := hml7; have z0 := HS8.out.c.c0; have z1 := HS8.out.c.c1; have z2 := HS8.out.c.lt; have y0 := HS8.out.q.c0; have y1 := HS8.out.q.c1; have y2 := HS8.out.q.lt; clear hrd7 hold7 hown7 hml7 hp7))
        all_goals
          first
            | (have HF := hideD (HS7.out.setq (.int .i64 vars) (.slice ao css.length cap)); have u0 := HF.out.q.c0; have u1 := HF.out.q.c1; go_wp2; exact bodyPost_ret (v := .tuple #[.agg #[.int .i64 vars, .slice ao css.length cap], .slice ao7 ms.length cap7]) (by simp [results, Try.results4, go_sem, u0, u1]) rfl ⟨vars, ao, cap, css, ao7, cap7, ms, rfl, HF.out.grid.isRows, by omega, HTH.out, IsBools.setq HO7.out HBW.out _ _, HML7.out, HF.out.bel⟩)
            | (go_wp2; exact bodyPost_ret (v := .tuple #[.agg #[.int .i64 vars, .slice ao css.length cap], .slice ao7 ms.length cap7]) (by simp [results, Try.results4, go_sem, y0, y1]) rfl ⟨vars, ao, cap, css, ao7, cap7, ms, rfl, HS8.out.grid.isRows, by omega, HTH.out, HO8.out, HML7.out, HS8.out.bel⟩)
    · have hyb : (y == 0) = false := by simpa using hy
      have HVL : Hid (∀ ao n cap b off, v1 = .slice ao n cap → ao = some ⟨b, off, none⟩ → b < w5.drew.heap.size) := fun a b c d e h1 h2 => by have := HVB.out a b c d e h1 h2; have := HS5.out.size; show d < w5.heap.size; omega
      have HSQ : Hid (Dw w ((w5.drew.setCell ⟨w.heap.size, 0, none⟩ (.int .i64 vars)).setCell ⟨w.heap.size, 1, none⟩ (.slice ao css.length cap)) v1 bs1 (pb + 1) w2.heap.size (.int .i64 vars) (.slice ao css.length cap) vars (.slice ao css.length cap) css) := HS5.out.drew.setq _ _
      have HVQ : Hid (∀ aq nq cq b off, v1 = .slice aq nq cq → aq = some ⟨b, off, none⟩ → b < ((w5.drew.setCell ⟨w.heap.size, 0, none⟩ (.int .i64 vars)).setCell ⟨w.heap.size, 1, none⟩ (.slice ao css.length cap)).heap.size) := fun a b c d e h1 h2 => by have := HVB.out a b c d e h1 h2; have := HSQ.out.size; omega
      have n0 := HS5.out.c.c0
      have n1 := HS5.out.c.c1
      have n2 := HS5.out.c.lt
      have n3 := HS5.out.q.c0
      have n4 := HS5.out.q.c1
      have n5 := HS5.out.q.lt
      have n6 := HS5.out.q.f 0
      have n7 := HS5.out.q.f 1
      have n8 : w.heap.size ≠ w2.heap.size := by have := HS5.out.cl; omega
      have HBW : Hid (w.heap.size < w5.heap.size) := n5
      go_wp2_with fail
      go_region_with (first
        | (go_at_call 13; refine (l13Model_any (w.heap.size + 1) v1 bs1 (pb + 1) _ _ HS5.out.drew.rd HVL.out (by omega) (by omega)).mono ?_; rintro e w7 ⟨ao7, cap7, ms, p7, rfl, hown7, hml7, hp7, hrd7, hold7⟩; have HS7 : Hid (Dw w w7 v1 bs1 p7 w2.heap.size (.int .i64 0) (.slice none 0 0) vars (.slice ao css.length cap) css) := HS5.out.drew.old hrd7 hold7; have HO7 : Hid (OwnsB w7 w5.heap.size (.slice ao7 ms.length cap7) ms) := hown7; have HML7 : Hid (ms.length ≤ 100) := hml7; have z0 := HS7.out.c.c0; have z1 := HS7.out.c.c1; have z2 := HS7.out.c.lt; have y0 := HS7.out.q.c0; have y1 := HS7.out.q.c1; have y2 := HS7.out.q.lt; have y3 := HS7.out.q.f 0; have y4 := HS7.out.q.f 1; clear hrd7 hold7 hown7 hml7 hp7)
        | (go_at_call 13; refine (l13Model_any (w.heap.size + 1) v1 bs1 (pb + 1) _ _ HSQ.out.rd HVQ.out (by omega) (by omega)).mono ?_; rintro e w7 ⟨ao7, cap7, ms, p7, rfl, hown7, hml7, hp7, hrd7, hold7⟩; have HS8 : Hid (Dw w w7 v1 bs1 p7 w2.heap.size (.int .i64 vars) (.slice ao css.length cap) vars (.slice ao css.length cap) css) := HSQ.out.old hrd7 hold7; have HO8 : Hid (IsBools w7 (.slice ao7 ms.length cap7) ms) := hown7.isBools; have HML7 : Hid (ms.length ≤ 100) := hml7; have z0 := HS8.out.c.c0; have z1 := HS8.out.c.c1; have z2 := HS8.out.c.lt; have y0 := HS8.out.q.c0; have y1 := HS8.out.q.c1; have y2 := HS8.out.q.lt; clear hrd7 hold7 hown7 hml7 hp7))
      all_goals
        first
          | (have HF := hideD (HS7.out.setq (.int .i64 vars) (.slice ao css.length cap)); have u0 := HF.out.q.c0; have u1 := HF.out.q.c1; go_wp2; exact bodyPost_ret (v := .tuple #[.agg #[.int .i64 vars, .slice ao css.length cap], .slice ao7 ms.length cap7]) (by simp [results, Try.results4, go_sem, u0, u1]) rfl ⟨vars, ao, cap, css, ao7, cap7, ms, rfl, HF.out.grid.isRows, by omega, HTH.out, IsBools.setq HO7.out HBW.out _ _, HML7.out, HF.out.bel⟩)
          | (go_wp2; exact bodyPost_ret (v := .tuple #[.agg #[.int .i64 vars, .slice ao css.length cap], .slice ao7 ms.length cap7]) (by simp [results, Try.results4, go_sem, y0, y1]) rfl ⟨vars, ao, cap, css, ao7, cap7, ms, rfl, HS8.out.grid.isRows, by omega, HTH.out, HO8.out, HML7.out, HS8.out.bel⟩)
  · go_wp2_with fail
    refine (pick_any (w.heap.size + 1) v1 bs1 p2 _ _ HS2.out.rd (by omega) (by omega)).mono ?_
    rintro e w3 ⟨z, rfl, hz0, hz1, hz2, hrdx, hgx, hsx⟩
    have HS3 : Hid (Dw w w3 v1 bs1 (p2 + 1) w2.heap.size (.int .i64 0) (.slice none 0 0) vars (.slice ao css.length cap) css) := HS2.out.pick hrdx hgx
    clear hrdx hgx hsx hz1 hz2 n0 n1 n2
    by_cases hz : z = 0
    · subst hz
      go_wp2_with fail
      refine (pick_any (w.heap.size + 1) v1 bs1 (p2 + 1) _ _ HS3.out.rd (by omega) (by omega)).mono ?_
      rintro e w4 ⟨x, rfl, hx0, hx1, hx2, hrdx, hgx, hsx⟩
      have HS4 : Hid (Dw w w4 v1 bs1 ((p2 + 1) + 1) w2.heap.size (.int .i64 0) (.slice none 0 0) vars (.slice ao css.length cap) css) := HS3.out.pick hrdx hgx
      have hxb : x ≤ 100 := by have := hx1 (by omega); omega
      obtain ⟨pb, hpb⟩ : ∃ pb, pb = (p2 + 1) + 1 := ⟨_, rfl⟩
      have hpb2 : pb ≤ 2000 := by omega
      rw [← hpb] at HS4
      clear hrdx hgx hsx hpb
      clear hx1 hx2
      go_wp2_with fail
      refine (pick_any (w.heap.size + 1) v1 bs1 pb _ _ HS4.out.rd (by omega) (by omega)).mono ?_
      rintro e w5 ⟨y, rfl, hy0, hy1, hy2, hrdx, hgx, hsx⟩
      have HS5 : Hid (Dw w w5 v1 bs1 (pb + 1) w2.heap.size (.int .i64 0) (.slice none 0 0) vars (.slice ao css.length cap) css) := HS4.out.pick hrdx hgx
      clear hrdx hgx hsx hy1 hy2
      have hp5 : pb + 1 ≤ 3000 := by omega
      by_cases hy : y = 0
      · subst hy
        have n0 := HS5.out.c.c0
        have n1 := HS5.out.c.c1
        have n2 := HS5.out.c.lt
        go_wp2_with fail
        refine (specSolve_nil vars _ css _ _ _ (HS5.out.below (belOne _ _)).grid.isRows (by unfold maxLen; omega) (fun i hi => by have := HTH.out i hi; unfold maxLen; omega)).mono ?_
        rintro e w6 ⟨ao6, cap6, ms6, b6, rfl, hm6, hml6, hb6⟩
        have HS6 : Hid (Dw w w6 v1 bs1 (pb + 1) w2.heap.size (.int .i64 0) (.slice none 0 0) vars (.slice ao css.length cap) css) := (HS5.out.below (belOne _ _)).below hb6
        have HM6 : Hid (IsBools w6 (.slice ao6 ms6.length cap6) ms6) := hm6
        clear hm6 hb6 n0 n1 n2
        cases b6 with
        | true =>
          have HF := hideD (HS6.out.setq (.int .i64 vars) (.slice ao css.length cap))
          have HMF := hideD (HM6.out.setBlk HS6.out.q (.int .i64 vars) (.slice ao css.length cap))
          have n0 := HS6.out.c.c0
          have n1 := HS6.out.c.c1
          have n2 := HS6.out.c.lt
          have n3 := HS6.out.q.c0
          have n4 := HS6.out.q.c1
          have n5 := HS6.out.q.lt
          have n6 := HS6.out.q.f 0
          have n7 := HS6.out.q.f 1
          have u0 := HF.out.q.c0
          have u1 := HF.out.q.c1
          go_wp2
          exact bodyPost_ret (v := .tuple #[.agg #[.int .i64 vars, .slice ao css.length cap], .slice ao6 ms6.length cap6]) (by simp [results, Try.results4, go_sem, u0, u1]) rfl ⟨vars, ao, cap, css, ao6, cap6, ms6, rfl, HF.out.grid.isRows, by omega, HTH.out, HMF.out, by omega, HF.out.bel⟩
        | false =>
          have HVL : Hid (∀ ao n cap b off, v1 = .slice ao n cap → ao = some ⟨b, off, none⟩ → b < w6.drew.heap.size) := fun a b c d e h1 h2 => by have := HVB.out a b c d e h1 h2; have := HS6.out.size; show d < w6.heap.size; omega
          have HSQ : Hid (Dw w ((w6.drew.setCell ⟨w.heap.size, 0, none⟩ (.int .i64 vars)).setCell ⟨w.heap.size, 1, none⟩ (.slice ao css.length cap)) v1 bs1 (pb + 1) w2.heap.size (.int .i64 vars) (.slice ao css.length cap) vars (.slice ao css.length cap) css) := HS6.out.drew.setq _ _
          have HVQ : Hid (∀ aq nq cq b off, v1 = .slice aq nq cq → aq = some ⟨b, off, none⟩ → b < ((w6.drew.setCell ⟨w.heap.size, 0, none⟩ (.int .i64 vars)).setCell ⟨w.heap.size, 1, none⟩ (.slice ao css.length cap)).heap.size) := fun a b c d e h1 h2 => by have := HVB.out a b c d e h1 h2; have := HSQ.out.size; omega
          have n0 := HS6.out.c.c0
          have n1 := HS6.out.c.c1
          have n2 := HS6.out.c.lt
          have n3 := HS6.out.q.c0
          have n4 := HS6.out.q.c1
          have n5 := HS6.out.q.lt
          have n6 := HS6.out.q.f 0
          have n7 := HS6.out.q.f 1
          have n8 : w.heap.size ≠ w2.heap.size := by have := HS6.out.cl; omega
          have HBW : Hid (w.heap.size < w6.heap.size) := n5
          go_wp2_with fail
          go_region_with (first
            | (go_at_call 13; refine (l13Model_any (w.heap.size + 1) v1 bs1 (pb + 1) _ _ HS6.out.drew.rd HVL.out (by omega) (by omega)).mono ?_; rintro e w7 ⟨ao7, cap7, ms, p7, rfl, hown7, hml7, hp7, hrd7, hold7⟩; have HS7 : Hid (Dw w w7 v1 bs1 p7 w2.heap.size (.int .i64 0) (.slice none 0 0) vars (.slice ao css.length cap) css) := HS6.out.drew.old hrd7 hold7; have HO7 : Hid (OwnsB w7 w6.heap.size (.slice ao7 ms.length cap7) ms) := hown7; have HML7 : Hid (ms.length ≤ 100) := hml7; have z0 := HS7.out.c.c0; have z1 := HS7.out.c.c1; have z2 := HS7.out.c.lt; have y0 := HS7.out.q.c0; have y1 := HS7.out.q.c1; have y2 := HS7.out.q.lt; have y3 := HS7.out.q.f 0; have y4 := HS7.out.q.f 1; clear hrd7 hold7 hown7 hml7 hp7)
            | (go_at_call 13; refine (l13Model_any (w.heap.size + 1) v1 bs1 (pb + 1) _ _ HSQ.out.rd HVQ.out (by omega) (by omega)).mono ?_; rintro e w7 ⟨ao7, cap7, ms, p7, rfl, hown7, hml7, hp7, hrd7, hold7⟩; have HS8 : Hid (Dw w w7 v1 bs1 p7 w2.heap.size (.int .i64 vars) (.slice ao css.length cap) vars (.slice ao css.length cap) css) := HSQ.out.old hrd7 hold7; have HO8 : Hid (IsBools w7 (.slice ao7 ms.length cap7) ms) := hown7.isBools; have HML7 : Hid (ms.length ≤ 100) := hml7; have z0 := HS8.out.c.c0; have z1 := HS8.out.c.c1; have z2 := HS8.out.c.lt; have y0 := HS8.out.q.c0; have y1 := HS8.out.q.c1; have y2 := HS8.out.q.lt; clear hrd7 hold7 hown7 hml7 hp7))
          all_goals
            first
              | (have HF := hideD (HS7.out.setq (.int .i64 vars) (.slice ao css.length cap)); have u0 := HF.out.q.c0; have u1 := HF.out.q.c1; go_wp2; exact bodyPost_ret (v := .tuple #[.agg #[.int .i64 vars, .slice ao css.length cap], .slice ao7 ms.length cap7]) (by simp [results, Try.results4, go_sem, u0, u1]) rfl ⟨vars, ao, cap, css, ao7, cap7, ms, rfl, HF.out.grid.isRows, by omega, HTH.out, IsBools.setq HO7.out HBW.out _ _, HML7.out, HF.out.bel⟩)
              | (go_wp2; exact bodyPost_ret (v := .tuple #[.agg #[.int .i64 vars, .slice ao css.length cap], .slice ao7 ms.length cap7]) (by simp [results, Try.results4, go_sem, y0, y1]) rfl ⟨vars, ao, cap, css, ao7, cap7, ms, rfl, HS8.out.grid.isRows, by omega, HTH.out, HO8.out, HML7.out, HS8.out.bel⟩)
      · have hyb : (y == 0) = false := by simpa using hy
        have HVL : Hid (∀ ao n cap b off, v1 = .slice ao n cap → ao = some ⟨b, off, none⟩ → b < w5.drew.heap.size) := fun a b c d e h1 h2 => by have := HVB.out a b c d e h1 h2; have := HS5.out.size; show d < w5.heap.size; omega
        have HSQ : Hid (Dw w ((w5.drew.setCell ⟨w.heap.size, 0, none⟩ (.int .i64 vars)).setCell ⟨w.heap.size, 1, none⟩ (.slice ao css.length cap)) v1 bs1 (pb + 1) w2.heap.size (.int .i64 vars) (.slice ao css.length cap) vars (.slice ao css.length cap) css) := HS5.out.drew.setq _ _
        have HVQ : Hid (∀ aq nq cq b off, v1 = .slice aq nq cq → aq = some ⟨b, off, none⟩ → b < ((w5.drew.setCell ⟨w.heap.size, 0, none⟩ (.int .i64 vars)).setCell ⟨w.heap.size, 1, none⟩ (.slice ao css.length cap)).heap.size) := fun a b c d e h1 h2 => by have := HVB.out a b c d e h1 h2; have := HSQ.out.size; omega
        have n0 := HS5.out.c.c0
        have n1 := HS5.out.c.c1
        have n2 := HS5.out.c.lt
        have n3 := HS5.out.q.c0
        have n4 := HS5.out.q.c1
        have n5 := HS5.out.q.lt
        have n6 := HS5.out.q.f 0
        have n7 := HS5.out.q.f 1
        have n8 : w.heap.size ≠ w2.heap.size := by have := HS5.out.cl; omega
        have HBW : Hid (w.heap.size < w5.heap.size) := n5
        go_wp2_with fail
        go_region_with (first
          | (go_at_call 13; refine (l13Model_any (w.heap.size + 1) v1 bs1 (pb + 1) _ _ HS5.out.drew.rd HVL.out (by omega) (by omega)).mono ?_; rintro e w7 ⟨ao7, cap7, ms, p7, rfl, hown7, hml7, hp7, hrd7, hold7⟩; have HS7 : Hid (Dw w w7 v1 bs1 p7 w2.heap.size (.int .i64 0) (.slice none 0 0) vars (.slice ao css.length cap) css) := HS5.out.drew.old hrd7 hold7; have HO7 : Hid (OwnsB w7 w5.heap.size (.slice ao7 ms.length cap7) ms) := hown7; have HML7 : Hid (ms.length ≤ 100) := hml7; have z0 := HS7.out.c.c0; have z1 := HS7.out.c.c1; have z2 := HS7.out.c.lt; have y0 := HS7.out.q.c0; have y1 := HS7.out.q.c1; have y2 := HS7.out.q.lt; have y3 := HS7.out.q.f 0; have y4 := HS7.out.q.f 1; clear hrd7 hold7 hown7 hml7 hp7)
          | (go_at_call 13; refine (l13Model_any (w.heap.size + 1) v1 bs1 (pb + 1) _ _ HSQ.out.rd HVQ.out (by omega) (by omega)).mono ?_; rintro e w7 ⟨ao7, cap7, ms, p7, rfl, hown7, hml7, hp7, hrd7, hold7⟩; have HS8 : Hid (Dw w w7 v1 bs1 p7 w2.heap.size (.int .i64 vars) (.slice ao css.length cap) vars (.slice ao css.length cap) css) := HSQ.out.old hrd7 hold7; have HO8 : Hid (IsBools w7 (.slice ao7 ms.length cap7) ms) := hown7.isBools; have HML7 : Hid (ms.length ≤ 100) := hml7; have z0 := HS8.out.c.c0; have z1 := HS8.out.c.c1; have z2 := HS8.out.c.lt; have y0 := HS8.out.q.c0; have y1 := HS8.out.q.c1; have y2 := HS8.out.q.lt; clear hrd7 hold7 hown7 hml7 hp7))
        all_goals
          first
            | (have HF := hideD (HS7.out.setq (.int .i64 vars) (.slice ao css.length cap)); have u0 := HF.out.q.c0; have u1 := HF.out.q.c1; go_wp2; exact bodyPost_ret (v := .tuple #[.agg #[.int .i64 vars, .slice ao css.length cap], .slice ao7 ms.length cap7]) (by simp [results, Try.results4, go_sem, u0, u1]) rfl ⟨vars, ao, cap, css, ao7, cap7, ms, rfl, HF.out.grid.isRows, by omega, HTH.out, IsBools.setq HO7.out HBW.out _ _, HML7.out, HF.out.bel⟩)
            | (go_wp2; exact bodyPost_ret (v := .tuple #[.agg #[.int .i64 vars, .slice ao css.length cap], .slice ao7 ms.length cap7]) (by simp [results, Try.results4, go_sem, y0, y1]) rfl ⟨vars, ao, cap, css, ao7, cap7, ms, rfl, HS8.out.grid.isRows, by omega, HTH.out, HO8.out, HML7.out, HS8.out.bel⟩)
    · have hzb : (z == 0) = false := by simpa using hz
      obtain ⟨pb, hpb⟩ : ∃ pb, pb = p2 + 1 := ⟨_, rfl⟩
      have hpb2 : pb ≤ 2000 := by omega
      have HS4 : Hid (Dw w w3 v1 bs1 pb w2.heap.size (.int .i64 0) (.slice none 0 0) vars (.slice ao css.length cap) css) := by rw [hpb]; exact HS3.out
      clear hpb
      go_wp2_with fail
      refine (pick_any (w.heap.size + 1) v1 bs1 pb _ _ HS4.out.rd (by omega) (by omega)).mono ?_
      rintro e w5 ⟨y, rfl, hy0, hy1, hy2, hrdx, hgx, hsx⟩
      have HS5 : Hid (Dw w w5 v1 bs1 (pb + 1) w2.heap.size (.int .i64 0) (.slice none 0 0) vars (.slice ao css.length cap) css) := HS4.out.pick hrdx hgx
      clear hrdx hgx hsx hy1 hy2
      have hp5 : pb + 1 ≤ 3000 := by omega
      by_cases hy : y = 0
      · subst hy
        have n0 := HS5.out.c.c0
        have n1 := HS5.out.c.c1
        have n2 := HS5.out.c.lt
        go_wp2_with fail
        refine (specSolve_nil vars _ css _ _ _ (HS5.out.below (belOne _ _)).grid.isRows (by unfold maxLen; omega) (fun i hi => by have := HTH.out i hi; unfold maxLen; omega)).mono ?_
        rintro e w6 ⟨ao6, cap6, ms6, b6, rfl, hm6, hml6, hb6⟩
        have HS6 : Hid (Dw w w6 v1 bs1 (pb + 1) w2.heap.size (.int .i64 0) (.slice none 0 0) vars (.slice ao css.length cap) css) := (HS5.out.below (belOne _ _)).below hb6
        have HM6 : Hid (IsBools w6 (.slice ao6 ms6.length cap6) ms6) := hm6
        clear hm6 hb6 n0 n1 n2
        cases b6 with
        | true =>
          have HF := hideD (HS6.out.setq (.int .i64 vars) (.slice ao css.length cap))
          have HMF := hideD (HM6.out.setBlk HS6.out.q (.int .i64 vars) (.slice ao css.length cap))
          have n0 := HS6.out.c.c0
          have n1 := HS6.out.c.c1
          have n2 := HS6.out.c.lt
          have n3 := HS6.out.q.c0
          have n4 := HS6.out.q.c1
          have n5 := HS6.out.q.lt
          have n6 := HS6.out.q.f 0
          have n7 := HS6.out.q.f 1
          have u0 := HF.out.q.c0
          have u1 := HF.out.q.c1
          go_wp2
          exact bodyPost_ret (v := .tuple #[.agg #[.int .i64 vars, .slice ao css.length cap], .slice ao6 ms6.length cap6]) (by simp [results, Try.results4, go_sem, u0, u1]) rfl ⟨vars, ao, cap, css, ao6, cap6, ms6, rfl, HF.out.grid.isRows, by omega, HTH.out, HMF.out, by omega, HF.out.bel⟩
        | false =>
          have HVL : Hid (∀ ao n cap b off, v1 = .slice ao n cap → ao = some ⟨b, off, none⟩ → b < w6.drew.heap.size) := fun a b c d e h1 h2 => by have := HVB.out a b c d e h1 h2; have := HS6.out.size; show d < w6.heap.size; omega
          have HSQ : Hid (Dw w ((w6.drew.setCell ⟨w.heap.size, 0, none⟩ (.int .i64 vars)).setCell ⟨w.heap.size, 1, none⟩ (.slice ao css.length cap)) v1 bs1 (pb + 1) w2.heap.size (.int .i64 vars) (.slice ao css.length cap) vars (.slice ao css.length cap) css) := HS6.out.drew.setq _ _
          have HVQ : Hid (∀ aq nq cq b off, v1 = .slice aq nq cq → aq = some ⟨b, off, none⟩ → b < ((w6.drew.setCell ⟨w.heap.size, 0, none⟩ (.int .i64 vars)).setCell ⟨w.heap.size, 1, none⟩ (.slice ao css.length cap)).heap.size) := fun a b c d e h1 h2 => by have := HVB.out a b c d e h1 h2; have := HSQ.out.size; omega
          have n0 := HS6.out.c.c0
          have n1 := HS6.out.c.c1
          have n2 := HS6.out.c.lt
          have n3 := HS6.out.q.c0
          have n4 := HS6.out.q.c1
          have n5 := HS6.out.q.lt
          have n6 := HS6.out.q.f 0
          have n7 := HS6.out.q.f 1
          have n8 : w.heap.size ≠ w2.heap.size := by have := HS6.out.cl; omega
          have HBW : Hid (w.heap.size < w6.heap.size) := n5
          go_wp2_with fail
          go_region_with (first
            | (go_at_call 13; refine (l13Model_any (w.heap.size + 1) v1 bs1 (pb + 1) _ _ HS6.out.drew.rd HVL.out (by omega) (by omega)).mono ?_; rintro e w7 ⟨ao7, cap7, ms, p7, rfl, hown7, hml7, hp7, hrd7, hold7⟩; have HS7 : Hid (Dw w w7 v1 bs1 p7 w2.heap.size (.int .i64 0) (.slice none 0 0) vars (.slice ao css.length cap) css) := HS6.out.drew.old hrd7 hold7; have HO7 : Hid (OwnsB w7 w6.heap.size (.slice ao7 ms.length cap7) ms) := hown7; have HML7 : Hid (ms.length ≤ 100) := hml7; have z0 := HS7.out.c.c0; have z1 := HS7.out.c.c1; have z2 := HS7.out.c.lt; have y0 := HS7.out.q.c0; have y1 := HS7.out.q.c1; have y2 := HS7.out.q.lt; have y3 := HS7.out.q.f 0; have y4 := HS7.out.q.f 1; clear hrd7 hold7 hown7 hml7 hp7)
            | (go_at_call 13; refine (l13Model_any (w.heap.size + 1) v1 bs1 (pb + 1) _ _ HSQ.out.rd HVQ.out (by omega) (by omega)).mono ?_; rintro e w7 ⟨ao7, cap7, ms, p7, rfl, hown7, hml7, hp7, hrd7, hold7⟩; have HS8 : Hid (Dw w w7 v1 bs1 p7 w2.heap.size (.int .i64 vars) (.slice ao css.length cap) vars (.slice ao css.length cap) css) := HSQ.out.old hrd7 hold7; have HO8 : Hid (IsBools w7 (.slice ao7 ms.length cap7) ms) := hown7.isBools; have HML7 : Hid (ms.length ≤ 100) := hml7; have z0 := HS8.out.c.c0; have z1 := HS8.out.c.c1; have z2 := HS8.out.c.lt; have y0 := HS8.out.q.c0; have y1 := HS8.out.q.c1; have y2 := HS8.out.q.lt; clear hrd7 hold7 hown7 hml7 hp7))
          all_goals
            first
              | (have HF := hideD (HS7.out.setq (.int .i64 vars) (.slice ao css.length cap)); have u0 := HF.out.q.c0; have u1 := HF.out.q.c1; go_wp2; exact bodyPost_ret (v := .tuple #[.agg #[.int .i64 vars, .slice ao css.length cap], .slice ao7 ms.length cap7]) (by simp [results, Try.results4, go_sem, u0, u1]) rfl ⟨vars, ao, cap, css, ao7, cap7, ms, rfl, HF.out.grid.isRows, by omega, HTH.out, IsBools.setq HO7.out HBW.out _ _, HML7.out, HF.out.bel⟩)
              | (go_wp2; exact bodyPost_ret (v := .tuple #[.agg #[.int .i64 vars, .slice ao css.length cap], .slice ao7 ms.length cap7]) (by simp [results, Try.results4, go_sem, y0, y1]) rfl ⟨vars, ao, cap, css, ao7, cap7, ms, rfl, HS8.out.grid.isRows, by omega, HTH.out, HO8.out, HML7.out, HS8.out.bel⟩)
      · have hyb : (y == 0) = false := by simpa using hy
        have HVL : Hid (∀ ao n cap b off, v1 = .slice ao n cap → ao = some ⟨b, off, none⟩ → b < w5.drew.heap.size) := fun a b c d e h1 h2 => by have := HVB.out a b c d e h1 h2; have := HS5.out.size; show d < w5.heap.size; omega
        have HSQ : Hid (Dw w ((w5.drew.setCell ⟨w.heap.size, 0, none⟩ (.int .i64 vars)).setCell ⟨w.heap.size, 1, none⟩ (.slice ao css.length cap)) v1 bs1 (pb + 1) w2.heap.size (.int .i64 vars) (.slice ao css.length cap) vars (.slice ao css.length cap) css) := HS5.out.drew.setq _ _
        have HVQ : Hid (∀ aq nq cq b off, v1 = .slice aq nq cq → aq = some ⟨b, off, none⟩ → b < ((w5.drew.setCell ⟨w.heap.size, 0, none⟩ (.int .i64 vars)).setCell ⟨w.heap.size, 1, none⟩ (.slice ao css.length cap)).heap.size) := fun a b c d e h1 h2 => by have := HVB.out a b c d e h1 h2; have := HSQ.out.size; omega
        have n0 := HS5.out.c.c0
        have n1 := HS5.out.c.c1
        have n2 := HS5.out.c.lt
        have n3 := HS5.out.q.c0
        have n4 := HS5.out.q.c1
        have n5 := HS5.out.q.lt
        have n6 := HS5.out.q.f 0
        have n7 := HS5.out.q.f 1
        have n8 : w.heap.size ≠ w2.heap.size := by have := HS5.out.cl; omega
        have HBW : Hid (w.heap.size < w5.heap.size) := n5
        go_wp2_with fail
        go_region_with (first
          | (go_at_call 13; refine (l13Model_any (w.heap.size + 1) v1 bs1 (pb + 1) _ _ HS5.out.drew.rd HVL.out (by omega) (by omega)).mono ?_; rintro e w7 ⟨ao7, cap7, ms, p7, rfl, hown7, hml7, hp7, hrd7, hold7⟩; have HS7 : Hid (Dw w w7 v1 bs1 p7 w2.heap.size (.int .i64 0) (.slice none 0 0) vars (.slice ao css.length cap) css) := HS5.out.drew.old hrd7 hold7; have HO7 : Hid (OwnsB w7 w5.heap.size (.slice ao7 ms.length cap7) ms) := hown7; have HML7 : Hid (ms.length ≤ 100) := hml7; have z0 := HS7.out.c.c0; have z1 := HS7.out.c.c1; have z2 := HS7.out.c.lt; have y0 := HS7.out.q.c0; have y1 := HS7.out.q.c1; have y2 := HS7.out.q.lt; have y3 := HS7.out.q.f 0; have y4 := HS7.out.q.f 1; clear hrd7 hold7 hown7 hml7 hp7)
          | (go_at_call 13; refine (l13Model_any (w.heap.size + 1) v1 bs1 (pb + 1) _ _ HSQ.out.rd HVQ.out (by omega) (by omega)).mono ?_; rintro e w7 ⟨ao7, cap7, ms, p7, rfl, hown7, hml7, hp7, hrd7, hold7⟩; have HS8 : Hid (Dw w w7 v1 bs1 p7 w2.heap.size (.int .i64 vars) (.slice ao css.length cap) vars (.slice ao css.length cap) css) := HSQ.out.old hrd7 hold7; have HO8 : Hid (IsBools w7 (.slice ao7 ms.length cap7) ms) := hown7.isBools; have HML7 : Hid (ms.length ≤ 100) := hml7; have z0 := HS8.out.c.c0; have z1 := HS8.out.c.c1; have z2 := HS8.out.c.lt; have y0 := HS8.out.q.c0; have y1 := HS8.out.q.c1; have y2 := HS8.out.q.lt; clear hrd7 hold7 hown7 hml7 hp7))
        all_goals
          first
            | (have HF := hideD (HS7.out.setq (.int .i64 vars) (.slice ao css.length cap)); have u0 := HF.out.q.c0; have u1 := HF.out.q.c1; go_wp2; exact bodyPost_ret (v := .tuple #[.agg #[.int .i64 vars, .slice ao css.length cap], .slice ao7 ms.length cap7]) (by simp [results, Try.results4, go_sem, u0, u1]) rfl ⟨vars, ao, cap, css, ao7, cap7, ms, rfl, HF.out.grid.isRows, by omega, HTH.out, IsBools.setq HO7.out HBW.out _ _, HML7.out, HF.out.bel⟩)
            | (go_wp2; exact bodyPost_ret (v := .tuple #[.agg #[.int .i64 vars, .slice ao css.length cap], .slice ao7 ms.length cap7]) (by simp [results, Try.results4, go_sem, y0, y1]) rfl ⟨vars, ao, cap, css, ao7, cap7, ms, rfl, HS8.out.grid.isRows, by omega, HTH.out, HO8.out, HML7.out, HS8.out.bel⟩)

end Go.Proofs.Ytepamfkbeccmaaa

/-
  Clauses of a circuit: the model's AigCnf, walked.
-/
import Derived.Test.YtbdjdgamnnifjaaCnfC
namespace Go.Proofs.Ytbdjdgamnnifjaa
open Go.RowKit Go.Deep Go.Shelf
set_option linter.unusedVariables false

attribute [local go_sem] Oper.semAt_some

set_option maxRecDepth 100000 in
set_option maxHeartbeats 8000000 in
theorem specAigCnf_any (inp : Int) (al aa ab : Option Addr) (cl ca cb : Nat) (ls : List (Int × Bool)) (xs : List (Int × Int)) (bs : List Int) (w : World) (hC : IsCir w al aa ab cl ca cb ls xs bs) (hl64 : ∀ p ∈ ls, I64 p.1) (h64 : ∀ p ∈ xs, I64 p.1 ∧ I64 p.2) (hb64 : ∀ x ∈ bs, I64 x) :
    Calls Try.prog 33 #[.agg #[.int .i64 inp, .slice al ls.length cl, .slice aa xs.length ca, .slice ab bs.length cb]] w (CnfPostA inp ls xs bs w) := by
  have HC : Hid (∀ w', Below w.heap.size w w' → IsCir w' al aa ab cl ca cb ls xs bs) := fun w' h => hC.below h
  have H64 : Hid (∀ p ∈ xs, I64 p.1 ∧ I64 p.2) := h64
  obtain ⟨o, ho⟩ : ∃ o, okC inp ls xs bs = o := ⟨_, rfl⟩
  have HO : Hid (okC inp ls xs bs = o) := ho
  have HOS : Hid (okS inp ls xs bs = o) := by show okS inp ls xs bs = o; rw [← okC_eq hl64 h64 hb64]; exact ho
  obtain ⟨W1, hW1⟩ : ∃ W1, W1 = (w.alloc (.cells #[.int .i64 inp, .slice al ls.length cl, .slice aa xs.length ca, .slice ab bs.length cb] 33)).alloc (.cells #[.int .i64 0, .slice none 0 0] 55) := ⟨_, rfl⟩
  have hs1 : W1.heap.size = w.heap.size + 2 := by rw [hW1]; simp
  have HA1 : Hid (Own4 W1 w.heap.size 33 (.int .i64 inp) (.slice al ls.length cl) (.slice aa xs.length ca) (.slice ab bs.length cb)) := by rw [hW1]; exact (Own4.new _ _ _ _ _ _).below (belOne _ _)
  have HQ1 : Hid (BlkC W1 (w.heap.size + 1) (.int .i64 0) (.slice none 0 0)) := by
    rw [hW1]
    have h := BlkC.new (w.alloc (.cells #[.int .i64 inp, .slice al ls.length cl, .slice aa xs.length ca, .slice ab bs.length cb] 33)) (.int .i64 0) (.slice none 0 0)
    rw [World.size_alloc] at h
    exact h
  have HB1 : Hid (Below w.heap.size w W1) := by rw [hW1]; exact belNext (belOne _ _) (belOne _ _)
  have HW1 := hideN hW1
  have HS1 := hideN hs1
  clear hC hl64 h64 hb64 ho hW1 hs1
  go_enter Try.func33, Try.ntmps33
  go_wp2_with fail
  rw [← HW1.out]
  refine (specAigOk_any inp al aa ab cl ca cb ls xs bs _ (HC.out _ HB1.out)).mono ?_
  rintro e w3 ⟨he, hb3⟩
  rw [HOS.out] at he
  subst he
  have HB3 : Hid (Below w.heap.size w w3) := belNext HB1.out hb3
  have HA3 := hideN (HA1.out.below hb3)
  have HQ3 := hideN (HQ1.out.below hb3)
  clear hb3
  cases o with
  | false =>
    have m0 := HQ3.out.c0
    have m1 := HQ3.out.c1
    have m2 := HQ3.out.lt
    have m3 := HQ3.out.f 0
    have m4 := HQ3.out.f 1
    have hqq := (HQ3.out.set0 (.int .i64 0)).set1 (.slice none 0 0)
    have u0 := hqq.c0
    have u1 := hqq.c1
    have HBE : Hid (Below w.heap.size w ((w3.setCell ⟨w.heap.size + 1, 0, none⟩ (.int .i64 0)).setCell ⟨w.heap.size + 1, 1, none⟩ (.slice none 0 0))) := (HB3.out.setCell (p := ⟨w.heap.size + 1, 0, none⟩) (by show _ ≤ w.heap.size + 1; omega) _).setCell (p := ⟨w.heap.size + 1, 1, none⟩) (by show _ ≤ w.heap.size + 1; omega) _
    clear hqq
    go_wp2
    refine bodyPost_ret (v := .agg #[.int .i64 0, .slice none 0 0]) (by simp [results, Try.results33, go_sem, u0, u1]) rfl ⟨none, 0, 0, ?_, ?_, ?_, HBE.out⟩
    · unfold cnfVars; rw [if_neg (by rw [HO.out]; simp)]
    · unfold cnfCss; rw [if_neg (by rw [HO.out]; simp)]; rfl
    · unfold cnfCss; rw [if_neg (by rw [HO.out]; simp)]; exact grid_none _ _ _ _
  | true =>
    have hsz : 0 ≤ inp ∧ inp ≤ 8 ∧ ls.length ≤ 8 ∧ xs.length ≤ 40 ∧ bs.length ≤ 4 := by
      have h := HO.out
      unfold okC sizesB at h
      simp only [Bool.and_eq_true, decide_eq_true_eq] at h
      exact h.1
    obtain ⟨h0, h8, hl8, hx40, hb4⟩ := hsz
    have c0 := HA3.out.four.c0
    have c1 := HA3.out.four.c1
    have c2 := HA3.out.four.c2
    have c3 := HA3.out.four.c3
    have c4 := HA3.out.lt
    go_wp2_with fail
    refine (l3Nodes_any _ _ _ _ _ _ _ _ _ _ _ h0 h8 hl8 hx40).mono ?_
    rintro e w4 ⟨rfl, hb4'⟩
    have HS4 : Hid (Cst w (w4.alloc (.cells #[.int .i64 (inp + (ls.length : Int) + (xs.length : Int)), .slice none 0 0] 55)) (w.heap.size + 1) w4.heap.size (w4.heap.size + 1) (inp + (ls.length : Int) + (xs.length : Int)) (.slice none 0 0) [] (.int .i64 inp) (.slice al ls.length cl) (.slice aa xs.length ca) (.slice ab bs.length cb)) := by
      have hq4 := HQ3.out.below hb4'
      have hl4 := hq4.lt
      exact ⟨BlkC.new _ _ _, grid_none _ _ _ _, hq4.below (belOne _ _), (HA3.out.below hb4').below (belOne _ _), belNext (belNext HB3.out hb4') (belOne _ _), by omega, hl4, by omega, by simp⟩
    clear hb4' c0 c1 c2 c3 c4
    generalize hvv : inp + (ls.length : Int) + (xs.length : Int) = vars at *
    have HVV := hideN hvv
    clear hvv
    go_wp2_with fail
    go_loopw [4] (fun i wr => ∃ k ao n cap, k ≤ xs.length ∧ i = .int .i64 (k : Nat) ∧ Hid ((clsF (1 + inp + ls.length) xs k).length = n) ∧ Hid (Cst w wr (w.heap.size + 1) w4.heap.size (w4.heap.size + 1) vars (.slice ao n cap) (clsF (1 + inp + ls.length) xs k) (.int .i64 inp) (.slice al ls.length cl) (.slice aa xs.length ca) (.slice ab bs.length cb))) (fun i _ => xs.length - (intOf i).toNat)
    case atStart => exact ⟨0, none, 0, 0, Nat.zero_le _, rfl, rfl, HS4⟩
    case round =>
      obtain ⟨k, ao, n, cap, hk, rfl, hn, hcst⟩ := hrel
      have c0 := hcst.out.a.four.c0
      have c1 := hcst.out.a.four.c1
      have c2 := hcst.out.a.four.c2
      have c3 := hcst.out.a.four.c3
      have c4 := hcst.out.a.lt
      have hn120 : n ≤ 120 := by have := clsF_le (1 + inp + ls.length) xs k; have := hn.out; omega
      by_cases hlt : k < xs.length
      · have hps := pair_small HO.out H64.out hlt
        obtain ⟨ba, off, rfl, hbb, hxc⟩ : ∃ ba off, aa = some ⟨ba, off, none⟩ ∧ ba < w.heap.size ∧ ∀ W, Below w.heap.size w W → W.cell? ⟨ba, off + k * 2, none⟩ = some (.int .i64 (xs.getD k (0, 0)).1) ∧ W.cell? ⟨ba, off + k * 2 + 1, none⟩ = some (.int .i64 (xs.getD k (0, 0)).2) := by
          obtain ⟨ao', cap', he, h⟩ := (HC.out w (Below.refl _ _)).isA
          obtain ⟨ba, off, ha, hc⟩ := h (by intro e; subst e; simp at hlt)
          injection he with e1 e2 e3
          refine ⟨ba, off, e1.trans ha, cell_lt (hc k hlt).1, fun W hW => ?_⟩
          obtain ⟨q1, q2⟩ := hc k hlt
          exact ⟨(hW.cell (p := ⟨ba, off + k * 2, none⟩) (cell_lt q1)).trans q1, (hW.cell (p := ⟨ba, off + k * 2 + 1, none⟩) (cell_lt q2)).trans q2⟩
        have HS : Hid (clsF (1 + inp + ls.length) xs (k + 1) = cl3 (clsF (1 + inp + ls.length) xs k) (1 + inp + ls.length + (k : Int)) (xs.getD k (0, 0))) := rfl
        generalize xs.getD k (0, 0) = pq at *
        obtain ⟨p1, p2⟩ := pq
        obtain ⟨⟨hp10, hp11⟩, hp20, hp21⟩ := hps
        have hp10 : 0 ≤ p1 := hp10
        have hp11 : p1 ≤ 190 := hp11
        have hp20 : 0 ≤ p2 := hp20
        have hp21 : p2 ≤ 190 := hp21
        have HXC := hideN hxc
        clear hxc
        generalize clsF (1 + inp + ls.length) xs k = css at *
        go_wp2_with fail
        refine (l3First_any _ _ _ _ _ _ _ _ _ _ _ h0 h8 hl8).mono ?_
        rintro e w5 ⟨rfl, hb5⟩
        have HC5 := hideN (hcst.out.below hb5)
        clear hb5 hcst c0 c1 c2 c3 c4
        obtain ⟨N, hN⟩ : ∃ N, 1 + inp + (ls.length : Int) + (k : Int) = N := ⟨_, rfl⟩
        have hN0 : 1 ≤ N := by omega
        have hN1 : N ≤ 60 := by omega
        rw [hN] at HS
        have hwN : IntKind.i64.wrap (1 + inp + (ls.length : Int) + (k : Int)) = N := by rw [IntKind.wrap_i64]; omega
        have hw2 : IntKind.i64.wrap (2 * N + 1) = 2 * N + 1 := by rw [IntKind.wrap_i64]; omega
        have s0 := HC5.out.c.c1
        have s1 := HC5.out.a.four.c2
        have s2 := (HXC.out _ HC5.out.bel).1
        have s3 := HC5.out.c.lt
        have s4 := HC5.out.a.lt
        have s5 : ba < w5.heap.size := Nat.lt_of_lt_of_le hbb HC5.out.bel.size
        have s6 := HC5.out.c.f 1
        go_wp2_with fail
        refine region_S (fin := 13) (S := fun V => V.cell? ⟨w4.heap.size, 1, none⟩ = some (.slice ao n cap) ∧ V.cell? ⟨w.heap.size, 2, none⟩ = some (.slice (some ⟨ba, off, none⟩) xs.length ca) ∧ V.cell? ⟨ba, off + k * 2, none⟩ = some (.int .i64 p1)) (by kernel_rfl) ⟨s0, s1, s2⟩ (fun hHeld => ?walkA)
        case walkA =>
        clear hHeld
        refine takeS (i := 0) (v := .pointer (some ⟨w4.heap.size, 1, none⟩)) rfl (by kernel_rfl) (by kernel_rfl) (by kernel_rfl) (by kernel_rfl) (fun _ _ _ h => h) (Or.inl ⟨by rfl, fun w hS => by obtain ⟨s0, s1, s2⟩ := hS; go_simp⟩) ⟨s0, s1, s2⟩ ?_
        simp only [List.getElem_toArray, List.getElem_cons_zero, Act.put, List.setIfInBounds_toArray, List.set_cons_zero, List.set_cons_succ]
        refine takeS (i := 1) (v := .slice ao n cap) rfl (by kernel_rfl) (by kernel_rfl) (by kernel_rfl) (by kernel_rfl) (fun _ _ _ h => h) (Or.inl ⟨by rfl, fun w hS => by obtain ⟨s0, s1, s2⟩ := hS; go_simp⟩) ⟨s0, s1, s2⟩ ?_
        simp only [List.getElem_toArray, List.getElem_cons_zero, List.getElem_cons_succ, Act.put, List.setIfInBounds_toArray, List.set_cons_zero, List.set_cons_succ]
        refine takeS (i := 2) (v := .int .i64 (2 * N)) rfl (by kernel_rfl) (by kernel_rfl) (by kernel_rfl) (by kernel_rfl) (fun _ _ _ h => h) (Or.inl ⟨by rfl, fun w hS => by obtain ⟨s0, s1, s2⟩ := hS; go_simp⟩) ⟨s0, s1, s2⟩ ?_
        simp only [List.getElem_toArray, List.getElem_cons_zero, List.getElem_cons_succ, Act.put, List.setIfInBounds_toArray, List.set_cons_zero, List.set_cons_succ]
        refine takeS (i := 3) (v := .int .i64 (2 * N + 1)) rfl (by kernel_rfl) (by kernel_rfl) (by kernel_rfl) (by kernel_rfl) (fun _ _ _ h => h) (Or.inl ⟨by rfl, fun w hS => by obtain ⟨s0, s1, s2⟩ := hS; go_simp⟩) ⟨s0, s1, s2⟩ ?_
        simp only [List.getElem_toArray, List.getElem_cons_zero, List.getElem_cons_succ, Act.put, List.setIfInBounds_toArray, List.set_cons_zero, List.set_cons_succ]
        refine takeS (i := 4) (v := .pointer (some ⟨w.heap.size, 2, none⟩)) rfl (by kernel_rfl) (by kernel_rfl) (by kernel_rfl) (by kernel_rfl) (fun _ _ _ h => h) (Or.inl ⟨by rfl, fun w hS => by obtain ⟨s0, s1, s2⟩ := hS; go_simp⟩) ⟨s0, s1, s2⟩ ?_
        simp only [List.getElem_toArray, List.getElem_cons_zero, List.getElem_cons_succ, Act.put, List.setIfInBounds_toArray, List.set_cons_zero, List.set_cons_succ]
        refine takeS (i := 5) (v := .slice (some ⟨ba, off, none⟩) xs.length ca) rfl (by kernel_rfl) (by kernel_rfl) (by kernel_rfl) (by kernel_rfl) (fun _ _ _ h => h) (Or.inl ⟨by rfl, fun w hS => by obtain ⟨s0, s1, s2⟩ := hS; go_simp⟩) ⟨s0, s1, s2⟩ ?_
        simp only [List.getElem_toArray, List.getElem_cons_zero, List.getElem_cons_succ, Act.put, List.setIfInBounds_toArray, List.set_cons_zero, List.set_cons_succ]
        refine takeS (i := 6) (v := .int .i64 (k : Int)) rfl (by kernel_rfl) (by kernel_rfl) (by kernel_rfl) (by kernel_rfl) (fun _ _ _ h => h) (Or.inl ⟨by rfl, fun w hS => by obtain ⟨s0, s1, s2⟩ := hS; go_simp⟩) ⟨s0, s1, s2⟩ ?_
        simp only [List.getElem_toArray, List.getElem_cons_zero, List.getElem_cons_succ, Act.put, List.setIfInBounds_toArray, List.set_cons_zero, List.set_cons_succ]
        refine takeS (i := 7) (v := .pointer (some ⟨ba, off + k * 2, none⟩)) rfl (by kernel_rfl) (by kernel_rfl) (by kernel_rfl) (by kernel_rfl) (fun _ _ _ h => h) (Or.inl ⟨by rfl, fun w hS => by obtain ⟨s0, s1, s2⟩ := hS; go_simp⟩) ⟨s0, s1, s2⟩ ?_
        simp only [List.getElem_toArray, List.getElem_cons_zero, List.getElem_cons_succ, Act.put, List.setIfInBounds_toArray, List.set_cons_zero, List.set_cons_succ]
        refine takeS (i := 8) (v := .pointer (some ⟨ba, off + k * 2, none⟩)) rfl (by kernel_rfl) (by kernel_rfl) (by kernel_rfl) (by kernel_rfl) (fun _ _ _ h => h) (Or.inl ⟨by rfl, fun w hS => by obtain ⟨s0, s1, s2⟩ := hS; go_simp⟩) ⟨s0, s1, s2⟩ ?_
        simp only [List.getElem_toArray, List.getElem_cons_zero, List.getElem_cons_succ, Act.put, List.setIfInBounds_toArray, List.set_cons_zero, List.set_cons_succ]
        refine takeS (i := 9) (v := .int .i64 p1) rfl (by kernel_rfl) (by kernel_rfl) (by kernel_rfl) (by kernel_rfl) (fun _ _ _ h => h) (Or.inl ⟨by rfl, fun w hS => by obtain ⟨s0, s1, s2⟩ := hS; go_simp⟩) ⟨s0, s1, s2⟩ ?_
        simp only [List.getElem_toArray, List.getElem_cons_zero, List.getElem_cons_succ, Act.put, List.setIfInBounds_toArray, List.set_cons_zero, List.set_cons_succ]
        refine oneS (i := 10) (by kernel_rfl) rfl (by rfl) ?_
        simp only [List.getElem_toArray, List.getElem_cons_zero, List.getElem_cons_succ]
        go_simp
        have HBA : Hid (Below w5.heap.size w5 (w5.alloc (.cells #[.int .i64 (2 * N + 1), .int .i64 p1] 3)).drew) := below_drewN (belOne _ _) 1
        refine oneS (i := 11) (by kernel_rfl) rfl (by rfl) ?_
        simp only [List.getElem_toArray, List.getElem_cons_zero, List.getElem_cons_succ]
        go_simp
        refine (l4Add_any (w4.heap.size + 1) w5.heap.size n cap ao css _ [2 * N + 1, p1] _ (by exact GridF.below HC5.out.g HBA.out) hn.out (by omega) HC5.out.ll (by simp) (by exact built2 w5 (2 * N + 1) p1 3) (by intro y hy; simp at hy; omega) (by simp)).mono ?_
        rintro e XA ⟨a7, n7, c7, rfl, hnA, hgA, hcA, -⟩
        have hmidA := HC5.out.mid HBA.out hcA
        have r0 := hmidA.1.c1
        have r1 := hmidA.2.1.four.c2
        have r2 := (HXC.out _ hmidA.2.2).1
        have r3 := (HXC.out _ hmidA.2.2).2
        have r4 := hmidA.1.f 1
        have HN7 := hideN hnA
        have h7 : n7 ≤ 121 := by have := addCl_le css [2 * N + 1, p1]; have := hn.out; omega
        have HSTA := hideN (HC5.out.step HBA.out hgA hcA)
        clear hnA hgA hcA hmidA s0 s1 s2 s3 s4 s5 s6
        refine ⟨⟨r0, r1, r2⟩, ?_⟩
        refine takeS (i := 12) (v := .pointer (some ⟨w4.heap.size, 1, none⟩)) rfl (by kernel_rfl) (by kernel_rfl) (by kernel_rfl) (by kernel_rfl) (fun _ _ _ h => h) (Or.inl ⟨by rfl, fun w hS => by obtain ⟨r0, r1, r2⟩ := hS; go_simp⟩) ⟨r0, r1, r2⟩ ?_
        simp only [List.getElem_toArray, List.getElem_cons_zero, List.getElem_cons_succ, Act.put, List.setIfInBounds_toArray, List.set_cons_zero, List.set_cons_succ]
        refine oneS (i := 13) (by kernel_rfl) rfl (by rfl) ?_
        simp only [List.getElem_toArray, List.getElem_cons_zero, List.getElem_cons_succ]
        go_simp
        refine doneS (by kernel_rfl) ?_ _
        clear r0 r1 r2 r3 r4
        generalize (XA.setCell ⟨w4.heap.size, 1, none⟩ (.slice a7 n7 c7)) = V7 at *
        generalize hcsA : addCl css [2 * N + 1, p1] = cssA at *
        have HCSA := hideN hcsA
        clear hcsA
        have s0 := HSTA.out.c.c1
        have s1 := HSTA.out.a.four.c2
        have s2 := (HXC.out _ HSTA.out.bel).2
        have s3 := HSTA.out.c.lt
        have s4 := HSTA.out.a.lt
        have s5 : ba < V7.heap.size := Nat.lt_of_lt_of_le hbb HSTA.out.bel.size
        have s6 := HSTA.out.c.f 1
        go_wp2_with fail
        refine region_S (fin := 13) (S := fun V => V.cell? ⟨w4.heap.size, 1, none⟩ = some (.slice a7 n7 c7) ∧ V.cell? ⟨w.heap.size, 2, none⟩ = some (.slice (some ⟨ba, off, none⟩) xs.length ca) ∧ V.cell? ⟨ba, off + k * 2 + 1, none⟩ = some (.int .i64 p2)) (by kernel_rfl) ⟨s0, s1, s2⟩ (fun hHeld => ?walkB)
        case walkB =>
        clear hHeld
        refine takeS (i := 0) (v := .pointer (some ⟨w4.heap.size, 1, none⟩)) rfl (by kernel_rfl) (by kernel_rfl) (by kernel_rfl) (by kernel_rfl) (fun _ _ _ h => h) (Or.inl ⟨by rfl, fun w hS => by obtain ⟨s0, s1, s2⟩ := hS; go_simp⟩) ⟨s0, s1, s2⟩ ?_
        simp only [List.getElem_toArray, List.getElem_cons_zero, Act.put, List.setIfInBounds_toArray, List.set_cons_zero, List.set_cons_succ]
        refine takeS (i := 1) (v := .slice a7 n7 c7) rfl (by kernel_rfl) (by kernel_rfl) (by kernel_rfl) (by kernel_rfl) (fun _ _ _ h => h) (Or.inl ⟨by rfl, fun w hS => by obtain ⟨s0, s1, s2⟩ := hS; go_simp⟩) ⟨s0, s1, s2⟩ ?_
        simp only [List.getElem_toArray, List.getElem_cons_zero, List.getElem_cons_succ, Act.put, List.setIfInBounds_toArray, List.set_cons_zero, List.set_cons_succ]
        refine takeS (i := 2) (v := .int .i64 (2 * N)) rfl (by kernel_rfl) (by kernel_rfl) (by kernel_rfl) (by kernel_rfl) (fun _ _ _ h => h) (Or.inl ⟨by rfl, fun w hS => by obtain ⟨s0, s1, s2⟩ := hS; go_simp⟩) ⟨s0, s1, s2⟩ ?_
        simp only [List.getElem_toArray, List.getElem_cons_zero, List.getElem_cons_succ, Act.put, List.setIfInBounds_toArray, List.set_cons_zero, List.set_cons_succ]
        refine takeS (i := 3) (v := .int .i64 (2 * N + 1)) rfl (by kernel_rfl) (by kernel_rfl) (by kernel_rfl) (by kernel_rfl) (fun _ _ _ h => h) (Or.inl ⟨by rfl, fun w hS => by obtain ⟨s0, s1, s2⟩ := hS; go_simp⟩) ⟨s0, s1, s2⟩ ?_
        simp only [List.getElem_toArray, List.getElem_cons_zero, List.getElem_cons_succ, Act.put, List.setIfInBounds_toArray, List.set_cons_zero, List.set_cons_succ]
        refine takeS (i := 4) (v := .pointer (some ⟨w.heap.size, 2, none⟩)) rfl (by kernel_rfl) (by kernel_rfl) (by kernel_rfl) (by kernel_rfl) (fun _ _ _ h => h) (Or.inl ⟨by rfl, fun w hS => by obtain ⟨s0, s1, s2⟩ := hS; go_simp⟩) ⟨s0, s1, s2⟩ ?_
        simp only [List.getElem_toArray, List.getElem_cons_zero, List.getElem_cons_succ, Act.put, List.setIfInBounds_toArray, List.set_cons_zero, List.set_cons_succ]
        refine takeS (i := 5) (v := .slice (some ⟨ba, off, none⟩) xs.length ca) rfl (by kernel_rfl) (by kernel_rfl) (by kernel_rfl) (by kernel_rfl) (fun _ _ _ h => h) (Or.inl ⟨by rfl, fun w hS => by obtain ⟨s0, s1, s2⟩ := hS; go_simp⟩) ⟨s0, s1, s2⟩ ?_
        simp only [List.getElem_toArray, List.getElem_cons_zero, List.getElem_cons_succ, Act.put, List.setIfInBounds_toArray, List.set_cons_zero, List.set_cons_succ]
        refine takeS (i := 6) (v := .int .i64 (k : Int)) rfl (by kernel_rfl) (by kernel_rfl) (by kernel_rfl) (by kernel_rfl) (fun _ _ _ h => h) (Or.inl ⟨by rfl, fun w hS => by obtain ⟨s0, s1, s2⟩ := hS; go_simp⟩) ⟨s0, s1, s2⟩ ?_
        simp only [List.getElem_toArray, List.getElem_cons_zero, List.getElem_cons_succ, Act.put, List.setIfInBounds_toArray, List.set_cons_zero, List.set_cons_succ]
        refine takeS (i := 7) (v := .pointer (some ⟨ba, off + k * 2, none⟩)) rfl (by kernel_rfl) (by kernel_rfl) (by kernel_rfl) (by kernel_rfl) (fun _ _ _ h => h) (Or.inl ⟨by rfl, fun w hS => by obtain ⟨s0, s1, s2⟩ := hS; go_simp⟩) ⟨s0, s1, s2⟩ ?_
        simp only [List.getElem_toArray, List.getElem_cons_zero, List.getElem_cons_succ, Act.put, List.setIfInBounds_toArray, List.set_cons_zero, List.set_cons_succ]
        refine takeS (i := 8) (v := .pointer (some ⟨ba, off + k * 2 + 1, none⟩)) rfl (by kernel_rfl) (by kernel_rfl) (by kernel_rfl) (by kernel_rfl) (fun _ _ _ h => h) (Or.inl ⟨by rfl, fun w hS => by obtain ⟨s0, s1, s2⟩ := hS; go_simp⟩) ⟨s0, s1, s2⟩ ?_
        simp only [List.getElem_toArray, List.getElem_cons_zero, List.getElem_cons_succ, Act.put, List.setIfInBounds_toArray, List.set_cons_zero, List.set_cons_succ]
        refine takeS (i := 9) (v := .int .i64 p2) rfl (by kernel_rfl) (by kernel_rfl) (by kernel_rfl) (by kernel_rfl) (fun _ _ _ h => h) (Or.inl ⟨by rfl, fun w hS => by obtain ⟨s0, s1, s2⟩ := hS; go_simp⟩) ⟨s0, s1, s2⟩ ?_
        simp only [List.getElem_toArray, List.getElem_cons_zero, List.getElem_cons_succ, Act.put, List.setIfInBounds_toArray, List.set_cons_zero, List.set_cons_succ]
        refine oneS (i := 10) (by kernel_rfl) rfl (by rfl) ?_
        simp only [List.getElem_toArray, List.getElem_cons_zero, List.getElem_cons_succ]
        go_simp
        have HBB : Hid (Below V7.heap.size V7 (V7.alloc (.cells #[.int .i64 (2 * N + 1), .int .i64 p2] 3)).drew) := below_drewN (belOne _ _) 1
        refine oneS (i := 11) (by kernel_rfl) rfl (by rfl) ?_
        simp only [List.getElem_toArray, List.getElem_cons_zero, List.getElem_cons_succ]
        go_simp
        refine (l4Add_any (w4.heap.size + 1) V7.heap.size n7 c7 a7 cssA _ [2 * N + 1, p2] _ (by exact GridF.below HSTA.out.g HBB.out) HN7.out (by omega) HSTA.out.ll (by simp) (by exact built2 V7 (2 * N + 1) p2 3) (by intro y hy; simp at hy; omega) (by simp)).mono ?_
        rintro e XB ⟨a8, n8, c8, rfl, hnB, hgB, hcB, -⟩
        have hmidB := HSTA.out.mid HBB.out hcB
        have r0 := hmidB.1.c1
        have r1 := hmidB.2.1.four.c2
        have r2 := (HXC.out _ hmidB.2.2).1
        have r3 := (HXC.out _ hmidB.2.2).2
        have r4 := hmidB.1.f 1
        have HN8 := hideN hnB
        have h8b : n8 ≤ 122 := by have := addCl_le cssA [2 * N + 1, p2]; have := HN7.out; omega
        have HSTB := hideN (HSTA.out.step HBB.out hgB hcB)
        clear hnB hgB hcB hmidB s0 s1 s2 s3 s4 s5 s6
        refine ⟨⟨r0, r1, r3⟩, ?_⟩
        refine takeS (i := 12) (v := .pointer (some ⟨w4.heap.size, 1, none⟩)) rfl (by kernel_rfl) (by kernel_rfl) (by kernel_rfl) (by kernel_rfl) (fun _ _ _ h => h) (Or.inl ⟨by rfl, fun w hS => by obtain ⟨r0, r1, r3⟩ := hS; go_simp⟩) ⟨r0, r1, r3⟩ ?_
        simp only [List.getElem_toArray, List.getElem_cons_zero, List.getElem_cons_succ, Act.put, List.setIfInBounds_toArray, List.set_cons_zero, List.set_cons_succ]
        refine oneS (i := 13) (by kernel_rfl) rfl (by rfl) ?_
        simp only [List.getElem_toArray, List.getElem_cons_zero, List.getElem_cons_succ]
        go_simp
        refine doneS (by kernel_rfl) ?_ _
        clear r0 r1 r2 r3 r4
        generalize (XB.setCell ⟨w4.heap.size, 1, none⟩ (.slice a8 n8 c8)) = V8 at *
        generalize hcsB : addCl cssA [2 * N + 1, p2] = cssB at *
        have HCSB := hideN hcsB
        clear hcsB
        have ho1 := oppL_range hp10 hp11
        have ho2 := oppL_range hp20 hp21
        have s0 := HSTB.out.c.c1
        have s1 := HSTB.out.a.four.c2
        have s2 := (HXC.out _ HSTB.out.bel).1
        have s7 := (HXC.out _ HSTB.out.bel).2
        have s3 := HSTB.out.c.lt
        have s4 := HSTB.out.a.lt
        have s5 : ba < V8.heap.size := Nat.lt_of_lt_of_le hbb HSTB.out.bel.size
        have s6 := HSTB.out.c.f 1
        go_wp2_with fail
        refine region_S (fin := 20) (S := fun V => V.cell? ⟨w4.heap.size, 1, none⟩ = some (.slice a8 n8 c8) ∧ V.cell? ⟨w.heap.size, 2, none⟩ = some (.slice (some ⟨ba, off, none⟩) xs.length ca) ∧ V.cell? ⟨ba, off + k * 2, none⟩ = some (.int .i64 p1) ∧ V.cell? ⟨ba, off + k * 2 + 1, none⟩ = some (.int .i64 p2)) (by kernel_rfl) ⟨s0, s1, s2, s7⟩ (fun hHeld => ?walkC)
        case walkC =>
        clear hHeld
        refine takeS (i := 0) (v := .pointer (some ⟨w4.heap.size, 1, none⟩)) rfl (by kernel_rfl) (by kernel_rfl) (by kernel_rfl) (by kernel_rfl) (fun _ _ _ h => h) (Or.inl ⟨by rfl, fun w hS => by obtain ⟨s0, s1, s2, s7⟩ := hS; go_simp⟩) ⟨s0, s1, s2, s7⟩ ?_
        simp only [List.getElem_toArray, List.getElem_cons_zero, Act.put, List.setIfInBounds_toArray, List.set_cons_zero, List.set_cons_succ]
        refine takeS (i := 1) (v := .slice a8 n8 c8) rfl (by kernel_rfl) (by kernel_rfl) (by kernel_rfl) (by kernel_rfl) (fun _ _ _ h => h) (Or.inl ⟨by rfl, fun w hS => by obtain ⟨s0, s1, s2, s7⟩ := hS; go_simp⟩) ⟨s0, s1, s2, s7⟩ ?_
        simp only [List.getElem_toArray, List.getElem_cons_zero, List.getElem_cons_succ, Act.put, List.setIfInBounds_toArray, List.set_cons_zero, List.set_cons_succ]
        refine takeS (i := 2) (v := .int .i64 (2 * N)) rfl (by kernel_rfl) (by kernel_rfl) (by kernel_rfl) (by kernel_rfl) (fun _ _ _ h => h) (Or.inl ⟨by rfl, fun w hS => by obtain ⟨s0, s1, s2, s7⟩ := hS; go_simp⟩) ⟨s0, s1, s2, s7⟩ ?_
        simp only [List.getElem_toArray, List.getElem_cons_zero, List.getElem_cons_succ, Act.put, List.setIfInBounds_toArray, List.set_cons_zero, List.set_cons_succ]
        refine takeS (i := 3) (v := .pointer (some ⟨w.heap.size, 2, none⟩)) rfl (by kernel_rfl) (by kernel_rfl) (by kernel_rfl) (by kernel_rfl) (fun _ _ _ h => h) (Or.inl ⟨by rfl, fun w hS => by obtain ⟨s0, s1, s2, s7⟩ := hS; go_simp⟩) ⟨s0, s1, s2, s7⟩ ?_
        simp only [List.getElem_toArray, List.getElem_cons_zero, List.getElem_cons_succ, Act.put, List.setIfInBounds_toArray, List.set_cons_zero, List.set_cons_succ]
        refine takeS (i := 4) (v := .slice (some ⟨ba, off, none⟩) xs.length ca) rfl (by kernel_rfl) (by kernel_rfl) (by kernel_rfl) (by kernel_rfl) (fun _ _ _ h => h) (Or.inl ⟨by rfl, fun w hS => by obtain ⟨s0, s1, s2, s7⟩ := hS; go_simp⟩) ⟨s0, s1, s2, s7⟩ ?_
        simp only [List.getElem_toArray, List.getElem_cons_zero, List.getElem_cons_succ, Act.put, List.setIfInBounds_toArray, List.set_cons_zero, List.set_cons_succ]
        refine takeS (i := 5) (v := .int .i64 (k : Int)) rfl (by kernel_rfl) (by kernel_rfl) (by kernel_rfl) (by kernel_rfl) (fun _ _ _ h => h) (Or.inl ⟨by rfl, fun w hS => by obtain ⟨s0, s1, s2, s7⟩ := hS; go_simp⟩) ⟨s0, s1, s2, s7⟩ ?_
        simp only [List.getElem_toArray, List.getElem_cons_zero, List.getElem_cons_succ, Act.put, List.setIfInBounds_toArray, List.set_cons_zero, List.set_cons_succ]
        refine takeS (i := 6) (v := .pointer (some ⟨ba, off + k * 2, none⟩)) rfl (by kernel_rfl) (by kernel_rfl) (by kernel_rfl) (by kernel_rfl) (fun _ _ _ h => h) (Or.inl ⟨by rfl, fun w hS => by obtain ⟨s0, s1, s2, s7⟩ := hS; go_simp⟩) ⟨s0, s1, s2, s7⟩ ?_
        simp only [List.getElem_toArray, List.getElem_cons_zero, List.getElem_cons_succ, Act.put, List.setIfInBounds_toArray, List.set_cons_zero, List.set_cons_succ]
        refine takeS (i := 7) (v := .pointer (some ⟨ba, off + k * 2, none⟩)) rfl (by kernel_rfl) (by kernel_rfl) (by kernel_rfl) (by kernel_rfl) (fun _ _ _ h => h) (Or.inl ⟨by rfl, fun w hS => by obtain ⟨s0, s1, s2, s7⟩ := hS; go_simp⟩) ⟨s0, s1, s2, s7⟩ ?_
        simp only [List.getElem_toArray, List.getElem_cons_zero, List.getElem_cons_succ, Act.put, List.setIfInBounds_toArray, List.set_cons_zero, List.set_cons_succ]
        refine takeS (i := 8) (v := .int .i64 p1) rfl (by kernel_rfl) (by kernel_rfl) (by kernel_rfl) (by kernel_rfl) (fun _ _ _ h => h) (Or.inl ⟨by rfl, fun w hS => by obtain ⟨s0, s1, s2, s7⟩ := hS; go_simp⟩) ⟨s0, s1, s2, s7⟩ ?_
        simp only [List.getElem_toArray, List.getElem_cons_zero, List.getElem_cons_succ, Act.put, List.setIfInBounds_toArray, List.set_cons_zero, List.set_cons_succ]
        refine takeS (i := 10) (v := .pointer (some ⟨w.heap.size, 2, none⟩)) rfl (by kernel_rfl) (by kernel_rfl) (by kernel_rfl) (by kernel_rfl) (fun _ _ _ h => h) (Or.inl ⟨by rfl, fun w hS => by obtain ⟨s0, s1, s2, s7⟩ := hS; go_simp⟩) ⟨s0, s1, s2, s7⟩ ?_
        simp only [List.getElem_toArray, List.getElem_cons_zero, List.getElem_cons_succ, Act.put, List.setIfInBounds_toArray, List.set_cons_zero, List.set_cons_succ]
        refine takeS (i := 11) (v := .slice (some ⟨ba, off, none⟩) xs.length ca) rfl (by kernel_rfl) (by kernel_rfl) (by kernel_rfl) (by kernel_rfl) (fun _ _ _ h => h) (Or.inl ⟨by rfl, fun w hS => by obtain ⟨s0, s1, s2, s7⟩ := hS; go_simp⟩) ⟨s0, s1, s2, s7⟩ ?_
        simp only [List.getElem_toArray, List.getElem_cons_zero, List.getElem_cons_succ, Act.put, List.setIfInBounds_toArray, List.set_cons_zero, List.set_cons_succ]
        refine takeS (i := 12) (v := .int .i64 (k : Int)) rfl (by kernel_rfl) (by kernel_rfl) (by kernel_rfl) (by kernel_rfl) (fun _ _ _ h => h) (Or.inl ⟨by rfl, fun w hS => by obtain ⟨s0, s1, s2, s7⟩ := hS; go_simp⟩) ⟨s0, s1, s2, s7⟩ ?_
        simp only [List.getElem_toArray, List.getElem_cons_zero, List.getElem_cons_succ, Act.put, List.setIfInBounds_toArray, List.set_cons_zero, List.set_cons_succ]
        refine takeS (i := 13) (v := .pointer (some ⟨ba, off + k * 2, none⟩)) rfl (by kernel_rfl) (by kernel_rfl) (by kernel_rfl) (by kernel_rfl) (fun _ _ _ h => h) (Or.inl ⟨by rfl, fun w hS => by obtain ⟨s0, s1, s2, s7⟩ := hS; go_simp⟩) ⟨s0, s1, s2, s7⟩ ?_
        simp only [List.getElem_toArray, List.getElem_cons_zero, List.getElem_cons_succ, Act.put, List.setIfInBounds_toArray, List.set_cons_zero, List.set_cons_succ]
        refine takeS (i := 14) (v := .pointer (some ⟨ba, off + k * 2 + 1, none⟩)) rfl (by kernel_rfl) (by kernel_rfl) (by kernel_rfl) (by kernel_rfl) (fun _ _ _ h => h) (Or.inl ⟨by rfl, fun w hS => by obtain ⟨s0, s1, s2, s7⟩ := hS; go_simp⟩) ⟨s0, s1, s2, s7⟩ ?_
        simp only [List.getElem_toArray, List.getElem_cons_zero, List.getElem_cons_succ, Act.put, List.setIfInBounds_toArray, List.set_cons_zero, List.set_cons_succ]
        refine takeS (i := 15) (v := .int .i64 p2) rfl (by kernel_rfl) (by kernel_rfl) (by kernel_rfl) (by kernel_rfl) (fun _ _ _ h => h) (Or.inl ⟨by rfl, fun w hS => by obtain ⟨s0, s1, s2, s7⟩ := hS; go_simp⟩) ⟨s0, s1, s2, s7⟩ ?_
        simp only [List.getElem_toArray, List.getElem_cons_zero, List.getElem_cons_succ, Act.put, List.setIfInBounds_toArray, List.set_cons_zero, List.set_cons_succ]
        refine oneS (i := 9) (by kernel_rfl) rfl (by rfl) ?_
        simp only [List.getElem_toArray, List.getElem_cons_zero, List.getElem_cons_succ]
        go_simp
        refine (l4Not_any _ _ hp10 (by omega)).mono ?_
        rintro e w' ⟨rfl, hw'⟩
        obtain rfl := hw'.symm
        refine ⟨⟨s0, s1, s2, s7⟩, ?_⟩
        refine oneS (i := 16) (by kernel_rfl) rfl (by rfl) ?_
        simp only [List.getElem_toArray, List.getElem_cons_zero, List.getElem_cons_succ]
        go_simp
        refine (l4Not_any _ _ hp20 (by omega)).mono ?_
        rintro e w' ⟨rfl, hw'⟩
        obtain rfl := hw'.symm
        refine ⟨⟨s0, s1, s2, s7⟩, ?_⟩
        refine oneS (i := 17) (by kernel_rfl) rfl (by rfl) ?_
        simp only [List.getElem_toArray, List.getElem_cons_zero, List.getElem_cons_succ]
        go_simp
        have HBC : Hid (Below V8.heap.size V8 (V8.alloc (.cells #[.int .i64 (2 * N), .int .i64 (oppL p1), .int .i64 (oppL p2)] 3)).drew) := below_drewN (belOne _ _) 1
        refine oneS (i := 18) (by kernel_rfl) rfl (by rfl) ?_
        simp only [List.getElem_toArray, List.getElem_cons_zero, List.getElem_cons_succ]
        go_simp
        refine (l4Add_any (w4.heap.size + 1) V8.heap.size n8 c8 a8 cssB _ [2 * N, oppL p1, oppL p2] _ (by exact GridF.below HSTB.out.g HBC.out) HN8.out (by omega) HSTB.out.ll (by simp) (by exact built3 V8 (2 * N) (oppL p1) (oppL p2) 3) (by intro y hy; simp at hy; omega) (by simp)).mono ?_
        rintro e XC ⟨a9, n9, c9, rfl, hnC, hgC, hcC, -⟩
        have hmidC := HSTB.out.mid HBC.out hcC
        have r0 := hmidC.1.c1
        have r1 := hmidC.2.1.four.c2
        have r2 := (HXC.out _ hmidC.2.2).1
        have r3 := (HXC.out _ hmidC.2.2).2
        have r4 := hmidC.1.f 1
        have HN9 := hideN hnC
        have h9 : n9 ≤ 123 := by have := addCl_le cssB [2 * N, oppL p1, oppL p2]; have := HN8.out; omega
        have HSTC := hideN (HSTB.out.step HBC.out hgC hcC)
        clear hnC hgC hcC hmidC s0 s1 s2 s3 s4 s5 s6
        refine ⟨⟨r0, r1, r2, r3⟩, ?_⟩
        refine takeS (i := 19) (v := .pointer (some ⟨w4.heap.size, 1, none⟩)) rfl (by kernel_rfl) (by kernel_rfl) (by kernel_rfl) (by kernel_rfl) (fun _ _ _ h => h) (Or.inl ⟨by rfl, fun w hS => by obtain ⟨r0, r1, r2, r3⟩ := hS; go_simp⟩) ⟨r0, r1, r2, r3⟩ ?_
        simp only [List.getElem_toArray, List.getElem_cons_zero, List.getElem_cons_succ, Act.put, List.setIfInBounds_toArray, List.set_cons_zero, List.set_cons_succ]
        refine oneS (i := 20) (by kernel_rfl) rfl (by rfl) ?_
        simp only [List.getElem_toArray, List.getElem_cons_zero, List.getElem_cons_succ]
        go_simp
        refine doneS (by kernel_rfl) ?_ _
        clear r0 r1 r2 r3 r4
        generalize (XC.setCell ⟨w4.heap.size, 1, none⟩ (.slice a9 n9 c9)) = V9 at *
        generalize hcsC : addCl cssB [2 * N, oppL p1, oppL p2] = cssC at *
        have HCSC := hideN hcsC
        clear hcsC
        have HFIN : Hid (clsF (1 + inp + ls.length) xs (k + 1) = cssC) := by show _ = _; rw [HS.out]; unfold cl3; rw [HCSA.out, HCSB.out, HCSC.out]
        go_wp2_with fail
        go_roundw
        case rel => exact ⟨k + 1, a9, n9, c9, by omega, by go_num, by rw [HFIN.out]; exact HN9, by rw [HFIN.out]; exact HSTC⟩
        case measure => simp [intOf]; omega
      · obtain rfl : k = xs.length := by omega
        have d0 := hcst.out.c.c0
        have d1 := hcst.out.c.c1
        have d2 := hcst.out.c.lt
        have m0 := hcst.out.q.c0
        have m1 := hcst.out.q.c1
        have m2 := hcst.out.q.lt
        have m3 := hcst.out.q.f 0
        have m4 := hcst.out.q.f 1
        have hqq := (hcst.out.q.set0 (.int .i64 vars)).set1 (.slice ao n cap)
        have u0 := hqq.c0
        have u1 := hqq.c1
        have HBE : Hid (Below w.heap.size w ((wr.setCell ⟨w.heap.size + 1, 0, none⟩ (.int .i64 vars)).setCell ⟨w.heap.size + 1, 1, none⟩ (.slice ao n cap))) := (hcst.out.bel.setCell (p := ⟨w.heap.size + 1, 0, none⟩) (by show _ ≤ w.heap.size + 1; omega) _).setCell (p := ⟨w.heap.size + 1, 1, none⟩) (by show _ ≤ w.heap.size + 1; omega) _
        have HGE : Hid (GridL ((wr.setCell ⟨w.heap.size + 1, 0, none⟩ (.int .i64 vars)).setCell ⟨w.heap.size + 1, 1, none⟩ (.slice ao n cap)) w.heap.size ((wr.setCell ⟨w.heap.size + 1, 0, none⟩ (.int .i64 vars)).setCell ⟨w.heap.size + 1, 1, none⟩ (.slice ao n cap)).heap.size (.slice ao n cap) (clsF (1 + inp + ls.length) xs xs.length)) := by
          have hq1 := hcst.out.qc
          have hq2 := hcst.out.cl
          refine (GridF.keep hcst.out.g (fun k hlo _ _ => ?_)).wide (by omega) (by simp)
          rw [blk_setCell_other _ _ _ _ (by show k ≠ w.heap.size + 1; omega), blk_setCell_other _ _ _ _ (by show k ≠ w.heap.size + 1; omega)]
        clear hqq
        go_wp2
        refine bodyPost_ret (v := .agg #[.int .i64 vars, .slice ao n cap]) (by simp [results, Try.results33, go_sem, u0, u1]) rfl ⟨ao, n, cap, ?_, ?_, ?_, HBE.out⟩
        · unfold cnfVars; rw [if_pos HO.out, HVV.out]
        · unfold cnfCss; rw [if_pos HO.out]; exact hn.out
        · unfold cnfCss; rw [if_pos HO.out]; exact HGE.out

end Go.Proofs.Ytbdjdgamnnifjaa

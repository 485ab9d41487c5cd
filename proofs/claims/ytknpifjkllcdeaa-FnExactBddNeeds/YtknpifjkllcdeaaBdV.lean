/-
  Diagrams: whether a diagram is in its form, by the model.
-/
import Derived.Test.YtknpifjkllcdeaaBdY
namespace Go.Proofs.Ytknpifjkllcdeaa
open Go.RowKit Go.Deep
set_option linter.unusedVariables false

attribute [local go_sem] Oper.semAt_some

set_option maxRecDepth 100000 in
set_option maxHeartbeats 8000000 in
theorem l11Same_any (vars r1 r2 : Int) (a1 a2 : Option Addr) (n1 n2 c1 c2 : Nat) (l1 l2 : List Nd) (w : World) (h1 : Nds w a1 n1 c1 l1) (h2 : Nds w a2 n2 c2 l2) (f1 : ∀ p ∈ l1, FitN p) (f2 : ∀ p ∈ l2, FitN p) (hn1 : n1 ≤ 100) (hn2 : n2 ≤ 100) :
    Calls Try.prog 87 #[.agg #[.int .i64 vars, .slice a1 n1 c1, .int .i64 r1], .agg #[.int .i64 vars, .slice a2 n2 c2, .int .i64 r2]] w fun e w' => e = .returned (.bool (decide (r1 = r2) && decide (l1 = l2))) ∧ Below w.heap.size w w' := by
  obtain ⟨W1, hW1⟩ : ∃ W1, W1 = (w.alloc (.cells #[.int .i64 vars, .slice a1 n1 c1, .int .i64 r1] 25)).alloc (.cells #[.int .i64 vars, .slice a2 n2 c2, .int .i64 r2] 25) := ⟨_, rfl⟩
  have HB1 : Hid (Below w.heap.size w W1) := by rw [hW1]; exact belNext (belOne _ _) (belOne _ _)
  have hA : BlkD W1 w.heap.size (.int .i64 vars) (.slice a1 n1 c1) (.int .i64 r1) := by rw [hW1]; exact (BlkD.new _ _ _ _).below (belOne _ _)
  have hB : BlkD W1 (w.heap.size + 1) (.int .i64 vars) (.slice a2 n2 c2) (.int .i64 r2) := by
    rw [hW1]
    have h := BlkD.new (w.alloc (.cells #[.int .i64 vars, .slice a1 n1 c1, .int .i64 r1] 25)) (.int .i64 vars) (.slice a2 n2 c2) (.int .i64 r2)
    rw [World.size_alloc] at h
    exact h
  have H1 := hideN (h1.below HB1.out)
  have H2 := hideN (h2.below HB1.out)
  have F1 := hideN f1
  have F2 := hideN f2
  have HW1 := hideN hW1
  have x0 := hA.c0
  have x1 := hA.c1
  have x2 := hA.c2
  have x3 := hA.lt
  have y0 := hB.c0
  have y1 := hB.c1
  have y2 := hB.c2
  have y3 := hB.lt
  clear h1 h2 hA hB hW1 f1 f2
  by_cases hr : r1 = r2
  case neg =>
    have e0 : (r1 == r2) = false := by simpa using hr
    rw [decide_eq_false hr]
    go_enter Try.func87, Try.ntmps87
    go_wp2_with fail
    try (rw [← HW1.out]; go_wp2_with fail)
    go_ret
    exact ⟨rfl, by first | exact HB1.out | exact belNext (belOne _ _) (belOne _ _)⟩
  subst hr
  rw [decide_eq_true rfl, Bool.true_and]
  by_cases hn : n1 = n2
  case neg =>
    have e0 : ((n1 : Int) == (n2 : Int)) = false := by simp; omega
    have hd : decide (l1 = l2) = false := decide_eq_false (fun e => hn (by rw [← H1.out.len, ← H2.out.len, e]))
    rw [hd]
    go_enter Try.func87, Try.ntmps87
    go_wp2_with fail
    try (rw [← HW1.out]; go_wp2_with fail)
    go_ret
    exact ⟨rfl, by first | exact HB1.out | exact belNext (belOne _ _) (belOne _ _)⟩
  subst hn
  go_enter Try.func87, Try.ntmps87
  go_wp2_with fail
  rw [← HW1.out]
  go_loopw [5] (fun i wr => ∃ j : Nat, j ≤ n1 ∧ i = .int .i64 j ∧ Hid (∀ q, q < j → l1.getD q (0, 0, 0) = l2.getD q (0, 0, 0)) ∧ ∃ q, wr = W1.drewN q) (fun i _ => n1 - (intOf i).toNat)
  case atStart => exact ⟨0, Nat.zero_le _, rfl, fun q hq => by omega, 0, rfl⟩
  case round =>
    obtain ⟨j, hj, rfl, hall, q, rfl⟩ := hrel
    have HBE : Hid (∀ n, Below w.heap.size w (W1.drewN n)) := fun n => HB1.out.trans ((below_drewN (Below.refl _ _) n).mono HB1.out.size)
    by_cases hlt : j < n1
    · obtain ⟨b1, off1, ha1, hc1⟩ := H1.out.cells (by omega)
      obtain ⟨b2, off2, ha2, hc2⟩ := H2.out.cells (by omega)
      subst ha1
      subst ha2
      obtain ⟨u0, u1, u2⟩ := hc1 j hlt
      obtain ⟨v0, v1, v2⟩ := hc2 j hlt
      have hf1 := F1.out _ (getD_mem_nd2 (l := l1) (i := j) (by have := H1.out.len; omega))
      have hf2 := F2.out _ (getD_mem_nd2 (l := l2) (i := j) (by have := H2.out.len; omega))
      by_cases he : l1.getD j (0, 0, 0) = l2.getD j (0, 0, 0)
      · have HE := hideN he
        rw [he] at u0 u1 u2
        have heq := fun W => nd_neq_same (l2.getD j (0, 0, 0)) hf2 W
        simp only [ndOf] at heq
        clear he hc1 hc2 hf1 hf2
        generalize (l2.getD j (0, 0, 0)).1 = p0 at *
        generalize (l2.getD j (0, 0, 0)).2.1 = p1 at *
        generalize (l2.getD j (0, 0, 0)).2.2 = p2 at *
        go_wp2_with fail
        go_quiet (fail)
        go_wp2_with fail
        go_roundw
        case rel =>
          refine ⟨j + 1, by omega, by go_num, fun i hi => ?_, _, rfl⟩
          by_cases e : i = j
          · subst e; exact HE.out
          · exact hall.out i (by omega)
        case measure => simp [intOf]; omega
      · have heq := fun W => nd_neq_diff hf1 hf2 he W
        simp only [ndOf] at heq
        have HD : Hid (decide (l1 = l2) = false) := decide_eq_false (fun e => he (by rw [e]))
        clear he hc1 hc2 hf1 hf2
        generalize (l1.getD j (0, 0, 0)).1 = p0 at *
        generalize (l1.getD j (0, 0, 0)).2.1 = p1 at *
        generalize (l1.getD j (0, 0, 0)).2.2 = p2 at *
        generalize (l2.getD j (0, 0, 0)).1 = r0 at *
        generalize (l2.getD j (0, 0, 0)).2.1 = r1' at *
        generalize (l2.getD j (0, 0, 0)).2.2 = r2 at *
        go_wp2_with fail
        go_quiet (fail)
        go_wp2_with fail
        go_ret
        exact ⟨by rw [HD.out]; rfl, by rw [World.drewN_drewN]; exact HBE.out _⟩
    · obtain rfl : j = n1 := by omega
      have HD : Hid (decide (l1 = l2) = true) := decide_eq_true (nd_ext (by rw [H1.out.len, H2.out.len]) (fun i hi => hall.out i (by have := H1.out.len; omega)))
      go_wp2_with fail
      go_ret
      exact ⟨by rw [HD.out]; rfl, HBE.out _⟩

set_option maxRecDepth 100000 in
set_option maxHeartbeats 16000000 in
theorem specBddOk_any (vi root : Int) (ao : Option Addr) (n cap : Nat) (ns : List Nd) (w : World) (hN : Nds w ao n cap ns) (h64 : ∀ q ∈ ns, I64N q) (hr : I64 root) (hnl : n ≤ 4194304) :
    Calls Try.prog 39 #[.agg #[.int .i64 vi, .slice ao n cap, .int .i64 root]] w fun e w' => e = .returned (.bool (bddB vi ns root)) ∧ Below w.heap.size w w' := by
  obtain ⟨W1, hW1⟩ : ∃ W1, W1 = w.alloc (.cells #[.int .i64 vi, .slice ao n cap, .int .i64 root] 25) := ⟨_, rfl⟩
  have HB1 : Hid (Below w.heap.size w W1) := by rw [hW1]; exact belOne _ _
  have HK := hideN (show BlkD W1 w.heap.size (.int .i64 vi) (.slice ao n cap) (.int .i64 root) by rw [hW1]; exact BlkD.new _ _ _ _)
  have HN := hideN (hN.below HB1.out)
  have HLEN := hideN hN.len
  have HI64 := hideN h64
  have HW1 := hideN hW1
  have c0 := HK.out.c0
  have c1 := HK.out.c1
  have c2 := HK.out.c2
  have c3 := HK.out.lt
  clear hN hW1 h64
  have HNG : Hid (∀ e : bddB vi ns root = false, True) := fun _ => trivial
  have HBF : Hid (goesB vi ns root = false → bddB vi ns root = false) := fun h => by unfold bddB; rw [h]; rfl
  go_enter Try.func39, Try.ntmps39
  go_wp2_with fail
  rw [← HW1.out]
  refine (l1In_any vi 0 6 _).mono ?_
  rintro e w' ⟨he, hw'⟩
  obtain rfl := hw'.symm
  obtain ⟨vb, hvb⟩ : ∃ vb, (decide ((0 : Int) ≤ vi) && decide (vi ≤ 6)) = vb := ⟨_, rfl⟩
  rw [hvb] at he
  subst he
  cases vb with
  | false =>
    have HF := hideN (HBF.out (by
      unfold goesB
      by_cases h0 : 0 ≤ vi
      · rw [decide_eq_true h0] at hvb
        have h1 : ¬ vi ≤ 6 := by simpa using hvb
        rw [decide_eq_false h1]; simp
      · rw [decide_eq_false h0]; rfl))
    clear hvb
    go_wp2_with fail
    go_ret
    exact ⟨by rw [HF.out]; rfl, HB1.out⟩
  | true =>
  have hvr : 0 ≤ vi ∧ vi ≤ 6 := by simpa using hvb
  obtain ⟨vars, rfl⟩ : ∃ v : Nat, vi = (v : Int) := ⟨vi.toNat, by omega⟩
  have h6 : vars ≤ 6 := by omega
  clear hvb hvr
  by_cases hn : 64 < n
  · have d2 : decide ((64 : Int) < (n : Int)) = true := by simp; omega
    have HF := hideN (HBF.out (by unfold goesB; rw [decide_eq_false (by have := HLEN.out; omega : ¬ ns.length ≤ 64)]; simp))
    go_wp2_with fail
    go_ret
    exact ⟨by rw [HF.out]; rfl, HB1.out⟩
  have d2 : decide ((64 : Int) < (n : Int)) = false := by simp; omega
  have hn64 : n ≤ 64 := by omega
  go_wp2_with fail
  refine (l1In_any root 0 ((n : Int) + 1) _).mono ?_
  rintro e w' ⟨he, hw'⟩
  obtain rfl := hw'.symm
  obtain ⟨rb, hrb⟩ : ∃ rb, (decide ((0 : Int) ≤ root) && decide (root ≤ (n : Int) + 1)) = rb := ⟨_, rfl⟩
  rw [hrb] at he
  subst he
  cases rb with
  | false =>
    have HF := hideN (HBF.out (by
      unfold goesB
      rw [HLEN.out]
      by_cases h0 : 0 ≤ root
      · rw [decide_eq_true h0] at hrb
        have h1 : ¬ root ≤ (n : Int) + 1 := by simpa using hrb
        rw [decide_eq_false (by omega : ¬ root < 2 + (n : Int))]; simp
      · rw [decide_eq_false h0]; simp))
    clear hrb
    go_wp2_with fail
    go_ret
    exact ⟨by rw [HF.out]; rfl, HB1.out⟩
  | true =>
  have hrr : 0 ≤ root ∧ root ≤ (n : Int) + 1 := by simpa using hrb
  obtain ⟨hr0, hr1⟩ := hrr
  have hr1n : root < 2 + (n : Int) := by omega
  clear hrb
  go_wp2_with fail
  refine (l11Nodes_any vars n cap root ao ns W1 h6 HN.out HI64.out hn64).mono ?_
  rintro e w1 ⟨rfl, hb1⟩
  have HB2 : Hid (Below W1.heap.size W1 w1) := hb1
  have HBw : Hid (Below w.heap.size w w1) := HB1.out.trans (hb1.mono HB1.out.size)
  clear hb1 c0 c1 c2 c3
  cases hall : (List.range n).all (nodeB vars ns) with
  | false =>
    have HF := hideN (HBF.out (by unfold goesB; rw [HLEN.out, hall]; simp))
    clear hall
    go_wp2_with fail
    go_ret
    exact ⟨by rw [HF.out]; rfl, HBw.out⟩
  | true =>
  have hgo : goesB (vars : Int) ns root = true := by
    unfold goesB
    rw [HLEN.out, hall, decide_eq_true (by omega : (0 : Int) ≤ (vars : Int)), decide_eq_true (by omega : (vars : Int) ≤ 6), decide_eq_true hn64, decide_eq_true hr0, decide_eq_true hr1n]; rfl
  have hok : ∀ i, i < n → nodeB (vars : Int) ns i = true := all_nodes.1 hall
  have HOK := hideN hok
  have HNF := hideN (nodes_fit h6 (by have := HLEN.out; omega) (fun i hi => hok i (by have := HLEN.out; omega)))
  obtain ⟨M, hM⟩ : ∃ M, 2 ^ vars = M := ⟨_, rfl⟩
  have hM64 : M ≤ 64 := by rw [← hM]; show _ ≤ 2 ^ 6; exact Nat.pow_le_pow_right (by decide) h6
  have HLF0 := hideN (drawB_fits vars 0 (tabN vars ns root) [] (by omega) (by simp; omega) (fun p hp => by simp at hp))
  have hdl := (drawB_len vars 0 (tabN vars ns root) []).2.1
  obtain ⟨l, hl⟩ : ∃ l, (drawB vars 0 (tabN vars ns root) []).1 = l := ⟨_, rfl⟩
  obtain ⟨x, hxx⟩ : ∃ x, (drawB vars 0 (tabN vars ns root) []).2 = x := ⟨_, rfl⟩
  have HRES : Hid (bddB (vars : Int) ns root = (decide (root = x) && decide (ns = l))) := by
    show _ = _
    unfold bddB
    rw [hgo, Int.toNat_natCast, ← hl, ← hxx, Bool.true_and]
    by_cases e1 : ns = (drawB vars 0 (tabN vars ns root) []).1
    · by_cases e2 : root = (drawB vars 0 (tabN vars ns root) []).2
      · rw [decide_eq_true e1, decide_eq_true e2, decide_eq_true (Prod.ext e1.symm e2.symm)]; rfl
      · rw [decide_eq_false e2, decide_eq_false (fun h => e2 (congrArg Prod.snd h).symm)]; rfl
    · rw [decide_eq_false e1, decide_eq_false (fun h => e1 (congrArg Prod.fst h).symm)]; simp
  have HLF : Hid (∀ p ∈ l, FitN p) := by rw [← hl]; exact HLF0.out
  have hll : l.length ≤ 64 := by rw [← hl]; simp at hdl; omega
  have HTL : Hid ((tabN vars ns root).length = M) := by show _ = _; rw [tabN_length, hM]
  have HCL := hideN (fun V (hV : Below W1.heap.size W1 V) => HK.out.cells hV)
  have HNV := hideN (fun V (hV : Below W1.heap.size W1 V) => HN.out.below hV)
  have HTA : Hid (∀ X, Below W1.heap.size W1 X → Calls Try.prog 88 #[.agg #[.int .i64 (vars : Int), .slice ao n cap, .int .i64 root]] X fun e w' => ∃ b c, e = .returned (.slice (some ⟨b, 0, none⟩) M c) ∧ Tab w' b 0 c (tabN vars ns root) ∧ b < w'.heap.size ∧ Below X.heap.size X w') := fun X hX => by
    refine (l11Table_any vars n cap root ao ns X h6 (HNV.out X hX) hn64 HOK.out hr0 hr1n).mono ?_
    rintro e w' ⟨b, c, rfl, hrow, hb⟩
    rw [hM] at hrow ⊢
    have hob : Ownb w' X.heap.size (.slice (some ⟨b, 0, none⟩) M c) (tabN vars ns root) := by unfold Ownb; rw [HTL.out, ← tabN_tabF, hM]; exact hrow
    refine ⟨b, c, rfl, ?_, (World.ownsRow.lt hrow b rfl).2, hb⟩
    obtain ⟨ao', cap', he, hc⟩ := hob.isBits
    injection he with e1 e2 e3
    subst e3
    refine ⟨?_, fun i hi => ?_⟩
    · rw [HTL.out]
      rcases hrow.2 with ⟨h5, _⟩ | ⟨g, cp, cur, h5, _, hh, hle, _⟩
      · cases h5
      · cases h5; exact hle
    · obtain ⟨b', off, ha, hcs⟩ := hc (by intro e; rw [e] at hi; simp at hi)
      rw [← e1] at ha
      cases ha
      exact hcs i hi
  have HDR : Hid (∀ X b c, Tab X b 0 c (tabN vars ns root) → b < X.heap.size → Calls Try.prog 62 #[.int .i64 (vars : Int), .slice (some ⟨b, 0, none⟩) M c] X (BddPost vars l x X)) := fun X b c hT hb => by
    have h := l11Of_any vars b 0 c M (tabN vars ns root) X h6 HTL.out hM.symm hT hb
    rw [hl, hxx] at h
    exact h
  clear hall hgo hok hl hxx hdl hM HLF0 d2
  go_wp2_with fail
  obtain ⟨z0, z1, z2⟩ := HCL.out w1.drew HB2.out.drew
  refine region_U (fin := 6) (S := fun V => V.cell? ⟨w.heap.size, 0, none⟩ = some (.int .i64 (vars : Int)) ∧ V.cell? ⟨w.heap.size, 1, none⟩ = some (.slice ao n cap) ∧ V.cell? ⟨w.heap.size, 2, none⟩ = some (.int .i64 root)) (by kernel_rfl) ⟨z0, z1, z2⟩ (fun hHeld => ?_)
  clear hHeld
  refine takeU (i := 0) (v := .agg #[.int .i64 (vars : Int), .slice ao n cap, .int .i64 root]) rfl (by rfl) (by kernel_rfl) (by kernel_rfl) (by kernel_rfl) (by kernel_rfl) (by kernel_rfl) (fun _ _ _ h => h) (Or.inl ⟨by rfl, fun w hS => by obtain ⟨z0, z1, z2⟩ := hS; go_simp⟩) ⟨z0, z1, z2⟩ ?_
  simp only [List.getElem_toArray, List.getElem_cons_zero, Act.put, List.setIfInBounds_toArray, List.set_cons_zero, List.set_cons_succ]
  refine takeU (i := 1) (v := .pointer (some ⟨w.heap.size, 0, none⟩)) rfl (by rfl) (by kernel_rfl) (by kernel_rfl) (by kernel_rfl) (by kernel_rfl) (by kernel_rfl) (fun _ _ _ h => h) (Or.inl ⟨by rfl, fun w hS => by obtain ⟨z0, z1, z2⟩ := hS; go_simp⟩) ⟨z0, z1, z2⟩ ?_
  simp only [List.getElem_toArray, List.getElem_cons_zero, List.getElem_cons_succ, Act.put, List.setIfInBounds_toArray, List.set_cons_zero, List.set_cons_succ]
  refine takeU (i := 2) (v := .int .i64 (vars : Int)) rfl (by rfl) (by kernel_rfl) (by kernel_rfl) (by kernel_rfl) (by kernel_rfl) (by kernel_rfl) (fun _ _ _ h => h) (Or.inl ⟨by rfl, fun w hS => by obtain ⟨z0, z1, z2⟩ := hS; go_simp⟩) ⟨z0, z1, z2⟩ ?_
  simp only [List.getElem_toArray, List.getElem_cons_zero, List.getElem_cons_succ, Act.put, List.setIfInBounds_toArray, List.set_cons_zero, List.set_cons_succ]
  refine takeU (i := 3) (v := .agg #[.int .i64 (vars : Int), .slice ao n cap, .int .i64 root]) rfl (by rfl) (by kernel_rfl) (by kernel_rfl) (by kernel_rfl) (by kernel_rfl) (by kernel_rfl) (fun _ _ _ h => h) (Or.inl ⟨by rfl, fun w hS => by obtain ⟨z0, z1, z2⟩ := hS; go_simp⟩) ⟨z0, z1, z2⟩ ?_
  simp only [List.getElem_toArray, List.getElem_cons_zero, List.getElem_cons_succ, Act.put, List.setIfInBounds_toArray, List.set_cons_zero, List.set_cons_succ]
  have HBd : Hid (Below W1.heap.size W1 w1.drew) := HB2.out.drew
  refine oneU (i := 4) (by kernel_rfl) rfl (by rfl) ?_
  simp only [List.getElem_toArray, List.getElem_cons_zero, List.getElem_cons_succ]
  go_simp
  refine (HTA.out w1.drew HBd.out).mono ?_
  rintro e x1 ⟨bt, ct, rfl, hT, hbt, hb⟩
  have HTX := hideN hT
  have HBx1 : Hid (Below W1.heap.size W1 x1) := belNext HBd.out hb
  clear hb hT z0 z1 z2
  obtain ⟨z0, z1, z2⟩ := HCL.out x1 HBx1.out
  refine ⟨⟨z0, z1, z2⟩, ?_⟩
  refine oneU (i := 5) (by kernel_rfl) rfl (by rfl) ?_
  simp only [List.getElem_toArray, List.getElem_cons_zero, List.getElem_cons_succ]
  go_simp
  refine (HDR.out x1 bt ct HTX.out hbt).mono ?_
  rintro e x2 ⟨aa, m, ca, rfl, hm, hrow, hb⟩
  have HROW := hideN hrow
  have HMM := hideN hm
  have hm100 : m ≤ 100 := by omega
  have HBx2 : Hid (Below W1.heap.size W1 x2) := belNext HBx1.out hb
  clear hb hrow hm z0 z1 z2
  obtain ⟨z0, z1, z2⟩ := HCL.out x2 HBx2.out
  refine ⟨⟨z0, z1, z2⟩, ?_⟩
  refine oneU (i := 6) (by kernel_rfl) rfl (by rfl) ?_
  simp only [List.getElem_toArray, List.getElem_cons_zero, List.getElem_cons_succ]
  go_simp
  refine (l11Same_any (vars : Int) root x ao aa n m cap ca ns l x2 (HNV.out x2 HBx2.out) (nds_row HROW.out HMM.out) HNF.out HLF.out (by omega) hm100).mono ?_
  rintro e x3 ⟨rfl, hb⟩
  have HBx3 : Hid (Below W1.heap.size W1 x3) := belNext HBx2.out hb
  clear hb z0 z1 z2
  refine oneU (i := 7) (by kernel_rfl) rfl (by rfl) ?_
  simp only [List.getElem_toArray, List.getElem_cons_zero, List.getElem_cons_succ]
  go_simp
  refine doneU (by kernel_rfl) ?_ _
  go_wp2_with fail
  go_ret
  exact ⟨by rw [HRES.out]; rfl, HB1.out.trans (HBx3.out.mono HB1.out.size)⟩

end Go.Proofs.Ytknpifjkllcdeaa

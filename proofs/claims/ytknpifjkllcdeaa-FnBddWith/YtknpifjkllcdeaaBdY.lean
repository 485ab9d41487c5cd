/-
  Diagrams: whether a diagram is in its form, by the program.
-/
import Derived.Test.YtknpifjkllcdeaaBdZ
namespace Go.Proofs.Ytknpifjkllcdeaa
open Go.RowKit Go.Deep
set_option linter.unusedVariables false

attribute [local go_sem] Oper.semAt_some

theorem drawB_fits (k : Nat) : ∀ (v : Nat) (t : List Bool) (ns : List Nd), v + k ≤ 6 → ns.length + 2 ^ k ≤ 65 → (∀ p ∈ ns, FitN p) → ∀ p ∈ (drawB k v t ns).1, FitN p := by
  induction k with
  | zero => intro v t ns _ _ h; exact h
  | succ k ih =>
    intro v t ns hv hl h
    have hp : 2 ^ (k + 1) = 2 ^ k + 2 ^ k := by rw [Nat.pow_succ]; omega
    obtain ⟨a1, a2, a3, a4⟩ := drawB_len k (v + 1) (t.take (2 ^ k)) ns
    obtain ⟨b1, b2, b3, b4⟩ := drawB_len k (v + 1) (t.drop (2 ^ k)) (drawB k (v + 1) (t.take (2 ^ k)) ns).1
    have h1 := ih (v + 1) (t.take (2 ^ k)) ns (by omega) (by omega) h
    have h2 := ih (v + 1) (t.drop (2 ^ k)) (drawB k (v + 1) (t.take (2 ^ k)) ns).1 (by omega) (by omega) h1
    rw [drawB]
    split
    · exact h2
    · unfold putB
      split
      · exact h2
      · intro p hp
        rcases List.mem_append.1 hp with h3 | h3
        · exact h2 p h3
        · rw [List.mem_singleton] at h3
          subst h3
          exact ⟨⟨by show (0 : Int) ≤ (v : Int); omega, by show (v : Int) ≤ 100; omega⟩, ⟨a3, by show (drawB k (v + 1) (t.take (2 ^ k)) ns).2 ≤ 1000; omega⟩, b3, by show (drawB k (v + 1) (t.drop (2 ^ k)) (drawB k (v + 1) (t.take (2 ^ k)) ns).1).2 ≤ 1000; omega⟩

theorem nodes_fit {vars : Nat} {ns : List Nd} (h6 : vars ≤ 6) (hl : ns.length ≤ 64) (hok : ∀ i, i < ns.length → nodeB vars ns i = true) : ∀ p ∈ ns, FitN p := by
  intro p hp
  obtain ⟨i, hi, rfl⟩ := List.getElem_of_mem hp
  have h := node_parts (hok i hi)
  have e : ns.getD i (0, 0, 0) = ns[i] := by simp [List.getD, hi]
  rw [e] at h
  exact ⟨⟨h.1, by omega⟩, ⟨h.2.2.1, by omega⟩, h.2.2.2.2.1, by omega⟩

theorem tabN_tabF (vars : Nat) (ns : List Nd) (root : Int) : tabF vars (isN ns root) (2 ^ vars) = tabN vars ns root := rfl

theorem goes_split {vars : Int} {ns : List Nd} {root : Int} (h : goesB vars ns root = true) : (0 ≤ vars ∧ vars ≤ 6 ∧ ns.length ≤ 64) ∧ (∀ i, i < ns.length → nodeB vars ns i = true) ∧ 0 ≤ root ∧ root < 2 + (ns.length : Int) := by
  unfold goesB at h
  simp only [Bool.and_eq_true, decide_eq_true_eq] at h
  exact ⟨⟨h.1.1, h.1.2.1, h.1.2.2⟩, all_nodes.1 h.2.1, h.2.2.1, h.2.2.2⟩

set_option maxRecDepth 100000 in
set_option maxHeartbeats 16000000 in
theorem implBddOk_any (vi root : Int) (ao : Option Addr) (n cap : Nat) (ns : List Nd) (w : World) (hN : Nds w ao n cap ns) (h64 : ∀ q ∈ ns, I64N q) (hr : I64 root) :
    Calls Try.prog 35 #[.agg #[.int .i64 vi, .slice ao n cap, .int .i64 root]] w fun e w' => e = .returned (.bool (bddB vi ns root)) ∧ Below w.heap.size w w' := by
  obtain ⟨W1, hW1⟩ : ∃ W1, W1 = w.alloc (.cells #[.int .i64 vi, .slice ao n cap, .int .i64 root] 25) := ⟨_, rfl⟩
  have HB1 : Hid (Below w.heap.size w W1) := by rw [hW1]; exact belOne _ _
  have HK := hideN (show BlkD W1 w.heap.size (.int .i64 vi) (.slice ao n cap) (.int .i64 root) by rw [hW1]; exact BlkD.new _ _ _ _)
  have HG := hideN (goesOn_any vi root ao n cap ns W1 (hN.below HB1.out) h64 hr)
  have HN := hideN (hN.below HB1.out)
  have HLEN := hideN hN.len
  have HW1 := hideN hW1
  have c0 := HK.out.c0
  have c1 := HK.out.c1
  have c2 := HK.out.c2
  have c3 := HK.out.lt
  clear hN hW1 h64
  cases hgo : goesB vi ns root with
  | false =>
    have HRES : Hid (bddB vi ns root = false) := by show _ = _; unfold bddB; rw [hgo]; rfl
    rw [hgo] at HG
    clear hgo
    go_enter Try.func35, Try.ntmps35
    go_wp2_with fail
    rw [← HW1.out]
    refine HG.out.mono ?_
    rintro e w1 ⟨rfl, hb⟩
    have HB : Hid (Below w.heap.size w w1) := HB1.out.trans (hb.mono HB1.out.size)
    clear hb c0 c1 c2 c3
    go_wp2_with fail
    go_ret
    exact ⟨by rw [HRES.out]; rfl, HB.out⟩
  | true =>
  obtain ⟨⟨hv0, hv6, hn64⟩, hok, hr0, hr1⟩ := goes_split hgo
  obtain ⟨vars, rfl⟩ : ∃ v : Nat, vi = (v : Int) := ⟨vi.toNat, by omega⟩
  have h6 : vars ≤ 6 := by omega
  have hn : n ≤ 64 := by rw [← HLEN.out]; exact hn64
  have hr1n : root < 2 + (n : Int) := by rw [← HLEN.out]; exact hr1
  have HOK : Hid (∀ i, i < n → nodeB (vars : Int) ns i = true) := fun i hi => hok i (by have := HLEN.out; omega)
  have HNF := hideN (nodes_fit h6 hn64 hok)
  obtain ⟨M, hM⟩ : ∃ M, 2 ^ vars = M := ⟨_, rfl⟩
  have hM64 : M ≤ 64 := by rw [← hM]; show _ ≤ 2 ^ 6; exact Nat.pow_le_pow_right (by decide) h6
  have HLF0 := hideN (drawB_fits vars 0 (tabN vars ns root) [] (by omega) (by simp; omega) (fun p hp => by simp at hp))
  have hdl := (drawB_len vars 0 (tabN vars ns root) []).2.1
  obtain ⟨l, hl⟩ : ∃ l, (drawB vars 0 (tabN vars ns root) []).1 = l := ⟨_, rfl⟩
  obtain ⟨x, hxx⟩ : ∃ x, (drawB vars 0 (tabN vars ns root) []).2 = x := ⟨_, rfl⟩
  have HRES : Hid (bddB (vars : Int) ns root = (decide (l = ns) && decide (x = root))) := by
    show _ = _
    unfold bddB
    rw [hgo, Int.toNat_natCast, ← hl, ← hxx, Bool.true_and]
    by_cases e1 : (drawB vars 0 (tabN vars ns root) []).1 = ns
    · by_cases e2 : (drawB vars 0 (tabN vars ns root) []).2 = root
      · rw [decide_eq_true e1, decide_eq_true e2, decide_eq_true (Prod.ext e1 e2)]; rfl
      · rw [decide_eq_false e2, decide_eq_false (fun h => e2 (congrArg Prod.snd h))]; simp
    · rw [decide_eq_false e1, decide_eq_false (fun h => e1 (congrArg Prod.fst h))]; rfl
  have HLF : Hid (∀ p ∈ l, FitN p) := by rw [← hl]; exact HLF0.out
  have hll : l.length ≤ 64 := by rw [← hl]; simp at hdl; omega
  have HTL : Hid ((tabN vars ns root).length = M) := by show _ = _; rw [tabN_length, hM]
  rw [hgo] at HG
  go_enter Try.func35, Try.ntmps35
  go_wp2_with fail
  rw [← HW1.out]
  refine HG.out.mono ?_
  rintro e w1 ⟨rfl, hb⟩
  have HBV1 : Hid (Below W1.heap.size W1 w1) := hb
  obtain ⟨V0, hV0⟩ : ∃ V0, V0 = w1.drew := ⟨_, rfl⟩
  have HBV : Hid (Below w.heap.size w V0) := by rw [hV0]; exact (HB1.out.trans (hb.mono HB1.out.size)).drew
  have HB10 : Hid (Below W1.heap.size W1 V0) := by rw [hV0]; exact belNext hb (below_drewN (Below.refl _ _) 1)
  have HK0 := hideN (HK.out.below HB10.out)
  have HNV := hideN (fun V (hV : Below V0.heap.size V0 V) => (HN.out.below HB10.out).below hV)
  have HCL := hideN (fun V (hV : Below V0.heap.size V0 V) => HK0.out.cells hV)
  have HSO : Hid (∀ X, Below V0.heap.size V0 X → Calls Try.prog 81 #[.agg #[.int .i64 (vars : Int), .slice ao n cap, .int .i64 root]] X fun e w' => ∃ fv, e = .returned fv ∧ SaysF w' fv vars (isN ns root) ∧ Below X.heap.size X w') := fun X hX => saysOf_any vars n cap root ao ns X (HNV.out X hX) hn HOK.out hr0 hr1n
  have HTA : Hid (∀ X fv, SaysF X fv vars (isN ns root) → Calls Try.prog 82 #[fv, .int .i64 (vars : Int)] X fun e w' => ∃ b c, e = .returned (.slice (some ⟨b, 0, none⟩) M c) ∧ Tab w' b 0 c (tabN vars ns root) ∧ b < w'.heap.size ∧ Below X.heap.size X w') := fun X fv hs => by
    refine (table_any vars (isN ns root) fv X h6 hs).mono ?_
    rintro e w' ⟨b, c, rfl, hrow, hb⟩
    rw [hM] at hrow ⊢
    have hob : Ownb w' X.heap.size (.slice (some ⟨b, 0, none⟩) M c) (tabN vars ns root) := by unfold Ownb; rw [HTL.out, ← tabN_tabF, hM]; exact hrow
    refine ⟨b, c, rfl, ?_, (World.ownsRow.lt hrow b rfl).2, hb⟩
    obtain ⟨ao', cap', he, hc⟩ := hob.isBits
    injection he with e1 e2 e3
    subst e3
    refine ⟨?_, fun i hi => ?_⟩
    · rw [HTL.out]
      rcases hrow.2 with ⟨h5, _⟩ | ⟨g, cp, cur, h5, _, hh, hle, _⟩
      · cases h5
      · cases h5; exact hle
    · obtain ⟨b', off, ha, hcs⟩ := hc (by intro e; rw [e] at hi; simp at hi)
      rw [← e1] at ha
      cases ha
      exact hcs i hi
  have HDR : Hid (∀ X b c, Tab X b 0 c (tabN vars ns root) → b < X.heap.size → Calls Try.prog 63 #[.int .i64 (vars : Int), .slice (some ⟨b, 0, none⟩) M c] X (BddPost vars l x X)) := fun X b c hT hb => by
    have h := drawnOf_any vars b 0 c M (tabN vars ns root) X h6 HTL.out hM.symm hT hb
    rw [hl, hxx] at h
    exact h
  have HV0S : Hid (V0.heap.size ≤ V0.heap.size) := Nat.le_refl _
  clear hgo hok hl hxx hdl hM HLF0 hb c0 c1 c2 c3 hv0 hv6 hn64 hr1
  have c0 := (HK.out.below HBV1.out).c0
  have c1 := (HK.out.below HBV1.out).c1
  have c2 := (HK.out.below HBV1.out).c2
  have c3 := (HK.out.below HBV1.out).lt
  go_wp2_with fail
  clear c0 c1 c2 c3
  obtain ⟨z0, z1, z2⟩ := HCL.out V0 (Below.refl _ _)
  refine region_U (fin := 7) (S := fun V => V.cell? ⟨w.heap.size, 0, none⟩ = some (.int .i64 (vars : Int)) ∧ V.cell? ⟨w.heap.size, 1, none⟩ = some (.slice ao n cap) ∧ V.cell? ⟨w.heap.size, 2, none⟩ = some (.int .i64 root)) (by kernel_rfl) (by rw [← hV0]; exact ⟨z0, z1, z2⟩) (fun hHeld => ?_)
  clear hHeld
  rw [← hV0]
  clear hV0
  have HBx0 : Hid (Below V0.heap.size V0 V0) := Below.refl _ _
  obtain ⟨x0, hx0⟩ : ∃ x0, x0 = V0 := ⟨_, rfl⟩
  rw [← hx0]
  have HBx0 : Hid (Below V0.heap.size V0 x0) := by rw [hx0]; exact Below.refl _ _
  rw [← hx0] at z0 z1 z2
  clear hx0
  refine takeU (i := 0) (v := .pointer (some ⟨w.heap.size, 0, none⟩)) rfl (by rfl) (by kernel_rfl) (by kernel_rfl) (by kernel_rfl) (by kernel_rfl) (by kernel_rfl) (fun _ _ _ h => h) (Or.inl ⟨by rfl, fun w hS => by obtain ⟨z0, z1, z2⟩ := hS; go_simp⟩) ⟨z0, z1, z2⟩ ?_
  simp only [List.getElem_toArray, List.getElem_cons_zero, Act.put, List.setIfInBounds_toArray, List.set_cons_zero, List.set_cons_succ]
  refine takeU (i := 1) (v := .int .i64 (vars : Int)) rfl (by rfl) (by kernel_rfl) (by kernel_rfl) (by kernel_rfl) (by kernel_rfl) (by kernel_rfl) (fun _ _ _ h => h) (Or.inl ⟨by rfl, fun w hS => by obtain ⟨z0, z1, z2⟩ := hS; go_simp⟩) ⟨z0, z1, z2⟩ ?_
  simp only [List.getElem_toArray, List.getElem_cons_zero, List.getElem_cons_succ, Act.put, List.setIfInBounds_toArray, List.set_cons_zero, List.set_cons_succ]
  refine takeU (i := 2) (v := .agg #[.int .i64 (vars : Int), .slice ao n cap, .int .i64 root]) rfl (by rfl) (by kernel_rfl) (by kernel_rfl) (by kernel_rfl) (by kernel_rfl) (by kernel_rfl) (fun _ _ _ h => h) (Or.inl ⟨by rfl, fun w hS => by obtain ⟨z0, z1, z2⟩ := hS; go_simp⟩) ⟨z0, z1, z2⟩ ?_
  simp only [List.getElem_toArray, List.getElem_cons_zero, List.getElem_cons_succ, Act.put, List.setIfInBounds_toArray, List.set_cons_zero, List.set_cons_succ]
  refine takeU (i := 4) (v := .pointer (some ⟨w.heap.size, 0, none⟩)) rfl (by rfl) (by kernel_rfl) (by kernel_rfl) (by kernel_rfl) (by kernel_rfl) (by kernel_rfl) (fun _ _ _ h => h) (Or.inl ⟨by rfl, fun w hS => by obtain ⟨z0, z1, z2⟩ := hS; go_simp⟩) ⟨z0, z1, z2⟩ ?_
  simp only [List.getElem_toArray, List.getElem_cons_zero, List.getElem_cons_succ, Act.put, List.setIfInBounds_toArray, List.set_cons_zero, List.set_cons_succ]
  refine takeU (i := 5) (v := .int .i64 (vars : Int)) rfl (by rfl) (by kernel_rfl) (by kernel_rfl) (by kernel_rfl) (by kernel_rfl) (by kernel_rfl) (fun _ _ _ h => h) (Or.inl ⟨by rfl, fun w hS => by obtain ⟨z0, z1, z2⟩ := hS; go_simp⟩) ⟨z0, z1, z2⟩ ?_
  simp only [List.getElem_toArray, List.getElem_cons_zero, List.getElem_cons_succ, Act.put, List.setIfInBounds_toArray, List.set_cons_zero, List.set_cons_succ]
  refine twoU (i := 3) (j := 8) (by kernel_rfl) rfl rfl (by rfl) (by rfl) ?_ ?_
  · simp only [List.getElem_toArray, List.getElem_cons_zero, List.getElem_cons_succ]
    go_simp
    refine (HSO.out x0 HBx0.out).mono ?_
    rintro e x1 ⟨fv, rfl, hs, hb⟩
    have HSX := hideN hs
    obtain ⟨F, bs, rfl, -⟩ := hs
    have HBx1 : Hid (Below V0.heap.size V0 x1) := belNext HBx0.out hb
    clear hb
    clear z0 z1 z2
    obtain ⟨z0, z1, z2⟩ := HCL.out x1 HBx1.out
    refine ⟨⟨z0, z1, z2⟩, ?_⟩
    refine twoU (i := 6) (j := 8) (by kernel_rfl) rfl rfl (by rfl) (by rfl) ?_ ?_
    · simp only [List.getElem_toArray, List.getElem_cons_zero, List.getElem_cons_succ]
      go_simp
      refine (HTA.out x1 _ HSX.out).mono ?_
      rintro e x2 ⟨bt, ct, rfl, hT, hbt, hb⟩
      have HTX := hideN hT
      have HBx2 : Hid (Below V0.heap.size V0 x2) := belNext HBx1.out hb
      clear hb
      clear z0 z1 z2
      obtain ⟨z0, z1, z2⟩ := HCL.out x2 HBx2.out
      refine ⟨⟨z0, z1, z2⟩, ?_⟩
      refine twoU (i := 7) (j := 8) (by kernel_rfl) rfl rfl (by rfl) (by rfl) ?_ ?_
      · simp only [List.getElem_toArray, List.getElem_cons_zero, List.getElem_cons_succ]
        go_simp
        refine (HDR.out x2 bt ct HTX.out (by omega)).mono ?_
        rintro e x3 ⟨aa, m, ca, rfl, hm, hrow, hb⟩
        have HROW := hideN hrow
        have HMM := hideN hm
        have HBx3 : Hid (Below V0.heap.size V0 x3) := belNext HBx2.out hb
        have hszA := hb.size
        clear hb
        clear z0 z1 z2
        obtain ⟨z0, z1, z2⟩ := HCL.out x3 HBx3.out
        clear z0 z1 z2
        obtain ⟨z0, z1, z2⟩ := HCL.out (x3.alloc (.cells #[.int .i64 0, .slice none 0 0, .int .i64 0] 25)) (belNext HBx3.out (belOne _ _))
        refine oneU (i := 8) (by kernel_rfl) rfl (by rfl) ?_
        simp only [List.getElem_toArray, List.getElem_cons_zero, List.getElem_cons_succ]
        go_simp
        obtain ⟨x4, hx4⟩ : ∃ W, W = x3.alloc (.cells #[.int .i64 0, .slice none 0 0, .int .i64 0] 25) := ⟨_, rfl⟩
        try rw [← hx4]
        have HAx4 : Hid (BlkD x4 x3.heap.size (.int .i64 0) (.slice none 0 0) (.int .i64 0)) := by rw [hx4]; exact BlkD.new _ _ _ _
        have HBx4 : Hid (Below V0.heap.size V0 x4) := by rw [hx4]; exact belNext HBx3.out (belOne _ _)
        have HROW2 := HROW
        have HROW := hideN (row_below HROW2.out (by rw [hx4]; exact belOne _ _ : Below x3.heap.size x3 x4))
        have hVA : V0.heap.size ≤ x3.heap.size := HBx3.out.size
        clear hx4 z0 z1 z2
        obtain ⟨z0, z1, z2⟩ := HCL.out x4 HBx4.out
        have m0 := HAx4.out.c0
        have m1 := HAx4.out.c1
        have m2 := HAx4.out.c2
        have m3 := HAx4.out.f 0
        have m4 := HAx4.out.f 1
        have m5 := HAx4.out.f 2
        have m6 := HAx4.out.lt
        have HFM := hideN (HAx4.out.set (.int .i64 (vars : Int)) (.slice aa m ca) (.int .i64 x))
        have HRWF : Hid ((set3 x4 x3.heap.size (.int .i64 (vars : Int)) (.slice aa m ca) (.int .i64 x)).ownsRow V0.heap.size 50 3 (.slice aa m ca) m (ndV l)) := row_of_block (row_base HROW.out HBx2.out.size) (fun k e => set3_other _ _ _ (fun e2 => row_ne HROW.out HAx4.out (by decide) (by rw [e, e2])))
        have HBWF : Hid (Below V0.heap.size V0 (set3 x4 x3.heap.size (.int .i64 (vars : Int)) (.slice aa m ca) (.int .i64 x))) := set3_below HBx4.out hVA _ _ _
        refine oneU (i := 9) (by kernel_rfl) rfl (by rfl) ?_
        simp only [List.getElem_toArray, List.getElem_cons_zero, List.getElem_cons_succ]
        go_simp
        refine doneU (by kernel_rfl) ?_ _
        generalize hWF : ((x4.setCell ⟨x3.heap.size, 0, none⟩ (.int .i64 (vars : Int))).setCell ⟨x3.heap.size, 1, none⟩ (.slice aa m ca)).setCell ⟨x3.heap.size, 2, none⟩ (.int .i64 x) = WF
        have HFM : Hid (BlkD WF x3.heap.size (.int .i64 (vars : Int)) (.slice aa m ca) (.int .i64 x)) := by rw [← hWF]; exact HFM
        have HRWF : Hid (WF.ownsRow V0.heap.size 50 3 (.slice aa m ca) m (ndV l)) := by rw [← hWF]; exact HRWF
        have HBWF : Hid (Below V0.heap.size V0 WF) := by rw [← hWF]; exact HBWF
        clear hWF m0 m1 m2 m3 m4 m5 m6 z0 z1 z2
        have f0 := HFM.out.c1
        have f1 := HFM.out.c2
        have f2 := HFM.out.lt
        obtain ⟨z0, z1, z2⟩ := HCL.out WF HBWF.out
        have z3 := Nat.lt_of_lt_of_le HK0.out.lt HBWF.out.size
        by_cases hx : x = root
        · have e0 : (x == root) = true := by simpa using hx
          go_wp2_with fail
          refine (equalNds_any aa ao m n ca cap l ns WF (nds_row HRWF.out HMM.out) (HNV.out WF HBWF.out) HLF.out HNF.out (by omega) (by omega)).mono ?_
          rintro e w' ⟨rfl, q, rfl⟩
          go_wp2_with fail
          go_ret
          exact ⟨by rw [HRES.out, decide_eq_true hx, Bool.and_true]; rfl, HBV.out.trans ((belNext HBWF.out (below_drewN (Below.refl _ _) _)).mono HBV.out.size)⟩
        · have e0 : (x == root) = false := by simpa using hx
          go_wp2_with fail
          go_ret
          exact ⟨by rw [HRES.out, decide_eq_false hx, Bool.and_false]; rfl, HBV.out.trans (HBWF.out.mono HBV.out.size)⟩
      · simp only [List.getElem_toArray, List.getElem_cons_zero, List.getElem_cons_succ]
        clear z0 z1 z2
        obtain ⟨z0, z1, z2⟩ := HCL.out (x2.alloc (.cells #[.int .i64 0, .slice none 0 0, .int .i64 0] 25)) (belNext HBx2.out (belOne _ _))
        go_simp
        obtain ⟨x5, hx5⟩ : ∃ W, W = x2.alloc (.cells #[.int .i64 0, .slice none 0 0, .int .i64 0] 25) := ⟨_, rfl⟩
        try rw [← hx5]
        have HAx5 : Hid (BlkD x5 x2.heap.size (.int .i64 0) (.slice none 0 0) (.int .i64 0)) := by rw [hx5]; exact BlkD.new _ _ _ _
        have HBx5 : Hid (Below V0.heap.size V0 x5) := by rw [hx5]; exact belNext HBx2.out (belOne _ _)
        have HTX2 := HTX
        have HTX := hideN (HTX2.out.below hbt (by rw [hx5]; exact belOne _ _ : Below x2.heap.size x2 x5))
        have hszt : x2.heap.size ≤ x5.heap.size := by rw [hx5]; simp
        have hVA : V0.heap.size ≤ x2.heap.size := HBx2.out.size
        clear hx5 z0 z1 z2
        obtain ⟨z0, z1, z2⟩ := HCL.out x5 HBx5.out
        refine oneU (i := 7) (by kernel_rfl) rfl (by rfl) ?_
        simp only [List.getElem_toArray, List.getElem_cons_zero, List.getElem_cons_succ]
        go_simp
        refine (HDR.out x5 bt ct HTX.out (by omega)).mono ?_
        rintro e x6 ⟨aa, m, ca, rfl, hm, hrow, hb⟩
        have HROW := hideN hrow
        have HMM := hideN hm
        have HBx6 : Hid (Below V0.heap.size V0 x6) := belNext HBx5.out hb
        have HAx6 : Hid (BlkD x6 x2.heap.size (.int .i64 0) (.slice none 0 0) (.int .i64 0)) := HAx5.out.below hb
        have hszA := hb.size
        clear hb
        clear z0 z1 z2
        obtain ⟨z0, z1, z2⟩ := HCL.out x6 HBx6.out
        have m0 := HAx6.out.c0
        have m1 := HAx6.out.c1
        have m2 := HAx6.out.c2
        have m3 := HAx6.out.f 0
        have m4 := HAx6.out.f 1
        have m5 := HAx6.out.f 2
        have m6 := HAx6.out.lt
        have HFM := hideN (HAx6.out.set (.int .i64 (vars : Int)) (.slice aa m ca) (.int .i64 x))
        have HRWF : Hid ((set3 x6 x2.heap.size (.int .i64 (vars : Int)) (.slice aa m ca) (.int .i64 x)).ownsRow V0.heap.size 50 3 (.slice aa m ca) m (ndV l)) := row_of_block (row_base HROW.out HBx5.out.size) (fun k e => set3_other _ _ _ (fun e2 => row_ne HROW.out HAx6.out (by decide) (by rw [e, e2])))
        have HBWF : Hid (Below V0.heap.size V0 (set3 x6 x2.heap.size (.int .i64 (vars : Int)) (.slice aa m ca) (.int .i64 x))) := set3_below HBx6.out hVA _ _ _
        refine oneU (i := 9) (by kernel_rfl) rfl (by rfl) ?_
        simp only [List.getElem_toArray, List.getElem_cons_zero, List.getElem_cons_succ]
        go_simp
        refine doneU (by kernel_rfl) ?_ _
        generalize hWF : ((x6.setCell ⟨x2.heap.size, 0, none⟩ (.int .i64 (vars : Int))).setCell ⟨x2.heap.size, 1, none⟩ (.slice aa m ca)).setCell ⟨x2.heap.size, 2, none⟩ (.int .i64 x) = WF
        have HFM : Hid (BlkD WF x2.heap.size (.int .i64 (vars : Int)) (.slice aa m ca) (.int .i64 x)) := by rw [← hWF]; exact HFM
        have HRWF : Hid (WF.ownsRow V0.heap.size 50 3 (.slice aa m ca) m (ndV l)) := by rw [← hWF]; exact HRWF
        have HBWF : Hid (Below V0.heap.size V0 WF) := by rw [← hWF]; exact HBWF
        clear hWF m0 m1 m2 m3 m4 m5 m6 z0 z1 z2
        have f0 := HFM.out.c1
        have f1 := HFM.out.c2
        have f2 := HFM.out.lt
        obtain ⟨z0, z1, z2⟩ := HCL.out WF HBWF.out
        have z3 := Nat.lt_of_lt_of_le HK0.out.lt HBWF.out.size
        by_cases hx : x = root
        · have e0 : (x == root) = true := by simpa using hx
          go_wp2_with fail
          refine (equalNds_any aa ao m n ca cap l ns WF (nds_row HRWF.out HMM.out) (HNV.out WF HBWF.out) HLF.out HNF.out (by omega) (by omega)).mono ?_
          rintro e w' ⟨rfl, q, rfl⟩
          go_wp2_with fail
          go_ret
          exact ⟨by rw [HRES.out, decide_eq_true hx, Bool.and_true]; rfl, HBV.out.trans ((belNext HBWF.out (below_drewN (Below.refl _ _) _)).mono HBV.out.size)⟩
        · have e0 : (x == root) = false := by simpa using hx
          go_wp2_with fail
          go_ret
          exact ⟨by rw [HRES.out, decide_eq_false hx, Bool.and_false]; rfl, HBV.out.trans (HBWF.out.mono HBV.out.size)⟩
    · simp only [List.getElem_toArray, List.getElem_cons_zero, List.getElem_cons_succ]
      clear z0 z1 z2
      obtain ⟨z0, z1, z2⟩ := HCL.out (x1.alloc (.cells #[.int .i64 0, .slice none 0 0, .int .i64 0] 25)) (belNext HBx1.out (belOne _ _))
      go_simp
      obtain ⟨x7, hx7⟩ : ∃ W, W = x1.alloc (.cells #[.int .i64 0, .slice none 0 0, .int .i64 0] 25) := ⟨_, rfl⟩
      try rw [← hx7]
      have HAx7 : Hid (BlkD x7 x1.heap.size (.int .i64 0) (.slice none 0 0) (.int .i64 0)) := by rw [hx7]; exact BlkD.new _ _ _ _
      have HBx7 : Hid (Below V0.heap.size V0 x7) := by rw [hx7]; exact belNext HBx1.out (belOne _ _)
      have HSX2 := HSX
      have HSX := hideN (HSX2.out.below (by rw [hx7]; exact belOne _ _ : Below x1.heap.size x1 x7))
      have hVA : V0.heap.size ≤ x1.heap.size := HBx1.out.size
      clear hx7 z0 z1 z2
      obtain ⟨z0, z1, z2⟩ := HCL.out x7 HBx7.out
      refine oneU (i := 6) (by kernel_rfl) rfl (by rfl) ?_
      simp only [List.getElem_toArray, List.getElem_cons_zero, List.getElem_cons_succ]
      go_simp
      refine (HTA.out x7 _ HSX.out).mono ?_
      rintro e x8 ⟨bt, ct, rfl, hT, hbt, hb⟩
      have HTX := hideN hT
      have HBx8 : Hid (Below V0.heap.size V0 x8) := belNext HBx7.out hb
      have HAx8 : Hid (BlkD x8 x1.heap.size (.int .i64 0) (.slice none 0 0) (.int .i64 0)) := HAx7.out.below hb
      clear hb
      clear z0 z1 z2
      obtain ⟨z0, z1, z2⟩ := HCL.out x8 HBx8.out
      refine ⟨⟨z0, z1, z2⟩, ?_⟩
      refine oneU (i := 7) (by kernel_rfl) rfl (by rfl) ?_
      simp only [List.getElem_toArray, List.getElem_cons_zero, List.getElem_cons_succ]
      go_simp
      refine (HDR.out x8 bt ct HTX.out (by omega)).mono ?_
      rintro e x9 ⟨aa, m, ca, rfl, hm, hrow, hb⟩
      have HROW := hideN hrow
      have HMM := hideN hm
      have HBx9 : Hid (Below V0.heap.size V0 x9) := belNext HBx8.out hb
      have HAx9 : Hid (BlkD x9 x1.heap.size (.int .i64 0) (.slice none 0 0) (.int .i64 0)) := HAx8.out.below hb
      have hszA := hb.size
      clear hb
      clear z0 z1 z2
      obtain ⟨z0, z1, z2⟩ := HCL.out x9 HBx9.out
      have m0 := HAx9.out.c0
      have m1 := HAx9.out.c1
      have m2 := HAx9.out.c2
      have m3 := HAx9.out.f 0
      have m4 := HAx9.out.f 1
      have m5 := HAx9.out.f 2
      have m6 := HAx9.out.lt
      have HFM := hideN (HAx9.out.set (.int .i64 (vars : Int)) (.slice aa m ca) (.int .i64 x))
      have HRWF : Hid ((set3 x9 x1.heap.size (.int .i64 (vars : Int)) (.slice aa m ca) (.int .i64 x)).ownsRow V0.heap.size 50 3 (.slice aa m ca) m (ndV l)) := row_of_block (row_base HROW.out HBx8.out.size) (fun k e => set3_other _ _ _ (fun e2 => row_ne HROW.out HAx9.out (by decide) (by rw [e, e2])))
      have HBWF : Hid (Below V0.heap.size V0 (set3 x9 x1.heap.size (.int .i64 (vars : Int)) (.slice aa m ca) (.int .i64 x))) := set3_below HBx9.out hVA _ _ _
      refine oneU (i := 9) (by kernel_rfl) rfl (by rfl) ?_
      simp only [List.getElem_toArray, List.getElem_cons_zero, List.getElem_cons_succ]
      go_simp
      refine doneU (by kernel_rfl) ?_ _
      generalize hWF : ((x9.setCell ⟨x1.heap.size, 0, none⟩ (.int .i64 (vars : Int))).setCell ⟨x1.heap.size, 1, none⟩ (.slice aa m ca)).setCell ⟨x1.heap.size, 2, none⟩ (.int .i64 x) = WF
      have HFM : Hid (BlkD WF x1.heap.size (.int .i64 (vars : Int)) (.slice aa m ca) (.int .i64 x)) := by rw [← hWF]; exact HFM
      have HRWF : Hid (WF.ownsRow V0.heap.size 50 3 (.slice aa m ca) m (ndV l)) := by rw [← hWF]; exact HRWF
      have HBWF : Hid (Below V0.heap.size V0 WF) := by rw [← hWF]; exact HBWF
      clear hWF m0 m1 m2 m3 m4 m5 m6 z0 z1 z2
      have f0 := HFM.out.c1
      have f1 := HFM.out.c2
      have f2 := HFM.out.lt
      obtain ⟨z0, z1, z2⟩ := HCL.out WF HBWF.out
      have z3 := Nat.lt_of_lt_of_le HK0.out.lt HBWF.out.size
      by_cases hx : x = root
      · have e0 : (x == root) = true := by simpa using hx
        go_wp2_with fail
        refine (equalNds_any aa ao m n ca cap l ns WF (nds_row HRWF.out HMM.out) (HNV.out WF HBWF.out) HLF.out HNF.out (by omega) (by omega)).mono ?_
        rintro e w' ⟨rfl, q, rfl⟩
        go_wp2_with fail
        go_ret
        exact ⟨by rw [HRES.out, decide_eq_true hx, Bool.and_true]; rfl, HBV.out.trans ((belNext HBWF.out (below_drewN (Below.refl _ _) _)).mono HBV.out.size)⟩
      · have e0 : (x == root) = false := by simpa using hx
        go_wp2_with fail
        go_ret
        exact ⟨by rw [HRES.out, decide_eq_false hx, Bool.and_false]; rfl, HBV.out.trans (HBWF.out.mono HBV.out.size)⟩
  · simp only [List.getElem_toArray, List.getElem_cons_zero, List.getElem_cons_succ]
    clear z0 z1 z2
    obtain ⟨z0, z1, z2⟩ := HCL.out (x0.alloc (.cells #[.int .i64 0, .slice none 0 0, .int .i64 0] 25)) (belNext HBx0.out (belOne _ _))
    go_simp
    obtain ⟨x10, hx10⟩ : ∃ W, W = x0.alloc (.cells #[.int .i64 0, .slice none 0 0, .int .i64 0] 25) := ⟨_, rfl⟩
    try rw [← hx10]
    have HAx10 : Hid (BlkD x10 x0.heap.size (.int .i64 0) (.slice none 0 0) (.int .i64 0)) := by rw [hx10]; exact BlkD.new _ _ _ _
    have HBx10 : Hid (Below V0.heap.size V0 x10) := by rw [hx10]; exact belNext HBx0.out (belOne _ _)
    have hVA : V0.heap.size ≤ x0.heap.size := HBx0.out.size
    clear hx10 z0 z1 z2
    obtain ⟨z0, z1, z2⟩ := HCL.out x10 HBx10.out
    refine oneU (i := 3) (by kernel_rfl) rfl (by rfl) ?_
    simp only [List.getElem_toArray, List.getElem_cons_zero, List.getElem_cons_succ]
    go_simp
    refine (HSO.out x10 HBx10.out).mono ?_
    rintro e x11 ⟨fv, rfl, hs, hb⟩
    have HSX := hideN hs
    obtain ⟨F, bs, rfl, -⟩ := hs
    have HBx11 : Hid (Below V0.heap.size V0 x11) := belNext HBx10.out hb
    have HAx11 : Hid (BlkD x11 x0.heap.size (.int .i64 0) (.slice none 0 0) (.int .i64 0)) := HAx10.out.below hb
    clear hb
    clear z0 z1 z2
    obtain ⟨z0, z1, z2⟩ := HCL.out x11 HBx11.out
    refine ⟨⟨z0, z1, z2⟩, ?_⟩
    refine oneU (i := 6) (by kernel_rfl) rfl (by rfl) ?_
    simp only [List.getElem_toArray, List.getElem_cons_zero, List.getElem_cons_succ]
    go_simp
    refine (HTA.out x11 _ HSX.out).mono ?_
    rintro e x12 ⟨bt, ct, rfl, hT, hbt, hb⟩
    have HTX := hideN hT
    have HBx12 : Hid (Below V0.heap.size V0 x12) := belNext HBx11.out hb
    have HAx12 : Hid (BlkD x12 x0.heap.size (.int .i64 0) (.slice none 0 0) (.int .i64 0)) := HAx11.out.below hb
    clear hb
    clear z0 z1 z2
    obtain ⟨z0, z1, z2⟩ := HCL.out x12 HBx12.out
    refine ⟨⟨z0, z1, z2⟩, ?_⟩
    refine oneU (i := 7) (by kernel_rfl) rfl (by rfl) ?_
    simp only [List.getElem_toArray, List.getElem_cons_zero, List.getElem_cons_succ]
    go_simp
    refine (HDR.out x12 bt ct HTX.out (by omega)).mono ?_
    rintro e x13 ⟨aa, m, ca, rfl, hm, hrow, hb⟩
    have HROW := hideN hrow
    have HMM := hideN hm
    have HBx13 : Hid (Below V0.heap.size V0 x13) := belNext HBx12.out hb
    have HAx13 : Hid (BlkD x13 x0.heap.size (.int .i64 0) (.slice none 0 0) (.int .i64 0)) := HAx12.out.below hb
    have hszA := hb.size
    clear hb
    clear z0 z1 z2
    obtain ⟨z0, z1, z2⟩ := HCL.out x13 HBx13.out
    have m0 := HAx13.out.c0
    have m1 := HAx13.out.c1
    have m2 := HAx13.out.c2
    have m3 := HAx13.out.f 0
    have m4 := HAx13.out.f 1
    have m5 := HAx13.out.f 2
    have m6 := HAx13.out.lt
    have HFM := hideN (HAx13.out.set (.int .i64 (vars : Int)) (.slice aa m ca) (.int .i64 x))
    have HRWF : Hid ((set3 x13 x0.heap.size (.int .i64 (vars : Int)) (.slice aa m ca) (.int .i64 x)).ownsRow V0.heap.size 50 3 (.slice aa m ca) m (ndV l)) := row_of_block (row_base HROW.out HBx12.out.size) (fun k e => set3_other _ _ _ (fun e2 => row_ne HROW.out HAx13.out (by decide) (by rw [e, e2])))
    have HBWF : Hid (Below V0.heap.size V0 (set3 x13 x0.heap.size (.int .i64 (vars : Int)) (.slice aa m ca) (.int .i64 x))) := set3_below HBx13.out hVA _ _ _
    refine oneU (i := 9) (by kernel_rfl) rfl (by rfl) ?_
    simp only [List.getElem_toArray, List.getElem_cons_zero, List.getElem_cons_succ]
    go_simp
    refine doneU (by kernel_rfl) ?_ _
    generalize hWF : ((x13.setCell ⟨x0.heap.size, 0, none⟩ (.int .i64 (vars : Int))).setCell ⟨x0.heap.size, 1, none⟩ (.slice aa m ca)).setCell ⟨x0.heap.size, 2, none⟩ (.int .i64 x) = WF
    have HFM : Hid (BlkD WF x0.heap.size (.int .i64 (vars : Int)) (.slice aa m ca) (.int .i64 x)) := by rw [← hWF]; exact HFM
    have HRWF : Hid (WF.ownsRow V0.heap.size 50 3 (.slice aa m ca) m (ndV l)) := by rw [← hWF]; exact HRWF
    have HBWF : Hid (Below V0.heap.size V0 WF) := by rw [← hWF]; exact HBWF
    clear hWF m0 m1 m2 m3 m4 m5 m6 z0 z1 z2
    have f0 := HFM.out.c1
    have f1 := HFM.out.c2
    have f2 := HFM.out.lt
    obtain ⟨z0, z1, z2⟩ := HCL.out WF HBWF.out
    have z3 := Nat.lt_of_lt_of_le HK0.out.lt HBWF.out.size
    by_cases hx : x = root
    · have e0 : (x == root) = true := by simpa using hx
      go_wp2_with fail
      refine (equalNds_any aa ao m n ca cap l ns WF (nds_row HRWF.out HMM.out) (HNV.out WF HBWF.out) HLF.out HNF.out (by omega) (by omega)).mono ?_
      rintro e w' ⟨rfl, q, rfl⟩
      go_wp2_with fail
      go_ret
      exact ⟨by rw [HRES.out, decide_eq_true hx, Bool.and_true]; rfl, HBV.out.trans ((belNext HBWF.out (below_drewN (Below.refl _ _) _)).mono HBV.out.size)⟩
    · have e0 : (x == root) = false := by simpa using hx
      go_wp2_with fail
      go_ret
      exact ⟨by rw [HRES.out, decide_eq_false hx, Bool.and_false]; rfl, HBV.out.trans (HBWF.out.mono HBV.out.size)⟩

end Go.Proofs.Ytknpifjkllcdeaa

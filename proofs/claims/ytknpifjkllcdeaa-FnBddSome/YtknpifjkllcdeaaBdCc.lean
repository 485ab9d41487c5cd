/-
  How many ways a diagram has: BddCount, of the program and of the model.
-/
import Derived.Test.YtknpifjkllcdeaaBdCb
import Derived.Test.YtknpifjkllcdeaaBdNp
namespace Go.Proofs.Ytknpifjkllcdeaa
open Go.RowKit Go.Deep
set_option linter.unusedVariables false

attribute [local go_sem] Oper.semAt_some

/-- How many ways a diagram has; of what is none in its form, one fewer than none. -/
def countZ (vi : Int) (ns : List Nd) (root : Int) : Int := if bddB vi ns root = true then (cntW vi.toNat (isN ns root) : Int) else -1

set_option maxHeartbeats 1000000 in
theorem half_any (x y z a b : Int) (W : World) (ha : 0 ≤ a) (ha2 : a ≤ 64) (hb : 0 ≤ b) (hb2 : b ≤ 64) :
    Calls Try.prog 92 #[.agg #[.int .i64 x, .int .i64 y, .int .i64 z], .int .i64 a, .int .i64 b] W fun e w' => e = .returned (.int .i64 ((a + b) / 2)) ∧ Below W.heap.size W w' := by
  have hq : (a + b).tdiv 2 = (a + b) / 2 := Int.tdiv_eq_ediv_of_nonneg (by omega)
  have HQ := hideN hq
  have HB : Hid (∀ o, Below W.heap.size W (W.alloc o)) := fun o => belOne _ _
  clear hq
  go_enter Try.func92, Try.ntmps92
  go_wp2
  go_ret
  exact ⟨by rw [← HQ.out]; rfl, HB.out _⟩

theorem half_says (w : World) (vars : Nat) : SayI w 92 #[] vars halfF :=
  ⟨fun args W => enters_of Try.func92 (by kernel_rfl) rfl args W, fun W _ x y z a b _ h1 h2 h3 h4 => half_any _ y z a b W h1 h2 h3 h4⟩

set_option maxRecDepth 100000 in
set_option maxHeartbeats 8000000 in
theorem implBddCount_any (vi root : Int) (ao : Option Addr) (n cap : Nat) (ns : List Nd) (w : World) (hN : Nds w ao n cap ns) (h64 : ∀ q ∈ ns, I64N q) (hr : I64 root) :
    Calls Try.prog 46 #[.agg #[.int .i64 vi, .slice ao n cap, .int .i64 root]] w fun e w' => e = .returned (.int .i64 (countZ vi ns root)) ∧ Below w.heap.size w w' := by
  obtain ⟨W1, hW1⟩ : ∃ W1, W1 = w.alloc (.cells #[.int .i64 vi, .slice ao n cap, .int .i64 root] 25) := ⟨_, rfl⟩
  have HB1 : Hid (Below w.heap.size w W1) := by rw [hW1]; exact belOne _ _
  have HK := hideN (show BlkD W1 w.heap.size (.int .i64 vi) (.slice ao n cap) (.int .i64 root) by rw [hW1]; exact BlkD.new _ _ _ _)
  have HOK := hideN (implBddOk_any vi root ao n cap ns W1 (hN.below HB1.out) h64 hr)
  have HN := hideN (fun V (hV : Below w.heap.size w V) => hN.below hV)
  have HLEN := hideN hN.len
  have HW1 := hideN hW1
  have c0 := HK.out.c0
  have c1 := HK.out.c1
  have c2 := HK.out.c2
  have c3 := HK.out.lt
  clear hN hW1 h64 hr
  cases hbd : bddB vi ns root with
  | false =>
    have HE : Hid (countZ vi ns root = -1) := by show _ = _; unfold countZ; rw [if_neg (by rw [hbd]; decide)]
    rw [hbd] at HOK
    clear hbd
    go_enter Try.func46, Try.ntmps46
    go_wp2_with fail
    rw [← HW1.out]
    refine HOK.out.mono ?_
    rintro e w1 ⟨rfl, hb⟩
    have HB := hideN (belNext HB1.out hb)
    clear hb c0 c1 c2 c3
    go_wp2_with fail
    go_ret
    exact ⟨by rw [HE.out]; rfl, HB.out⟩
  | true =>
  obtain ⟨vars, rfl, h6, hn64, hok, hr0, hr1⟩ := bdd_split hbd
  have hn : n ≤ 64 := by rw [← HLEN.out]; exact hn64
  have hr1n : root < 2 + (n : Int) := by rw [← HLEN.out]; exact hr1
  have HOKN : Hid (∀ i, i < n → nodeB (vars : Int) ns i = true) := fun i hi => hok i (by have := HLEN.out; omega)
  rw [hbd] at HOK
  have HE : Hid (countZ (vars : Int) ns root = (toldF halfF 0 ((2 ^ vars : Nat) : Int) ns n).getD root.toNat 0) := by
    show _ = _
    unfold countZ
    rw [if_pos hbd, told_count HOKN.out root.toNat (by omega), Int.toNat_natCast]
    unfold isN
    rw [HLEN.out]
  have hM64 : 2 ^ vars ≤ 64 := by show _ ≤ 2 ^ 6; exact Nat.pow_le_pow_right (by decide) h6
  have HTW := hideN (two_wrap vars h6)
  have HTX := hideN (show IntKind.i64.wrap ((2 : Int) ^ vars) = ((2 ^ vars : Nat) : Int) from by have h := two_wrap vars h6; unfold wrap64 at h; rw [IntKind.wrap_i64]; exact h)
  have HM : Hid ((0 : Int) ≤ ((2 ^ vars : Nat) : Int) ∧ ((2 ^ vars : Nat) : Int) ≤ 64) := by
    show _ ∧ _
    obtain ⟨M, hM⟩ : ∃ M, 2 ^ vars = M := ⟨_, rfl⟩
    rw [hM] at hM64 ⊢
    omega
  clear hbd hok hn64 hr1 hM64
  go_enter Try.func46, Try.ntmps46
  go_wp2_with fail
  rw [← HW1.out]
  refine HOK.out.mono ?_
  rintro e w1 ⟨rfl, hb⟩
  have HB := hideN (belNext HB1.out hb)
  have HK1 := hideN (HK.out.below hb)
  clear hb c0 c1 c2 c3
  go_wp2_with fail
  have HCL := hideN (fun V (hV : Below w1.heap.size w1 V) => HK1.out.cells hV)
  obtain ⟨z0, z1, z2⟩ := HCL.out w1.drew (below_drewN (Below.refl _ _) 1)
  refine region_U (fin := 4) (S := fun V => V.cell? ⟨w.heap.size, 0, none⟩ = some (.int .i64 (vars : Int)) ∧ V.cell? ⟨w.heap.size, 1, none⟩ = some (.slice ao n cap) ∧ V.cell? ⟨w.heap.size, 2, none⟩ = some (.int .i64 root)) (by kernel_rfl) ⟨z0, z1, z2⟩ (fun hHeld => ?_)
  clear hHeld
  refine takeU (i := 0) (v := .agg #[.int .i64 (vars : Int), .slice ao n cap, .int .i64 root]) rfl (by rfl) (by kernel_rfl) (by kernel_rfl) (by kernel_rfl) (by kernel_rfl) (by kernel_rfl) (fun _ _ _ h => h) (Or.inl ⟨by rfl, fun w hS => by obtain ⟨z0, z1, z2⟩ := hS; go_simp⟩) ⟨z0, z1, z2⟩ ?_
  simp only [List.getElem_toArray, List.getElem_cons_zero, Act.put, List.setIfInBounds_toArray, List.set_cons_zero, List.set_cons_succ]
  refine takeU (i := 1) (v := .pointer (some ⟨w.heap.size, 0, none⟩)) rfl (by rfl) (by kernel_rfl) (by kernel_rfl) (by kernel_rfl) (by kernel_rfl) (by kernel_rfl) (fun _ _ _ h => h) (Or.inl ⟨by rfl, fun w hS => by obtain ⟨z0, z1, z2⟩ := hS; go_simp⟩) ⟨z0, z1, z2⟩ ?_
  simp only [List.getElem_toArray, List.getElem_cons_zero, List.getElem_cons_succ, Act.put, List.setIfInBounds_toArray, List.set_cons_zero, List.set_cons_succ]
  refine takeU (i := 2) (v := .int .i64 (vars : Int)) rfl (by rfl) (by kernel_rfl) (by kernel_rfl) (by kernel_rfl) (by kernel_rfl) (by kernel_rfl) (fun _ _ _ h => h) (Or.inl ⟨by rfl, fun w hS => by obtain ⟨z0, z1, z2⟩ := hS; go_simp⟩) ⟨z0, z1, z2⟩ ?_
  simp only [List.getElem_toArray, List.getElem_cons_zero, List.getElem_cons_succ, Act.put, List.setIfInBounds_toArray, List.set_cons_zero, List.set_cons_succ]
  refine takeU (i := 3) (v := .int .i64 (IntKind.i64.wrap ((2 : Int) ^ vars))) rfl (by rfl) (by kernel_rfl) (by kernel_rfl) (by kernel_rfl) (by kernel_rfl) (by kernel_rfl) (fun _ _ _ h => h) (Or.inl ⟨by rfl, fun w hS => by obtain ⟨z0, z1, z2⟩ := hS; go_simp⟩) ⟨z0, z1, z2⟩ ?_
  simp only [List.getElem_toArray, List.getElem_cons_zero, List.getElem_cons_succ, Act.put, List.setIfInBounds_toArray, List.set_cons_zero, List.set_cons_succ]
  refine oneU (i := 4) (by kernel_rfl) rfl (by rfl) ?_
  simp only [List.getElem_toArray, List.getElem_cons_zero, List.getElem_cons_succ]
  go_simp
  first | rw [HTW.out] | rw [HTX.out]
  refine (toldInt_any vars n cap 92 #[] halfF 0 ((2 ^ vars : Nat) : Int) root ao ns w1.drew (HN.out _ (belNext HB.out (below_drewN (Below.refl _ _) 1))) hn HOKN.out hr0 hr1n (by omega) HM.out (fun p a b h1 h2 h3 h4 => by unfold halfF; omega) (half_says _ vars)).mono ?_
  rintro e w2 ⟨rfl, hb2⟩
  have HB2 := hideN (belNext HB.out (belNext (below_drewN (Below.refl _ _) 1) hb2))
  clear hb2
  rw [← HE.out]
  refine oneU (i := 5) (by kernel_rfl) rfl (by rfl) ?_
  simp only [List.getElem_toArray, List.getElem_cons_zero, List.getElem_cons_succ]
  go_simp
  refine doneU (by kernel_rfl) ?_ _
  go_wp2
  go_ret
  exact ⟨rfl, HB2.out⟩

theorem count_take (L : List Bool) (k : Nat) (h : k < L.length) : (L.take (k + 1)).count true = (L.take k).count true + (if L.getD k false = true then 1 else 0) := by
  rw [List.take_succ_eq_append_getElem h, List.count_append]
  congr 1
  rw [List.getD, List.getElem?_eq_getElem h]
  cases L[k] <;> rfl

set_option maxRecDepth 100000 in
set_option maxHeartbeats 8000000 in
theorem specBddCount_any (vi root : Int) (ao : Option Addr) (n cap : Nat) (ns : List Nd) (w : World) (hN : Nds w ao n cap ns) (h64 : ∀ q ∈ ns, I64N q) (hr : I64 root) (hnl : n ≤ 4194304) :
    Calls Try.prog 57 #[.agg #[.int .i64 vi, .slice ao n cap, .int .i64 root]] w fun e w' => e = .returned (.int .i64 (countZ vi ns root)) ∧ Below w.heap.size w w' := by
  obtain ⟨W1, hW1⟩ : ∃ W1, W1 = w.alloc (.cells #[.int .i64 vi, .slice ao n cap, .int .i64 root] 25) := ⟨_, rfl⟩
  have HB1 : Hid (Below w.heap.size w W1) := by rw [hW1]; exact belOne _ _
  have HK := hideN (show BlkD W1 w.heap.size (.int .i64 vi) (.slice ao n cap) (.int .i64 root) by rw [hW1]; exact BlkD.new _ _ _ _)
  have HOK := hideN (specBddOk_any vi root ao n cap ns W1 (hN.below HB1.out) h64 hr hnl)
  have HN := hideN (fun V (hV : Below w.heap.size w V) => hN.below hV)
  have HLEN := hideN hN.len
  have HW1 := hideN hW1
  have c0 := HK.out.c0
  have c1 := HK.out.c1
  have c2 := HK.out.c2
  have c3 := HK.out.lt
  clear hN hW1 h64 hr
  cases hbd : bddB vi ns root with
  | false =>
    have HE : Hid (countZ vi ns root = -1) := by show _ = _; unfold countZ; rw [if_neg (by rw [hbd]; decide)]
    rw [hbd] at HOK
    clear hbd
    go_enter Try.func57, Try.ntmps57
    go_wp2_with fail
    rw [← HW1.out]
    refine HOK.out.mono ?_
    rintro e w1 ⟨rfl, hb⟩
    have HB := hideN (belNext HB1.out hb)
    clear hb c0 c1 c2 c3
    go_wp2_with fail
    go_ret
    exact ⟨by rw [HE.out]; rfl, HB.out⟩
  | true =>
  obtain ⟨vars, rfl, h6, hn64, hok, hr0, hr1⟩ := bdd_split hbd
  have hn : n ≤ 64 := by rw [← HLEN.out]; exact hn64
  have hr1n : root < 2 + (n : Int) := by rw [← HLEN.out]; exact hr1
  have HOKN : Hid (∀ i, i < n → nodeB (vars : Int) ns i = true) := fun i hi => hok i (by have := HLEN.out; omega)
  rw [hbd] at HOK
  obtain ⟨M, hM⟩ : ∃ M, 2 ^ vars = M := ⟨_, rfl⟩
  have hM64 : M ≤ 64 := by rw [← hM]; show _ ≤ 2 ^ 6; exact Nat.pow_le_pow_right (by decide) h6
  have HE : Hid (countZ (vars : Int) ns root = (((tabF vars (isN ns root) M).count true : Nat) : Int)) := by
    show _ = _
    unfold countZ
    rw [if_pos hbd, Int.toNat_natCast, ← count_cnt vars (isN ns root), ← hM]
    rfl
  have HTL : Hid ((tabF vars (isN ns root) M).length = M) := tabF_length _ _ _
  clear hbd hok hn64 hr1
  go_enter Try.func57, Try.ntmps57
  go_wp2_with fail
  rw [← HW1.out]
  refine HOK.out.mono ?_
  rintro e w1 ⟨rfl, hb⟩
  have HB := hideN (belNext HB1.out hb)
  have HK1 := hideN (HK.out.below hb)
  clear hb c0 c1 c2 c3
  have c0 := HK1.out.c0
  have c1 := HK1.out.c1
  have c2 := HK1.out.c2
  have c3 := HK1.out.lt
  go_wp2_with fail
  refine (l11Table_any vars n cap root ao ns w1 h6 (HN.out _ HB.out) hn HOKN.out hr0 hr1n).mono ?_
  rintro e w2 ⟨b, k2, rfl, hrow, hb2⟩
  rw [hM] at hrow ⊢
  have HB2 := hideN (belNext HB.out hb2)
  obtain ⟨hMc, f0, hf0, hv0⟩ := own_row hrow
  clear hb2 c0 c1 c2 c3 hrow hM
  generalize tabF vars (isN ns root) M = T at *
  have HC := hideN (fun k (hk : k < M) => count_take T k (by have := HTL.out; omega))
  have HF0 := hideN hf0
  have HV0 := hideN hv0
  clear hf0 hv0
  go_wp2_with fail
  go_loopw [3, 5] (fun a i wr => ∃ k c : Nat, k ≤ M ∧ c ≤ k ∧ a = .int .i64 (c : Int) ∧ i = .int .i64 (k : Int) ∧ Hid (c = (T.take k).count true) ∧ wr = w2) (fun _ i _ => M - (intOf i).toNat)
  case atStart => exact ⟨0, 0, Nat.zero_le _, Nat.le_refl _, rfl, rfl, rfl, rfl⟩
  case round =>
    obtain ⟨k, c, hk, hck, rfl, rfl, hc, rfl⟩ := hrel
    by_cases hlt : k < M
    · have hx := HF0.out.cell (i := k) (by omega)
      rw [HV0.out k hlt] at hx
      have hcc := HC.out k hlt
      rw [← hc.out] at hcc
      generalize T.getD k false = p at *
      cases p with
      | true =>
        have HCC : Hid (c + 1 = (T.take (k + 1)).count true) := by show _ = _; rw [hcc]; rfl
        clear hcc
        go_wp2_with fail
        refine (l7Flag_any _ _).mono ?_
        rintro e w3 ⟨rfl, rfl⟩
        unfold numB
        go_wp2
        go_roundw
        case rel => exact ⟨k + 1, c + 1, by omega, by omega, by go_num, by go_num, HCC, by first | rfl | trivial⟩
        case measure => simp [intOf]; omega
      | false =>
        have HCC : Hid (c = (T.take (k + 1)).count true) := by show _ = _; rw [hcc]; rfl
        clear hcc
        go_wp2_with fail
        refine (l7Flag_any _ _).mono ?_
        rintro e w3 ⟨rfl, rfl⟩
        unfold numB
        go_wp2
        go_roundw
        case rel => exact ⟨k + 1, c, by omega, by omega, by go_num, by go_num, HCC, by first | rfl | trivial⟩
        case measure => simp [intOf]; omega
    · obtain rfl : k = M := by omega
      have HEC : Hid (countZ (vars : Int) ns root = (c : Int)) := by
        show _ = _
        rw [HE.out, hc.out, ← HTL.out, List.take_length]
      go_wp2_with fail
      go_ret
      exact ⟨by rw [HEC.out]; rfl, HB2.out⟩

end Go.Proofs.Ytknpifjkllcdeaa

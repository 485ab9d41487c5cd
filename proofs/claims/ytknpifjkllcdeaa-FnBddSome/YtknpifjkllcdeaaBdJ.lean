/-
  The table of a diagram: BddTable, of the program and of the model.
-/
import Derived.Test.YtknpifjkllcdeaaBdI
import Derived.Test.YtknpifjkllcdeaaBitsG
import Derived.Test.YtknpifjkllcdeaaHoldU
namespace Go.Proofs.Ytknpifjkllcdeaa
open Go.RowKit Go.Deep
set_option linter.unusedVariables false

attribute [local go_sem] Oper.semAt_some

/-- The table of a diagram; of what is no diagram in its form, none. -/
def tabS (vi : Int) (ns : List Nd) (root : Int) : List Bool := if bddB vi ns root = true then tabN vi.toNat ns root else []

theorem tabS_le (vi : Int) (ns : List Nd) (root : Int) : (tabS vi ns root).length ≤ 64 := by
  unfold tabS
  split
  · rename_i h
    obtain ⟨vars, rfl, h6, -⟩ := bdd_split h
    rw [tabN_length, Int.toNat_natCast]
    show _ ≤ 2 ^ 6
    exact Nat.pow_le_pow_right (by decide) h6
  · simp

/-- An answer of truths that owns its memory. -/
def TruthsPost (L : List Bool) (w : World) (e : Ending) (w' : World) : Prop :=
  ∃ ao cap, e = .returned (.slice ao L.length cap) ∧ Ownb w' w.heap.size (.slice ao L.length cap) L ∧ Below w.heap.size w w'

theorem truths_of_tab {vars : Nat} {ns : List Nd} {root : Int} {w0 w : World} {e : Ending} {w' : World} (hbd : bddB (vars : Int) ns root = true) (hw : w0.heap.size ≤ w.heap.size) (hb0 : Below w0.heap.size w0 w) (h : TabPost vars (isN ns root) w e w') : TruthsPost (tabS (vars : Int) ns root) w0 e w' := by
  obtain ⟨b, cap, rfl, hrow, hb⟩ := h
  have e1 : tabS (vars : Int) ns root = tabN vars ns root := by unfold tabS; rw [if_pos hbd, Int.toNat_natCast]
  have e2 : (tabN vars ns root).length = 2 ^ vars := tabN_length vars ns root
  rw [e1]
  refine ⟨_, cap, by rw [e2], ?_, belNext hb0 hb⟩
  have : Ownb w' w.heap.size (.slice (some ⟨b, 0, none⟩) (2 ^ vars) cap) (tabN vars ns root) := by unfold Ownb; rw [e2, ← tabN_tabF]; exact hrow
  rw [e2]
  exact this.base hw

set_option maxRecDepth 100000 in
set_option maxHeartbeats 8000000 in
theorem specBddTable_any (vi root : Int) (ao : Option Addr) (n cap : Nat) (ns : List Nd) (w : World) (hN : Nds w ao n cap ns) (h64 : ∀ q ∈ ns, I64N q) (hr : I64 root) (hnl : n ≤ 4194304) :
    Calls Try.prog 68 #[.agg #[.int .i64 vi, .slice ao n cap, .int .i64 root]] w (TruthsPost (tabS vi ns root) w) := by
  obtain ⟨W1, hW1⟩ : ∃ W1, W1 = w.alloc (.cells #[.int .i64 vi, .slice ao n cap, .int .i64 root] 25) := ⟨_, rfl⟩
  have HB1 : Hid (Below w.heap.size w W1) := by rw [hW1]; exact belOne _ _
  have HK := hideN (show BlkD W1 w.heap.size (.int .i64 vi) (.slice ao n cap) (.int .i64 root) by rw [hW1]; exact BlkD.new _ _ _ _)
  have HOK := hideN (specBddOk_any vi root ao n cap ns W1 (hN.below HB1.out) h64 hr hnl)
  have HN := hideN (fun V (hV : Below w.heap.size w V) => hN.below hV)
  have HLEN := hideN hN.len
  have HW1 := hideN hW1
  have c0 := HK.out.c0
  have c1 := HK.out.c1
  have c2 := HK.out.c2
  have c3 := HK.out.lt
  clear hN hW1 h64 hr
  cases hbd : bddB vi ns root with
  | false =>
    have HE : Hid (tabS vi ns root = []) := by show _ = _; unfold tabS; rw [if_neg (by rw [hbd]; decide)]
    rw [hbd] at HOK
    clear hbd
    go_enter Try.func68, Try.ntmps68
    go_wp2_with fail
    rw [← HW1.out]
    refine HOK.out.mono ?_
    rintro e w1 ⟨rfl, hb⟩
    have HB := hideN (belNext HB1.out hb)
    clear hb c0 c1 c2 c3
    go_wp2_with fail
    go_ret
    rw [HE.out]
    exact ⟨_, _, rfl, (ownb_empty w1).base HB.out.size, belNext HB.out (belOne _ _)⟩
  | true =>
  obtain ⟨vars, rfl, h6, hn64, hok, hr0, hr1⟩ := bdd_split hbd
  have hn : n ≤ 64 := by rw [← HLEN.out]; exact hn64
  have hr1n : root < 2 + (n : Int) := by rw [← HLEN.out]; exact hr1
  have HOKN : Hid (∀ i, i < n → nodeB (vars : Int) ns i = true) := fun i hi => hok i (by have := HLEN.out; omega)
  rw [hbd] at HOK
  have HBD := hideN hbd
  clear hbd hok hn64 hr1
  go_enter Try.func68, Try.ntmps68
  go_wp2_with fail
  rw [← HW1.out]
  refine HOK.out.mono ?_
  rintro e w1 ⟨rfl, hb⟩
  have HB := hideN (belNext HB1.out hb)
  have HK1 := hideN (HK.out.below hb)
  clear hb c0 c1 c2 c3
  have c0 := HK1.out.c0
  have c1 := HK1.out.c1
  have c2 := HK1.out.c2
  have c3 := HK1.out.lt
  go_wp2_with fail
  refine (l11Table_any vars n cap root ao ns w1 h6 (HN.out _ HB.out) hn HOKN.out hr0 hr1n).mono ?_
  rintro e w2 hp
  have HP := hideN (truths_of_tab HBD.out HB.out.size HB.out hp)
  obtain ⟨b, c, rfl, -, -⟩ := hp
  go_wp2_with fail
  go_ret
  exact HP.out

set_option maxRecDepth 100000 in
set_option maxHeartbeats 8000000 in
theorem implBddTable_any (vi root : Int) (ao : Option Addr) (n cap : Nat) (ns : List Nd) (w : World) (hN : Nds w ao n cap ns) (h64 : ∀ q ∈ ns, I64N q) (hr : I64 root) :
    Calls Try.prog 37 #[.agg #[.int .i64 vi, .slice ao n cap, .int .i64 root]] w (TruthsPost (tabS vi ns root) w) := by
  obtain ⟨W1, hW1⟩ : ∃ W1, W1 = w.alloc (.cells #[.int .i64 vi, .slice ao n cap, .int .i64 root] 25) := ⟨_, rfl⟩
  have HB1 : Hid (Below w.heap.size w W1) := by rw [hW1]; exact belOne _ _
  have HK := hideN (show BlkD W1 w.heap.size (.int .i64 vi) (.slice ao n cap) (.int .i64 root) by rw [hW1]; exact BlkD.new _ _ _ _)
  have HOK := hideN (implBddOk_any vi root ao n cap ns W1 (hN.below HB1.out) h64 hr)
  have HN := hideN (fun V (hV : Below w.heap.size w V) => hN.below hV)
  have HLEN := hideN hN.len
  have HW1 := hideN hW1
  have c0 := HK.out.c0
  have c1 := HK.out.c1
  have c2 := HK.out.c2
  have c3 := HK.out.lt
  clear hN hW1 h64 hr
  cases hbd : bddB vi ns root with
  | false =>
    have HE : Hid (tabS vi ns root = []) := by show _ = _; unfold tabS; rw [if_neg (by rw [hbd]; decide)]
    rw [hbd] at HOK
    clear hbd
    go_enter Try.func37, Try.ntmps37
    go_wp2_with fail
    rw [← HW1.out]
    refine HOK.out.mono ?_
    rintro e w1 ⟨rfl, hb⟩
    have HB := hideN (belNext HB1.out hb)
    clear hb c0 c1 c2 c3
    go_wp2_with fail
    go_ret
    rw [HE.out]
    exact ⟨_, _, rfl, ownb_nil w1 _, HB.out⟩
  | true =>
  obtain ⟨vars, rfl, h6, hn64, hok, hr0, hr1⟩ := bdd_split hbd
  have hn : n ≤ 64 := by rw [← HLEN.out]; exact hn64
  have hr1n : root < 2 + (n : Int) := by rw [← HLEN.out]; exact hr1
  have HOKN : Hid (∀ i, i < n → nodeB (vars : Int) ns i = true) := fun i hi => hok i (by have := HLEN.out; omega)
  rw [hbd] at HOK
  have HBD := hideN hbd
  clear hbd hok hn64 hr1
  go_enter Try.func37, Try.ntmps37
  go_wp2_with fail
  rw [← HW1.out]
  refine HOK.out.mono ?_
  rintro e w1 ⟨rfl, hb⟩
  have HB := hideN (belNext HB1.out hb)
  have HK1 := hideN (HK.out.below hb)
  clear hb c0 c1 c2 c3
  go_wp2_with fail
  have HCL := hideN (fun V (hV : Below w1.heap.size w1 V) => HK1.out.cells hV)
  obtain ⟨z0, z1, z2⟩ := HCL.out w1.drew (below_drewN (Below.refl _ _) 1)
  refine region_U (fin := 4) (S := fun V => V.cell? ⟨w.heap.size, 0, none⟩ = some (.int .i64 (vars : Int)) ∧ V.cell? ⟨w.heap.size, 1, none⟩ = some (.slice ao n cap) ∧ V.cell? ⟨w.heap.size, 2, none⟩ = some (.int .i64 root)) (by kernel_rfl) ⟨z0, z1, z2⟩ (fun hHeld => ?_)
  clear hHeld
  refine takeU (i := 0) (v := .agg #[.int .i64 (vars : Int), .slice ao n cap, .int .i64 root]) rfl (by rfl) (by kernel_rfl) (by kernel_rfl) (by kernel_rfl) (by kernel_rfl) (by kernel_rfl) (fun _ _ _ h => h) (Or.inl ⟨by rfl, fun w hS => by obtain ⟨z0, z1, z2⟩ := hS; go_simp⟩) ⟨z0, z1, z2⟩ ?_
  simp only [List.getElem_toArray, List.getElem_cons_zero, Act.put, List.setIfInBounds_toArray, List.set_cons_zero, List.set_cons_succ]
  refine takeU (i := 2) (v := .pointer (some ⟨w.heap.size, 0, none⟩)) rfl (by rfl) (by kernel_rfl) (by kernel_rfl) (by kernel_rfl) (by kernel_rfl) (by kernel_rfl) (fun _ _ _ h => h) (Or.inl ⟨by rfl, fun w hS => by obtain ⟨z0, z1, z2⟩ := hS; go_simp⟩) ⟨z0, z1, z2⟩ ?_
  simp only [List.getElem_toArray, List.getElem_cons_zero, List.getElem_cons_succ, Act.put, List.setIfInBounds_toArray, List.set_cons_zero, List.set_cons_succ]
  refine takeU (i := 3) (v := .int .i64 (vars : Int)) rfl (by rfl) (by kernel_rfl) (by kernel_rfl) (by kernel_rfl) (by kernel_rfl) (by kernel_rfl) (fun _ _ _ h => h) (Or.inl ⟨by rfl, fun w hS => by obtain ⟨z0, z1, z2⟩ := hS; go_simp⟩) ⟨z0, z1, z2⟩ ?_
  simp only [List.getElem_toArray, List.getElem_cons_zero, List.getElem_cons_succ, Act.put, List.setIfInBounds_toArray, List.set_cons_zero, List.set_cons_succ]
  refine oneU (i := 1) (by kernel_rfl) rfl (by rfl) ?_
  simp only [List.getElem_toArray, List.getElem_cons_zero, List.getElem_cons_succ]
  go_simp
  have hbd := below_drewN (Below.refl w1.heap.size w1) 1
  refine (saysOf_any vars n cap root ao ns w1.drew (HN.out _ (belNext HB.out hbd)) hn HOKN.out hr0 hr1n).mono ?_
  rintro e w2 ⟨fv, rfl, hs, hb2⟩
  have hb12 : Below w1.heap.size w1 w2 := belNext hbd hb2
  have HB2 := hideN (belNext HB.out hb12)
  have HS := hideN hs
  refine ⟨HCL.out w2 hb12, ?_⟩
  obtain ⟨F, binds, rfl, -⟩ := hs
  clear hbd hb2 hb12 z0 z1 z2
  refine oneU (i := 4) (by kernel_rfl) rfl (by rfl) ?_
  simp only [List.getElem_toArray, List.getElem_cons_zero, List.getElem_cons_succ]
  go_simp
  refine (table_any vars (isN ns root) _ w2 h6 HS.out).mono ?_
  rintro e w3 hp
  have HP := hideN (truths_of_tab HBD.out HB2.out.size HB2.out hp)
  obtain ⟨b, c, rfl, -, -⟩ := hp
  refine oneU (i := 5) (by kernel_rfl) rfl (by rfl) ?_
  simp only [List.getElem_toArray, List.getElem_cons_zero, List.getElem_cons_succ]
  go_simp
  refine doneU (by kernel_rfl) ?_ _
  go_wp2_with fail
  go_ret
  exact HP.out

end Go.Proofs.Ytknpifjkllcdeaa

/-
  Two diagrams with a sign between: BddTwo, of the program.
-/
import Derived.Test.YtknpifjkllcdeaaBdTh
namespace Go.Proofs.Ytknpifjkllcdeaa
open Go.RowKit Go.Deep
set_option linter.unusedVariables false

attribute [local go_sem] Oper.semAt_some
attribute [local go_sem] run_store_func

/-- Whether two diagrams can be put together: both in their form, of the same variables, and a sign of truths. -/
def twoB (sg : ByteArray) (va : Int) (na : List Nd) (ra vb : Int) (nb : List Nd) (rb : Int) : Bool := bddB va na ra && (bddB vb nb rb && (decide (va = vb) && (opOf sg).isSome))
def twoOp (sg : ByteArray) : Bool → Bool → Bool := (opOf sg).getD (fun _ _ => false)
/-- An answer that is a diagram and a truth. -/
def TwoPost (a : Int × List Nd × Int) (f : Bool) (w : World) (e : Ending) (w' : World) : Prop :=
  ∃ aa n ca, e = .returned (.tuple #[.agg #[.int .i64 a.1, .slice aa n ca, .int .i64 a.2.2], .bool f]) ∧ a.2.1.length = n ∧ w'.ownsRow w.heap.size 50 3 (.slice aa n ca) n (ndV a.2.1) ∧ Below w.heap.size w w'

theorem twoT_le {sg : ByteArray} {va : Int} {na : List Nd} {ra vb : Int} {nb : List Nd} {rb : Int} : (ansOf (twoB sg va na ra vb nb rb) va (twoT (twoOp sg) va na ra nb rb)).2.1.length ≤ 64 := by
  cases h : twoB sg va na ra vb nb rb with
  | false => simp [ansOf]
  | true =>
    have h' : bddB va na ra = true := by unfold twoB at h; simp only [Bool.and_eq_true] at h; exact h.1
    obtain ⟨vars, rfl, h6, -⟩ := bdd_split h'
    have h2 : 2 ^ vars ≤ 64 := by show _ ≤ 2 ^ 6; exact Nat.pow_le_pow_right (by decide) h6
    have h3 := drawB_len vars 0 (twoT (twoOp sg) (vars : Int) na ra nb rb) []
    unfold ansOf
    rw [if_pos rfl, Int.toNat_natCast]
    simp at h3 ⊢
    omega

set_option maxRecDepth 100000 in
set_option maxHeartbeats 16000000 in
theorem implBddTwo_any (sg : ByteArray) (va ra vb rb : Int) (ao bo : Option Addr) (n cap n2 cap2 : Nat) (na nb : List Nd) (w : World) (hN : Nds w ao n cap na) (h64 : ∀ q ∈ na, I64N q) (hr : I64 ra) (hN2 : Nds w bo n2 cap2 nb) (h642 : ∀ q ∈ nb, I64N q) (hr2 : I64 rb) :
    Calls Try.prog 45 #[.string sg, .agg #[.int .i64 va, .slice ao n cap, .int .i64 ra], .agg #[.int .i64 vb, .slice bo n2 cap2, .int .i64 rb]] w (TwoPost (ansOf (twoB sg va na ra vb nb rb) va (twoT (twoOp sg) va na ra nb rb)) (twoB sg va na ra vb nb rb) w) := by
  have hmf : ∀ (fn : Fn) (first cap : Array Value) (w : World), (Instr.makeFunc fn first cap).run Try.prog w = .ok (.func fn first cap) w := fun _ _ _ _ => rfl
  obtain ⟨W1, hW1⟩ : ∃ W1, W1 = ((w.alloc (.cells #[.int .i64 va, .slice ao n cap, .int .i64 ra] 25)).alloc (.cells #[.int .i64 vb, .slice bo n2 cap2, .int .i64 rb] 25)).alloc (.cells #[.int .i64 0, .slice none 0 0, .int .i64 0] 25) := ⟨_, rfl⟩
  have HB1 : Hid (Below w.heap.size w W1) := by rw [hW1]; exact belNext (belNext (belOne _ _) (belOne _ _)) (belOne _ _)
  have HK := hideN (show BlkD W1 w.heap.size (.int .i64 va) (.slice ao n cap) (.int .i64 ra) by rw [hW1]; exact ((BlkD.new _ _ _ _).below (belOne _ _)).below (belOne _ _))
  have HJ : Hid (BlkD W1 (w.heap.size + 1) (.int .i64 vb) (.slice bo n2 cap2) (.int .i64 rb)) := by
    have h := (BlkD.new (w.alloc (.cells #[.int .i64 va, .slice ao n cap, .int .i64 ra] 25)) (.int .i64 vb) (.slice bo n2 cap2) (.int .i64 rb)).below (belOne _ (.cells #[.int .i64 0, .slice none 0 0, .int .i64 0] 25))
    rw [World.size_alloc, ← hW1] at h
    exact h
  have HQ : Hid (BlkD W1 (w.heap.size + 1 + 1) (.int .i64 0) (.slice none 0 0) (.int .i64 0)) := by
    have h := BlkD.new ((w.alloc (.cells #[.int .i64 va, .slice ao n cap, .int .i64 ra] 25)).alloc (.cells #[.int .i64 vb, .slice bo n2 cap2, .int .i64 rb] 25)) (.int .i64 0) (.slice none 0 0) (.int .i64 0)
    rw [World.size_alloc, World.size_alloc, ← hW1] at h
    exact h
  have HOK := hideN (implBddOk_any va ra ao n cap na W1 (hN.below HB1.out) h64 hr)
  have HOK2 := hideN (fun V (hV : Below w.heap.size w V) => implBddOk_any vb rb bo n2 cap2 nb V (hN2.below hV) h642 hr2)
  have HN := hideN (fun V (hV : Below w.heap.size w V) => hN.below hV)
  have HN2 := hideN (fun V (hV : Below w.heap.size w V) => hN2.below hV)
  have HLEN := hideN hN.len
  have HLEN2 := hideN hN2.len
  have HW1 := hideN hW1
  have c0 := HK.out.c0
  have c1 := HK.out.c1
  have c2 := HK.out.c2
  have c3 := HK.out.lt
  clear hN hW1 h64 hr hN2 h642 hr2
  cases hbd : bddB va na ra with
  | false =>
    have HZ : Hid (twoB sg va na ra vb nb rb = false) := by show _ = _; unfold twoB; rw [hbd]; rfl
    rw [hbd] at HOK
    rw [HZ.out]
    clear hbd
    go_enter Try.func45, Try.ntmps45
    go_wp2_with fail
    rw [← HW1.out]
    refine HOK.out.mono ?_
    rintro e w1 ⟨rfl, hb⟩
    have HB := hideN (belNext HB1.out hb)
    have HQ1 := hideN (HQ.out.below hb)
    have m0 := HQ1.out.c0
    have m1 := HQ1.out.c1
    have m2 := HQ1.out.c2
    have m3 := HQ1.out.f 0
    have m4 := HQ1.out.f 1
    have m5 := HQ1.out.f 2
    have m6 := HQ1.out.lt
    clear hb c0 c1 c2 c3
    have HQ2 := hideN (HQ1.out.set (.int .i64 0) (.slice none 0 0) (.int .i64 0))
    have HBE := hideN (set3_below HB.out (show w.heap.size ≤ w.heap.size + 1 + 1 by omega) (.int .i64 0) (.slice none 0 0) (.int .i64 0))
    go_wp2
    have u0 := HQ2.out.c0
    have u1 := HQ2.out.c1
    have u2 := HQ2.out.c2
    unfold set3 at u0 u1 u2
    exact bodyPost_ret (v := .tuple #[.agg #[.int .i64 0, .slice none 0 0, .int .i64 0], .bool false]) (by simp [results, Try.results45, go_sem, u0, u1, u2]) rfl ⟨none, 0, 0, rfl, rfl, World.ownsRow_nil _ _ _ _, HBE.out⟩
  | true =>
  obtain ⟨vars, rfl, h6, hn64, hok, hr0, hr1⟩ := bdd_split hbd
  have hn : n ≤ 64 := by rw [← HLEN.out]; exact hn64
  have hr1n : ra < 2 + (n : Int) := by rw [← HLEN.out]; exact hr1
  have HOKN : Hid (∀ i, i < n → nodeB (vars : Int) na i = true) := fun i hi => hok i (by have := HLEN.out; omega)
  rw [hbd] at HOK
  have HBD := hideN hbd
  clear hbd hok hn64 hr1
  cases hbd2 : bddB vb nb rb with
  | false =>
    have HZ : Hid (twoB sg (vars : Int) na ra vb nb rb = false) := by show _ = _; unfold twoB; rw [HBD.out, hbd2]; rfl
    rw [hbd2] at HOK2
    rw [HZ.out]
    clear hbd2
    go_enter Try.func45, Try.ntmps45
    go_wp2_with fail
    rw [← HW1.out]
    refine HOK.out.mono ?_
    rintro e w0 ⟨rfl, hb0⟩
    have HB0 := hideN (belNext HB1.out hb0)
    have HJ0 := hideN (HJ.out.below hb0)
    have HQ0 := hideN (HQ.out.below hb0)
    clear hb0 c0 c1 c2 c3
    have c0 := HJ0.out.c0
    have c1 := HJ0.out.c1
    have c2 := HJ0.out.c2
    have c3 := HJ0.out.lt
    go_wp2_with fail
    refine (HOK2.out w0 HB0.out).mono ?_
    rintro e w1 ⟨rfl, hb⟩
    have HB := hideN (belNext HB0.out hb)
    have HQ1 := hideN (HQ0.out.below hb)
    have m0 := HQ1.out.c0
    have m1 := HQ1.out.c1
    have m2 := HQ1.out.c2
    have m3 := HQ1.out.f 0
    have m4 := HQ1.out.f 1
    have m5 := HQ1.out.f 2
    have m6 := HQ1.out.lt
    clear hb c0 c1 c2 c3
    have HQ2 := hideN (HQ1.out.set (.int .i64 0) (.slice none 0 0) (.int .i64 0))
    have HBE := hideN (set3_below HB.out (show w.heap.size ≤ w.heap.size + 1 + 1 by omega) (.int .i64 0) (.slice none 0 0) (.int .i64 0))
    go_wp2
    have u0 := HQ2.out.c0
    have u1 := HQ2.out.c1
    have u2 := HQ2.out.c2
    unfold set3 at u0 u1 u2
    exact bodyPost_ret (v := .tuple #[.agg #[.int .i64 0, .slice none 0 0, .int .i64 0], .bool false]) (by simp [results, Try.results45, go_sem, u0, u1, u2]) rfl ⟨none, 0, 0, rfl, rfl, World.ownsRow_nil _ _ _ _, HBE.out⟩
  | true =>
  obtain ⟨vars2, rfl, h62, hn642, hok2, hr02, hr12⟩ := bdd_split hbd2
  have hn2 : n2 ≤ 64 := by rw [← HLEN2.out]; exact hn642
  have hr1n2 : rb < 2 + (n2 : Int) := by rw [← HLEN2.out]; exact hr12
  have HOKN2 : Hid (∀ i, i < n2 → nodeB (vars2 : Int) nb i = true) := fun i hi => hok2 i (by have := HLEN2.out; omega)
  rw [hbd2] at HOK2
  have HBD2 := hideN hbd2
  clear hbd2 hok2 hn642 hr12
  by_cases hv : vars = vars2
  case neg =>
    have HZ : Hid (twoB sg (vars : Int) na ra (vars2 : Int) nb rb = false) := by
      show _ = _
      unfold twoB
      rw [decide_eq_false (by omega : ¬ (vars : Int) = (vars2 : Int))]
      simp
    have de : decide ((vars : Int) = (vars2 : Int)) = false := by simp; omega
    have de2 : ((vars : Int) == (vars2 : Int)) = false := by simp; omega
    have de3 : ((vars : Int) != (vars2 : Int)) = true := by simp; omega
    rw [HZ.out]
    go_enter Try.func45, Try.ntmps45
    go_wp2_with fail
    rw [← HW1.out]
    refine HOK.out.mono ?_
    rintro e w0 ⟨rfl, hb0⟩
    have HB0 := hideN (belNext HB1.out hb0)
    have HK0 := hideN (HK.out.below hb0)
    have HJ0 := hideN (HJ.out.below hb0)
    have HQ0 := hideN (HQ.out.below hb0)
    clear hb0 c0 c1 c2 c3
    have c0 := HJ0.out.c0
    have c1 := HJ0.out.c1
    have c2 := HJ0.out.c2
    have c3 := HJ0.out.lt
    go_wp2_with fail
    refine (HOK2.out w0 HB0.out).mono ?_
    rintro e w1 ⟨rfl, hb⟩
    have HB := hideN (belNext HB0.out hb)
    have HK1 := hideN (HK0.out.below hb)
    have HJ1 := hideN (HJ0.out.below hb)
    have HQ1 := hideN (HQ0.out.below hb)
    clear hb c0 c1 c2 c3
    have c0 := HK1.out.c0
    have c3 := HK1.out.lt
    have d0 := HJ1.out.c0
    have d3 := HJ1.out.lt
    have m0 := HQ1.out.c0
    have m1 := HQ1.out.c1
    have m2 := HQ1.out.c2
    have m3 := HQ1.out.f 0
    have m4 := HQ1.out.f 1
    have m5 := HQ1.out.f 2
    have m6 := HQ1.out.lt
    have HQ2 := hideN (HQ1.out.set (.int .i64 0) (.slice none 0 0) (.int .i64 0))
    have HBE := hideN (set3_below HB.out (show w.heap.size ≤ w.heap.size + 1 + 1 by omega) (.int .i64 0) (.slice none 0 0) (.int .i64 0))
    go_wp2
    have u0 := HQ2.out.c0
    have u1 := HQ2.out.c1
    have u2 := HQ2.out.c2
    unfold set3 at u0 u1 u2
    exact bodyPost_ret (v := .tuple #[.agg #[.int .i64 0, .slice none 0 0, .int .i64 0], .bool false]) (by simp [results, Try.results45, go_sem, u0, u1, u2]) rfl ⟨none, 0, 0, rfl, rfl, World.ownsRow_nil _ _ _ _, HBE.out⟩
  subst hv
  have de : decide ((vars : Int) = (vars : Int)) = true := by simp
  have de2 : ((vars : Int) == (vars : Int)) = true := by simp
  have de3 : ((vars : Int) != (vars : Int)) = false := by simp
  cases hop : opOf sg with
  | none =>
    have HZ : Hid (twoB sg (vars : Int) na ra (vars : Int) nb rb = false) := by show _ = _; unfold twoB; rw [hop]; simp
    rw [HZ.out]
    go_enter Try.func45, Try.ntmps45
    go_wp2_with fail
    rw [← HW1.out]
    refine HOK.out.mono ?_
    rintro e w0 ⟨rfl, hb0⟩
    have HB0 := hideN (belNext HB1.out hb0)
    have HK0 := hideN (HK.out.below hb0)
    have HJ0 := hideN (HJ.out.below hb0)
    have HQ0 := hideN (HQ.out.below hb0)
    clear hb0 c0 c1 c2 c3
    have c0 := HJ0.out.c0
    have c1 := HJ0.out.c1
    have c2 := HJ0.out.c2
    have c3 := HJ0.out.lt
    go_wp2_with fail
    refine (HOK2.out w0 HB0.out).mono ?_
    rintro e w1 ⟨rfl, hb⟩
    have HB := hideN (belNext HB0.out hb)
    have HK1 := hideN (HK0.out.below hb)
    have HJ1 := hideN (HJ0.out.below hb)
    have HQ1 := hideN (HQ0.out.below hb)
    clear hb c0 c1 c2 c3
    have c0 := HK1.out.c0
    have c3 := HK1.out.lt
    have d0 := HJ1.out.c0
    have d3 := HJ1.out.lt
    go_wp2_with fail
    clear c0 c3 d0 d3
    have HCL := hideN (fun V (hV : Below w1.heap.size w1 V) => (⟨HK1.out.cells hV, HJ1.out.cells hV⟩ : (_ ∧ _ ∧ _) ∧ (_ ∧ _ ∧ _)))
    obtain ⟨⟨z0, z1, z2⟩, y0, y1, y2⟩ := HCL.out w1.drew (below_drewN (Below.refl _ _) 1)
    refine region_U (fin := 10) (S := fun V => V.cell? ⟨w.heap.size, 0, none⟩ = some (.int .i64 (vars : Int)) ∧ V.cell? ⟨w.heap.size, 1, none⟩ = some (.slice ao n cap) ∧ V.cell? ⟨w.heap.size, 2, none⟩ = some (.int .i64 ra) ∧ V.cell? ⟨w.heap.size + 1, 0, none⟩ = some (.int .i64 (vars : Int)) ∧ V.cell? ⟨w.heap.size + 1, 1, none⟩ = some (.slice bo n2 cap2) ∧ V.cell? ⟨w.heap.size + 1, 2, none⟩ = some (.int .i64 rb)) (by kernel_rfl) ⟨z0, z1, z2, y0, y1, y2⟩ (fun hHeld => ?_)
    clear hHeld
    refine takeU (i := 0) (v := .string sg) rfl (by rfl) (by kernel_rfl) (by kernel_rfl) (by kernel_rfl) (by kernel_rfl) (by kernel_rfl) (fun _ _ _ h => h) (Or.inl ⟨by rfl, fun w hS => by obtain ⟨z0, z1, z2, y0, y1, y2⟩ := hS; go_simp⟩) ⟨z0, z1, z2, y0, y1, y2⟩ ?_
    simp only [List.getElem_toArray, List.getElem_cons_zero, Act.put, List.setIfInBounds_toArray, List.set_cons_zero, List.set_cons_succ]
    refine takeU (i := 1) (v := .agg #[.int .i64 (vars : Int), .slice ao n cap, .int .i64 ra]) rfl (by rfl) (by kernel_rfl) (by kernel_rfl) (by kernel_rfl) (by kernel_rfl) (by kernel_rfl) (fun _ _ _ h => h) (Or.inl ⟨by rfl, fun w hS => by obtain ⟨z0, z1, z2, y0, y1, y2⟩ := hS; go_simp⟩) ⟨z0, z1, z2, y0, y1, y2⟩ ?_
    simp only [List.getElem_toArray, List.getElem_cons_zero, List.getElem_cons_succ, Act.put, List.setIfInBounds_toArray, List.set_cons_zero, List.set_cons_succ]
    refine takeU (i := 3) (v := .agg #[.int .i64 (vars : Int), .slice bo n2 cap2, .int .i64 rb]) rfl (by rfl) (by kernel_rfl) (by kernel_rfl) (by kernel_rfl) (by kernel_rfl) (by kernel_rfl) (fun _ _ _ h => h) (Or.inl ⟨by rfl, fun w hS => by obtain ⟨z0, z1, z2, y0, y1, y2⟩ := hS; go_simp⟩) ⟨z0, z1, z2, y0, y1, y2⟩ ?_
    simp only [List.getElem_toArray, List.getElem_cons_zero, List.getElem_cons_succ, Act.put, List.setIfInBounds_toArray, List.set_cons_zero, List.set_cons_succ]
    refine oneU (i := 2) (by kernel_rfl) rfl (by rfl) ?_
    simp only [List.getElem_toArray, List.getElem_cons_zero, List.getElem_cons_succ]
    go_simp
    have hbd := below_drewN (Below.refl w1.heap.size w1) 1
    refine (saysOf_any vars n cap ra ao na w1.drew (HN.out _ (belNext HB.out hbd)) hn HOKN.out hr0 hr1n).mono ?_
    rintro e w2 ⟨fv, rfl, hs, hb2⟩
    have hb12 := belNext hbd hb2
    have HB2 := hideN (belNext HB.out hb12)
    have HQ2 := hideN (HQ1.out.below hb12)
    have HS := hideN hs
    obtain ⟨F, binds, rfl, -⟩ := hs
    obtain ⟨⟨z0, z1, z2⟩, y0, y1, y2⟩ := HCL.out w2 hb12
    refine ⟨⟨z0, z1, z2, y0, y1, y2⟩, ?_⟩
    have HCL2 := hideN (fun V (hV : Below w2.heap.size w2 V) => HCL.out V (belNext hb12 hV))
    clear hb2 hb12 hbd HCL
    refine oneU (i := 4) (by kernel_rfl) rfl (by rfl) ?_
    simp only [List.getElem_toArray, List.getElem_cons_zero, List.getElem_cons_succ]
    go_simp
    refine (saysOf_any vars n2 cap2 rb bo nb w2 (HN2.out _ HB2.out) hn2 HOKN2.out hr02 hr1n2).mono ?_
    rintro e w3 ⟨fv2, rfl, hs2, hb3⟩
    have HB3 := hideN (belNext HB2.out hb3)
    have HQ3 := hideN (HQ2.out.below hb3)
    have HS3 := hideN (HS.out.below hb3)
    have HR3 := hideN hs2
    obtain ⟨F2, binds2, rfl, -⟩ := hs2
    obtain ⟨⟨z0, z1, z2⟩, y0, y1, y2⟩ := HCL2.out w3 hb3
    refine ⟨⟨z0, z1, z2, y0, y1, y2⟩, ?_⟩
    have HCL3 := hideN (fun V (hV : Below w3.heap.size w3 V) => HCL2.out V (belNext hb3 hV))
    clear hb3 HCL2 HS
    refine oneU (i := 5) (by kernel_rfl) rfl (by rfl) ?_
    simp only [List.getElem_toArray, List.getElem_cons_zero, List.getElem_cons_succ]
    go_simp
    refine (sign_none sg hop vars _ _ _ _ w3 HS3.out HR3.out).mono ?_
    rintro e w4 ⟨rfl, hb4⟩
    have HB4 := hideN (belNext HB3.out hb4)
    have HQ4 := hideN (HQ3.out.below hb4)
    obtain ⟨⟨z0, z1, z2⟩, y0, y1, y2⟩ := HCL3.out w4 hb4
    refine ⟨⟨z0, z1, z2, y0, y1, y2⟩, ?_⟩
    clear hb4 HCL3 HS3 HR3
    refine oneU (i := 6) (by kernel_rfl) rfl (by rfl) ?_
    simp only [List.getElem_toArray, List.getElem_cons_zero, List.getElem_cons_succ]
    go_simp
    refine takeU (i := 7) (v := .nilFunc) rfl (by rfl) (by kernel_rfl) (by kernel_rfl) (by kernel_rfl) (by kernel_rfl) (by kernel_rfl) (fun _ _ _ h => h) (Or.inl ⟨by rfl, fun w hS => by obtain ⟨z0, z1, z2, y0, y1, y2⟩ := hS; go_simp⟩) ⟨z0, z1, z2, y0, y1, y2⟩ ?_
    simp only [List.getElem_toArray, List.getElem_cons_zero, List.getElem_cons_succ, Act.put, List.setIfInBounds_toArray, List.set_cons_zero, List.set_cons_succ]
    refine takeU (i := 8) (v := .bool false) rfl (by rfl) (by kernel_rfl) (by kernel_rfl) (by kernel_rfl) (by kernel_rfl) (by kernel_rfl) (fun _ _ _ h => h) (Or.inl ⟨by rfl, fun w hS => by obtain ⟨z0, z1, z2, y0, y1, y2⟩ := hS; go_simp⟩) ⟨z0, z1, z2, y0, y1, y2⟩ ?_
    simp only [List.getElem_toArray, List.getElem_cons_zero, List.getElem_cons_succ, Act.put, List.setIfInBounds_toArray, List.set_cons_zero, List.set_cons_succ]
    refine oneU (i := 9) (by kernel_rfl) rfl (by rfl) ?_
    simp only [List.getElem_toArray, List.getElem_cons_zero, List.getElem_cons_succ]
    go_simp
    refine oneU (i := 10) (by kernel_rfl) rfl (by rfl) ?_
    simp only [List.getElem_toArray, List.getElem_cons_zero, List.getElem_cons_succ]
    go_simp
    refine doneU (by kernel_rfl) ?_ _
    have m0 := HQ4.out.c0
    have m1 := HQ4.out.c1
    have m2 := HQ4.out.c2
    have m3 := HQ4.out.f 0
    have m4 := HQ4.out.f 1
    have m5 := HQ4.out.f 2
    have m6 := HQ4.out.lt
    have HQ5 := hideN (HQ4.out.set (.int .i64 0) (.slice none 0 0) (.int .i64 0))
    have HBE := hideN (set3_below HB4.out (show w.heap.size ≤ w.heap.size + 1 + 1 by omega) (.int .i64 0) (.slice none 0 0) (.int .i64 0))
    clear z0 z1 z2 y0 y1 y2
    go_wp2
    have u0 := HQ5.out.c0
    have u1 := HQ5.out.c1
    have u2 := HQ5.out.c2
    unfold set3 at u0 u1 u2
    exact bodyPost_ret (v := .tuple #[.agg #[.int .i64 0, .slice none 0 0, .int .i64 0], .bool false]) (by simp [results, Try.results45, go_sem, u0, u1, u2]) rfl ⟨none, 0, 0, rfl, rfl, World.ownsRow_nil _ _ _ _, HBE.out⟩
  | some op =>
  have HZ : Hid (twoB sg (vars : Int) na ra (vars : Int) nb rb = true) := by show _ = _; unfold twoB; rw [hop, HBD.out, HBD2.out]; simp
  have HTO : Hid (twoOp sg = op) := by show _ = _; unfold twoOp; rw [hop]; rfl
  rw [HZ.out, HTO.out]
  have HNT : Hid (twoT op (vars : Int) na ra nb rb = tabF vars (fun ws => op (isN na ra ws) (isN nb rb ws)) (2 ^ vars)) := by show _ = _; unfold twoT; rw [Int.toNat_natCast]
  have HANS : Hid (∀ t, ansOf true (vars : Int) t = ((vars : Int), (drawB vars 0 t []).1, (drawB vars 0 t []).2)) := fun t => by unfold ansOf; rw [if_pos rfl, Int.toNat_natCast]
  go_enter Try.func45, Try.ntmps45
  go_wp2_with fail
  rw [← HW1.out]
  refine HOK.out.mono ?_
  rintro e w0 ⟨rfl, hb0⟩
  have HB0 := hideN (belNext HB1.out hb0)
  have HK0 := hideN (HK.out.below hb0)
  have HJ0 := hideN (HJ.out.below hb0)
  have HQ0 := hideN (HQ.out.below hb0)
  clear hb0 c0 c1 c2 c3
  have c0 := HJ0.out.c0
  have c1 := HJ0.out.c1
  have c2 := HJ0.out.c2
  have c3 := HJ0.out.lt
  go_wp2_with fail
  refine (HOK2.out w0 HB0.out).mono ?_
  rintro e w1 ⟨rfl, hb⟩
  have HB := hideN (belNext HB0.out hb)
  have HK1 := hideN (HK0.out.below hb)
  have HJ1 := hideN (HJ0.out.below hb)
  have HQ1 := hideN (HQ0.out.below hb)
  clear hb c0 c1 c2 c3
  have c0 := HK1.out.c0
  have c3 := HK1.out.lt
  have d0 := HJ1.out.c0
  have d3 := HJ1.out.lt
  go_wp2_with fail
  clear c0 c3 d0 d3
  have HCL := hideN (fun V (hV : Below w1.heap.size w1 V) => (⟨HK1.out.cells hV, HJ1.out.cells hV⟩ : (_ ∧ _ ∧ _) ∧ (_ ∧ _ ∧ _)))
  obtain ⟨⟨z0, z1, z2⟩, y0, y1, y2⟩ := HCL.out w1.drew (below_drewN (Below.refl _ _) 1)
  refine region_U (fin := 10) (S := fun V => V.cell? ⟨w.heap.size, 0, none⟩ = some (.int .i64 (vars : Int)) ∧ V.cell? ⟨w.heap.size, 1, none⟩ = some (.slice ao n cap) ∧ V.cell? ⟨w.heap.size, 2, none⟩ = some (.int .i64 ra) ∧ V.cell? ⟨w.heap.size + 1, 0, none⟩ = some (.int .i64 (vars : Int)) ∧ V.cell? ⟨w.heap.size + 1, 1, none⟩ = some (.slice bo n2 cap2) ∧ V.cell? ⟨w.heap.size + 1, 2, none⟩ = some (.int .i64 rb)) (by kernel_rfl) ⟨z0, z1, z2, y0, y1, y2⟩ (fun hHeld => ?_)
  clear hHeld
  refine takeU (i := 0) (v := .string sg) rfl (by rfl) (by kernel_rfl) (by kernel_rfl) (by kernel_rfl) (by kernel_rfl) (by kernel_rfl) (fun _ _ _ h => h) (Or.inl ⟨by rfl, fun w hS => by obtain ⟨z0, z1, z2, y0, y1, y2⟩ := hS; go_simp⟩) ⟨z0, z1, z2, y0, y1, y2⟩ ?_
  simp only [List.getElem_toArray, List.getElem_cons_zero, Act.put, List.setIfInBounds_toArray, List.set_cons_zero, List.set_cons_succ]
  refine takeU (i := 1) (v := .agg #[.int .i64 (vars : Int), .slice ao n cap, .int .i64 ra]) rfl (by rfl) (by kernel_rfl) (by kernel_rfl) (by kernel_rfl) (by kernel_rfl) (by kernel_rfl) (fun _ _ _ h => h) (Or.inl ⟨by rfl, fun w hS => by obtain ⟨z0, z1, z2, y0, y1, y2⟩ := hS; go_simp⟩) ⟨z0, z1, z2, y0, y1, y2⟩ ?_
  simp only [List.getElem_toArray, List.getElem_cons_zero, List.getElem_cons_succ, Act.put, List.setIfInBounds_toArray, List.set_cons_zero, List.set_cons_succ]
  refine takeU (i := 3) (v := .agg #[.int .i64 (vars : Int), .slice bo n2 cap2, .int .i64 rb]) rfl (by rfl) (by kernel_rfl) (by kernel_rfl) (by kernel_rfl) (by kernel_rfl) (by kernel_rfl) (fun _ _ _ h => h) (Or.inl ⟨by rfl, fun w hS => by obtain ⟨z0, z1, z2, y0, y1, y2⟩ := hS; go_simp⟩) ⟨z0, z1, z2, y0, y1, y2⟩ ?_
  simp only [List.getElem_toArray, List.getElem_cons_zero, List.getElem_cons_succ, Act.put, List.setIfInBounds_toArray, List.set_cons_zero, List.set_cons_succ]
  refine oneU (i := 2) (by kernel_rfl) rfl (by rfl) ?_
  simp only [List.getElem_toArray, List.getElem_cons_zero, List.getElem_cons_succ]
  go_simp
  have hbd := below_drewN (Below.refl w1.heap.size w1) 1
  refine (saysOf_any vars n cap ra ao na w1.drew (HN.out _ (belNext HB.out hbd)) hn HOKN.out hr0 hr1n).mono ?_
  rintro e w2 ⟨fv, rfl, hs, hb2⟩
  have hb12 := belNext hbd hb2
  have HB2 := hideN (belNext HB.out hb12)
  have HQ2 := hideN (HQ1.out.below hb12)
  have HK2 := hideN (HK1.out.below hb12)
  have HS := hideN hs
  obtain ⟨F, binds, rfl, -⟩ := hs
  obtain ⟨⟨z0, z1, z2⟩, y0, y1, y2⟩ := HCL.out w2 hb12
  refine ⟨⟨z0, z1, z2, y0, y1, y2⟩, ?_⟩
  have HCL2 := hideN (fun V (hV : Below w2.heap.size w2 V) => HCL.out V (belNext hb12 hV))
  clear hb2 hb12 hbd HCL
  refine oneU (i := 4) (by kernel_rfl) rfl (by rfl) ?_
  simp only [List.getElem_toArray, List.getElem_cons_zero, List.getElem_cons_succ]
  go_simp
  refine (saysOf_any vars n2 cap2 rb bo nb w2 (HN2.out _ HB2.out) hn2 HOKN2.out hr02 hr1n2).mono ?_
  rintro e w3 ⟨fv2, rfl, hs2, hb3⟩
  have HB3 := hideN (belNext HB2.out hb3)
  have HQ3 := hideN (HQ2.out.below hb3)
  have HK3 := hideN (HK2.out.below hb3)
  have HS3 := hideN (HS.out.below hb3)
  have HR3 := hideN hs2
  obtain ⟨F2, binds2, rfl, -⟩ := hs2
  obtain ⟨⟨z0, z1, z2⟩, y0, y1, y2⟩ := HCL2.out w3 hb3
  refine ⟨⟨z0, z1, z2, y0, y1, y2⟩, ?_⟩
  have HCL3 := hideN (fun V (hV : Below w3.heap.size w3 V) => HCL2.out V (belNext hb3 hV))
  clear hb3 HCL2 HS
  refine oneU (i := 5) (by kernel_rfl) rfl (by rfl) ?_
  simp only [List.getElem_toArray, List.getElem_cons_zero, List.getElem_cons_succ]
  go_simp
  refine (sign_some sg op hop vars _ _ _ _ w3 HS3.out HR3.out).mono ?_
  rintro e w4 ⟨fv4, rfl, hs4, hb4⟩
  have HB4 := hideN (belNext HB3.out hb4)
  have HQ4 := hideN (HQ3.out.below hb4)
  have HK4 := hideN (HK3.out.below hb4)
  have HS4 := hideN hs4
  obtain ⟨F4, binds4, rfl, -⟩ := hs4
  obtain ⟨⟨z0, z1, z2⟩, y0, y1, y2⟩ := HCL3.out w4 hb4
  refine ⟨⟨z0, z1, z2, y0, y1, y2⟩, ?_⟩
  clear hb4 HCL3 HS3 HR3
  refine oneU (i := 6) (by kernel_rfl) rfl (by rfl) ?_
  simp only [List.getElem_toArray, List.getElem_cons_zero, List.getElem_cons_succ]
  go_simp
  refine takeU (i := 7) (v := .func (.func F4) #[] binds4) rfl (by rfl) (by kernel_rfl) (by kernel_rfl) (by kernel_rfl) (by kernel_rfl) (by kernel_rfl) (fun _ _ _ h => h) (Or.inl ⟨by rfl, fun w hS => by obtain ⟨z0, z1, z2, y0, y1, y2⟩ := hS; go_simp⟩) ⟨z0, z1, z2, y0, y1, y2⟩ ?_
  simp only [List.getElem_toArray, List.getElem_cons_zero, List.getElem_cons_succ, Act.put, List.setIfInBounds_toArray, List.set_cons_zero, List.set_cons_succ]
  refine takeU (i := 8) (v := .bool true) rfl (by rfl) (by kernel_rfl) (by kernel_rfl) (by kernel_rfl) (by kernel_rfl) (by kernel_rfl) (fun _ _ _ h => h) (Or.inl ⟨by rfl, fun w hS => by obtain ⟨z0, z1, z2, y0, y1, y2⟩ := hS; go_simp⟩) ⟨z0, z1, z2, y0, y1, y2⟩ ?_
  simp only [List.getElem_toArray, List.getElem_cons_zero, List.getElem_cons_succ, Act.put, List.setIfInBounds_toArray, List.set_cons_zero, List.set_cons_succ]
  refine oneU (i := 9) (by kernel_rfl) rfl (by rfl) ?_
  simp only [List.getElem_toArray, List.getElem_cons_zero, List.getElem_cons_succ]
  go_simp
  refine oneU (i := 10) (by kernel_rfl) rfl (by rfl) ?_
  simp only [List.getElem_toArray, List.getElem_cons_zero, List.getElem_cons_succ]
  go_simp
  refine doneU (by kernel_rfl) ?_ _
  clear z0 z1 z2 y0 y1 y2
  go_wp2_with fail
  have HCL := hideN (fun V (hV : Below w4.heap.size w4 V) => HK4.out.cells hV)
  obtain ⟨z0, z1, z2⟩ := HCL.out w4.drew (below_drewN (Below.refl _ _) 1)
  refine region_U (fin := 6) (S := fun V => V.cell? ⟨w.heap.size, 0, none⟩ = some (.int .i64 (vars : Int)) ∧ V.cell? ⟨w.heap.size, 1, none⟩ = some (.slice ao n cap) ∧ V.cell? ⟨w.heap.size, 2, none⟩ = some (.int .i64 ra)) (by kernel_rfl) ⟨z0, z1, z2⟩ (fun hHeld => ?_)
  clear hHeld
  refine takeU (i := 0) (v := .pointer (some ⟨w.heap.size, 0, none⟩)) rfl (by rfl) (by kernel_rfl) (by kernel_rfl) (by kernel_rfl) (by kernel_rfl) (by kernel_rfl) (fun _ _ _ h => h) (Or.inl ⟨by rfl, fun w hS => by obtain ⟨z0, z1, z2⟩ := hS; go_simp⟩) ⟨z0, z1, z2⟩ ?_
  simp only [List.getElem_toArray, List.getElem_cons_zero, Act.put, List.setIfInBounds_toArray, List.set_cons_zero, List.set_cons_succ]
  refine takeU (i := 1) (v := .int .i64 (vars : Int)) rfl (by rfl) (by kernel_rfl) (by kernel_rfl) (by kernel_rfl) (by kernel_rfl) (by kernel_rfl) (fun _ _ _ h => h) (Or.inl ⟨by rfl, fun w hS => by obtain ⟨z0, z1, z2⟩ := hS; go_simp⟩) ⟨z0, z1, z2⟩ ?_
  simp only [List.getElem_toArray, List.getElem_cons_zero, List.getElem_cons_succ, Act.put, List.setIfInBounds_toArray, List.set_cons_zero, List.set_cons_succ]
  refine takeU (i := 2) (v := .func (.func F4) #[] binds4) rfl (by rfl) (by kernel_rfl) (by kernel_rfl) (by kernel_rfl) (by kernel_rfl) (by kernel_rfl) (fun _ _ _ h => h) (Or.inl ⟨by rfl, fun w hS => by obtain ⟨z0, z1, z2⟩ := hS; go_simp⟩) ⟨z0, z1, z2⟩ ?_
  simp only [List.getElem_toArray, List.getElem_cons_zero, List.getElem_cons_succ, Act.put, List.setIfInBounds_toArray, List.set_cons_zero, List.set_cons_succ]
  refine takeU (i := 3) (v := .pointer (some ⟨w.heap.size, 0, none⟩)) rfl (by rfl) (by kernel_rfl) (by kernel_rfl) (by kernel_rfl) (by kernel_rfl) (by kernel_rfl) (fun _ _ _ h => h) (Or.inl ⟨by rfl, fun w hS => by obtain ⟨z0, z1, z2⟩ := hS; go_simp⟩) ⟨z0, z1, z2⟩ ?_
  simp only [List.getElem_toArray, List.getElem_cons_zero, List.getElem_cons_succ, Act.put, List.setIfInBounds_toArray, List.set_cons_zero, List.set_cons_succ]
  refine takeU (i := 4) (v := .int .i64 (vars : Int)) rfl (by rfl) (by kernel_rfl) (by kernel_rfl) (by kernel_rfl) (by kernel_rfl) (by kernel_rfl) (fun _ _ _ h => h) (Or.inl ⟨by rfl, fun w hS => by obtain ⟨z0, z1, z2⟩ := hS; go_simp⟩) ⟨z0, z1, z2⟩ ?_
  simp only [List.getElem_toArray, List.getElem_cons_zero, List.getElem_cons_succ, Act.put, List.setIfInBounds_toArray, List.set_cons_zero, List.set_cons_succ]
  refine oneU (i := 5) (by kernel_rfl) rfl (by rfl) ?_
  simp only [List.getElem_toArray, List.getElem_cons_zero, List.getElem_cons_succ]
  go_simp
  have hbd := below_drewN (Below.refl w4.heap.size w4) 1
  refine (table_any vars _ _ w4.drew h6 (HS4.out.below hbd)).mono ?_
  rintro e w5 hp
  obtain ⟨b5, k5, rfl, ht5, hlt5, hb5⟩ := tab_of_post hp
  have hb45 : Below w4.heap.size w4 w5 := belNext hbd hb5
  have HB5 := hideN (belNext HB4.out hb45)
  have HQ5 := hideN (HQ4.out.below hb45)
  have HT5 := hideN ht5
  refine ⟨HCL.out w5 hb45, ?_⟩
  clear hb5 hb45 hbd z0 z1 z2 hp ht5
  rw [← HNT.out] at HT5
  have HTL : Hid ((twoT op (vars : Int) na ra nb rb).length = 2 ^ vars) := by show _ = _; rw [HNT.out, tabF_length]
  generalize twoT op (vars : Int) na ra nb rb = T at *
  have HA := hideN (HANS.out T)
  clear HANS
  obtain ⟨M, hM⟩ : ∃ M, 2 ^ vars = M := ⟨_, rfl⟩
  rw [hM] at HTL ⊢
  have HM := hideN hM.symm
  clear hM
  refine oneU (i := 6) (by kernel_rfl) rfl (by rfl) ?_
  simp only [List.getElem_toArray, List.getElem_cons_zero, List.getElem_cons_succ]
  go_simp
  refine (drawnOf_any vars b5 0 k5 M T w5 h6 HTL.out HM.out HT5.out hlt5).mono ?_
  rintro e w6 ⟨aa, n6, c6, rfl, hn6, hr6, hb6⟩
  have HQ6 := hideN (HQ5.out.below hb6)
  have HB6 := hideN (belNext HB5.out hb6)
  have HL6 := hideN hn6
  generalize (drawB vars 0 T []).2 = x at *
  generalize (drawB vars 0 T []).1 = l at *
  have m0 := HQ6.out.c0
  have m1 := HQ6.out.c1
  have m2 := HQ6.out.c2
  have m3 := HQ6.out.f 0
  have m4 := HQ6.out.f 1
  have m5 := HQ6.out.f 2
  have m6 := HQ6.out.lt
  have HQ7 := hideN (HQ6.out.set (.int .i64 (vars : Int)) (.slice aa n6 c6) (.int .i64 x))
  have HR7 : Hid ((set3 w6 (w.heap.size + 1 + 1) (.int .i64 (vars : Int)) (.slice aa n6 c6) (.int .i64 x)).ownsRow w.heap.size 50 3 (.slice aa n6 c6) n6 (ndV l)) :=
    row_base (row_of_block hr6 (fun k e => set3_other _ _ _ (by have := (World.ownsRow.lt hr6 k e).1; have := HQ5.out.lt; omega))) HB5.out.size
  have HBE := hideN (set3_below HB6.out (show w.heap.size ≤ w.heap.size + 1 + 1 by omega) (.int .i64 (vars : Int)) (.slice aa n6 c6) (.int .i64 x))
  clear hr6 hb6 hn6
  refine oneU (i := 7) (by kernel_rfl) rfl (by rfl) ?_
  simp only [List.getElem_toArray, List.getElem_cons_zero, List.getElem_cons_succ]
  go_simp
  refine oneU (i := 8) (by kernel_rfl) rfl (by rfl) ?_
  simp only [List.getElem_toArray, List.getElem_cons_zero, List.getElem_cons_succ]
  go_simp
  refine doneU (by kernel_rfl) ?_ _
  go_wp2
  have u0 := HQ7.out.c0
  have u1 := HQ7.out.c1
  have u2 := HQ7.out.c2
  unfold set3 at u0 u1 u2
  exact bodyPost_ret (v := .tuple #[.agg #[.int .i64 (vars : Int), .slice aa n6 c6, .int .i64 x], .bool true]) (by simp [results, Try.results45, go_sem, u0, u1, u2]) rfl (by unfold TwoPost; rw [HA.out]; exact ⟨aa, n6, c6, rfl, HL6.out, HR7.out, HBE.out⟩)

end Go.Proofs.Ytknpifjkllcdeaa

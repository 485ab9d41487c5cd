/-
  What is said with a sign between two.
  A diagram of which a variable may be any: BddSome, of the program.
  A diagram of which a variable may be any: BddSome, of the model.
-/
import Derived.Test.YtknpifjkllcdeaaBdWp
namespace Go.Proofs.Ytknpifjkllcdeaa
open Go.RowKit Go.Deep
set_option linter.unusedVariables false

attribute [local go_sem] Oper.semAt_some

set_option maxRecDepth 100000 in
set_option maxHeartbeats 4000000 in
theorem orSays_any (vars Bl Br Bw off cap : Nat) (fl fr : Value) (gl gr : List Bool → Bool) (ws : List Bool) (W : World) (hl : W.cell? ⟨Bl, 0, none⟩ = some fl) (hr : W.cell? ⟨Br, 0, none⟩ = some fr)
    (sl : SaysF W fl vars gl) (sr : SaysF W fr vars gr) (hws : ws.length = vars) (hT : Tab W Bw off cap ws) :
    Calls Try.prog 114 #[.slice (some ⟨Bw, off, none⟩) vars cap, .pointer (some ⟨Bl, 0, none⟩), .pointer (some ⟨Br, 0, none⟩)] W fun e w' => e = .returned (.bool (gl ws || gr ws)) ∧ Below W.heap.size W w' := by
  have HLC := hideN hl
  have HRC := hideN hr
  have hlr := cell_lt hr
  obtain ⟨Fl, bl, rfl, hel, hcl⟩ := sl
  obtain ⟨Fr, br, rfl, her, hcr⟩ := sr
  have HL := hideN (hcl W (Below.refl _ _) Bw off cap ws hws hT)
  have HR := hideN (fun V (hV : Below W.heap.size W V) => hcr V hV Bw off cap ws hws ⟨hT.le, fun i hi => (hV.cell (cell_lt (hT.cell i hi))).trans (hT.cell i hi)⟩)
  clear hcl hcr hT
  cases hb : gl ws with
  | true =>
    rw [hb] at HL
    clear hb
    go_enter Try.func114, Try.ntmps114
    go_wp2_with fail
    refine HL.out.mono ?_
    rintro e w' ⟨rfl, hb'⟩
    have HB := hideN hb'
    clear hb'
    go_wp2_with fail
    go_ret
    exact ⟨rfl, HB.out⟩
  | false =>
    rw [hb] at HL
    clear hb
    go_enter Try.func114, Try.ntmps114
    go_wp2_with fail
    refine HL.out.mono ?_
    rintro e w' ⟨rfl, hb'⟩
    have HB := hideN hb'
    have hr2 := (hb'.cell hlr).trans HRC.out
    clear hb' hl hr
    go_wp2_with fail
    refine (HR.out w' HB.out).mono ?_
    rintro e w2 ⟨rfl, hb2⟩
    have HB2 := hideN (belNext HB.out hb2)
    clear hb2 hr2
    go_wp2_with fail
    go_ret
    exact ⟨by first | rfl | simp, HB2.out⟩

set_option maxRecDepth 100000 in
set_option maxHeartbeats 4000000 in
theorem signOr_any (vars : Nat) (fl fr : Value) (gl gr : List Bool → Bool) (W : World) (sl : SaysF W fl vars gl) (sr : SaysF W fr vars gr) :
    Calls Try.prog 91 #[.string { data := #[124] }, fl, fr] W fun e w' => ∃ fv, e = .returned (.tuple #[fv, .bool true]) ∧ SaysF w' fv vars (fun ws => gl ws || gr ws) ∧ Below W.heap.size W w' := by
  have SL := hideN sl
  have SR := hideN sr
  have hmf : ∀ (fn : Fn) (first cap : Array Value) (w : World), (Instr.makeFunc fn first cap).run Try.prog w = .ok (.func fn first cap) w := fun _ _ _ _ => rfl
  obtain ⟨Fl, bl, rfl, _, _⟩ := sl
  obtain ⟨Fr, br, rfl, _, _⟩ := sr
  go_enter Try.func91, Try.ntmps91
  go_wp2_with fail
  have hb1 := belOne W (.cells #[.func (.func Fl) #[] bl] 87)
  have hb2 := belOne (W.alloc (.cells #[.func (.func Fl) #[] bl] 87)) (.cells #[.func (.func Fr) #[] br] 87)
  have k1 := World.alloc_heap_new W (.cells #[.func (.func Fl) #[] bl] 87)
  have k2 := World.alloc_heap_new (W.alloc (.cells #[.func (.func Fl) #[] bl] 87)) (.cells #[.func (.func Fr) #[] br] 87)
  rw [World.size_alloc] at k2
  have hbl := belNext hb1 hb2
  have q1 := (hb2.block W.heap.size (by simp)).trans k1
  generalize ((W.alloc (.cells #[.func (.func Fl) #[] bl] 87)).alloc (.cells #[.func (.func Fr) #[] br] 87)) = W3 at *
  refine bodyPost_ret (v := .tuple #[.func (.func 114) #[] #[.pointer (some ⟨W.heap.size, 0, none⟩), .pointer (some ⟨W.heap.size + 1, 0, none⟩)], .bool true]) (by simp [results, Try.results91, go_sem]) rfl ⟨_, rfl, ⟨_, _, rfl, enters_of Try.func114 (by kernel_rfl) rfl, fun U hU Bw off cap ws hws hT => ?_⟩, hbl⟩
  have r1 := (hU.block _ (Array.getElem?_eq_some_iff.1 q1).1).trans q1
  have r2 := (hU.block _ (Array.getElem?_eq_some_iff.1 k2).1).trans k2
  exact orSays_any vars W.heap.size (W.heap.size + 1) Bw off cap _ _ gl gr ws U (by simp [World.cell?, r1]) (by simp [World.cell?, r2]) (SL.out.below (belNext hbl hU)) (SR.out.below (belNext hbl hU)) hws hT

end Go.Proofs.Ytknpifjkllcdeaa

namespace Go.Proofs.Ytknpifjkllcdeaa
open Go.RowKit Go.Deep
set_option linter.unusedVariables false

attribute [local go_sem] Oper.semAt_some
attribute [local go_sem] run_store_func

/-- What a diagram says of which a variable may be any, as a table. -/
def someT (vi : Int) (ns : List Nd) (root v : Int) : List Bool := tabF vi.toNat (fun ws => isN ns root (ws.set v.toNat false) || isN ns root (ws.set v.toNat true)) (2 ^ vi.toNat)

theorem someT_le {vi : Int} {ns : List Nd} {root v : Int} : (ansOf (bddB vi ns root && varB vi v) vi (someT vi ns root v)).2.1.length ≤ 64 := by
  cases h : bddB vi ns root with
  | false => simp [ansOf]
  | true =>
    obtain ⟨vars, rfl, h6, -⟩ := bdd_split h
    have h2 : 2 ^ vars ≤ 64 := by show _ ≤ 2 ^ 6; exact Nat.pow_le_pow_right (by decide) h6
    have h3 := drawB_len vars 0 (someT (vars : Int) ns root v) []
    unfold ansOf
    split
    · rw [Int.toNat_natCast]
      simp at h3 ⊢
      omega
    · simp

set_option maxRecDepth 100000 in
set_option maxHeartbeats 8000000 in
theorem implBddSome_any (vi root v : Int) (ao : Option Addr) (n cap : Nat) (ns : List Nd) (w : World) (hN : Nds w ao n cap ns) (h64 : ∀ q ∈ ns, I64N q) (hr : I64 root) :
    Calls Try.prog 54 #[.agg #[.int .i64 vi, .slice ao n cap, .int .i64 root], .int .i64 v] w (AnsPost (ansOf (bddB vi ns root && varB vi v) vi (someT vi ns root v)) w) := by
  have hmf : ∀ (fn : Fn) (first cap : Array Value) (w : World), (Instr.makeFunc fn first cap).run Try.prog w = .ok (.func fn first cap) w := fun _ _ _ _ => rfl
  obtain ⟨W1, hW1⟩ : ∃ W1, W1 = (w.alloc (.cells #[.int .i64 vi, .slice ao n cap, .int .i64 root] 25)).alloc (.cells #[.int .i64 0, .slice none 0 0, .int .i64 0] 25) := ⟨_, rfl⟩
  have HB1 : Hid (Below w.heap.size w W1) := by rw [hW1]; exact belNext (belOne _ _) (belOne _ _)
  have HK := hideN (show BlkD W1 w.heap.size (.int .i64 vi) (.slice ao n cap) (.int .i64 root) by rw [hW1]; exact (BlkD.new _ _ _ _).below (belOne _ _))
  have HQ : Hid (BlkD W1 (w.heap.size + 1) (.int .i64 0) (.slice none 0 0) (.int .i64 0)) := by
    have h := BlkD.new (w.alloc (.cells #[.int .i64 vi, .slice ao n cap, .int .i64 root] 25)) (.int .i64 0) (.slice none 0 0) (.int .i64 0)
    rw [World.size_alloc, ← hW1] at h
    exact h
  have HOK := hideN (implBddOk_any vi root ao n cap ns W1 (hN.below HB1.out) h64 hr)
  have HN := hideN (fun V (hV : Below w.heap.size w V) => hN.below hV)
  have HLEN := hideN hN.len
  have HW1 := hideN hW1
  have c0 := HK.out.c0
  have c1 := HK.out.c1
  have c2 := HK.out.c2
  have c3 := HK.out.lt
  clear hN hW1 h64 hr
  cases hbd : bddB vi ns root with
  | false =>
    rw [hbd] at HOK
    rw [Bool.false_and]
    clear hbd
    go_enter Try.func54, Try.ntmps54
    go_wp2_with fail
    rw [← HW1.out]
    refine HOK.out.mono ?_
    rintro e w1 ⟨rfl, hb⟩
    have HB := hideN (belNext HB1.out hb)
    have HQ1 := hideN (HQ.out.below hb)
    have m0 := HQ1.out.c0
    have m1 := HQ1.out.c1
    have m2 := HQ1.out.c2
    have m3 := HQ1.out.f 0
    have m4 := HQ1.out.f 1
    have m5 := HQ1.out.f 2
    have m6 := HQ1.out.lt
    clear hb c0 c1 c2 c3
    have HQ2 := hideN (HQ1.out.set (.int .i64 0) (.slice none 0 0) (.int .i64 0))
    have HBE := hideN (set3_below HB.out (show w.heap.size ≤ w.heap.size + 1 by omega) (.int .i64 0) (.slice none 0 0) (.int .i64 0))
    go_wp2
    have u0 := HQ2.out.c0
    have u1 := HQ2.out.c1
    have u2 := HQ2.out.c2
    unfold set3 at u0 u1 u2
    exact bodyPost_ret (v := .agg #[.int .i64 0, .slice none 0 0, .int .i64 0]) (by simp [results, Try.results54, go_sem, u0, u1, u2]) rfl ⟨none, 0, 0, rfl, rfl, World.ownsRow_nil _ _ _ _, HBE.out⟩
  | true =>
  obtain ⟨vars, rfl, h6, hn64, hok, hr0, hr1⟩ := bdd_split hbd
  have hn : n ≤ 64 := by rw [← HLEN.out]; exact hn64
  have hr1n : root < 2 + (n : Int) := by rw [← HLEN.out]; exact hr1
  have HOKN : Hid (∀ i, i < n → nodeB (vars : Int) ns i = true) := fun i hi => hok i (by have := HLEN.out; omega)
  rw [hbd] at HOK
  rw [Bool.true_and]
  clear hbd hok hn64 hr1
  cases hvb : varB (vars : Int) v with
  | false =>
    have HV0 : Hid ((decide (0 ≤ v) && decide (v < (vars : Int))) = false) := hvb
    clear hvb
    go_enter Try.func54, Try.ntmps54
    go_wp2_with fail
    rw [← HW1.out]
    refine HOK.out.mono ?_
    rintro e w0 ⟨rfl, hb0⟩
    have HB0 := hideN (belNext HB1.out hb0)
    have HK0 := hideN (HK.out.below hb0)
    have HQ0 := hideN (HQ.out.below hb0)
    clear hb0 c0 c1 c2 c3
    have c0 := HK0.out.c0
    have c1 := HK0.out.c1
    have c2 := HK0.out.c2
    have c3 := HK0.out.lt
    go_wp2_with fail
    refine (isVariable_any (vars : Int) root ao n cap v w0).mono ?_
    rintro e w1 ⟨he, hb⟩
    rw [HV0.out] at he
    subst he
    have HB := hideN (belNext HB0.out hb)
    have HQ1 := hideN (HQ0.out.below hb)
    have m0 := HQ1.out.c0
    have m1 := HQ1.out.c1
    have m2 := HQ1.out.c2
    have m3 := HQ1.out.f 0
    have m4 := HQ1.out.f 1
    have m5 := HQ1.out.f 2
    have m6 := HQ1.out.lt
    clear hb c0 c1 c2 c3
    have HQ2 := hideN (HQ1.out.set (.int .i64 0) (.slice none 0 0) (.int .i64 0))
    have HBE := hideN (set3_below HB.out (show w.heap.size ≤ w.heap.size + 1 by omega) (.int .i64 0) (.slice none 0 0) (.int .i64 0))
    go_wp2
    have u0 := HQ2.out.c0
    have u1 := HQ2.out.c1
    have u2 := HQ2.out.c2
    unfold set3 at u0 u1 u2
    exact bodyPost_ret (v := .agg #[.int .i64 0, .slice none 0 0, .int .i64 0]) (by simp [results, Try.results54, go_sem, u0, u1, u2]) rfl ⟨none, 0, 0, rfl, rfl, World.ownsRow_nil _ _ _ _, HBE.out⟩
  | true =>
  obtain ⟨hv0, hvv⟩ : 0 ≤ v ∧ v < (vars : Int) := by unfold varB at hvb; simpa using hvb
  obtain ⟨u, rfl⟩ : ∃ u : Nat, v = (u : Int) := ⟨v.toNat, by omega⟩
  have huv : u < vars := by omega
  have HV0 : Hid ((decide (0 ≤ (u : Int)) && decide ((u : Int) < (vars : Int))) = true) := hvb
  clear hvb hv0 hvv
  have HNT : Hid (someT (vars : Int) ns root (u : Int) = tabF vars (fun ws => isN ns root (ws.set u false) || isN ns root (ws.set u true)) (2 ^ vars)) := by show _ = _; unfold someT; rw [Int.toNat_natCast, Int.toNat_natCast]
  have HANS : Hid (∀ t, ansOf true (vars : Int) t = ((vars : Int), (drawB vars 0 t []).1, (drawB vars 0 t []).2)) := fun t => by unfold ansOf; rw [if_pos rfl, Int.toNat_natCast]
  go_enter Try.func54, Try.ntmps54
  go_wp2_with fail
  rw [← HW1.out]
  refine HOK.out.mono ?_
  rintro e w0 ⟨rfl, hb0⟩
  have HB0 := hideN (belNext HB1.out hb0)
  have HK0 := hideN (HK.out.below hb0)
  have HQ0 := hideN (HQ.out.below hb0)
  clear hb0 c0 c1 c2 c3
  have c0 := HK0.out.c0
  have c1 := HK0.out.c1
  have c2 := HK0.out.c2
  have c3 := HK0.out.lt
  go_wp2_with fail
  refine (isVariable_any (vars : Int) root ao n cap (u : Int) w0).mono ?_
  rintro e w1 ⟨he, hb⟩
  rw [HV0.out] at he
  subst he
  have HB := hideN (belNext HB0.out hb)
  have HK1 := hideN (HK0.out.below hb)
  have HQ1 := hideN (HQ0.out.below hb)
  clear hb c0 c1 c2 c3
  have c0 := HK1.out.c0
  have c1 := HK1.out.c1
  have c2 := HK1.out.c2
  have c3 := HK1.out.lt
  go_wp2_with fail
  refine (saysOf_any vars n cap root ao ns w1 (HN.out _ HB.out) hn HOKN.out hr0 hr1n).mono ?_
  rintro e w2 ⟨fv, rfl, hs, hb2⟩
  have HB2 := hideN (belNext HB.out hb2)
  have HK2 := hideN (HK1.out.below hb2)
  have HQ2 := hideN (HQ1.out.below hb2)
  have HS := hideN hs
  obtain ⟨F, binds, rfl, -⟩ := hs
  clear hb2 c0 c1 c2 c3
  go_wp2_with fail
  refine (with_any vars u false _ (isN ns root) w2 (by omega) huv HS.out).mono ?_
  rintro e w3 ⟨fv2, rfl, hs2, hb3⟩
  have HB3 := hideN (belNext HB2.out hb3)
  have HK3 := hideN (HK2.out.below hb3)
  have HQ3 := hideN (HQ2.out.below hb3)
  have HS3 := hideN (HS.out.below hb3)
  have HL := hideN hs2
  obtain ⟨F2, binds2, rfl, -⟩ := hs2
  clear hb3 HS
  go_wp2_with fail
  refine (with_any vars u true _ (isN ns root) w3 (by omega) huv HS3.out).mono ?_
  rintro e w3' ⟨fv3, rfl, hs3, hb3⟩
  have HB3' := hideN (belNext HB3.out hb3)
  have HK3' := hideN (HK3.out.below hb3)
  have HQ3' := hideN (HQ3.out.below hb3)
  have HL' := hideN (HL.out.below hb3)
  have HR' := hideN hs3
  obtain ⟨F3, binds3, rfl, -⟩ := hs3
  clear hb3 HL HS3
  go_wp2_with fail
  refine (signOr_any vars _ _ _ _ w3' HL'.out HR'.out).mono ?_
  rintro e W3 ⟨fv4, rfl, hs4, hb4⟩
  have HB3 := hideN (belNext HB3'.out hb4)
  have HK3 := hideN (HK3'.out.below hb4)
  have HQ3 := hideN (HQ3'.out.below hb4)
  have HS2 := hideN hs4
  obtain ⟨F4, binds4, rfl, -⟩ := hs4
  clear hb4 HL' HR'
  go_wp2_with fail
  have HCL := hideN (fun V (hV : Below W3.heap.size W3 V) => HK3.out.cells hV)
  obtain ⟨z0, z1, z2⟩ := HCL.out W3.drew (below_drewN (Below.refl _ _) 1)
  refine region_U (fin := 6) (S := fun V => V.cell? ⟨w.heap.size, 0, none⟩ = some (.int .i64 (vars : Int)) ∧ V.cell? ⟨w.heap.size, 1, none⟩ = some (.slice ao n cap) ∧ V.cell? ⟨w.heap.size, 2, none⟩ = some (.int .i64 root)) (by kernel_rfl) ⟨z0, z1, z2⟩ (fun hHeld => ?_)
  clear hHeld
  refine takeU (i := 0) (v := .pointer (some ⟨w.heap.size, 0, none⟩)) rfl (by rfl) (by kernel_rfl) (by kernel_rfl) (by kernel_rfl) (by kernel_rfl) (by kernel_rfl) (fun _ _ _ h => h) (Or.inl ⟨by rfl, fun w hS => by obtain ⟨z0, z1, z2⟩ := hS; go_simp⟩) ⟨z0, z1, z2⟩ ?_
  simp only [List.getElem_toArray, List.getElem_cons_zero, Act.put, List.setIfInBounds_toArray, List.set_cons_zero, List.set_cons_succ]
  refine takeU (i := 1) (v := .int .i64 (vars : Int)) rfl (by rfl) (by kernel_rfl) (by kernel_rfl) (by kernel_rfl) (by kernel_rfl) (by kernel_rfl) (fun _ _ _ h => h) (Or.inl ⟨by rfl, fun w hS => by obtain ⟨z0, z1, z2⟩ := hS; go_simp⟩) ⟨z0, z1, z2⟩ ?_
  simp only [List.getElem_toArray, List.getElem_cons_zero, List.getElem_cons_succ, Act.put, List.setIfInBounds_toArray, List.set_cons_zero, List.set_cons_succ]
  refine takeU (i := 2) (v := .func (.func F4) #[] binds4) rfl (by rfl) (by kernel_rfl) (by kernel_rfl) (by kernel_rfl) (by kernel_rfl) (by kernel_rfl) (fun _ _ _ h => h) (Or.inl ⟨by rfl, fun w hS => by obtain ⟨z0, z1, z2⟩ := hS; go_simp⟩) ⟨z0, z1, z2⟩ ?_
  simp only [List.getElem_toArray, List.getElem_cons_zero, List.getElem_cons_succ, Act.put, List.setIfInBounds_toArray, List.set_cons_zero, List.set_cons_succ]
  refine takeU (i := 3) (v := .pointer (some ⟨w.heap.size, 0, none⟩)) rfl (by rfl) (by kernel_rfl) (by kernel_rfl) (by kernel_rfl) (by kernel_rfl) (by kernel_rfl) (fun _ _ _ h => h) (Or.inl ⟨by rfl, fun w hS => by obtain ⟨z0, z1, z2⟩ := hS; go_simp⟩) ⟨z0, z1, z2⟩ ?_
  simp only [List.getElem_toArray, List.getElem_cons_zero, List.getElem_cons_succ, Act.put, List.setIfInBounds_toArray, List.set_cons_zero, List.set_cons_succ]
  refine takeU (i := 4) (v := .int .i64 (vars : Int)) rfl (by rfl) (by kernel_rfl) (by kernel_rfl) (by kernel_rfl) (by kernel_rfl) (by kernel_rfl) (fun _ _ _ h => h) (Or.inl ⟨by rfl, fun w hS => by obtain ⟨z0, z1, z2⟩ := hS; go_simp⟩) ⟨z0, z1, z2⟩ ?_
  simp only [List.getElem_toArray, List.getElem_cons_zero, List.getElem_cons_succ, Act.put, List.setIfInBounds_toArray, List.set_cons_zero, List.set_cons_succ]
  refine oneU (i := 5) (by kernel_rfl) rfl (by rfl) ?_
  simp only [List.getElem_toArray, List.getElem_cons_zero, List.getElem_cons_succ]
  go_simp
  have hbd := below_drewN (Below.refl W3.heap.size W3) 1
  refine (table_any vars _ _ W3.drew h6 (HS2.out.below hbd)).mono ?_
  rintro e w4 hp
  obtain ⟨b4, k4, rfl, ht4, hlt4, hb4⟩ := tab_of_post hp
  have hb34 : Below W3.heap.size W3 w4 := belNext hbd hb4
  have HB4 := hideN (belNext HB3.out hb34)
  have HQ4 := hideN (HQ3.out.below hb34)
  have HT4 := hideN ht4
  refine ⟨HCL.out w4 hb34, ?_⟩
  clear hb4 hb34 hbd z0 z1 z2 hp ht4
  rw [← HNT.out] at HT4
  have HTL : Hid ((someT (vars : Int) ns root (u : Int)).length = 2 ^ vars) := by show _ = _; rw [HNT.out, tabF_length]
  generalize someT (vars : Int) ns root (u : Int) = T at *
  have HA := hideN (HANS.out T)
  clear HANS
  obtain ⟨M, hM⟩ : ∃ M, 2 ^ vars = M := ⟨_, rfl⟩
  rw [hM] at HTL ⊢
  have HM := hideN hM.symm
  clear hM
  refine oneU (i := 6) (by kernel_rfl) rfl (by rfl) ?_
  simp only [List.getElem_toArray, List.getElem_cons_zero, List.getElem_cons_succ]
  go_simp
  refine (drawnOf_any vars b4 0 k4 M T w4 h6 HTL.out HM.out HT4.out hlt4).mono ?_
  rintro e w5 ⟨aa, n5, c5, rfl, hn5, hr5, hb5⟩
  have HQ5 := hideN (HQ4.out.below hb5)
  have HB5 := hideN (belNext HB4.out hb5)
  have HL5 := hideN hn5
  generalize (drawB vars 0 T []).2 = x at *
  generalize (drawB vars 0 T []).1 = l at *
  have m0 := HQ5.out.c0
  have m1 := HQ5.out.c1
  have m2 := HQ5.out.c2
  have m3 := HQ5.out.f 0
  have m4 := HQ5.out.f 1
  have m5 := HQ5.out.f 2
  have m6 := HQ5.out.lt
  have HQ6 := hideN (HQ5.out.set (.int .i64 (vars : Int)) (.slice aa n5 c5) (.int .i64 x))
  have HR6 : Hid ((set3 w5 (w.heap.size + 1) (.int .i64 (vars : Int)) (.slice aa n5 c5) (.int .i64 x)).ownsRow w.heap.size 50 3 (.slice aa n5 c5) n5 (ndV l)) :=
    row_base (row_of_block hr5 (fun k e => set3_other _ _ _ (by have := (World.ownsRow.lt hr5 k e).1; have := HQ4.out.lt; omega))) HB4.out.size
  have HBE := hideN (set3_below HB5.out (show w.heap.size ≤ w.heap.size + 1 by omega) (.int .i64 (vars : Int)) (.slice aa n5 c5) (.int .i64 x))
  clear hr5 hb5 hn5
  refine oneU (i := 7) (by kernel_rfl) rfl (by rfl) ?_
  simp only [List.getElem_toArray, List.getElem_cons_zero, List.getElem_cons_succ]
  go_simp
  refine doneU (by kernel_rfl) ?_ _
  go_wp2
  have u0 := HQ6.out.c0
  have u1 := HQ6.out.c1
  have u2 := HQ6.out.c2
  unfold set3 at u0 u1 u2
  exact bodyPost_ret (v := .agg #[.int .i64 (vars : Int), .slice aa n5 c5, .int .i64 x]) (by simp [results, Try.results54, go_sem, u0, u1, u2]) rfl (by unfold AnsPost; rw [HA.out]; exact ⟨aa, n5, c5, rfl, HL5.out, HR6.out, HBE.out⟩)

end Go.Proofs.Ytknpifjkllcdeaa

namespace Go.Proofs.Ytknpifjkllcdeaa
open Go.RowKit Go.Deep
set_option linter.unusedVariables false

attribute [local go_sem] Oper.semAt_some

theorem tabF_get (vars : Nat) (g : List Bool → Bool) (n i : Nat) (h : i < n) : (tabF vars g n).getD i false = g (wayL vars i) := by
  simp [tabF, List.getD, h]

set_option maxRecDepth 100000 in
set_option maxHeartbeats 8000000 in
theorem specBddSome_any (vi root v : Int) (ao : Option Addr) (n cap : Nat) (ns : List Nd) (w : World) (hN : Nds w ao n cap ns) (h64 : ∀ q ∈ ns, I64N q) (hr : I64 root) (hnl : n ≤ 4194304) :
    Calls Try.prog 55 #[.agg #[.int .i64 vi, .slice ao n cap, .int .i64 root], .int .i64 v] w (AnsPost (ansOf (bddB vi ns root && varB vi v) vi (someT vi ns root v)) w) := by
  have hmf : ∀ (fn : Fn) (first cap : Array Value) (w : World), (Instr.makeFunc fn first cap).run Try.prog w = .ok (.func fn first cap) w := fun _ _ _ _ => rfl
  obtain ⟨W1, hW1⟩ : ∃ W1, W1 = (w.alloc (.cells #[.int .i64 vi, .slice ao n cap, .int .i64 root] 25)).alloc (.cells #[.int .i64 0, .slice none 0 0, .int .i64 0] 25) := ⟨_, rfl⟩
  have HB1 : Hid (Below w.heap.size w W1) := by rw [hW1]; exact belNext (belOne _ _) (belOne _ _)
  have HK := hideN (show BlkD W1 w.heap.size (.int .i64 vi) (.slice ao n cap) (.int .i64 root) by rw [hW1]; exact (BlkD.new _ _ _ _).below (belOne _ _))
  have HQ : Hid (BlkD W1 (w.heap.size + 1) (.int .i64 0) (.slice none 0 0) (.int .i64 0)) := by
    have h := BlkD.new (w.alloc (.cells #[.int .i64 vi, .slice ao n cap, .int .i64 root] 25)) (.int .i64 0) (.slice none 0 0) (.int .i64 0)
    rw [World.size_alloc, ← hW1] at h
    exact h
  have HOK := hideN (specBddOk_any vi root ao n cap ns W1 (hN.below HB1.out) h64 hr hnl)
  have HN := hideN (fun V (hV : Below w.heap.size w V) => hN.below hV)
  have HLEN := hideN hN.len
  have HW1 := hideN hW1
  have c0 := HK.out.c0
  have c1 := HK.out.c1
  have c2 := HK.out.c2
  have c3 := HK.out.lt
  clear hN hW1 h64 hr
  cases hbd : bddB vi ns root with
  | false =>
    rw [hbd] at HOK
    rw [Bool.false_and]
    clear hbd
    go_enter Try.func55, Try.ntmps55
    go_wp2_with fail
    rw [← HW1.out]
    refine HOK.out.mono ?_
    rintro e w1 ⟨rfl, hb⟩
    have HB := hideN (belNext HB1.out hb)
    have HQ1 := hideN (HQ.out.below hb)
    have m0 := HQ1.out.c0
    have m1 := HQ1.out.c1
    have m2 := HQ1.out.c2
    have m3 := HQ1.out.f 0
    have m4 := HQ1.out.f 1
    have m5 := HQ1.out.f 2
    have m6 := HQ1.out.lt
    clear hb c0 c1 c2 c3
    have HQ2 := hideN (HQ1.out.set (.int .i64 0) (.slice none 0 0) (.int .i64 0))
    have HBE := hideN (set3_below HB.out (show w.heap.size ≤ w.heap.size + 1 by omega) (.int .i64 0) (.slice none 0 0) (.int .i64 0))
    go_wp2
    have u0 := HQ2.out.c0
    have u1 := HQ2.out.c1
    have u2 := HQ2.out.c2
    unfold set3 at u0 u1 u2
    exact bodyPost_ret (v := .agg #[.int .i64 0, .slice none 0 0, .int .i64 0]) (by simp [results, Try.results55, go_sem, u0, u1, u2]) rfl ⟨none, 0, 0, rfl, rfl, World.ownsRow_nil _ _ _ _, HBE.out⟩
  | true =>
  obtain ⟨vars, rfl, h6, hn64, hok, hr0, hr1⟩ := bdd_split hbd
  have hn : n ≤ 64 := by rw [← HLEN.out]; exact hn64
  have hr1n : root < 2 + (n : Int) := by rw [← HLEN.out]; exact hr1
  have HOKN : Hid (∀ i, i < n → nodeB (vars : Int) ns i = true) := fun i hi => hok i (by have := HLEN.out; omega)
  rw [hbd] at HOK
  rw [Bool.true_and]
  clear hbd hok hn64 hr1
  cases hvb : varB (vars : Int) v with
  | false =>
    have HV0 : Hid ((decide (0 ≤ v) && decide (v ≤ (vars : Int) - 1)) = false) := by
      show _ = _
      rw [← hvb]
      unfold varB
      congr 1
      exact decide_eq_decide.2 (by omega)
    clear hvb
    go_enter Try.func55, Try.ntmps55
    go_wp2_with fail
    rw [← HW1.out]
    refine HOK.out.mono ?_
    rintro e w0 ⟨rfl, hb0⟩
    have HB0 := hideN (belNext HB1.out hb0)
    have HK0 := hideN (HK.out.below hb0)
    have HQ0 := hideN (HQ.out.below hb0)
    clear hb0 c0 c1 c2 c3
    have c0 := HK0.out.c0
    have c1 := HK0.out.c1
    have c2 := HK0.out.c2
    have c3 := HK0.out.lt
    go_wp2_with fail
    refine (l1In_any v 0 ((vars : Int) - 1) w0).mono ?_
    rintro e w1 ⟨he, hww⟩
    have hb : Below w0.heap.size w0 w1 := by rw [hww]; exact Below.refl _ _
    clear hww
    rw [HV0.out] at he
    subst he
    have HB := hideN (belNext HB0.out hb)
    have HQ1 := hideN (HQ0.out.below hb)
    have m0 := HQ1.out.c0
    have m1 := HQ1.out.c1
    have m2 := HQ1.out.c2
    have m3 := HQ1.out.f 0
    have m4 := HQ1.out.f 1
    have m5 := HQ1.out.f 2
    have m6 := HQ1.out.lt
    clear hb c0 c1 c2 c3
    have HQ2 := hideN (HQ1.out.set (.int .i64 0) (.slice none 0 0) (.int .i64 0))
    have HBE := hideN (set3_below HB.out (show w.heap.size ≤ w.heap.size + 1 by omega) (.int .i64 0) (.slice none 0 0) (.int .i64 0))
    go_wp2
    have u0 := HQ2.out.c0
    have u1 := HQ2.out.c1
    have u2 := HQ2.out.c2
    unfold set3 at u0 u1 u2
    exact bodyPost_ret (v := .agg #[.int .i64 0, .slice none 0 0, .int .i64 0]) (by simp [results, Try.results55, go_sem, u0, u1, u2]) rfl ⟨none, 0, 0, rfl, rfl, World.ownsRow_nil _ _ _ _, HBE.out⟩
  | true =>
  obtain ⟨hv0, hvv⟩ : 0 ≤ v ∧ v < (vars : Int) := by unfold varB at hvb; simpa using hvb
  obtain ⟨u, rfl⟩ : ∃ u : Nat, v = (u : Int) := ⟨v.toNat, by omega⟩
  have huv : u < vars := by omega
  have HV0 : Hid ((decide (0 ≤ (u : Int)) && decide ((u : Int) ≤ (vars : Int) - 1)) = true) := by
    show _ = _
    rw [← hvb]
    unfold varB
    congr 1
    exact decide_eq_decide.2 (by omega)
  clear hvb hv0 hvv
  obtain ⟨M, hM⟩ : ∃ M, 2 ^ vars = M := ⟨_, rfl⟩
  have HM := hideN hM.symm
  have hM64 : M ≤ 64 := by rw [← hM]; show _ ≤ 2 ^ 6; exact Nat.pow_le_pow_right (by decide) h6
  have HTL : Hid ((someT (vars : Int) ns root (u : Int)).length = M) := by show _ = _; unfold someT; rw [tabF_length, Int.toNat_natCast, hM]
  have HNT : Hid (∀ i, i < M → (someT (vars : Int) ns root (u : Int)).getD i false = ((tabF vars (fun ws => isN ns root (ws.set u true)) M).getD i false || (tabF vars (fun ws => isN ns root (ws.set u false)) M).getD i false)) := fun i hi => by
    unfold someT
    rw [Int.toNat_natCast, Int.toNat_natCast, hM, tabF_get _ _ _ _ hi, tabF_get _ _ _ _ hi, tabF_get _ _ _ _ hi, Bool.or_comm]
  have HANS : Hid (∀ t, ansOf true (vars : Int) t = ((vars : Int), (drawB vars 0 t []).1, (drawB vars 0 t []).2)) := fun t => by unfold ansOf; rw [if_pos rfl, Int.toNat_natCast]
  go_enter Try.func55, Try.ntmps55
  go_wp2_with fail
  rw [← HW1.out]
  refine HOK.out.mono ?_
  rintro e w0 ⟨rfl, hb0⟩
  have HB0 := hideN (belNext HB1.out hb0)
  have HK0 := hideN (HK.out.below hb0)
  have HQ0 := hideN (HQ.out.below hb0)
  clear hb0 c0 c1 c2 c3
  have c0 := HK0.out.c0
  have c1 := HK0.out.c1
  have c2 := HK0.out.c2
  have c3 := HK0.out.lt
  go_wp2_with fail
  refine (l1In_any (u : Int) 0 ((vars : Int) - 1) w0).mono ?_
  rintro e w1 ⟨he, hww⟩
  have hb : Below w0.heap.size w0 w1 := by rw [hww]; exact Below.refl _ _
  clear hww
  rw [HV0.out] at he
  subst he
  have HB := hideN (belNext HB0.out hb)
  have HK1 := hideN (HK0.out.below hb)
  have HQ1 := hideN (HQ0.out.below hb)
  clear hb c0 c1 c2 c3
  have c0 := HK1.out.c0
  have c1 := HK1.out.c1
  have c2 := HK1.out.c2
  have c3 := HK1.out.lt
  have HW1S : Hid (w.heap.size + 1 < w1.heap.size) := HQ1.out.lt
  go_wp2_with fail
  refine (l11With_any vars u n cap true root ao ns w1 h6 (HN.out _ HB.out) hn HOKN.out hr0 hr1n huv).mono ?_
  rintro e w2 ⟨b, k2, rfl, hrow, hb2⟩
  rw [hM] at hrow ⊢
  have HROW := hideN hrow
  have HB2 := hideN (belNext HB.out hb2)
  have HK2 := hideN (HK1.out.below hb2)
  have HQ2 := hideN (HQ1.out.below hb2)
  have HBB : Hid (w1.heap.size ≤ b ∧ b < w2.heap.size) := World.ownsRow.lt hrow b rfl
  clear hb2 c0 c1 c2 c3 hrow
  have c0 := HK2.out.c0
  have c1 := HK2.out.c1
  have c2 := HK2.out.c2
  have c3 := HK2.out.lt
  go_wp2_with fail
  refine (l11With_any vars u n cap false root ao ns w2 h6 (HN.out _ HB2.out) hn HOKN.out hr0 hr1n huv).mono ?_
  rintro e w3 ⟨b2, k3, rfl, hrow2, hb3⟩
  rw [hM] at hrow2 ⊢
  have HB3 := hideN (belNext HB2.out hb3)
  have HK3 := hideN (HK2.out.below hb3)
  have HQ3 := hideN (HQ2.out.below hb3)
  have hb2B := World.ownsRow.lt hrow2 b2 rfl
  have HNE : Hid (b ≠ b2) := by have := HBB.out; show _ ≠ _; omega
  obtain ⟨hMc, f0, hf0, hv0⟩ := own_row (row_below HROW.out hb3)
  obtain ⟨hMc2, g0, hg0, hu0⟩ := own_row hrow2
  clear hb3 c0 c1 c2 c3 hrow2 HROW
  generalize someT (vars : Int) ns root (u : Int) = T at *
  generalize tabF vars (fun ws => isN ns root (ws.set u true)) M = t at *
  generalize tabF vars (fun ws => isN ns root (ws.set u false)) M = t2 at *
  have HA := hideN (HANS.out T)
  have HF0 := hideN hf0
  have HV0 := hideN hv0
  have HG0 := hideN hg0
  have HU0 := hideN hu0
  have HM2 := hideN hMc
  clear HANS hM hf0 hv0 hg0 hu0
  go_wp2_with fail
  go_loopw [7] (fun i wr => ∃ k : Nat, k ≤ M ∧ i = .int .i64 (k : Int) ∧ Hid (∃ f, wr.rowIs b 4 k2 f ∧ ∀ i, i < M → f i = .bool (if i < k then (t.getD i false || t2.getD i false) else t.getD i false)) ∧ Hid (Chg (· = b) w3 wr)) (fun i _ => M - (intOf i).toNat)
  case atStart => exact ⟨0, Nat.zero_le _, rfl, ⟨f0, HF0.out, fun i hi => by rw [if_neg (by omega)]; exact HV0.out i hi⟩, Chg.refl _ _⟩
  case round =>
    obtain ⟨k, hk, rfl, hf, hc⟩ := hrel
    by_cases hlt : k < M
    · obtain ⟨f, hrow, hv⟩ := hf.out
      have hg := HG0.out.of_block (hc.out.block b2 HG0.out.lt (fun e => HNE.out e.symm))
      have hx := hrow.cell (i := k) (by omega)
      rw [hv k hlt, if_neg (by omega)] at hx
      have hy := hg.cell (i := k) (by omega)
      rw [HU0.out k hlt] at hy
      have hfz := hrow.frozen k
      have hbl := hrow.lt
      have HV := hideN hv
      have HROW := hideN hrow
      have HST : Hid (∀ y, y = (t.getD k false || t2.getD k false) → ∃ f, (wr.setCell ⟨b, k, none⟩ (.bool y)).rowIs b 4 k2 f ∧ ∀ i, i < M → f i = .bool (if i < k + 1 then (t.getD i false || t2.getD i false) else t.getD i false)) := fun y hy => by
        refine ⟨_, hrow.set k (.bool y), fun i hi => ?_⟩
        by_cases e : i = k
        · subst e; rw [if_pos rfl, if_pos (by omega), hy]
        · rw [if_neg e, hv i hi]
          by_cases h2 : i < k
          · rw [if_pos h2, if_pos (by omega)]
          · rw [if_neg h2, if_neg (by omega)]
      clear hrow hv hf hg HROW HV
      generalize hp : t.getD k false = p at *
      generalize hq : t2.getD k false = q at *
      have HST2 := hideN HST.out
      clear hp hq HST
      cases p with
      | true =>
        go_wp2
        go_roundw
        case rel => exact ⟨k + 1, by omega, by go_num, HST2.out true (by simp), hc.out.trans (Chg.set _ _ _ _)⟩
        case measure => simp [intOf]; omega
      | false =>
        go_wp2
        go_roundw
        case rel => exact ⟨k + 1, by omega, by go_num, HST2.out q (by simp), hc.out.trans (Chg.set _ _ _ _)⟩
        case measure => simp [intOf]; omega
    · obtain rfl : k = M := by omega
      obtain ⟨f, hrow, hv⟩ := hf.out
      have HTAB : Hid (Tab wr b 0 k2 T) := by
        refine ⟨by rw [HTL.out]; exact HM2.out, fun i hi => ?_⟩
        rw [HTL.out] at hi
        rw [Nat.zero_add, hrow.cell (by have := HM2.out; omega), hv i hi, if_pos hi, HNT.out i hi]
      have hbl := hrow.lt
      have HKR : Hid (BlkD wr w.heap.size (.int .i64 (vars : Int)) (.slice ao n cap) (.int .i64 root)) := (hc.out.block _ HK3.out.lt (by have := HW1S.out; have := HBB.out; omega)).trans HK3.out
      have HQR : Hid (BlkD wr (w.heap.size + 1) (.int .i64 0) (.slice none 0 0) (.int .i64 0)) := (hc.out.block _ HQ3.out.lt (by have := HW1S.out; have := HBB.out; omega)).trans HQ3.out
      have HBR : Hid (Below w.heap.size w wr) := Chg.below HB3.out HB3.out.size hc.out (fun q e => by have := HW1S.out; have := HBB.out; omega)
      have c0 := HKR.out.c0
      have c3 := HKR.out.lt
      clear hrow hv hf hc
      go_wp2_with fail
      refine (l11Of_any vars b 0 k2 k T wr h6 HTL.out HM.out HTAB.out hbl).mono ?_
      rintro e w5 ⟨aa, n5, c5, rfl, hn5, hr5, hb5⟩
      have HQ5 := hideN (HQR.out.below hb5)
      have HB5 := hideN (belNext HBR.out hb5)
      have HL5 := hideN hn5
      generalize (drawB vars 0 T []).2 = x at *
      generalize (drawB vars 0 T []).1 = l at *
      have m0 := HQ5.out.c0
      have m1 := HQ5.out.c1
      have m2 := HQ5.out.c2
      have m3 := HQ5.out.f 0
      have m4 := HQ5.out.f 1
      have m5 := HQ5.out.f 2
      have m6 := HQ5.out.lt
      have HQ6 := hideN (HQ5.out.set (.int .i64 (vars : Int)) (.slice aa n5 c5) (.int .i64 x))
      have HR6 : Hid ((set3 w5 (w.heap.size + 1) (.int .i64 (vars : Int)) (.slice aa n5 c5) (.int .i64 x)).ownsRow w.heap.size 50 3 (.slice aa n5 c5) n5 (ndV l)) :=
        row_base (row_of_block hr5 (fun k e => set3_other _ _ _ (by have := (World.ownsRow.lt hr5 k e).1; have := HQR.out.lt; omega))) HBR.out.size
      have HBE := hideN (set3_below HB5.out (show w.heap.size ≤ w.heap.size + 1 by omega) (.int .i64 (vars : Int)) (.slice aa n5 c5) (.int .i64 x))
      clear hr5 hb5 hn5 c0 c3
      go_wp2
      have u0 := HQ6.out.c0
      have u1 := HQ6.out.c1
      have u2 := HQ6.out.c2
      unfold set3 at u0 u1 u2
      exact bodyPost_ret (v := .agg #[.int .i64 (vars : Int), .slice aa n5 c5, .int .i64 x]) (by simp [results, Try.results55, go_sem, u0, u1, u2]) rfl (by unfold AnsPost; rw [HA.out]; exact ⟨aa, n5, c5, rfl, HL5.out, HR6.out, HBE.out⟩)

end Go.Proofs.Ytknpifjkllcdeaa

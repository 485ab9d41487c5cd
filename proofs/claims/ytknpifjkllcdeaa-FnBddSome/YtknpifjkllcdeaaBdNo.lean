/-
  The opposite of a diagram: BddNot, of the program and of the model.
-/
import Derived.Test.YtknpifjkllcdeaaBdJ
import Derived.Test.YtknpifjkllcdeaaBdO
import Derived.Test.YtknpifjkllcdeaaBdS
namespace Go.Proofs.Ytknpifjkllcdeaa
open Go.RowKit Go.Deep
set_option linter.unusedVariables false

attribute [local go_sem] Oper.semAt_some

theorem run_store_func (P : Program) (w : World) (a : Addr) (m : Mode) (f : Fn) (x y : Array Value) : (store a (.func f x y) m).run P w = stored P w a (.func f x y) m := run_store P w a _ m rfl
attribute [local go_sem] run_store_func

/-- A table in memory, out of an answer that owns its memory. -/
theorem tab_of_post {vars : Nat} {g : List Bool → Bool} {w : World} {e : Ending} {w' : World} (h : TabPost vars g w e w') :
    ∃ b c, e = .returned (.slice (some ⟨b, 0, none⟩) (2 ^ vars) c) ∧ Tab w' b 0 c (tabF vars g (2 ^ vars)) ∧ b < w'.heap.size ∧ Below w.heap.size w w' := by
  obtain ⟨b, c, rfl, hrow, hb⟩ := h
  have hlt := (World.ownsRow.lt hrow b rfl).2
  refine ⟨b, c, rfl, ?_, hlt, hb⟩
  have hl : (tabF vars g (2 ^ vars)).length = 2 ^ vars := tabF_length vars g (2 ^ vars)
  have hob : Ownb w' w.heap.size (.slice (some ⟨b, 0, none⟩) (2 ^ vars) c) (tabF vars g (2 ^ vars)) := by unfold Ownb; rw [hl]; exact hrow
  obtain ⟨ao', cap', he, hc⟩ := hob.isBits
  injection he with e1 e2 e3
  subst e3
  have hpos : 0 < 2 ^ vars := Nat.pow_pos (by decide)
  obtain ⟨b', off, hab, hcc⟩ := hc (by intro e; rw [e] at hl; simp only [List.length_nil] at hl; omega)
  rw [← e1] at hab
  injection hab with hab
  injection hab with h1 h2
  subst h1 h2
  refine ⟨?_, hcc⟩
  rw [hl]
  rcases hrow.2 with ⟨h5, _⟩ | ⟨g', cap', cur, h5, _, _, hle, _⟩
  · cases h5
  · injection h5 with _ _ h6; omega

/-- An answer that is a diagram: of a table, if there is one. -/
def ansOf (ok : Bool) (vi : Int) (t : List Bool) : Int × List Nd × Int := if ok = true then (vi, (drawB vi.toNat 0 t []).1, (drawB vi.toNat 0 t []).2) else (0, [], 0)
def AnsPost (a : Int × List Nd × Int) (w : World) (e : Ending) (w' : World) : Prop := BddPost a.1 a.2.1 a.2.2 w e w'

/-- What a diagram's opposite says, as a table. -/
def notT (vi : Int) (ns : List Nd) (root : Int) : List Bool := tabF vi.toNat (fun ws => !(isN ns root ws)) (2 ^ vi.toNat)

set_option maxHeartbeats 2000000 in
theorem notSays_any (vars Bi Bw off cap : Nat) (fv : Value) (g : List Bool → Bool) (ws : List Bool) (W : World) (hi : W.cell? ⟨Bi, 0, none⟩ = some fv) (sg : SaysF W fv vars g) (hws : ws.length = vars) (hT : Tab W Bw off cap ws) :
    Calls Try.prog 90 #[.slice (some ⟨Bw, off, none⟩) vars cap, .pointer (some ⟨Bi, 0, none⟩)] W fun e w' => e = .returned (.bool (!(g ws))) ∧ Below W.heap.size W w' := by
  obtain ⟨F, binds, rfl, he, hc⟩ := sg
  have HC := hideN (hc W (Below.refl _ _) Bw off cap ws hws hT)
  clear hc hT
  go_enter Try.func90, Try.ntmps90
  go_wp2_with fail
  refine HC.out.mono ?_
  rintro e w' ⟨rfl, hb'⟩
  have HB := hideN hb'
  clear hb'
  go_wp2_with fail
  go_ret
  exact ⟨rfl, HB.out⟩

theorem not_says {vars : Nat} {fv : Value} {g : List Bool → Bool} {w : World} (t : TypeId) (h : SaysF w fv vars g) : SaysF (w.alloc (.cells #[fv] t)) (.func (.func 90) #[] #[.pointer (some ⟨w.heap.size, 0, none⟩)]) vars (fun ws => !(g ws)) := by
  refine ⟨_, _, rfl, enters_of Try.func90 (by kernel_rfl) rfl, fun U hU Bw off cap ws hws hT => ?_⟩
  have k1 := World.alloc_heap_new w (.cells #[fv] t)
  have r1 := (hU.block _ (Array.getElem?_eq_some_iff.1 k1).1).trans k1
  exact notSays_any vars w.heap.size Bw off cap fv g ws U (by simp [World.cell?, r1]) (h.below (belNext (belOne _ _) hU)) hws hT

set_option maxRecDepth 100000 in
set_option maxHeartbeats 8000000 in
theorem implBddNot_any (vi root : Int) (ao : Option Addr) (n cap : Nat) (ns : List Nd) (w : World) (hN : Nds w ao n cap ns) (h64 : ∀ q ∈ ns, I64N q) (hr : I64 root) :
    Calls Try.prog 43 #[.agg #[.int .i64 vi, .slice ao n cap, .int .i64 root]] w (AnsPost (ansOf (bddB vi ns root) vi (notT vi ns root)) w) := by
  have hmf : ∀ (fn : Fn) (first cap : Array Value) (w : World), (Instr.makeFunc fn first cap).run Try.prog w = .ok (.func fn first cap) w := fun _ _ _ _ => rfl
  obtain ⟨W1, hW1⟩ : ∃ W1, W1 = (w.alloc (.cells #[.int .i64 vi, .slice ao n cap, .int .i64 root] 25)).alloc (.cells #[.int .i64 0, .slice none 0 0, .int .i64 0] 25) := ⟨_, rfl⟩
  have HB1 : Hid (Below w.heap.size w W1) := by rw [hW1]; exact belNext (belOne _ _) (belOne _ _)
  have HK := hideN (show BlkD W1 w.heap.size (.int .i64 vi) (.slice ao n cap) (.int .i64 root) by rw [hW1]; exact (BlkD.new _ _ _ _).below (belOne _ _))
  have HQ : Hid (BlkD W1 (w.heap.size + 1) (.int .i64 0) (.slice none 0 0) (.int .i64 0)) := by
    have h := BlkD.new (w.alloc (.cells #[.int .i64 vi, .slice ao n cap, .int .i64 root] 25)) (.int .i64 0) (.slice none 0 0) (.int .i64 0)
    rw [World.size_alloc, ← hW1] at h
    exact h
  have HOK := hideN (implBddOk_any vi root ao n cap ns W1 (hN.below HB1.out) h64 hr)
  have HN := hideN (fun V (hV : Below w.heap.size w V) => hN.below hV)
  have HLEN := hideN hN.len
  have HW1 := hideN hW1
  have c0 := HK.out.c0
  have c1 := HK.out.c1
  have c2 := HK.out.c2
  have c3 := HK.out.lt
  clear hN hW1 h64 hr
  cases hbd : bddB vi ns root with
  | false =>
    rw [hbd] at HOK
    clear hbd
    go_enter Try.func43, Try.ntmps43
    go_wp2_with fail
    rw [← HW1.out]
    refine HOK.out.mono ?_
    rintro e w1 ⟨rfl, hb⟩
    have HB := hideN (belNext HB1.out hb)
    have HQ1 := hideN (HQ.out.below hb)
    have m0 := HQ1.out.c0
    have m1 := HQ1.out.c1
    have m2 := HQ1.out.c2
    have m3 := HQ1.out.f 0
    have m4 := HQ1.out.f 1
    have m5 := HQ1.out.f 2
    have m6 := HQ1.out.lt
    clear hb c0 c1 c2 c3
    have HQ2 := hideN (HQ1.out.set (.int .i64 0) (.slice none 0 0) (.int .i64 0))
    have HBE := hideN (set3_below HB.out (show w.heap.size ≤ w.heap.size + 1 by omega) (.int .i64 0) (.slice none 0 0) (.int .i64 0))
    go_wp2
    have u0 := HQ2.out.c0
    have u1 := HQ2.out.c1
    have u2 := HQ2.out.c2
    unfold set3 at u0 u1 u2
    exact bodyPost_ret (v := .agg #[.int .i64 0, .slice none 0 0, .int .i64 0]) (by simp [results, Try.results43, go_sem, u0, u1, u2]) rfl ⟨none, 0, 0, rfl, rfl, World.ownsRow_nil _ _ _ _, HBE.out⟩
  | true =>
  obtain ⟨vars, rfl, h6, hn64, hok, hr0, hr1⟩ := bdd_split hbd
  have hn : n ≤ 64 := by rw [← HLEN.out]; exact hn64
  have hr1n : root < 2 + (n : Int) := by rw [← HLEN.out]; exact hr1
  have HOKN : Hid (∀ i, i < n → nodeB (vars : Int) ns i = true) := fun i hi => hok i (by have := HLEN.out; omega)
  rw [hbd] at HOK
  have HNT : Hid (notT (vars : Int) ns root = tabF vars (fun ws => !(isN ns root ws)) (2 ^ vars)) := by show _ = _; unfold notT; rw [Int.toNat_natCast]
  have HANS : Hid (∀ t, ansOf true (vars : Int) t = ((vars : Int), (drawB vars 0 t []).1, (drawB vars 0 t []).2)) := fun t => by unfold ansOf; rw [if_pos rfl, Int.toNat_natCast]
  obtain ⟨g, hg⟩ : ∃ g, isN ns root = g := ⟨_, rfl⟩
  clear hbd hok hn64 hr1
  go_enter Try.func43, Try.ntmps43
  go_wp2_with fail
  rw [← HW1.out]
  refine HOK.out.mono ?_
  rintro e w1 ⟨rfl, hb⟩
  have HB := hideN (belNext HB1.out hb)
  have HK1 := hideN (HK.out.below hb)
  have HQ1 := hideN (HQ.out.below hb)
  clear hb c0 c1 c2 c3
  have c0 := HK1.out.c0
  have c1 := HK1.out.c1
  have c2 := HK1.out.c2
  have c3 := HK1.out.lt
  go_wp2_with fail
  refine (saysOf_any vars n cap root ao ns w1 (HN.out _ HB.out) hn HOKN.out hr0 hr1n).mono ?_
  rintro e w2 ⟨fv, rfl, hs, hb2⟩
  have HB2 := hideN (belNext HB.out hb2)
  have HK2 := hideN (HK1.out.below hb2)
  have HQ2 := hideN (HQ1.out.below hb2)
  have HS := hideN (not_says 87 hs)
  obtain ⟨F, binds, rfl, -⟩ := hs
  clear hb2 c0 c1 c2 c3
  go_wp2_with fail
  obtain ⟨W3, hW3⟩ : ∃ W3, W3 = w2.alloc (.cells #[.func (.func F) #[] binds] 87) := ⟨_, rfl⟩
  try rw [← hW3]
  rw [← hW3] at HS
  have hb23 : Below w2.heap.size w2 W3 := by rw [hW3]; exact belOne _ _
  have HB3 := hideN (belNext HB2.out hb23)
  have HK3 := hideN (HK2.out.below hb23)
  have HQ3 := hideN (HQ2.out.below hb23)
  clear hW3 hb23
  generalize w2.heap.size = s2 at *
  have HCL := hideN (fun V (hV : Below W3.heap.size W3 V) => HK3.out.cells hV)
  obtain ⟨z0, z1, z2⟩ := HCL.out W3.drew (below_drewN (Below.refl _ _) 1)
  refine region_U (fin := 6) (S := fun V => V.cell? ⟨w.heap.size, 0, none⟩ = some (.int .i64 (vars : Int)) ∧ V.cell? ⟨w.heap.size, 1, none⟩ = some (.slice ao n cap) ∧ V.cell? ⟨w.heap.size, 2, none⟩ = some (.int .i64 root)) (by kernel_rfl) ⟨z0, z1, z2⟩ (fun hHeld => ?_)
  clear hHeld
  refine takeU (i := 0) (v := .pointer (some ⟨w.heap.size, 0, none⟩)) rfl (by rfl) (by kernel_rfl) (by kernel_rfl) (by kernel_rfl) (by kernel_rfl) (by kernel_rfl) (fun _ _ _ h => h) (Or.inl ⟨by rfl, fun w hS => by obtain ⟨z0, z1, z2⟩ := hS; go_simp⟩) ⟨z0, z1, z2⟩ ?_
  simp only [List.getElem_toArray, List.getElem_cons_zero, Act.put, List.setIfInBounds_toArray, List.set_cons_zero, List.set_cons_succ]
  refine takeU (i := 1) (v := .int .i64 (vars : Int)) rfl (by rfl) (by kernel_rfl) (by kernel_rfl) (by kernel_rfl) (by kernel_rfl) (by kernel_rfl) (fun _ _ _ h => h) (Or.inl ⟨by rfl, fun w hS => by obtain ⟨z0, z1, z2⟩ := hS; go_simp⟩) ⟨z0, z1, z2⟩ ?_
  simp only [List.getElem_toArray, List.getElem_cons_zero, List.getElem_cons_succ, Act.put, List.setIfInBounds_toArray, List.set_cons_zero, List.set_cons_succ]
  refine takeU (i := 2) (v := .func (.func 90) #[] #[.pointer (some ⟨s2, 0, none⟩)]) rfl (by rfl) (by kernel_rfl) (by kernel_rfl) (by kernel_rfl) (by kernel_rfl) (by kernel_rfl) (fun _ _ _ h => h) (Or.inl ⟨by rfl, fun w hS => by obtain ⟨z0, z1, z2⟩ := hS; go_simp⟩) ⟨z0, z1, z2⟩ ?_
  simp only [List.getElem_toArray, List.getElem_cons_zero, List.getElem_cons_succ, Act.put, List.setIfInBounds_toArray, List.set_cons_zero, List.set_cons_succ]
  refine takeU (i := 3) (v := .pointer (some ⟨w.heap.size, 0, none⟩)) rfl (by rfl) (by kernel_rfl) (by kernel_rfl) (by kernel_rfl) (by kernel_rfl) (by kernel_rfl) (fun _ _ _ h => h) (Or.inl ⟨by rfl, fun w hS => by obtain ⟨z0, z1, z2⟩ := hS; go_simp⟩) ⟨z0, z1, z2⟩ ?_
  simp only [List.getElem_toArray, List.getElem_cons_zero, List.getElem_cons_succ, Act.put, List.setIfInBounds_toArray, List.set_cons_zero, List.set_cons_succ]
  refine takeU (i := 4) (v := .int .i64 (vars : Int)) rfl (by rfl) (by kernel_rfl) (by kernel_rfl) (by kernel_rfl) (by kernel_rfl) (by kernel_rfl) (fun _ _ _ h => h) (Or.inl ⟨by rfl, fun w hS => by obtain ⟨z0, z1, z2⟩ := hS; go_simp⟩) ⟨z0, z1, z2⟩ ?_
  simp only [List.getElem_toArray, List.getElem_cons_zero, List.getElem_cons_succ, Act.put, List.setIfInBounds_toArray, List.set_cons_zero, List.set_cons_succ]
  refine oneU (i := 5) (by kernel_rfl) rfl (by rfl) ?_
  simp only [List.getElem_toArray, List.getElem_cons_zero, List.getElem_cons_succ]
  go_simp
  have hbd := below_drewN (Below.refl W3.heap.size W3) 1
  refine (table_any vars _ _ W3.drew h6 (HS.out.below hbd)).mono ?_
  rintro e w4 hp
  obtain ⟨b4, k4, rfl, ht4, hlt4, hb4⟩ := tab_of_post hp
  have hb34 : Below W3.heap.size W3 w4 := belNext hbd hb4
  have HB4 := hideN (belNext HB3.out hb34)
  have HQ4 := hideN (HQ3.out.below hb34)
  have HT4 := hideN ht4
  refine ⟨HCL.out w4 hb34, ?_⟩
  clear hbd hb4 hb34 z0 z1 z2 hp ht4
  rw [← HNT.out] at HT4
  have HTL : Hid ((notT (vars : Int) ns root).length = 2 ^ vars) := by show _ = _; rw [HNT.out, tabF_length]
  generalize notT (vars : Int) ns root = T at *
  have HA := hideN (HANS.out T)
  clear HANS
  obtain ⟨M, hM⟩ : ∃ M, 2 ^ vars = M := ⟨_, rfl⟩
  rw [hM] at HTL ⊢
  have HM := hideN hM.symm
  clear hM
  refine oneU (i := 6) (by kernel_rfl) rfl (by rfl) ?_
  simp only [List.getElem_toArray, List.getElem_cons_zero, List.getElem_cons_succ]
  go_simp
  refine (drawnOf_any vars b4 0 k4 M T w4 h6 HTL.out HM.out HT4.out hlt4).mono ?_
  rintro e w5 ⟨aa, n5, c5, rfl, hn5, hr5, hb5⟩
  have HQ5 := hideN (HQ4.out.below hb5)
  have HB5 := hideN (belNext HB4.out hb5)
  have HL5 := hideN hn5
  generalize (drawB vars 0 T []).2 = x at *
  generalize (drawB vars 0 T []).1 = l at *
  have m0 := HQ5.out.c0
  have m1 := HQ5.out.c1
  have m2 := HQ5.out.c2
  have m3 := HQ5.out.f 0
  have m4 := HQ5.out.f 1
  have m5 := HQ5.out.f 2
  have m6 := HQ5.out.lt
  have HQ6 := hideN (HQ5.out.set (.int .i64 (vars : Int)) (.slice aa n5 c5) (.int .i64 x))
  have HR6 : Hid ((set3 w5 (w.heap.size + 1) (.int .i64 (vars : Int)) (.slice aa n5 c5) (.int .i64 x)).ownsRow w.heap.size 50 3 (.slice aa n5 c5) n5 (ndV l)) :=
    row_base (row_of_block hr5 (fun k e => set3_other _ _ _ (by have := (World.ownsRow.lt hr5 k e).1; have := HQ4.out.lt; omega))) HB4.out.size
  have HBE := hideN (set3_below HB5.out (show w.heap.size ≤ w.heap.size + 1 by omega) (.int .i64 (vars : Int)) (.slice aa n5 c5) (.int .i64 x))
  clear hr5 hb5 hn5
  refine oneU (i := 7) (by kernel_rfl) rfl (by rfl) ?_
  simp only [List.getElem_toArray, List.getElem_cons_zero, List.getElem_cons_succ]
  go_simp
  refine doneU (by kernel_rfl) ?_ _
  go_wp2
  have u0 := HQ6.out.c0
  have u1 := HQ6.out.c1
  have u2 := HQ6.out.c2
  unfold set3 at u0 u1 u2
  exact bodyPost_ret (v := .agg #[.int .i64 (vars : Int), .slice aa n5 c5, .int .i64 x]) (by simp [results, Try.results43, go_sem, u0, u1, u2]) rfl (by unfold AnsPost; rw [HA.out]; exact ⟨aa, n5, c5, rfl, HL5.out, HR6.out, HBE.out⟩)

end Go.Proofs.Ytknpifjkllcdeaa

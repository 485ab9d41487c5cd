/-
  What is said with a sign between two: both, the same.
  What is said with a sign between two, by the program's table of signs.
  A sign as what it does with two truths; what is said with it between two, or that it is none.
-/
import Derived.Test.YtknpifjkllcdeaaBdSp
import Derived.Laws.Strings
namespace Go.Proofs.Ytknpifjkllcdeaa
open Go.RowKit Go.Deep
set_option linter.unusedVariables false

attribute [local go_sem] Oper.semAt_some

set_option maxRecDepth 100000 in
set_option maxHeartbeats 4000000 in
theorem andSays_any (vars Bl Br Bw off cap : Nat) (fl fr : Value) (gl gr : List Bool → Bool) (ws : List Bool) (W : World) (hl : W.cell? ⟨Bl, 0, none⟩ = some fl) (hr : W.cell? ⟨Br, 0, none⟩ = some fr)
    (sl : SaysF W fl vars gl) (sr : SaysF W fr vars gr) (hws : ws.length = vars) (hT : Tab W Bw off cap ws) :
    Calls Try.prog 113 #[.slice (some ⟨Bw, off, none⟩) vars cap, .pointer (some ⟨Bl, 0, none⟩), .pointer (some ⟨Br, 0, none⟩)] W fun e w' => e = .returned (.bool (gl ws && gr ws)) ∧ Below W.heap.size W w' := by
  have HLC := hideN hl
  have HRC := hideN hr
  have hlr := cell_lt hr
  obtain ⟨Fl, bl, rfl, hel, hcl⟩ := sl
  obtain ⟨Fr, br, rfl, her, hcr⟩ := sr
  have HL := hideN (hcl W (Below.refl _ _) Bw off cap ws hws hT)
  have HR := hideN (fun V (hV : Below W.heap.size W V) => hcr V hV Bw off cap ws hws ⟨hT.le, fun i hi => (hV.cell (cell_lt (hT.cell i hi))).trans (hT.cell i hi)⟩)
  clear hcl hcr hT
  cases hb : gl ws with
  | false =>
    rw [hb] at HL
    clear hb
    go_enter Try.func113, Try.ntmps113
    go_wp2_with fail
    refine HL.out.mono ?_
    rintro e w' ⟨rfl, hb'⟩
    have HB := hideN hb'
    clear hb'
    go_wp2_with fail
    go_ret
    exact ⟨rfl, HB.out⟩
  | true =>
    rw [hb] at HL
    clear hb
    go_enter Try.func113, Try.ntmps113
    go_wp2_with fail
    refine HL.out.mono ?_
    rintro e w' ⟨rfl, hb'⟩
    have HB := hideN hb'
    have hr2 := (hb'.cell hlr).trans HRC.out
    clear hb' hl hr
    go_wp2_with fail
    refine (HR.out w' HB.out).mono ?_
    rintro e w2 ⟨rfl, hb2⟩
    have HB2 := hideN (belNext HB.out hb2)
    clear hb2 hr2
    go_wp2_with fail
    go_ret
    exact ⟨by first | rfl | simp, HB2.out⟩

set_option maxRecDepth 100000 in
set_option maxHeartbeats 4000000 in
theorem eqSays_any (vars Bl Br Bw off cap : Nat) (fl fr : Value) (gl gr : List Bool → Bool) (ws : List Bool) (W : World) (hl : W.cell? ⟨Bl, 0, none⟩ = some fl) (hr : W.cell? ⟨Br, 0, none⟩ = some fr)
    (sl : SaysF W fl vars gl) (sr : SaysF W fr vars gr) (hws : ws.length = vars) (hT : Tab W Bw off cap ws) :
    Calls Try.prog 115 #[.slice (some ⟨Bw, off, none⟩) vars cap, .pointer (some ⟨Bl, 0, none⟩), .pointer (some ⟨Br, 0, none⟩)] W fun e w' => e = .returned (.bool (gl ws == gr ws)) ∧ Below W.heap.size W w' := by
  have HCL := hideN (fun V (hV : Below W.heap.size W V) => (⟨(hV.cell (cell_lt hl)).trans hl, (hV.cell (cell_lt hr)).trans hr⟩ : V.cell? ⟨Bl, 0, none⟩ = some fl ∧ V.cell? ⟨Br, 0, none⟩ = some fr))
  obtain ⟨Fl, bl, rfl, hel, hcl⟩ := sl
  obtain ⟨Fr, br, rfl, her, hcr⟩ := sr
  have HL := hideN (fun V (hV : Below W.heap.size W V) => hcl V hV Bw off cap ws hws ⟨hT.le, fun i hi => (hV.cell (cell_lt (hT.cell i hi))).trans (hT.cell i hi)⟩)
  have HR := hideN (fun V (hV : Below W.heap.size W V) => hcr V hV Bw off cap ws hws ⟨hT.le, fun i hi => (hV.cell (cell_lt (hT.cell i hi))).trans (hT.cell i hi)⟩)
  clear hcl hcr hT hl hr
  generalize gl ws = p at *
  generalize gr ws = q at *
  go_enter Try.func115, Try.ntmps115
  go_wp2_with fail
  have hbd := below_drewN (Below.refl W.heap.size W) 1
  obtain ⟨z0, z1⟩ := HCL.out W.drew hbd
  refine region_U (fin := 5) (S := fun V => V.cell? ⟨Bl, 0, none⟩ = some (.func (.func Fl) #[] bl) ∧ V.cell? ⟨Br, 0, none⟩ = some (.func (.func Fr) #[] br)) (by kernel_rfl) ⟨z0, z1⟩ (fun hHeld => ?_)
  clear hHeld
  refine takeU (i := 0) (v := .func (.func Fl) #[] bl) rfl (by rfl) (by kernel_rfl) (by kernel_rfl) (by kernel_rfl) (by kernel_rfl) (by kernel_rfl) (fun _ _ _ h => h) (Or.inl ⟨by rfl, fun w hS => by obtain ⟨z0, z1⟩ := hS; go_simp⟩) ⟨z0, z1⟩ ?_
  simp only [List.getElem_toArray, List.getElem_cons_zero, Act.put, List.setIfInBounds_toArray, List.set_cons_zero, List.set_cons_succ]
  refine takeU (i := 1) (v := .slice (some ⟨Bw, off, none⟩) vars cap) rfl (by rfl) (by kernel_rfl) (by kernel_rfl) (by kernel_rfl) (by kernel_rfl) (by kernel_rfl) (fun _ _ _ h => h) (Or.inl ⟨by rfl, fun w hS => by obtain ⟨z0, z1⟩ := hS; go_simp⟩) ⟨z0, z1⟩ ?_
  simp only [List.getElem_toArray, List.getElem_cons_zero, List.getElem_cons_succ, Act.put, List.setIfInBounds_toArray, List.set_cons_zero, List.set_cons_succ]
  refine takeU (i := 3) (v := .func (.func Fr) #[] br) rfl (by rfl) (by kernel_rfl) (by kernel_rfl) (by kernel_rfl) (by kernel_rfl) (by kernel_rfl) (fun _ _ _ h => h) (Or.inl ⟨by rfl, fun w hS => by obtain ⟨z0, z1⟩ := hS; go_simp⟩) ⟨z0, z1⟩ ?_
  simp only [List.getElem_toArray, List.getElem_cons_zero, List.getElem_cons_succ, Act.put, List.setIfInBounds_toArray, List.set_cons_zero, List.set_cons_succ]
  refine takeU (i := 4) (v := .slice (some ⟨Bw, off, none⟩) vars cap) rfl (by rfl) (by kernel_rfl) (by kernel_rfl) (by kernel_rfl) (by kernel_rfl) (by kernel_rfl) (fun _ _ _ h => h) (Or.inl ⟨by rfl, fun w hS => by obtain ⟨z0, z1⟩ := hS; go_simp⟩) ⟨z0, z1⟩ ?_
  simp only [List.getElem_toArray, List.getElem_cons_zero, List.getElem_cons_succ, Act.put, List.setIfInBounds_toArray, List.set_cons_zero, List.set_cons_succ]
  refine oneU (i := 2) (by kernel_rfl) rfl (by rfl) ?_
  simp only [List.getElem_toArray, List.getElem_cons_zero, List.getElem_cons_succ]
  go_simp
  refine (HL.out W.drew hbd).mono ?_
  rintro e w2 ⟨rfl, hb2⟩
  have HB2 := hideN (belNext hbd hb2)
  refine ⟨HCL.out w2 HB2.out, ?_⟩
  clear hb2 z0 z1 hbd
  refine oneU (i := 5) (by kernel_rfl) rfl (by rfl) ?_
  simp only [List.getElem_toArray, List.getElem_cons_zero, List.getElem_cons_succ]
  go_simp
  refine (HR.out w2 HB2.out).mono ?_
  rintro e w3 ⟨rfl, hb3⟩
  have HB3 := hideN (belNext HB2.out hb3)
  clear hb3
  refine oneU (i := 6) (by kernel_rfl) rfl (by rfl) ?_
  simp only [List.getElem_toArray, List.getElem_cons_zero, List.getElem_cons_succ]
  go_simp
  refine oneU (i := 7) (by kernel_rfl) rfl (by rfl) ?_
  simp only [List.getElem_toArray, List.getElem_cons_zero, List.getElem_cons_succ]
  go_simp
  refine doneU (by kernel_rfl) ?_ _
  go_wp2_with fail
  go_ret
  exact ⟨by first | rfl | simp, HB3.out⟩

end Go.Proofs.Ytknpifjkllcdeaa

namespace Go.Proofs.Ytknpifjkllcdeaa
open Go.RowKit Go.Deep
set_option linter.unusedVariables false

attribute [local go_sem] Oper.semAt_some

set_option maxRecDepth 100000 in
set_option maxHeartbeats 4000000 in
theorem signAnd_any (vars : Nat) (fl fr : Value) (gl gr : List Bool → Bool) (W : World) (sl : SaysF W fl vars gl) (sr : SaysF W fr vars gr) :
    Calls Try.prog 91 #[.string { data := #[38] }, fl, fr] W fun e w' => ∃ fv, e = .returned (.tuple #[fv, .bool true]) ∧ SaysF w' fv vars (fun ws => gl ws && gr ws) ∧ Below W.heap.size W w' := by
  have SL := hideN sl
  have SR := hideN sr
  have hmf : ∀ (fn : Fn) (first cap : Array Value) (w : World), (Instr.makeFunc fn first cap).run Try.prog w = .ok (.func fn first cap) w := fun _ _ _ _ => rfl
  obtain ⟨Fl, bl, rfl, _, _⟩ := sl
  obtain ⟨Fr, br, rfl, _, _⟩ := sr
  go_enter Try.func91, Try.ntmps91
  go_wp2_with fail
  have hb1 := belOne W (.cells #[.func (.func Fl) #[] bl] 87)
  have hb2 := belOne (W.alloc (.cells #[.func (.func Fl) #[] bl] 87)) (.cells #[.func (.func Fr) #[] br] 87)
  have k1 := World.alloc_heap_new W (.cells #[.func (.func Fl) #[] bl] 87)
  have k2 := World.alloc_heap_new (W.alloc (.cells #[.func (.func Fl) #[] bl] 87)) (.cells #[.func (.func Fr) #[] br] 87)
  rw [World.size_alloc] at k2
  have hbl := belNext hb1 hb2
  have q1 := (hb2.block W.heap.size (by simp)).trans k1
  generalize ((W.alloc (.cells #[.func (.func Fl) #[] bl] 87)).alloc (.cells #[.func (.func Fr) #[] br] 87)) = W3 at *
  refine bodyPost_ret (v := .tuple #[.func (.func 113) #[] #[.pointer (some ⟨W.heap.size, 0, none⟩), .pointer (some ⟨W.heap.size + 1, 0, none⟩)], .bool true]) (by simp [results, Try.results91, go_sem]) rfl ⟨_, rfl, ⟨_, _, rfl, enters_of Try.func113 (by kernel_rfl) rfl, fun U hU Bw off cap ws hws hT => ?_⟩, hbl⟩
  have r1 := (hU.block _ (Array.getElem?_eq_some_iff.1 q1).1).trans q1
  have r2 := (hU.block _ (Array.getElem?_eq_some_iff.1 k2).1).trans k2
  exact andSays_any vars W.heap.size (W.heap.size + 1) Bw off cap _ _ gl gr ws U (by simp [World.cell?, r1]) (by simp [World.cell?, r2]) (SL.out.below (belNext hbl hU)) (SR.out.below (belNext hbl hU)) hws hT

set_option maxRecDepth 100000 in
set_option maxHeartbeats 4000000 in
theorem signEq_any (vars : Nat) (fl fr : Value) (gl gr : List Bool → Bool) (W : World) (sl : SaysF W fl vars gl) (sr : SaysF W fr vars gr) :
    Calls Try.prog 91 #[.string { data := #[61] }, fl, fr] W fun e w' => ∃ fv, e = .returned (.tuple #[fv, .bool true]) ∧ SaysF w' fv vars (fun ws => gl ws == gr ws) ∧ Below W.heap.size W w' := by
  have SL := hideN sl
  have SR := hideN sr
  have hmf : ∀ (fn : Fn) (first cap : Array Value) (w : World), (Instr.makeFunc fn first cap).run Try.prog w = .ok (.func fn first cap) w := fun _ _ _ _ => rfl
  obtain ⟨Fl, bl, rfl, _, _⟩ := sl
  obtain ⟨Fr, br, rfl, _, _⟩ := sr
  go_enter Try.func91, Try.ntmps91
  go_wp2_with fail
  have hb1 := belOne W (.cells #[.func (.func Fl) #[] bl] 87)
  have hb2 := belOne (W.alloc (.cells #[.func (.func Fl) #[] bl] 87)) (.cells #[.func (.func Fr) #[] br] 87)
  have k1 := World.alloc_heap_new W (.cells #[.func (.func Fl) #[] bl] 87)
  have k2 := World.alloc_heap_new (W.alloc (.cells #[.func (.func Fl) #[] bl] 87)) (.cells #[.func (.func Fr) #[] br] 87)
  rw [World.size_alloc] at k2
  have hbl := belNext hb1 hb2
  have q1 := (hb2.block W.heap.size (by simp)).trans k1
  generalize ((W.alloc (.cells #[.func (.func Fl) #[] bl] 87)).alloc (.cells #[.func (.func Fr) #[] br] 87)) = W3 at *
  refine bodyPost_ret (v := .tuple #[.func (.func 115) #[] #[.pointer (some ⟨W.heap.size, 0, none⟩), .pointer (some ⟨W.heap.size + 1, 0, none⟩)], .bool true]) (by simp [results, Try.results91, go_sem]) rfl ⟨_, rfl, ⟨_, _, rfl, enters_of Try.func115 (by kernel_rfl) rfl, fun U hU Bw off cap ws hws hT => ?_⟩, hbl⟩
  have r1 := (hU.block _ (Array.getElem?_eq_some_iff.1 q1).1).trans q1
  have r2 := (hU.block _ (Array.getElem?_eq_some_iff.1 k2).1).trans k2
  exact eqSays_any vars W.heap.size (W.heap.size + 1) Bw off cap _ _ gl gr ws U (by simp [World.cell?, r1]) (by simp [World.cell?, r2]) (SL.out.below (belNext hbl hU)) (SR.out.below (belNext hbl hU)) hws hT

set_option maxRecDepth 100000 in
set_option maxHeartbeats 4000000 in
theorem signNone_any (sg : ByteArray) (vars : Nat) (fl fr : Value) (gl gr : List Bool → Bool) (W : World) (sl : SaysF W fl vars gl) (sr : SaysF W fr vars gr) (h1 : (sg.toList == [38]) = false) (h2 : (sg.toList == [124]) = false) (h3 : (sg.toList == [61]) = false) :
    Calls Try.prog 91 #[.string sg, fl, fr] W fun e w' => e = .returned (.tuple #[.nilFunc, .bool false]) ∧ Below W.heap.size W w' := by
  obtain ⟨Fl, bl, rfl, _, _⟩ := sl
  obtain ⟨Fr, br, rfl, _, _⟩ := sr
  go_enter Try.func91, Try.ntmps91
  go_wp2_with fail
  exact bodyPost_ret (v := .tuple #[.nilFunc, .bool false]) (by simp [results, Try.results91, go_sem]) rfl ⟨rfl, belNext (belOne _ _) (belOne _ _)⟩

end Go.Proofs.Ytknpifjkllcdeaa

namespace Go.Proofs.Ytknpifjkllcdeaa
open Go.RowKit Go.Deep
set_option linter.unusedVariables false

/-- What a sign does; none of other texts. -/
def opOf (sg : ByteArray) : Option (Bool → Bool → Bool) := if (sg.toList == [38]) = true then some (fun a b => a && b) else if (sg.toList == [124]) = true then some (fun a b => a || b) else if (sg.toList == [61]) = true then some (fun a b => a == b) else none

theorem sign_eq {sg : ByteArray} {x : UInt8} (h : (sg.toList == [x]) = true) : sg = { data := #[x] } := by
  have h1 : sg.toList = [x] := by simpa using h
  rw [ByteArray.toList_eq] at h1
  have h3 : sg.data = #[x] := Array.toList_inj.1 (by simpa using h1)
  cases sg
  simp at h3
  rw [h3]

theorem sign_some (sg : ByteArray) (op : Bool → Bool → Bool) (ho : opOf sg = some op) (vars : Nat) (fl fr : Value) (gl gr : List Bool → Bool) (W : World) (sl : SaysF W fl vars gl) (sr : SaysF W fr vars gr) :
    Calls Try.prog 91 #[.string sg, fl, fr] W fun e w' => ∃ fv, e = .returned (.tuple #[fv, .bool true]) ∧ SaysF w' fv vars (fun ws => op (gl ws) (gr ws)) ∧ Below W.heap.size W w' := by
  unfold opOf at ho
  by_cases h1 : (sg.toList == [38]) = true
  · rw [if_pos h1] at ho
    injection ho with ho
    subst ho
    rw [sign_eq h1]
    exact signAnd_any vars fl fr gl gr W sl sr
  rw [if_neg h1] at ho
  by_cases h2 : (sg.toList == [124]) = true
  · rw [if_pos h2] at ho
    injection ho with ho
    subst ho
    rw [sign_eq h2]
    exact signOr_any vars fl fr gl gr W sl sr
  rw [if_neg h2] at ho
  by_cases h3 : (sg.toList == [61]) = true
  · rw [if_pos h3] at ho
    injection ho with ho
    subst ho
    rw [sign_eq h3]
    exact signEq_any vars fl fr gl gr W sl sr
  rw [if_neg h3] at ho
  cases ho

theorem sign_none (sg : ByteArray) (ho : opOf sg = none) (vars : Nat) (fl fr : Value) (gl gr : List Bool → Bool) (W : World) (sl : SaysF W fl vars gl) (sr : SaysF W fr vars gr) :
    Calls Try.prog 91 #[.string sg, fl, fr] W fun e w' => e = .returned (.tuple #[.nilFunc, .bool false]) ∧ Below W.heap.size W w' := by
  unfold opOf at ho
  by_cases h1 : (sg.toList == [38]) = true
  · rw [if_pos h1] at ho; cases ho
  rw [if_neg h1] at ho
  by_cases h2 : (sg.toList == [124]) = true
  · rw [if_pos h2] at ho; cases ho
  rw [if_neg h2] at ho
  by_cases h3 : (sg.toList == [61]) = true
  · rw [if_pos h3] at ho; cases ho
  exact signNone_any sg vars fl fr gl gr W sl sr (by simpa using h1) (by simpa using h2) (by simpa using h3)

/-- What two diagrams say with a sign between, as a table. -/
def twoT (op : Bool → Bool → Bool) (vi : Int) (na : List Nd) (ra : Int) (nb : List Nd) (rb : Int) : List Bool := tabF vi.toNat (fun ws => op (isN na ra ws) (isN nb rb ws)) (2 ^ vi.toNat)

end Go.Proofs.Ytknpifjkllcdeaa

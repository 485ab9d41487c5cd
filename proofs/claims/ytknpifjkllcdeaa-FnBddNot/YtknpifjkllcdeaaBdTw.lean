/-
  What is said with a sign between two.
-/
import Derived.Test.YtknpifjkllcdeaaBdWkX
namespace Go.Proofs.Ytknpifjkllcdeaa
open Go.RowKit Go.Deep
set_option linter.unusedVariables false

attribute [local go_sem] Oper.semAt_some

set_option maxRecDepth 100000 in
set_option maxHeartbeats 4000000 in
theorem orSays_any (vars Bl Br Bw off cap : Nat) (fl fr : Value) (gl gr : List Bool → Bool) (ws : List Bool) (W : World) (hl : W.cell? ⟨Bl, 0, none⟩ = some fl) (hr : W.cell? ⟨Br, 0, none⟩ = some fr)
    (sl : SaysF W fl vars gl) (sr : SaysF W fr vars gr) (hws : ws.length = vars) (hT : Tab W Bw off cap ws) :
    Calls Try.prog 114 #[.slice (some ⟨Bw, off, none⟩) vars cap, .pointer (some ⟨Bl, 0, none⟩), .pointer (some ⟨Br, 0, none⟩)] W fun e w' => e = .returned (.bool (gl ws || gr ws)) ∧ Below W.heap.size W w' := by
  have HLC := hideN hl
  have HRC := hideN hr
  have hlr := cell_lt hr
  obtain ⟨Fl, bl, rfl, hel, hcl⟩ := sl
  obtain ⟨Fr, br, rfl, her, hcr⟩ := sr
  have HL := hideN (hcl W (Below.refl _ _) Bw off cap ws hws hT)
  have HR := hideN (fun V (hV : Below W.heap.size W V) => hcr V hV Bw off cap ws hws ⟨hT.le, fun i hi => (hV.cell (cell_lt (hT.cell i hi))).trans (hT.cell i hi)⟩)
  clear hcl hcr hT
  cases hb : gl ws with
  | true =>
    rw [hb] at HL
    clear hb
    go_enter Try.func114, Try.ntmps114
    go_wp2_with fail
    refine HL.out.mono ?_
    rintro e w' ⟨rfl, hb'⟩
    have HB := hideN hb'
    clear hb'
    go_wp2_with fail
    go_ret
    exact ⟨rfl, HB.out⟩
  | false =>
    rw [hb] at HL
    clear hb
    go_enter Try.func114, Try.ntmps114
    go_wp2_with fail
    refine HL.out.mono ?_
    rintro e w' ⟨rfl, hb'⟩
    have HB := hideN hb'
    have hr2 := (hb'.cell hlr).trans HRC.out
    clear hb' hl hr
    go_wp2_with fail
    refine (HR.out w' HB.out).mono ?_
    rintro e w2 ⟨rfl, hb2⟩
    have HB2 := hideN (belNext HB.out hb2)
    clear hb2 hr2
    go_wp2_with fail
    go_ret
    exact ⟨by first | rfl | simp, HB2.out⟩

set_option maxRecDepth 100000 in
set_option maxHeartbeats 4000000 in
theorem signOr_any (vars : Nat) (fl fr : Value) (gl gr : List Bool → Bool) (W : World) (sl : SaysF W fl vars gl) (sr : SaysF W fr vars gr) :
    Calls Try.prog 91 #[.string { data := #[124] }, fl, fr] W fun e w' => ∃ fv, e = .returned (.tuple #[fv, .bool true]) ∧ SaysF w' fv vars (fun ws => gl ws || gr ws) ∧ Below W.heap.size W w' := by
  have SL := hideN sl
  have SR := hideN sr
  have hmf : ∀ (fn : Fn) (first cap : Array Value) (w : World), (Instr.makeFunc fn first cap).run Try.prog w = .ok (.func fn first cap) w := fun _ _ _ _ => rfl
  obtain ⟨Fl, bl, rfl, _, _⟩ := sl
  obtain ⟨Fr, br, rfl, _, _⟩ := sr
  go_enter Try.func91, Try.ntmps91
  go_wp2_with fail
  have hb1 := belOne W (.cells #[.func (.func Fl) #[] bl] 87)
  have hb2 := belOne (W.alloc (.cells #[.func (.func Fl) #[] bl] 87)) (.cells #[.func (.func Fr) #[] br] 87)
  have k1 := World.alloc_heap_new W (.cells #[.func (.func Fl) #[] bl] 87)
  have k2 := World.alloc_heap_new (W.alloc (.cells #[.func (.func Fl) #[] bl] 87)) (.cells #[.func (.func Fr) #[] br] 87)
  rw [World.size_alloc] at k2
  have hbl := belNext hb1 hb2
  have q1 := (hb2.block W.heap.size (by simp)).trans k1
  generalize ((W.alloc (.cells #[.func (.func Fl) #[] bl] 87)).alloc (.cells #[.func (.func Fr) #[] br] 87)) = W3 at *
  refine bodyPost_ret (v := .tuple #[.func (.func 114) #[] #[.pointer (some ⟨W.heap.size, 0, none⟩), .pointer (some ⟨W.heap.size + 1, 0, none⟩)], .bool true]) (by simp [results, Try.results91, go_sem]) rfl ⟨_, rfl, ⟨_, _, rfl, enters_of Try.func114 (by kernel_rfl) rfl, fun U hU Bw off cap ws hws hT => ?_⟩, hbl⟩
  have r1 := (hU.block _ (Array.getElem?_eq_some_iff.1 q1).1).trans q1
  have r2 := (hU.block _ (Array.getElem?_eq_some_iff.1 k2).1).trans k2
  exact orSays_any vars W.heap.size (W.heap.size + 1) Bw off cap _ _ gl gr ws U (by simp [World.cell?, r1]) (by simp [World.cell?, r2]) (SL.out.below (belNext hbl hU)) (SR.out.below (belNext hbl hU)) hws hT

end Go.Proofs.Ytknpifjkllcdeaa

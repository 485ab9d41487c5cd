/-
  What is said with a sign between two.
  A diagram of which a variable may be any: BddSome, of the program.
  A diagram of which a variable may be any: BddSome, of the model.
-/
import Derived.Test.YtmkbcfiechoebaaBdWp
namespace Go.Proofs.Ytmkbcfiechoebaa
open Go.RowKit Go.Deep
set_option linter.unusedVariables false

attribute [local go_sem] Oper.semAt_some

set_option maxRecDepth 100000 in
set_option maxHeartbeats 4000000 in
theorem orSays_any (vars Bl Br Bw off cap : Nat) (fl fr : Value) (gl gr : List Bool → Bool) (ws : List Bool) (W : World) (hl : W.cell? ⟨Bl, 0, none⟩ = some fl) (hr : W.cell? ⟨Br, 0, none⟩ = some fr)
    (sl : SaysF W fl vars gl) (sr : SaysF W fr vars gr) (hws : ws.length = vars) (hT : Tab W Bw off cap ws) :
    Calls Try.prog 97 #[.slice (some ⟨Bw, off, none⟩) vars cap, .pointer (some ⟨Bl, 0, none⟩), .pointer (some ⟨Br, 0, none⟩)] W fun e w' => e = .returned (.bool (gl ws || gr ws)) ∧ Below W.heap.size W w' := by
  have HLC := hideN hl
  have HRC := hideN hr
  have hlr := cell_lt hr
  obtain ⟨Fl, bl, rfl, hel, hcl⟩ := sl
  obtain ⟨Fr, br, rfl, her, hcr⟩ := sr
  have HL := hideN (hcl W (Below.refl _ _) Bw off cap ws hws hT)
  have HR := hideN (fun V (hV : Below W.heap.size W V) => hcr V hV Bw off cap ws hws ⟨hT.le, fun i hi => (hV.cell (cell_lt (hT.cell i hi))).trans (hT.cell i hi)⟩)
  clear hcl hcr hT
  cases hb : gl ws with
  | true =>
    rw [hb] at HL
    clear hb
    go_enter Try.func97, Try.ntmps97
    go_wp2_with fail
    refine HL.out.mono ?_
    rintro e w' ⟨rfl, hb'⟩
    have HB := hideN hb'
    clear hb'
    go_wp2_with fail
    go_ret
    exact ⟨rfl, HB.out⟩
  | false =>
    rw [hb] at HL
    clear hb
    go_enter Try.func97, Try.ntmps97
    go_wp2_with fail
    refine HL.out.mono ?_
    rintro e w' ⟨rfl, hb'⟩
    have HB := hideN hb'
    have hr2 := (hb'.cell hlr).trans HRC.out
    clear hb' hl hr
    go_wp2_with fail
    refine (HR.out w' HB.out).mono ?_
    rintro e w2 ⟨rfl, hb2⟩
    have HB2 := hideN (belNext HB.out hb2)
    clear hb2 hr2
    go_wp2_with fail
    go_ret
    exact ⟨by first | rfl | simp, HB2.out⟩

set_option maxRecDepth 100000 in
set_option maxHeartbeats 4000000 in
theorem signOr_any (vars : Nat) (fl fr : Value) (gl gr : List Bool → Bool) (W : World) (sl : SaysF W fl vars gl) (sr : SaysF W fr vars gr) :
    Calls Try.prog 65 #[.string { data := #[124] }, fl, fr] W fun e w' => ∃ fv, e = .returned (.tuple #[fv, .bool true]) ∧ SaysF w' fv vars (fun ws => gl ws || gr ws) ∧ Below W.heap.size W w' := by
  have SL := hideN sl
  have SR := hideN sr
  have hmf : ∀ (fn : Fn) (first cap : Array Value) (w : World), (Instr.makeFunc fn first cap).run Try.prog w = .ok (.func fn first cap) w := fun _ _ _ _ => rfl
  obtain ⟨Fl, bl, rfl, _, _⟩ := sl
  obtain ⟨Fr, br, rfl, _, _⟩ := sr
  go_enter Try.func65, Try.ntmps65
  go_wp2_with fail
  have hb1 := belOne W (.cells #[.func (.func Fl) #[] bl] 73)
  have hb2 := belOne (W.alloc (.cells #[.func (.func Fl) #[] bl] 73)) (.cells #[.func (.func Fr) #[] br] 73)
  have k1 := World.alloc_heap_new W (.cells #[.func (.func Fl) #[] bl] 73)
  have k2 := World.alloc_heap_new (W.alloc (.cells #[.func (.func Fl) #[] bl] 73)) (.cells #[.func (.func Fr) #[] br] 73)
  rw [World.size_alloc] at k2
  have hbl := belNext hb1 hb2
  have q1 := (hb2.block W.heap.size (by simp)).trans k1
  generalize ((W.alloc (.cells #[.func (.func Fl) #[] bl] 73)).alloc (.cells #[.func (.func Fr) #[] br] 73)) = W3 at *
  refine bodyPost_ret (v := .tuple #[.func (.func 97) #[] #[.pointer (some ⟨W.heap.size, 0, none⟩), .pointer (some ⟨W.heap.size + 1, 0, none⟩)], .bool true]) (by simp [results, Try.results65, go_sem]) rfl ⟨_, rfl, ⟨_, _, rfl, enters_of Try.func97 (by kernel_rfl) rfl, fun U hU Bw off cap ws hws hT => ?_⟩, hbl⟩
  have r1 := (hU.block _ (Array.getElem?_eq_some_iff.1 q1).1).trans q1
  have r2 := (hU.block _ (Array.getElem?_eq_some_iff.1 k2).1).trans k2
  exact orSays_any vars W.heap.size (W.heap.size + 1) Bw off cap _ _ gl gr ws U (by simp [World.cell?, r1]) (by simp [World.cell?, r2]) (SL.out.below (belNext hbl hU)) (SR.out.below (belNext hbl hU)) hws hT

end Go.Proofs.Ytmkbcfiechoebaa

namespace Go.Proofs.Ytmkbcfiechoebaa
open Go.RowKit Go.Deep
set_option linter.unusedVariables false

attribute [local go_sem] Oper.semAt_some
attribute [local go_sem] run_store_func

/-- What a diagram says of which a variable may be any, as a table. -/
def someT (vi : Int) (ns : List Nd) (root v : Int) : List Bool := tabF vi.toNat (fun ws => isN ns root (ws.set v.toNat false) || isN ns root (ws.set v.toNat true)) (2 ^ vi.toNat)

theorem someT_le {vi : Int} {ns : List Nd} {root v : Int} : (ansOf (bddB vi ns root && varB vi v) vi (someT vi ns root v)).2.1.length ≤ 64 := by
  cases h : bddB vi ns root with
  | false => simp [ansOf]
  | true =>
    obtain ⟨vars, rfl, h6, -⟩ := bdd_split h
    have h2 : 2 ^ vars ≤ 64 := by show _ ≤ 2 ^ 6; exact Nat.pow_le_pow_right (by decide) h6
    have h3 := drawB_len vars 0 (someT (vars : Int) ns root v) []
    unfold ansOf
    split
    · rw [Int.toNat_natCast]
      simp at h3 ⊢
      omega
    · simp

end Go.Proofs.Ytmkbcfiechoebaa

namespace Go.Proofs.Ytmkbcfiechoebaa
open Go.RowKit Go.Deep
set_option linter.unusedVariables false

attribute [local go_sem] Oper.semAt_some

theorem tabF_get (vars : Nat) (g : List Bool → Bool) (n i : Nat) (h : i < n) : (tabF vars g n).getD i false = g (wayL vars i) := by
  simp [tabF, List.getD, h]

end Go.Proofs.Ytmkbcfiechoebaa

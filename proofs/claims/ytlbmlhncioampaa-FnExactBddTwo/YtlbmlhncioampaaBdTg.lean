/-
  What is said with a sign between two, by the program's table of signs.
-/
import Derived.Test.YtlbmlhncioampaaBdTy
namespace Go.Proofs.Ytlbmlhncioampaa
open Go.RowKit Go.Deep
set_option linter.unusedVariables false

attribute [local go_sem] Oper.semAt_some

set_option maxRecDepth 100000 in
set_option maxHeartbeats 4000000 in
theorem signAnd_any (vars : Nat) (fl fr : Value) (gl gr : List Bool → Bool) (W : World) (sl : SaysF W fl vars gl) (sr : SaysF W fr vars gr) :
    Calls Try.prog 67 #[.string { data := #[38] }, fl, fr] W fun e w' => ∃ fv, e = .returned (.tuple #[fv, .bool true]) ∧ SaysF w' fv vars (fun ws => gl ws && gr ws) ∧ Below W.heap.size W w' := by
  have SL := hideN sl
  have SR := hideN sr
  have hmf : ∀ (fn : Fn) (first cap : Array Value) (w : World), (Instr.makeFunc fn first cap).run Try.prog w = .ok (.func fn first cap) w := fun _ _ _ _ => rfl
  obtain ⟨Fl, bl, rfl, _, _⟩ := sl
  obtain ⟨Fr, br, rfl, _, _⟩ := sr
  go_enter Try.func67, Try.ntmps67
  go_wp2_with fail
  have hb1 := belOne W (.cells #[.func (.func Fl) #[] bl] 63)
  have hb2 := belOne (W.alloc (.cells #[.func (.func Fl) #[] bl] 63)) (.cells #[.func (.func Fr) #[] br] 63)
  have k1 := World.alloc_heap_new W (.cells #[.func (.func Fl) #[] bl] 63)
  have k2 := World.alloc_heap_new (W.alloc (.cells #[.func (.func Fl) #[] bl] 63)) (.cells #[.func (.func Fr) #[] br] 63)
  rw [World.size_alloc] at k2
  have hbl := belNext hb1 hb2
  have q1 := (hb2.block W.heap.size (by simp)).trans k1
  generalize ((W.alloc (.cells #[.func (.func Fl) #[] bl] 63)).alloc (.cells #[.func (.func Fr) #[] br] 63)) = W3 at *
  refine bodyPost_ret (v := .tuple #[.func (.func 90) #[] #[.pointer (some ⟨W.heap.size, 0, none⟩), .pointer (some ⟨W.heap.size + 1, 0, none⟩)], .bool true]) (by simp [results, Try.results67, go_sem]) rfl ⟨_, rfl, ⟨_, _, rfl, enters_of Try.func90 (by kernel_rfl) rfl, fun U hU Bw off cap ws hws hT => ?_⟩, hbl⟩
  have r1 := (hU.block _ (Array.getElem?_eq_some_iff.1 q1).1).trans q1
  have r2 := (hU.block _ (Array.getElem?_eq_some_iff.1 k2).1).trans k2
  exact andSays_any vars W.heap.size (W.heap.size + 1) Bw off cap _ _ gl gr ws U (by simp [World.cell?, r1]) (by simp [World.cell?, r2]) (SL.out.below (belNext hbl hU)) (SR.out.below (belNext hbl hU)) hws hT

set_option maxRecDepth 100000 in
set_option maxHeartbeats 4000000 in
theorem signEq_any (vars : Nat) (fl fr : Value) (gl gr : List Bool → Bool) (W : World) (sl : SaysF W fl vars gl) (sr : SaysF W fr vars gr) :
    Calls Try.prog 67 #[.string { data := #[61] }, fl, fr] W fun e w' => ∃ fv, e = .returned (.tuple #[fv, .bool true]) ∧ SaysF w' fv vars (fun ws => gl ws == gr ws) ∧ Below W.heap.size W w' := by
  have SL := hideN sl
  have SR := hideN sr
  have hmf : ∀ (fn : Fn) (first cap : Array Value) (w : World), (Instr.makeFunc fn first cap).run Try.prog w = .ok (.func fn first cap) w := fun _ _ _ _ => rfl
  obtain ⟨Fl, bl, rfl, _, _⟩ := sl
  obtain ⟨Fr, br, rfl, _, _⟩ := sr
  go_enter Try.func67, Try.ntmps67
  go_wp2_with fail
  have hb1 := belOne W (.cells #[.func (.func Fl) #[] bl] 63)
  have hb2 := belOne (W.alloc (.cells #[.func (.func Fl) #[] bl] 63)) (.cells #[.func (.func Fr) #[] br] 63)
  have k1 := World.alloc_heap_new W (.cells #[.func (.func Fl) #[] bl] 63)
  have k2 := World.alloc_heap_new (W.alloc (.cells #[.func (.func Fl) #[] bl] 63)) (.cells #[.func (.func Fr) #[] br] 63)
  rw [World.size_alloc] at k2
  have hbl := belNext hb1 hb2
  have q1 := (hb2.block W.heap.size (by simp)).trans k1
  generalize ((W.alloc (.cells #[.func (.func Fl) #[] bl] 63)).alloc (.cells #[.func (.func Fr) #[] br] 63)) = W3 at *
  refine bodyPost_ret (v := .tuple #[.func (.func 92) #[] #[.pointer (some ⟨W.heap.size, 0, none⟩), .pointer (some ⟨W.heap.size + 1, 0, none⟩)], .bool true]) (by simp [results, Try.results67, go_sem]) rfl ⟨_, rfl, ⟨_, _, rfl, enters_of Try.func92 (by kernel_rfl) rfl, fun U hU Bw off cap ws hws hT => ?_⟩, hbl⟩
  have r1 := (hU.block _ (Array.getElem?_eq_some_iff.1 q1).1).trans q1
  have r2 := (hU.block _ (Array.getElem?_eq_some_iff.1 k2).1).trans k2
  exact eqSays_any vars W.heap.size (W.heap.size + 1) Bw off cap _ _ gl gr ws U (by simp [World.cell?, r1]) (by simp [World.cell?, r2]) (SL.out.below (belNext hbl hU)) (SR.out.below (belNext hbl hU)) hws hT

set_option maxRecDepth 100000 in
set_option maxHeartbeats 4000000 in
theorem signNone_any (sg : ByteArray) (vars : Nat) (fl fr : Value) (gl gr : List Bool → Bool) (W : World) (sl : SaysF W fl vars gl) (sr : SaysF W fr vars gr) (h1 : (sg.toList == [38]) = false) (h2 : (sg.toList == [124]) = false) (h3 : (sg.toList == [61]) = false) :
    Calls Try.prog 67 #[.string sg, fl, fr] W fun e w' => e = .returned (.tuple #[.nilFunc, .bool false]) ∧ Below W.heap.size W w' := by
  obtain ⟨Fl, bl, rfl, _, _⟩ := sl
  obtain ⟨Fr, br, rfl, _, _⟩ := sr
  go_enter Try.func67, Try.ntmps67
  go_wp2_with fail
  exact bodyPost_ret (v := .tuple #[.nilFunc, .bool false]) (by simp [results, Try.results67, go_sem]) rfl ⟨rfl, belNext (belOne _ _) (belOne _ _)⟩

end Go.Proofs.Ytlbmlhncioampaa

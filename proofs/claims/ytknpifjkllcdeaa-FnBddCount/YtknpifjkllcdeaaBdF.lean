/-
  Diagrams: what a diagram says, as a function value, by the program: saysOf.
-/
import Derived.Test.YtknpifjkllcdeaaBdW
import Derived.Test.YtknpifjkllcdeaaBdG
namespace Go.Proofs.Ytknpifjkllcdeaa
open Go.RowKit Go.Deep
set_option linter.unusedVariables false

attribute [local go_sem] Oper.semAt_some

theorem info_says : (Try.prog.info? 87).map (fun i => (i.zero, i.size, i.bytes)) = some (some .nilFunc, 1, 8) := by kernel_rfl

set_option maxHeartbeats 400000 in
theorem saysNever_any (v : Value) (w : World) : Calls Try.prog 107 #[v] w fun e w' => e = .returned (.bool false) ∧ w' = w := by
  go_enter Try.func107, Try.ntmps107
  go_wp2
  go_ret
  exact ⟨rfl, rfl⟩
set_option maxHeartbeats 400000 in
theorem saysAlways_any (v : Value) (w : World) : Calls Try.prog 108 #[v] w fun e w' => e = .returned (.bool true) ∧ w' = w := by
  go_enter Try.func108, Try.ntmps108
  go_wp2
  go_ret
  exact ⟨rfl, rfl⟩

theorem never_says (w : World) (k0 vars : Nat) : SaysG w k0 (.func (.func 107) #[] #[]) vars (fun _ => false) :=
  ⟨_, _, rfl, enters_of Try.func107 (by kernel_rfl) rfl, fun W _ Bw off cap ws _ _ => (saysNever_any _ W).mono fun e w' h => ⟨h.1, by rw [h.2]; exact Below.refl _ _⟩⟩
theorem always_says (w : World) (k0 vars : Nat) : SaysG w k0 (.func (.func 108) #[] #[]) vars (fun _ => true) :=
  ⟨_, _, rfl, enters_of Try.func108 (by kernel_rfl) rfl, fun W _ Bw off cap ws _ _ => (saysAlways_any _ W).mono fun e w' h => ⟨h.1, by rw [h.2]; exact Below.refl _ _⟩⟩

set_option maxRecDepth 100000 in
set_option maxHeartbeats 4000000 in
/-- What a node says of a way. -/
theorem nodeSays_any (vars x Bn Bh Bl Bw off cap : Nat) (y z : Value) (fl fh : Value) (gl gh : List Bool → Bool) (ws : List Bool) (W0 W : World) (hn : W.cell? ⟨Bn, 0, none⟩ = some (.int .i64 (x : Int))) (hh : W.cell? ⟨Bh, 0, none⟩ = some fh) (hl : W.cell? ⟨Bl, 0, none⟩ = some fl)
    (sl : SaysF W fl vars gl) (sh : SaysF W fh vars gh) (hx : x < vars) (hws : ws.length = vars) (hT : Tab W Bw off cap ws) :
    Calls Try.prog 110 #[.slice (some ⟨Bw, off, none⟩) vars cap, .pointer (some ⟨Bn, 0, none⟩), .pointer (some ⟨Bh, 0, none⟩), .pointer (some ⟨Bl, 0, none⟩)] W fun e w' => e = .returned (.bool (if ws.getD x false = true then gh ws else gl ws)) ∧ Below W.heap.size W w' := by
  obtain ⟨Fl, bl, rfl, hel, hcl⟩ := sl
  obtain ⟨Fh, bh, rfl, heh, hch⟩ := sh
  have HL := hideN (hcl W (Below.refl _ _) Bw off cap ws hws hT)
  have HH := hideN (hch W (Below.refl _ _) Bw off cap ws hws hT)
  have hcx := hT.cell x (by omega)
  have hcap := hT.le
  clear hcl hch hT
  cases hb : ws.getD x false with
  | true =>
    rw [hb] at hcx
    clear hb
    go_enter Try.func110, Try.ntmps110
    go_wp2_with fail
    refine HH.out.mono ?_
    rintro e w' ⟨rfl, hb'⟩
    have HB := hideN hb'
    clear hb'
    go_wp2_with fail
    go_ret
    exact ⟨rfl, HB.out⟩
  | false =>
    rw [hb] at hcx
    clear hb
    go_enter Try.func110, Try.ntmps110
    go_wp2_with fail
    refine HL.out.mono ?_
    rintro e w' ⟨rfl, hb'⟩
    have HB := hideN hb'
    clear hb'
    go_wp2_with fail
    go_ret
    exact ⟨rfl, HB.out⟩

set_option maxRecDepth 100000 in
set_option maxHeartbeats 4000000 in
theorem nodeOf_any (vars x k0 : Nat) (y z : Int) (fl fh : Value) (gl gh : List Bool → Bool) (W : World) (sl : SaysG W k0 fl vars gl) (sh : SaysG W k0 fh vars gh) (hx : x < vars) (hk : k0 < W.heap.size) :
    Calls Try.prog 109 #[.agg #[.int .i64 (x : Int), .int .i64 y, .int .i64 z], fl, fh] W fun e w' => ∃ fv, e = .returned fv ∧ SaysG w' k0 fv vars (fun ws => if ws.getD x false = true then gh ws else gl ws) ∧ Below W.heap.size W w' := by
  have SL := hideN sl
  have SH := hideN sh
  have hmf : ∀ (fn : Fn) (first cap : Array Value) (w : World), (Instr.makeFunc fn first cap).run Try.prog w = .ok (.func fn first cap) w := fun _ _ _ _ => rfl
  obtain ⟨Fl, bl, rfl, _, _⟩ := sl
  obtain ⟨Fh, bh, rfl, _, _⟩ := sh
  go_enter Try.func109, Try.ntmps109
  go_wp2_with fail
  have hb1 := belOne W (.cells #[.int .i64 (x : Int), .int .i64 y, .int .i64 z] 50)
  have hb2 := belOne (W.alloc (.cells #[.int .i64 (x : Int), .int .i64 y, .int .i64 z] 50)) (.cells #[.func (.func Fl) #[] bl] 87)
  have hb3 := belOne ((W.alloc (.cells #[.int .i64 (x : Int), .int .i64 y, .int .i64 z] 50)).alloc (.cells #[.func (.func Fl) #[] bl] 87)) (.cells #[.func (.func Fh) #[] bh] 87)
  have k1 := World.alloc_heap_new W (.cells #[.int .i64 (x : Int), .int .i64 y, .int .i64 z] 50)
  have k2 := World.alloc_heap_new (W.alloc (.cells #[.int .i64 (x : Int), .int .i64 y, .int .i64 z] 50)) (.cells #[.func (.func Fl) #[] bl] 87)
  have k3 := World.alloc_heap_new ((W.alloc (.cells #[.int .i64 (x : Int), .int .i64 y, .int .i64 z] 50)).alloc (.cells #[.func (.func Fl) #[] bl] 87)) (.cells #[.func (.func Fh) #[] bh] 87)
  rw [World.size_alloc] at k2
  rw [World.size_alloc, World.size_alloc] at k3
  have hbl := belNext (belNext hb1 hb2) hb3
  have q1 := (hb3.block W.heap.size (by simp; omega)).trans ((hb2.block W.heap.size (by simp)).trans k1)
  have q2 := (hb3.block (W.heap.size + 1) (by simp)).trans k2
  generalize (((W.alloc (.cells #[.int .i64 (x : Int), .int .i64 y, .int .i64 z] 50)).alloc (.cells #[.func (.func Fl) #[] bl] 87)).alloc (.cells #[.func (.func Fh) #[] bh] 87)) = W3 at *
  refine bodyPost_ret (v := .func (.func 110) #[] #[.pointer (some ⟨W.heap.size, 0, none⟩), .pointer (some ⟨W.heap.size + 1 + 1, 0, none⟩), .pointer (some ⟨W.heap.size + 1, 0, none⟩)]) (by simp [results, Try.results109, go_sem]) rfl ⟨_, rfl, ⟨_, _, rfl, enters_of Try.func110 (by kernel_rfl) rfl, fun U hU Bw off cap ws hws hT => ?_⟩, hbl⟩
  have r1 := (hU.block _ (Array.getElem?_eq_some_iff.1 q1).1 (by omega)).trans q1
  have r2 := (hU.block _ (Array.getElem?_eq_some_iff.1 q2).1 (by omega)).trans q2
  have r3 := (hU.block _ (Array.getElem?_eq_some_iff.1 k3).1 (by omega)).trans k3
  exact nodeSays_any vars x W.heap.size (W.heap.size + 1 + 1) (W.heap.size + 1) Bw off cap (.int .i64 y) (.int .i64 z) _ _ gl gh ws W U (by simp [World.cell?, r1]) (by simp [World.cell?, r3]) (by simp [World.cell?, r2]) (SL.out.says ((Chg.of_below hbl).trans hU)) (SH.out.says ((Chg.of_below hbl).trans hU)) hx hws hT

end Go.Proofs.Ytknpifjkllcdeaa

/-
  What is said with a sign between two: both, the same.
-/
import Derived.Test.YtlbmlhncioampaaBdSp
namespace Go.Proofs.Ytlbmlhncioampaa
open Go.RowKit Go.Deep
set_option linter.unusedVariables false

attribute [local go_sem] Oper.semAt_some

set_option maxRecDepth 100000 in
set_option maxHeartbeats 4000000 in
theorem andSays_any (vars Bl Br Bw off cap : Nat) (fl fr : Value) (gl gr : List Bool → Bool) (ws : List Bool) (W : World) (hl : W.cell? ⟨Bl, 0, none⟩ = some fl) (hr : W.cell? ⟨Br, 0, none⟩ = some fr)
    (sl : SaysF W fl vars gl) (sr : SaysF W fr vars gr) (hws : ws.length = vars) (hT : Tab W Bw off cap ws) :
    Calls Try.prog 90 #[.slice (some ⟨Bw, off, none⟩) vars cap, .pointer (some ⟨Bl, 0, none⟩), .pointer (some ⟨Br, 0, none⟩)] W fun e w' => e = .returned (.bool (gl ws && gr ws)) ∧ Below W.heap.size W w' := by
  have HLC := hideN hl
  have HRC := hideN hr
  have hlr := cell_lt hr
  obtain ⟨Fl, bl, rfl, hel, hcl⟩ := sl
  obtain ⟨Fr, br, rfl, her, hcr⟩ := sr
  have HL := hideN (hcl W (Below.refl _ _) Bw off cap ws hws hT)
  have HR := hideN (fun V (hV : Below W.heap.size W V) => hcr V hV Bw off cap ws hws ⟨hT.le, fun i hi => (hV.cell (cell_lt (hT.cell i hi))).trans (hT.cell i hi)⟩)
  clear hcl hcr hT
  cases hb : gl ws with
  | false =>
    rw [hb] at HL
    clear hb
    go_enter Try.func90, Try.ntmps90
    go_wp2_with fail
    refine HL.out.mono ?_
    rintro e w' ⟨rfl, hb'⟩
    have HB := hideN hb'
    clear hb'
    go_wp2_with fail
    go_ret
    exact ⟨rfl, HB.out⟩
  | true =>
    rw [hb] at HL
    clear hb
    go_enter Try.func90, Try.ntmps90
    go_wp2_with fail
    refine HL.out.mono ?_
    rintro e w' ⟨rfl, hb'⟩
    have HB := hideN hb'
    have hr2 := (hb'.cell hlr).trans HRC.out
    clear hb' hl hr
    go_wp2_with fail
    refine (HR.out w' HB.out).mono ?_
    rintro e w2 ⟨rfl, hb2⟩
    have HB2 := hideN (belNext HB.out hb2)
    clear hb2 hr2
    go_wp2_with fail
    go_ret
    exact ⟨by first | rfl | simp, HB2.out⟩

set_option maxRecDepth 100000 in
set_option maxHeartbeats 4000000 in
theorem eqSays_any (vars Bl Br Bw off cap : Nat) (fl fr : Value) (gl gr : List Bool → Bool) (ws : List Bool) (W : World) (hl : W.cell? ⟨Bl, 0, none⟩ = some fl) (hr : W.cell? ⟨Br, 0, none⟩ = some fr)
    (sl : SaysF W fl vars gl) (sr : SaysF W fr vars gr) (hws : ws.length = vars) (hT : Tab W Bw off cap ws) :
    Calls Try.prog 92 #[.slice (some ⟨Bw, off, none⟩) vars cap, .pointer (some ⟨Bl, 0, none⟩), .pointer (some ⟨Br, 0, none⟩)] W fun e w' => e = .returned (.bool (gl ws == gr ws)) ∧ Below W.heap.size W w' := by
  have HCL := hideN (fun V (hV : Below W.heap.size W V) => (⟨(hV.cell (cell_lt hl)).trans hl, (hV.cell (cell_lt hr)).trans hr⟩ : V.cell? ⟨Bl, 0, none⟩ = some fl ∧ V.cell? ⟨Br, 0, none⟩ = some fr))
  obtain ⟨Fl, bl, rfl, hel, hcl⟩ := sl
  obtain ⟨Fr, br, rfl, her, hcr⟩ := sr
  have HL := hideN (fun V (hV : Below W.heap.size W V) => hcl V hV Bw off cap ws hws ⟨hT.le, fun i hi => (hV.cell (cell_lt (hT.cell i hi))).trans (hT.cell i hi)⟩)
  have HR := hideN (fun V (hV : Below W.heap.size W V) => hcr V hV Bw off cap ws hws ⟨hT.le, fun i hi => (hV.cell (cell_lt (hT.cell i hi))).trans (hT.cell i hi)⟩)
  clear hcl hcr hT hl hr
  generalize gl ws = p at *
  generalize gr ws = q at *
  go_enter Try.func92, Try.ntmps92
  go_wp2_with fail
  have hbd := below_drewN (Below.refl W.heap.size W) 1
  obtain ⟨z0, z1⟩ := HCL.out W.drew hbd
  refine region_U (fin := 5) (S := fun V => V.cell? ⟨Bl, 0, none⟩ = some (.func (.func Fl) #[] bl) ∧ V.cell? ⟨Br, 0, none⟩ = some (.func (.func Fr) #[] br)) (by kernel_rfl) ⟨z0, z1⟩ (fun hHeld => ?_)
  clear hHeld
  refine takeU (i := 0) (v := .func (.func Fl) #[] bl) rfl (by rfl) (by kernel_rfl) (by kernel_rfl) (by kernel_rfl) (by kernel_rfl) (by kernel_rfl) (fun _ _ _ h => h) (Or.inl ⟨by rfl, fun w hS => by obtain ⟨z0, z1⟩ := hS; go_simp⟩) ⟨z0, z1⟩ ?_
  simp only [List.getElem_toArray, List.getElem_cons_zero, Act.put, List.setIfInBounds_toArray, List.set_cons_zero, List.set_cons_succ]
  refine takeU (i := 1) (v := .slice (some ⟨Bw, off, none⟩) vars cap) rfl (by rfl) (by kernel_rfl) (by kernel_rfl) (by kernel_rfl) (by kernel_rfl) (by kernel_rfl) (fun _ _ _ h => h) (Or.inl ⟨by rfl, fun w hS => by obtain ⟨z0, z1⟩ := hS; go_simp⟩) ⟨z0, z1⟩ ?_
  simp only [List.getElem_toArray, List.getElem_cons_zero, List.getElem_cons_succ, Act.put, List.setIfInBounds_toArray, List.set_cons_zero, List.set_cons_succ]
  refine takeU (i := 3) (v := .func (.func Fr) #[] br) rfl (by rfl) (by kernel_rfl) (by kernel_rfl) (by kernel_rfl) (by kernel_rfl) (by kernel_rfl) (fun _ _ _ h => h) (Or.inl ⟨by rfl, fun w hS => by obtain ⟨z0, z1⟩ := hS; go_simp⟩) ⟨z0, z1⟩ ?_
  simp only [List.getElem_toArray, List.getElem_cons_zero, List.getElem_cons_succ, Act.put, List.setIfInBounds_toArray, List.set_cons_zero, List.set_cons_succ]
  refine takeU (i := 4) (v := .slice (some ⟨Bw, off, none⟩) vars cap) rfl (by rfl) (by kernel_rfl) (by kernel_rfl) (by kernel_rfl) (by kernel_rfl) (by kernel_rfl) (fun _ _ _ h => h) (Or.inl ⟨by rfl, fun w hS => by obtain ⟨z0, z1⟩ := hS; go_simp⟩) ⟨z0, z1⟩ ?_
  simp only [List.getElem_toArray, List.getElem_cons_zero, List.getElem_cons_succ, Act.put, List.setIfInBounds_toArray, List.set_cons_zero, List.set_cons_succ]
  refine oneU (i := 2) (by kernel_rfl) rfl (by rfl) ?_
  simp only [List.getElem_toArray, List.getElem_cons_zero, List.getElem_cons_succ]
  go_simp
  refine (HL.out W.drew hbd).mono ?_
  rintro e w2 ⟨rfl, hb2⟩
  have HB2 := hideN (belNext hbd hb2)
  refine ⟨HCL.out w2 HB2.out, ?_⟩
  clear hb2 z0 z1 hbd
  refine oneU (i := 5) (by kernel_rfl) rfl (by rfl) ?_
  simp only [List.getElem_toArray, List.getElem_cons_zero, List.getElem_cons_succ]
  go_simp
  refine (HR.out w2 HB2.out).mono ?_
  rintro e w3 ⟨rfl, hb3⟩
  have HB3 := hideN (belNext HB2.out hb3)
  clear hb3
  refine oneU (i := 6) (by kernel_rfl) rfl (by rfl) ?_
  simp only [List.getElem_toArray, List.getElem_cons_zero, List.getElem_cons_succ]
  go_simp
  refine oneU (i := 7) (by kernel_rfl) rfl (by rfl) ?_
  simp only [List.getElem_toArray, List.getElem_cons_zero, List.getElem_cons_succ]
  go_simp
  refine doneU (by kernel_rfl) ?_ _
  go_wp2_with fail
  go_ret
  exact ⟨by first | rfl | simp, HB3.out⟩

end Go.Proofs.Ytlbmlhncioampaa

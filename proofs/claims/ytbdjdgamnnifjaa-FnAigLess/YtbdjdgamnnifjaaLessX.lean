/-
  The law FnAigLess (a circuit without what is needless does the same): what comes in is read, and the law answers true. No condition: every argument that can be read.
-/
import Derived.Test.YtbdjdgamnnifjaaLessV
namespace Go.Proofs.Ytbdjdgamnnifjaa
open Go.ChangeShapes Go.WideShapes Go.ChangeAt Go.RowKit Go.Deep Go.Joins
set_option linter.unusedVariables false

set_option maxRecDepth 100000 in
theorem fnAigLess_lifted (os : Os) (started : os.Started) (H : Type) (enc : TypeId × Value → H) :
    ReturnsInHanded {} Try.checked os 9 .any (Rows.fnAigLessSpec.pre6 enc Try.prog Try.f9 Rows.fnAigLessRow.domain false) (Rows.fnAigLessSpec.post enc Try.prog Try.f9 false true false false) := by
  refine returnsInHanded_of_change (C := Try.checked) own started (by kernel_rfl) Try.func9
    (ChangeSpec.witness6 (enc := enc) (C := Try.checked) false ⟨#[], #[.slice none 0 0, .slice none 0 0], []⟩ 8 (by kernel_rfl) (by kernel_rfl) (by kernel_rfl) (by kernel_rfl)) ?_
  intro W base args ds gs before hval0 hW hcnd _
  have hval : ∀ (j : Nat) t v, Try.f9.params[j]? = some t → args[j]? = some v → Value.okWide Try.prog W .any base t v := hval0
  have hW' := hW
  obtain ⟨p, q, hA0, hV, rfl, hfz, hnd⟩ := hW
  have hA : DataW.TrodAll enc Try.prog W 0 (fun _ => true) true Try.f9.params.toList args.toList ds p := hA0
  rw [Try.params9] at hA hval
  obtain ⟨v0, vs0, d0, ds0, p0, q0, hargs, rfl, rfl, h0, r0⟩ := trodAll_cons hA
  obtain ⟨v1, vs1, d1, ds1, p1, q1, rfl, rfl, rfl, h1, r1⟩ := trodAll_cons r0
  obtain ⟨rfl, rfl, rfl⟩ := trodAll_nil r1
  obtain rfl : args = #[v0, v1] := by cases args; simp_all
  obtain ⟨rfl, rfl⟩ := trodVars_none hV
  have k0 := h0
  have k1 := h1
  have lt0 : ∀ x ∈ p0, x.block < W.heap.size := by obtain ⟨m, hm⟩ := k0; exact DataW.trod_lt m _ _ _ hm
  have lt1 : ∀ x ∈ p1, x.block < W.heap.size := by obtain ⟨m, hm⟩ := k1; exact DataW.trod_lt m _ _ _ hm
  have hv0 := hval 0 61 v0 rfl rfl
  obtain ⟨ao, len, cap, rfl⟩ := okWide_slice Try.underlying61 hv0
  obtain ⟨fuel, hf⟩ := h0
  obtain ⟨bs, hbs, hml⟩ := isBytes_of_trod (by simpa [Value.cells] using hf)
  have hv1 := hval 1 61 v1 rfl rfl
  obtain ⟨ao1, len1, cap1, rfl⟩ := okWide_slice Try.underlying61 hv1
  obtain ⟨fuel1, hf1⟩ := h1
  obtain ⟨ms, hms, hmu⟩ := isBytes_of_trod (by simpa [Value.cells] using hf1)
  clear hA0 hval0
  refine (fnAigLess_walk _ _ bs ms W hbs hms (fun ao' n' cap' b off h1 h2 => by cases h1; subst h2; exact okWide_slice_lt Try.underlying61 hv0) (fun ao' n' cap' b off h1 h2 => by cases h1; subst h2; exact okWide_slice_lt Try.underlying61 hv1) hml hmu).mono fun e W' ⟨he, bel⟩ => ?_
  subst he
  exact ⟨_, rfl, _, _, _, [], _, [], hW', trodAll_mk1 (shut_bool Try.underlying4 _),
    (trodAll_cons_mk (Below.trod laidOut (by kernel_rfl) (of_decide_eq_true (by kernel_rfl)) k0 bel lt0) (trodAll_cons_mk (Below.trod laidOut (by kernel_rfl) (of_decide_eq_true (by kernel_rfl)) k1 bel lt1) trodAll_mk0)), rfl, bel.frame _, fun h => by cases h⟩

theorem fnAigLess_holds : Rows.FnAigLessSaid :=
  OpenClaim.holds_of_wide 9 Try.f9 rfl rfl rfl rfl rfl rfl rfl ⟨rfl, rfl, rfl, rfl, rfl⟩ rfl rfl rfl rfl rfl (by kernel_rfl) Try.func9 (by kernel_rfl)
    (of_decide_eq_true (by kernel_rfl)) (by unfold Func.isWrapper; first | (rw [if_pos (by decide +kernel)]; kernel_rfl) | (rw [if_neg (by decide +kernel)]; exact ⟨rfl, rfl⟩))
    (fun os started H enc _ => fnAigLess_lifted os started H enc)

end Go.Proofs.Ytbdjdgamnnifjaa

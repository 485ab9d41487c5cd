/-
  Numbers told in decimals by the model: l1Dec.
-/
import Derived.Test.YthbjihamhfahcaaDoorShB
import Derived.Laws.BytesArg
namespace Go.Proofs.YthbjihamhfahcaaDoor
open Go.RowKit Go.Deep
set_option linter.unusedVariables false

attribute [local go_sem] Oper.semAt_some

theorem one_byte (W : World) (b : Nat) (z : Int) (c : W.cell? ⟨b, 0, none⟩ = some (.int .u8 z)) : (convert 63 9 (.slice (some ⟨b, 0, none⟩) 1 1)).run Tryd.prog W = .ok (.string ⟨#[UInt8.ofNat z.toNat]⟩) W := by
  have h := run_convert_bytes_arg (P := Tryd.prog) W 63 5 Tryd.underlying63 Tryd.underlying5 b 0 1 1 [z] rfl (fun i hi => by
    obtain rfl : i = 0 := by omega
    simpa using c) 9 Tryd.underlying9
  rw [h]
  rfl

theorem cat_one (X : List UInt8) (c : UInt8) : (⟨X.toArray⟩ ++ ⟨#[c]⟩ : ByteArray) = ⟨(X ++ [c]).toArray⟩ := by
  apply ByteArray.ext
  rw [ByteArray.data_append]
  simp

set_option maxRecDepth 100000 in
set_option maxHeartbeats 4000000 in
theorem l1Dec_any (i : Nat) : i ≤ 999 → ∀ w : World, Calls Tryd.prog 19 #[.int .i64 (i : Int)] w (TextPost ⟨(Lib.decDigits i).toArray⟩ w) := by
  induction i using Nat.strongRecOn with
  | _ i ih =>
  intro hi w
  by_cases h10 : i < 10
  · have hd : Lib.decDigits i = [UInt8.ofNat (48 + i)] := by rw [Lib.decDigits, dif_pos h10]
    have hcv := one_byte (w.alloc (.cells #[.int .u8 (48 + (i : Int))] 5)) w.heap.size (48 + (i : Int)) (by simp)
    have hn : (48 + (i : Int)).toNat = 48 + i := by omega
    rw [hd]
    rw [hn] at hcv
    clear hd ih hn
    generalize UInt8.ofNat (48 + i) = c at *
    unfold TextPost
    go_enter Tryd.func19, Tryd.ntmps19
    go_wp2_with fail
    go_ret
    exact ⟨rfl, belOne _ _⟩
  · have hd : Lib.decDigits i = Lib.decDigits (i / 10) ++ [UInt8.ofNat (48 + i % 10)] := by rw [Lib.decDigits, dif_neg h10]
    rw [hd, ← cat_one]
    have HCL := hideN (fun V => ih (i / 10) (by omega) (by omega) V)
    have hsz := digits_small (i / 10) (by omega)
    clear hd ih
    obtain ⟨X, hX⟩ : ∃ X : ByteArray, ⟨(Lib.decDigits (i / 10)).toArray⟩ = X := ⟨_, rfl⟩
    have hXs : X.size ≤ 3 := by rw [← hX]; exact hsz
    have hXt : X.size ≤ 9223372036854775806 := by omega
    rw [hX] at HCL ⊢
    have HCV := hideN (fun (W : World) (b : Nat) (c : W.cell? ⟨b, 0, none⟩ = some (.int .u8 (48 + ((i % 10 : Nat) : Int)))) => one_byte W b _ c)
    have hn : (48 + ((i % 10 : Nat) : Int)).toNat = 48 + i % 10 := by omega
    rw [hn] at HCV
    generalize UInt8.ofNat (48 + i % 10) = c at *
    obtain ⟨q, hq⟩ : ∃ q, i / 10 = q := ⟨_, rfl⟩
    obtain ⟨r, hr⟩ : ∃ r, i % 10 = r := ⟨_, rfl⟩
    have hq1 : Int.tdiv (i : Int) 10 = (q : Int) := by rw [← hq]; rfl
    have hr1 : Int.tmod (i : Int) 10 = (r : Int) := by rw [← hr]; rfl
    have hr9 : r ≤ 9 := by omega
    have hq9 : q ≤ 99 := by omega
    have hw1 : IntKind.i64.wrap (q : Int) = q := by rw [IntKind.wrap_i64]; omega
    have hw2 : IntKind.i64.wrap (48 + (r : Int)) = 48 + (r : Int) := by rw [IntKind.wrap_i64]; omega
    have hw3 : IntKind.u8.wrap (48 + (r : Int)) = 48 + (r : Int) := by rw [IntKind.wrap_u8]; omega
    rw [hq] at HCL
    rw [hr] at HCV
    clear hq hr hX hsz hn
    unfold TextPost at *
    go_enter Tryd.func19, Tryd.ntmps19
    go_wp2_with fail
    refine region_U (fin := 10) (S := fun _ => True) (by kernel_rfl) trivial (fun hHeld => ?_)
    clear hHeld
    have h0 : True := trivial
    refine takeU (i := 0) (v := .int .i64 (i : Int)) rfl (by rfl) (by kernel_rfl) (by kernel_rfl) (reach_one (by kernel_rfl)) (by kernel_rfl) (by kernel_rfl) (fun _ _ _ h => h) (Or.inl ⟨by rfl, fun w hS => by have h0 := hS; go_simp⟩) h0 ?_
    simp only [List.getElem_toArray, List.getElem_cons_zero, Act.put, List.setIfInBounds_toArray, List.set_cons_zero, List.set_cons_succ]
    refine takeU (i := 1) (v := .int .i64 (q : Int)) rfl (by rfl) (by kernel_rfl) (by kernel_rfl) (reach_one (by kernel_rfl)) (by kernel_rfl) (by kernel_rfl) (fun _ _ _ h => h) (Or.inl ⟨by rfl, fun w hS => by have h0 := hS; go_simp⟩) h0 ?_
    simp only [List.getElem_toArray, List.getElem_cons_zero, List.getElem_cons_succ, Act.put, List.setIfInBounds_toArray, List.set_cons_zero, List.set_cons_succ]
    refine takeU (i := 3) (v := .int .i64 (i : Int)) rfl (by rfl) (by kernel_rfl) (by kernel_rfl) (reach_one (by kernel_rfl)) (by kernel_rfl) (by kernel_rfl) (fun _ _ _ h => h) (Or.inl ⟨by rfl, fun w hS => by have h0 := hS; go_simp⟩) h0 ?_
    simp only [List.getElem_toArray, List.getElem_cons_zero, List.getElem_cons_succ, Act.put, List.setIfInBounds_toArray, List.set_cons_zero, List.set_cons_succ]
    refine takeU (i := 4) (v := .int .i64 (r : Int)) rfl (by rfl) (by kernel_rfl) (by kernel_rfl) (reach_one (by kernel_rfl)) (by kernel_rfl) (by kernel_rfl) (fun _ _ _ h => h) (Or.inl ⟨by rfl, fun w hS => by have h0 := hS; go_simp⟩) h0 ?_
    simp only [List.getElem_toArray, List.getElem_cons_zero, List.getElem_cons_succ, Act.put, List.setIfInBounds_toArray, List.set_cons_zero, List.set_cons_succ]
    refine takeU (i := 5) (v := .int .i64 (48 + (r : Int))) rfl (by rfl) (by kernel_rfl) (by kernel_rfl) (reach_one (by kernel_rfl)) (by kernel_rfl) (by kernel_rfl) (fun _ _ _ h => h) (Or.inl ⟨by rfl, fun w hS => by have h0 := hS; go_simp⟩) h0 ?_
    simp only [List.getElem_toArray, List.getElem_cons_zero, List.getElem_cons_succ, Act.put, List.setIfInBounds_toArray, List.set_cons_zero, List.set_cons_succ]
    refine takeU (i := 6) (v := .int .u8 (48 + (r : Int))) rfl (by rfl) (by kernel_rfl) (by kernel_rfl) (reach_one (by kernel_rfl)) (by kernel_rfl) (by kernel_rfl) (fun _ _ _ h => h) (Or.inl ⟨by rfl, fun w hS => by have h0 := hS; go_simp⟩) h0 ?_
    simp only [List.getElem_toArray, List.getElem_cons_zero, List.getElem_cons_succ, Act.put, List.setIfInBounds_toArray, List.set_cons_zero, List.set_cons_succ]
    refine twoU (i := 2) (j := 7) (by kernel_rfl) rfl rfl (by rfl) (by rfl) ?_ ?_
    · simp only [List.getElem_toArray, List.getElem_cons_zero, List.getElem_cons_succ]
      go_simp
      refine (HCL.out w.drew).mono ?_
      rintro e w2 ⟨rfl, hb2⟩
      have HB2 : Hid (Below w.heap.size w w2) := undrew hb2 |> (belNext (Below.refl _ _))
      first | refine ⟨trivial, ?_⟩ | skip
      have hcv := HCV.out (w2.alloc (.cells #[.int .u8 (48 + (r : Int))] 5)) w2.heap.size (by simp)
      have HB9 : Hid (Below w.heap.size w (w2.alloc (.cells #[.int .u8 (48 + (r : Int))] 5))) := belNext HB2.out (belOne _ _)
      clear hb2
      refine oneU (i := 7) (by kernel_rfl) rfl (by rfl) ?_
      simp only [List.getElem_toArray, List.getElem_cons_zero, List.getElem_cons_succ]
      go_simp
      refine oneU (i := 8) (by kernel_rfl) rfl (by rfl) ?_
      simp only [List.getElem_toArray, List.getElem_cons_zero, List.getElem_cons_succ]
      go_simp
      refine takeU (i := 9) (v := .string (X ++ ⟨#[c]⟩)) rfl (by rfl) (by kernel_rfl) (by kernel_rfl) (reach_one (by kernel_rfl)) (by kernel_rfl) (by kernel_rfl) (fun _ _ _ h => h) (Or.inl ⟨by rfl, fun w hS => by have h0 := hS; go_simp⟩) h0 ?_
      simp only [List.getElem_toArray, List.getElem_cons_zero, List.getElem_cons_succ, Act.put, List.setIfInBounds_toArray, List.set_cons_zero, List.set_cons_succ]
      refine oneU (i := 10) (by kernel_rfl) rfl (by rfl) ?_
      simp only [List.getElem_toArray, List.getElem_cons_zero, List.getElem_cons_succ]
      go_simp
      refine doneU (by kernel_rfl) ?_ _
      go_wp2_with fail
      go_ret
      exact ⟨rfl, HB9.out⟩
    · simp only [List.getElem_toArray, List.getElem_cons_zero, List.getElem_cons_succ]
      go_simp
      obtain ⟨A1, hA1⟩ : ∃ A1, A1 = (w.alloc (.cells #[.int .u8 (48 + (r : Int))] 5)).drew := ⟨_, rfl⟩
      have HBA : Hid (Below w.heap.size w A1) := by rw [hA1]; exact (belOne _ _).drew
      have hcA : A1.cell? ⟨w.heap.size, 0, none⟩ = some (.int .u8 (48 + (r : Int))) := by rw [hA1]; simp
      have HCA := hideN hcA
      have hcv := HCV.out A1 w.heap.size hcA
      have HA1 := hideN hA1
      clear hA1 hcA
      try rw [← HA1.out]
      trace_state
      refine twoU (i := 2) (j := 8) (by kernel_rfl) rfl rfl (by rfl) (by rfl) ?_ ?_
      · simp only [List.getElem_toArray, List.getElem_cons_zero, List.getElem_cons_succ]
        go_simp
        refine (HCL.out A1).mono ?_
        rintro e w2 ⟨rfl, hb2⟩
        have HB2 : Hid (Below w.heap.size w w2) := belNext HBA.out hb2
        first | refine ⟨trivial, ?_⟩ | skip
        have hcv2 := HCV.out w2 w.heap.size ((hb2.cell (cell_lt HCA.out)).trans HCA.out)
        have HB9 := HB2
        clear hb2 hcv
        refine oneU (i := 8) (by kernel_rfl) rfl (by rfl) ?_
        simp only [List.getElem_toArray, List.getElem_cons_zero, List.getElem_cons_succ]
        go_simp
        refine takeU (i := 9) (v := .string (X ++ ⟨#[c]⟩)) rfl (by rfl) (by kernel_rfl) (by kernel_rfl) (reach_one (by kernel_rfl)) (by kernel_rfl) (by kernel_rfl) (fun _ _ _ h => h) (Or.inl ⟨by rfl, fun w hS => by have h0 := hS; go_simp⟩) h0 ?_
        simp only [List.getElem_toArray, List.getElem_cons_zero, List.getElem_cons_succ, Act.put, List.setIfInBounds_toArray, List.set_cons_zero, List.set_cons_succ]
        refine oneU (i := 10) (by kernel_rfl) rfl (by rfl) ?_
        simp only [List.getElem_toArray, List.getElem_cons_zero, List.getElem_cons_succ]
        go_simp
        refine doneU (by kernel_rfl) ?_ _
        go_wp2_with fail
        go_ret
        exact ⟨rfl, HB9.out⟩
      · simp only [List.getElem_toArray, List.getElem_cons_zero, List.getElem_cons_succ]
        go_simp
        refine oneU (i := 2) (by kernel_rfl) rfl (by rfl) ?_
        simp only [List.getElem_toArray, List.getElem_cons_zero, List.getElem_cons_succ]
        go_simp
        refine (HCL.out A1).mono ?_
        rintro e w2 ⟨rfl, hb2⟩
        have HB2 : Hid (Below w.heap.size w w2) := belNext HBA.out hb2
        first | refine ⟨trivial, ?_⟩ | skip
        have HB9 := HB2
        clear hb2 hcv
        refine takeU (i := 9) (v := .string (X ++ ⟨#[c]⟩)) rfl (by rfl) (by kernel_rfl) (by kernel_rfl) (reach_one (by kernel_rfl)) (by kernel_rfl) (by kernel_rfl) (fun _ _ _ h => h) (Or.inl ⟨by rfl, fun w hS => by have h0 := hS; go_simp⟩) h0 ?_
        simp only [List.getElem_toArray, List.getElem_cons_zero, List.getElem_cons_succ, Act.put, List.setIfInBounds_toArray, List.set_cons_zero, List.set_cons_succ]
        refine oneU (i := 10) (by kernel_rfl) rfl (by rfl) ?_
        simp only [List.getElem_toArray, List.getElem_cons_zero, List.getElem_cons_succ]
        go_simp
        refine doneU (by kernel_rfl) ?_ _
        go_wp2_with fail
        go_ret
        exact ⟨rfl, HB9.out⟩

end Go.Proofs.YthbjihamhfahcaaDoor

/-
  How much a sign binds: levelOf of the program, l5Level of the model.
-/
import Derived.Test.YthbjihamhfahcaaDoorExpC
import Derived.Test.YthbjihamhfahcaaDoorName1
namespace Go.Proofs.YthbjihamhfahcaaDoor
open Go.RowKit Go.Deep
set_option linter.unusedVariables false

attribute [local go_sem] Oper.semAt_some

/-- The level of a sign, -1 of what is none. -/
def signL (l : List UInt8) : Int := if (l == [124]) = true then 0 else if (l == [38]) = true then 1 else if (l == [61] || l == [60]) = true then 2 else if (l == [43] || l == [45]) = true then 3 else -1

set_option maxHeartbeats 2000000 in
theorem levelOf_any (s : ByteArray) (w : World) :
    Calls Tryd.prog 36 #[.string s] w fun e w' => e = .returned (.int .i64 (signL s.toList + 1)) ∧ w' = w := by
  cases h0 : (s.toList == [124]) with
  | true =>
    have hv : signL s.toList + 1 = 1 := by unfold signL; simp [h0]
    rw [hv]
    clear hv
    go_enter Tryd.func36, Tryd.ntmps36
    go_wp2_with fail
    go_ret
    exact ⟨rfl, rfl⟩
  | false =>
  cases h1 : (s.toList == [38]) with
  | true =>
    have hv : signL s.toList + 1 = 2 := by unfold signL; simp [h0, h1]
    rw [hv]
    clear hv
    go_enter Tryd.func36, Tryd.ntmps36
    go_wp2_with fail
    go_ret
    exact ⟨rfl, rfl⟩
  | false =>
  cases h2 : (s.toList == [61]) with
  | true =>
    have hv : signL s.toList + 1 = 3 := by unfold signL; simp [h0, h1, h2]
    rw [hv]
    clear hv
    go_enter Tryd.func36, Tryd.ntmps36
    go_wp2_with fail
    go_ret
    exact ⟨rfl, rfl⟩
  | false =>
  cases h3 : (s.toList == [60]) with
  | true =>
    have hv : signL s.toList + 1 = 3 := by unfold signL; simp [h0, h1, h2, h3]
    rw [hv]
    clear hv
    go_enter Tryd.func36, Tryd.ntmps36
    go_wp2_with fail
    go_ret
    exact ⟨rfl, rfl⟩
  | false =>
  cases h4 : (s.toList == [43]) with
  | true =>
    have hv : signL s.toList + 1 = 4 := by unfold signL; simp [h0, h1, h2, h3, h4]
    rw [hv]
    clear hv
    go_enter Tryd.func36, Tryd.ntmps36
    go_wp2_with fail
    go_ret
    exact ⟨rfl, rfl⟩
  | false =>
  cases h5 : (s.toList == [45]) with
  | true =>
    have hv : signL s.toList + 1 = 4 := by unfold signL; simp [h0, h1, h2, h3, h4, h5]
    rw [hv]
    clear hv
    go_enter Tryd.func36, Tryd.ntmps36
    go_wp2_with fail
    go_ret
    exact ⟨rfl, rfl⟩
  | false =>
  have hv : signL s.toList + 1 = 0 := by unfold signL; simp [h0, h1, h2, h3, h4, h5]
  rw [hv]
  clear hv
  go_enter Tryd.func36, Tryd.ntmps36
  go_wp2_with fail
  go_ret
  exact ⟨rfl, rfl⟩

theorem up_alloc {W : World} {a : Addr} {v : Value} (o : Obj) (h : W.cell? a = some v) : (W.alloc o).cell? a = some v := ((belOne W o).cell (cell_lt h)).trans h
theorem new_at (W : World) (n : Nat) (hn : W.heap.size = n) (cs : Array Value) (t : TypeId) (i : Nat) (v : Value) (hv : cs[i]? = some v) : (W.alloc (.cells cs t)).cell? ⟨n, i, none⟩ = some v := by subst hn; rw [World.cell?_alloc_new]; exact hv

theorem l5Signs_any (w : World) : Calls Tryd.prog 29 #[] w fun e w' => e = .returned (.slice (some ⟨w.heap.size + 4, 0, none⟩) 4 4) ∧ Below w.heap.size w w' ∧
    (w'.cell? ⟨w.heap.size + 4, 0, none⟩ = some (.slice (some ⟨w.heap.size, 0, none⟩) 1 1) ∧ w'.cell? ⟨w.heap.size + 4, 1, none⟩ = some (.slice (some ⟨w.heap.size + 1, 0, none⟩) 1 1) ∧ w'.cell? ⟨w.heap.size + 4, 2, none⟩ = some (.slice (some ⟨w.heap.size + 2, 0, none⟩) 2 2) ∧ w'.cell? ⟨w.heap.size + 4, 3, none⟩ = some (.slice (some ⟨w.heap.size + 3, 0, none⟩) 2 2)) ∧
    (w'.cell? ⟨w.heap.size, 0, none⟩ = some (strOf [124]) ∧ w'.cell? ⟨w.heap.size + 1, 0, none⟩ = some (strOf [38]) ∧ w'.cell? ⟨w.heap.size + 2, 0, none⟩ = some (strOf [61]) ∧ w'.cell? ⟨w.heap.size + 2, 1, none⟩ = some (strOf [60]) ∧ w'.cell? ⟨w.heap.size + 3, 0, none⟩ = some (strOf [43]) ∧ w'.cell? ⟨w.heap.size + 3, 1, none⟩ = some (strOf [45])) := by
  go_enter Tryd.func29, Tryd.ntmps29
  go_wp2_with fail
  go_ret
  refine ⟨rfl, belNext (belNext (belNext (belNext (belOne _ _) (belOne _ _)) (belOne _ _)) (belOne _ _)) (belOne _ _), ?_, ?_⟩
  · exact ⟨new_at _ _ (by simp) _ _ 0 _ rfl, new_at _ _ (by simp) _ _ 1 _ rfl, new_at _ _ (by simp) _ _ 2 _ rfl, new_at _ _ (by simp) _ _ 3 _ rfl⟩
  · exact ⟨up_alloc _ (up_alloc _ (up_alloc _ (up_alloc _ (new_at _ _ rfl _ _ 0 _ rfl)))), up_alloc _ (up_alloc _ (up_alloc _ (new_at _ _ (by simp) _ _ 0 _ rfl))), up_alloc _ (up_alloc _ (new_at _ _ (by simp) _ _ 0 _ rfl)), up_alloc _ (up_alloc _ (new_at _ _ (by simp) _ _ 1 _ rfl)), up_alloc _ (new_at _ _ (by simp) _ _ 0 _ rfl), up_alloc _ (new_at _ _ (by simp) _ _ 1 _ rfl)⟩

set_option maxRecDepth 100000 in
set_option maxHeartbeats 2000000 in
theorem l5Level_any (s : ByteArray) (w : World) :
    Calls Tryd.prog 21 #[.string s] w fun e w' => e = .returned (.int .i64 (signL s.toList)) ∧ Below w.heap.size w w' := by
  have HV : Hid (signL s.toList = if ([[124]] : List (List UInt8)).any (fun x => x == s.toList) = true then 0 else if ([[38]] : List (List UInt8)).any (fun x => x == s.toList) = true then 1 else if ([[61], [60]] : List (List UInt8)).any (fun x => x == s.toList) = true then 2 else if ([[43], [45]] : List (List UInt8)).any (fun x => x == s.toList) = true then 3 else -1) := by
    show _ = _
    unfold signL
    simp only [List.any_cons, List.any_nil, Bool.or_false]
    have fl : ∀ x : List UInt8, (x == s.toList) = (s.toList == x) := fun x => by
      by_cases e : x = s.toList
      · rw [e]
      · rw [beq_false_of_ne e, beq_false_of_ne (Ne.symm e)]
    simp only [fl]
  obtain ⟨r0, hr0⟩ : ∃ r, ([[124]] : List (List UInt8)).any (fun x => x == s.toList) = r := ⟨_, rfl⟩
  obtain ⟨r1, hr1⟩ : ∃ r, ([[38]] : List (List UInt8)).any (fun x => x == s.toList) = r := ⟨_, rfl⟩
  obtain ⟨r2, hr2⟩ : ∃ r, ([[61], [60]] : List (List UInt8)).any (fun x => x == s.toList) = r := ⟨_, rfl⟩
  obtain ⟨r3, hr3⟩ : ∃ r, ([[43], [45]] : List (List UInt8)).any (fun x => x == s.toList) = r := ⟨_, rfl⟩
  rw [hr0] at HV
  rw [hr1] at HV
  rw [hr2] at HV
  rw [hr3] at HV
  rw [HV.out]
  clear HV
  go_enter Tryd.func21, Tryd.ntmps21
  go_wp2_with fail
  refine (l5Signs_any w).mono ?_
  rintro e w1 ⟨rfl, hb1, ⟨o0, o1, o2, o3⟩, p0, p1, p2, p3, p4, p5⟩
  have H0 := hideN (l5Has_any s [[124]] w.heap.size 1 1 w1 rfl (by decide) (fun i hi => by
    obtain rfl : i = 0 := by omega
    exact p0))
  have H1 := hideN (l5Has_any s [[38]] (w.heap.size + 1) 1 1 w1 rfl (by decide) (fun i hi => by
    obtain rfl : i = 0 := by omega
    exact p1))
  have H2 := hideN (l5Has_any s [[61], [60]] (w.heap.size + 2) 2 2 w1 rfl (by decide) (fun i hi => by
    rcases (by omega : i = 0 ∨ i = 1) with rfl | rfl
    · exact p2
    · exact p3))
  have H3 := hideN (l5Has_any s [[43], [45]] (w.heap.size + 3) 2 2 w1 rfl (by decide) (fun i hi => by
    rcases (by omega : i = 0 ∨ i = 1) with rfl | rfl
    · exact p4
    · exact p5))
  have HB1 := hideN hb1
  rw [hr0] at H0
  rw [hr1] at H1
  rw [hr2] at H2
  rw [hr3] at H3
  clear p0 p1 p2 p3 p4 p5 hb1 hr0 hr1 hr2 hr3
  obtain ⟨G, hG⟩ : ∃ G, w.heap.size = G := ⟨_, rfl⟩
  rw [hG] at H0 H1 H2 H3 o0 o1 o2 o3 HB1
  try rw [hG]
  go_wp2_with fail
  go_loopw [4] (fun i wr => ∃ j : Nat, j ≤ 4 ∧ i = .int .i64 (j : Int) ∧ Hid ((1 ≤ j → r0 = false) ∧ (2 ≤ j → r1 = false) ∧ (3 ≤ j → r2 = false) ∧ (4 ≤ j → r3 = false)) ∧ wr = w1) (fun i _ => 4 - (intOf i).toNat)
  case atStart => exact ⟨0, by omega, rfl, ⟨fun h => by omega, fun h => by omega, fun h => by omega, fun h => by omega⟩, rfl⟩
  case round =>
    obtain ⟨j, hj, rfl, hno, rfl⟩ := hrel
    rcases (by omega : j = 0 ∨ j = 1 ∨ j = 2 ∨ j = 3 ∨ j = 4) with rfl | rfl | rfl | rfl | rfl
    · have hjj : True := trivial
      go_wp2_with fail
      refine H0.out.mono ?_
      rintro e w2 ⟨rfl, rfl⟩
      cases r0 with
      | true =>
        go_wp2_with fail
        go_ret
        exact ⟨rfl, HB1.out⟩
      | false =>
        go_wp2
        go_roundw
        case rel => exact ⟨1, by omega, by go_num, ⟨fun h => by first | rfl | omega, fun h => by first | rfl | omega, fun h => by first | rfl | omega, fun h => by first | rfl | omega⟩, by first | rfl | trivial⟩
        case measure => simp [intOf]
    · have hjj : True := trivial
      have e0 := hno.out.1 (by omega)
      subst e0
      go_wp2_with fail
      refine H1.out.mono ?_
      rintro e w2 ⟨rfl, rfl⟩
      cases r1 with
      | true =>
        go_wp2_with fail
        go_ret
        exact ⟨rfl, HB1.out⟩
      | false =>
        go_wp2
        go_roundw
        case rel => exact ⟨2, by omega, by go_num, ⟨fun h => by first | rfl | omega, fun h => by first | rfl | omega, fun h => by first | rfl | omega, fun h => by first | rfl | omega⟩, by first | rfl | trivial⟩
        case measure => simp [intOf]
    · have hjj : True := trivial
      have e0 := hno.out.1 (by omega)
      have e1 := hno.out.2.1 (by omega)
      subst e0 e1
      go_wp2_with fail
      refine H2.out.mono ?_
      rintro e w2 ⟨rfl, rfl⟩
      cases r2 with
      | true =>
        go_wp2_with fail
        go_ret
        exact ⟨rfl, HB1.out⟩
      | false =>
        go_wp2
        go_roundw
        case rel => exact ⟨3, by omega, by go_num, ⟨fun h => by first | rfl | omega, fun h => by first | rfl | omega, fun h => by first | rfl | omega, fun h => by first | rfl | omega⟩, by first | rfl | trivial⟩
        case measure => simp [intOf]
    · have hjj : True := trivial
      have e0 := hno.out.1 (by omega)
      have e1 := hno.out.2.1 (by omega)
      have e2 := hno.out.2.2.1 (by omega)
      subst e0 e1 e2
      go_wp2_with fail
      refine H3.out.mono ?_
      rintro e w2 ⟨rfl, rfl⟩
      cases r3 with
      | true =>
        go_wp2_with fail
        go_ret
        exact ⟨rfl, HB1.out⟩
      | false =>
        go_wp2
        go_roundw
        case rel => exact ⟨4, by omega, by go_num, ⟨fun h => by first | rfl | omega, fun h => by first | rfl | omega, fun h => by first | rfl | omega, fun h => by first | rfl | omega⟩, by first | rfl | trivial⟩
        case measure => simp [intOf]
    · have e0 := hno.out.1 (by omega)
      have e1 := hno.out.2.1 (by omega)
      have e2 := hno.out.2.2.1 (by omega)
      have e3 := hno.out.2.2.2 (by omega)
      subst e0 e1 e2 e3
      go_wp2_with fail
      go_ret
      exact ⟨rfl, HB1.out⟩

end Go.Proofs.YthbjihamhfahcaaDoor

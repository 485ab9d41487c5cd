/-
  Terms of nodes: joined.
-/
import Derived.Test.YtjhdpnejjakhkaaExpJ
namespace Go.Proofs.Ytjhdpnejjakhkaa
open Go.RowKit Go.Deep
set_option linter.unusedVariables false

attribute [local go_sem] Oper.semAt_some

/-- So many terms, in a row. -/
def IsTerms (w : World) (pa : Option Addr) (n : Nat) : Prop := 0 < n → ∃ b, pa = some ⟨b, 0, none⟩ ∧ ∀ i, i < n → ∃ t x, w.cell? ⟨b, i, none⟩ = some (.iface t x)

def JoinPost (r : Bool) (w : World) (e : Ending) (w' : World) : Prop := ∃ v, e = .returned (.tuple #[v, .bool r]) ∧ (r = true → ∃ t x, v = .iface t x) ∧ Below w.heap.size w w'

set_option maxRecDepth 100000 in
set_option maxHeartbeats 8000000 in
theorem joined_any (k n : Int) (s : ByteArray) (ao pa : Option Addr) (m cap pm pc : Nat) (w : World) (hs : s.size ≤ 1048576) (hm : pm = kidsN k) (hp : IsTerms w pa pm) (hpc : pm ≤ pc) :
    Calls Try.prog 26 #[.agg #[.int .i64 k, .int .i64 n, .string s, .slice ao m cap], .slice pa pm pc] w (JoinPost (joinB k n s.toList) w) := by
  obtain ⟨W1, hW1⟩ : ∃ W1, W1 = w.alloc (.cells #[.int .i64 k, .int .i64 n, .string s, .slice ao m cap] 29) := ⟨_, rfl⟩
  have HB1 : Hid (Below w.heap.size w W1) := by rw [hW1]; exact belOne _ _
  have HK : Hid (BlkE W1 w.heap.size (.int .i64 k) (.int .i64 n) (.string s) (.slice ao m cap) 29) := by rw [hW1]; exact BlkE.new _ _ _ _ _ _
  have HBD : Hid (Below w.heap.size w W1.drew) := belNext HB1.out (below_drewN (Below.refl _ _) 1)
  have HBN := hideN (fun q => belNext HB1.out (below_drewN (Below.refl W1.heap.size W1) q))
  have HW1 := hideN hW1
  have HNAME := hideN (fun W => implNameOk_any s W hs)
  have HLEV := hideN (fun W => levelOf_any s W)
  clear hW1 hs
  unfold JoinPost
  by_cases h1 : k = 1
  · subst h1
    have hv : joinB 1 n s.toList = (decide (0 ≤ n) && decide (n ≤ 999)) := by unfold joinB; simp
    rw [hv]
    clear hv
    by_cases hn : 0 ≤ n
    · have d1 : decide (0 ≤ n) = true := decide_eq_true hn
      by_cases hn2 : n ≤ 999
      · have d2 : decide (n ≤ 999) = true := decide_eq_true hn2
        rw [d1, d2]
        go_enter Try.func26, Try.ntmps26
        go_wp2_with fail
        try rw [← HW1.out]
        have b1 := HK.out.c1
        go_quiet (fail)
        go_wp2_with fail
        exact bodyPost_ret (v := .tuple #[.iface 65 (.int .i64 n), .bool true]) (by simp [results, Try.results26, go_sem]) rfl ⟨_, rfl, by first | exact fun _ => ⟨_, _, rfl⟩ | exact (fun h => by cases h), by first | exact HB1.out | exact HBD.out | exact belOne _ _ | exact HBN.out _⟩
      · have d2 : decide (n ≤ 999) = false := decide_eq_false hn2
        rw [d1, d2]
        go_enter Try.func26, Try.ntmps26
        go_wp2_with fail
        try rw [← HW1.out]
        have b1 := HK.out.c1
        go_quiet (fail)
        go_wp2_with fail
        exact bodyPost_ret (v := .tuple #[.iface 65 (.int .i64 n), .bool false]) (by simp [results, Try.results26, go_sem]) rfl ⟨_, rfl, by first | exact fun _ => ⟨_, _, rfl⟩ | exact (fun h => by cases h), by first | exact HB1.out | exact HBD.out | exact belOne _ _ | exact HBN.out _⟩
    · have d1 : decide (0 ≤ n) = false := decide_eq_false hn
      rw [d1, Bool.false_and]
      go_enter Try.func26, Try.ntmps26
      go_wp2_with fail
      try rw [← HW1.out]
      have b1 := HK.out.c1
      go_quiet (fail)
      go_wp2_with fail
      exact bodyPost_ret (v := .tuple #[.iface 65 (.int .i64 n), .bool false]) (by simp [results, Try.results26, go_sem]) rfl ⟨_, rfl, by first | exact fun _ => ⟨_, _, rfl⟩ | exact (fun h => by cases h), by first | exact HB1.out | exact HBD.out | exact belOne _ _ | exact HBN.out _⟩
  have q1 : (k == 1) = false := by simpa using h1
  by_cases h2 : k = 2
  · subst h2
    have hv : joinB 2 n s.toList = true := by unfold joinB; simp
    rw [hv]
    clear hv
    go_enter Try.func26, Try.ntmps26
    go_wp2_with fail
    exact bodyPost_ret (v := .tuple #[.iface 66 (.bool true), .bool true]) (by simp [results, Try.results26, go_sem]) rfl ⟨_, rfl, by first | exact fun _ => ⟨_, _, rfl⟩ | exact (fun h => by cases h), by first | exact HB1.out | exact HBD.out | exact belOne _ _ | exact HBN.out _⟩
  have q2 : (k == 2) = false := by simpa using h2
  by_cases h3 : k = 3
  · subst h3
    have hv : joinB 3 n s.toList = true := by unfold joinB; simp
    rw [hv]
    clear hv
    go_enter Try.func26, Try.ntmps26
    go_wp2_with fail
    exact bodyPost_ret (v := .tuple #[.iface 66 (.bool false), .bool true]) (by simp [results, Try.results26, go_sem]) rfl ⟨_, rfl, by first | exact fun _ => ⟨_, _, rfl⟩ | exact (fun h => by cases h), by first | exact HB1.out | exact HBD.out | exact belOne _ _ | exact HBN.out _⟩
  have q3 : (k == 3) = false := by simpa using h3
  by_cases h4 : k = 4
  · subst h4
    obtain ⟨r, hr⟩ : ∃ r, nameB s.toList = r := ⟨_, rfl⟩
    have hv : joinB 4 n s.toList = r := by unfold joinB; simp [hr]
    rw [hv]
    rw [hr] at HNAME
    clear hv hr
    go_enter Try.func26, Try.ntmps26
    go_wp2_with fail
    try rw [← HW1.out]
    obtain ⟨B, hB⟩ : ∃ B, w.heap.size = B := ⟨_, rfl⟩
    have HBB := hideN hB
    rw [hB] at HK
    try rw [hB]
    clear hB
    have z2 : W1.drew.cell? ⟨B, 2, none⟩ = some (.string s) := HK.out.c2
    refine region_U (fin := 7) (S := fun V' => V'.cell? ⟨B, 2, none⟩ = some (.string s)) (by kernel_rfl) z2 (fun hHeld => ?_)
    clear hHeld
    refine takeU (i := 0) (v := .pointer (some ⟨B, 2, none⟩)) rfl (by rfl) (by kernel_rfl) (by kernel_rfl) (reach_one (by kernel_rfl)) (by kernel_rfl) (by kernel_rfl) (fun _ _ _ h => h) (Or.inl ⟨by rfl, fun w hS => by have z2 := hS; go_simp⟩) z2 ?_
    simp only [List.getElem_toArray, List.getElem_cons_zero, Act.put, List.setIfInBounds_toArray, List.set_cons_zero, List.set_cons_succ]
    refine takeU (i := 1) (v := .string s) rfl (by rfl) (by kernel_rfl) (by kernel_rfl) (reach_one (by kernel_rfl)) (by kernel_rfl) (by kernel_rfl) (fun _ _ _ h => h) (Or.inl ⟨by rfl, fun w hS => by have z2 := hS; go_simp⟩) z2 ?_
    simp only [List.getElem_toArray, List.getElem_cons_zero, List.getElem_cons_succ, Act.put, List.setIfInBounds_toArray, List.set_cons_zero, List.set_cons_succ]
    refine takeU (i := 2) (v := .iface 67 (.string s)) rfl (by rfl) (by kernel_rfl) (by kernel_rfl) (reach_one (by kernel_rfl)) (by kernel_rfl) (by kernel_rfl) (fun _ _ _ h => h) (Or.inl ⟨by rfl, fun w hS => by have z2 := hS; go_simp⟩) z2 ?_
    simp only [List.getElem_toArray, List.getElem_cons_zero, List.getElem_cons_succ, Act.put, List.setIfInBounds_toArray, List.set_cons_zero, List.set_cons_succ]
    refine takeU (i := 3) (v := .pointer (some ⟨B, 2, none⟩)) rfl (by rfl) (by kernel_rfl) (by kernel_rfl) (reach_one (by kernel_rfl)) (by kernel_rfl) (by kernel_rfl) (fun _ _ _ h => h) (Or.inl ⟨by rfl, fun w hS => by have z2 := hS; go_simp⟩) z2 ?_
    simp only [List.getElem_toArray, List.getElem_cons_zero, List.getElem_cons_succ, Act.put, List.setIfInBounds_toArray, List.set_cons_zero, List.set_cons_succ]
    refine takeU (i := 4) (v := .string s) rfl (by rfl) (by kernel_rfl) (by kernel_rfl) (reach_one (by kernel_rfl)) (by kernel_rfl) (by kernel_rfl) (fun _ _ _ h => h) (Or.inl ⟨by rfl, fun w hS => by have z2 := hS; go_simp⟩) z2 ?_
    simp only [List.getElem_toArray, List.getElem_cons_zero, List.getElem_cons_succ, Act.put, List.setIfInBounds_toArray, List.set_cons_zero, List.set_cons_succ]
    refine oneU (i := 5) (by kernel_rfl) rfl (by rfl) ?_
    simp only [List.getElem_toArray, List.getElem_cons_zero, List.getElem_cons_succ]
    go_simp
    refine (HNAME.out W1.drew).mono ?_
    rintro e w2 ⟨rfl, rfl⟩
    refine ⟨z2, ?_⟩
    refine oneU (i := 6) (by kernel_rfl) rfl (by rfl) ?_
    simp only [List.getElem_toArray, List.getElem_cons_zero, List.getElem_cons_succ]
    go_simp
    refine oneU (i := 7) (by kernel_rfl) rfl (by rfl) ?_
    simp only [List.getElem_toArray, List.getElem_cons_zero, List.getElem_cons_succ]
    go_simp
    refine doneU (by kernel_rfl) ?_ _
    go_wp2_with fail
    exact bodyPost_ret (v := .tuple #[.iface 67 (.string s), .bool r]) (by simp [results, Try.results26, go_sem]) rfl ⟨_, rfl, by first | exact fun _ => ⟨_, _, rfl⟩ | exact (fun h => by cases h), by first | exact HB1.out | exact HBD.out | exact belOne _ _ | exact HBN.out _⟩
  have q4 : (k == 4) = false := by simpa using h4
  by_cases h5 : k = 5
  · subst h5
    have hv : joinB 5 n s.toList = true := by unfold joinB; simp
    rw [hv]
    clear hv
    have hpm : pm = 1 := hm
    subst hpm
    clear hm
    obtain ⟨pb, rfl, hcs⟩ := hp (by decide)
    obtain ⟨t0, y0, c0⟩ := hcs 0 (by decide)
    have hlp : pb < w.heap.size := cell_lt c0
    clear hcs
    go_enter Try.func26, Try.ntmps26
    go_wp2_with fail
    exact bodyPost_ret (v := .tuple #[.iface 69 (.agg #[.iface t0 y0]), .bool true]) (by simp [results, Try.results26, go_sem]) rfl ⟨_, rfl, by first | exact fun _ => ⟨_, _, rfl⟩ | exact (fun h => by cases h), by first | exact HB1.out | exact HBD.out | exact belOne _ _ | exact HBN.out _⟩
  have q5 : (k == 5) = false := by simpa using h5
  by_cases h6 : k = 6
  · subst h6
    obtain ⟨x, hx⟩ : ∃ x, signL s.toList + 1 = x := ⟨_, rfl⟩
    obtain ⟨r, hr⟩ : ∃ r, (!(decide (x = 0))) = r := ⟨_, rfl⟩
    have hv : joinB 6 n s.toList = r := by unfold joinB; rw [hx, hr]; simp
    rw [hv]
    rw [hx] at HLEV
    have hr2 : (x != 0) = r := by rw [← hr]; rfl
    clear hv hx hr
    have hpm : pm = 2 := hm
    subst hpm
    clear hm
    obtain ⟨pb, rfl, hcs⟩ := hp (by decide)
    obtain ⟨t0, y0, c0⟩ := hcs 0 (by decide)
    have hlp : pb < w.heap.size := cell_lt c0
    obtain ⟨t1, y1, c1⟩ := hcs 1 (by decide)
    clear hcs
    go_enter Try.func26, Try.ntmps26
    go_wp2_with fail
    try rw [← HW1.out]
    obtain ⟨B, hB⟩ : ∃ B, w.heap.size = B := ⟨_, rfl⟩
    have HBB := hideN hB
    rw [hB] at HK
    try rw [hB]
    clear hB
    have z2 : W1.drew.cell? ⟨B, 2, none⟩ = some (.string s) := HK.out.c2
    have p0 : W1.drew.cell? ⟨pb, 0, none⟩ = some (.iface t0 y0) := (HB1.out.cell (cell_lt c0)).trans c0
    have p1 : W1.drew.cell? ⟨pb, 1, none⟩ = some (.iface t1 y1) := (HB1.out.cell (cell_lt c1)).trans c1
    refine region_U (fin := 15) (S := fun V' => V'.cell? ⟨B, 2, none⟩ = some (.string s) ∧ V'.cell? ⟨pb, 0, none⟩ = some (.iface t0 y0) ∧ V'.cell? ⟨pb, 1, none⟩ = some (.iface t1 y1)) (by kernel_rfl) ⟨z2, p0, p1⟩ (fun hHeld => ?_)
    clear hHeld
    refine takeU (i := 0) (v := .pointer (some ⟨B, 2, none⟩)) rfl (by rfl) (by kernel_rfl) (by kernel_rfl) (reach_one (by kernel_rfl)) (by kernel_rfl) (by kernel_rfl) (fun _ _ _ h => h) (Or.inl ⟨by rfl, fun w hS => by obtain ⟨z2, p0, p1⟩ := hS; go_simp⟩) ⟨z2, p0, p1⟩ ?_
    simp only [List.getElem_toArray, List.getElem_cons_zero, Act.put, List.setIfInBounds_toArray, List.set_cons_zero, List.set_cons_succ]
    refine takeU (i := 1) (v := .string s) rfl (by rfl) (by kernel_rfl) (by kernel_rfl) (reach_one (by kernel_rfl)) (by kernel_rfl) (by kernel_rfl) (fun _ _ _ h => h) (Or.inl ⟨by rfl, fun w hS => by obtain ⟨z2, p0, p1⟩ := hS; go_simp⟩) ⟨z2, p0, p1⟩ ?_
    simp only [List.getElem_toArray, List.getElem_cons_zero, List.getElem_cons_succ, Act.put, List.setIfInBounds_toArray, List.set_cons_zero, List.set_cons_succ]
    refine takeU (i := 2) (v := .slice (some ⟨pb, 0, none⟩) 2 pc) rfl (by rfl) (by kernel_rfl) (by kernel_rfl) (reach_one (by kernel_rfl)) (by kernel_rfl) (by kernel_rfl) (fun _ _ _ h => h) (Or.inl ⟨by rfl, fun w hS => by obtain ⟨z2, p0, p1⟩ := hS; go_simp⟩) ⟨z2, p0, p1⟩ ?_
    simp only [List.getElem_toArray, List.getElem_cons_zero, List.getElem_cons_succ, Act.put, List.setIfInBounds_toArray, List.set_cons_zero, List.set_cons_succ]
    refine takeU (i := 3) (v := .pointer (some ⟨pb, 0, none⟩)) rfl (by rfl) (by kernel_rfl) (by kernel_rfl) (reach_one (by kernel_rfl)) (by kernel_rfl) (by kernel_rfl) (fun _ _ _ h => h) (Or.inl ⟨by rfl, fun w hS => by obtain ⟨z2, p0, p1⟩ := hS; go_simp⟩) ⟨z2, p0, p1⟩ ?_
    simp only [List.getElem_toArray, List.getElem_cons_zero, List.getElem_cons_succ, Act.put, List.setIfInBounds_toArray, List.set_cons_zero, List.set_cons_succ]
    refine takeU (i := 4) (v := .iface t0 y0) rfl (by rfl) (by kernel_rfl) (by kernel_rfl) (reach_one (by kernel_rfl)) (by kernel_rfl) (by kernel_rfl) (fun _ _ _ h => h) (Or.inl ⟨by rfl, fun w hS => by obtain ⟨z2, p0, p1⟩ := hS; go_simp⟩) ⟨z2, p0, p1⟩ ?_
    simp only [List.getElem_toArray, List.getElem_cons_zero, List.getElem_cons_succ, Act.put, List.setIfInBounds_toArray, List.set_cons_zero, List.set_cons_succ]
    refine takeU (i := 5) (v := .slice (some ⟨pb, 0, none⟩) 2 pc) rfl (by rfl) (by kernel_rfl) (by kernel_rfl) (reach_one (by kernel_rfl)) (by kernel_rfl) (by kernel_rfl) (fun _ _ _ h => h) (Or.inl ⟨by rfl, fun w hS => by obtain ⟨z2, p0, p1⟩ := hS; go_simp⟩) ⟨z2, p0, p1⟩ ?_
    simp only [List.getElem_toArray, List.getElem_cons_zero, List.getElem_cons_succ, Act.put, List.setIfInBounds_toArray, List.set_cons_zero, List.set_cons_succ]
    refine takeU (i := 6) (v := .pointer (some ⟨pb, 1, none⟩)) rfl (by rfl) (by kernel_rfl) (by kernel_rfl) (reach_one (by kernel_rfl)) (by kernel_rfl) (by kernel_rfl) (fun _ _ _ h => h) (Or.inl ⟨by rfl, fun w hS => by obtain ⟨z2, p0, p1⟩ := hS; go_simp⟩) ⟨z2, p0, p1⟩ ?_
    simp only [List.getElem_toArray, List.getElem_cons_zero, List.getElem_cons_succ, Act.put, List.setIfInBounds_toArray, List.set_cons_zero, List.set_cons_succ]
    refine takeU (i := 7) (v := .iface t1 y1) rfl (by rfl) (by kernel_rfl) (by kernel_rfl) (reach_one (by kernel_rfl)) (by kernel_rfl) (by kernel_rfl) (fun _ _ _ h => h) (Or.inl ⟨by rfl, fun w hS => by obtain ⟨z2, p0, p1⟩ := hS; go_simp⟩) ⟨z2, p0, p1⟩ ?_
    simp only [List.getElem_toArray, List.getElem_cons_zero, List.getElem_cons_succ, Act.put, List.setIfInBounds_toArray, List.set_cons_zero, List.set_cons_succ]
    refine takeU (i := 8) (v := .agg #[.string s, .iface t0 y0, .iface t1 y1]) rfl (by rfl) (by kernel_rfl) (by kernel_rfl) (reach_one (by kernel_rfl)) (by kernel_rfl) (by kernel_rfl) (fun _ _ _ h => h) (Or.inl ⟨by rfl, fun w hS => by obtain ⟨z2, p0, p1⟩ := hS; go_simp⟩) ⟨z2, p0, p1⟩ ?_
    simp only [List.getElem_toArray, List.getElem_cons_zero, List.getElem_cons_succ, Act.put, List.setIfInBounds_toArray, List.set_cons_zero, List.set_cons_succ]
    refine takeU (i := 9) (v := .iface 71 (.agg #[.string s, .iface t0 y0, .iface t1 y1])) rfl (by rfl) (by kernel_rfl) (by kernel_rfl) (reach_one (by kernel_rfl)) (by kernel_rfl) (by kernel_rfl) (fun _ _ _ h => h) (Or.inl ⟨by rfl, fun w hS => by obtain ⟨z2, p0, p1⟩ := hS; go_simp⟩) ⟨z2, p0, p1⟩ ?_
    simp only [List.getElem_toArray, List.getElem_cons_zero, List.getElem_cons_succ, Act.put, List.setIfInBounds_toArray, List.set_cons_zero, List.set_cons_succ]
    refine takeU (i := 10) (v := .pointer (some ⟨B, 2, none⟩)) rfl (by rfl) (by kernel_rfl) (by kernel_rfl) (reach_one (by kernel_rfl)) (by kernel_rfl) (by kernel_rfl) (fun _ _ _ h => h) (Or.inl ⟨by rfl, fun w hS => by obtain ⟨z2, p0, p1⟩ := hS; go_simp⟩) ⟨z2, p0, p1⟩ ?_
    simp only [List.getElem_toArray, List.getElem_cons_zero, List.getElem_cons_succ, Act.put, List.setIfInBounds_toArray, List.set_cons_zero, List.set_cons_succ]
    refine takeU (i := 11) (v := .string s) rfl (by rfl) (by kernel_rfl) (by kernel_rfl) (reach_one (by kernel_rfl)) (by kernel_rfl) (by kernel_rfl) (fun _ _ _ h => h) (Or.inl ⟨by rfl, fun w hS => by obtain ⟨z2, p0, p1⟩ := hS; go_simp⟩) ⟨z2, p0, p1⟩ ?_
    simp only [List.getElem_toArray, List.getElem_cons_zero, List.getElem_cons_succ, Act.put, List.setIfInBounds_toArray, List.set_cons_zero, List.set_cons_succ]
    refine oneU (i := 12) (by kernel_rfl) rfl (by rfl) ?_
    simp only [List.getElem_toArray, List.getElem_cons_zero, List.getElem_cons_succ]
    go_simp
    refine (HLEV.out W1.drew).mono ?_
    rintro e w2 ⟨rfl, rfl⟩
    refine ⟨⟨z2, p0, p1⟩, ?_⟩
    refine takeU (i := 13) (v := .bool r) rfl (by rfl) (by kernel_rfl) (by kernel_rfl) (reach_one (by kernel_rfl)) (by kernel_rfl) (by kernel_rfl) (fun _ _ _ h => h) (Or.inl ⟨by rfl, fun w hS => by obtain ⟨z2, p0, p1⟩ := hS; go_simp⟩) ⟨z2, p0, p1⟩ ?_
    simp only [List.getElem_toArray, List.getElem_cons_zero, List.getElem_cons_succ, Act.put, List.setIfInBounds_toArray, List.set_cons_zero, List.set_cons_succ]
    refine oneU (i := 14) (by kernel_rfl) rfl (by rfl) ?_
    simp only [List.getElem_toArray, List.getElem_cons_zero, List.getElem_cons_succ]
    go_simp
    refine oneU (i := 15) (by kernel_rfl) rfl (by rfl) ?_
    simp only [List.getElem_toArray, List.getElem_cons_zero, List.getElem_cons_succ]
    go_simp
    refine doneU (by kernel_rfl) ?_ _
    go_wp2_with fail
    exact bodyPost_ret (v := .tuple #[.iface 71 (.agg #[.string s, .iface t0 y0, .iface t1 y1]), .bool r]) (by simp [results, Try.results26, go_sem]) rfl ⟨_, rfl, by first | exact fun _ => ⟨_, _, rfl⟩ | exact (fun h => by cases h), by first | exact HB1.out | exact HBD.out | exact belOne _ _ | exact HBN.out _⟩
  have q6 : (k == 6) = false := by simpa using h6
  by_cases h7 : k = 7
  · subst h7
    have hv : joinB 7 n s.toList = true := by unfold joinB; simp
    rw [hv]
    clear hv
    have hpm : pm = 3 := hm
    subst hpm
    clear hm
    obtain ⟨pb, rfl, hcs⟩ := hp (by decide)
    obtain ⟨t0, y0, c0⟩ := hcs 0 (by decide)
    have hlp : pb < w.heap.size := cell_lt c0
    obtain ⟨t1, y1, c1⟩ := hcs 1 (by decide)
    obtain ⟨t2, y2, c2⟩ := hcs 2 (by decide)
    clear hcs
    go_enter Try.func26, Try.ntmps26
    go_wp2_with fail
    try rw [← HW1.out]
    have p0 := (HB1.out.cell (cell_lt c0)).trans c0
    have p1 := (HB1.out.cell (cell_lt c1)).trans c1
    have p2 := (HB1.out.cell (cell_lt c2)).trans c2
    clear c0 c1 c2
    go_quiet (fail)
    go_wp2_with fail
    exact bodyPost_ret (v := .tuple #[.iface 75 (.agg #[.iface t0 y0, .iface t1 y1, .iface t2 y2]), .bool true]) (by simp [results, Try.results26, go_sem]) rfl ⟨_, rfl, by first | exact fun _ => ⟨_, _, rfl⟩ | exact (fun h => by cases h), by first | exact HB1.out | exact HBD.out | exact belOne _ _ | exact HBN.out _⟩
  have q7 : (k == 7) = false := by simpa using h7
  have hv : joinB k n s.toList = false := by unfold joinB; simp [h1, h2, h3, h4, h5, h6, h7]
  rw [hv]
  clear hv
  go_enter Try.func26, Try.ntmps26
  go_wp2_with fail
  exact bodyPost_ret (v := .tuple #[.nilIface, .bool false]) (by simp [results, Try.results26, go_sem]) rfl ⟨_, rfl, by first | exact fun _ => ⟨_, _, rfl⟩ | exact (fun h => by cases h), by first | exact HB1.out | exact HBD.out | exact belOne _ _ | exact HBN.out _⟩

end Go.Proofs.Ytjhdpnejjakhkaa

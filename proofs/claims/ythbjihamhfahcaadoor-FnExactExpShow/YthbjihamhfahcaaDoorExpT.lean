/-
  Terms of nodes: joined.
-/
import Derived.Test.YthbjihamhfahcaaDoorExpJ
namespace Go.Proofs.YthbjihamhfahcaaDoor
open Go.RowKit Go.Deep
set_option linter.unusedVariables false

attribute [local go_sem] Oper.semAt_some

/-- Terms, in a row. -/
def IsTerms (w : World) (pa : Option Addr) (vs : List Value) : Prop := 0 < vs.length → ∃ b, pa = some ⟨b, 0, none⟩ ∧ ∀ i, i < vs.length → ∃ t x, vs[i]? = some (.iface t x) ∧ w.cell? ⟨b, i, none⟩ = some (.iface t x)

/-- The term of a node, its parts being these. -/
def termOne (k n : Int) (s : ByteArray) (vs : List Value) : Value :=
  if k = 1 then .iface 50 (.int .i64 n) else if k = 2 then .iface 51 (.bool true) else if k = 3 then .iface 51 (.bool false) else if k = 4 then .iface 53 (.string s)
  else if k = 5 then .iface 55 (.agg #[vs.getD 0 .nilIface]) else if k = 6 then .iface 59 (.agg #[.string s, vs.getD 0 .nilIface, vs.getD 1 .nilIface])
  else if k = 7 then .iface 62 (.agg #[vs.getD 0 .nilIface, vs.getD 1 .nilIface, vs.getD 2 .nilIface]) else .nilIface

mutual
/-- The term of an expression. -/
def termV : ExpT → Value
  | .node k n s ks => termOne k n s (termVs ks)
def termVs : List ExpT → List Value
  | [] => []
  | t :: r => termV t :: termVs r
end
theorem termVs_length : ∀ ks : List ExpT, (termVs ks).length = ks.length
  | [] => rfl
  | t :: r => by rw [termVs, List.length_cons, List.length_cons, termVs_length r]
theorem termVs_get : ∀ (ks : List ExpT) (j : Nat), j < ks.length → (termVs ks)[j]? = some (termV (ks.getD j e0))
  | [], j, h => by simp at h
  | t :: r, 0, _ => by rw [termVs]; rfl
  | t :: r, j + 1, h => by rw [termVs, List.getElem?_cons_succ, termVs_get r j (by simpa using h)]; rfl
theorem termVs_take_succ : ∀ (ks : List ExpT) (j : Nat), j < ks.length → termVs (ks.take (j + 1)) = termVs (ks.take j) ++ [termV (ks.getD j e0)]
  | [], j, h => by simp at h
  | t :: r, 0, _ => by rw [List.take_zero, termVs, List.take_succ_cons, termVs, List.take_zero, termVs]; rfl
  | t :: r, j + 1, h => by rw [List.take_succ_cons, List.take_succ_cons, termVs, termVs, termVs_take_succ r j (by simpa using h)]; rfl
theorem termOne_iface {k n : Int} {s : ByteArray} (vs : List Value) (h : joinB k n s.toList = true) : ∃ t x, termOne k n s vs = .iface t x := by
  unfold joinB at h
  unfold termOne
  split at h
  · next e => rw [if_pos e]; exact ⟨_, _, rfl⟩
  next e1 =>
  rw [if_neg e1]
  split at h
  · next e => rw [if_pos e]; exact ⟨_, _, rfl⟩
  next e2 =>
  rw [if_neg e2]
  split at h
  · next e => rw [if_pos e]; exact ⟨_, _, rfl⟩
  next e3 =>
  rw [if_neg e3]
  split at h
  · next e => rw [if_pos e]; exact ⟨_, _, rfl⟩
  next e4 =>
  rw [if_neg e4]
  split at h
  · next e => rw [if_pos e]; exact ⟨_, _, rfl⟩
  next e5 =>
  rw [if_neg e5]
  split at h
  · next e => rw [if_pos e]; exact ⟨_, _, rfl⟩
  next e6 =>
  rw [if_neg e6]
  split at h
  · next e => rw [if_pos e]; exact ⟨_, _, rfl⟩
  · cases h

def JoinPost (r : Bool) (V : Value) (w : World) (e : Ending) (w' : World) : Prop := ∃ v, e = .returned (.tuple #[v, .bool r]) ∧ (r = true → v = V) ∧ Below w.heap.size w w'

set_option maxRecDepth 100000 in
set_option maxHeartbeats 8000000 in
theorem joined_any (k n : Int) (s : ByteArray) (ao pa : Option Addr) (m cap pm pc : Nat) (w : World) (hs : s.size ≤ 1048576) (vs : List Value) (hvs : vs.length = pm) (hm : pm = kidsN k) (hp : IsTerms w pa vs) (hpc : pm ≤ pc) :
    Calls Tryd.prog 33 #[.agg #[.int .i64 k, .int .i64 n, .string s, .slice ao m cap], .slice pa pm pc] w (JoinPost (joinB k n s.toList) (termOne k n s vs) w) := by
  obtain ⟨W1, hW1⟩ : ∃ W1, W1 = w.alloc (.cells #[.int .i64 k, .int .i64 n, .string s, .slice ao m cap] 29) := ⟨_, rfl⟩
  have HB1 : Hid (Below w.heap.size w W1) := by rw [hW1]; exact belOne _ _
  have HK : Hid (BlkE W1 w.heap.size (.int .i64 k) (.int .i64 n) (.string s) (.slice ao m cap) 29) := by rw [hW1]; exact BlkE.new _ _ _ _ _ _
  have HBD : Hid (Below w.heap.size w W1.drew) := belNext HB1.out (below_drewN (Below.refl _ _) 1)
  have HBN := hideN (fun q => belNext HB1.out (below_drewN (Below.refl W1.heap.size W1) q))
  have HW1 := hideN hW1
  have HNAME := hideN (fun W => implNameOk_any s W hs)
  have HLEV := hideN (fun W => levelOf_any s W)
  clear hW1 hs
  unfold JoinPost
  by_cases h1 : k = 1
  · subst h1
    have hv : joinB 1 n s.toList = (decide (0 ≤ n) && decide (n ≤ 999)) := by unfold joinB; simp
    rw [hv]
    clear hv
    have hT : termOne 1 n s vs = .iface 50 (.int .i64 n) := by unfold termOne; simp
    rw [hT]
    clear hT
    by_cases hn : 0 ≤ n
    · have d1 : decide (0 ≤ n) = true := decide_eq_true hn
      by_cases hn2 : n ≤ 999
      · have d2 : decide (n ≤ 999) = true := decide_eq_true hn2
        rw [d1, d2]
        go_enter Tryd.func33, Tryd.ntmps33
        go_wp2_with fail
        try rw [← HW1.out]
        have b1 := HK.out.c1
        go_quiet (fail)
        go_wp2_with fail
        exact bodyPost_ret (v := .tuple #[.iface 50 (.int .i64 n), .bool true]) (by simp [results, Tryd.results33, go_sem]) rfl ⟨_, rfl, by first | exact fun _ => rfl | exact (fun h => by cases h), by first | exact HB1.out | exact HBD.out | exact belOne _ _ | exact HBN.out _⟩
      · have d2 : decide (n ≤ 999) = false := decide_eq_false hn2
        rw [d1, d2]
        go_enter Tryd.func33, Tryd.ntmps33
        go_wp2_with fail
        try rw [← HW1.out]
        have b1 := HK.out.c1
        go_quiet (fail)
        go_wp2_with fail
        exact bodyPost_ret (v := .tuple #[.iface 50 (.int .i64 n), .bool false]) (by simp [results, Tryd.results33, go_sem]) rfl ⟨_, rfl, by first | exact fun _ => rfl | exact (fun h => by cases h), by first | exact HB1.out | exact HBD.out | exact belOne _ _ | exact HBN.out _⟩
    · have d1 : decide (0 ≤ n) = false := decide_eq_false hn
      rw [d1, Bool.false_and]
      go_enter Tryd.func33, Tryd.ntmps33
      go_wp2_with fail
      try rw [← HW1.out]
      have b1 := HK.out.c1
      go_quiet (fail)
      go_wp2_with fail
      exact bodyPost_ret (v := .tuple #[.iface 50 (.int .i64 n), .bool false]) (by simp [results, Tryd.results33, go_sem]) rfl ⟨_, rfl, by first | exact fun _ => rfl | exact (fun h => by cases h), by first | exact HB1.out | exact HBD.out | exact belOne _ _ | exact HBN.out _⟩
  have q1 : (k == 1) = false := by simpa using h1
  by_cases h2 : k = 2
  · subst h2
    have hv : joinB 2 n s.toList = true := by unfold joinB; simp
    have hT : termOne 2 n s vs = .iface 51 (.bool true) := by unfold termOne; simp
    rw [hv, hT]
    clear hv hT
    go_enter Tryd.func33, Tryd.ntmps33
    go_wp2_with fail
    exact bodyPost_ret (v := .tuple #[.iface 51 (.bool true), .bool true]) (by simp [results, Tryd.results33, go_sem]) rfl ⟨_, rfl, by first | exact fun _ => rfl | exact (fun h => by cases h), by first | exact HB1.out | exact HBD.out | exact belOne _ _ | exact HBN.out _⟩
  have q2 : (k == 2) = false := by simpa using h2
  by_cases h3 : k = 3
  · subst h3
    have hv : joinB 3 n s.toList = true := by unfold joinB; simp
    have hT : termOne 3 n s vs = .iface 51 (.bool false) := by unfold termOne; simp
    rw [hv, hT]
    clear hv hT
    go_enter Tryd.func33, Tryd.ntmps33
    go_wp2_with fail
    exact bodyPost_ret (v := .tuple #[.iface 51 (.bool false), .bool true]) (by simp [results, Tryd.results33, go_sem]) rfl ⟨_, rfl, by first | exact fun _ => rfl | exact (fun h => by cases h), by first | exact HB1.out | exact HBD.out | exact belOne _ _ | exact HBN.out _⟩
  have q3 : (k == 3) = false := by simpa using h3
  by_cases h4 : k = 4
  · subst h4
    obtain ⟨r, hr⟩ : ∃ r, nameB s.toList = r := ⟨_, rfl⟩
    have hv : joinB 4 n s.toList = r := by unfold joinB; simp [hr]
    have hT : termOne 4 n s vs = .iface 53 (.string s) := by unfold termOne; simp
    rw [hv, hT]
    rw [hr] at HNAME
    clear hv hr hT
    go_enter Tryd.func33, Tryd.ntmps33
    go_wp2_with fail
    try rw [← HW1.out]
    obtain ⟨B, hB⟩ : ∃ B, w.heap.size = B := ⟨_, rfl⟩
    have HBB := hideN hB
    rw [hB] at HK
    try rw [hB]
    clear hB
    have z2 : W1.drew.cell? ⟨B, 2, none⟩ = some (.string s) := HK.out.c2
    refine region_U (fin := 7) (S := fun V' => V'.cell? ⟨B, 2, none⟩ = some (.string s)) (by kernel_rfl) z2 (fun hHeld => ?_)
    clear hHeld
    refine takeU (i := 0) (v := .pointer (some ⟨B, 2, none⟩)) rfl (by rfl) (by kernel_rfl) (by kernel_rfl) (reach_one (by kernel_rfl)) (by kernel_rfl) (by kernel_rfl) (fun _ _ _ h => h) (Or.inl ⟨by rfl, fun w hS => by have z2 := hS; go_simp⟩) z2 ?_
    simp only [List.getElem_toArray, List.getElem_cons_zero, Act.put, List.setIfInBounds_toArray, List.set_cons_zero, List.set_cons_succ]
    refine takeU (i := 1) (v := .string s) rfl (by rfl) (by kernel_rfl) (by kernel_rfl) (reach_one (by kernel_rfl)) (by kernel_rfl) (by kernel_rfl) (fun _ _ _ h => h) (Or.inl ⟨by rfl, fun w hS => by have z2 := hS; go_simp⟩) z2 ?_
    simp only [List.getElem_toArray, List.getElem_cons_zero, List.getElem_cons_succ, Act.put, List.setIfInBounds_toArray, List.set_cons_zero, List.set_cons_succ]
    refine takeU (i := 2) (v := .iface 53 (.string s)) rfl (by rfl) (by kernel_rfl) (by kernel_rfl) (reach_one (by kernel_rfl)) (by kernel_rfl) (by kernel_rfl) (fun _ _ _ h => h) (Or.inl ⟨by rfl, fun w hS => by have z2 := hS; go_simp⟩) z2 ?_
    simp only [List.getElem_toArray, List.getElem_cons_zero, List.getElem_cons_succ, Act.put, List.setIfInBounds_toArray, List.set_cons_zero, List.set_cons_succ]
    refine takeU (i := 3) (v := .pointer (some ⟨B, 2, none⟩)) rfl (by rfl) (by kernel_rfl) (by kernel_rfl) (reach_one (by kernel_rfl)) (by kernel_rfl) (by kernel_rfl) (fun _ _ _ h => h) (Or.inl ⟨by rfl, fun w hS => by have z2 := hS; go_simp⟩) z2 ?_
    simp only [List.getElem_toArray, List.getElem_cons_zero, List.getElem_cons_succ, Act.put, List.setIfInBounds_toArray, List.set_cons_zero, List.set_cons_succ]
    refine takeU (i := 4) (v := .string s) rfl (by rfl) (by kernel_rfl) (by kernel_rfl) (reach_one (by kernel_rfl)) (by kernel_rfl) (by kernel_rfl) (fun _ _ _ h => h) (Or.inl ⟨by rfl, fun w hS => by have z2 := hS; go_simp⟩) z2 ?_
    simp only [List.getElem_toArray, List.getElem_cons_zero, List.getElem_cons_succ, Act.put, List.setIfInBounds_toArray, List.set_cons_zero, List.set_cons_succ]
    refine oneU (i := 5) (by kernel_rfl) rfl (by rfl) ?_
    simp only [List.getElem_toArray, List.getElem_cons_zero, List.getElem_cons_succ]
    go_simp
    refine (HNAME.out W1.drew).mono ?_
    rintro e w2 ⟨rfl, rfl⟩
    refine ⟨z2, ?_⟩
    refine oneU (i := 6) (by kernel_rfl) rfl (by rfl) ?_
    simp only [List.getElem_toArray, List.getElem_cons_zero, List.getElem_cons_succ]
    go_simp
    refine oneU (i := 7) (by kernel_rfl) rfl (by rfl) ?_
    simp only [List.getElem_toArray, List.getElem_cons_zero, List.getElem_cons_succ]
    go_simp
    refine doneU (by kernel_rfl) ?_ _
    go_wp2_with fail
    exact bodyPost_ret (v := .tuple #[.iface 53 (.string s), .bool r]) (by simp [results, Tryd.results33, go_sem]) rfl ⟨_, rfl, by first | exact fun _ => rfl | exact (fun h => by cases h), by first | exact HB1.out | exact HBD.out | exact belOne _ _ | exact HBN.out _⟩
  have q4 : (k == 4) = false := by simpa using h4
  by_cases h5 : k = 5
  · subst h5
    have hv : joinB 5 n s.toList = true := by unfold joinB; simp
    rw [hv]
    clear hv
    have hpm : pm = 1 := hm
    subst hpm
    clear hm
    obtain ⟨pb, rfl, hcs⟩ := hp (by omega)
    obtain ⟨t0, y0, f0, c0⟩ := hcs 0 (by omega)
    have hlp : pb < w.heap.size := cell_lt c0
    have hT : termOne 5 n s vs = .iface 55 (.agg #[.iface t0 y0]) := by unfold termOne; simp [List.getD, f0]
    rw [hT]
    clear hT f0 hvs hp
    clear hcs
    go_enter Tryd.func33, Tryd.ntmps33
    go_wp2_with fail
    exact bodyPost_ret (v := .tuple #[.iface 55 (.agg #[.iface t0 y0]), .bool true]) (by simp [results, Tryd.results33, go_sem]) rfl ⟨_, rfl, by first | exact fun _ => rfl | exact (fun h => by cases h), by first | exact HB1.out | exact HBD.out | exact belOne _ _ | exact HBN.out _⟩
  have q5 : (k == 5) = false := by simpa using h5
  by_cases h6 : k = 6
  · subst h6
    obtain ⟨x, hx⟩ : ∃ x, signL s.toList + 1 = x := ⟨_, rfl⟩
    obtain ⟨r, hr⟩ : ∃ r, (!(decide (x = 0))) = r := ⟨_, rfl⟩
    have hv : joinB 6 n s.toList = r := by unfold joinB; rw [hx, hr]; simp
    rw [hv]
    rw [hx] at HLEV
    have hr2 : (x != 0) = r := by rw [← hr]; rfl
    clear hv hx hr
    have hpm : pm = 2 := hm
    subst hpm
    clear hm
    obtain ⟨pb, rfl, hcs⟩ := hp (by omega)
    obtain ⟨t0, y0, f0, c0⟩ := hcs 0 (by omega)
    have hlp : pb < w.heap.size := cell_lt c0
    obtain ⟨t1, y1, f1, c1⟩ := hcs 1 (by omega)
    have hT : termOne 6 n s vs = .iface 59 (.agg #[.string s, .iface t0 y0, .iface t1 y1]) := by unfold termOne; simp [List.getD, f0, f1]
    rw [hT]
    clear hT f0 f1 hvs hp
    clear hcs
    go_enter Tryd.func33, Tryd.ntmps33
    go_wp2_with fail
    try rw [← HW1.out]
    obtain ⟨B, hB⟩ : ∃ B, w.heap.size = B := ⟨_, rfl⟩
    have HBB := hideN hB
    rw [hB] at HK
    try rw [hB]
    clear hB
    have z2 : W1.drew.cell? ⟨B, 2, none⟩ = some (.string s) := HK.out.c2
    have p0 : W1.drew.cell? ⟨pb, 0, none⟩ = some (.iface t0 y0) := (HB1.out.cell (cell_lt c0)).trans c0
    have p1 : W1.drew.cell? ⟨pb, 1, none⟩ = some (.iface t1 y1) := (HB1.out.cell (cell_lt c1)).trans c1
    refine region_U (fin := 15) (S := fun V' => V'.cell? ⟨B, 2, none⟩ = some (.string s) ∧ V'.cell? ⟨pb, 0, none⟩ = some (.iface t0 y0) ∧ V'.cell? ⟨pb, 1, none⟩ = some (.iface t1 y1)) (by kernel_rfl) ⟨z2, p0, p1⟩ (fun hHeld => ?_)
    clear hHeld
    refine takeU (i := 0) (v := .pointer (some ⟨B, 2, none⟩)) rfl (by rfl) (by kernel_rfl) (by kernel_rfl) (reach_one (by kernel_rfl)) (by kernel_rfl) (by kernel_rfl) (fun _ _ _ h => h) (Or.inl ⟨by rfl, fun w hS => by obtain ⟨z2, p0, p1⟩ := hS; go_simp⟩) ⟨z2, p0, p1⟩ ?_
    simp only [List.getElem_toArray, List.getElem_cons_zero, Act.put, List.setIfInBounds_toArray, List.set_cons_zero, List.set_cons_succ]
    refine takeU (i := 1) (v := .string s) rfl (by rfl) (by kernel_rfl) (by kernel_rfl) (reach_one (by kernel_rfl)) (by kernel_rfl) (by kernel_rfl) (fun _ _ _ h => h) (Or.inl ⟨by rfl, fun w hS => by obtain ⟨z2, p0, p1⟩ := hS; go_simp⟩) ⟨z2, p0, p1⟩ ?_
    simp only [List.getElem_toArray, List.getElem_cons_zero, List.getElem_cons_succ, Act.put, List.setIfInBounds_toArray, List.set_cons_zero, List.set_cons_succ]
    refine takeU (i := 2) (v := .slice (some ⟨pb, 0, none⟩) 2 pc) rfl (by rfl) (by kernel_rfl) (by kernel_rfl) (reach_one (by kernel_rfl)) (by kernel_rfl) (by kernel_rfl) (fun _ _ _ h => h) (Or.inl ⟨by rfl, fun w hS => by obtain ⟨z2, p0, p1⟩ := hS; go_simp⟩) ⟨z2, p0, p1⟩ ?_
    simp only [List.getElem_toArray, List.getElem_cons_zero, List.getElem_cons_succ, Act.put, List.setIfInBounds_toArray, List.set_cons_zero, List.set_cons_succ]
    refine takeU (i := 3) (v := .pointer (some ⟨pb, 0, none⟩)) rfl (by rfl) (by kernel_rfl) (by kernel_rfl) (reach_one (by kernel_rfl)) (by kernel_rfl) (by kernel_rfl) (fun _ _ _ h => h) (Or.inl ⟨by rfl, fun w hS => by obtain ⟨z2, p0, p1⟩ := hS; go_simp⟩) ⟨z2, p0, p1⟩ ?_
    simp only [List.getElem_toArray, List.getElem_cons_zero, List.getElem_cons_succ, Act.put, List.setIfInBounds_toArray, List.set_cons_zero, List.set_cons_succ]
    refine takeU (i := 4) (v := .iface t0 y0) rfl (by rfl) (by kernel_rfl) (by kernel_rfl) (reach_one (by kernel_rfl)) (by kernel_rfl) (by kernel_rfl) (fun _ _ _ h => h) (Or.inl ⟨by rfl, fun w hS => by obtain ⟨z2, p0, p1⟩ := hS; go_simp⟩) ⟨z2, p0, p1⟩ ?_
    simp only [List.getElem_toArray, List.getElem_cons_zero, List.getElem_cons_succ, Act.put, List.setIfInBounds_toArray, List.set_cons_zero, List.set_cons_succ]
    refine takeU (i := 5) (v := .slice (some ⟨pb, 0, none⟩) 2 pc) rfl (by rfl) (by kernel_rfl) (by kernel_rfl) (reach_one (by kernel_rfl)) (by kernel_rfl) (by kernel_rfl) (fun _ _ _ h => h) (Or.inl ⟨by rfl, fun w hS => by obtain ⟨z2, p0, p1⟩ := hS; go_simp⟩) ⟨z2, p0, p1⟩ ?_
    simp only [List.getElem_toArray, List.getElem_cons_zero, List.getElem_cons_succ, Act.put, List.setIfInBounds_toArray, List.set_cons_zero, List.set_cons_succ]
    refine takeU (i := 6) (v := .pointer (some ⟨pb, 1, none⟩)) rfl (by rfl) (by kernel_rfl) (by kernel_rfl) (reach_one (by kernel_rfl)) (by kernel_rfl) (by kernel_rfl) (fun _ _ _ h => h) (Or.inl ⟨by rfl, fun w hS => by obtain ⟨z2, p0, p1⟩ := hS; go_simp⟩) ⟨z2, p0, p1⟩ ?_
    simp only [List.getElem_toArray, List.getElem_cons_zero, List.getElem_cons_succ, Act.put, List.setIfInBounds_toArray, List.set_cons_zero, List.set_cons_succ]
    refine takeU (i := 7) (v := .iface t1 y1) rfl (by rfl) (by kernel_rfl) (by kernel_rfl) (reach_one (by kernel_rfl)) (by kernel_rfl) (by kernel_rfl) (fun _ _ _ h => h) (Or.inl ⟨by rfl, fun w hS => by obtain ⟨z2, p0, p1⟩ := hS; go_simp⟩) ⟨z2, p0, p1⟩ ?_
    simp only [List.getElem_toArray, List.getElem_cons_zero, List.getElem_cons_succ, Act.put, List.setIfInBounds_toArray, List.set_cons_zero, List.set_cons_succ]
    refine takeU (i := 8) (v := .agg #[.string s, .iface t0 y0, .iface t1 y1]) rfl (by rfl) (by kernel_rfl) (by kernel_rfl) (reach_one (by kernel_rfl)) (by kernel_rfl) (by kernel_rfl) (fun _ _ _ h => h) (Or.inl ⟨by rfl, fun w hS => by obtain ⟨z2, p0, p1⟩ := hS; go_simp⟩) ⟨z2, p0, p1⟩ ?_
    simp only [List.getElem_toArray, List.getElem_cons_zero, List.getElem_cons_succ, Act.put, List.setIfInBounds_toArray, List.set_cons_zero, List.set_cons_succ]
    refine takeU (i := 9) (v := .iface 59 (.agg #[.string s, .iface t0 y0, .iface t1 y1])) rfl (by rfl) (by kernel_rfl) (by kernel_rfl) (reach_one (by kernel_rfl)) (by kernel_rfl) (by kernel_rfl) (fun _ _ _ h => h) (Or.inl ⟨by rfl, fun w hS => by obtain ⟨z2, p0, p1⟩ := hS; go_simp⟩) ⟨z2, p0, p1⟩ ?_
    simp only [List.getElem_toArray, List.getElem_cons_zero, List.getElem_cons_succ, Act.put, List.setIfInBounds_toArray, List.set_cons_zero, List.set_cons_succ]
    refine takeU (i := 10) (v := .pointer (some ⟨B, 2, none⟩)) rfl (by rfl) (by kernel_rfl) (by kernel_rfl) (reach_one (by kernel_rfl)) (by kernel_rfl) (by kernel_rfl) (fun _ _ _ h => h) (Or.inl ⟨by rfl, fun w hS => by obtain ⟨z2, p0, p1⟩ := hS; go_simp⟩) ⟨z2, p0, p1⟩ ?_
    simp only [List.getElem_toArray, List.getElem_cons_zero, List.getElem_cons_succ, Act.put, List.setIfInBounds_toArray, List.set_cons_zero, List.set_cons_succ]
    refine takeU (i := 11) (v := .string s) rfl (by rfl) (by kernel_rfl) (by kernel_rfl) (reach_one (by kernel_rfl)) (by kernel_rfl) (by kernel_rfl) (fun _ _ _ h => h) (Or.inl ⟨by rfl, fun w hS => by obtain ⟨z2, p0, p1⟩ := hS; go_simp⟩) ⟨z2, p0, p1⟩ ?_
    simp only [List.getElem_toArray, List.getElem_cons_zero, List.getElem_cons_succ, Act.put, List.setIfInBounds_toArray, List.set_cons_zero, List.set_cons_succ]
    refine oneU (i := 12) (by kernel_rfl) rfl (by rfl) ?_
    simp only [List.getElem_toArray, List.getElem_cons_zero, List.getElem_cons_succ]
    go_simp
    refine (HLEV.out W1.drew).mono ?_
    rintro e w2 ⟨rfl, rfl⟩
    refine ⟨⟨z2, p0, p1⟩, ?_⟩
    refine takeU (i := 13) (v := .bool r) rfl (by rfl) (by kernel_rfl) (by kernel_rfl) (reach_one (by kernel_rfl)) (by kernel_rfl) (by kernel_rfl) (fun _ _ _ h => h) (Or.inl ⟨by rfl, fun w hS => by obtain ⟨z2, p0, p1⟩ := hS; go_simp⟩) ⟨z2, p0, p1⟩ ?_
    simp only [List.getElem_toArray, List.getElem_cons_zero, List.getElem_cons_succ, Act.put, List.setIfInBounds_toArray, List.set_cons_zero, List.set_cons_succ]
    refine oneU (i := 14) (by kernel_rfl) rfl (by rfl) ?_
    simp only [List.getElem_toArray, List.getElem_cons_zero, List.getElem_cons_succ]
    go_simp
    refine oneU (i := 15) (by kernel_rfl) rfl (by rfl) ?_
    simp only [List.getElem_toArray, List.getElem_cons_zero, List.getElem_cons_succ]
    go_simp
    refine doneU (by kernel_rfl) ?_ _
    go_wp2_with fail
    exact bodyPost_ret (v := .tuple #[.iface 59 (.agg #[.string s, .iface t0 y0, .iface t1 y1]), .bool r]) (by simp [results, Tryd.results33, go_sem]) rfl ⟨_, rfl, by first | exact fun _ => rfl | exact (fun h => by cases h), by first | exact HB1.out | exact HBD.out | exact belOne _ _ | exact HBN.out _⟩
  have q6 : (k == 6) = false := by simpa using h6
  by_cases h7 : k = 7
  · subst h7
    have hv : joinB 7 n s.toList = true := by unfold joinB; simp
    rw [hv]
    clear hv
    have hpm : pm = 3 := hm
    subst hpm
    clear hm
    obtain ⟨pb, rfl, hcs⟩ := hp (by omega)
    obtain ⟨t0, y0, f0, c0⟩ := hcs 0 (by omega)
    have hlp : pb < w.heap.size := cell_lt c0
    obtain ⟨t1, y1, f1, c1⟩ := hcs 1 (by omega)
    obtain ⟨t2, y2, f2, c2⟩ := hcs 2 (by omega)
    have hT : termOne 7 n s vs = .iface 62 (.agg #[.iface t0 y0, .iface t1 y1, .iface t2 y2]) := by unfold termOne; simp [List.getD, f0, f1, f2]
    rw [hT]
    clear hT f0 f1 f2 hvs hp
    clear hcs
    go_enter Tryd.func33, Tryd.ntmps33
    go_wp2_with fail
    try rw [← HW1.out]
    have p0 := (HB1.out.cell (cell_lt c0)).trans c0
    have p1 := (HB1.out.cell (cell_lt c1)).trans c1
    have p2 := (HB1.out.cell (cell_lt c2)).trans c2
    clear c0 c1 c2
    go_quiet (fail)
    go_wp2_with fail
    exact bodyPost_ret (v := .tuple #[.iface 62 (.agg #[.iface t0 y0, .iface t1 y1, .iface t2 y2]), .bool true]) (by simp [results, Tryd.results33, go_sem]) rfl ⟨_, rfl, by first | exact fun _ => rfl | exact (fun h => by cases h), by first | exact HB1.out | exact HBD.out | exact belOne _ _ | exact HBN.out _⟩
  have q7 : (k == 7) = false := by simpa using h7
  have hv : joinB k n s.toList = false := by unfold joinB; simp [h1, h2, h3, h4, h5, h6, h7]
  rw [hv]
  clear hv
  generalize termOne k n s vs = V
  go_enter Tryd.func33, Tryd.ntmps33
  go_wp2_with fail
  exact bodyPost_ret (v := .tuple #[.nilIface, .bool false]) (by simp [results, Tryd.results33, go_sem]) rfl ⟨_, rfl, by first | exact fun _ => rfl | exact (fun h => by cases h), by first | exact HB1.out | exact HBD.out | exact belOne _ _ | exact HBN.out _⟩

end Go.Proofs.YthbjihamhfahcaaDoor

/-
  DrawExpNames; whether a text is one of a row: rgText; names of two with a sign between (plain facts).
-/
import Derived.Test.YtgjficnpkmemgaaExpY
import Derived.Test.YtgjficnpkmemgaaNmD
import Derived.Sort.Walk0
namespace Go.Proofs.Ytgjficnpkmemgaa
open Go.RowKit Go.Deep Go.Proofs
set_option linter.unusedVariables false

attribute [local go_sem] Oper.semAt_some

theorem bytes_below {w w' : World} {v : Value} {bs : List Int} (h : IsBytes w v bs) (hb : Below w.heap.size w w') : IsBytes w' v bs := by
  obtain ⟨ao, cap, rfl, h1, h2, h3⟩ := h
  refine ⟨ao, cap, rfl, h1, fun hne => ?_, h3⟩
  obtain ⟨b, off, rfl, hc⟩ := h2 hne
  exact ⟨b, off, rfl, fun i hi => by rw [hb.cell (cell_lt (hc i hi))]; exact hc i hi⟩

/-- A drawn expression, and nothing old has turned. -/
def DrawnE (w : World) (e : Ending) (w' : World) : Prop := ∃ (t : ExpT) (u : Value), e = .returned u ∧ IsE w' w.heap.size t u ∧ totE t ≤ 40000 ∧ Below w.heap.size w w'

set_option maxRecDepth 100000 in
set_option maxHeartbeats 8000000 in
theorem drawExpNames_any (v : Value) (bs : List Int) (w : World) (hv : IsBytes w v bs) (hn : bs.length ≤ 1048576) (hal : ∀ ao n cap b off, v = .slice ao n cap → ao = some ⟨b, off, none⟩ → b < w.heap.size) :
    Calls Try.prog 4 #[v] w (DrawnE w) := by
  obtain ⟨W1, hW1⟩ : ∃ W1, W1 = w.alloc (.cells #[.int .i64 0, .int .i64 0, .string ⟨#[]⟩, .slice none 0 0] 25) := ⟨_, rfl⟩
  have hb1 : Below w.heap.size w W1 := by rw [hW1]; exact belOne _ _
  have hs1 : W1.heap.size = w.heap.size + 1 := by rw [hW1]; simp
  have HQ1 : Hid (BlkE W1 w.heap.size (.int .i64 0) (.int .i64 0) (.string ⟨#[]⟩) (.slice none 0 0) 25) := by rw [hW1]; exact BlkE.new _ _ _ _ _ _
  have HOP := hideN (l1Open_any w.heap.size v bs W1 (bytes_below hv hb1) hn hal)
  have HW1 := hideN hW1
  have HB1 := hideN hb1
  obtain ⟨aoc, capc, rfl, _⟩ := hv
  clear hal hW1 hb1
  go_enter Try.func4, Try.ntmps4
  go_wp2_with fail
  try rw [← HW1.out]
  refine HOP.out.mono ?_
  rintro e w2 ⟨v2, bs2, rfl, hrd2, hb2, hs2, hal2⟩
  have HCL := hideN (l13AnyExp_any W1.heap.size v2 bs2 0 w2 hrd2 (by omega) (fun ao n cap b off e1 e2 => by have := hal2 ao n cap b off e1 e2; omega))
  have HQ2 := hideN (HQ1.out.below hb2)
  have HB2 := hideN (belNext HB1.out hb2)
  have hs22 : w2.heap.size = w.heap.size + 2 := by omega
  clear hrd2 hb2 hal2 hs2
  obtain ⟨R, hR⟩ : ∃ R, W1.heap.size = R := ⟨_, rfl⟩
  have hR1 : R = w.heap.size + 1 := by rw [← hR]; exact hs1
  rw [hR] at HCL
  have HRR := hideN hR
  clear hs1 hR
  go_wp2_with fail
  try rw [HRR.out]
  refine HCL.out.mono ?_
  rintro e w3 ⟨t, u, p', rfl, hE, ht, -, -, -, hg⟩
  obtain ⟨k, n, s, a, m, c, rfl⟩ := hE.agg
  have hq3 : BlkE w3 w.heap.size (.int .i64 0) (.int .i64 0) (.string ⟨#[]⟩) (.slice none 0 0) 25 := (hg.block _ HQ2.out.lt (fun e => by have := Option.some.inj e; omega)).trans HQ2.out
  have HB3 : Hid (Below w.heap.size w w3) := HB2.out.grown hg HB2.out.size (fun q e => by have := Option.some.inj e; omega)
  have HEF : Hid (IsE (set4E w3 w.heap.size (.int .i64 k) (.int .i64 n) (.string s) (.slice a m c)) w.heap.size t (.agg #[.int .i64 k, .int .i64 n, .string s, .slice a m c])) := IsE.less (by omega) _ _ (IsE.kept (fun q hq _ => set4E_other _ _ _ _ (by omega)) _ _ hE)
  have HBF := hideN (set4E_below (Q := w.heap.size) HB3.out (Nat.le_refl _) (.int .i64 k) (.int .i64 n) (.string s) (.slice a m c))
  have HQ4 := hideN (set4E_blk hq3 (.int .i64 k) (.int .i64 n) (.string s) (.slice a m c))
  have q0 := hq3.c0
  have q1 := hq3.c1
  have q2 := hq3.c2
  have q3 := hq3.c3
  have f0 := hq3.f 0
  have f1 := hq3.f 1
  have f2 := hq3.f 2
  have f3 := hq3.f 3
  clear hE hg hq3
  go_wp2_with fail
  have t0 := HQ4.out.c0
  have t1 := HQ4.out.c1
  have t2 := HQ4.out.c2
  have t3 := HQ4.out.c3
  exact bodyPost_ret (v := .agg #[.int .i64 k, .int .i64 n, .string s, .slice a m c]) (by simp [results, Try.results4, go_sem, t0, t1, t2, t3]) rfl ⟨t, _, rfl, HEF.out, ht, HBF.out⟩

set_option maxRecDepth 100000 in
set_option maxHeartbeats 4000000 in
theorem rgText_any (ss : List Bs) (y : Bs) (x : Value) (w : World) (hT : IsT w x ss) (h64 : ss.length ≤ 1000) :
    Calls Try.prog 8 #[x, .string ⟨⟨y⟩⟩] w fun e w' => e = .returned (.bool (ss.contains y)) ∧ w' = w := by
  obtain ⟨ao, cap, rfl, hT⟩ := hT
  obtain ⟨n, hn⟩ : ∃ n, ss.length = n := ⟨_, rfl⟩
  have HN := hideN hn
  have HT := hideN hT
  have HTK : Hid (∀ j, j < ss.length → (ss.take (j + 1)).contains y = ((ss.take j).contains y || (ss.getD j [] == y))) := fun j hj => by
    rw [List.take_succ_eq_append_getElem hj, Bool.eq_iff_iff]
    simp only [List.contains_iff_mem, List.mem_append, List.mem_singleton, Bool.or_eq_true, beq_iff_eq, List.getD, List.getElem?_eq_getElem hj, Option.getD_some]
    exact ⟨fun h => h.imp id Eq.symm, fun h => h.imp id Eq.symm⟩
  have HTF : Hid ((ss.take ss.length).contains y = ss.contains y) := by show _ = _; rw [List.take_length]
  obtain ⟨r, hr⟩ : ∃ r, ss.contains y = r := ⟨_, rfl⟩
  have HRE : Hid (∀ j, j < ss.length → ss.getD j [] = y → r = true) := fun j hj e => by
    rw [← hr]
    simp only [List.contains_iff_mem]
    rw [← e, List.getD, List.getElem?_eq_getElem hj]; simp
  rw [hr] at HTF ⊢
  rw [hn] at h64 ⊢
  clear hT hn hr
  go_enter Try.func8, Try.ntmps8
  go_wp2_with fail
  go_loop [5] (fun i => ∃ j : Nat, j ≤ n ∧ i = .int .i64 (j : Int) ∧ Hid ((ss.take j).contains y = false)) (fun i => n - (intOf i).toNat)
  case atStart => exact ⟨0, Nat.zero_le _, rfl, by show _ = _; simp⟩
  case round =>
    obtain ⟨j, hj, rfl, hno⟩ := hrel
    by_cases hlt : j < n
    · have hl := HN.out
      obtain ⟨b, off, e1, ha⟩ := HT.out (by omega)
      subst e1
      have c0 := ha j (by omega)
      have htk := HTK.out j (by omega)
      have hre := HRE.out j (by omega)
      obtain ⟨z, hz⟩ : ∃ z, ss.getD j [] = z := ⟨_, rfl⟩
      rw [hz] at c0 htk hre
      have hjn : decide ((j : Int) < (n : Int)) = true := by simp; omega
      clear ha hz
      by_cases e : z = y
      · obtain rfl := hre e
        have hzy : (z == y) = true := by simpa using e
        clear e htk hre
        go_wp2_with fail
        go_ret
        exact ⟨rfl, rfl⟩
      · have hzy : (z == y) = false := by simpa using e
        have HNO : Hid ((ss.take (j + 1)).contains y = false) := by show _ = _; rw [htk, hno.out, hzy]; rfl
        clear e htk hre
        go_wp2_with fail
        go_round
        case rel => exact ⟨j + 1, by omega, by go_num, HNO⟩
        case measure => simp [intOf]; omega
    · obtain rfl : j = n := by omega
      have hrf : r = false := by rw [← HTF.out, HN.out]; exact hno.out
      subst hrf
      have hjn : decide ((j : Int) < (j : Int)) = false := by simp
      go_wp2_with fail
      go_ret
      exact ⟨rfl, rfl⟩

/-- An expression that is ok has parts that are ok. -/
theorem ok_two {a b : ExpT} {s : ByteArray} (h : okE (.node 6 0 s [a, b]) = true) : okE a = true ∧ okE b = true := by
  unfold okE at *
  simp only [Bool.and_eq_true, decide_eq_true_eq] at *
  obtain ⟨h1, h2, h3⟩ := h
  rw [sizeT, sizeL, sizeL, sizeL] at h1
  rw [deepT, deepL, deepL, deepL] at h2
  rw [allT, Bool.and_eq_true, allL, allL, allL] at h3
  simp only [Bool.and_eq_true] at h3
  have m1 : deepT a ≤ Nat.max (deepT a) (Nat.max (deepT b) 0) := Nat.le_max_left _ _
  have m2 : deepT b ≤ Nat.max (deepT a) (Nat.max (deepT b) 0) := Nat.le_trans (Nat.le_max_left _ _) (Nat.le_max_right _ _)
  exact ⟨⟨by omega, by omega, h3.2.1⟩, ⟨by omega, by omega, h3.2.2.1⟩⟩

theorem mem_namesOf {t : ExpT} (h : okE t = true) (y : Bs) : y ∈ namesOf t ↔ y ∈ namesT t := by
  unfold namesOf
  rw [if_pos h]
  have := (fold_putN (namesT t) [] List.Pairwise.nil).2 y
  unfold putAll
  rw [this]
  simp
theorem asc_namesOf (t : ExpT) : (namesOf t).Pairwise (· < ·) := by
  unfold namesOf
  split
  · exact (fold_putN (namesT t) [] List.Pairwise.nil).1
  · exact List.Pairwise.nil
theorem mem_two {a b : ExpT} {s : ByteArray} (h : okE (.node 6 0 s [a, b]) = true) (y : Bs) : y ∈ namesOf (.node 6 0 s [a, b]) ↔ y ∈ namesOf a ∨ y ∈ namesOf b := by
  obtain ⟨ha, hb⟩ := ok_two h
  rw [mem_namesOf h, mem_namesOf ha, mem_namesOf hb, namesT, if_neg (by decide), namesL, namesL, namesL]
  simp
theorem namesOf_le (t : ExpT) : (namesOf t).length ≤ 60 := by
  unfold namesOf
  split
  · next h =>
    unfold okE at h
    simp only [Bool.and_eq_true, decide_eq_true_eq] at h
    have h1 := putAll_length (namesT t) []
    have h2 := namesT_size t
    simp at h1
    omega
  · simp

end Go.Proofs.Ytgjficnpkmemgaa

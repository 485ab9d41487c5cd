/-
  Diagrams: what is told by numbers, node by node, by the program: toldBy of numbers.
-/
import Derived.Test.YtknpifjkllcdeaaBdCa
namespace Go.Proofs.Ytknpifjkllcdeaa
open Go.RowKit Go.Deep
set_option linter.unusedVariables false

attribute [local go_sem] Oper.semAt_some

/-- What a function value promises that tells a node's number by its sides' numbers. -/
def SayI (w : World) (F : Nat) (binds : Array Value) (vars : Nat) (f : Nd → Int → Int → Int) : Prop :=
  (∀ args W, (callFunc F args).run Try.prog W = .ok (.enter F args) W) ∧ ∀ (W : World), Below w.heap.size w W → ∀ (x : Nat) (y z a b : Int), x < vars → 0 ≤ a → a ≤ 64 → 0 ≤ b → b ≤ 64 → Calls Try.prog F (#[.agg #[.int .i64 (x : Int), .int .i64 y, .int .i64 z], .int .i64 a, .int .i64 b] ++ binds) W fun e w' => e = .returned (.int .i64 (f ((x : Int), y, z) a b)) ∧ Below W.heap.size W w'

theorem told_bound {f : Nd → Int → Int → Int} {a0 a1 : Int} {ns : List Nd} (h0 : 0 ≤ a0 ∧ a0 ≤ 64) (h1 : 0 ≤ a1 ∧ a1 ≤ 64) (hf : ∀ p a b, 0 ≤ a → a ≤ 64 → 0 ≤ b → b ≤ 64 → 0 ≤ f p a b ∧ f p a b ≤ 64) : ∀ k q, 0 ≤ (toldF f a0 a1 ns k).getD q 0 ∧ (toldF f a0 a1 ns k).getD q 0 ≤ 64 := by
  intro k
  induction k with
  | zero =>
    intro q
    match q with
    | 0 => exact h0
    | 1 => exact h1
    | q + 2 => exact ⟨by simp [toldF], by simp [toldF]⟩
  | succ k ih =>
    intro q
    by_cases h : q < k + 2
    · rw [toldF_old f a0 a1 ns k (k + 1) q (by omega) h]; exact ih q
    · by_cases h2 : q = k + 2
      · subst h2
        rw [toldF, List.getD, List.getElem?_append_right (by rw [toldF_length]; omega), toldF_length]
        simp only [Nat.sub_self, List.getElem?_cons_zero, Option.getD_some]
        exact hf _ _ _ (ih _).1 (ih _).2 (ih _).1 (ih _).2
      · rw [List.getD, List.getElem?_eq_none (by rw [toldF_length]; omega)]
        exact ⟨by simp, by simp⟩

set_option maxRecDepth 100000 in
set_option maxHeartbeats 16000000 in
theorem toldInt_any (vars n cap F : Nat) (binds : Array Value) (f : Nd → Int → Int → Int) (a0 a1 root : Int) (ao : Option Addr) (ns : List Nd) (w : World) (hN : Nds w ao n cap ns) (hn : n ≤ 64) (hok : ∀ i, i < n → nodeB vars ns i = true) (hr0 : 0 ≤ root) (hr1 : root < 2 + (n : Int)) (ha0 : 0 ≤ a0 ∧ a0 ≤ 64) (ha1 : 0 ≤ a1 ∧ a1 ≤ 64) (hf : ∀ p a b, 0 ≤ a → a ≤ 64 → 0 ≤ b → b ≤ 64 → 0 ≤ f p a b ∧ f p a b ≤ 64) (hs : SayI w F binds vars f) :
    Calls Try.prog 71 #[.agg #[.int .i64 (vars : Int), .slice ao n cap, .int .i64 root], .int .i64 a0, .int .i64 a1, .func (.func F) #[] binds] w fun e w' => e = .returned (.int .i64 ((toldF f a0 a1 ns n).getD root.toNat 0)) ∧ Below w.heap.size w w' := by
  obtain ⟨W1, hW1⟩ : ∃ W1, W1 = w.alloc (.cells #[.int .i64 (vars : Int), .slice ao n cap, .int .i64 root] 25) := ⟨_, rfl⟩
  obtain ⟨W2, hW2⟩ : ∃ W2, W2 = W1.alloc (.cells #[.int .i64 a0, .int .i64 a1] 3) := ⟨_, rfl⟩
  have hs1 : W1.heap.size = w.heap.size + 1 := by rw [hW1]; simp
  have HB1 : Hid (Below w.heap.size w W1) := by rw [hW1]; exact belOne _ _
  have HB2 : Hid (Below w.heap.size w W2) := by rw [hW2]; exact belNext HB1.out (belOne _ _)
  have HK := hideN (show BlkD W2 w.heap.size (.int .i64 (vars : Int)) (.slice ao n cap) (.int .i64 root) by rw [hW2]; exact (show BlkD W1 w.heap.size _ _ _ by rw [hW1]; exact BlkD.new _ _ _ _).below (belOne _ _))
  have HT0 : Hid (W2.ownsRow (w.heap.size + 1) 3 1 (.slice (some ⟨w.heap.size + 1, 0, none⟩) 2 2) 2 [.int .i64 a0, .int .i64 a1]) := by
    have h := World.alloc_heap_new W1 (.cells #[.int .i64 a0, .int .i64 a1] 3)
    rw [← hW2, hs1] at h
    exact ⟨rfl, .inr ⟨w.heap.size + 1, 2, _, rfl, Nat.le_refl _, h, Nat.le_refl _, by unfold maxLen; omega, by simp, by simp⟩⟩
  have HBD := hideN (told_bound (ns := ns) ha0 ha1 hf)
  have HTL := hideN (toldF_length f a0 a1 ns)
  have HTN := hideN (fun j (hj : j < n) h1 h2 => toldF_node f a0 a1 ns n j hj h1 h2)
  have HTO := hideN (fun j q (hj : j ≤ n) (hq : q < j + 2) => toldF_old f a0 a1 ns j n q hj hq)
  have HTS : Hid (∀ k, toldF f a0 a1 ns (k + 1) = toldF f a0 a1 ns k ++ [f (ns.getD k (0, 0, 0)) ((toldF f a0 a1 ns k).getD (ns.getD k (0, 0, 0)).2.1.toNat 0) ((toldF f a0 a1 ns k).getD (ns.getD k (0, 0, 0)).2.2.toNat 0)]) := fun k => rfl
  have HSF := hideN hs.2
  have hse := hs.1
  have HNV := hideN (fun V (hV : Below w.heap.size w V) => hN.below hV)
  have HLEN := hideN hN.len
  have HOK := hideN hok
  have HW1 := hideN hW1
  have HW2 := hideN hW2
  have HS1 := hideN hs1
  obtain ⟨ib, hib, hz0, hz1, hz2⟩ := info_parts info_int
  have c1 := HK.out.c1
  have c3 := HK.out.lt
  clear hN hW1 hW2 hs1 hok hs hf
  go_enter Try.func71, Try.ntmps71
  go_wp2_with fail
  try rw [← HW1.out]
  try rw [← HW2.out]
  try rw [← HS1.out]
  clear c1 c3
  go_loopw [9, 18] (fun o i wr => ∃ (gt cap' m j : Nat), j ≤ n ∧ m = j + 2 ∧ i = .int .i64 (j : Nat) ∧ o = .slice (some ⟨gt, 0, none⟩) m cap' ∧ Hid (wr.ownsRow (w.heap.size + 1) 3 1 (.slice (some ⟨gt, 0, none⟩) m cap') m ((toldF f a0 a1 ns j).map (Value.int .i64))) ∧ Hid (Below w.heap.size w wr) ∧ Hid (BlkD wr w.heap.size (.int .i64 (vars : Int)) (.slice ao n cap) (.int .i64 root))) (fun _ i _ => n - (intOf i).toNat)
  case atStart => exact ⟨w.heap.size + 1, 2, 2, 0, Nat.zero_le _, rfl, rfl, by first | rfl | rw [HS1.out], HT0, HB2.out, HK⟩
  case round =>
    obtain ⟨gt, cap', m, j, hj, hm, rfl, rfl, hrow, hbw, hbk⟩ := hrel
    have hm66 : m ≤ 66 := by omega
    have HM := hideN hm
    by_cases hlt : j < n
    · obtain ⟨b, off, hao, hcs⟩ := (HNV.out wr hbw.out).cells (by omega)
      subst hao
      obtain ⟨e0, e1, e2⟩ := hcs j hlt
      have hnp := node_parts (HOK.out j hlt)
      have hts := HTS.out j
      generalize ns.getD j (0, 0, 0) = p at *
      obtain ⟨xi, yi, zi⟩ := p
      have hnp : 0 ≤ xi ∧ xi < (vars : Int) ∧ 0 ≤ yi ∧ yi < 2 + (j : Int) ∧ 0 ≤ zi ∧ zi < 2 + (j : Int) := hnp
      obtain ⟨x, rfl⟩ : ∃ x : Nat, xi = (x : Int) := ⟨xi.toNat, by omega⟩
      obtain ⟨y, rfl⟩ : ∃ y : Nat, yi = (y : Int) := ⟨yi.toNat, by omega⟩
      obtain ⟨z, rfl⟩ : ∃ z : Nat, zi = (z : Int) := ⟨zi.toNat, by omega⟩
      have e0 : wr.cell? ⟨b, off + j * 3, none⟩ = some (.int .i64 (x : Int)) := e0
      have e1 : wr.cell? ⟨b, off + j * 3 + 1, none⟩ = some (.int .i64 (y : Int)) := e1
      have e2 : wr.cell? ⟨b, off + j * 3 + 2, none⟩ = some (.int .i64 (z : Int)) := e2
      have hts : toldF f a0 a1 ns (j + 1) = toldF f a0 a1 ns j ++ [f ((x : Int), (y : Int), (z : Int)) ((toldF f a0 a1 ns j).getD y 0) ((toldF f a0 a1 ns j).getD z 0)] := hts
      have by1 := HBD.out j y
      have bz1 := HBD.out j z
      have htl : (toldF f a0 a1 ns j).length = m := by rw [HTL.out j]; omega
      have hxv : x < vars := by omega
      have hym : y < m := by omega
      have hzm : z < m := by omega
      have hyi : ¬ ((m : Int) ≤ (y : Int)) := by omega
      have hzi : ¬ ((m : Int) ≤ (z : Int)) := by omega
      have t1 := World.ownsRow.cellAt hrow.out y (by omega)
      have t2 := World.ownsRow.cellAt hrow.out z (by omega)
      have u1 : ((toldF f a0 a1 ns j).map (Value.int .i64))[y]? = some (.int .i64 ((toldF f a0 a1 ns j).getD y 0)) := by rw [List.getElem?_map, List.getD, List.getElem?_eq_getElem (by omega)]; rfl
      have u2 : ((toldF f a0 a1 ns j).map (Value.int .i64))[z]? = some (.int .i64 ((toldF f a0 a1 ns j).getD z 0)) := by rw [List.getElem?_map, List.getD, List.getElem?_eq_getElem (by omega)]; rfl
      rw [u1] at t1
      rw [u2] at t2
      generalize (toldF f a0 a1 ns j).getD y 0 = fl at *
      generalize (toldF f a0 a1 ns j).getD z 0 = fh at *
      generalize hfs : toldF f a0 a1 ns j = fs at *
      have HTJ := hideN hts
      have HFSL : Hid ((fs.map (Value.int .i64)).length = m) := by show _ = _; simp [htl]
      obtain ⟨V, hV⟩ : ∃ V, V = wr.alloc (.cells #[.int .i64 (x : Int), .int .i64 (y : Int), .int .i64 (z : Int)] 50) := ⟨_, rfl⟩
      have HVW : Hid (Below wr.heap.size wr V) := by rw [hV]; exact belOne _ _
      have hT : V.heap[wr.heap.size]? = some (.cells #[.int .i64 (x : Int), .int .i64 (y : Int), .int .i64 (z : Int)] 50 (0, 0)) := by rw [hV]; exact World.alloc_heap_new _ _
      obtain ⟨B11, hB11⟩ : ∃ B11, wr.heap.size = B11 := ⟨_, rfl⟩
      rw [hB11] at hT
      have hgl := cell_lt t1
      have t1' := (HVW.out.cell (p := ⟨gt, y, none⟩) hgl).trans t1
      have t2' := (HVW.out.cell (p := ⟨gt, z, none⟩) hgl).trans t2
      have HCL : Hid (∀ U, Below V.heap.size V U → U.cell? ⟨B11, 0, none⟩ = some (.int .i64 (x : Int)) ∧ U.cell? ⟨B11, 1, none⟩ = some (.int .i64 (y : Int)) ∧ U.cell? ⟨B11, 2, none⟩ = some (.int .i64 (z : Int)) ∧ U.cell? ⟨gt, y, none⟩ = some (.int .i64 fl) ∧ U.cell? ⟨gt, z, none⟩ = some (.int .i64 fh)) := fun U hU => by
        have h2 := (hU.block B11 (Array.getElem?_eq_some_iff.1 hT).1).trans hT
        exact ⟨by simp [World.cell?, h2], by simp [World.cell?, h2], by simp [World.cell?, h2], (hU.cell (p := ⟨gt, y, none⟩) (cell_lt t1')).trans t1', (hU.cell (p := ⟨gt, z, none⟩) (cell_lt t2')).trans t2'⟩
      have HVE := hideN hV
      have HB11 := hideN hB11
      clear hcs hnp hts hV hT hB11 t1 t2 t1' t2' u1 u2 hm htl hfs
      go_wp2_with fail
      rw [← HVE.out]
      try rw [HB11.out]
      clear e0 e1 e2
      obtain ⟨z0, z1, z2, z3, z4⟩ := HCL.out V.drew (below_drewN (Below.refl _ _) 1)
      refine region_U (fin := 15) (S := fun V => V.cell? ⟨B11, 0, none⟩ = some (.int .i64 (x : Int)) ∧ V.cell? ⟨B11, 1, none⟩ = some (.int .i64 (y : Int)) ∧ V.cell? ⟨B11, 2, none⟩ = some (.int .i64 (z : Int)) ∧ V.cell? ⟨gt, y, none⟩ = some (.int .i64 fl) ∧ V.cell? ⟨gt, z, none⟩ = some (.int .i64 fh)) (by kernel_rfl) ⟨z0, z1, z2, z3, z4⟩ (fun hHeld => ?_)
      clear hHeld
      refine takeU (i := 0) (v := .slice (some ⟨gt, 0, none⟩) m cap') rfl (by rfl) (by kernel_rfl) (by kernel_rfl) (by kernel_rfl) (by kernel_rfl) (by kernel_rfl) (fun _ _ _ h => h) (Or.inl ⟨by rfl, fun w hS => by obtain ⟨z0, z1, z2, z3, z4⟩ := hS; go_simp⟩) ⟨z0, z1, z2, z3, z4⟩ ?_
      simp only [List.getElem_toArray, List.getElem_cons_zero, Act.put, List.setIfInBounds_toArray, List.set_cons_zero, List.set_cons_succ]
      refine takeU (i := 1) (v := .func (.func F) #[] binds) rfl (by rfl) (by kernel_rfl) (by kernel_rfl) (by kernel_rfl) (by kernel_rfl) (by kernel_rfl) (fun _ _ _ h => h) (Or.inl ⟨by rfl, fun w hS => by obtain ⟨z0, z1, z2, z3, z4⟩ := hS; go_simp⟩) ⟨z0, z1, z2, z3, z4⟩ ?_
      simp only [List.getElem_toArray, List.getElem_cons_zero, List.getElem_cons_succ, Act.put, List.setIfInBounds_toArray, List.set_cons_zero, List.set_cons_succ]
      refine takeU (i := 2) (v := .agg #[.int .i64 (x : Int), .int .i64 (y : Int), .int .i64 (z : Int)]) rfl (by rfl) (by kernel_rfl) (by kernel_rfl) (by kernel_rfl) (by kernel_rfl) (by kernel_rfl) (fun _ _ _ h => h) (Or.inl ⟨by rfl, fun w hS => by obtain ⟨z0, z1, z2, z3, z4⟩ := hS; go_simp⟩) ⟨z0, z1, z2, z3, z4⟩ ?_
      simp only [List.getElem_toArray, List.getElem_cons_zero, List.getElem_cons_succ, Act.put, List.setIfInBounds_toArray, List.set_cons_zero, List.set_cons_succ]
      refine takeU (i := 3) (v := .slice (some ⟨gt, 0, none⟩) m cap') rfl (by rfl) (by kernel_rfl) (by kernel_rfl) (by kernel_rfl) (by kernel_rfl) (by kernel_rfl) (fun _ _ _ h => h) (Or.inl ⟨by rfl, fun w hS => by obtain ⟨z0, z1, z2, z3, z4⟩ := hS; go_simp⟩) ⟨z0, z1, z2, z3, z4⟩ ?_
      simp only [List.getElem_toArray, List.getElem_cons_zero, List.getElem_cons_succ, Act.put, List.setIfInBounds_toArray, List.set_cons_zero, List.set_cons_succ]
      refine takeU (i := 4) (v := .pointer (some ⟨B11, 1, none⟩)) rfl (by rfl) (by kernel_rfl) (by kernel_rfl) (by kernel_rfl) (by kernel_rfl) (by kernel_rfl) (fun _ _ _ h => h) (Or.inl ⟨by rfl, fun w hS => by obtain ⟨z0, z1, z2, z3, z4⟩ := hS; go_simp⟩) ⟨z0, z1, z2, z3, z4⟩ ?_
      simp only [List.getElem_toArray, List.getElem_cons_zero, List.getElem_cons_succ, Act.put, List.setIfInBounds_toArray, List.set_cons_zero, List.set_cons_succ]
      refine takeU (i := 5) (v := .int .i64 (y : Int)) rfl (by rfl) (by kernel_rfl) (by kernel_rfl) (by kernel_rfl) (by kernel_rfl) (by kernel_rfl) (fun _ _ _ h => h) (Or.inl ⟨by rfl, fun w hS => by obtain ⟨z0, z1, z2, z3, z4⟩ := hS; go_simp⟩) ⟨z0, z1, z2, z3, z4⟩ ?_
      simp only [List.getElem_toArray, List.getElem_cons_zero, List.getElem_cons_succ, Act.put, List.setIfInBounds_toArray, List.set_cons_zero, List.set_cons_succ]
      refine takeU (i := 6) (v := .pointer (some ⟨gt, y, none⟩)) rfl (by rfl) (by kernel_rfl) (by kernel_rfl) (by kernel_rfl) (by kernel_rfl) (by kernel_rfl) (fun _ _ _ h => h) (Or.inl ⟨by rfl, fun w hS => by obtain ⟨z0, z1, z2, z3, z4⟩ := hS; go_simp⟩) ⟨z0, z1, z2, z3, z4⟩ ?_
      simp only [List.getElem_toArray, List.getElem_cons_zero, List.getElem_cons_succ, Act.put, List.setIfInBounds_toArray, List.set_cons_zero, List.set_cons_succ]
      refine takeU (i := 7) (v := .int .i64 fl) rfl (by rfl) (by kernel_rfl) (by kernel_rfl) (by kernel_rfl) (by kernel_rfl) (by kernel_rfl) (fun _ _ _ h => h) (Or.inl ⟨by rfl, fun w hS => by obtain ⟨z0, z1, z2, z3, z4⟩ := hS; go_simp⟩) ⟨z0, z1, z2, z3, z4⟩ ?_
      simp only [List.getElem_toArray, List.getElem_cons_zero, List.getElem_cons_succ, Act.put, List.setIfInBounds_toArray, List.set_cons_zero, List.set_cons_succ]
      refine takeU (i := 8) (v := .slice (some ⟨gt, 0, none⟩) m cap') rfl (by rfl) (by kernel_rfl) (by kernel_rfl) (by kernel_rfl) (by kernel_rfl) (by kernel_rfl) (fun _ _ _ h => h) (Or.inl ⟨by rfl, fun w hS => by obtain ⟨z0, z1, z2, z3, z4⟩ := hS; go_simp⟩) ⟨z0, z1, z2, z3, z4⟩ ?_
      simp only [List.getElem_toArray, List.getElem_cons_zero, List.getElem_cons_succ, Act.put, List.setIfInBounds_toArray, List.set_cons_zero, List.set_cons_succ]
      refine takeU (i := 9) (v := .pointer (some ⟨B11, 2, none⟩)) rfl (by rfl) (by kernel_rfl) (by kernel_rfl) (by kernel_rfl) (by kernel_rfl) (by kernel_rfl) (fun _ _ _ h => h) (Or.inl ⟨by rfl, fun w hS => by obtain ⟨z0, z1, z2, z3, z4⟩ := hS; go_simp⟩) ⟨z0, z1, z2, z3, z4⟩ ?_
      simp only [List.getElem_toArray, List.getElem_cons_zero, List.getElem_cons_succ, Act.put, List.setIfInBounds_toArray, List.set_cons_zero, List.set_cons_succ]
      refine takeU (i := 10) (v := .int .i64 (z : Int)) rfl (by rfl) (by kernel_rfl) (by kernel_rfl) (by kernel_rfl) (by kernel_rfl) (by kernel_rfl) (fun _ _ _ h => h) (Or.inl ⟨by rfl, fun w hS => by obtain ⟨z0, z1, z2, z3, z4⟩ := hS; go_simp⟩) ⟨z0, z1, z2, z3, z4⟩ ?_
      simp only [List.getElem_toArray, List.getElem_cons_zero, List.getElem_cons_succ, Act.put, List.setIfInBounds_toArray, List.set_cons_zero, List.set_cons_succ]
      refine takeU (i := 11) (v := .pointer (some ⟨gt, z, none⟩)) rfl (by rfl) (by kernel_rfl) (by kernel_rfl) (by kernel_rfl) (by kernel_rfl) (by kernel_rfl) (fun _ _ _ h => h) (Or.inl ⟨by rfl, fun w hS => by obtain ⟨z0, z1, z2, z3, z4⟩ := hS; go_simp⟩) ⟨z0, z1, z2, z3, z4⟩ ?_
      simp only [List.getElem_toArray, List.getElem_cons_zero, List.getElem_cons_succ, Act.put, List.setIfInBounds_toArray, List.set_cons_zero, List.set_cons_succ]
      refine takeU (i := 12) (v := .int .i64 fh) rfl (by rfl) (by kernel_rfl) (by kernel_rfl) (by kernel_rfl) (by kernel_rfl) (by kernel_rfl) (fun _ _ _ h => h) (Or.inl ⟨by rfl, fun w hS => by obtain ⟨z0, z1, z2, z3, z4⟩ := hS; go_simp⟩) ⟨z0, z1, z2, z3, z4⟩ ?_
      simp only [List.getElem_toArray, List.getElem_cons_zero, List.getElem_cons_succ, Act.put, List.setIfInBounds_toArray, List.set_cons_zero, List.set_cons_succ]
      refine oneU (i := 13) (by kernel_rfl) rfl (by rfl) ?_
      simp only [List.getElem_toArray, List.getElem_cons_zero, List.getElem_cons_succ]
      go_simp
      have HBD2 : Hid (Below wr.heap.size wr V.drew) := belNext HVW.out (below_drewN (Below.refl _ _) 1)
      refine (HSF.out V.drew (belNext hbw.out HBD2.out) x (y : Int) (z : Int) fl fh hxv by1.1 by1.2 bz1.1 bz1.2).mono ?_
      rintro e w1 ⟨rfl, hb1⟩
      obtain ⟨fv, hfv⟩ : ∃ fv, f ((x : Int), (y : Int), (z : Int)) fl fh = fv := ⟨_, rfl⟩
      rw [hfv] at HTJ ⊢
      clear hfv
      have HB1w : Hid (Below wr.heap.size wr w1) := belNext HBD2.out hb1
      have HBV1 : Hid (Below V.heap.size V w1) := belNext (below_drewN (Below.refl _ _) 1) hb1
      clear hb1 z0 z1 z2 z3 z4
      refine ⟨HCL.out w1 HBV1.out, ?_⟩
      have HRD := hideN (row_below (row_below hrow.out HB1w.out) (belOne w1 (.cells #[.int .i64 fv] 3)))
      obtain ⟨z0, z1, z2, z3, z4⟩ := HCL.out (w1.alloc (.cells #[.int .i64 fv] 3)) (belNext HBV1.out (belOne _ _))
      refine oneU (i := 14) (by kernel_rfl) rfl (by rfl) ?_
      simp only [List.getElem_toArray, List.getElem_cons_zero, List.getElem_cons_succ]
      go_simp
      refine oneU (i := 15) (by kernel_rfl) rfl (by rfl) ?_
      simp only [List.getElem_toArray, List.getElem_cons_zero, List.getElem_cons_succ]
      have hwb := hbw.out.size
      have hb1s := HB1w.out.size
      have hgt1 := (World.ownsRow.lt hrow.out gt rfl).1
      refine wp_append_lies _ (.tmp 22) (.tmp 36) 42 rfl (w.heap.size + 1) 3 ib (.int .i64 0) 1 8 Try.underlying42 hib hz0 hz1 hz2 rfl (by decide) (.slice (some ⟨gt, 0, none⟩) m cap') m (fs.map (Value.int .i64)) rfl HRD.out ⟨w1.heap.size, 0, none⟩ 1 1 [.int .i64 fv] rfl rfl (by exact news1G w1 _ _) (by intro u hu; simp at hu; subst hu; rfl) (by decide) (by unfold maxLen; omega) (by omega) (by simp; omega) _ rfl ?_
      intro g gcap w9 hown9 hgrow9 hat9 hlt9
      have HR9 := hideN hown9
      have hc19 : Chg (· = gt) w1 w9 := (Chg.of_below (belOne w1 (.cells #[.int .i64 fv] 3))).trans ((chg_of_grown hgrow9).mono (fun k e => (Option.some.inj e).symm))
      have hc9 : Chg (· = gt) wr w9 := (Chg.of_below HB1w.out).trans hc19
      have hg9 : g = gt ∨ w1.heap.size ≤ g := by
        rcases hat9 with h | h
        · exact .inl (Option.some.inj h).symm
        · exact .inr (by rw [h, World.size_alloc]; omega)
      have HR9 : Hid (w9.ownsRow (w.heap.size + 1) 3 1 (.slice (some ⟨g, 0, none⟩) (m + 1) gcap) (m + 1) ((toldF f a0 a1 ns (j + 1)).map (Value.int .i64))) := by show World.ownsRow _ _ _ _ _ _ _; rw [HTJ.out, List.map_append]; exact HR9.out
      have HB9 : Hid (Below w.heap.size w w9) := Chg.below hbw.out hwb hc9 (fun k e => by have : k = gt := e; omega)
      have HK9 : Hid (BlkD w9 w.heap.size (.int .i64 (vars : Int)) (.slice (some ⟨b, off, none⟩) n cap) (.int .i64 root)) := (hc9.block _ hbk.out.lt (fun e => by have : w.heap.size = gt := e; omega)).trans hbk.out
      clear hown9 hgrow9 hat9 hlt9 hc19 hc9 hg9 z0 z1 z2 z3 z4
      refine ⟨fun h => by simp at h, ?_⟩
      simp only [Act.put, List.setIfInBounds_toArray, List.set_cons_zero, List.set_cons_succ]
      refine oneU (i := 16) (by kernel_rfl) rfl (by rfl) ?_
      simp only [List.getElem_toArray, List.getElem_cons_zero, List.getElem_cons_succ]
      go_simp
      refine doneU (by kernel_rfl) ?_ _
      go_wp2_with fail
      go_roundw
      case rel => exact ⟨g, gcap, m + 1, j + 1, by omega, by have := HM.out; omega, by go_num, rfl, HR9, HB9, HK9⟩
      case measure => simp [intOf]; omega
    · obtain rfl : j = n := by omega
      obtain ⟨r, rfl⟩ : ∃ r : Nat, root = (r : Int) := ⟨root.toNat, by omega⟩
      have hrm : r < m := by omega
      have htl : (toldF f a0 a1 ns j).length = m := by rw [HTL.out j]; omega
      have t1 := World.ownsRow.cellAt hrow.out r (by omega)
      have u1 : ((toldF f a0 a1 ns j).map (Value.int .i64))[r]? = some (.int .i64 ((toldF f a0 a1 ns j).getD r 0)) := by rw [List.getElem?_map, List.getD, List.getElem?_eq_getElem (by omega)]; rfl
      rw [u1] at t1
      obtain ⟨fv, hfv⟩ : ∃ fv, (toldF f a0 a1 ns j).getD r 0 = fv := ⟨_, rfl⟩
      rw [hfv] at t1
      have HFV := hideN hfv
      have c1 := hbk.out.c2
      have c3 := hbk.out.lt
      have hri : ¬ ((m : Int) ≤ (r : Int)) := by omega
      clear u1 hm htl hfv
      go_wp2_with fail
      go_ret
      exact ⟨by first | (rw [HFV.out]; rfl) | (rw [← HFV.out]; rfl), hbw.out⟩

end Go.Proofs.Ytknpifjkllcdeaa

/-
  Copies of expressions that come in: toExp, toExpS.
-/
import Derived.Test.YthbjihamhfahcaaDoorExpS
import Derived.Test.YthbjihamhfahcaaDoorExpI
namespace Go.Proofs.YthbjihamhfahcaaDoor
open Go.RowKit Go.Deep
set_option linter.unusedVariables false

attribute [local go_sem] Oper.semAt_some

/-- A block of four cells. -/
def BlkE (w : World) (b : Nat) (a0 a1 a2 a3 : Value) (t : TypeId) : Prop := w.heap[b]? = some (.cells #[a0, a1, a2, a3] t (0, 0))
section
variable {w w' : World} {b : Nat} {a0 a1 a2 a3 : Value} {t : TypeId}
theorem BlkE.lt (h : BlkE w b a0 a1 a2 a3 t) : b < w.heap.size := (Array.getElem?_eq_some_iff.1 h).1
theorem BlkE.c0 (h : BlkE w b a0 a1 a2 a3 t) : w.cell? ⟨b, 0, none⟩ = some a0 := by unfold BlkE at h; simp [World.cell?, h]
theorem BlkE.c1 (h : BlkE w b a0 a1 a2 a3 t) : w.cell? ⟨b, 1, none⟩ = some a1 := by unfold BlkE at h; simp [World.cell?, h]
theorem BlkE.c2 (h : BlkE w b a0 a1 a2 a3 t) : w.cell? ⟨b, 2, none⟩ = some a2 := by unfold BlkE at h; simp [World.cell?, h]
theorem BlkE.c3 (h : BlkE w b a0 a1 a2 a3 t) : w.cell? ⟨b, 3, none⟩ = some a3 := by unfold BlkE at h; simp [World.cell?, h]
theorem BlkE.f (h : BlkE w b a0 a1 a2 a3 t) (i : Nat) : w.frozen? ⟨b, i, none⟩ = false := by unfold BlkE at h; simp [World.frozen?, h]
theorem BlkE.set0 (h : BlkE w b a0 a1 a2 a3 t) (u : Value) : BlkE (w.setCell ⟨b, 0, none⟩ u) b u a1 a2 a3 t := by unfold BlkE at *; simp [World.setCell, Array.getElem?_modify, h]
theorem BlkE.set1 (h : BlkE w b a0 a1 a2 a3 t) (u : Value) : BlkE (w.setCell ⟨b, 1, none⟩ u) b a0 u a2 a3 t := by unfold BlkE at *; simp [World.setCell, Array.getElem?_modify, h]
theorem BlkE.set2 (h : BlkE w b a0 a1 a2 a3 t) (u : Value) : BlkE (w.setCell ⟨b, 2, none⟩ u) b a0 a1 u a3 t := by unfold BlkE at *; simp [World.setCell, Array.getElem?_modify, h]
theorem BlkE.set3 (h : BlkE w b a0 a1 a2 a3 t) (u : Value) : BlkE (w.setCell ⟨b, 3, none⟩ u) b a0 a1 a2 u t := by unfold BlkE at *; simp [World.setCell, Array.getElem?_modify, h]
theorem BlkE.new (w : World) (a0 a1 a2 a3 : Value) (t : TypeId) : BlkE (w.alloc (.cells #[a0, a1, a2, a3] t)) w.heap.size a0 a1 a2 a3 t := World.alloc_heap_new _ _
theorem BlkE.below (h : BlkE w b a0 a1 a2 a3 t) (hb : Below w.heap.size w w') : BlkE w' b a0 a1 a2 a3 t := (hb.block b h.lt).trans h
theorem BlkE.other (h : BlkE w b a0 a1 a2 a3 t) {a : Addr} (ha : b ≠ a.block) (u : Value) : BlkE (w.setCell a u) b a0 a1 a2 a3 t := (blk_setCell_other w a u b ha).trans h
end

theorem info_exp : (Tryd.prog.info? 29).map (fun i => (i.zero, i.size, i.bytes)) = some (some (.agg #[.int .i64 0, .int .i64 0, .string ⟨#[]⟩, .slice none 0 0]), 4, 56) := by kernel_rfl

theorem run_make_four {P : Program} (t e : TypeId) (z0 z1 z2 z3 : Value) (bytes : Nat) (ht : P.underlying t = some (.slice e)) (hinfo : (P.info? e).map (fun i => (i.zero, i.size, i.bytes)) = some (some (.agg #[z0, z1, z2, z3]), 4, bytes))
    (n : Nat) (hbytes : bytes * n ≤ 281474976710656) (h63 : n ≤ 9223372036854775807) (w : World) :
    (Instr.makeSlice t (.int .i64 (n : Int)) (.int .i64 (n : Int))).run P w = .ok (.slice (some ⟨w.heap.size, 0, none⟩) n n) (w.alloc (.cells (madeCells #[z0, z1, z2, z3] (n * 4)) e)) := by
  obtain ⟨i, hi, hzz⟩ := Option.map_eq_some_iff.1 hinfo
  simp only [Prod.mk.injEq] at hzz
  obtain ⟨hz, hs, hb⟩ := hzz
  have hb' : (i.bytes : Int) * (n : Int) ≤ 281474976710656 := by
    have h : ((i.bytes * n : Nat) : Int) ≤ 281474976710656 := by rw [hb]; omega
    rwa [Int.natCast_mul] at h
  have hr := run_make (P := P) w t e i _ ht hi hz .i64 .i64 n n (by omega) (Int.le_refl _) hb' (by omega)
  simp only [Int.toNat_natCast, hs, Value.cells] at hr
  exact hr

theorem rowIs_made4 (w : World) (z : Array Value) (n : Nat) (t : TypeId) : (w.alloc (.cells (madeCells z (n * 4)) t)).rowIs w.heap.size t (n * 4) (fun i => z[i % z.size]!) := by
  refine ⟨_, blk_alloc_new _ _, size_madeCells _ _, fun i hi => ?_⟩
  simp [madeCells, hi]

/-- An expression is an aggregate of four. -/
theorem IsE.agg {W : World} {lo : Nat} {t : ExpT} {v : Value} (h : IsE W lo t v) : ∃ k n s ao m cap, v = .agg #[.int .i64 k, .int .i64 n, .string s, .slice ao m cap] := by
  obtain ⟨k, n, s, ks⟩ := t
  obtain ⟨ao, cap, rfl, _⟩ := isE_node.1 h
  exact ⟨k, n, s, _, _, _, rfl⟩

/-- A copy's row, of which so many are filled. -/
structure RowE (wr : World) (B n j : Nat) (ks : List ExpT) (F : Nat → Value) : Prop where
  row : wr.rowIs B 29 (n * 4) F
  kid : ∀ i, i < j → IsE wr (B + 1) (ks.getD i e0) (.agg #[F (i * 4), F (i * 4 + 1), F (i * 4 + 2), F (i * 4 + 3)])
  low : ∀ i, i < j → IsM wr (B + 1) wr.heap.size (ks.getD i e0) (F (i * 4 + 3))

theorem RowE.fill {wr : World} {B n j : Nat} {ks : List ExpT} {F : Nat → Value} (h : RowE wr B n j ks F) {w1 : World} (hb : Below wr.heap.size wr w1) {u0 u1 u2 u3 : Value} (hj : j < n) (he : IsE w1 (B + 1) (ks.getD j e0) (.agg #[u0, u1, u2, u3])) (hm : IsM w1 (B + 1) w1.heap.size (ks.getD j e0) u3) :
    RowE ((((w1.setCell ⟨B, j * 4, none⟩ u0).setCell ⟨B, j * 4 + 1, none⟩ u1).setCell ⟨B, j * 4 + 2, none⟩ u2).setCell ⟨B, j * 4 + 3, none⟩ u3) B n (j + 1) ks (fun i => if i = j * 4 + 3 then u3 else if i = j * 4 + 2 then u2 else if i = j * 4 + 1 then u1 else if i = j * 4 then u0 else F i) := by
  have hr := (h.row.of_block (hb.block _ h.row.lt))
  have hk3 : Kp3 (B + 1) w1 ((((w1.setCell ⟨B, j * 4, none⟩ u0).setCell ⟨B, j * 4 + 1, none⟩ u1).setCell ⟨B, j * 4 + 2, none⟩ u2).setCell ⟨B, j * 4 + 3, none⟩ u3) := Kp3.blocks fun k hk _ => by
    rw [blk_setCell_other _ _ _ _ (by show k ≠ B; omega), blk_setCell_other _ _ _ _ (by show k ≠ B; omega), blk_setCell_other _ _ _ _ (by show k ≠ B; omega), blk_setCell_other _ _ _ _ (by show k ≠ B; omega)]
  have hsz : ((((w1.setCell ⟨B, j * 4, none⟩ u0).setCell ⟨B, j * 4 + 1, none⟩ u1).setCell ⟨B, j * 4 + 2, none⟩ u2).setCell ⟨B, j * 4 + 3, none⟩ u3).heap.size = w1.heap.size := by simp [World.setCell]
  refine ⟨((((hr.set (j * 4) u0).set (j * 4 + 1) u1).set (j * 4 + 2) u2).set (j * 4 + 3) u3).congr (fun i _ => rfl), fun i hi => ?_, fun i hi => ?_⟩
  rotate_left
  · rw [hsz]
    by_cases e : i = j
    · subst e
      have := hm.kept hk3 _ _
      simpa using this
    · have h1 := ((h.low i (by omega)).kept (Kp3.below hb) _ _).wider (Nat.le_refl _) hb.size _ _
      have h2 := h1.kept hk3 _ _
      have a3 : (if i * 4 + 3 = j * 4 + 3 then u3 else if i * 4 + 3 = j * 4 + 2 then u2 else if i * 4 + 3 = j * 4 + 1 then u1 else if i * 4 + 3 = j * 4 then u0 else F (i * 4 + 3)) = F (i * 4 + 3) := by rw [if_neg (by omega), if_neg (by omega), if_neg (by omega), if_neg (by omega)]
      show IsM _ _ _ _ _
      rw [a3]
      exact h2
  have hk : ∀ (t : ExpT) (v : Value), IsE w1 (B + 1) t v → IsE ((((w1.setCell ⟨B, j * 4, none⟩ u0).setCell ⟨B, j * 4 + 1, none⟩ u1).setCell ⟨B, j * 4 + 2, none⟩ u2).setCell ⟨B, j * 4 + 3, none⟩ u3) (B + 1) t v := fun t v hv => by
    refine IsE.kept (fun k hk _ => ?_) t v hv
    rw [blk_setCell_other _ _ _ _ (by show k ≠ B; omega), blk_setCell_other _ _ _ _ (by show k ≠ B; omega), blk_setCell_other _ _ _ _ (by show k ≠ B; omega), blk_setCell_other _ _ _ _ (by show k ≠ B; omega)]
  by_cases e : i = j
  · subst e
    have := hk _ _ he
    simpa using this
  · have h1 := hk _ _ (IsE.below (h.kid i (by omega)) hb)
    have n0 : ∀ c d, c < 4 → d < 4 → ¬ (i * 4 + c = j * 4 + d) := fun c d hc hd => by omega
    have a0 : (if i * 4 = j * 4 + 3 then u3 else if i * 4 = j * 4 + 2 then u2 else if i * 4 = j * 4 + 1 then u1 else if i * 4 = j * 4 then u0 else F (i * 4)) = F (i * 4) := by rw [if_neg (by omega), if_neg (by omega), if_neg (by omega), if_neg (by omega)]
    have a1 : (if i * 4 + 1 = j * 4 + 3 then u3 else if i * 4 + 1 = j * 4 + 2 then u2 else if i * 4 + 1 = j * 4 + 1 then u1 else if i * 4 + 1 = j * 4 then u0 else F (i * 4 + 1)) = F (i * 4 + 1) := by rw [if_neg (by omega), if_neg (by omega), if_neg (by omega), if_neg (by omega)]
    have a2 : (if i * 4 + 2 = j * 4 + 3 then u3 else if i * 4 + 2 = j * 4 + 2 then u2 else if i * 4 + 2 = j * 4 + 1 then u1 else if i * 4 + 2 = j * 4 then u0 else F (i * 4 + 2)) = F (i * 4 + 2) := by rw [if_neg (by omega), if_neg (by omega), if_neg (by omega), if_neg (by omega)]
    have a3 : (if i * 4 + 3 = j * 4 + 3 then u3 else if i * 4 + 3 = j * 4 + 2 then u2 else if i * 4 + 3 = j * 4 + 1 then u1 else if i * 4 + 3 = j * 4 then u0 else F (i * 4 + 3)) = F (i * 4 + 3) := by rw [if_neg (by omega), if_neg (by omega), if_neg (by omega), if_neg (by omega)]
    show IsE _ _ _ (.agg #[_, _, _, _])
    rw [a0, a1, a2, a3]
    exact h1

/-- A copy of an expression, its lists in new memory. -/
def CopE (t : ExpT) (w : World) (e : Ending) (w' : World) : Prop := ∃ v, e = .returned v ∧ IsE w' w.heap.size t v ∧ Below w.heap.size w w'
/-- The list of an expression, as its value holds it. -/
def kidsV : Value → Value
  | .agg #[_, _, _, u] => u
  | v => v
/-- The same, and that the lists may be marked. -/
def CopM (t : ExpT) (w : World) (e : Ending) (w' : World) : Prop := ∃ v, e = .returned v ∧ IsE w' w.heap.size t v ∧ IsM w' w.heap.size w'.heap.size t (kidsV v) ∧ Below w.heap.size w w'

set_option maxRecDepth 100000 in
set_option maxHeartbeats 8000000 in
theorem toExpS_of (lo cap : Nat) (ao : Option Addr) (ks : List ExpT) (w : World) (hn : ks.length + totL ks ≤ 1048576) (hc : ks.length ≤ cap) (hL : IsL w lo ks ao)
    (ih : ∀ t ∈ ks, ∀ (v : Value) (w : World), totE t ≤ 1048576 → IsE w lo t v → Calls Tryd.prog 6 #[v] w (CopM t w)) :
    Calls Tryd.prog 12 #[.slice ao ks.length cap] w fun e w' => e = .returned (.slice (some ⟨w.heap.size, 0, none⟩) ks.length ks.length) ∧ IsL w' w.heap.size ks (some ⟨w.heap.size, 0, none⟩) ∧ IsMK w' w.heap.size w'.heap.size ks (some ⟨w.heap.size, 0, none⟩) ∧ Below w.heap.size w w' := by
  obtain ⟨n, hnn⟩ : ∃ n, ks.length = n := ⟨_, rfl⟩
  have HN := hideN hnn
  have hmk := run_make_four (P := Tryd.prog) 27 29 (.int .i64 0) (.int .i64 0) (.string ⟨#[]⟩) (.slice none 0 0) 56 Tryd.underlying27 info_exp n (by omega) (by omega)
  have HA : Hid (RowE (w.alloc (.cells (madeCells #[.int .i64 0, .int .i64 0, .string ⟨#[]⟩, .slice none 0 0] (n * 4)) 29)) w.heap.size n 0 ks (fun i => (#[.int .i64 0, .int .i64 0, .string ⟨#[]⟩, .slice none 0 0] : Array Value)[i % 4]!)) := ⟨rowIs_made4 w _ n _, fun i hi => by omega, fun i hi => by omega⟩
  have HIH := hideN (fun j (hj : j < n) (v : Value) (w : World) (c : IsE w lo (ks.getD j e0) v) => ih (ks.getD j e0) (by rw [List.getD, List.getElem?_eq_getElem (by omega)]; simp) v w (by
    have h1 := totL_take_succ ks j (by omega)
    have h2 := totL_take_le ks (j + 1)
    omega) c)
  have HL := hideN hL
  rw [hnn] at hc ⊢
  have HBA : Hid (Below w.heap.size w (w.alloc (.cells (madeCells #[.int .i64 0, .int .i64 0, .string ⟨#[]⟩, .slice none 0 0] (n * 4)) 29))) := belOne _ _
  have hn2 : n ≤ 1048576 := by omega
  clear ih hL hnn
  go_enter Tryd.func12, Tryd.ntmps12
  go_wp2_with fail
  go_loopw [4] (fun i wr => ∃ j F, j ≤ n ∧ i = .int .i64 (j : Int) ∧ Hid (Below w.heap.size w wr) ∧ Hid (RowE wr w.heap.size n j ks F)) (fun i _ => n - (intOf i).toNat)
  case atStart => exact ⟨0, _, Nat.zero_le _, rfl, HBA.out, HA.out⟩
  case round =>
    obtain ⟨j, F, hj, rfl, HBR, HRW⟩ := hrel
    by_cases hlt : j < n
    · obtain ⟨b, off, hao, hlo, hcs⟩ := (HL.out.below HBR.out) (by have := HN.out; omega)
      subst hao
      obtain ⟨v, ⟨v0, v1, v2, v3, rfl, c0, c1, c2, c3⟩, he⟩ := hcs j (by have := HN.out; omega)
      have HCL := hideN (HIH.out j hlt _ wr he)
      have hrl := HRW.out.row.lt
      clear hcs he
      go_wp2_with fail
      refine HCL.out.mono ?_
      rintro e w1 ⟨v', rfl, hE, hME, hb1⟩
      obtain ⟨k', n', s', ao', m', cap', rfl⟩ := hE.agg
      have HF := hideN (HRW.out.fill hb1 hlt (IsE.less (by have := HBR.out.size; omega) _ _ hE) (IsM.wider (by have := HBR.out.size; omega) (Nat.le_refl _) _ _ hME))
      have hw1 := HRW.out.row.of_block (hb1.block _ hrl)
      have d0 := hw1.cell (i := j * 4) (by omega)
      have d1 := hw1.cell (i := j * 4 + 1) (by omega)
      have d2 := hw1.cell (i := j * 4 + 2) (by omega)
      have d3 := hw1.cell (i := j * 4 + 3) (by omega)
      have g0 := hw1.frozen (j * 4)
      have g1 := hw1.frozen (j * 4 + 1)
      have g2 := hw1.frozen (j * 4 + 2)
      have g3 := hw1.frozen (j * 4 + 3)
      have HB1 : Hid (Below w.heap.size w w1) := belNext HBR.out hb1
      clear hb1 hw1 hE hME c0 c1 c2 c3
      go_wp2
      go_roundw
      case rel => exact ⟨j + 1, _, by omega, by go_num, (((HB1.out.setCell (p := ⟨w.heap.size, j * 4, none⟩) (Nat.le_refl _) _).setCell (p := ⟨w.heap.size, j * 4 + 1, none⟩) (Nat.le_refl _) _).setCell (p := ⟨w.heap.size, j * 4 + 2, none⟩) (Nat.le_refl _) _).setCell (p := ⟨w.heap.size, j * 4 + 3, none⟩) (Nat.le_refl _) _, HF.out⟩
      case measure => simp [intOf]; omega
    · obtain rfl : j = n := by omega
      have HIL : Hid (IsL wr w.heap.size ks (some ⟨w.heap.size, 0, none⟩)) := fun hp => ⟨w.heap.size, 0, rfl, Nat.le_refl _, fun i hi => by
        have hi' : i < j := by have := HN.out; omega
        refine ⟨_, ⟨_, _, _, _, rfl, ?_, ?_, ?_, ?_⟩, IsE.less (Nat.le_succ _) _ _ (HRW.out.kid i hi')⟩
        · rw [Nat.zero_add]; exact HRW.out.row.cell (by omega)
        · rw [Nat.zero_add]; exact HRW.out.row.cell (by omega)
        · rw [Nat.zero_add]; exact HRW.out.row.cell (by omega)
        · rw [Nat.zero_add]; exact HRW.out.row.cell (by omega)⟩
      have HMK : Hid (IsMK wr w.heap.size wr.heap.size ks (some ⟨w.heap.size, 0, none⟩)) := fun hp => ⟨w.heap.size, rfl, Nat.le_refl _, HRW.out.row.lt, ⟨F, by rw [HN.out]; exact HRW.out.row⟩, fun i hi => by
        have hi' : i < j := by have := HN.out; omega
        exact ⟨_, HRW.out.row.cell (by omega), (HRW.out.low i hi').wider (Nat.le_succ _) (Nat.le_refl _) _ _⟩⟩
      go_wp2_with fail
      go_ret
      exact ⟨rfl, HIL.out, HMK.out, HBR.out⟩

set_option maxRecDepth 100000 in
set_option maxHeartbeats 8000000 in
theorem toExp_mark (lo : Nat) : ∀ (t : ExpT) (v : Value) (w : World), totE t ≤ 1048576 → IsE w lo t v → Calls Tryd.prog 6 #[v] w (CopM t w) := by
  refine ExpT.ind (fun k n s ks ih v w ht hE => ?_)
  obtain ⟨ao, cap, rfl, ⟨hk, hnn, hs, hc, hcm⟩, hL⟩ := isE_node.1 hE
  rw [totE] at ht
  obtain ⟨W1, hW1⟩ : ∃ W1, W1 = ((w.alloc (.cells #[.int .i64 k, .int .i64 n, .string s, .slice ao ks.length cap] 24)).alloc (.cells #[.int .i64 0, .int .i64 0, .string ⟨#[]⟩, .slice none 0 0] 29)).alloc (.cells #[.int .i64 k, .int .i64 n, .string s, .slice none 0 0] 29) := ⟨_, rfl⟩
  have HB1 : Hid (Below w.heap.size w W1) := by rw [hW1]; exact belNext (belNext (belOne _ _) (belOne _ _)) (belOne _ _)
  have HQ : Hid (BlkE W1 (w.heap.size + 1) (.int .i64 0) (.int .i64 0) (.string ⟨#[]⟩) (.slice none 0 0) 29) := by
    have h := BlkE.new (w.alloc (.cells #[.int .i64 k, .int .i64 n, .string s, .slice ao ks.length cap] 24)) (.int .i64 0) (.int .i64 0) (.string ⟨#[]⟩) (.slice none 0 0) 29
    rw [World.size_alloc] at h
    rw [hW1]
    exact h.below (belOne _ _)
  have HO : Hid (BlkE W1 (w.heap.size + 2) (.int .i64 k) (.int .i64 n) (.string s) (.slice none 0 0) 29) := by
    have h := BlkE.new ((w.alloc (.cells #[.int .i64 k, .int .i64 n, .string s, .slice ao ks.length cap] 24)).alloc (.cells #[.int .i64 0, .int .i64 0, .string ⟨#[]⟩, .slice none 0 0] 29)) (.int .i64 k) (.int .i64 n) (.string s) (.slice none 0 0) 29
    rw [World.size_alloc, World.size_alloc] at h
    rw [hW1]
    exact h
  have hsz : w.heap.size + 2 < W1.heap.size := HO.out.lt
  have HCL := hideN (toExpS_of lo cap ao ks W1 (by omega) hc (hL.below HB1.out) ih)
  have HW1 := hideN hW1
  have HNUM : Hid (Num64 k ∧ Num64 n ∧ s.size ≤ maxLen) := ⟨hk, hnn, hs⟩
  have hkl : ks.length ≤ 1048576 := by omega
  obtain ⟨kn, hkn⟩ : ∃ kn, ks.length = kn := ⟨_, rfl⟩
  have HKN := hideN hkn
  rw [hkn] at HCL HW1 hkl hc ⊢
  clear hE hL ih hW1 ht hs hk hnn hkn
  go_enter Tryd.func6, Tryd.ntmps6
  go_wp2_with fail
  try rw [← HW1.out]
  refine HCL.out.mono ?_
  rintro e w2 ⟨rfl, hil, hmk, hb2⟩
  have HMK := hideN hmk
  have HQ2 := hideN (HQ.out.below hb2)
  have HO2 := hideN (HO.out.below hb2)
  have HBE2 := hideN (belNext HB1.out hb2)
  have HIL := hideN hil
  obtain ⟨G, hG⟩ : ∃ G, W1.heap.size = G := ⟨_, rfl⟩
  rw [hG] at HIL HMK hsz
  try rw [hG]
  have hne1 : w.heap.size + 1 ≠ w.heap.size + 2 := by omega
  have hne2 : w.heap.size + 2 ≠ w.heap.size + 1 := by omega
  obtain ⟨q2, hq2⟩ : ∃ q2, w.heap.size + 1 + 1 = q2 := ⟨_, rfl⟩
  have hq2' : w.heap.size + 2 = q2 := hq2
  rw [hq2'] at HO2 hne1 hne2 hsz
  rw [hq2]
  obtain ⟨q1, hq1⟩ : ∃ q1, w.heap.size + 1 = q1 := ⟨_, rfl⟩
  rw [hq1] at HQ2 hne1 hne2
  rw [hq1]
  have m0 := HQ2.out.c0
  have m1 := HQ2.out.c1
  have m2 := HQ2.out.c2
  have m3 := HQ2.out.c3
  have m4 := HQ2.out.f 0
  have m5 := HQ2.out.f 1
  have m6 := HQ2.out.f 2
  have m7 := HQ2.out.f 3
  have o0 := HO2.out.c0
  have o1 := HO2.out.c1
  have o2 := HO2.out.c2
  have o3 := HO2.out.c3
  have o7 := HO2.out.f 3
  have HF := hideN ((((((HQ2.out.other (a := ⟨q2, 3, none⟩) (by show q1 ≠ q2; exact hne1) (.slice (some ⟨G, 0, none⟩) kn kn)).set0 (.int .i64 k)).set1 (.int .i64 n)).set2 (.string s)).set3 (.slice (some ⟨G, 0, none⟩) kn kn)))
  have HBF : Hid (Below w.heap.size w (((((w2.setCell ⟨q2, 3, none⟩ (.slice (some ⟨G, 0, none⟩) kn kn)).setCell ⟨q1, 0, none⟩ (.int .i64 k)).setCell ⟨q1, 1, none⟩ (.int .i64 n)).setCell ⟨q1, 2, none⟩ (.string s)).setCell ⟨q1, 3, none⟩ (.slice (some ⟨G, 0, none⟩) kn kn))) :=
    ((((HBE2.out.setCell (p := ⟨q2, 3, none⟩) (by show w.heap.size ≤ q2; omega) _).setCell (p := ⟨q1, 0, none⟩) (by show w.heap.size ≤ q1; omega) _).setCell (p := ⟨q1, 1, none⟩) (by show w.heap.size ≤ q1; omega) _).setCell (p := ⟨q1, 2, none⟩) (by show w.heap.size ≤ q1; omega) _).setCell (p := ⟨q1, 3, none⟩) (by show w.heap.size ≤ q1; omega) _
  have HEF : Hid (IsE (((((w2.setCell ⟨q2, 3, none⟩ (.slice (some ⟨G, 0, none⟩) kn kn)).setCell ⟨q1, 0, none⟩ (.int .i64 k)).setCell ⟨q1, 1, none⟩ (.int .i64 n)).setCell ⟨q1, 2, none⟩ (.string s)).setCell ⟨q1, 3, none⟩ (.slice (some ⟨G, 0, none⟩) kn kn)) w.heap.size (.node k n s ks) (.agg #[.int .i64 k, .int .i64 n, .string s, .slice (some ⟨G, 0, none⟩) kn kn])) := by
    refine IsE.less (show w.heap.size ≤ G by omega) _ _ (isE_node.2 ⟨some ⟨G, 0, none⟩, kn, by rw [HKN.out], ⟨HNUM.out.1, HNUM.out.2.1, HNUM.out.2.2, by rw [HKN.out]; exact Nat.le_refl _, by unfold maxLen; omega⟩, HIL.out.kept (fun k hk _ => ?_)⟩)
    rw [blk_setCell_other _ _ _ _ (by show k ≠ q1; omega), blk_setCell_other _ _ _ _ (by show k ≠ q1; omega), blk_setCell_other _ _ _ _ (by show k ≠ q1; omega), blk_setCell_other _ _ _ _ (by show k ≠ q1; omega), blk_setCell_other _ _ _ _ (by show k ≠ q2; omega)]
  have hlq1 : w.heap.size ≤ q1 := by omega
  have HMF : Hid (IsM (((((w2.setCell ⟨q2, 3, none⟩ (.slice (some ⟨G, 0, none⟩) kn kn)).setCell ⟨q1, 0, none⟩ (.int .i64 k)).setCell ⟨q1, 1, none⟩ (.int .i64 n)).setCell ⟨q1, 2, none⟩ (.string s)).setCell ⟨q1, 3, none⟩ (.slice (some ⟨G, 0, none⟩) kn kn)) w.heap.size (((((w2.setCell ⟨q2, 3, none⟩ (.slice (some ⟨G, 0, none⟩) kn kn)).setCell ⟨q1, 0, none⟩ (.int .i64 k)).setCell ⟨q1, 1, none⟩ (.int .i64 n)).setCell ⟨q1, 2, none⟩ (.string s)).setCell ⟨q1, 3, none⟩ (.slice (some ⟨G, 0, none⟩) kn kn)).heap.size (.node k n s ks) (.slice (some ⟨G, 0, none⟩) kn kn)) := by
    refine isM_node.2 ⟨some ⟨G, 0, none⟩, kn, by rw [HKN.out], IsMK.wider (IsMK.kept HMK.out (Kp3.blocks fun k hk _ => ?_)) (show w.heap.size ≤ G by omega) (by simp [World.setCell])⟩
    rw [blk_setCell_other _ _ _ _ (by show k ≠ q1; omega), blk_setCell_other _ _ _ _ (by show k ≠ q1; omega), blk_setCell_other _ _ _ _ (by show k ≠ q1; omega), blk_setCell_other _ _ _ _ (by show k ≠ q1; omega), blk_setCell_other _ _ _ _ (by show k ≠ q2; omega)]
  clear hil hmk hb2 hG hq1 hq2 hq2'
  go_wp2
  have t0 := HF.out.c0
  have t1 := HF.out.c1
  have t2 := HF.out.c2
  have t3 := HF.out.c3
  exact bodyPost_ret (v := .agg #[.int .i64 k, .int .i64 n, .string s, .slice (some ⟨G, 0, none⟩) kn kn]) (by simp [results, Tryd.results6, go_sem, t0, t1, t2, t3]) rfl ⟨_, rfl, HEF.out, HMF.out, HBF.out⟩

theorem toExp_any (lo : Nat) (t : ExpT) (v : Value) (w : World) (ht : totE t ≤ 1048576) (hE : IsE w lo t v) : Calls Tryd.prog 6 #[v] w (CopE t w) :=
  (toExp_mark lo t v w ht hE).mono fun e w' ⟨v, h1, h2, _, h3⟩ => ⟨v, h1, h2, h3⟩

end Go.Proofs.YthbjihamhfahcaaDoor

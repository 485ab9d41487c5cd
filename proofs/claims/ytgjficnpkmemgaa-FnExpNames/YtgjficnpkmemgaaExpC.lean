/-
  Copies of expressions that come in: toExp, toExpS.
-/
import Derived.Test.YtgjficnpkmemgaaExpS
import Derived.Test.YtgjficnpkmemgaaExpI
namespace Go.Proofs.Ytgjficnpkmemgaa
open Go.RowKit Go.Deep
set_option linter.unusedVariables false

attribute [local go_sem] Oper.semAt_some

/-- A block of four cells. -/
def BlkE (w : World) (b : Nat) (a0 a1 a2 a3 : Value) (t : TypeId) : Prop := w.heap[b]? = some (.cells #[a0, a1, a2, a3] t (0, 0))
section
variable {w w' : World} {b : Nat} {a0 a1 a2 a3 : Value} {t : TypeId}
theorem BlkE.lt (h : BlkE w b a0 a1 a2 a3 t) : b < w.heap.size := (Array.getElem?_eq_some_iff.1 h).1
theorem BlkE.c0 (h : BlkE w b a0 a1 a2 a3 t) : w.cell? ⟨b, 0, none⟩ = some a0 := by unfold BlkE at h; simp [World.cell?, h]
theorem BlkE.c1 (h : BlkE w b a0 a1 a2 a3 t) : w.cell? ⟨b, 1, none⟩ = some a1 := by unfold BlkE at h; simp [World.cell?, h]
theorem BlkE.c2 (h : BlkE w b a0 a1 a2 a3 t) : w.cell? ⟨b, 2, none⟩ = some a2 := by unfold BlkE at h; simp [World.cell?, h]
theorem BlkE.c3 (h : BlkE w b a0 a1 a2 a3 t) : w.cell? ⟨b, 3, none⟩ = some a3 := by unfold BlkE at h; simp [World.cell?, h]
theorem BlkE.f (h : BlkE w b a0 a1 a2 a3 t) (i : Nat) : w.frozen? ⟨b, i, none⟩ = false := by unfold BlkE at h; simp [World.frozen?, h]
theorem BlkE.set0 (h : BlkE w b a0 a1 a2 a3 t) (u : Value) : BlkE (w.setCell ⟨b, 0, none⟩ u) b u a1 a2 a3 t := by unfold BlkE at *; simp [World.setCell, Array.getElem?_modify, h]
theorem BlkE.set1 (h : BlkE w b a0 a1 a2 a3 t) (u : Value) : BlkE (w.setCell ⟨b, 1, none⟩ u) b a0 u a2 a3 t := by unfold BlkE at *; simp [World.setCell, Array.getElem?_modify, h]
theorem BlkE.set2 (h : BlkE w b a0 a1 a2 a3 t) (u : Value) : BlkE (w.setCell ⟨b, 2, none⟩ u) b a0 a1 u a3 t := by unfold BlkE at *; simp [World.setCell, Array.getElem?_modify, h]
theorem BlkE.set3 (h : BlkE w b a0 a1 a2 a3 t) (u : Value) : BlkE (w.setCell ⟨b, 3, none⟩ u) b a0 a1 a2 u t := by unfold BlkE at *; simp [World.setCell, Array.getElem?_modify, h]
theorem BlkE.new (w : World) (a0 a1 a2 a3 : Value) (t : TypeId) : BlkE (w.alloc (.cells #[a0, a1, a2, a3] t)) w.heap.size a0 a1 a2 a3 t := World.alloc_heap_new _ _
theorem BlkE.below (h : BlkE w b a0 a1 a2 a3 t) (hb : Below w.heap.size w w') : BlkE w' b a0 a1 a2 a3 t := (hb.block b h.lt).trans h
theorem BlkE.other (h : BlkE w b a0 a1 a2 a3 t) {a : Addr} (ha : b ≠ a.block) (u : Value) : BlkE (w.setCell a u) b a0 a1 a2 a3 t := (blk_setCell_other w a u b ha).trans h
end

theorem info_exp : (Try.prog.info? 25).map (fun i => (i.zero, i.size, i.bytes)) = some (some (.agg #[.int .i64 0, .int .i64 0, .string ⟨#[]⟩, .slice none 0 0]), 4, 56) := by kernel_rfl

theorem run_make_four {P : Program} (t e : TypeId) (z0 z1 z2 z3 : Value) (bytes : Nat) (ht : P.underlying t = some (.slice e)) (hinfo : (P.info? e).map (fun i => (i.zero, i.size, i.bytes)) = some (some (.agg #[z0, z1, z2, z3]), 4, bytes))
    (n : Nat) (hbytes : bytes * n ≤ 281474976710656) (h63 : n ≤ 9223372036854775807) (w : World) :
    (Instr.makeSlice t (.int .i64 (n : Int)) (.int .i64 (n : Int))).run P w = .ok (.slice (some ⟨w.heap.size, 0, none⟩) n n) (w.alloc (.cells (madeCells #[z0, z1, z2, z3] (n * 4)) e)) := by
  obtain ⟨i, hi, hzz⟩ := Option.map_eq_some_iff.1 hinfo
  simp only [Prod.mk.injEq] at hzz
  obtain ⟨hz, hs, hb⟩ := hzz
  have hb' : (i.bytes : Int) * (n : Int) ≤ 281474976710656 := by
    have h : ((i.bytes * n : Nat) : Int) ≤ 281474976710656 := by rw [hb]; omega
    rwa [Int.natCast_mul] at h
  have hr := run_make (P := P) w t e i _ ht hi hz .i64 .i64 n n (by omega) (Int.le_refl _) hb' (by omega)
  simp only [Int.toNat_natCast, hs, Value.cells] at hr
  exact hr

theorem rowIs_made4 (w : World) (z : Array Value) (n : Nat) (t : TypeId) : (w.alloc (.cells (madeCells z (n * 4)) t)).rowIs w.heap.size t (n * 4) (fun i => z[i % z.size]!) := by
  refine ⟨_, blk_alloc_new _ _, size_madeCells _ _, fun i hi => ?_⟩
  simp [madeCells, hi]

/-- An expression is an aggregate of four. -/
theorem IsE.agg {W : World} {lo : Nat} {t : ExpT} {v : Value} (h : IsE W lo t v) : ∃ k n s ao m cap, v = .agg #[.int .i64 k, .int .i64 n, .string s, .slice ao m cap] := by
  obtain ⟨k, n, s, ks⟩ := t
  obtain ⟨ao, cap, rfl, _⟩ := isE_node.1 h
  exact ⟨k, n, s, _, _, _, rfl⟩

/-- A copy's row, of which so many are filled. -/
structure RowE (wr : World) (B n j : Nat) (ks : List ExpT) (F : Nat → Value) : Prop where
  row : wr.rowIs B 25 (n * 4) F
  kid : ∀ i, i < j → IsE wr (B + 1) (ks.getD i e0) (.agg #[F (i * 4), F (i * 4 + 1), F (i * 4 + 2), F (i * 4 + 3)])
  low : ∀ i, i < j → IsM wr (B + 1) wr.heap.size (ks.getD i e0) (F (i * 4 + 3))

theorem RowE.fill {wr : World} {B n j : Nat} {ks : List ExpT} {F : Nat → Value} (h : RowE wr B n j ks F) {w1 : World} (hb : Below wr.heap.size wr w1) {u0 u1 u2 u3 : Value} (hj : j < n) (he : IsE w1 (B + 1) (ks.getD j e0) (.agg #[u0, u1, u2, u3])) (hm : IsM w1 (B + 1) w1.heap.size (ks.getD j e0) u3) :
    RowE ((((w1.setCell ⟨B, j * 4, none⟩ u0).setCell ⟨B, j * 4 + 1, none⟩ u1).setCell ⟨B, j * 4 + 2, none⟩ u2).setCell ⟨B, j * 4 + 3, none⟩ u3) B n (j + 1) ks (fun i => if i = j * 4 + 3 then u3 else if i = j * 4 + 2 then u2 else if i = j * 4 + 1 then u1 else if i = j * 4 then u0 else F i) := by
  have hr := (h.row.of_block (hb.block _ h.row.lt))
  have hk3 : Kp3 (B + 1) w1 ((((w1.setCell ⟨B, j * 4, none⟩ u0).setCell ⟨B, j * 4 + 1, none⟩ u1).setCell ⟨B, j * 4 + 2, none⟩ u2).setCell ⟨B, j * 4 + 3, none⟩ u3) := Kp3.blocks fun k hk _ => by
    rw [blk_setCell_other _ _ _ _ (by show k ≠ B; omega), blk_setCell_other _ _ _ _ (by show k ≠ B; omega), blk_setCell_other _ _ _ _ (by show k ≠ B; omega), blk_setCell_other _ _ _ _ (by show k ≠ B; omega)]
  have hsz : ((((w1.setCell ⟨B, j * 4, none⟩ u0).setCell ⟨B, j * 4 + 1, none⟩ u1).setCell ⟨B, j * 4 + 2, none⟩ u2).setCell ⟨B, j * 4 + 3, none⟩ u3).heap.size = w1.heap.size := by simp [World.setCell]
  refine ⟨((((hr.set (j * 4) u0).set (j * 4 + 1) u1).set (j * 4 + 2) u2).set (j * 4 + 3) u3).congr (fun i _ => rfl), fun i hi => ?_, fun i hi => ?_⟩
  rotate_left
  · rw [hsz]
    by_cases e : i = j
    · subst e
      have := hm.kept hk3 _ _
      simpa using this
    · have h1 := ((h.low i (by omega)).kept (Kp3.below hb) _ _).wider (Nat.le_refl _) hb.size _ _
      have h2 := h1.kept hk3 _ _
      have a3 : (if i * 4 + 3 = j * 4 + 3 then u3 else if i * 4 + 3 = j * 4 + 2 then u2 else if i * 4 + 3 = j * 4 + 1 then u1 else if i * 4 + 3 = j * 4 then u0 else F (i * 4 + 3)) = F (i * 4 + 3) := by rw [if_neg (by omega), if_neg (by omega), if_neg (by omega), if_neg (by omega)]
      show IsM _ _ _ _ _
      rw [a3]
      exact h2
  have hk : ∀ (t : ExpT) (v : Value), IsE w1 (B + 1) t v → IsE ((((w1.setCell ⟨B, j * 4, none⟩ u0).setCell ⟨B, j * 4 + 1, none⟩ u1).setCell ⟨B, j * 4 + 2, none⟩ u2).setCell ⟨B, j * 4 + 3, none⟩ u3) (B + 1) t v := fun t v hv => by
    refine IsE.kept (fun k hk _ => ?_) t v hv
    rw [blk_setCell_other _ _ _ _ (by show k ≠ B; omega), blk_setCell_other _ _ _ _ (by show k ≠ B; omega), blk_setCell_other _ _ _ _ (by show k ≠ B; omega), blk_setCell_other _ _ _ _ (by show k ≠ B; omega)]
  by_cases e : i = j
  · subst e
    have := hk _ _ he
    simpa using this
  · have h1 := hk _ _ (IsE.below (h.kid i (by omega)) hb)
    have n0 : ∀ c d, c < 4 → d < 4 → ¬ (i * 4 + c = j * 4 + d) := fun c d hc hd => by omega
    have a0 : (if i * 4 = j * 4 + 3 then u3 else if i * 4 = j * 4 + 2 then u2 else if i * 4 = j * 4 + 1 then u1 else if i * 4 = j * 4 then u0 else F (i * 4)) = F (i * 4) := by rw [if_neg (by omega), if_neg (by omega), if_neg (by omega), if_neg (by omega)]
    have a1 : (if i * 4 + 1 = j * 4 + 3 then u3 else if i * 4 + 1 = j * 4 + 2 then u2 else if i * 4 + 1 = j * 4 + 1 then u1 else if i * 4 + 1 = j * 4 then u0 else F (i * 4 + 1)) = F (i * 4 + 1) := by rw [if_neg (by omega), if_neg (by omega), if_neg (by omega), if_neg (by omega)]
    have a2 : (if i * 4 + 2 = j * 4 + 3 then u3 else if i * 4 + 2 = j * 4 + 2 then u2 else if i * 4 + 2 = j * 4 + 1 then u1 else if i * 4 + 2 = j * 4 then u0 else F (i * 4 + 2)) = F (i * 4 + 2) := by rw [if_neg (by omega), if_neg (by omega), if_neg (by omega), if_neg (by omega)]
    have a3 : (if i * 4 + 3 = j * 4 + 3 then u3 else if i * 4 + 3 = j * 4 + 2 then u2 else if i * 4 + 3 = j * 4 + 1 then u1 else if i * 4 + 3 = j * 4 then u0 else F (i * 4 + 3)) = F (i * 4 + 3) := by rw [if_neg (by omega), if_neg (by omega), if_neg (by omega), if_neg (by omega)]
    show IsE _ _ _ (.agg #[_, _, _, _])
    rw [a0, a1, a2, a3]
    exact h1

/-- A copy of an expression, its lists in new memory. -/
def CopE (t : ExpT) (w : World) (e : Ending) (w' : World) : Prop := ∃ v, e = .returned v ∧ IsE w' w.heap.size t v ∧ Below w.heap.size w w'
/-- The list of an expression, as its value holds it. -/
def kidsV : Value → Value
  | .agg #[_, _, _, u] => u
  | v => v
/-- The same, and that the lists may be marked. -/
def CopM (t : ExpT) (w : World) (e : Ending) (w' : World) : Prop := ∃ v, e = .returned v ∧ IsE w' w.heap.size t v ∧ IsM w' w.heap.size w'.heap.size t (kidsV v) ∧ Below w.heap.size w w'

end Go.Proofs.Ytgjficnpkmemgaa

/-
  Terms grown: grow.
-/
import Derived.Test.YthbjihamhfahcaaDoorExpT
import Derived.Test.YthbjihamhfahcaaDoorRowN
import Derived.Deep.AppendLies
namespace Go.Proofs.YthbjihamhfahcaaDoor
open Go.RowKit Go.Deep
set_option linter.unusedVariables false

attribute [local go_sem] Oper.semAt_some

theorem growL_take_succ : ∀ (ks : List ExpT) (j r d : Nat), j < ks.length → growL (ks.take (j + 1)) r d = (growL (ks.take j) r d).bind (fun r' => growT (ks.getD j e0) r' d) := by
  intro ks
  induction ks with
  | nil => intro j r d h; simp at h
  | cons t l ih =>
    intro j r d h
    cases j with
    | zero =>
      simp only [List.take_zero, List.take_succ_cons]
      rw [growL, growL]
      show _ = growT t r d
      cases growT t r d with
      | none => rfl
      | some x => simp only; rw [growL]
    | succ j =>
      rw [List.take_succ_cons, List.take_succ_cons, growL, growL]
      cases growT t r d with
      | none => rfl
      | some x =>
        simp only
        rw [ih j x d (by simpa using h)]
        rfl
theorem growL_none : ∀ (ks : List ExpT) (j r d : Nat), growL (ks.take j) r d = none → growL ks r d = none := by
  intro ks
  induction ks with
  | nil => intro j r d h; simpa using h
  | cons t l ih =>
    intro j r d h
    cases j with
    | zero => rw [List.take_zero, growL] at h; cases h
    | succ j =>
      rw [List.take_succ_cons, growL] at h
      rw [growL]
      cases hg : growT t r d with
      | none => rfl
      | some x => rw [hg] at h; simp only at h ⊢; exact ih j x d h

/-- The grower's block. -/
def BlkG (w : World) (R : Nat) (room : Int) : Prop := w.heap[R]? = some (.cells #[.int .i64 room] 48 (0, 0))
theorem BlkG.lt {w : World} {R : Nat} {x : Int} (h : BlkG w R x) : R < w.heap.size := (Array.getElem?_eq_some_iff.1 h).1
theorem BlkG.c0 {w : World} {R : Nat} {x : Int} (h : BlkG w R x) : w.cell? ⟨R, 0, none⟩ = some (.int .i64 x) := by unfold BlkG at h; simp [World.cell?, h]
theorem BlkG.f {w : World} {R : Nat} {x : Int} (h : BlkG w R x) (i : Nat) : w.frozen? ⟨R, i, none⟩ = false := by unfold BlkG at h; simp [World.frozen?, h]
theorem BlkG.set {w : World} {R : Nat} {x : Int} (h : BlkG w R x) (y : Int) : BlkG (w.setCell ⟨R, 0, none⟩ (.int .i64 y)) R y := by unfold BlkG at *; simp [World.setCell, Array.getElem?_modify, h]
theorem BlkG.below {w w' : World} {R : Nat} {x : Int} (h : BlkG w R x) (hb : Below w.heap.size w w') : BlkG w' R x := (hb.block R h.lt).trans h

theorem grown_trans {a b c : World} {row : Option Nat} (h : a.grownBy b row) (k : b.grownBy c row) : a.grownBy c row :=
  ⟨k.os.trans h.os, k.tape.trans h.tape, k.output.trans h.output, Nat.le_trans h.size k.size, fun q hq hne => (k.block q (Nat.lt_of_lt_of_le hq h.size) hne).trans (h.block q hq hne)⟩
theorem below_grown {a b : World} {row : Option Nat} (h : Below a.heap.size a b) : a.grownBy b row := ⟨h.os, h.tape, h.output, h.size, fun q hq _ => h.block q hq⟩

theorem info_term : (Tryd.prog.info? 37).map (fun i => (i.zero, i.size, i.bytes)) = some (some .nilIface, 1, 16) := by kernel_rfl

theorem termV_iface {t : ExpT} {room deep r : Nat} (h : growT t room deep = some r) : ∃ a x, termV t = .iface a x := by
  have hA := ((growT_iff t room deep r).1 h).1
  obtain ⟨k, n, s, ks⟩ := t
  rw [allT, oneB_split] at hA
  simp only [Bool.and_eq_true] at hA
  rw [termV]
  exact termOne_iface _ hA.1.2.2

def GrowPost (res : Option Nat) (R : Nat) (V : Value) (w : World) (e : Ending) (w' : World) : Prop :=
  ∃ v, e = .returned (.tuple #[v, .bool res.isSome]) ∧ (res.isSome = true → v = V) ∧ (∀ r, res = some r → BlkG w' R (r : Int)) ∧ w.grownBy w' (some R)

theorem grow_fail {res : Option Nat} {R : Nat} {V : Value} {w w' : World} (h : res = none) (hg : w.grownBy w' (some R)) : GrowPost res R V w (.returned (.tuple #[.nilIface, .bool false])) w' := by
  subst h
  exact ⟨.nilIface, rfl, (fun h => by cases h), (fun r h => by cases h), hg⟩
theorem grow_done {res : Option Nat} {R rj : Nat} {jb : Bool} {jv V : Value} {w w' : World} (h : res = if jb = true then some rj else none) (hi : jb = true → jv = V) (hg : BlkG w' R (rj : Int)) (hf : w.grownBy w' (some R)) : GrowPost res R V w (.returned (.tuple #[jv, .bool jb])) w' := by
  subst h
  cases jb with
  | false => exact ⟨jv, rfl, (fun h => by cases h), (fun r h => by cases h), hf⟩
  | true => exact ⟨jv, rfl, (fun _ => hi rfl), (fun r h => by cases h; exact hg), hf⟩
theorem news1T (w : World) (x : Value) (t : TypeId) : ∀ j u, [x][j]? = some u → (w.alloc (.cells #[x] t)).cell? ((⟨w.heap.size, 0, none⟩ : Addr).add j) = some u := by
  intro j u h
  cases j with
  | zero => simp at h; subst h; simp [Addr.add]
  | succ j => simp at h
theorem term_one (t : TypeId) (x : Value) : ∀ u ∈ [Value.iface t x], u.oneCell' = true := by intro u hu; simp at hu; subst hu; rfl
theorem terms_of_row {w : World} {base j pc : Nat} {pa : Option Addr} {vals : List Value} (h : w.ownsRow base 37 1 (.slice pa j pc) j vals) (hi : ∀ v ∈ vals, ∃ t x, v = .iface t x) : IsTerms w pa vals := fun hp => by
  have hl := h.1
  obtain ⟨g, c', h1, h2, h3⟩ := World.ownsRow.form h (by omega)
  injection h1 with e1 e2 e3
  subst e1
  refine ⟨g, rfl, fun i hij => ?_⟩
  have hc := World.ownsRow.cellAt h i (by omega)
  rw [List.getElem?_eq_getElem (by omega)] at hc
  obtain ⟨t, x, e⟩ := hi _ (List.getElem_mem (by omega : i < vals.length))
  rw [e] at hc
  exact ⟨t, x, by rw [List.getElem?_eq_getElem (by omega), e], hc⟩
theorem row_cap {w : World} {base j pc : Nat} {pa : Option Addr} {vals : List Value} (h : w.ownsRow base 37 1 (.slice pa j pc) j vals) : j ≤ pc := by
  rcases h.2 with ⟨h5, h6⟩ | ⟨g, cp, cur, h5, _, hh, hle, _⟩
  · cases h5; exact Nat.le_refl _
  · cases h5; exact hle
theorem growT_le {t : ExpT} {room deep r : Nat} (h : growT t room deep = some r) : r ≤ room := by have := ((growT_iff t room deep r).1 h).2.2.2; omega

set_option maxRecDepth 100000 in
set_option maxHeartbeats 16000000 in
theorem grow_any (W0 : World) (lo R : Nat) (hR : W0.heap.size ≤ R) : ∀ (t : ExpT), totE t ≤ 1048576 → ∀ (room deep : Nat) (v : Value) (w : World), room ≤ 60 → 1 ≤ deep → deep ≤ 13 → IsE W0 lo t v → Below W0.heap.size W0 w → BlkG w R (room : Int) →
    Calls Tryd.prog 22 #[.pointer (some ⟨R, 0, none⟩), v, .int .i64 (deep : Int)] w (GrowPost (growT t room deep) R (termV t) w) := by
  refine ExpT.ind (fun k n s ks ih ht room deep v w hr hd1 hd2 hE hB0 hG => ?_)
  obtain ⟨ao, cap, rfl, ⟨hk, hnn, hs, hc, hcm⟩, hL⟩ := isE_node.1 hE
  rw [totE] at ht
  have HIH := hideN (fun j (hj : j < ks.length) (room deep : Nat) (v : Value) (w : World) (a : room ≤ 60) (b : 1 ≤ deep) (c : deep ≤ 13) (d : IsE W0 lo (ks.getD j e0) v) => by
    have hm : ks.getD j e0 ∈ ks := by rw [List.getD, List.getElem?_eq_getElem hj]; simp
    have := totL_mem hm
    exact ih (ks.getD j e0) hm (by omega) room deep v w a b c d)
  have hGl := hG.lt
  obtain ⟨W1, hW1⟩ : ∃ W1, W1 = w.alloc (.cells #[.int .i64 k, .int .i64 n, .string s, .slice ao ks.length cap] 29) := ⟨_, rfl⟩
  have HB1 : Hid (Below w.heap.size w W1) := by rw [hW1]; exact belOne _ _
  have HK : Hid (BlkE W1 w.heap.size (.int .i64 k) (.int .i64 n) (.string s) (.slice ao ks.length cap) 29) := by rw [hW1]; exact BlkE.new _ _ _ _ _ _
  have HG1 := hideN (hG.below HB1.out)
  have HB01 := hideN (hB0.trans (HB1.out.mono hB0.size))
  have HW1 := hideN hW1
  have HL := hideN hL
  have HTE := hideN (fun W => tellsNoMore_any k n s ao ks.length cap W)
  have HKI := hideN (fun W => kidsOf_any k W)
  have HJN := hideN (fun (pa : Option Addr) (pm pc : Nat) (W : World) (vs : List Value) (d : vs.length = pm) (a : pm = kidsN k) (b : IsTerms W pa vs) (c : pm ≤ pc) => joined_any k n s ao pa ks.length cap pm pc W (by omega) vs d a b c)
  have HTS := hideN (fun j r d (hj : j < ks.length) => growL_take_succ ks j r d hj)
  have HTN := hideN (fun j r d => growL_none ks j r d)
  have HTF : Hid (∀ r d, growL (ks.take ks.length) r d = growL ks r d) := fun r d => by rw [List.take_length]
  have HGT : Hid (growT (.node k n s ks) room deep = if room = 0 ∨ 12 < deep ∨ tellsB k n s.toList = false ∨ ks.length ≠ kidsN k then none else match growL ks (room - 1) (deep + 1) with | none => none | some r => if joinB k n s.toList = true then some r else none) := by show _ = _; rw [growT]; rfl
  obtain ⟨res, hres⟩ : ∃ res, growT (.node k n s ks) room deep = res := ⟨_, rfl⟩
  rw [hres] at HGT ⊢
  clear hres
  have HTV0 : Hid (termV (.node k n s ks) = termOne k n s (termVs (ks.take ks.length))) := by show _ = _; rw [termV, List.take_length]
  obtain ⟨VT, hVT⟩ : ∃ VT, termV (.node k n s ks) = VT := ⟨_, rfl⟩
  rw [hVT] at HTV0 ⊢
  clear hVT
  have HTVS := hideN (fun j (hj : j < ks.length) => termVs_take_succ ks j hj)
  have HTVL : Hid (∀ j, j ≤ ks.length → (termVs (ks.take j)).length = j) := fun j hj => by rw [termVs_length, List.length_take]; omega
  have HTVI := hideN (fun j (r0 d0 r1 : Nat) (h : growT (ks.getD j e0) r0 d0 = some r1) => termV_iface h)
  have hkl : ks.length ≤ 1048576 := by omega
  obtain ⟨kn, hkn⟩ : ∃ kn, ks.length = kn := ⟨_, rfl⟩
  have HKN := hideN hkn
  rw [hkn] at HIH HK HW1 HTS HTF HTE HJN HGT HTV0 HTVS HTVL hkl hc ⊢
  clear ih hE hL hW1 hkn hk hnn hs hB0 ht hG
  obtain ⟨te, hte⟩ : ∃ te, tellsB k n s.toList = te := ⟨_, rfl⟩
  rw [hte] at HTE HGT
  clear hte
  obtain ⟨B, hB⟩ : ∃ B, w.heap.size = B := ⟨_, rfl⟩
  rw [hB] at HK hGl
  have HC : Hid (∀ V', Below W1.heap.size W1 V' → V'.cell? ⟨R, 0, none⟩ = some (.int .i64 (room : Int)) ∧ V'.cell? ⟨B, 0, none⟩ = some (.int .i64 k) ∧ V'.cell? ⟨B, 1, none⟩ = some (.int .i64 n) ∧ V'.cell? ⟨B, 2, none⟩ = some (.string s) ∧ V'.cell? ⟨B, 3, none⟩ = some (.slice ao kn cap)) := fun V' hV => ⟨(HG1.out.below hV).c0, (HK.out.below hV).c0, (HK.out.below hV).c1, (HK.out.below hV).c2, (HK.out.below hV).c3⟩
  go_enter Tryd.func22, Tryd.ntmps22
  go_wp2_with fail
  try rw [← HW1.out]
  try rw [hB]
  have HBB := hideN hB
  clear hB
  obtain ⟨z0, b0, b1, b2, b3⟩ := HC.out W1.drew (below_drewN (Below.refl _ _) 1)
  refine region_U (fin := 22) (S := fun V' => V'.cell? ⟨R, 0, none⟩ = some (.int .i64 (room : Int)) ∧ V'.cell? ⟨B, 0, none⟩ = some (.int .i64 k) ∧ V'.cell? ⟨B, 1, none⟩ = some (.int .i64 n) ∧ V'.cell? ⟨B, 2, none⟩ = some (.string s) ∧ V'.cell? ⟨B, 3, none⟩ = some (.slice ao kn cap)) (by kernel_rfl) ⟨z0, b0, b1, b2, b3⟩ (fun hHeld => ?_)
  clear hHeld
  refine takeU (i := 0) (v := .pointer (some ⟨R, 0, none⟩)) rfl (by rfl) (by kernel_rfl) (by kernel_rfl) (by kernel_rfl) (by kernel_rfl) (by kernel_rfl) (fun _ _ _ h => h) (Or.inl ⟨by rfl, fun w hS => by obtain ⟨z0, b0, b1, b2, b3⟩ := hS; go_simp⟩) ⟨z0, b0, b1, b2, b3⟩ ?_
  simp only [List.getElem_toArray, List.getElem_cons_zero, Act.put, List.setIfInBounds_toArray, List.set_cons_zero, List.set_cons_succ]
  refine takeU (i := 1) (v := .pointer (some ⟨R, 0, none⟩)) rfl (by rfl) (by kernel_rfl) (by kernel_rfl) (by kernel_rfl) (by kernel_rfl) (by kernel_rfl) (fun _ _ _ h => h) (Or.inl ⟨by rfl, fun w hS => by obtain ⟨z0, b0, b1, b2, b3⟩ := hS; go_simp⟩) ⟨z0, b0, b1, b2, b3⟩ ?_
  simp only [List.getElem_toArray, List.getElem_cons_zero, List.getElem_cons_succ, Act.put, List.setIfInBounds_toArray, List.set_cons_zero, List.set_cons_succ]
  refine takeU (i := 2) (v := .pointer (some ⟨R, 0, none⟩)) rfl (by rfl) (by kernel_rfl) (by kernel_rfl) (by kernel_rfl) (by kernel_rfl) (by kernel_rfl) (fun _ _ _ h => h) (Or.inl ⟨by rfl, fun w hS => by obtain ⟨z0, b0, b1, b2, b3⟩ := hS; go_simp⟩) ⟨z0, b0, b1, b2, b3⟩ ?_
  simp only [List.getElem_toArray, List.getElem_cons_zero, List.getElem_cons_succ, Act.put, List.setIfInBounds_toArray, List.set_cons_zero, List.set_cons_succ]
  refine takeU (i := 3) (v := .int .i64 (room : Int)) rfl (by rfl) (by kernel_rfl) (by kernel_rfl) (by kernel_rfl) (by kernel_rfl) (by kernel_rfl) (fun _ _ _ h => h) (Or.inl ⟨by rfl, fun w hS => by obtain ⟨z0, b0, b1, b2, b3⟩ := hS; go_simp⟩) ⟨z0, b0, b1, b2, b3⟩ ?_
  simp only [List.getElem_toArray, List.getElem_cons_zero, List.getElem_cons_succ, Act.put, List.setIfInBounds_toArray, List.set_cons_zero, List.set_cons_succ]
  by_cases h1 : room = 0
  · have hn0 : res = none := by rw [HGT.out, if_pos (.inl h1)]
    have hri : ((room : Int) == 0) = true := by simp; omega
    refine takeU (i := 4) (v := .bool true) rfl (by rfl) (by kernel_rfl) (by kernel_rfl) (by kernel_rfl) (by kernel_rfl) (by kernel_rfl) (fun _ _ _ h => h) (Or.inl ⟨by rfl, fun w hS => by obtain ⟨z0, b0, b1, b2, b3⟩ := hS; go_simp⟩) ⟨z0, b0, b1, b2, b3⟩ ?_
    simp only [List.getElem_toArray, List.getElem_cons_zero, List.getElem_cons_succ, Act.put, List.setIfInBounds_toArray, List.set_cons_zero, List.set_cons_succ]
    refine takeU (i := 5) (v := .bool true) rfl (by rfl) (by kernel_rfl) (by kernel_rfl) (by kernel_rfl) (by kernel_rfl) (by kernel_rfl) (fun _ _ _ h => h) (Or.inl ⟨by rfl, fun w hS => by obtain ⟨z0, b0, b1, b2, b3⟩ := hS; go_simp⟩) ⟨z0, b0, b1, b2, b3⟩ ?_
    simp only [List.getElem_toArray, List.getElem_cons_zero, List.getElem_cons_succ, Act.put, List.setIfInBounds_toArray, List.set_cons_zero, List.set_cons_succ]
    refine takeU (i := 6) (v := undef) rfl (by rfl) (by kernel_rfl) (by kernel_rfl) (by kernel_rfl) (by kernel_rfl) (by kernel_rfl) (fun _ _ _ h => h) (Or.inr ⟨by rfl, rfl⟩) ⟨z0, b0, b1, b2, b3⟩ ?_
    simp only [List.getElem_toArray, List.getElem_cons_zero, List.getElem_cons_succ, Act.put, List.setIfInBounds_toArray, List.set_cons_zero, List.set_cons_succ]
    refine takeU (i := 7) (v := undef) rfl (by rfl) (by kernel_rfl) (by kernel_rfl) (by kernel_rfl) (by kernel_rfl) (by kernel_rfl) (fun _ _ _ h => h) (Or.inr ⟨by rfl, rfl⟩) ⟨z0, b0, b1, b2, b3⟩ ?_
    simp only [List.getElem_toArray, List.getElem_cons_zero, List.getElem_cons_succ, Act.put, List.setIfInBounds_toArray, List.set_cons_zero, List.set_cons_succ]
    refine takeU (i := 8) (v := .bool true) rfl (by rfl) (by kernel_rfl) (by kernel_rfl) (by kernel_rfl) (by kernel_rfl) (by kernel_rfl) (fun _ _ _ h => h) (Or.inl ⟨by rfl, fun w hS => by obtain ⟨z0, b0, b1, b2, b3⟩ := hS; go_simp⟩) ⟨z0, b0, b1, b2, b3⟩ ?_
    simp only [List.getElem_toArray, List.getElem_cons_zero, List.getElem_cons_succ, Act.put, List.setIfInBounds_toArray, List.set_cons_zero, List.set_cons_succ]
    refine takeU (i := 9) (v := .bool true) rfl (by rfl) (by kernel_rfl) (by kernel_rfl) (by kernel_rfl) (by kernel_rfl) (by kernel_rfl) (fun _ _ _ h => h) (Or.inl ⟨by rfl, fun w hS => by obtain ⟨z0, b0, b1, b2, b3⟩ := hS; go_simp⟩) ⟨z0, b0, b1, b2, b3⟩ ?_
    simp only [List.getElem_toArray, List.getElem_cons_zero, List.getElem_cons_succ, Act.put, List.setIfInBounds_toArray, List.set_cons_zero, List.set_cons_succ]
    refine takeU (i := 10) (v := undef) rfl (by rfl) (by kernel_rfl) (by kernel_rfl) (by kernel_rfl) (by kernel_rfl) (by kernel_rfl) (fun _ _ _ h => h) (Or.inr ⟨by rfl, rfl⟩) ⟨z0, b0, b1, b2, b3⟩ ?_
    simp only [List.getElem_toArray, List.getElem_cons_zero, List.getElem_cons_succ, Act.put, List.setIfInBounds_toArray, List.set_cons_zero, List.set_cons_succ]
    refine takeU (i := 11) (v := undef) rfl (by rfl) (by kernel_rfl) (by kernel_rfl) (by kernel_rfl) (by kernel_rfl) (by kernel_rfl) (fun _ _ _ h => h) (Or.inr ⟨by rfl, rfl⟩) ⟨z0, b0, b1, b2, b3⟩ ?_
    simp only [List.getElem_toArray, List.getElem_cons_zero, List.getElem_cons_succ, Act.put, List.setIfInBounds_toArray, List.set_cons_zero, List.set_cons_succ]
    refine takeU (i := 12) (v := undef) rfl (by rfl) (by kernel_rfl) (by kernel_rfl) (by kernel_rfl) (by kernel_rfl) (by kernel_rfl) (fun _ _ _ h => h) (Or.inr ⟨by rfl, rfl⟩) ⟨z0, b0, b1, b2, b3⟩ ?_
    simp only [List.getElem_toArray, List.getElem_cons_zero, List.getElem_cons_succ, Act.put, List.setIfInBounds_toArray, List.set_cons_zero, List.set_cons_succ]
    refine takeU (i := 13) (v := .bool true) rfl (by rfl) (by kernel_rfl) (by kernel_rfl) (by kernel_rfl) (by kernel_rfl) (by kernel_rfl) (fun _ _ _ h => h) (Or.inl ⟨by rfl, fun w hS => by obtain ⟨z0, b0, b1, b2, b3⟩ := hS; go_simp⟩) ⟨z0, b0, b1, b2, b3⟩ ?_
    simp only [List.getElem_toArray, List.getElem_cons_zero, List.getElem_cons_succ, Act.put, List.setIfInBounds_toArray, List.set_cons_zero, List.set_cons_succ]
    refine takeU (i := 14) (v := .bool true) rfl (by rfl) (by kernel_rfl) (by kernel_rfl) (by kernel_rfl) (by kernel_rfl) (by kernel_rfl) (fun _ _ _ h => h) (Or.inl ⟨by rfl, fun w hS => by obtain ⟨z0, b0, b1, b2, b3⟩ := hS; go_simp⟩) ⟨z0, b0, b1, b2, b3⟩ ?_
    simp only [List.getElem_toArray, List.getElem_cons_zero, List.getElem_cons_succ, Act.put, List.setIfInBounds_toArray, List.set_cons_zero, List.set_cons_succ]
    refine takeU (i := 15) (v := undef) rfl (by rfl) (by kernel_rfl) (by kernel_rfl) (by kernel_rfl) (by kernel_rfl) (by kernel_rfl) (fun _ _ _ h => h) (Or.inr ⟨by rfl, rfl⟩) ⟨z0, b0, b1, b2, b3⟩ ?_
    simp only [List.getElem_toArray, List.getElem_cons_zero, List.getElem_cons_succ, Act.put, List.setIfInBounds_toArray, List.set_cons_zero, List.set_cons_succ]
    refine takeU (i := 16) (v := undef) rfl (by rfl) (by kernel_rfl) (by kernel_rfl) (by kernel_rfl) (by kernel_rfl) (by kernel_rfl) (fun _ _ _ h => h) (Or.inr ⟨by rfl, rfl⟩) ⟨z0, b0, b1, b2, b3⟩ ?_
    simp only [List.getElem_toArray, List.getElem_cons_zero, List.getElem_cons_succ, Act.put, List.setIfInBounds_toArray, List.set_cons_zero, List.set_cons_succ]
    refine takeU (i := 17) (v := undef) rfl (by rfl) (by kernel_rfl) (by kernel_rfl) (by kernel_rfl) (by kernel_rfl) (by kernel_rfl) (fun _ _ _ h => h) (Or.inr ⟨by rfl, rfl⟩) ⟨z0, b0, b1, b2, b3⟩ ?_
    simp only [List.getElem_toArray, List.getElem_cons_zero, List.getElem_cons_succ, Act.put, List.setIfInBounds_toArray, List.set_cons_zero, List.set_cons_succ]
    refine takeU (i := 18) (v := undef) rfl (by rfl) (by kernel_rfl) (by kernel_rfl) (by kernel_rfl) (by kernel_rfl) (by kernel_rfl) (fun _ _ _ h => h) (Or.inr ⟨by rfl, rfl⟩) ⟨z0, b0, b1, b2, b3⟩ ?_
    simp only [List.getElem_toArray, List.getElem_cons_zero, List.getElem_cons_succ, Act.put, List.setIfInBounds_toArray, List.set_cons_zero, List.set_cons_succ]
    refine takeU (i := 19) (v := undef) rfl (by rfl) (by kernel_rfl) (by kernel_rfl) (by kernel_rfl) (by kernel_rfl) (by kernel_rfl) (fun _ _ _ h => h) (Or.inr ⟨by rfl, rfl⟩) ⟨z0, b0, b1, b2, b3⟩ ?_
    simp only [List.getElem_toArray, List.getElem_cons_zero, List.getElem_cons_succ, Act.put, List.setIfInBounds_toArray, List.set_cons_zero, List.set_cons_succ]
    refine takeU (i := 20) (v := undef) rfl (by rfl) (by kernel_rfl) (by kernel_rfl) (by kernel_rfl) (by kernel_rfl) (by kernel_rfl) (fun _ _ _ h => h) (Or.inr ⟨by rfl, rfl⟩) ⟨z0, b0, b1, b2, b3⟩ ?_
    simp only [List.getElem_toArray, List.getElem_cons_zero, List.getElem_cons_succ, Act.put, List.setIfInBounds_toArray, List.set_cons_zero, List.set_cons_succ]
    refine takeU (i := 21) (v := undef) rfl (by rfl) (by kernel_rfl) (by kernel_rfl) (by kernel_rfl) (by kernel_rfl) (by kernel_rfl) (fun _ _ _ h => h) (Or.inr ⟨by rfl, rfl⟩) ⟨z0, b0, b1, b2, b3⟩ ?_
    simp only [List.getElem_toArray, List.getElem_cons_zero, List.getElem_cons_succ, Act.put, List.setIfInBounds_toArray, List.set_cons_zero, List.set_cons_succ]
    refine oneU (i := 22) (by kernel_rfl) rfl (by rfl) ?_
    simp only [List.getElem_toArray, List.getElem_cons_zero, List.getElem_cons_succ]
    go_simp
    refine doneU (by kernel_rfl) ?_ _
    go_wp2_with fail
    exact bodyPost_ret (v := .tuple #[.nilIface, .bool false]) (by simp [results, Tryd.results22, go_sem]) rfl (grow_fail (by first | exact hn0 | rfl) (below_grown (belNext HB1.out (below_drewN (Below.refl _ _) 1))))
  have hri : ((room : Int) == 0) = false := by simp; omega
  refine takeU (i := 4) (v := .bool false) rfl (by rfl) (by kernel_rfl) (by kernel_rfl) (by kernel_rfl) (by kernel_rfl) (by kernel_rfl) (fun _ _ _ h => h) (Or.inl ⟨by rfl, fun w hS => by obtain ⟨z0, b0, b1, b2, b3⟩ := hS; go_simp⟩) ⟨z0, b0, b1, b2, b3⟩ ?_
  simp only [List.getElem_toArray, List.getElem_cons_zero, List.getElem_cons_succ, Act.put, List.setIfInBounds_toArray, List.set_cons_zero, List.set_cons_succ]
  refine takeU (i := 5) (v := .bool false) rfl (by rfl) (by kernel_rfl) (by kernel_rfl) (by kernel_rfl) (by kernel_rfl) (by kernel_rfl) (fun _ _ _ h => h) (Or.inl ⟨by rfl, fun w hS => by obtain ⟨z0, b0, b1, b2, b3⟩ := hS; go_simp⟩) ⟨z0, b0, b1, b2, b3⟩ ?_
  simp only [List.getElem_toArray, List.getElem_cons_zero, List.getElem_cons_succ, Act.put, List.setIfInBounds_toArray, List.set_cons_zero, List.set_cons_succ]
  refine takeU (i := 6) (v := .int .i64 (deep : Int)) rfl (by rfl) (by kernel_rfl) (by kernel_rfl) (by kernel_rfl) (by kernel_rfl) (by kernel_rfl) (fun _ _ _ h => h) (Or.inl ⟨by rfl, fun w hS => by obtain ⟨z0, b0, b1, b2, b3⟩ := hS; go_simp⟩) ⟨z0, b0, b1, b2, b3⟩ ?_
  simp only [List.getElem_toArray, List.getElem_cons_zero, List.getElem_cons_succ, Act.put, List.setIfInBounds_toArray, List.set_cons_zero, List.set_cons_succ]
  by_cases h2 : 12 < deep
  · have hn0 : res = none := by rw [HGT.out, if_pos (.inr (.inl h2))]
    have hdi : decide ((12 : Int) < (deep : Int)) = true := by simp; omega
    refine takeU (i := 7) (v := .bool true) rfl (by rfl) (by kernel_rfl) (by kernel_rfl) (by kernel_rfl) (by kernel_rfl) (by kernel_rfl) (fun _ _ _ h => h) (Or.inl ⟨by rfl, fun w hS => by obtain ⟨z0, b0, b1, b2, b3⟩ := hS; go_simp⟩) ⟨z0, b0, b1, b2, b3⟩ ?_
    simp only [List.getElem_toArray, List.getElem_cons_zero, List.getElem_cons_succ, Act.put, List.setIfInBounds_toArray, List.set_cons_zero, List.set_cons_succ]
    refine takeU (i := 8) (v := .bool true) rfl (by rfl) (by kernel_rfl) (by kernel_rfl) (by kernel_rfl) (by kernel_rfl) (by kernel_rfl) (fun _ _ _ h => h) (Or.inl ⟨by rfl, fun w hS => by obtain ⟨z0, b0, b1, b2, b3⟩ := hS; go_simp⟩) ⟨z0, b0, b1, b2, b3⟩ ?_
    simp only [List.getElem_toArray, List.getElem_cons_zero, List.getElem_cons_succ, Act.put, List.setIfInBounds_toArray, List.set_cons_zero, List.set_cons_succ]
    refine takeU (i := 9) (v := .bool true) rfl (by rfl) (by kernel_rfl) (by kernel_rfl) (by kernel_rfl) (by kernel_rfl) (by kernel_rfl) (fun _ _ _ h => h) (Or.inl ⟨by rfl, fun w hS => by obtain ⟨z0, b0, b1, b2, b3⟩ := hS; go_simp⟩) ⟨z0, b0, b1, b2, b3⟩ ?_
    simp only [List.getElem_toArray, List.getElem_cons_zero, List.getElem_cons_succ, Act.put, List.setIfInBounds_toArray, List.set_cons_zero, List.set_cons_succ]
    refine takeU (i := 10) (v := undef) rfl (by rfl) (by kernel_rfl) (by kernel_rfl) (by kernel_rfl) (by kernel_rfl) (by kernel_rfl) (fun _ _ _ h => h) (Or.inr ⟨by rfl, rfl⟩) ⟨z0, b0, b1, b2, b3⟩ ?_
    simp only [List.getElem_toArray, List.getElem_cons_zero, List.getElem_cons_succ, Act.put, List.setIfInBounds_toArray, List.set_cons_zero, List.set_cons_succ]
    refine takeU (i := 11) (v := undef) rfl (by rfl) (by kernel_rfl) (by kernel_rfl) (by kernel_rfl) (by kernel_rfl) (by kernel_rfl) (fun _ _ _ h => h) (Or.inr ⟨by rfl, rfl⟩) ⟨z0, b0, b1, b2, b3⟩ ?_
    simp only [List.getElem_toArray, List.getElem_cons_zero, List.getElem_cons_succ, Act.put, List.setIfInBounds_toArray, List.set_cons_zero, List.set_cons_succ]
    refine takeU (i := 12) (v := undef) rfl (by rfl) (by kernel_rfl) (by kernel_rfl) (by kernel_rfl) (by kernel_rfl) (by kernel_rfl) (fun _ _ _ h => h) (Or.inr ⟨by rfl, rfl⟩) ⟨z0, b0, b1, b2, b3⟩ ?_
    simp only [List.getElem_toArray, List.getElem_cons_zero, List.getElem_cons_succ, Act.put, List.setIfInBounds_toArray, List.set_cons_zero, List.set_cons_succ]
    refine takeU (i := 13) (v := .bool true) rfl (by rfl) (by kernel_rfl) (by kernel_rfl) (by kernel_rfl) (by kernel_rfl) (by kernel_rfl) (fun _ _ _ h => h) (Or.inl ⟨by rfl, fun w hS => by obtain ⟨z0, b0, b1, b2, b3⟩ := hS; go_simp⟩) ⟨z0, b0, b1, b2, b3⟩ ?_
    simp only [List.getElem_toArray, List.getElem_cons_zero, List.getElem_cons_succ, Act.put, List.setIfInBounds_toArray, List.set_cons_zero, List.set_cons_succ]
    refine takeU (i := 14) (v := .bool true) rfl (by rfl) (by kernel_rfl) (by kernel_rfl) (by kernel_rfl) (by kernel_rfl) (by kernel_rfl) (fun _ _ _ h => h) (Or.inl ⟨by rfl, fun w hS => by obtain ⟨z0, b0, b1, b2, b3⟩ := hS; go_simp⟩) ⟨z0, b0, b1, b2, b3⟩ ?_
    simp only [List.getElem_toArray, List.getElem_cons_zero, List.getElem_cons_succ, Act.put, List.setIfInBounds_toArray, List.set_cons_zero, List.set_cons_succ]
    refine takeU (i := 15) (v := undef) rfl (by rfl) (by kernel_rfl) (by kernel_rfl) (by kernel_rfl) (by kernel_rfl) (by kernel_rfl) (fun _ _ _ h => h) (Or.inr ⟨by rfl, rfl⟩) ⟨z0, b0, b1, b2, b3⟩ ?_
    simp only [List.getElem_toArray, List.getElem_cons_zero, List.getElem_cons_succ, Act.put, List.setIfInBounds_toArray, List.set_cons_zero, List.set_cons_succ]
    refine takeU (i := 16) (v := undef) rfl (by rfl) (by kernel_rfl) (by kernel_rfl) (by kernel_rfl) (by kernel_rfl) (by kernel_rfl) (fun _ _ _ h => h) (Or.inr ⟨by rfl, rfl⟩) ⟨z0, b0, b1, b2, b3⟩ ?_
    simp only [List.getElem_toArray, List.getElem_cons_zero, List.getElem_cons_succ, Act.put, List.setIfInBounds_toArray, List.set_cons_zero, List.set_cons_succ]
    refine takeU (i := 17) (v := undef) rfl (by rfl) (by kernel_rfl) (by kernel_rfl) (by kernel_rfl) (by kernel_rfl) (by kernel_rfl) (fun _ _ _ h => h) (Or.inr ⟨by rfl, rfl⟩) ⟨z0, b0, b1, b2, b3⟩ ?_
    simp only [List.getElem_toArray, List.getElem_cons_zero, List.getElem_cons_succ, Act.put, List.setIfInBounds_toArray, List.set_cons_zero, List.set_cons_succ]
    refine takeU (i := 18) (v := undef) rfl (by rfl) (by kernel_rfl) (by kernel_rfl) (by kernel_rfl) (by kernel_rfl) (by kernel_rfl) (fun _ _ _ h => h) (Or.inr ⟨by rfl, rfl⟩) ⟨z0, b0, b1, b2, b3⟩ ?_
    simp only [List.getElem_toArray, List.getElem_cons_zero, List.getElem_cons_succ, Act.put, List.setIfInBounds_toArray, List.set_cons_zero, List.set_cons_succ]
    refine takeU (i := 19) (v := undef) rfl (by rfl) (by kernel_rfl) (by kernel_rfl) (by kernel_rfl) (by kernel_rfl) (by kernel_rfl) (fun _ _ _ h => h) (Or.inr ⟨by rfl, rfl⟩) ⟨z0, b0, b1, b2, b3⟩ ?_
    simp only [List.getElem_toArray, List.getElem_cons_zero, List.getElem_cons_succ, Act.put, List.setIfInBounds_toArray, List.set_cons_zero, List.set_cons_succ]
    refine takeU (i := 20) (v := undef) rfl (by rfl) (by kernel_rfl) (by kernel_rfl) (by kernel_rfl) (by kernel_rfl) (by kernel_rfl) (fun _ _ _ h => h) (Or.inr ⟨by rfl, rfl⟩) ⟨z0, b0, b1, b2, b3⟩ ?_
    simp only [List.getElem_toArray, List.getElem_cons_zero, List.getElem_cons_succ, Act.put, List.setIfInBounds_toArray, List.set_cons_zero, List.set_cons_succ]
    refine takeU (i := 21) (v := undef) rfl (by rfl) (by kernel_rfl) (by kernel_rfl) (by kernel_rfl) (by kernel_rfl) (by kernel_rfl) (fun _ _ _ h => h) (Or.inr ⟨by rfl, rfl⟩) ⟨z0, b0, b1, b2, b3⟩ ?_
    simp only [List.getElem_toArray, List.getElem_cons_zero, List.getElem_cons_succ, Act.put, List.setIfInBounds_toArray, List.set_cons_zero, List.set_cons_succ]
    refine oneU (i := 22) (by kernel_rfl) rfl (by rfl) ?_
    simp only [List.getElem_toArray, List.getElem_cons_zero, List.getElem_cons_succ]
    go_simp
    refine doneU (by kernel_rfl) ?_ _
    go_wp2_with fail
    exact bodyPost_ret (v := .tuple #[.nilIface, .bool false]) (by simp [results, Tryd.results22, go_sem]) rfl (grow_fail (by first | exact hn0 | rfl) (below_grown (belNext HB1.out (below_drewN (Below.refl _ _) 1))))
  have hdi : decide ((12 : Int) < (deep : Int)) = false := by simp; omega
  refine takeU (i := 7) (v := .bool false) rfl (by rfl) (by kernel_rfl) (by kernel_rfl) (by kernel_rfl) (by kernel_rfl) (by kernel_rfl) (fun _ _ _ h => h) (Or.inl ⟨by rfl, fun w hS => by obtain ⟨z0, b0, b1, b2, b3⟩ := hS; go_simp⟩) ⟨z0, b0, b1, b2, b3⟩ ?_
  simp only [List.getElem_toArray, List.getElem_cons_zero, List.getElem_cons_succ, Act.put, List.setIfInBounds_toArray, List.set_cons_zero, List.set_cons_succ]
  refine takeU (i := 8) (v := .bool false) rfl (by rfl) (by kernel_rfl) (by kernel_rfl) (by kernel_rfl) (by kernel_rfl) (by kernel_rfl) (fun _ _ _ h => h) (Or.inl ⟨by rfl, fun w hS => by obtain ⟨z0, b0, b1, b2, b3⟩ := hS; go_simp⟩) ⟨z0, b0, b1, b2, b3⟩ ?_
  simp only [List.getElem_toArray, List.getElem_cons_zero, List.getElem_cons_succ, Act.put, List.setIfInBounds_toArray, List.set_cons_zero, List.set_cons_succ]
  refine takeU (i := 9) (v := .bool false) rfl (by rfl) (by kernel_rfl) (by kernel_rfl) (by kernel_rfl) (by kernel_rfl) (by kernel_rfl) (fun _ _ _ h => h) (Or.inl ⟨by rfl, fun w hS => by obtain ⟨z0, b0, b1, b2, b3⟩ := hS; go_simp⟩) ⟨z0, b0, b1, b2, b3⟩ ?_
  simp only [List.getElem_toArray, List.getElem_cons_zero, List.getElem_cons_succ, Act.put, List.setIfInBounds_toArray, List.set_cons_zero, List.set_cons_succ]
  refine takeU (i := 10) (v := .agg #[.int .i64 k, .int .i64 n, .string s, .slice ao kn cap]) rfl (by rfl) (by kernel_rfl) (by kernel_rfl) (by kernel_rfl) (by kernel_rfl) (by kernel_rfl) (fun _ _ _ h => h) (Or.inl ⟨by rfl, fun w hS => by obtain ⟨z0, b0, b1, b2, b3⟩ := hS; go_simp⟩) ⟨z0, b0, b1, b2, b3⟩ ?_
  simp only [List.getElem_toArray, List.getElem_cons_zero, List.getElem_cons_succ, Act.put, List.setIfInBounds_toArray, List.set_cons_zero, List.set_cons_succ]
  refine oneU (i := 11) (by kernel_rfl) rfl (by rfl) ?_
  simp only [List.getElem_toArray, List.getElem_cons_zero, List.getElem_cons_succ]
  go_simp
  have hbd := below_drewN (Below.refl W1.heap.size W1) 1
  refine (HTE.out W1.drew).mono ?_
  rintro e w2 ⟨rfl, hb2⟩
  have HB12 := hideN (belNext hbd hb2)
  clear z0 b0 b1 b2 b3
  obtain ⟨z0, b0, b1, b2, b3⟩ := HC.out w2 HB12.out
  refine ⟨⟨z0, b0, b1, b2, b3⟩, ?_⟩
  clear hb2 hbd
  cases te with
  | false =>
    have hn0 : res = none := by rw [HGT.out, if_pos (.inr (.inr (.inl rfl)))]
    refine takeU (i := 12) (v := .bool true) rfl (by rfl) (by kernel_rfl) (by kernel_rfl) (by kernel_rfl) (by kernel_rfl) (by kernel_rfl) (fun _ _ _ h => h) (Or.inl ⟨by rfl, fun w hS => by obtain ⟨z0, b0, b1, b2, b3⟩ := hS; go_simp⟩) ⟨z0, b0, b1, b2, b3⟩ ?_
    simp only [List.getElem_toArray, List.getElem_cons_zero, List.getElem_cons_succ, Act.put, List.setIfInBounds_toArray, List.set_cons_zero, List.set_cons_succ]
    refine takeU (i := 13) (v := .bool true) rfl (by rfl) (by kernel_rfl) (by kernel_rfl) (by kernel_rfl) (by kernel_rfl) (by kernel_rfl) (fun _ _ _ h => h) (Or.inl ⟨by rfl, fun w hS => by obtain ⟨z0, b0, b1, b2, b3⟩ := hS; go_simp⟩) ⟨z0, b0, b1, b2, b3⟩ ?_
    simp only [List.getElem_toArray, List.getElem_cons_zero, List.getElem_cons_succ, Act.put, List.setIfInBounds_toArray, List.set_cons_zero, List.set_cons_succ]
    refine takeU (i := 14) (v := .bool true) rfl (by rfl) (by kernel_rfl) (by kernel_rfl) (by kernel_rfl) (by kernel_rfl) (by kernel_rfl) (fun _ _ _ h => h) (Or.inl ⟨by rfl, fun w hS => by obtain ⟨z0, b0, b1, b2, b3⟩ := hS; go_simp⟩) ⟨z0, b0, b1, b2, b3⟩ ?_
    simp only [List.getElem_toArray, List.getElem_cons_zero, List.getElem_cons_succ, Act.put, List.setIfInBounds_toArray, List.set_cons_zero, List.set_cons_succ]
    refine takeU (i := 15) (v := undef) rfl (by rfl) (by kernel_rfl) (by kernel_rfl) (by kernel_rfl) (by kernel_rfl) (by kernel_rfl) (fun _ _ _ h => h) (Or.inr ⟨by rfl, rfl⟩) ⟨z0, b0, b1, b2, b3⟩ ?_
    simp only [List.getElem_toArray, List.getElem_cons_zero, List.getElem_cons_succ, Act.put, List.setIfInBounds_toArray, List.set_cons_zero, List.set_cons_succ]
    refine takeU (i := 16) (v := undef) rfl (by rfl) (by kernel_rfl) (by kernel_rfl) (by kernel_rfl) (by kernel_rfl) (by kernel_rfl) (fun _ _ _ h => h) (Or.inr ⟨by rfl, rfl⟩) ⟨z0, b0, b1, b2, b3⟩ ?_
    simp only [List.getElem_toArray, List.getElem_cons_zero, List.getElem_cons_succ, Act.put, List.setIfInBounds_toArray, List.set_cons_zero, List.set_cons_succ]
    refine takeU (i := 17) (v := undef) rfl (by rfl) (by kernel_rfl) (by kernel_rfl) (by kernel_rfl) (by kernel_rfl) (by kernel_rfl) (fun _ _ _ h => h) (Or.inr ⟨by rfl, rfl⟩) ⟨z0, b0, b1, b2, b3⟩ ?_
    simp only [List.getElem_toArray, List.getElem_cons_zero, List.getElem_cons_succ, Act.put, List.setIfInBounds_toArray, List.set_cons_zero, List.set_cons_succ]
    refine takeU (i := 18) (v := undef) rfl (by rfl) (by kernel_rfl) (by kernel_rfl) (by kernel_rfl) (by kernel_rfl) (by kernel_rfl) (fun _ _ _ h => h) (Or.inr ⟨by rfl, rfl⟩) ⟨z0, b0, b1, b2, b3⟩ ?_
    simp only [List.getElem_toArray, List.getElem_cons_zero, List.getElem_cons_succ, Act.put, List.setIfInBounds_toArray, List.set_cons_zero, List.set_cons_succ]
    refine takeU (i := 19) (v := undef) rfl (by rfl) (by kernel_rfl) (by kernel_rfl) (by kernel_rfl) (by kernel_rfl) (by kernel_rfl) (fun _ _ _ h => h) (Or.inr ⟨by rfl, rfl⟩) ⟨z0, b0, b1, b2, b3⟩ ?_
    simp only [List.getElem_toArray, List.getElem_cons_zero, List.getElem_cons_succ, Act.put, List.setIfInBounds_toArray, List.set_cons_zero, List.set_cons_succ]
    refine takeU (i := 20) (v := undef) rfl (by rfl) (by kernel_rfl) (by kernel_rfl) (by kernel_rfl) (by kernel_rfl) (by kernel_rfl) (fun _ _ _ h => h) (Or.inr ⟨by rfl, rfl⟩) ⟨z0, b0, b1, b2, b3⟩ ?_
    simp only [List.getElem_toArray, List.getElem_cons_zero, List.getElem_cons_succ, Act.put, List.setIfInBounds_toArray, List.set_cons_zero, List.set_cons_succ]
    refine takeU (i := 21) (v := undef) rfl (by rfl) (by kernel_rfl) (by kernel_rfl) (by kernel_rfl) (by kernel_rfl) (by kernel_rfl) (fun _ _ _ h => h) (Or.inr ⟨by rfl, rfl⟩) ⟨z0, b0, b1, b2, b3⟩ ?_
    simp only [List.getElem_toArray, List.getElem_cons_zero, List.getElem_cons_succ, Act.put, List.setIfInBounds_toArray, List.set_cons_zero, List.set_cons_succ]
    refine oneU (i := 22) (by kernel_rfl) rfl (by rfl) ?_
    simp only [List.getElem_toArray, List.getElem_cons_zero, List.getElem_cons_succ]
    go_simp
    refine doneU (by kernel_rfl) ?_ _
    go_wp2_with fail
    exact bodyPost_ret (v := .tuple #[.nilIface, .bool false]) (by simp [results, Tryd.results22, go_sem]) rfl (grow_fail (by first | exact hn0 | rfl) (below_grown (belNext HB1.out HB12.out)))
  | true =>
  refine takeU (i := 12) (v := .bool false) rfl (by rfl) (by kernel_rfl) (by kernel_rfl) (by kernel_rfl) (by kernel_rfl) (by kernel_rfl) (fun _ _ _ h => h) (Or.inl ⟨by rfl, fun w hS => by obtain ⟨z0, b0, b1, b2, b3⟩ := hS; go_simp⟩) ⟨z0, b0, b1, b2, b3⟩ ?_
  simp only [List.getElem_toArray, List.getElem_cons_zero, List.getElem_cons_succ, Act.put, List.setIfInBounds_toArray, List.set_cons_zero, List.set_cons_succ]
  refine takeU (i := 13) (v := .bool false) rfl (by rfl) (by kernel_rfl) (by kernel_rfl) (by kernel_rfl) (by kernel_rfl) (by kernel_rfl) (fun _ _ _ h => h) (Or.inl ⟨by rfl, fun w hS => by obtain ⟨z0, b0, b1, b2, b3⟩ := hS; go_simp⟩) ⟨z0, b0, b1, b2, b3⟩ ?_
  simp only [List.getElem_toArray, List.getElem_cons_zero, List.getElem_cons_succ, Act.put, List.setIfInBounds_toArray, List.set_cons_zero, List.set_cons_succ]
  refine takeU (i := 14) (v := .bool false) rfl (by rfl) (by kernel_rfl) (by kernel_rfl) (by kernel_rfl) (by kernel_rfl) (by kernel_rfl) (fun _ _ _ h => h) (Or.inl ⟨by rfl, fun w hS => by obtain ⟨z0, b0, b1, b2, b3⟩ := hS; go_simp⟩) ⟨z0, b0, b1, b2, b3⟩ ?_
  simp only [List.getElem_toArray, List.getElem_cons_zero, List.getElem_cons_succ, Act.put, List.setIfInBounds_toArray, List.set_cons_zero, List.set_cons_succ]
  refine takeU (i := 15) (v := .pointer (some ⟨B, 3, none⟩)) rfl (by rfl) (by kernel_rfl) (by kernel_rfl) (by kernel_rfl) (by kernel_rfl) (by kernel_rfl) (fun _ _ _ h => h) (Or.inl ⟨by rfl, fun w hS => by obtain ⟨z0, b0, b1, b2, b3⟩ := hS; go_simp⟩) ⟨z0, b0, b1, b2, b3⟩ ?_
  simp only [List.getElem_toArray, List.getElem_cons_zero, List.getElem_cons_succ, Act.put, List.setIfInBounds_toArray, List.set_cons_zero, List.set_cons_succ]
  refine takeU (i := 16) (v := .slice ao kn cap) rfl (by rfl) (by kernel_rfl) (by kernel_rfl) (by kernel_rfl) (by kernel_rfl) (by kernel_rfl) (fun _ _ _ h => h) (Or.inl ⟨by rfl, fun w hS => by obtain ⟨z0, b0, b1, b2, b3⟩ := hS; go_simp⟩) ⟨z0, b0, b1, b2, b3⟩ ?_
  simp only [List.getElem_toArray, List.getElem_cons_zero, List.getElem_cons_succ, Act.put, List.setIfInBounds_toArray, List.set_cons_zero, List.set_cons_succ]
  refine takeU (i := 17) (v := .int .i64 (kn : Int)) rfl (by rfl) (by kernel_rfl) (by kernel_rfl) (by kernel_rfl) (by kernel_rfl) (by kernel_rfl) (fun _ _ _ h => h) (Or.inl ⟨by rfl, fun w hS => by obtain ⟨z0, b0, b1, b2, b3⟩ := hS; go_simp⟩) ⟨z0, b0, b1, b2, b3⟩ ?_
  simp only [List.getElem_toArray, List.getElem_cons_zero, List.getElem_cons_succ, Act.put, List.setIfInBounds_toArray, List.set_cons_zero, List.set_cons_succ]
  refine takeU (i := 18) (v := .pointer (some ⟨B, 0, none⟩)) rfl (by rfl) (by kernel_rfl) (by kernel_rfl) (by kernel_rfl) (by kernel_rfl) (by kernel_rfl) (fun _ _ _ h => h) (Or.inl ⟨by rfl, fun w hS => by obtain ⟨z0, b0, b1, b2, b3⟩ := hS; go_simp⟩) ⟨z0, b0, b1, b2, b3⟩ ?_
  simp only [List.getElem_toArray, List.getElem_cons_zero, List.getElem_cons_succ, Act.put, List.setIfInBounds_toArray, List.set_cons_zero, List.set_cons_succ]
  refine takeU (i := 19) (v := .int .i64 k) rfl (by rfl) (by kernel_rfl) (by kernel_rfl) (by kernel_rfl) (by kernel_rfl) (by kernel_rfl) (fun _ _ _ h => h) (Or.inl ⟨by rfl, fun w hS => by obtain ⟨z0, b0, b1, b2, b3⟩ := hS; go_simp⟩) ⟨z0, b0, b1, b2, b3⟩ ?_
  simp only [List.getElem_toArray, List.getElem_cons_zero, List.getElem_cons_succ, Act.put, List.setIfInBounds_toArray, List.set_cons_zero, List.set_cons_succ]
  refine oneU (i := 20) (by kernel_rfl) rfl (by rfl) ?_
  simp only [List.getElem_toArray, List.getElem_cons_zero, List.getElem_cons_succ]
  go_simp
  refine (HKI.out w2).mono ?_
  rintro e w3 ⟨rfl, hw3⟩
  obtain rfl := hw3
  refine ⟨⟨z0, b0, b1, b2, b3⟩, ?_⟩
  by_cases h4 : kn = kidsN k
  case neg =>
    have hn0 : res = none := by rw [HGT.out, if_pos (.inr (.inr (.inr h4)))]
    obtain ⟨kd, hkd⟩ : ∃ kd, kidsN k = kd := ⟨_, rfl⟩
    rw [hkd] at h4
    rw [hkd]
    have hki : ((kn : Int) == (kd : Int)) = false := by simp; omega
    have hki2 : ((kn : Int) != (kd : Int)) = true := by simp; omega
    refine takeU (i := 21) (v := .bool true) rfl (by rfl) (by kernel_rfl) (by kernel_rfl) (by kernel_rfl) (by kernel_rfl) (by kernel_rfl) (fun _ _ _ h => h) (Or.inl ⟨by rfl, fun w hS => by obtain ⟨z0, b0, b1, b2, b3⟩ := hS; go_simp⟩) ⟨z0, b0, b1, b2, b3⟩ ?_
    simp only [List.getElem_toArray, List.getElem_cons_zero, List.getElem_cons_succ, Act.put, List.setIfInBounds_toArray, List.set_cons_zero, List.set_cons_succ]
    refine oneU (i := 22) (by kernel_rfl) rfl (by rfl) ?_
    simp only [List.getElem_toArray, List.getElem_cons_zero, List.getElem_cons_succ]
    go_simp
    refine doneU (by kernel_rfl) ?_ _
    go_wp2_with fail
    exact bodyPost_ret (v := .tuple #[.nilIface, .bool false]) (by simp [results, Tryd.results22, go_sem]) rfl (grow_fail (by first | exact hn0 | rfl) (below_grown (belNext HB1.out HB12.out)))
  have HRES : Hid (res = match growL ks (room - 1) (deep + 1) with | none => none | some r => if joinB k n s.toList = true then some r else none) := by
    show _ = _
    rw [HGT.out, if_neg (by
      rintro (h | h | h | h)
      · exact h1 h
      · exact h2 h
      · cases h
      · exact h h4)]
  rw [← h4]
  have H4 := hideN h4
  clear h4
  refine takeU (i := 21) (v := .bool false) rfl (by rfl) (by kernel_rfl) (by kernel_rfl) (by kernel_rfl) (by kernel_rfl) (by kernel_rfl) (fun _ _ _ h => h) (Or.inl ⟨by rfl, fun w hS => by obtain ⟨z0, b0, b1, b2, b3⟩ := hS; go_simp⟩) ⟨z0, b0, b1, b2, b3⟩ ?_
  simp only [List.getElem_toArray, List.getElem_cons_zero, List.getElem_cons_succ, Act.put, List.setIfInBounds_toArray, List.set_cons_zero, List.set_cons_succ]
  refine oneU (i := 22) (by kernel_rfl) rfl (by rfl) ?_
  simp only [List.getElem_toArray, List.getElem_cons_zero, List.getElem_cons_succ]
  go_simp
  refine doneU (by kernel_rfl) ?_ _
  have HG3 := hideN (HG1.out.below HB12.out)
  have zf := HG3.out.f 0
  have hne1 : B ≠ R := by omega
  have hne2 : R ≠ B := by omega
  obtain ⟨rm, hrm⟩ : ∃ rm : Nat, (room : Int) - 1 = (rm : Int) := ⟨room - 1, by omega⟩
  have hrm1 : room - 1 = rm := by omega
  rw [hrm1] at HRES
  have hwr : IntKind.i64.wrap ((room : Int) - 1) = (rm : Int) := by rw [IntKind.wrap_i64]; omega
  have hrm60 : rm ≤ 60 := by omega
  obtain ⟨W3, hW3⟩ : ∃ W3, W3 = w3.setCell ⟨R, 0, none⟩ (.int .i64 (rm : Int)) := ⟨_, rfl⟩
  have HG4 : Hid (BlkG W3 R (rm : Int)) := by rw [hW3]; exact HG3.out.set _
  have HFR : Hid (w.grownBy W3 (some R)) := by
    rw [hW3]
    exact grown_trans (below_grown (belNext HB1.out HB12.out)) ⟨rfl, rfl, rfl, by simp [World.setCell], fun q hq hne => blk_setCell_other _ _ _ _ (by show q ≠ R; intro e; exact hne (by rw [e]))⟩
  have HB03 : Hid (Below W0.heap.size W0 W3) := by
    rw [hW3]
    exact (HB01.out.trans (HB12.out.mono HB01.out.size)).setCell (p := ⟨R, 0, none⟩) hR _
  have HK3 : Hid (BlkE W3 B (.int .i64 k) (.int .i64 n) (.string s) (.slice ao kn cap) 29) := by rw [hW3]; exact (HK.out.below HB12.out).other (a := ⟨R, 0, none⟩) hne1 _
  have HW3 := hideN hW3
  clear hW3 hrm1
  go_wp2_with fail
  try rw [← HW3.out]
  obtain ⟨i0, hi, hz0, hz1, hz2⟩ := info_parts info_term
  have hdw : IntKind.i64.wrap ((deep : Int) + 1) = ((deep + 1 : Nat) : Int) := by rw [IntKind.wrap_i64]; omega
  have hWl : R < W3.heap.size := HG4.out.lt
  have hWB : B < W3.heap.size := HK3.out.lt
  have hd13 : deep + 1 ≤ 13 := by omega
  clear z0 b0 b1 b2 b3 zf hri hdi
  go_loopw [8, 46] (fun p i wr => ∃ (j rj pc : Nat) (pa : Option Addr) (vals : List Value), j ≤ kn ∧ rj ≤ 60 ∧ i = .int .i64 (j : Int) ∧ p = .slice pa j pc ∧ Hid (growL (ks.take j) rm (deep + 1) = some rj) ∧ Hid (wr.ownsRow W3.heap.size 37 1 (.slice pa j pc) j vals) ∧ Hid (vals = termVs (ks.take j) ∧ ∀ v ∈ vals, ∃ t x, v = .iface t x) ∧ Hid (BlkG wr R (rj : Int)) ∧ Hid (W3.grownBy wr (some R))) (fun _ i _ => kn - (intOf i).toNat)
  case atStart => exact ⟨0, rm, 0, none, [], Nat.zero_le _, hrm60, rfl, rfl, by show _ = _; rw [List.take_zero, growL], ⟨rfl, .inl ⟨rfl, rfl⟩⟩, ⟨by rw [List.take_zero, termVs], fun v hv => by simp at hv⟩, HG4.out, below_grown (Below.refl _ _)⟩
  case round =>
    obtain ⟨j, rj, pc, pa, vals, hj, hrj, rfl, rfl, hgl, hrow, hif, hgr, hfr⟩ := hrel
    by_cases hlt : j < kn
    · have hb0 : Below W0.heap.size W0 wr := HB03.out.grown hfr.out HB03.out.size (fun q e => by have := Option.some.inj e; omega)
      obtain ⟨b, off, hao, hlo, hcs⟩ := HL.out (by have := HKN.out; omega)
      subst hao
      obtain ⟨v, hcell, he⟩ := hcs j (by have := HKN.out; omega)
      obtain ⟨v0, v1, v2, v3, hv, c0, c1, c2, c3⟩ := hcell.same (hb0.block b hcell.lt)
      obtain ⟨k', n', s', ao', m', cap', hv2⟩ := he.agg
      rw [hv] at hv2
      simp at hv2
      obtain ⟨rfl, rfl, rfl, rfl⟩ := hv2
      subst hv
      obtain ⟨W4, hW4⟩ : ∃ W4, W4 = wr.alloc (.cells #[.int .i64 k', .int .i64 n', .string s', .slice ao' m' cap'] 29) := ⟨_, rfl⟩
      have hb4 : Below wr.heap.size wr W4 := by rw [hW4]; exact belOne _ _
      have HCL := hideN (HIH.out j hlt rj (deep + 1) _ W4 hrj (by omega) hd13 he (hb0.trans (hb4.mono hb0.size)) (hgr.out.below hb4))
      have HB4 := hideN hb4
      have HW4 := hideN hW4
      have hts := HTS.out j rm (deep + 1) hlt
      rw [hgl.out] at hts
      have hts2 : growL (ks.take (j + 1)) rm (deep + 1) = growT (ks.getD j e0) rj (deep + 1) := hts
      obtain ⟨g, hg⟩ : ∃ g, growT (ks.getD j e0) rj (deep + 1) = g := ⟨_, rfl⟩
      rw [hg] at HCL hts2
      have HTS2 := hideN hts2
      have HGL := hideN (fun r (h : g = some r) => growT_le (hg.trans h))
      have HGI := hideN (fun r (h : g = some r) => HTVI.out j rj (deep + 1) r (hg.trans h))
      have HTJ := hideN (HTVS.out j hlt)
      obtain ⟨TJ, hTJ⟩ : ∃ TJ, termV (ks.getD j e0) = TJ := ⟨_, rfl⟩
      rw [hTJ] at HCL HGI HTJ
      clear hTJ
      clear hcs hcell he hts hts2 hg hb0 hb4 hW4
      go_wp2_with fail
      try rw [← HW4.out]
      refine HCL.out.mono ?_
      rintro e w5 ⟨tv, rfl, hti, hg5, hgrow⟩
      have HFR5 := hideN (grown_trans hfr.out (grown_trans (below_grown HB4.out) hgrow))
      have HRW5 : Hid (w5.ownsRow W3.heap.size 37 1 (.slice pa j pc) j vals) := row_of_block (row_of_block hrow.out (fun q e => HB4.out.block q (World.ownsRow.lt hrow.out q e).2)) (fun q e => hgrow.block q (by have := (World.ownsRow.lt hrow.out q e).2; have := HB4.out.size; omega) (fun e2 => by have := Option.some.inj e2; have := (World.ownsRow.lt hrow.out q e).1; omega))
      have hs5 : W3.heap.size ≤ w5.heap.size := HFR5.out.size
      clear hgrow c0 c1 c2 c3
      cases g with
      | none =>
        have hn0 : res = none := by rw [HRES.out, HTN.out (j + 1) rm (deep + 1) HTS2.out]
        go_wp2_with fail
        exact bodyPost_ret (v := .tuple #[.nilIface, .bool false]) (by simp [results, Tryd.results22, go_sem]) rfl (grow_fail (by first | exact hn0 | rfl) (grown_trans HFR.out HFR5.out))
      | some r2 =>
        obtain ⟨tt, tx, hTT⟩ := HGI.out r2 rfl
        obtain rfl := hti rfl
        subst hTT
        have HG5 := hideN (hg5 r2 rfl)
        have hr2 : r2 ≤ 60 := Nat.le_trans (HGL.out r2 rfl) hrj
        clear hti hg5
        go_wp2_with (at_builtin; refine wpList_append_lies _ rfl _ _ 69 rfl W3.heap.size 37 i0 .nilIface 1 16 Tryd.underlying69 hi hz0 hz1 hz2 rfl (by decide) _ j vals rfl (World.ownsRow.alloc HRW5.out _) ⟨w5.heap.size, 0, none⟩ 1 1 [.iface tt tx] rfl rfl (news1T _ _ _) (term_one _ _) (by decide) (by unfold maxLen; omega) (by omega) (by simp; omega) _ rfl ?_; intro g2 gcap w6 hown6 hgrow6 hat6 hlt6)
        have HRW6 : Hid (w6.ownsRow W3.heap.size 37 1 (.slice (some ⟨g2, 0, none⟩) (j + 1) gcap) (j + 1) (vals ++ [.iface tt tx])) := hown6
        have hlow : ∀ q, q < W3.heap.size → ¬ (some q = (Value.slice pa j pc).ownBlock) := fun q hq e => by have := (World.ownsRow.lt HRW5.out q e.symm).1; omega
        have HG6 : Hid (BlkG w6 R (r2 : Int)) := (hgrow6.block R (by simp; have := HG5.out.lt; omega) (hlow R hWl)).trans (HG5.out.below (belOne _ _))
        have HFR6 : Hid (W3.grownBy w6 (some R)) := ⟨hgrow6.os.trans HFR5.out.os, hgrow6.tape.trans HFR5.out.tape, hgrow6.output.trans HFR5.out.output, Nat.le_trans (Nat.le_trans hs5 (by simp)) hgrow6.size, fun q hq hne => (hgrow6.block q (by simp; omega) (hlow q hq)).trans (((belOne w5 _).block q (by omega)).trans (HFR5.out.block q hq hne))⟩
        have HIF6 : Hid (vals ++ [.iface tt tx] = termVs (ks.take (j + 1)) ∧ ∀ v ∈ vals ++ [.iface tt tx], ∃ t x, v = .iface t x) := ⟨by rw [HTJ.out, hif.out.1], fun v hv => by
          rcases List.mem_append.1 hv with h | h
          · exact hif.out.2 v h
          · rw [List.mem_singleton.1 h]; exact ⟨_, _, rfl⟩⟩
        clear hown6 hgrow6 hat6 hlt6 hlow
        go_wp2
        go_roundw
        case rel => exact ⟨j + 1, r2, gcap, some ⟨g2, 0, none⟩, _, by omega, hr2, by go_num, rfl, HTS2, HRW6, HIF6, HG6, HFR6⟩
        case measure => simp [intOf]; omega
    · obtain rfl : j = kn := by omega
      have hres2 : res = if joinB k n s.toList = true then some rj else none := by rw [HRES.out, ← HTF.out, hgl.out]
      have hterms : IsTerms wr pa vals := terms_of_row hrow.out hif.out.2
      have hle : j ≤ pc := row_cap hrow.out
      have HJ := hideN (HJN.out pa j pc wr vals (by have := hrow.out.1; omega) H4.out hterms hle)
      have HVT : Hid (VT = termOne k n s vals) := by show _ = _; rw [HTV0.out, hif.out.1]
      rw [← HVT.out] at HJ
      have HKr : Hid (BlkE wr B (.int .i64 k) (.int .i64 n) (.string s) (.slice ao j cap) 29) := (hfr.out.block B hWB (fun e => hne1 (Option.some.inj e))).trans HK3.out
      have k0 := HKr.out.c0
      have k1 := HKr.out.c1
      have k2 := HKr.out.c2
      have k3 := HKr.out.c3
      obtain ⟨jb, hjb⟩ : ∃ jb, joinB k n s.toList = jb := ⟨_, rfl⟩
      rw [hjb] at HJ hres2
      have HRES2 := hideN hres2
      clear hjb hres2
      go_wp2_with fail
      refine HJ.out.mono ?_
      rintro e w7 ⟨jv, rfl, hji, hb7⟩
      have HG7 := hideN (hgr.out.below hb7)
      have HFR7 := hideN (grown_trans HFR.out (grown_trans hfr.out (below_grown hb7)))
      clear hb7 k0 k1 k2 k3
      go_wp2_with fail
      exact bodyPost_ret (v := .tuple #[jv, .bool jb]) (by simp [results, Tryd.results22, go_sem]) rfl (grow_done HRES2.out hji HG7.out HFR7.out)

end Go.Proofs.YthbjihamhfahcaaDoor

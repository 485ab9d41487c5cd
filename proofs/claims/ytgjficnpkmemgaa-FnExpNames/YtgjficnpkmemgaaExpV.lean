/-
  Expressions drawn: a name, two with a sign between; what stands while one is drawn.
-/
import Derived.Test.YtgjficnpkmemgaaExpG
import Derived.Test.YtgjficnpkmemgaaNmS
import Derived.Test.YtgjficnpkmemgaaRdrA
namespace Go.Proofs.Ytgjficnpkmemgaa
open Go.RowKit Go.Deep
set_option linter.unusedVariables false

attribute [local go_sem] Oper.semAt_some

theorem Rd.below {w w' : World} {R : Nat} {v : Value} {bs : List Int} {p : Nat} (h : Rd w R v bs p) (hb : Below w.heap.size w w') : Rd w' R v bs p := h.grown (row := none) ⟨hb.os, hb.tape, hb.output, hb.size, fun k hk _ => hb.block k hk⟩ (by simp) (by simp)
theorem IsE.rd {w w' : World} {lo R : Nat} {t : ExpT} {u : Value} (h : IsE w lo t u) (hR : R < lo) (hg : w.grownBy w' (some R)) : IsE w' lo t u := IsE.kept (fun k hk hl => hg.block k hl (fun e => by have := Option.some.inj e; omega)) t u h

theorem litT_cells (w : World) (xs : List ByteArray) (t : TypeId) : ∀ i, i < xs.length → (w.alloc (.cells (xs.map Value.string).toArray t)).cell? ⟨w.heap.size, 0 + i, none⟩ = some (.string (xs.getD i ⟨#[]⟩)) := by
  intro i hi
  rw [World.cell?_alloc_new]
  simp [List.getD, hi]
theorem litI_cells (w : World) (xs : List Int) (t : TypeId) : ∀ i, i < xs.length → (w.alloc (.cells (xs.map (Value.int .i64)).toArray t)).cell? ⟨w.heap.size, 0 + i, none⟩ = some (.int .i64 (xs.getD i 0)) := by
  intro i hi
  rw [World.cell?_alloc_new]
  simp [List.getD, hi]

set_option maxHeartbeats 1000000 in
theorem ofT_any (R : Nat) (v : Value) (bs : List Int) (p : Nat) (b off n cap : Nat) (xs : List ByteArray) (w : World) (hr : Rd w R v bs p) (hp : p ≤ 500000) (hn : xs.length = n) (h0 : 0 < n) (h9 : n ≤ 9) (hb : b ≠ R) (hc : ∀ i, i < n → w.cell? ⟨b, off + i, none⟩ = some (.string (xs.getD i ⟨#[]⟩))) :
    Calls Try.prog 22 #[.pointer (some ⟨R, 0, none⟩), .slice (some ⟨b, off, none⟩) n cap] w fun e w' => ∃ x : ByteArray, e = .returned (.string x) ∧ x ∈ xs ∧ Rd w' R v bs (p + 1) ∧ w.grownBy w' (some R) ∧ w'.heap.size = w.heap.size := by
  have HC : Hid (∀ i, i < n → w.cell? ⟨b, off + i, none⟩ = some (.string (xs.getD i ⟨#[]⟩))) := hc
  have HN : Hid (xs.length = n) := hn
  clear hc hn
  go_enter Try.func22, Try.ntmps22
  go_wp2_with fail
  refine (pick_any R v bs p _ _ hr (by omega) (by omega)).mono ?_
  rintro e w1 ⟨x, rfl, hx0, hx1, hx2, hrd1, hg1, hs1⟩
  have hxn : x < n := hx1 (by omega)
  obtain ⟨i, rfl⟩ := Int.eq_ofNat_of_zero_le hx0
  have hi : i < n := by omega
  have hcell : w1.cell? ⟨b, off + i, none⟩ = some (.string (xs.getD i ⟨#[]⟩)) := hg1.cell (HC.out i hi) (fun e => hb (Option.some.inj e))
  have HR1 : Hid (Rd w1 R v bs (p + 1)) := hrd1
  have HG1 : Hid (w.grownBy w1 (some R)) := hg1
  have HS1 : Hid (w1.heap.size = w.heap.size) := hs1
  have HMM : Hid (xs.getD i ⟨#[]⟩ ∈ xs) := by
    show _ ∈ _
    rw [List.getD, List.getElem?_eq_getElem (by have := HN.out; omega)]; simp
  clear hrd1 hg1 hs1 hx1 hx2
  generalize xs.getD i ⟨#[]⟩ = z at *
  go_wp2
  go_ret
  exact ⟨z, rfl, HMM.out, HR1.out, HG1.out, HS1.out⟩

set_option maxHeartbeats 1000000 in
theorem oneI_any (R : Nat) (v : Value) (bs : List Int) (p : Nat) (b off n cap : Nat) (xs : List Int) (w : World) (hr : Rd w R v bs p) (hp : p ≤ 500000) (hn : xs.length = n) (h0 : 0 < n) (h9 : n ≤ 9) (hb : b ≠ R) (hc : ∀ i, i < n → w.cell? ⟨b, off + i, none⟩ = some (.int .i64 (xs.getD i 0))) :
    Calls Try.prog 21 #[.pointer (some ⟨R, 0, none⟩), .slice (some ⟨b, off, none⟩) n cap] w fun e w' => ∃ x : Int, e = .returned (.int .i64 x) ∧ x ∈ xs ∧ Rd w' R v bs (p + 1) ∧ w.grownBy w' (some R) ∧ w'.heap.size = w.heap.size := by
  have HC : Hid (∀ i, i < n → w.cell? ⟨b, off + i, none⟩ = some (.int .i64 (xs.getD i 0))) := hc
  have HN : Hid (xs.length = n) := hn
  clear hc hn
  go_enter Try.func21, Try.ntmps21
  go_wp2_with fail
  refine (pick_any R v bs p _ _ hr (by omega) (by omega)).mono ?_
  rintro e w1 ⟨x, rfl, hx0, hx1, hx2, hrd1, hg1, hs1⟩
  have hxn : x < n := hx1 (by omega)
  obtain ⟨i, rfl⟩ := Int.eq_ofNat_of_zero_le hx0
  have hi : i < n := by omega
  have hcell : w1.cell? ⟨b, off + i, none⟩ = some (.int .i64 (xs.getD i 0)) := hg1.cell (HC.out i hi) (fun e => hb (Option.some.inj e))
  have HR1 : Hid (Rd w1 R v bs (p + 1)) := hrd1
  have HG1 : Hid (w.grownBy w1 (some R)) := hg1
  have HS1 : Hid (w1.heap.size = w.heap.size) := hs1
  have HMM : Hid (xs.getD i 0 ∈ xs) := by
    show _ ∈ _
    rw [List.getD, List.getElem?_eq_getElem (by have := HN.out; omega)]; simp
  clear hrd1 hg1 hs1 hx1 hx2
  generalize xs.getD i 0 = z at *
  go_wp2
  go_ret
  exact ⟨z, rfl, HMM.out, HR1.out, HG1.out, HS1.out⟩

/-- Four cells written. -/
abbrev set4E (V : World) (Q : Nat) (a0 a1 a2 a3 : Value) : World := (((V.setCell ⟨Q, 0, none⟩ a0).setCell ⟨Q, 1, none⟩ a1).setCell ⟨Q, 2, none⟩ a2).setCell ⟨Q, 3, none⟩ a3
theorem set4E_blk {V : World} {Q : Nat} {b0 b1 b2 b3 : Value} {t : TypeId} (h : BlkE V Q b0 b1 b2 b3 t) (a0 a1 a2 a3 : Value) : BlkE (set4E V Q a0 a1 a2 a3) Q a0 a1 a2 a3 t := (((h.set0 a0).set1 a1).set2 a2).set3 a3
theorem set4E_other {V : World} {Q k : Nat} (a0 a1 a2 a3 : Value) (h : k ≠ Q) : (set4E V Q a0 a1 a2 a3).heap[k]? = V.heap[k]? := by
  unfold set4E
  rw [blk_setCell_other _ _ _ _ h, blk_setCell_other _ _ _ _ h, blk_setCell_other _ _ _ _ h, blk_setCell_other _ _ _ _ h]
theorem set4E_size (V : World) (Q : Nat) (a0 a1 a2 a3 : Value) : (set4E V Q a0 a1 a2 a3).heap.size = V.heap.size := by simp [set4E, World.setCell]
theorem set4E_below {w V : World} {Q n : Nat} (h : Below n w V) (hq : n ≤ Q) (a0 a1 a2 a3 : Value) : Below n w (set4E V Q a0 a1 a2 a3) :=
  (((h.setCell (p := ⟨Q, 0, none⟩) hq a0).setCell (p := ⟨Q, 1, none⟩) hq a1).setCell (p := ⟨Q, 2, none⟩) hq a2).setCell (p := ⟨Q, 3, none⟩) hq a3

/-- A node above some whose values are known, its list in a new row. -/
theorem isE_row {w : World} {lo : Nat} {k n : Int} {s : ByteArray} (ts : List ExpT) (us : List Value) (cs : Array Value) (hl : ts.length = us.length) (hk : Num64 k ∧ Num64 n ∧ s.size ≤ maxLen) (h3 : ts.length ≤ 3)
    (hu : ∀ i, i < us.length → ∃ v0 v1 v2 v3, us.getD i .nilIface = .agg #[v0, v1, v2, v3] ∧ cs[i * 4]? = some v0 ∧ cs[i * 4 + 1]? = some v1 ∧ cs[i * 4 + 2]? = some v2 ∧ cs[i * 4 + 3]? = some v3)
    (hE : ∀ i, i < us.length → IsE w lo (ts.getD i e0) (us.getD i .nilIface)) (hlo : lo ≤ w.heap.size) :
    IsE (w.alloc (.cells cs 25)) lo (.node k n s ts) (.agg #[.int .i64 k, .int .i64 n, .string s, .slice (some ⟨w.heap.size, 0, none⟩) ts.length ts.length]) := by
  refine isE_node.2 ⟨_, _, rfl, ⟨hk.1, hk.2.1, hk.2.2, Nat.le_refl _, by unfold maxLen; omega⟩, fun _ => ⟨w.heap.size, 0, rfl, hlo, fun i hi => ?_⟩⟩
  obtain ⟨v0, v1, v2, v3, e, c0, c1, c2, c3⟩ := hu i (by omega)
  refine ⟨.agg #[v0, v1, v2, v3], ⟨v0, v1, v2, v3, rfl, ?_, ?_, ?_, ?_⟩, ?_⟩
  · rw [World.cell?_alloc_new, Nat.zero_add]; exact c0
  · rw [World.cell?_alloc_new, Nat.zero_add]; exact c1
  · rw [World.cell?_alloc_new, Nat.zero_add]; exact c2
  · rw [World.cell?_alloc_new, Nat.zero_add]; exact c3
  · rw [← e]; exact IsE.below (hE i (by omega)) (belOne _ _)

set_option maxRecDepth 100000 in
theorem l13Name_any (s : ByteArray) (w : World) : Calls Try.prog 23 #[.string s] w fun e w' => e = .returned (.agg #[.int .i64 4, .int .i64 0, .string s, .slice none 0 0]) ∧ Below w.heap.size w w' := by
  go_enter Try.func23, Try.ntmps23
  go_wp2_with fail
  exact bodyPost_ret (v := .agg #[.int .i64 4, .int .i64 0, .string s, .slice none 0 0]) (by simp [results, Try.results23, go_sem]) rfl ⟨rfl, belOne _ _⟩

theorem isE_leaf (w : World) (lo : Nat) (k n : Int) (s : ByteArray) (hk : Num64 k ∧ Num64 n ∧ s.size ≤ maxLen) : IsE w lo (.node k n s []) (.agg #[.int .i64 k, .int .i64 n, .string s, .slice none 0 0]) :=
  isE_node.2 ⟨none, 0, rfl, ⟨hk.1, hk.2.1, hk.2.2, Nat.le_refl _, by decide⟩, fun h => by simp at h⟩

set_option maxRecDepth 100000 in
set_option maxHeartbeats 2000000 in
theorem l9Two_any (lo : Nat) (sg : ByteArray) (t0 t1 : ExpT) (u0 u1 : Value) (w : World) (hs : sg.size ≤ maxLen) (h0 : IsE w lo t0 u0) (h1 : IsE w lo t1 u1) (hlo : lo ≤ w.heap.size) :
    Calls Try.prog 51 #[.string sg, u0, u1] w fun e w' => ∃ u, e = .returned u ∧ IsE w' lo (.node 6 0 sg [t0, t1]) u ∧ Below w.heap.size w w' := by
  obtain ⟨ka, na, sa, aa, ma, ca, rfl⟩ := h0.agg
  obtain ⟨kb, nb, sb, ab, mb, cb, rfl⟩ := h1.agg
  obtain ⟨W3, hW3⟩ : ∃ W3, W3 = ((w.alloc (.cells #[.int .i64 ka, .int .i64 na, .string sa, .slice aa ma ca] 25)).alloc (.cells #[.int .i64 kb, .int .i64 nb, .string sb, .slice ab mb cb] 25)).alloc (.cells #[.int .i64 6, .int .i64 0, .string sg, .slice (some ⟨w.heap.size + 1 + 1 + 1, 0, none⟩) 2 2] 25) := ⟨_, rfl⟩
  have hb3 : Below w.heap.size w W3 := by rw [hW3]; exact belNext (belNext (belOne _ _) (belOne _ _)) (belOne _ _)
  have hs3 : W3.heap.size = w.heap.size + 1 + 1 + 1 := by rw [hW3]; simp
  obtain ⟨W4, hW4⟩ : ∃ W4, W4 = W3.alloc (.cells #[.int .i64 ka, .int .i64 na, .string sa, .slice aa ma ca, .int .i64 kb, .int .i64 nb, .string sb, .slice ab mb cb] 25) := ⟨_, rfl⟩
  have HB4 : Hid (Below w.heap.size w W4) := by rw [hW4]; exact belNext hb3 (belOne _ _)
  have HE4 : Hid (IsE W4 lo (.node 6 0 sg [t0, t1]) (.agg #[.int .i64 6, .int .i64 0, .string sg, .slice (some ⟨w.heap.size + 1 + 1 + 1, 0, none⟩) 2 2])) := by
    rw [hW4, ← hs3]
    refine isE_row [t0, t1] [.agg #[.int .i64 ka, .int .i64 na, .string sa, .slice aa ma ca], .agg #[.int .i64 kb, .int .i64 nb, .string sb, .slice ab mb cb]] _ rfl ⟨by unfold Num64; omega, by unfold Num64; omega, hs⟩ (by simp) (fun i hi => ?_) (fun i hi => ?_) (by omega)
    · rcases (show i = 0 ∨ i = 1 by simp at hi; omega) with rfl | rfl
      · exact ⟨_, _, _, _, rfl, rfl, rfl, rfl, rfl⟩
      · exact ⟨_, _, _, _, rfl, rfl, rfl, rfl, rfl⟩
    · rcases (show i = 0 ∨ i = 1 by simp at hi; omega) with rfl | rfl
      · exact IsE.below h0 hb3
      · exact IsE.below h1 hb3
  rw [hW3] at hW4
  have HW4 := hideN hW4
  clear h0 h1 hb3 hs3 hW3 hW4 hlo
  go_enter Try.func51, Try.ntmps51
  go_wp2_with fail
  exact bodyPost_ret (v := .agg #[.int .i64 6, .int .i64 0, .string sg, .slice (some ⟨w.heap.size + 1 + 1 + 1, 0, none⟩) 2 2]) (by simp [results, Try.results51, go_sem]) rfl (by rw [← HW4.out]; exact ⟨_, rfl, HE4.out, HB4.out⟩)

end Go.Proofs.Ytgjficnpkmemgaa

/-
  Copies of diagrams that come in: szBddNodeS, szBdd, toBddNode, toBddNodeS, toBdd.
-/
import Derived.Test.YtknpifjkllcdeaaOpenB
import Derived.Test.YtknpifjkllcdeaaBdK
namespace Go.Proofs.Ytknpifjkllcdeaa
open Go.RowKit Go.Deep
set_option linter.unusedVariables false

/-- Of a copy, so many elements are filled. -/
def upN (k : Nat) (f : Nat → Value) (z : Value) : Nat → Value := fun i => if i < k then f i else z

theorem upN_set {w : World} {b : Nat} {t : TypeId} {n k : Nat} {f0 f1 f2 : Nat → Value} {z0 z1 z2 : Value} (h : w.rowIs b t (n * 3) (three (upN k f0 z0) (upN k f1 z1) (upN k f2 z2))) :
    (((w.setCell ⟨b, k * 3, none⟩ (f0 k)).setCell ⟨b, k * 3 + 1, none⟩ (f1 k)).setCell ⟨b, k * 3 + 2, none⟩ (f2 k)).rowIs b t (n * 3) (three (upN (k + 1) f0 z0) (upN (k + 1) f1 z1) (upN (k + 1) f2 z2)) := by
  refine (((h.set (k * 3) (f0 k)).set (k * 3 + 1) (f1 k)).set (k * 3 + 2) (f2 k)).congr (fun i _ => ?_)
  by_cases e2 : i = k * 3 + 2
  · subst e2
    rw [if_pos rfl, three_2]
    unfold upN
    rw [if_pos (by omega)]
  · rw [if_neg e2]
    by_cases e1 : i = k * 3 + 1
    · subst e1
      rw [if_pos rfl, three_1]
      unfold upN
      rw [if_pos (by omega)]
    · rw [if_neg e1]
      by_cases e0 : i = k * 3
      · subst e0
        rw [if_pos rfl, three_0]
        unfold upN
        rw [if_pos (by omega)]
      · rw [if_neg e0]
        have hk : i / 3 ≠ k := by omega
        unfold three upN
        by_cases hlt : i / 3 < k
        · rw [if_pos hlt, if_pos hlt, if_pos hlt, if_pos (show i / 3 < k + 1 by omega), if_pos (show i / 3 < k + 1 by omega), if_pos (show i / 3 < k + 1 by omega)]
        · rw [if_neg hlt, if_neg hlt, if_neg hlt, if_neg (show ¬ i / 3 < k + 1 by omega), if_neg (show ¬ i / 3 < k + 1 by omega), if_neg (show ¬ i / 3 < k + 1 by omega)]

theorem rowIs_made3 (w : World) (z0 z1 z2 : Value) (n : Nat) (t : TypeId) : (w.alloc (.cells (madeCells #[z0, z1, z2] (n * 3)) t)).rowIs w.heap.size t (n * 3) (three (fun _ => z0) (fun _ => z1) (fun _ => z2)) := by
  refine ⟨_, blk_alloc_new _ _, size_madeCells _ _, fun i hi => ?_⟩
  simp only [madeCells, three]
  have h3 : i % 3 = 0 ∨ i % 3 = 1 ∨ i % 3 = 2 := by omega
  rcases h3 with h | h | h <;> simp [h, hi]

theorem run_make_three {P : Program} (t e : TypeId) (z0 z1 z2 : Value) (bytes : Nat) (ht : P.underlying t = some (.slice e)) (hinfo : (P.info? e).map (fun i => (i.zero, i.size, i.bytes)) = some (some (.agg #[z0, z1, z2]), 3, bytes))
    (n : Nat) (hbytes : bytes * n ≤ 281474976710656) (h63 : n ≤ 9223372036854775807) (w : World) :
    (Instr.makeSlice t (.int .i64 (n : Int)) (.int .i64 (n : Int))).run P w = .ok (.slice (some ⟨w.heap.size, 0, none⟩) n n) (w.alloc (.cells (madeCells #[z0, z1, z2] (n * 3)) e)) := by
  obtain ⟨i, hi, hzz⟩ := Option.map_eq_some_iff.1 hinfo
  simp only [Prod.mk.injEq] at hzz
  obtain ⟨hz, hs, hb⟩ := hzz
  have hb' : (i.bytes : Int) * (n : Int) ≤ 281474976710656 := by
    have h : ((i.bytes * n : Nat) : Int) ≤ 281474976710656 := by rw [hb]; omega
    rwa [Int.natCast_mul] at h
  have hr := run_make (P := P) w t e i _ ht hi hz .i64 .i64 n n (by omega) (Int.le_refl _) hb' (by omega)
  simp only [Int.toNat_natCast, hs, Value.cells] at hr
  exact hr

/-- The cells of nodes as a function. -/
def ndF (ns : List Nd) : Nat → Value := three (fun i => .int .i64 (ns.getD i (0, 0, 0)).1) (fun i => .int .i64 (ns.getD i (0, 0, 0)).2.1) (fun i => .int .i64 (ns.getD i (0, 0, 0)).2.2)

theorem nds_of_row {w : World} {b n : Nat} {ns : List Nd} (hn : ns.length = n) (h : w.rowIs b 50 (n * 3) (ndF ns)) : Nds w (some ⟨b, 0, none⟩) n n ns :=
  ⟨hn, Nat.le_refl _, fun _ => ⟨b, 0, rfl, fun i hi => by
    have h0 := h.cell (i := i * 3) (by omega)
    have h1 := h.cell (i := i * 3 + 1) (by omega)
    have h2 := h.cell (i := i * 3 + 2) (by omega)
    unfold ndF at h0 h1 h2
    rw [three_0] at h0
    rw [three_1] at h1
    rw [three_2] at h2
    rw [Nat.zero_add]
    exact ⟨h0, h1, h2⟩⟩⟩
theorem Nds.is {w : World} {ao : Option Addr} {n cap : Nat} {ns : List Nd} (h : Nds w ao n cap ns) : IsNds w (.slice ao n cap) ns := by
  have e := h.len
  subst e
  exact ⟨ao, cap, rfl, fun hne => h.cells (List.length_pos_iff.2 hne)⟩

set_option maxHeartbeats 400000 in
theorem szBddNodeS_any (ao : Option Addr) (n cap : Nat) (left : Int) (w : World) (hn : n ≤ maxLen) (h0 : 0 ≤ left) (h1 : left ≤ 1048576) :
    Calls Try.prog 67 #[.slice ao n cap, .int .i64 left] w fun e w' => e = .returned (.int .i64 (if (n : Int) ≤ left then left - n else -1)) ∧ w' = w := by
  unfold maxLen at hn
  by_cases h : (n : Int) ≤ left
  · rw [if_pos h]
    go_enter Try.func67, Try.ntmps67
    go_wp2
    go_ret
    exact ⟨rfl, rfl⟩
  · rw [if_neg h]
    go_enter Try.func67, Try.ntmps67
    go_wp2
    go_ret
    exact ⟨rfl, rfl⟩

set_option maxHeartbeats 1000000 in
theorem szBdd_any (vi root : Int) (ao : Option Addr) (n cap : Nat) (left : Int) (w : World) (hn : n ≤ maxLen) (h0 : 0 ≤ left) (h1 : left ≤ 1048576) :
    Calls Try.prog 23 #[.agg #[.int .i64 vi, .slice ao n cap, .int .i64 root], .int .i64 left] w fun e w' => e = .returned (.int .i64 (if (n : Int) ≤ left then left - n else -1)) ∧ Below w.heap.size w w' := by
  have HN := hideN hn
  have HW : Hid (∀ o, Below w.heap.size w (w.alloc o)) := fun o => belOne _ _
  clear hn
  by_cases h : (n : Int) ≤ left
  · rw [if_pos h]
    go_enter Try.func23, Try.ntmps23
    go_wp2_with fail
    refine (szBddNodeS_any _ _ _ _ _ HN.out h0 h1).mono ?_
    rintro e w' ⟨rfl, rfl⟩
    rw [if_pos h]
    go_wp2
    go_ret
    exact ⟨rfl, HW.out _⟩
  · rw [if_neg h]
    go_enter Try.func23, Try.ntmps23
    go_wp2_with fail
    refine (szBddNodeS_any _ _ _ _ _ HN.out h0 h1).mono ?_
    rintro e w' ⟨rfl, rfl⟩
    rw [if_neg (by omega)]
    go_wp2
    go_ret
    exact ⟨rfl, HW.out _⟩

set_option maxHeartbeats 1000000 in
theorem toBddNode_any (x y z : Int) (w : World) :
    Calls Try.prog 102 #[.agg #[.int .i64 x, .int .i64 y, .int .i64 z]] w fun e w' => e = .returned (.agg #[.int .i64 x, .int .i64 y, .int .i64 z]) ∧ Below w.heap.size w w' := by
  go_enter Try.func102, Try.ntmps102
  go_wp2
  refine bodyPost_ret (v := .agg #[.int .i64 x, .int .i64 y, .int .i64 z]) (by simp [results, Try.results102, go_sem]) rfl ⟨rfl, ?_⟩
  exact belNext (belNext (belOne _ _) (belOne _ _)) (belOne _ _)

/-- The row of a copy, of which so many are filled. -/
def copyF (ns : List Nd) (k : Nat) : Nat → Value := three (upN k (fun i => .int .i64 (ns.getD i (0, 0, 0)).1) (.int .i64 0)) (upN k (fun i => .int .i64 (ns.getD i (0, 0, 0)).2.1) (.int .i64 0)) (upN k (fun i => .int .i64 (ns.getD i (0, 0, 0)).2.2) (.int .i64 0))

set_option maxHeartbeats 4000000 in
theorem toBddNodeS_any (ao : Option Addr) (n cap : Nat) (ns : List Nd) (w : World) (hN : Nds w ao n cap ns) (hn : n ≤ 1048576) :
    Calls Try.prog 70 #[.slice ao n cap] w fun e w' => e = .returned (.slice (some ⟨w.heap.size, 0, none⟩) n n) ∧ Below w.heap.size w w' ∧ w'.rowIs w.heap.size 50 (n * 3) (ndF ns) := by
  have hmk := run_make_three (P := Try.prog) 23 50 (.int .i64 0) (.int .i64 0) (.int .i64 0) 24 Try.underlying23 info_nd n (by omega) (by omega)
  have HA : Hid ((w.alloc (.cells (madeCells #[.int .i64 0, (.int .i64 0), (.int .i64 0)] (n * 3)) 50)).rowIs w.heap.size 50 (n * 3) (copyF ns 0)) := (rowIs_made3 w _ _ _ n _).congr (three_congr (fun i _ => by simp [upN]) (fun i _ => by simp [upN]) (fun i _ => by simp [upN]))
  have HD : Hid (∀ wr : World, ∀ k, n ≤ k → wr.rowIs w.heap.size 50 (n * 3) (copyF ns k) → wr.rowIs w.heap.size 50 (n * 3) (ndF ns)) := fun wr k hk h =>
    h.congr (three_congr (fun i hi => by unfold upN; rw [if_pos (by omega)]) (fun i hi => by unfold upN; rw [if_pos (by omega)]) (fun i hi => by unfold upN; rw [if_pos (by omega)]))
  by_cases hne : 0 < n
  · obtain ⟨b, off, rfl, hc⟩ := hN.cells hne
    have HC := hideN hc
    clear hc hN
    go_enter Try.func70, Try.ntmps70
    go_wp2
    go_loopw [4] (fun i wr => ∃ k : Nat, k ≤ n ∧ i = .int .i64 k ∧ Below w.heap.size w wr ∧ wr.rowIs w.heap.size 50 (n * 3) (copyF ns k)) (fun i _ => n - (intOf i).toNat)
    case atStart => exact ⟨0, Nat.zero_le _, rfl, belOne _ _, HA.out⟩
    case round =>
      obtain ⟨k, hk, rfl, hb, hrow⟩ := hrel
      by_cases hlt : k < n
      · obtain ⟨hc1, hc2, hc3⟩ := HC.out k hlt
        have hx1 := (hb.cell (cell_lt hc1)).trans hc1
        have hx2 := (hb.cell (cell_lt hc2)).trans hc2
        have hx3 := (hb.cell (cell_lt hc3)).trans hc3
        have HB : Hid (Below w.heap.size w wr) := hb
        have HRW := hideN hrow
        have HST : Hid (∀ w1 : World, Below wr.heap.size wr w1 → (((w1.setCell ⟨w.heap.size, k * 3, none⟩ (.int .i64 (ns.getD k (0, 0, 0)).1)).setCell ⟨w.heap.size, k * 3 + 1, none⟩ (.int .i64 (ns.getD k (0, 0, 0)).2.1)).setCell ⟨w.heap.size, k * 3 + 2, none⟩ (.int .i64 (ns.getD k (0, 0, 0)).2.2)).rowIs w.heap.size 50 (n * 3) (copyF ns (k + 1))) := fun w1 h1 =>
          upN_set (f0 := fun i => .int .i64 (ns.getD i (0, 0, 0)).1) (f1 := fun i => .int .i64 (ns.getD i (0, 0, 0)).2.1) (f2 := fun i => .int .i64 (ns.getD i (0, 0, 0)).2.2) (hrow.of_block (h1.block _ hrow.lt))
        have hrl := hrow.lt
        have hsz : w.heap.size ≤ wr.heap.size := hb.size
        clear hb hrow hc1 hc2 hc3
        generalize ns.getD k (0, 0, 0) = q at *
        obtain ⟨q1, q2, q3⟩ := q
        have hx1' : wr.cell? ⟨b, off + k * 3, none⟩ = some (.int .i64 q1) := hx1
        have hx2' : wr.cell? ⟨b, off + k * 3 + 1, none⟩ = some (.int .i64 q2) := hx2
        have hx3' : wr.cell? ⟨b, off + k * 3 + 2, none⟩ = some (.int .i64 q3) := hx3
        clear hx1 hx2 hx3
        go_wp2_with fail
        refine (toBddNode_any q1 q2 q3 _).mono ?_
        rintro e w1 ⟨rfl, hb1⟩
        have HST1 := hideN (HST.out w1 hb1)
        have hw1 := HRW.out.of_block (hb1.block _ hrl)
        have d0 := hw1.cell (i := k * 3) (by omega)
        have d1 := hw1.cell (i := k * 3 + 1) (by omega)
        have d4 := hw1.cell (i := k * 3 + 2) (by omega)
        have d2 := hw1.frozen (k * 3)
        have d3 := hw1.frozen (k * 3 + 1)
        have d5 := hw1.frozen (k * 3 + 2)
        have HB1 : Hid (Below w.heap.size w w1) := belNext HB.out hb1
        clear hb1 hw1 hx1' hx2' hx3'
        go_wp2
        go_roundw
        case rel => exact ⟨k + 1, by omega, by go_num, ((HB1.out.setCell (p := ⟨w.heap.size, k * 3, none⟩) (Nat.le_refl _) _).setCell (p := ⟨w.heap.size, k * 3 + 1, none⟩) (Nat.le_refl _) _).setCell (p := ⟨w.heap.size, k * 3 + 2, none⟩) (Nat.le_refl _) _, HST1.out⟩
        case measure => simp [intOf]; omega
      · have hd := HD.out wr k (by omega) hrow
        go_wp2
        go_ret
        exact ⟨rfl, hb, hd⟩
  · have hd := HD.out _ 0 (by omega) HA.out
    go_enter Try.func70, Try.ntmps70
    go_wp2
    go_rounds 1
    go_ret
    exact ⟨rfl, belOne _ _, hd⟩

/-- What toBdd answers: a copy of its own. -/
def CopyPostN (vi root : Int) (n : Nat) (ns : List Nd) (w : World) (e : Ending) (w' : World) : Prop :=
  ∃ b, e = .returned (.agg #[.int .i64 vi, .slice (some ⟨b, 0, none⟩) n n, .int .i64 root]) ∧ Below w.heap.size w w' ∧ (w.heap.size ≤ b ∧ w'.rowIs b 50 (n * 3) (ndF ns)) ∧ Nds w' (some ⟨b, 0, none⟩) n n ns

/-- A block that holds a diagram that came in. -/
def BlkL (w : World) (b : Nat) (a0 a1 a2 : Value) : Prop := w.heap[b]? = some (.cells #[a0, a1, a2] 36 (0, 0))
section
variable {w w' : World} {b : Nat} {a0 a1 a2 : Value}
theorem BlkL.lt (h : BlkL w b a0 a1 a2) : b < w.heap.size := (Array.getElem?_eq_some_iff.1 h).1
theorem BlkL.c0 (h : BlkL w b a0 a1 a2) : w.cell? ⟨b, 0, none⟩ = some a0 := by unfold BlkL at h; simp [World.cell?, h]
theorem BlkL.c1 (h : BlkL w b a0 a1 a2) : w.cell? ⟨b, 1, none⟩ = some a1 := by unfold BlkL at h; simp [World.cell?, h]
theorem BlkL.c2 (h : BlkL w b a0 a1 a2) : w.cell? ⟨b, 2, none⟩ = some a2 := by unfold BlkL at h; simp [World.cell?, h]
theorem BlkL.new (w : World) (a0 a1 a2 : Value) : BlkL (w.alloc (.cells #[a0, a1, a2] 36)) w.heap.size a0 a1 a2 := World.alloc_heap_new _ _
theorem BlkL.below (h : BlkL w b a0 a1 a2) (hb : Below w.heap.size w w') : BlkL w' b a0 a1 a2 := (hb.block b h.lt).trans h
theorem BlkL.other (h : BlkL w b a0 a1 a2) {a : Addr} (hne : b ≠ a.block) (u : Value) : BlkL (w.setCell a u) b a0 a1 a2 := (blk_setCell_other _ _ _ _ hne).trans h
theorem BlkD.other (h : BlkD w b a0 a1 a2) {a : Addr} (hne : b ≠ a.block) (u : Value) : BlkD (w.setCell a u) b a0 a1 a2 := (blk_setCell_other _ _ _ _ hne).trans h
end

/-- What stands while toBdd goes on: what came in, the result, what goes out. -/
structure ToSt (w V : World) (vi root : Int) (ao : Option Addr) (n cap : Nat) (o0 o1 o2 : Value) : Prop where
  b0 : BlkL V w.heap.size (.int .i64 vi) (.slice ao n cap) (.int .i64 root)
  b1 : BlkD V (w.heap.size + 1) (.int .i64 0) (.slice none 0 0) (.int .i64 0)
  b2 : BlkD V (w.heap.size + 1 + 1) o0 o1 o2
  be : Below w.heap.size w V
theorem ToSt.below {w V V' : World} {vi root : Int} {ao : Option Addr} {n cap : Nat} {o0 o1 o2 : Value} (h : ToSt w V vi root ao n cap o0 o1 o2) (hb : Below V.heap.size V V') : ToSt w V' vi root ao n cap o0 o1 o2 :=
  ⟨h.b0.below hb, h.b1.below hb, h.b2.below hb, belNext h.be hb⟩
theorem ToSt.s0 {w V : World} {vi root : Int} {ao : Option Addr} {n cap : Nat} {o0 o1 o2 : Value} (h : ToSt w V vi root ao n cap o0 o1 o2) (u : Value) : ToSt w (V.setCell ⟨w.heap.size + 1 + 1, 0, none⟩ u) vi root ao n cap u o1 o2 :=
  ⟨h.b0.other (by show w.heap.size ≠ w.heap.size + 1 + 1; omega) _, h.b1.other (by show w.heap.size + 1 ≠ w.heap.size + 1 + 1; omega) _, h.b2.set0 _, h.be.setCell (p := ⟨w.heap.size + 1 + 1, 0, none⟩) (by show w.heap.size ≤ w.heap.size + 1 + 1; omega) _⟩
theorem ToSt.s1 {w V : World} {vi root : Int} {ao : Option Addr} {n cap : Nat} {o0 o1 o2 : Value} (h : ToSt w V vi root ao n cap o0 o1 o2) (u : Value) : ToSt w (V.setCell ⟨w.heap.size + 1 + 1, 1, none⟩ u) vi root ao n cap o0 u o2 :=
  ⟨h.b0.other (by show w.heap.size ≠ w.heap.size + 1 + 1; omega) _, h.b1.other (by show w.heap.size + 1 ≠ w.heap.size + 1 + 1; omega) _, h.b2.set1 _, h.be.setCell (p := ⟨w.heap.size + 1 + 1, 1, none⟩) (by show w.heap.size ≤ w.heap.size + 1 + 1; omega) _⟩
theorem ToSt.s2 {w V : World} {vi root : Int} {ao : Option Addr} {n cap : Nat} {o0 o1 o2 : Value} (h : ToSt w V vi root ao n cap o0 o1 o2) (u : Value) : ToSt w (V.setCell ⟨w.heap.size + 1 + 1, 2, none⟩ u) vi root ao n cap o0 o1 u :=
  ⟨h.b0.other (by show w.heap.size ≠ w.heap.size + 1 + 1; omega) _, h.b1.other (by show w.heap.size + 1 ≠ w.heap.size + 1 + 1; omega) _, h.b2.set2 _, h.be.setCell (p := ⟨w.heap.size + 1 + 1, 2, none⟩) (by show w.heap.size ≤ w.heap.size + 1 + 1; omega) _⟩

set_option maxRecDepth 100000 in
set_option maxHeartbeats 4000000 in
theorem toBdd_any (vi root : Int) (ao : Option Addr) (n cap : Nat) (ns : List Nd) (w : World) (hN : Nds w ao n cap ns) (hn : n ≤ 1048576) :
    Calls Try.prog 25 #[.agg #[.int .i64 vi, .slice ao n cap, .int .i64 root]] w (CopyPostN vi root n ns w) := by
  have HN := hideN hN
  have HN1 := hideN hN.len
  obtain ⟨W1, hW1⟩ : ∃ W1, W1 = ((w.alloc (.cells #[.int .i64 vi, .slice ao n cap, .int .i64 root] 36)).alloc (.cells #[.int .i64 0, .slice none 0 0, .int .i64 0] 25)).alloc (.cells #[.int .i64 vi, .slice none 0 0, .int .i64 0] 25) := ⟨_, rfl⟩
  have HS1 : Hid (ToSt w W1 vi root ao n cap (.int .i64 vi) (.slice none 0 0) (.int .i64 0)) := by
    rw [hW1]
    refine ⟨((BlkL.new _ _ _ _).below (belOne _ _)).below (belOne _ _), ?_, ?_, belNext (belNext (belOne _ _) (belOne _ _)) (belOne _ _)⟩
    · have h := (BlkD.new (w.alloc (.cells #[.int .i64 vi, .slice ao n cap, .int .i64 root] 36)) (.int .i64 0) (.slice none 0 0) (.int .i64 0)).below (belOne _ (.cells #[.int .i64 vi, .slice none 0 0, .int .i64 0] 25))
      rw [World.size_alloc] at h
      exact h
    · have h := BlkD.new ((w.alloc (.cells #[.int .i64 vi, .slice ao n cap, .int .i64 root] 36)).alloc (.cells #[.int .i64 0, .slice none 0 0, .int .i64 0] 25)) (.int .i64 vi) (.slice none 0 0) (.int .i64 0)
      rw [World.size_alloc, World.size_alloc] at h
      exact h
  have HW1 := hideN hW1
  clear hN hW1
  go_enter Try.func25, Try.ntmps25
  go_wp2_with fail
  rw [← HW1.out]
  refine (toBddNodeS_any _ n cap ns W1 (HN.out.below HS1.out.be) hn).mono ?_
  rintro e w2 ⟨rfl, hb2, hr2⟩
  have HS2 := hideN (HS1.out.below hb2)
  have HR2 := hideN hr2
  have HZ : Hid (w.heap.size + 1 + 1 < W1.heap.size) := HS1.out.b2.lt
  have HSZ : Hid (W1.heap.size < w2.heap.size) := hr2.lt
  have x0 := HS2.out.b0.c0
  have x1 := HS2.out.b0.c1
  have x2 := HS2.out.b0.c2
  have x3 := HS2.out.b0.lt
  have y0 := HS2.out.b2.c0
  have y1 := HS2.out.b2.c1
  have y2 := HS2.out.b2.c2
  have y3 := HS2.out.b2.lt
  have y4 := HS2.out.b2.f
  have z0 := HS2.out.b1.c0
  have z1 := HS2.out.b1.c1
  have z2 := HS2.out.b1.c2
  have z3 := HS2.out.b1.lt
  have z4 := HS2.out.b1.f
  clear hb2 hr2
  obtain ⟨B, hB⟩ : ∃ B, W1.heap.size = B := ⟨_, rfl⟩
  have HBB := hideN hB
  rw [hB]
  clear hB
  go_wp2_with fail
  have hST := (HS2.out.s1 (.slice (some ⟨B, 0, none⟩) n n)).s2 (.int .i64 root)
  have hR := (HR2.out.setOther (a := ⟨w.heap.size + 1 + 1, 1, none⟩) (by show W1.heap.size ≠ w.heap.size + 1 + 1; have := HZ.out; omega) (.slice (some ⟨B, 0, none⟩) n n)).setOther (a := ⟨w.heap.size + 1 + 1, 2, none⟩) (by show W1.heap.size ≠ w.heap.size + 1 + 1; have := HZ.out; omega) (.int .i64 root)
  generalize ((w2.setCell ⟨w.heap.size + 1 + 1, 1, none⟩ (.slice (some ⟨B, 0, none⟩) n n)).setCell ⟨w.heap.size + 1 + 1, 2, none⟩ (.int .i64 root)) = W6 at *
  have hD := hST.b1.set (.int .i64 vi) (.slice (some ⟨B, 0, none⟩) n n) (.int .i64 root)
  have hBe := set3_below hST.be (show w.heap.size ≤ w.heap.size + 1 by omega) (.int .i64 vi) (.slice (some ⟨B, 0, none⟩) n n) (.int .i64 root)
  have hR2 := hR.of_block (set3_other (b := w.heap.size + 1) (k := W1.heap.size) (.int .i64 vi) (.slice (some ⟨B, 0, none⟩) n n) (.int .i64 root) (by have := HZ.out; omega))
  have hN2 := nds_of_row HN1.out hR2
  rw [HBB.out] at hN2 hR2
  unfold set3 at hD hBe hN2 hR2
  have q0 := hD.c0
  have q1 := hD.c1
  have q2 := hD.c2
  exact bodyPost_ret (v := .agg #[.int .i64 vi, .slice (some ⟨B, 0, none⟩) n n, .int .i64 root]) (by simp [results, Try.results25, go_sem, q0, q1, q2]) rfl ⟨B, rfl, hBe, ⟨by have := HZ.out; have := HBB.out; omega, hR2⟩, hN2⟩

end Go.Proofs.Ytknpifjkllcdeaa

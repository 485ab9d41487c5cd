/-
  All nodes of a circuit: the program's AigValues.
-/
import Derived.Test.YtbdjdgamnnifjaaAigG
import Derived.Test.YtbdjdgamnnifjaaHold
import Derived.Deep.AppendSrc
import Derived.Deep.AppendLies
import Derived.OwnWalk
namespace Go.Proofs.Ytbdjdgamnnifjaa
open Go.RowKit Go.Deep Go.Shelf
set_option linter.unusedVariables false

attribute [local go_sem] Oper.semAt_some

/-- Nodes with so many ands behind those that are told. -/
def valF (start : List Bool) (xs : List (Int × Int)) (k : Nat) : List Bool := (xs.take k).foldl (fun vs p => vs ++ [litV vs p.1 && litV vs p.2]) start

theorem valF_succ (start : List Bool) (xs : List (Int × Int)) (k : Nat) (h : k < xs.length) : valF start xs (k + 1) = valF start xs k ++ [litV (valF start xs k) (xs.getD k (0, 0)).1 && litV (valF start xs k) (xs.getD k (0, 0)).2] := by
  unfold valF
  rw [List.take_succ_eq_append_getElem h, List.foldl_append]
  simp [List.getD, List.getElem?_eq_getElem h]

theorem valF_length (start : List Bool) (xs : List (Int × Int)) (k : Nat) (h : k ≤ xs.length) : (valF start xs k).length = start.length + k := by
  induction k with
  | zero => simp [valF]
  | succ k ih => rw [valF_succ start xs k h, List.length_append, ih (by omega)]; simp; omega

def startOf (ins lats : List Bool) : List Bool := [false] ++ ins ++ lats

/-- What AigValues answers. -/
def valsOf (inp : Int) (ls : List (Int × Bool)) (xs : List (Int × Int)) (bs : List Int) (lats ins : List Bool) : List Bool :=
  if okC inp ls xs bs = true ∧ lats.length = ls.length ∧ (ins.length : Int) = inp then valF (startOf ins lats) xs xs.length else []

theorem ahead_of {x n : Int} (h : aheadG x n = true) (h64 : I64 x) : 0 ≤ x ∧ x < 2 * n := by
  rw [aheadG_eq h64] at h
  unfold aheadB at h
  simpa using h

theorem pair_of_ok {inp : Int} {ls : List (Int × Bool)} {xs : List (Int × Int)} {bs : List Int} (h : okC inp ls xs bs = true) {k : Nat} (hk : k < xs.length) :
    aheadG (xs.getD k (0, 0)).1 (1 + inp + (ls.length : Int) + (k : Int)) = true ∧ aheadG (xs.getD k (0, 0)).2 (1 + inp + (ls.length : Int) + (k : Int)) = true := by
  unfold okC at h
  simp only [Bool.and_eq_true] at h
  have h1 := List.all_eq_true.1 h.2.1 (1 + inp + (ls.length : Int) + (k : Int), xs.getD k (0, 0)) (List.mem_of_getElem? (nodesFrom_get _ xs k hk))
  unfold pairG at h1
  simpa using h1

/-- The value is a slice of these truths in a block of the call's own. -/
def Ownb (w : World) (base : Nat) (v : Value) (vs : List Bool) : Prop := w.ownsRow base 4 1 v vs.length (vs.map Value.bool)

theorem Ownb.form {w : World} {base : Nat} {v : Value} {vs : List Bool} (h : Ownb w base v vs) : ∃ ao cap, v = .slice ao vs.length cap := by
  rcases h.2 with ⟨rfl, h0⟩ | ⟨g, cap, cur, rfl, _⟩
  · exact ⟨none, 0, by rw [h0]⟩
  · exact ⟨_, cap, rfl⟩

theorem Ownb.cons_form {w : World} {base : Nat} {v : Value} {vs : List Bool} (h : Ownb w base v vs) (hne : 0 < vs.length) : ∃ g cap, v = .slice (some ⟨g, 0, none⟩) vs.length cap ∧ base ≤ g ∧ g < w.heap.size := by
  rcases h.2 with ⟨rfl, h0⟩ | ⟨g, cap, cur, rfl, hg, hb, _⟩
  · omega
  · exact ⟨g, cap, rfl, hg, (Array.getElem?_eq_some_iff.1 hb).1⟩

theorem Ownb.isBits {w : World} {base : Nat} {v : Value} {vs : List Bool} (h : Ownb w base v vs) : IsBits w v vs := by
  rcases h.2 with ⟨rfl, h0⟩ | ⟨g, cap, cur, rfl, hg, hb, hle, hsz, hcells, _⟩
  · have : vs = [] := List.length_eq_zero_iff.1 h0
    subst this
    exact ⟨none, 0, rfl, fun h => absurd rfl h⟩
  · refine ⟨_, cap, rfl, fun _ => ⟨g, 0, rfl, fun i hi => ?_⟩⟩
    have := World.ownsRow.cellAt h i (by omega)
    rw [Nat.zero_add, this]
    simp [List.getD, hi]

theorem Ownb.below {w w' : World} {base : Nat} {v : Value} {vs : List Bool} (h : Ownb w base v vs) (hb : Below w.heap.size w w') : Ownb w' base v vs := by
  refine ⟨h.1, ?_⟩
  rcases h.2 with h2 | ⟨g, cap, cur, hv, hg, hh, r⟩
  · exact .inl h2
  · exact .inr ⟨g, cap, cur, hv, hg, (hb.block g (Array.getElem?_eq_some_iff.1 hh).1).trans hh, r⟩

theorem Ownb.of_block {w w' : World} {base : Nat} {v : Value} {vs : List Bool} (h : Ownb w base v vs) (hb : ∀ g, v.ownBlock = some g → w'.heap[g]? = w.heap[g]?) : Ownb w' base v vs := by
  refine ⟨h.1, ?_⟩
  rcases h.2 with h2 | ⟨g, cap, cur, hv, hg, hh, r⟩
  · exact .inl h2
  · exact .inr ⟨g, cap, cur, hv, hg, (hb g (by rw [hv]; rfl)).trans hh, r⟩

theorem bools_oneCell (vs : List Bool) : ∀ u ∈ vs.map Value.bool, u.oneCell' = true := fun u hu => by
  obtain ⟨_, _, rfl⟩ := List.mem_map.1 hu
  rfl

/-- 'append(values, others...)' on memory of the call's own. -/
theorem run_more (w : World) (base : Nat) (ty : TypeId) (v x : Value) (vs ys : List Bool) (hv : Ownb w base v vs) (hne : 0 < vs.length) (hx : IsBits w x ys) (hlen : vs.length + ys.length ≤ 1048576) :
    ∃ g cap w', (Builtin.append_ #[27, 27] ty #[v, x]).run Try.prog w = .ok (.slice (some ⟨g, 0, none⟩) (vs ++ ys).length cap) w' ∧ Ownb w' base (.slice (some ⟨g, 0, none⟩) (vs ++ ys).length cap) (vs ++ ys) ∧ w.grownBy w' v.ownBlock ∧ g < w'.heap.size ∧ (v.ownBlock = some g ∨ w.heap.size ≤ g) := by
  obtain ⟨i0, hi, hz0, hz1, hz2⟩ := info_parts info_bool
  obtain ⟨ao, cap, rfl, hx⟩ := hx
  by_cases hn : ys = []
  · subst hn
    obtain ⟨g, cp, rfl, hg, hlt⟩ := hv.cons_form hne
    have hs : Src Try.prog i0.size 27 (.slice ao 0 cap) 0 [] w := by
      cases ao with
      | none => exact Src.ofNil w Try.underlying27 cap
      | some a => exact Src.ofSlice w Try.underlying27 a 0 cap [] (by simp) (by simp) (by simp)
    have hle : vs.length ≤ cp := by
      rcases hv.2 with ⟨h1, _⟩ | ⟨g', cap', cur, h1, _, _, hle, _⟩
      · cases h1
      · cases h1; exact hle
    have hr := run_append_room_src (P := Try.prog) w 27 27 ty 4 i0 Try.underlying27 hi g 0 vs.length cp (.slice ao 0 cap) 0 [] hs (by omega) (by simp) (by simp)
    refine ⟨g, cp, w, ?_, ?_, World.grownBy.refl w _, hlt, .inl rfl⟩
    · simpa [World.setCells] using hr
    · simpa using hv
  · obtain ⟨b, off, rfl, hc⟩ := hx hn
    have hpos : 0 < ys.length := List.length_pos_iff.2 hn
    have hbase : base ≤ w.heap.size := by obtain ⟨g, cp, _, hg, hlt⟩ := hv.cons_form hne; omega
    obtain ⟨g, cp, w', hr, h2, h3, h4, h5⟩ := run_append_lies (P := Try.prog) w 27 ty base 4 i0 (.bool false) 1 1 Try.underlying27 hi hz0 hz1 hz2 rfl (by decide) v vs.length _ hv ⟨b, off, none⟩ ys.length cap (ys.map Value.bool) (by simp)
      (fun j u hj => by
        rw [List.getElem?_map] at hj
        obtain ⟨y, hy, rfl⟩ := Option.map_eq_some_iff.1 hj
        have hjl : j < ys.length := (List.getElem?_eq_some_iff.1 hy).1
        have := hc j hjl
        rw [Addr.add_lit, this]
        simp [List.getD, hy])
      (bools_oneCell ys) hpos (by unfold maxLen; omega) (by omega) hbase _ rfl
    refine ⟨g, cp, w', ?_, ?_, h3, h5, ?_⟩
    · rw [List.length_append]; exact hr
    · unfold Ownb; rw [List.map_append, List.length_append]; exact h2
    · rcases h4 with h4 | h4
      · exact .inl h4
      · exact .inr (by omega)

theorem wpList_more {w : World} {ops : Array Oper} {rest : List Oper} {o : Oper} {a : Act} {Q : Exit → Act → World → Prop} (hgd : o.guard = none) (s x : Operand)
    (ho : o.op = .call { callee := .builtin .append, args := #[s, x], argTypes := #[27, 27] })
    (base : Nat) (v xv : Value) (vs ys : List Bool) (hs : a.eval s = v) (hxv : a.eval x = xv) (hv : Ownb w base v vs) (hne : 0 < vs.length) (hx : IsBits w xv ys) (hlen : vs.length + ys.length ≤ 1048576) (m : Nat) (hm : Hid ((vs ++ ys).length = m))
    (h : ∀ g cap w', Ownb w' base (.slice (some ⟨g, 0, none⟩) m cap) (vs ++ ys) → w.grownBy w' v.ownBlock → wpList Try.prog ops Q rest (a.put o.dst (.slice (some ⟨g, 0, none⟩) m cap)) w') :
    wpList Try.prog ops Q (o :: rest) a w := by
  refine wpList_plain hgd fun K hK => ?_
  obtain ⟨g, cap, w', hr, h2, h3, _⟩ := run_more w base o.type v xv vs ys hv hne hx hlen
  have hm' := hm.out
  subst hm'
  unfold Oper.wp execOp
  simp only [ho, resolve, invoke, builtin, Sem.run_bind, Sem.run_pure, Result.andThen_ok, List.map_toArray, List.map_cons, List.map_nil, hs, hxv, hr]
  exact hK _ _ (h g cap w' h2 h3)

theorem oper_more {w : World} {o : Oper} {a : Act} {K : Act → World → Prop} {Q : Exit → Act → World → Prop} (s x : Operand)
    (ho : o.op = .call { callee := .builtin .append, args := #[s, x], argTypes := #[27, 27] })
    (base : Nat) (v xv : Value) (vs ys : List Bool) (hs : a.eval s = v) (hxv : a.eval x = xv) (hv : Ownb w base v vs) (hne : 0 < vs.length) (hx : IsBits w xv ys) (hlen : vs.length + ys.length ≤ 1048576) (m : Nat) (hm : Hid ((vs ++ ys).length = m))
    (h : ∀ g cap w', Ownb w' base (.slice (some ⟨g, 0, none⟩) m cap) (vs ++ ys) → w.grownBy w' v.ownBlock → K (a.put o.dst (.slice (some ⟨g, 0, none⟩) m cap)) w') :
    o.wp Try.prog a w K Q := by
  obtain ⟨g, cap, w', hr, h2, h3, _⟩ := run_more w base o.type v xv vs ys hv hne hx hlen
  have hm' := hm.out
  subst hm'
  unfold Oper.wp execOp
  simp only [ho, resolve, invoke, builtin, Sem.run_bind, Sem.run_pure, Result.andThen_ok, List.map_toArray, List.map_cons, List.map_nil, hs, hxv, hr]
  exact h g cap w' h2 h3

theorem kept_cells {W W' : World} {row : Option Nat} (hg : W.grownBy W' row) (hr : ∀ r, row = some r → ∃ o : Obj, W.heap[r]? = some o ∧ o.isCells = false) {k : Nat} {c : Array Value} {t : TypeId} {z : Nat × Nat} (h : W.heap[k]? = some (.cells c t z)) : W'.heap[k]? = some (.cells c t z) :=
  (hg.block k (Array.getElem?_eq_some_iff.1 h).1 (fun e => by
    obtain ⟨o, ho, hc⟩ := hr k e.symm
    rw [h] at ho
    cases ho
    cases hc)).trans h

/-- What the program has while it reckons nodes: the variable's box, the row of its own, the circuit's box. -/
structure Vst (w W : World) (B : Nat) (vs : List Bool) (v c0 c1 c2 c3 : Value) : Prop where
  box : Boxed W B 27 v
  row : Ownb W w.heap.size v vs
  bel : Below w.heap.size w W
  le : w.heap.size ≤ B
  cir : Own4 W w.heap.size 33 c0 c1 c2 c3

theorem own_ne {W : World} {base : Nat} {v : Value} {vs : List Bool} (h : Ownb W base v vs) {k : Nat} {cs : Array Value} {t : TypeId} (ht : t ≠ 4) (hk : W.heap[k]? = some (.cells cs t (0, 0))) : some k ≠ v.ownBlock := by
  rcases h.2 with ⟨rfl, _⟩ | ⟨g, cap, cur, rfl, _, hgb, _⟩
  · simp [Value.ownBlock]
  · intro e
    obtain rfl : k = g := by simpa [Value.ownBlock] using e
    rw [hgb] at hk
    simp at hk
    exact ht hk.2.symm

theorem below_grown {n₀ : Nat} {w W w2 : World} {v : Value} {vs : List Bool} (hw : Below n₀ w W) (h : Ownb W n₀ v vs) (hn : n₀ ≤ W.heap.size) (hg : W.grownBy w2 v.ownBlock) : Below n₀ w w2 :=
  hw.grown hg hn (fun k e => by
    rcases h.2 with ⟨rfl, _⟩ | ⟨g, cap, cur, rfl, hb, _, _⟩
    · simp [Value.ownBlock] at e
    · obtain rfl : g = k := by simpa [Value.ownBlock] using e
      exact hb)

theorem Ownb.kept {W W' : World} {base : Nat} {v : Value} {vs : List Bool} (h : Ownb W base v vs) {row : Option Nat} (hg : W.grownBy W' row) (hr : ∀ r, row = some r → ∃ o : Obj, W.heap[r]? = some o ∧ o.isCells = false) : Ownb W' base v vs := by
  refine ⟨h.1, ?_⟩
  rcases h.2 with h2 | ⟨g, cap, cur, hv, hgb, hh, r⟩
  · exact .inl h2
  · exact .inr ⟨g, cap, cur, hv, hgb, kept_cells hg hr hh, r⟩

theorem Vst.kept {w W W' : World} {B : Nat} {vs : List Bool} {v c0 c1 c2 c3 : Value} (h : Vst w W B vs v c0 c1 c2 c3) {row : Option Nat} (hg : W.grownBy W' row) (hb : ∀ r, row = some r → w.heap.size ≤ r) (hr : ∀ r, row = some r → ∃ o : Obj, W.heap[r]? = some o ∧ o.isCells = false) : Vst w W' B vs v c0 c1 c2 c3 :=
  ⟨kept_cells hg hr h.box, h.row.kept hg hr, h.bel.grown hg h.bel.size hb, h.le, kept_cells hg hr h.cir⟩

theorem Vst.below {w W W' : World} {B : Nat} {vs : List Bool} {v c0 c1 c2 c3 : Value} (h : Vst w W B vs v c0 c1 c2 c3) (hb : Below W.heap.size W W') : Vst w W' B vs v c0 c1 c2 c3 :=
  h.kept (grown_of_below hb) (fun r e => by cases e) (fun r e => by cases e)

theorem Vst.more {w W w2 : World} {B : Nat} {vs zs : List Bool} {v v' c0 c1 c2 c3 : Value} (h : Vst w W B vs v c0 c1 c2 c3) (hown : Ownb w2 w.heap.size v' zs) (hg : W.grownBy w2 v.ownBlock) (hne : B ≠ w.heap.size) :
    Boxed w2 B 27 v ∧ Vst w (w2.setCell ⟨B, 0, none⟩ v') B zs v' c0 c1 c2 c3 := by
  have hb2 : Boxed w2 B 27 v := h.box.kept hg (own_ne h.row (by decide) h.box)
  have hc2 : Own4 w2 w.heap.size 33 c0 c1 c2 c3 := (hg.block _ h.cir.lt (own_ne h.row (by decide) h.cir)).trans h.cir
  refine ⟨hb2, hb2.set v', ?_, below_set (below_grown h.bel h.row h.bel.size hg) h.le _, h.le, hc2.other (by show w.heap.size ≠ B; omega) _⟩
  exact hown.of_block (fun g e => blk_setCell_other _ _ _ _ (by
    show g ≠ B
    intro e2
    subst e2
    exact own_ne hown (by decide) hb2 e.symm))

theorem below_set' {n₀ : Nat} {w w' : World} (h : Below n₀ w w') {B : Nat} (hB : n₀ ≤ B) (u : Value) : Below n₀ w (w'.setCell ⟨B, 0, none⟩ u) := h.setCell (p := ⟨B, 0, none⟩) hB u

theorem box_ne {w W : World} {B Ba : Nat} {vs : List Bool} {v c0 c1 c2 c3 d0 d1 d2 d3 : Value} (hV : Vst w W B vs v c0 c1 c2 c3) (hO : Own4 W Ba 33 d0 d1 d2 d3) : B ≠ Ba := by
  intro e
  subst e
  have h1 : W.heap[B]? = some (.cells #[v] 27 (0, 0)) := hV.box
  have h2 : W.heap[B]? = some (.cells #[d0, d1, d2, d3] 33 (0, 0)) := hO
  rw [h1] at h2
  simp at h2

/-- One node more: what a round leaves. -/
theorem vals_step {w W V : World} {N B Ba : Nat} {vs zs : List Bool} {v v' c0 c1 c2 c3 : Value} {tmp : Obj} (hV : Vst w W B vs v c0 c1 c2 c3) (hO : Own4 W Ba 33 c0 c1 c2 c3) (hBB : B ≠ Ba) (hg : ((W.drewN N).alloc tmp).grownBy V v.ownBlock) (hown : Ownb V w.heap.size v' zs) (hne : B ≠ w.heap.size) :
    KeepsOthers W (V.setCell ⟨B, 0, none⟩ v') ∧ KpA w.heap.size Ba W (V.setCell ⟨B, 0, none⟩ v') ∧ Vst w (V.setCell ⟨B, 0, none⟩ v') B zs v' c0 c1 c2 c3 ∧ Own4 (V.setCell ⟨B, 0, none⟩ v') Ba 33 c0 c1 c2 c3 := by
  have hVa : Vst w ((W.drewN N).alloc tmp) B vs v c0 c1 c2 c3 := Vst.below (W := W.drewN N) ⟨hV.box, hV.row, below_drewN hV.bel _, hV.le, hV.cir⟩ (belOne _ _)
  have hOa : Own4 ((W.drewN N).alloc tmp) Ba 33 c0 c1 c2 c3 := (blk_alloc_lt (W.drewN N) tmp Ba hO.lt).trans hO
  have hOv : Own4 V Ba 33 c0 c1 c2 c3 := (hg.block Ba hOa.lt (own_ne hVa.row (by decide) hOa)).trans hOa
  have hOf : Own4 (V.setCell ⟨B, 0, none⟩ v') Ba 33 c0 c1 c2 c3 := hOv.other (by show Ba ≠ B; omega) _
  have hW1 : Below W.heap.size W ((W.drewN N).alloc tmp) := belNext (below_drewN (Below.refl _ _) N) (belOne _ _)
  refine ⟨⟨?_, fun k o hk ho => ?_⟩, ⟨?_, hOf.trans hO.symm⟩, (hVa.more hown hg hne).2, hOf⟩
  · have h1 := hW1.size
    have h2 := hg.size
    simp at h1 h2 ⊢
    omega
  · have hk1 : ((W.drewN N).alloc tmp).heap[k]? = some o := (hW1.block k (Array.getElem?_eq_some_iff.1 hk).1).trans hk
    have hkg : some k ≠ v.ownBlock := by
      rcases hVa.row.2 with ⟨rfl, _⟩ | ⟨g, cap, cur, rfl, _, hgb, _⟩
      · simp [Value.ownBlock]
      · intro e
        obtain rfl : k = g := by simpa [Value.ownBlock] using e
        rw [hgb] at hk1
        cases hk1
        cases ho
    have hkB : k ≠ B := by
      intro e
      subst e
      have := hV.box
      unfold Boxed at this
      rw [this] at hk
      cases hk
      cases ho
    exact (blk_setCell_other _ _ _ _ hkB).trans ((hg.block k (Array.getElem?_eq_some_iff.1 hk1).1 hkg).trans hk1)
  · exact below_set' (below_grown (hW1.mono hV.bel.size) hVa.row (Nat.le_trans hV.bel.size hW1.size) hg) hV.le _

set_option maxRecDepth 100000 in
set_option maxHeartbeats 4000000 in
theorem implAigValues_fit (inp : Int) (al aa ab : Option Addr) (cl ca cb : Nat) (ls : List (Int × Bool)) (xs : List (Int × Int)) (bs : List Int) (alt ain : Option Addr) (clt cin : Nat) (lats ins : List Bool) (w : World) (hC : IsCir w al aa ab cl ca cb ls xs bs)
    (hLa : IsBits w (.slice alt lats.length clt) lats) (hIn : IsBits w (.slice ain ins.length cin) ins) (hok : okC inp ls xs bs = true) (hll : lats.length = ls.length) (hil : (ins.length : Int) = inp) (h64 : ∀ p ∈ xs, I64 p.1 ∧ I64 p.2) :
    Calls Try.prog 15 #[.agg #[.int .i64 inp, .slice al ls.length cl, .slice aa xs.length ca, .slice ab bs.length cb], .slice alt lats.length clt, .slice ain ins.length cin] w fun e w' =>
      ∃ g cap, e = .returned (.slice (some ⟨g, 0, none⟩) (valF (startOf ins lats) xs xs.length).length cap) ∧ Ownb w' w.heap.size (.slice (some ⟨g, 0, none⟩) (valF (startOf ins lats) xs xs.length).length cap) (valF (startOf ins lats) xs xs.length) ∧ Below w.heap.size w w' := by
  have hsz : 0 ≤ inp ∧ inp ≤ 8 ∧ ls.length ≤ 8 ∧ xs.length ≤ 40 ∧ bs.length ≤ 4 := by
    unfold okC sizesB at hok
    simp only [Bool.and_eq_true, decide_eq_true_eq] at hok
    exact hok.1
  obtain ⟨h0, h1, h2, h3, h4⟩ := hsz
  have HC : Hid (∀ w', Below w.heap.size w w' → IsCir w' al aa ab cl ca cb ls xs bs) := fun w' h => hC.below h
  have HLA : Hid (∀ w', Below w.heap.size w w' → IsBits w' (.slice alt lats.length clt) lats) := fun w' h => hLa.below h
  have HIN : Hid (∀ w', Below w.heap.size w w' → IsBits w' (.slice ain ins.length cin) ins) := fun w' h => hIn.below h
  have HOK : Hid (okC inp ls xs bs = true) := hok
  have b1 : ((lats.length : Int) != (ls.length : Int)) = false := by simp [hll]
  have b2 : ((ins.length : Int) != inp) = false := by simp [hil]
  have HLL : Hid (lats.length = ls.length) := hll
  have HIL : Hid ((ins.length : Int) = inp) := hil
  have H64 : Hid (∀ p ∈ xs, I64 p.1 ∧ I64 p.2) := h64
  have HO0 : Hid (Own4 (w.alloc (.cells #[.int .i64 inp, .slice al ls.length cl, .slice aa xs.length ca, .slice ab bs.length cb] 33)) w.heap.size 33 (.int .i64 inp) (.slice al ls.length cl) (.slice aa xs.length ca) (.slice ab bs.length cb)) := Own4.new _ _ _ _ _ _
  have HC0 : Hid (IsCir w al aa ab cl ca cb ls xs bs) := hC
  clear hC hLa hIn hok hll hil h64
  refine (callsIn_wide (n := 8)).1 ?_
  refine callsIn_of_wp_marks Try.func15 rfl trivial ?_ rfl
  simp only [Try.ntmps15, List.size_toArray, List.length_cons, List.length_nil, Nat.reduceAdd, Nat.reduceSub, Array.replicate_succ, Array.replicate_zero, List.push_toArray, List.append_toArray, List.nil_append, List.cons_append]
  refine wpIn_wide.2 ?_
  go_wp2_with fail
  refine (implAigOk_any inp al aa ab cl ca cb ls xs bs _ (HC.out _ (belOne _ _))).mono ?_
  rintro e w1 ⟨rfl, hb1⟩
  rw [HOK.out]
  have HB1 : Hid (Below w.heap.size w w1) := belNext (belOne _ _) hb1
  have HO1 : Hid (Own4 w1 w.heap.size 33 (.int .i64 inp) (.slice al ls.length cl) (.slice aa xs.length ca) (.slice ab bs.length cb)) := HO0.out.below hb1
  have HF1 : Hid (Four w1 w.heap.size (.int .i64 inp) (.slice al ls.length cl) (.slice aa xs.length ca) (.slice ab bs.length cb)) := HO1.out.four
  clear hb1
  have c0 := HF1.out.c0
  have c1 := HF1.out.c1
  have c2 := HF1.out.c2
  have c3 := HF1.out.c3
  have c4 := HF1.out.lt
  have hlt1 : w.heap.size < w1.heap.size := c4
  have V0 : Hid (Vst w ((w1.alloc (.cells #[.bool false] 4)).alloc (.cells #[.slice (some ⟨w1.heap.size, 0, none⟩) 1 1] 27)) (w1.heap.size + 1) [false] (.slice (some ⟨w1.heap.size, 0, none⟩) 1 1) (.int .i64 inp) (.slice al ls.length cl) (.slice aa xs.length ca) (.slice ab bs.length cb)) := by
    have hbx := Boxed.new (w1.alloc (.cells #[.bool false] 4)) 27 (.slice (some ⟨w1.heap.size, 0, none⟩) 1 1)
    rw [World.size_alloc] at hbx
    have hrw : Ownb (w1.alloc (.cells #[.bool false] 4)) w.heap.size (.slice (some ⟨w1.heap.size, 0, none⟩) 1 1) [false] :=
      ⟨by simp, .inr ⟨w1.heap.size, 1, #[.bool false], rfl, by omega, World.alloc_heap_new _ _, Nat.le_refl _, by unfold maxLen; omega, by simp, by simp⟩⟩
    exact ⟨hbx, hrw.below (belOne _ _), belNext (belNext HB1.out (belOne _ _)) (belOne _ _), by omega, (HO1.out.below (belOne _ _)).below (belOne _ _)⟩
  have HI1 : Hid (IsBits ((w1.alloc (.cells #[.bool false] 4)).alloc (.cells #[.slice (some ⟨w1.heap.size, 0, none⟩) 1 1] 27)) (.slice ain ins.length cin) ins) := HIN.out _ V0.out.bel
  have hli : ins.length ≤ 8 := by have := HIL.out; omega
  have hlt : lats.length ≤ 8 := by have := HLL.out; omega
  obtain ⟨m2, hm2⟩ : ∃ m, ([false] ++ ins).length = m := ⟨_, rfl⟩
  obtain ⟨m3, hm3⟩ : ∃ m, ([false] ++ ins ++ lats).length = m := ⟨_, rfl⟩
  have HM2 : Hid (([false] ++ ins).length = m2) := hm2
  have HM3 : Hid (([false] ++ ins ++ lats).length = m3) := hm3
  have hm2l : m2 ≤ 9 := by rw [← hm2]; simp; omega
  have hm3l : m3 ≤ 17 := by rw [← hm3]; simp; omega
  clear hm2 hm3
  go_wp2_with (first
    | (at_builtin; refine wpList_more rfl _ _ rfl w.heap.size _ _ [false] ins rfl rfl V0.out.row (by simp) HI1.out (by simp; omega) m2 HM2 ?_; intro g2 cp2 w2 hv2 hg2; have hm2 := V0.out.more hv2 hg2 (by omega); have V2 : Hid (Vst w (w2.setCell ⟨w1.heap.size + 1, 0, none⟩ (.slice (some ⟨g2, 0, none⟩) m2 cp2)) (w1.heap.size + 1) ([false] ++ ins) (.slice (some ⟨g2, 0, none⟩) m2 cp2) (.int .i64 inp) (.slice al ls.length cl) (.slice aa xs.length ca) (.slice ab bs.length cb)) := hm2.2; have k2 := hm2.1.cell; have f2 := hm2.1.frozen; clear hm2 hv2 hg2 V0)
    | (at_builtin; refine wpList_more rfl _ _ rfl w.heap.size _ _ ([false] ++ ins) lats rfl rfl V2.out.row (by simp) (HLA.out _ V2.out.bel) (by simp; omega) m3 HM3 ?_; intro g3 cp3 w3 hv3 hg3; have hm3 := V2.out.more hv3 hg3 (by omega); have V3 : Hid (Vst w (w3.setCell ⟨w1.heap.size + 1, 0, none⟩ (.slice (some ⟨g3, 0, none⟩) m3 cp3)) (w1.heap.size + 1) ([false] ++ ins ++ lats) (.slice (some ⟨g3, 0, none⟩) m3 cp3) (.int .i64 inp) (.slice al ls.length cl) (.slice aa xs.length ca) (.slice ab bs.length cb)) := hm3.2; have k3 := hm3.1.cell; have f3 := hm3.1.frozen; have x0 := V3.out.cir.four.c0; have x1 := V3.out.cir.four.c1; have x2 := V3.out.cir.four.c2; have x3 := V3.out.cir.four.c3; have x4 := V3.out.cir.lt; clear hm3 hv3 hg3 V2)
    | (go_at_call 55; refine (andNodes_any _ _ _ _ _ _ _ _ _ _ _).mono ?_; rintro e w' ⟨rfl, rfl⟩))
  have hsw : (w3.setCell ⟨w1.heap.size + 1, 0, none⟩ (.slice (some ⟨g3, 0, none⟩) m3 cp3)).heap.size = w3.heap.size := by simp
  have V4 := V3.out.below (belOne _ (.cells #[.int .i64 inp, .slice al ls.length cl, .slice aa xs.length ca, .slice ab bs.length cb] 33))
  have O4 := Own4.new (w3.setCell ⟨w1.heap.size + 1, 0, none⟩ (.slice (some ⟨g3, 0, none⟩) m3 cp3)) 33 (.int .i64 inp) (.slice al ls.length cl) (.slice aa xs.length ca) (.slice ab bs.length cb)
  have hs4 : ((w3.setCell ⟨w1.heap.size + 1, 0, none⟩ (.slice (some ⟨g3, 0, none⟩) m3 cp3)).alloc (.cells #[.int .i64 inp, .slice al ls.length cl, .slice aa xs.length ca, .slice ab bs.length cb] 33)).heap.size = w3.heap.size + 1 := by simp
  rw [hsw] at O4
  clear x0 x1 x2 x3 x4 k2 f2 k3 f3 V3 hsw
  generalize ((w3.setCell ⟨w1.heap.size + 1, 0, none⟩ (.slice (some ⟨g3, 0, none⟩) m3 cp3)).alloc (.cells #[.int .i64 inp, .slice al ls.length cl, .slice aa xs.length ca, .slice ab bs.length cb] 33)) = W0 at *
  refine (wpIn_wide (n := 8)).1 ?_
  refine rangeAll (by omega) (gf := 96) (lb := #[.pointer (some ⟨w3.heap.size, 0, none⟩)]) rfl (enters_of Try.func96 (by kernel_rfl) rfl)
    (andNodes_gives 7 (by omega) w3.heap.size w.heap.size inp al aa ab ls.length cl ca bs.length cb xs h0 h1 h2 h3 W0 V4.bel.size O4 (HC.out _ V4.bel).isA (fun b off e => (HC0.out.inA b off e))) KpA.trans (KpA.put V4.bel.size (by omega)) (fun _ => rfl)
    (fun k W => ∃ g m cp, Hid ((valF ([false] ++ ins ++ lats) xs k).length = m) ∧ Vst w W (w1.heap.size + 1) (valF ([false] ++ ins ++ lats) xs k) (.slice (some ⟨g, 0, none⟩) m cp) (.int .i64 inp) (.slice al ls.length cl) (.slice aa xs.length ca) (.slice ab bs.length cb) ∧ Own4 W w3.heap.size 33 (.int .i64 inp) (.slice al ls.length cl) (.slice aa xs.length ca) (.slice ab bs.length cb))
    ?hI ⟨g3, m3, cp3, HM3, V4, O4⟩
    (fun x a' W => ∃ Bx, W0.heap.size ≤ Bx ∧ W.heap[Bx]? = some (.cells #[.int .i64 x.2.1, .int .i64 x.2.2] 65 (0, 0)) ∧ a' = { tmps := #[.agg #[.int .i64 inp, .slice al ls.length cl, .slice aa xs.length ca, .slice ab bs.length cb], .slice alt lats.length clt, .slice ain ins.length cin, .pointer (some ⟨w.heap.size, 0, none⟩), undef, undef, .slice none 0 0, .pointer (some ⟨w1.heap.size + 1, 0, none⟩), undef, .pointer (some ⟨Bx, 0, none⟩), .agg #[.int .i64 inp, .slice al ls.length cl, .slice aa xs.length ca, .slice ab bs.length cb], .bool true, .bool false, .bool false, .slice alt lats.length clt, .int .i64 lats.length, .pointer (some ⟨w.heap.size, 1, none⟩), .slice al ls.length cl, .int .i64 ls.length, .bool false, .bool false, .bool false, .slice ain ins.length cin, .int .i64 ins.length, .pointer (some ⟨w.heap.size, 0, none⟩), .int .i64 inp, .bool false, .bool false, .slice (some ⟨w1.heap.size, 0, none⟩) 1 1, .slice (some ⟨w1.heap.size, 0, none⟩) 1 1, .slice ain ins.length cin, .slice (some ⟨g2, 0, none⟩) m2 cp2, .slice (some ⟨g2, 0, none⟩) m2 cp2, .slice alt lats.length clt, .slice (some ⟨g3, 0, none⟩) m3 cp3, .agg #[.int .i64 inp, .slice al ls.length cl, .slice aa xs.length ca, .slice ab bs.length cb], .func (.func 96) #[] #[.pointer (some ⟨w3.heap.size, 0, none⟩)], .int .i64 x.1, .agg #[.int .i64 x.2.1, .int .i64 x.2.2], undef, undef, undef, undef, undef, undef, undef, undef, undef, undef, undef, undef, undef, undef], defers := [] })
    ?hAx ?assign ?body ?done
  case hI =>
    rintro k A B row ⟨g, m, cp, hm, hV, hO⟩ hg hr
    have hb0 := V4.bel.size
    exact ⟨g, m, cp, hm, hV.kept hg (fun r e => by have := (hr r e).1; omega) (fun r e => (hr r e).2), kept_cells hg (fun r e => (hr r e).2) hO⟩
  case hAx =>
    rintro x a' s A B row ⟨Bx, hBx, hT, he⟩ hg hr
    exact ⟨Bx, hBx, kept_cells hg (fun r e => (hr r e).2) hT, he⟩
  case assign =>
    rintro l k x W K hx ⟨g, m, cp, hm, hV, hO⟩ hK
    gi_wp2
    exact hK _ _ ((KeepsOthers.alloc _ _).from _) (KpA.of_below hV.bel.size hO.lt (belOne _ _)) ⟨g, m, cp, hm, hV.below (belOne _ _), hO.below (belOne _ _)⟩ ⟨W.heap.size, by have := hO.lt; omega, World.alloc_heap_new _ _, rfl⟩
  case body =>
    rintro l k x a' W hx ⟨g, m, cp, hm, hV, hO⟩ ⟨Bx, hBx, hT, rfl⟩
    have hkl : k < xs.length := by
      have := (List.getElem?_eq_some_iff.1 hx).1
      rw [nodesFrom_length] at this
      exact this
    rw [nodesFrom_get _ xs k hkl] at hx
    obtain rfl : (1 + inp + (ls.length : Int) + (k : Int), xs.getD k (0, 0)) = x := by simpa using hx
    have hvl := valF_length ([false] ++ ins ++ lats) xs k (by omega)
    have hsl : (([false] ++ ins ++ lats).length : Int) = 1 + inp + ls.length := by have e1 := HIL.out; have e2 := HLL.out; simp; omega
    have hsucc := valF_succ ([false] ++ ins ++ lats) xs k hkl
    have hp := pair_of_ok HOK.out hkl
    have hmem : xs.getD k (0, 0) ∈ xs := by rw [List.getD, List.getElem?_eq_getElem hkl]; simp
    have h64 := H64.out _ hmem
    generalize xs.getD k (0, 0) = q at *
    obtain ⟨q1, q2⟩ := q
    obtain ⟨p1, p2⟩ := hp
    have hp1 := ahead_of p1 h64.1
    have hp2 := ahead_of p2 h64.2
    have hpos : 0 < (valF ([false] ++ ins ++ lats) xs k).length := by omega
    have hl60 : (valF ([false] ++ ins ++ lats) xs k).length ≤ 100 := by rw [hvl]; omega
    have hr1 : q1 < 2 * ((valF ([false] ++ ins ++ lats) xs k).length : Int) := by rw [hvl]; omega
    have hr2 : q2 < 2 * ((valF ([false] ++ ins ++ lats) xs k).length : Int) := by rw [hvl]; omega
    generalize valF ([false] ++ ins ++ lats) xs k = vs at *
    have HV : Hid (Vst w W (w1.heap.size + 1) vs (.slice (some ⟨g, 0, none⟩) m cp) (.int .i64 inp) (.slice al ls.length cl) (.slice aa xs.length ca) (.slice ab bs.length cb)) := hV
    have HS : Hid (valF ([false] ++ ins ++ lats) xs (k + 1) = vs ++ [litV vs q1 && litV vs q2]) := hsucc
    have HM : Hid (vs.length = m) := hm
    have HO : Hid (Own4 W w3.heap.size 33 (.int .i64 inp) (.slice al ls.length cl) (.slice aa xs.length ca) (.slice ab bs.length cb)) := hO
    have HT : Hid (W.heap[Bx]? = some (.cells #[.int .i64 q1, .int .i64 q2] 65 (0, 0))) := hT
    have hBxl : Bx < W.heap.size := (Array.getElem?_eq_some_iff.1 hT).1
    have s0 : W.cell? ⟨w1.heap.size + 1, 0, none⟩ = some (.slice (some ⟨g, 0, none⟩) m cp) := hV.box.cell
    have s1 : W.cell? ⟨Bx, 0, none⟩ = some (.int .i64 q1) := by simp [World.cell?, hT]
    have s2 : W.cell? ⟨Bx, 1, none⟩ = some (.int .i64 q2) := by simp [World.cell?, hT]
    have hbl := hV.box.lt
    clear hx hvl hsl hsucc p1 p2 h64 hV hO hT hm hmem
    gi_wp2
    refine region_roundS (fin := 13) (S := fun V => V.cell? ⟨w1.heap.size + 1, 0, none⟩ = some (.slice (some ⟨g, 0, none⟩) m cp) ∧ V.cell? ⟨Bx, 0, none⟩ = some (.int .i64 q1) ∧ V.cell? ⟨Bx, 1, none⟩ = some (.int .i64 q2)) (by kernel_rfl) (by kernel_rfl) ?lets ⟨s0, s1, s2⟩ (fun hHeld => ?walk)
    case lets =>
      rintro ⟨a, v, h⟩
      have h' := (show Exit.outgrown = Exit.normal ∧ _ from h).1
      cases h'
    case walk =>
      obtain ⟨b1, hb1⟩ : ∃ b, litV vs q1 = b := ⟨_, rfl⟩
      obtain ⟨b2, hb2⟩ : ∃ b, litV vs q2 = b := ⟨_, rfl⟩
      have HB1 : Hid (litV vs q1 = b1) := hb1
      have HB2 : Hid (litV vs q2 = b2) := hb2
      clear hb1 hb2
      refine takeS (i := 0) (v := .slice (some ⟨g, 0, none⟩) m cp) rfl (by kernel_rfl) (by kernel_rfl) (by kernel_rfl) (by kernel_rfl) (fun _ _ _ h => h) (Or.inl ⟨by rfl, fun w hS => by obtain ⟨s0, s1, s2⟩ := hS; go_simp⟩) ⟨s0, s1, s2⟩ ?_
      simp only [List.getElem_toArray, List.getElem_cons_zero, Act.put, List.setIfInBounds_toArray, List.set_cons_zero, List.set_cons_succ]
      refine takeS (i := 1) (v := .pointer (some ⟨Bx, 0, none⟩)) rfl (by kernel_rfl) (by kernel_rfl) (by kernel_rfl) (by kernel_rfl) (fun _ _ _ h => h) (Or.inl ⟨by rfl, fun w hS => by obtain ⟨s0, s1, s2⟩ := hS; go_simp⟩) ⟨s0, s1, s2⟩ ?_
      simp only [List.getElem_toArray, List.getElem_cons_zero, List.getElem_cons_succ, Act.put, List.setIfInBounds_toArray, List.set_cons_zero, List.set_cons_succ]
      refine takeS (i := 2) (v := .int .i64 q1) rfl (by kernel_rfl) (by kernel_rfl) (by kernel_rfl) (by kernel_rfl) (fun _ _ _ h => h) (Or.inl ⟨by rfl, fun w hS => by obtain ⟨s0, s1, s2⟩ := hS; go_simp⟩) ⟨s0, s1, s2⟩ ?_
      simp only [List.getElem_toArray, List.getElem_cons_zero, List.getElem_cons_succ, Act.put, List.setIfInBounds_toArray, List.set_cons_zero, List.set_cons_succ]
      refine takeS (i := 3) (v := .slice (some ⟨g, 0, none⟩) m cp) rfl (by kernel_rfl) (by kernel_rfl) (by kernel_rfl) (by kernel_rfl) (fun _ _ _ h => h) (Or.inl ⟨by rfl, fun w hS => by obtain ⟨s0, s1, s2⟩ := hS; go_simp⟩) ⟨s0, s1, s2⟩ ?_
      simp only [List.getElem_toArray, List.getElem_cons_zero, List.getElem_cons_succ, Act.put, List.setIfInBounds_toArray, List.set_cons_zero, List.set_cons_succ]
      have HR : Hid (Ownb W w.heap.size (.slice (some ⟨g, 0, none⟩) m cp) vs) := HV.out.row
      refine oneS (i := 4) (by kernel_rfl) rfl (by rfl) ?_
      simp only [List.getElem_toArray, List.getElem_cons_zero, List.getElem_cons_succ]
      go_simp
      refine (is_any q1 (.slice (some ⟨g, 0, none⟩) m cp) vs _ (by exact HR.out.isBits) hp1.1 hr1 hl60).mono ?_
      rintro e W4' ⟨rfl, nW4, rfl⟩
      rw [HB1.out]
      refine ⟨⟨s0, s1, s2⟩, ?_⟩
      cases b1 with
      | false =>
        refine takeS (i := 5) (v := .bool false) rfl (by kernel_rfl) (by kernel_rfl) (by kernel_rfl) (by kernel_rfl) (fun _ _ _ h => h) (Or.inl ⟨by rfl, fun w hS => by obtain ⟨s0, s1, s2⟩ := hS; go_simp⟩) ⟨s0, s1, s2⟩ ?_
        simp only [List.getElem_toArray, List.getElem_cons_zero, List.getElem_cons_succ, Act.put, List.setIfInBounds_toArray, List.set_cons_zero, List.set_cons_succ]
        refine takeS (i := 6) (v := undef) rfl (by kernel_rfl) (by kernel_rfl) (by kernel_rfl) (by kernel_rfl) (fun _ _ _ h => h) (Or.inr ⟨by rfl, rfl⟩) ⟨s0, s1, s2⟩ ?_
        simp only [List.getElem_toArray, List.getElem_cons_zero, List.getElem_cons_succ, Act.put, List.setIfInBounds_toArray, List.set_cons_zero, List.set_cons_succ]
        refine takeS (i := 7) (v := undef) rfl (by kernel_rfl) (by kernel_rfl) (by kernel_rfl) (by kernel_rfl) (fun _ _ _ h => h) (Or.inr ⟨by rfl, rfl⟩) ⟨s0, s1, s2⟩ ?_
        simp only [List.getElem_toArray, List.getElem_cons_zero, List.getElem_cons_succ, Act.put, List.setIfInBounds_toArray, List.set_cons_zero, List.set_cons_succ]
        refine takeS (i := 8) (v := undef) rfl (by kernel_rfl) (by kernel_rfl) (by kernel_rfl) (by kernel_rfl) (fun _ _ _ h => h) (Or.inr ⟨by rfl, rfl⟩) ⟨s0, s1, s2⟩ ?_
        simp only [List.getElem_toArray, List.getElem_cons_zero, List.getElem_cons_succ, Act.put, List.setIfInBounds_toArray, List.set_cons_zero, List.set_cons_succ]
        refine takeS (i := 9) (v := undef) rfl (by kernel_rfl) (by kernel_rfl) (by kernel_rfl) (by kernel_rfl) (fun _ _ _ h => h) (Or.inr ⟨by rfl, rfl⟩) ⟨s0, s1, s2⟩ ?_
        simp only [List.getElem_toArray, List.getElem_cons_zero, List.getElem_cons_succ, Act.put, List.setIfInBounds_toArray, List.set_cons_zero, List.set_cons_succ]
        refine takeS (i := 10) (v := .bool false) rfl (by kernel_rfl) (by kernel_rfl) (by kernel_rfl) (by kernel_rfl) (fun _ _ _ h => h) (Or.inl ⟨by rfl, fun w hS => by obtain ⟨s0, s1, s2⟩ := hS; go_simp⟩) ⟨s0, s1, s2⟩ ?_
        simp only [List.getElem_toArray, List.getElem_cons_zero, List.getElem_cons_succ, Act.put, List.setIfInBounds_toArray, List.set_cons_zero, List.set_cons_succ]
        refine oneS (i := 11) (by kernel_rfl) rfl (by rfl) ?_
        simp only [List.getElem_toArray, List.getElem_cons_zero, List.getElem_cons_succ]
        go_simp
        have HVa : Vst w ((W.drewN (1 + nW4)).alloc (.cells #[.bool false] 4)) (w1.heap.size + 1) vs (.slice (some ⟨g, 0, none⟩) m cp) (.int .i64 inp) (.slice al ls.length cl) (.slice aa xs.length ca) (.slice ab bs.length cb) := Vst.below (W := W.drewN (1 + nW4)) ⟨HV.out.box, HV.out.row, below_drewN HV.out.bel _, HV.out.le, HV.out.cir⟩ (belOne _ _)
        have hTa : ((W.drewN (1 + nW4)).alloc (.cells #[.bool false] 4)).heap[Bx]? = some (.cells #[.int .i64 q1, .int .i64 q2] 65 (0, 0)) := (blk_alloc_lt (W.drewN (1 + nW4)) _ Bx hBxl).trans HT.out
        have hbit : IsBits ((W.drewN (1 + nW4)).alloc (.cells #[.bool false] 4)) (.slice (some ⟨W.heap.size, 0, none⟩) 1 1) [false] := ⟨_, _, rfl, fun _ => ⟨W.heap.size, 0, rfl, fun i hi => by obtain rfl : i = 0 := (by simpa using hi); exact (Boxed.new (W.drewN (1 + nW4)) 4 (.bool false)).cell⟩⟩
        refine ⟨⟨HVa.box.cell, by simp [World.cell?, hTa], by simp [World.cell?, hTa]⟩, ?_⟩
        refine oneS (i := 12) (by kernel_rfl) rfl (by rfl) ?_
        simp only [List.getElem_toArray, List.getElem_cons_zero, List.getElem_cons_succ]
        refine oper_more (.tmp 39) (.tmp 50) rfl w.heap.size _ _ vs [false] rfl rfl HVa.row hpos hbit (by simp; omega) (m + 1) (by show (vs ++ [false]).length = m + 1; rw [List.length_append, HM.out]; rfl) ?_
        intro g5 cp5 V5 hv5 hg5
        have hstep := vals_step HV.out HO.out (box_ne HV.out HO.out) hg5 hv5 (by omega)
        have hmore := HVa.more hv5 hg5 (by omega)
        have hT5 := (hg5.block Bx (Array.getElem?_eq_some_iff.1 hTa).1 (own_ne HVa.row (by decide) hTa)).trans hTa
        have k5 := hmore.1.cell
        have f5 := hmore.1.frozen
        have HST : Hid (_ ∧ _ ∧ _ ∧ _) := hstep
        clear hstep hmore hv5 hg5 hbit
        refine ⟨fun _ => ⟨k5, by simp [World.cell?, hT5], by simp [World.cell?, hT5]⟩, ?_⟩
        simp only [Act.put, List.setIfInBounds_toArray, List.set_cons_zero, List.set_cons_succ]
        refine oneS (i := 13) (by kernel_rfl) rfl (by rfl) ?_
        simp only [List.getElem_toArray, List.getElem_cons_zero, List.getElem_cons_succ]
        go_simp
        refine doneS (by kernel_rfl) ?_ _
        obtain ⟨z1, z2, z3, z4⟩ := HST.out
        have hzs : valF ([false] ++ ins ++ lats) xs (k + 1) = vs ++ [false] := by rw [HS.out, HB1.out, Bool.false_and]
        refine ⟨rfl, z1.from _, z2, g5, m + 1, cp5, ?_, ?_, z4⟩
        · show (valF ([false] ++ ins ++ lats) xs (k + 1)).length = m + 1; rw [hzs, List.length_append, HM.out]; rfl
        · rw [hzs]; exact z3
      | true =>
        refine takeS (i := 5) (v := .bool true) rfl (by kernel_rfl) (by kernel_rfl) (by kernel_rfl) (by kernel_rfl) (fun _ _ _ h => h) (Or.inl ⟨by rfl, fun w hS => by obtain ⟨s0, s1, s2⟩ := hS; go_simp⟩) ⟨s0, s1, s2⟩ ?_
        simp only [List.getElem_toArray, List.getElem_cons_zero, List.getElem_cons_succ, Act.put, List.setIfInBounds_toArray, List.set_cons_zero, List.set_cons_succ]
        refine takeS (i := 6) (v := .pointer (some ⟨Bx, 1, none⟩)) rfl (by kernel_rfl) (by kernel_rfl) (by kernel_rfl) (by kernel_rfl) (fun _ _ _ h => h) (Or.inl ⟨by rfl, fun w hS => by obtain ⟨s0, s1, s2⟩ := hS; go_simp⟩) ⟨s0, s1, s2⟩ ?_
        simp only [List.getElem_toArray, List.getElem_cons_zero, List.getElem_cons_succ, Act.put, List.setIfInBounds_toArray, List.set_cons_zero, List.set_cons_succ]
        refine takeS (i := 7) (v := .int .i64 q2) rfl (by kernel_rfl) (by kernel_rfl) (by kernel_rfl) (by kernel_rfl) (fun _ _ _ h => h) (Or.inl ⟨by rfl, fun w hS => by obtain ⟨s0, s1, s2⟩ := hS; go_simp⟩) ⟨s0, s1, s2⟩ ?_
        simp only [List.getElem_toArray, List.getElem_cons_zero, List.getElem_cons_succ, Act.put, List.setIfInBounds_toArray, List.set_cons_zero, List.set_cons_succ]
        refine takeS (i := 8) (v := .slice (some ⟨g, 0, none⟩) m cp) rfl (by kernel_rfl) (by kernel_rfl) (by kernel_rfl) (by kernel_rfl) (fun _ _ _ h => h) (Or.inl ⟨by rfl, fun w hS => by obtain ⟨s0, s1, s2⟩ := hS; go_simp⟩) ⟨s0, s1, s2⟩ ?_
        simp only [List.getElem_toArray, List.getElem_cons_zero, List.getElem_cons_succ, Act.put, List.setIfInBounds_toArray, List.set_cons_zero, List.set_cons_succ]
        refine oneS (i := 9) (by kernel_rfl) rfl (by rfl) ?_
        simp only [List.getElem_toArray, List.getElem_cons_zero, List.getElem_cons_succ]
        go_simp
        refine (is_any q2 (.slice (some ⟨g, 0, none⟩) m cp) vs _ (by exact HR.out.isBits) hp2.1 hr2 hl60).mono ?_
        rintro e W9' ⟨rfl, nW9, rfl⟩
        rw [HB2.out]
        refine ⟨⟨s0, s1, s2⟩, ?_⟩
        refine takeS (i := 10) (v := .bool b2) rfl (by kernel_rfl) (by kernel_rfl) (by kernel_rfl) (by kernel_rfl) (fun _ _ _ h => h) (Or.inl ⟨by rfl, fun w hS => by obtain ⟨s0, s1, s2⟩ := hS; go_simp⟩) ⟨s0, s1, s2⟩ ?_
        simp only [List.getElem_toArray, List.getElem_cons_zero, List.getElem_cons_succ, Act.put, List.setIfInBounds_toArray, List.set_cons_zero, List.set_cons_succ]
        refine oneS (i := 11) (by kernel_rfl) rfl (by rfl) ?_
        simp only [List.getElem_toArray, List.getElem_cons_zero, List.getElem_cons_succ]
        go_simp
        have HVa : Vst w ((W.drewN (1 + nW4 + nW9)).alloc (.cells #[.bool b2] 4)) (w1.heap.size + 1) vs (.slice (some ⟨g, 0, none⟩) m cp) (.int .i64 inp) (.slice al ls.length cl) (.slice aa xs.length ca) (.slice ab bs.length cb) := Vst.below (W := W.drewN (1 + nW4 + nW9)) ⟨HV.out.box, HV.out.row, below_drewN HV.out.bel _, HV.out.le, HV.out.cir⟩ (belOne _ _)
        have hTa : ((W.drewN (1 + nW4 + nW9)).alloc (.cells #[.bool b2] 4)).heap[Bx]? = some (.cells #[.int .i64 q1, .int .i64 q2] 65 (0, 0)) := (blk_alloc_lt (W.drewN (1 + nW4 + nW9)) _ Bx hBxl).trans HT.out
        have hbit : IsBits ((W.drewN (1 + nW4 + nW9)).alloc (.cells #[.bool b2] 4)) (.slice (some ⟨W.heap.size, 0, none⟩) 1 1) [b2] := ⟨_, _, rfl, fun _ => ⟨W.heap.size, 0, rfl, fun i hi => by obtain rfl : i = 0 := (by simpa using hi); exact (Boxed.new (W.drewN (1 + nW4 + nW9)) 4 (.bool b2)).cell⟩⟩
        refine ⟨⟨HVa.box.cell, by simp [World.cell?, hTa], by simp [World.cell?, hTa]⟩, ?_⟩
        refine oneS (i := 12) (by kernel_rfl) rfl (by rfl) ?_
        simp only [List.getElem_toArray, List.getElem_cons_zero, List.getElem_cons_succ]
        refine oper_more (.tmp 39) (.tmp 50) rfl w.heap.size _ _ vs [b2] rfl rfl HVa.row hpos hbit (by simp; omega) (m + 1) (by show (vs ++ [b2]).length = m + 1; rw [List.length_append, HM.out]; rfl) ?_
        intro g5 cp5 V5 hv5 hg5
        have hstep := vals_step HV.out HO.out (box_ne HV.out HO.out) hg5 hv5 (by omega)
        have hmore := HVa.more hv5 hg5 (by omega)
        have hT5 := (hg5.block Bx (Array.getElem?_eq_some_iff.1 hTa).1 (own_ne HVa.row (by decide) hTa)).trans hTa
        have k5 := hmore.1.cell
        have f5 := hmore.1.frozen
        have HST : Hid (_ ∧ _ ∧ _ ∧ _) := hstep
        clear hstep hmore hv5 hg5 hbit
        refine ⟨fun _ => ⟨k5, by simp [World.cell?, hT5], by simp [World.cell?, hT5]⟩, ?_⟩
        simp only [Act.put, List.setIfInBounds_toArray, List.set_cons_zero, List.set_cons_succ]
        refine oneS (i := 13) (by kernel_rfl) rfl (by rfl) ?_
        simp only [List.getElem_toArray, List.getElem_cons_zero, List.getElem_cons_succ]
        go_simp
        refine doneS (by kernel_rfl) ?_ _
        obtain ⟨z1, z2, z3, z4⟩ := HST.out
        have hzs : valF ([false] ++ ins ++ lats) xs (k + 1) = vs ++ [b2] := by rw [HS.out, HB1.out, HB2.out, Bool.true_and]
        refine ⟨rfl, z1.from _, z2, g5, m + 1, cp5, ?_, ?_, z4⟩
        · show (valF ([false] ++ ins ++ lats) xs (k + 1)).length = m + 1; rw [hzs, List.length_append, HM.out]; rfl
        · rw [hzs]; exact z3
  case done =>
    rintro D W hD ⟨g, m, cp, hm, hV, hO⟩ hK
    have s0 := hV.box.cell
    have hmm := hm.out
    subst hmm
    rw [nodesFrom_length] at hV s0
    go_wp2
    refine ⟨by simp, .inl ⟨_, _, rfl, run_takeDeferred hK, ?_⟩⟩
    have hle := V4.bel.size
    exact ⟨_, results_tmp rfl _ _ _, g, cp, rfl, hV.row.kept (grownBy_putObj' _ D (.deferred none)) (fun r e => by cases e; exact ⟨_, hK, rfl⟩), hV.bel.trans (belowK_b (w := w) (Nat.le_refl _) W D _ _ (by omega) hK rfl rfl)⟩

end Go.Proofs.Ytbdjdgamnnifjaa

/-
  Two rows of truths side by side; all nodes, latches and inputs being two pieces of one row.
-/
import Derived.Test.YtdkpgbmcnjkjkaaNeedD
import Derived.Deep.RegionHeld3
import Derived.Deep.DeepCutAuto
namespace Go.Proofs.Ytdkpgbmcnjkjkaa
open Go.ChangeShapes Go.WideShapes Go.ChangeAt Go.RowKit Go.Deep Go.Joins
set_option linter.unusedVariables false

theorem IsBytes.below {w w' : World} {v : Value} {bs : List Int} (h : IsBytes w v bs) (hb : Below w.heap.size w w') : IsBytes w' v bs := by
  obtain ⟨ao, cap, h1, h2, h3, h4⟩ := h
  refine ⟨ao, cap, h1, h2, fun hne => ?_, h4⟩
  obtain ⟨b, off, ha, hc⟩ := h3 hne
  exact ⟨b, off, ha, fun i hi => by rw [hb.cell (cell_lt (hc i hi))]; exact hc i hi⟩

/-- A truth of each byte. -/
def oddB (ms : List Int) (i : Nat) : Bool := decide (i < ms.length) && decide (ms.getD i 0 % 2 = 1)
def tab (f : Nat → Bool) (k : Nat) : List Bool := (List.range k).map f
theorem tab_succ (f : Nat → Bool) (k : Nat) : tab f (k + 1) = tab f k ++ [f k] := by unfold tab; rw [List.range_succ, List.map_append]; rfl
theorem tab_length (f : Nat → Bool) (k : Nat) : (tab f k).length = k := by simp [tab]
theorem tab_get (f : Nat → Bool) (k i : Nat) (h : i < k) : (tab f k).getD i false = f i := by simp [tab, List.getD, h]

/-- 'append(values, one)' on memory of the call's own: where it lies. -/
theorem wpList_push2 {w : World} {ops : Array Oper} {rest : List Oper} {o : Oper} {a : Act} {Q : Exit → Act → World → Prop} (hgd : o.guard = none) (s x : Operand)
    (ho : o.op = .call { callee := .builtin .append, args := #[s, x], argTypes := #[27, 27] })
    (base : Nat) (v xv : Value) (vs : List Bool) (y : Bool) (hs : a.eval s = v) (hxv : a.eval x = xv) (hv : Ownb w base v vs) (hbase : base ≤ w.heap.size) (hx : IsBits w xv [y]) (m : Nat) (hm : Hid (vs.length = m)) (hlen : m + 1 ≤ 1048576)
    (h : ∀ g cap w', Ownb w' base (.slice (some ⟨g, 0, none⟩) (m + 1) cap) (vs ++ [y]) → w.grownBy w' v.ownBlock → (v.ownBlock = some g ∨ w.heap.size ≤ g) → wpList Try.prog ops Q rest (a.put o.dst (.slice (some ⟨g, 0, none⟩) (m + 1) cap)) w') :
    wpList Try.prog ops Q (o :: rest) a w := by
  refine wpList_plain hgd fun K hK => ?_
  have hm' := hm.out
  subst hm'
  obtain ⟨i0, hi, hz0, hz1, hz2⟩ := info_parts info_bool
  obtain ⟨ao, cap, rfl, hx⟩ := hx
  obtain ⟨b, off, rfl, hc⟩ := hx (by simp)
  obtain ⟨g, cp, w', hr, h2, h3, h4, h5⟩ := run_append_lies (P := Try.prog) w 27 o.type base 4 i0 (.bool false) 1 1 Try.underlying27 hi hz0 hz1 hz2 rfl (by decide) v vs.length _ hv ⟨b, off, none⟩ 1 cap ([y].map Value.bool) (by simp)
      (fun j u hj => by
        rw [List.getElem?_map] at hj
        obtain ⟨z, hz, rfl⟩ := Option.map_eq_some_iff.1 hj
        have hjl : j < [y].length := (List.getElem?_eq_some_iff.1 hz).1
        have := hc j hjl
        rw [Addr.add_lit, this]
        simp [List.getD, hz])
      (bools_oneCell [y]) (by omega) (by unfold maxLen; omega) (by omega) hbase _ rfl
  unfold Oper.wp execOp
  simp only [List.length_cons, List.length_nil, Nat.zero_add] at hxv
  simp only [ho, resolve, invoke, builtin, Sem.run_bind, Sem.run_pure, Result.andThen_ok, List.map_toArray, List.map_cons, List.map_nil, hs, hxv, hr]
  refine hK _ _ (h g cp w' ?_ h3 ?_)
  · unfold Ownb; rw [List.map_append, List.length_append]; exact h2
  · rcases h4 with h4 | h4
    · exact .inl h4
    · exact .inr (by omega)

/-- Two rows of the call's own, apart. -/
structure Both (wr : World) (base n : Nat) (X Y : Value) (xl yl : List Bool) : Prop where
  x : Ownb wr base X xl
  y : Ownb wr base Y yl
  ne : ∀ k, X.ownBlock = some k → Y.ownBlock ≠ some k

theorem Both.below {w w' : World} {base n : Nat} {X Y : Value} {xl yl : List Bool} (h : Both w base n X Y xl yl) (hb : Below w.heap.size w w') : Both w' base n X Y xl yl := ⟨h.x.below hb, h.y.below hb, h.ne⟩

theorem Both.pushX {w w' : World} {base n g m cap : Nat} {X Y : Value} {xl yl zl : List Bool} (h : Both w base n X Y xl yl) (hown : Ownb w' base (.slice (some ⟨g, 0, none⟩) m cap) zl) (hg : w.grownBy w' X.ownBlock) (hat : X.ownBlock = some g ∨ w.heap.size ≤ g) : Both w' base n (.slice (some ⟨g, 0, none⟩) m cap) Y zl yl := by
  refine ⟨hown, h.y.of_block (fun k e => hg.block k (h.y.blk k e).2 (fun e2 => h.ne k e2.symm e)), fun k e e2 => ?_⟩
  obtain rfl : g = k := by simpa [Value.ownBlock] using e
  rcases hat with h1 | h1
  · exact h.ne g h1 e2
  · have := (h.y.blk g e2).2; omega

theorem Both.swap {w : World} {base n : Nat} {X Y : Value} {xl yl : List Bool} (h : Both w base n X Y xl yl) : Both w base n Y X yl xl := ⟨h.y, h.x, fun k e e2 => h.ne k e2 e⟩

theorem Both.grown {w w1 w' : World} {base n : Nat} {X Y : Value} {xl yl : List Bool} (h : Both w base n X Y xl yl) (hw : Below base w1 w) (hn : base ≤ w.heap.size) (hg : w.grownBy w' X.ownBlock) : Below base w1 w' := below_grown hw h.x hn hg

theorem bits_one (w : World) (b : Bool) : IsBits (w.alloc (.cells #[.bool b] 4)) (.slice (some ⟨w.heap.size, 0, none⟩) 1 1) [b] :=
  ⟨_, _, rfl, fun _ => ⟨w.heap.size, 0, rfl, fun i hi => by obtain rfl : i = 0 := (by simpa using hi); exact (Boxed.new w 4 (.bool b)).cell⟩⟩

theorem ownb_emptyb (w : World) (base : Nat) (h : base ≤ w.heap.size) : Ownb (w.alloc (.cells #[] 4)) base (.slice (some ⟨w.heap.size, 0, none⟩) 0 0) [] := ⟨by simp, .inr ⟨w.heap.size, 0, #[], rfl, h, World.alloc_heap_new _ _, Nat.le_refl _, by simp, by simp, by simp⟩⟩

theorem both_empty (w : World) (n : Nat) : Both ((w.alloc (.cells #[] 4)).alloc (.cells #[] 4)) w.heap.size n (.slice (some ⟨w.heap.size, 0, none⟩) 0 0) (.slice (some ⟨w.heap.size + 1, 0, none⟩) 0 0) [] [] := by
  have h2 := ownb_emptyb (w.alloc (.cells #[] 4)) w.heap.size (by simp)
  rw [World.size_alloc] at h2
  exact ⟨(ownb_emptyb w w.heap.size (Nat.le_refl _)).below (belOne _ _), h2, fun k e e2 => by simp [Value.ownBlock] at e e2; omega⟩

theorem own_cap {w : World} {base g n cap : Nat} {zs : List Bool} (h : Ownb w base (.slice (some ⟨g, 0, none⟩) n cap) zs) (hn : n ≤ zs.length) : n ≤ cap := by
  rcases h.2 with ⟨h1, _⟩ | ⟨g1, c1, cur, h1, _, _, hle, _⟩
  · cases h1
  · cases h1; omega

/-- One truth of an own row is written. -/
theorem Ownb.set {w : World} {base g n cap : Nat} {zs : List Bool} (h : Ownb w base (.slice (some ⟨g, 0, none⟩) n cap) zs) (i : Nat) (hi : i < zs.length) (b : Bool) : Ownb (w.setCell ⟨g, i, none⟩ (.bool b)) base (.slice (some ⟨g, 0, none⟩) n cap) (zs.set i b) := by
  rcases h.2 with ⟨h1, _⟩ | ⟨g1, c1, cur, h1, hg, hb, hle, hmx, hsz, htk⟩
  · cases h1
  · cases h1
    have hn : zs.length * 1 = zs.length := Nat.mul_one _
    rw [Nat.mul_one] at htk hsz
    have hrow : w.rowIs g 4 cap (fun i => cur.getD i (.bool false)) := ⟨cur, hb, by omega, fun i hi => by rw [Array.getElem?_eq_getElem (by omega)]; simp [Array.getD, show i < cur.size by omega]⟩
    obtain ⟨c2, hb2, hs2, hg2⟩ := hrow.set i (.bool b)
    refine ⟨by simp, .inr ⟨g, cap, c2, by rw [List.length_set], hg, hb2, by rw [List.length_set]; exact hle, hmx, by omega, ?_⟩⟩
    rw [List.length_set, Nat.mul_one]
    refine List.ext_getElem? fun j => ?_
    by_cases hj : j < zs.length
    · rw [List.getElem?_take_of_lt hj, Array.getElem?_toList, hg2 j (by omega), List.getElem?_map]
      have hcj : cur.toList[j]? = (zs.map Value.bool)[j]? := by rw [← htk, List.getElem?_take_of_lt hj]
      by_cases e : j = i
      · subst e; simp [hj]
      · show some (if j = i then Value.bool b else cur.getD j (.bool false)) = _
        rw [if_neg e, List.getElem?_set_ne (fun h => e h.symm)]
        rw [Array.getElem?_toList, List.getElem?_map] at hcj
        simp only [Array.getD_eq_getD_getElem?, hcj]
        rw [List.getElem?_eq_getElem hj]
        rfl
    · rw [List.getElem?_eq_none (by simp; omega), List.getElem?_eq_none (by simp; omega)]

theorem Ownb.cellG {w : World} {base g n cap : Nat} {zs : List Bool} (h : Ownb w base (.slice (some ⟨g, 0, none⟩) n cap) zs) (i : Nat) (hi : i < zs.length) : w.cell? ⟨g, i, none⟩ = some (.bool (zs.getD i false)) := by
  obtain ⟨ao, cp, he, hc⟩ := h.isBits
  obtain ⟨b, off, ha, hcs⟩ := hc (by intro e; subst e; simp at hi)
  injection he with e1 e2 e3
  rw [ha] at e1
  cases e1
  have := hcs i hi
  simpa using this

theorem Ownb.frozenG {w : World} {base g n cap : Nat} {zs : List Bool} (h : Ownb w base (.slice (some ⟨g, 0, none⟩) n cap) zs) (i : Nat) : w.frozen? ⟨g, i, none⟩ = false := by
  rcases h.2 with ⟨h1, _⟩ | ⟨g1, c1, cur, h1, hg, hb, hle, hmx, hsz, htk⟩
  · cases h1
  · cases h1
    have hrow : w.rowIs g 4 cap (fun i => cur.getD i (.bool false)) := ⟨cur, hb, by omega, fun i hi => by rw [Array.getElem?_eq_getElem (by omega)]; simp [Array.getD, show i < cur.size by omega]⟩
    exact hrow.frozen i

/-- All nodes, latches and inputs being two pieces of one row. -/
theorem values_row (i0 : Nat) (al aa ab : Option Addr) (cl ca cb : Nat) (ls : List (Int × Bool)) (xs : List (Int × Int)) (bs : List Int) (g q cx base : Nat) (zs : List Bool) (w : World) (hC : IsCir w al aa ab cl ca cb ls xs bs) (hok : okC (i0 : Int) ls xs bs = true) (h64 : ∀ p ∈ xs, I64 p.1 ∧ I64 p.2)
    (hz : zs.length = q) (hq : i0 + ls.length = q) (hq2 : q ≤ 100) (hx : Ownb w base (.slice (some ⟨g, 0, none⟩) q cx) zs) :
    Calls Try.prog 15 #[.agg #[.int .i64 (i0 : Int), .slice al ls.length cl, .slice aa xs.length ca, .slice ab bs.length cb], .slice (if cx = i0 then some ⟨g, 0, none⟩ else some ⟨g, i0, none⟩) (q - i0) (cx - i0), .slice (some ⟨g, 0, none⟩) i0 cx] w (ValPost (valF ([false] ++ zs) xs xs.length) w) := by
  have hcap := own_cap hx (by omega)
  have e1 : (zs.drop i0).length = q - i0 := by simp [hz]
  have e2 : (zs.take i0).length = i0 := by simp; omega
  have hf : fitsB (i0 : Int) ls xs bs (zs.drop i0) (zs.take i0) = true := fitsB_iff.2 ⟨hok, by omega, by rw [e2]⟩
  have hvs : valsOf (i0 : Int) ls xs bs (zs.drop i0) (zs.take i0) = valF ([false] ++ zs) xs xs.length := by
    rw [valsOf_fits hf]
    unfold startOf
    rw [List.append_assoc, List.take_append_drop]
  have b1 : IsBits w (.slice (if cx = i0 then some ⟨g, 0, none⟩ else some ⟨g, i0, none⟩) (zs.drop i0).length (cx - i0)) (zs.drop i0) := by
    by_cases e : cx = i0
    · rw [if_pos e]
      exact ⟨_, _, rfl, fun hne => absurd (List.length_eq_zero_iff.1 (by omega)) hne⟩
    · rw [if_neg e]
      exact bits_piece (vs := zs) (fun i hi => hx.cellG i hi) (by omega) (fun i hi => by simp [List.getD])
  have b2 : IsBits w (.slice (some ⟨g, 0, none⟩) (zs.take i0).length cx) (zs.take i0) :=
    bits_piece (vs := zs) (fun i hi => hx.cellG i hi) (by omega) (fun i hi => by rw [e2] at hi; simp [List.getD, hi])
  have h := implAigValues_any (i0 : Int) al aa ab cl ca cb ls xs bs _ _ _ _ (zs.drop i0) (zs.take i0) w hC b1 b2 h64 (by omega) (by omega)
  rw [hvs, e1, e2] at h
  exact h

theorem Both.setY {w : World} {base n gx gy m cx cy : Nat} {xl yl : List Bool} (h : Both w base n (.slice (some ⟨gx, 0, none⟩) m cx) (.slice (some ⟨gy, 0, none⟩) m cy) xl yl) (i : Nat) (hi : i < yl.length) (b : Bool) : Both (w.setCell ⟨gy, i, none⟩ (.bool b)) base n (.slice (some ⟨gx, 0, none⟩) m cx) (.slice (some ⟨gy, 0, none⟩) m cy) xl (yl.set i b) := by
  refine ⟨h.x.of_block (fun k e => blk_setCell_other _ _ _ _ (fun e2 => ?_)), h.y.set i hi b, h.ne⟩
  have e2' : k = gy := e2
  subst e2'
  exact h.ne k e rfl

end Go.Proofs.Ytdkpgbmcnjkjkaa

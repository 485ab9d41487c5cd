/-
  A step of a circuit: the model's l3Step and AigStep.
-/
import Derived.Test.YtbdjdgamnnifjaaAigJ
namespace Go.Proofs.Ytbdjdgamnnifjaa
open Go.RowKit Go.Deep Go.Shelf
set_option linter.unusedVariables false

attribute [local go_sem] Oper.semAt_some

/-- 'append(values, one)' on memory of the call's own, nothing being there too. -/
theorem run_push (w : World) (base : Nat) (ty : TypeId) (v x : Value) (vs : List Bool) (y : Bool) (hv : Ownb w base v vs) (hbase : base ≤ w.heap.size) (hx : IsBits w x [y]) (hlen : vs.length + 1 ≤ 1048576) :
    ∃ g cap w', (Builtin.append_ #[27, 27] ty #[v, x]).run Try.prog w = .ok (.slice (some ⟨g, 0, none⟩) (vs.length + 1) cap) w' ∧ Ownb w' base (.slice (some ⟨g, 0, none⟩) (vs.length + 1) cap) (vs ++ [y]) ∧ w.grownBy w' v.ownBlock := by
  obtain ⟨i0, hi, hz0, hz1, hz2⟩ := info_parts info_bool
  obtain ⟨ao, cap, rfl, hx⟩ := hx
  obtain ⟨b, off, rfl, hc⟩ := hx (by simp)
  obtain ⟨g, cp, w', hr, h2, h3, h4, h5⟩ := run_append_lies (P := Try.prog) w 27 ty base 4 i0 (.bool false) 1 1 Try.underlying27 hi hz0 hz1 hz2 rfl (by decide) v vs.length _ hv ⟨b, off, none⟩ 1 cap ([y].map Value.bool) (by simp)
      (fun j u hj => by
        rw [List.getElem?_map] at hj
        obtain ⟨z, hz, rfl⟩ := Option.map_eq_some_iff.1 hj
        have hjl : j < [y].length := (List.getElem?_eq_some_iff.1 hz).1
        have := hc j hjl
        rw [Addr.add_lit, this]
        simp [List.getD, hz])
      (bools_oneCell [y]) (by omega) (by unfold maxLen; omega) (by omega) hbase _ rfl
  refine ⟨g, cp, w', hr, ?_, h3⟩
  unfold Ownb; rw [List.map_append, List.length_append]; exact h2

theorem wpList_push {w : World} {ops : Array Oper} {rest : List Oper} {o : Oper} {a : Act} {Q : Exit → Act → World → Prop} (hgd : o.guard = none) (s x : Operand)
    (ho : o.op = .call { callee := .builtin .append, args := #[s, x], argTypes := #[27, 27] })
    (base : Nat) (v xv : Value) (vs : List Bool) (y : Bool) (hs : a.eval s = v) (hxv : a.eval x = xv) (hv : Ownb w base v vs) (hbase : base ≤ w.heap.size) (hx : IsBits w xv [y]) (m : Nat) (hm : Hid (vs.length = m)) (hlen : m + 1 ≤ 1048576)
    (h : ∀ g cap w', Ownb w' base (.slice (some ⟨g, 0, none⟩) (m + 1) cap) (vs ++ [y]) → w.grownBy w' v.ownBlock → wpList Try.prog ops Q rest (a.put o.dst (.slice (some ⟨g, 0, none⟩) (m + 1) cap)) w') :
    wpList Try.prog ops Q (o :: rest) a w := by
  refine wpList_plain hgd fun K hK => ?_
  have hm' := hm.out
  subst hm'
  obtain ⟨g, cap, w', hr, h2, h3⟩ := run_push w base o.type v xv vs y hv hbase hx hlen
  unfold Oper.wp execOp
  simp only [ho, resolve, invoke, builtin, Sem.run_bind, Sem.run_pure, Result.andThen_ok, List.map_toArray, List.map_cons, List.map_nil, hs, hxv, hr]
  exact hK _ _ (h g cap w' h2 h3)

theorem oper_push {w : World} {o : Oper} {a : Act} {K : Act → World → Prop} {Q : Exit → Act → World → Prop} (s x : Operand)
    (ho : o.op = .call { callee := .builtin .append, args := #[s, x], argTypes := #[27, 27] })
    (base : Nat) (v xv : Value) (vs : List Bool) (y : Bool) (hs : a.eval s = v) (hxv : a.eval x = xv) (hv : Ownb w base v vs) (hbase : base ≤ w.heap.size) (hx : IsBits w xv [y]) (m : Nat) (hm : Hid (vs.length = m)) (hlen : m + 1 ≤ 1048576)
    (h : ∀ g cap w', Ownb w' base (.slice (some ⟨g, 0, none⟩) (m + 1) cap) (vs ++ [y]) → w.grownBy w' v.ownBlock → K (a.put o.dst (.slice (some ⟨g, 0, none⟩) (m + 1) cap)) w') :
    o.wp Try.prog a w K Q := by
  have hm' := hm.out
  subst hm'
  obtain ⟨g, cap, w', hr, h2, h3⟩ := run_push w base o.type v xv vs y hv hbase hx hlen
  unfold Oper.wp execOp
  simp only [ho, resolve, invoke, builtin, Sem.run_bind, Sem.run_pure, Result.andThen_ok, List.map_toArray, List.map_cons, List.map_nil, hs, hxv, hr]
  exact h g cap w' h2 h3

/-- What so many literals are. -/
def litsF (vs : List Bool) (ys : List Int) (k : Nat) : List Bool := (ys.take k).map (litV vs)
theorem litsF_succ (vs : List Bool) (ys : List Int) (k : Nat) (h : k < ys.length) : litsF vs ys (k + 1) = litsF vs ys k ++ [litV vs (ys.getD k 0)] := by
  unfold litsF
  rw [List.take_succ_eq_append_getElem h, List.map_append]
  simp [List.getD, List.getElem?_eq_getElem h]
theorem litsF_length (vs : List Bool) (ys : List Int) (k : Nat) (h : k ≤ ys.length) : (litsF vs ys k).length = k := by
  unfold litsF; simp; omega
theorem litsF_all (vs : List Bool) (ys : List Int) : litsF vs ys ys.length = ys.map (litV vs) := by simp [litsF]

/-- Latches in the next step, and what is bad in this one. -/
def nextOf (inp : Int) (ls : List (Int × Bool)) (xs : List (Int × Int)) (bs : List Int) (lats ins : List Bool) : List Bool :=
  if fitsB inp ls xs bs lats ins = true then (ls.map Prod.fst).map (litV (valF (startOf ins lats) xs xs.length)) else []
def badOf (inp : Int) (ls : List (Int × Bool)) (xs : List (Int × Int)) (bs : List Int) (lats ins : List Bool) : List Bool :=
  if fitsB inp ls xs bs lats ins = true then bs.map (litV (valF (startOf ins lats) xs xs.length)) else []

/-- What AigStep answers: two slices of the call's own, apart from each other. -/
def StepPost (nx bd : List Bool) (w : World) (e : Ending) (w' : World) : Prop :=
  ∃ a1 m1 c1 a2 m2 c2 n, e = .returned (.tuple #[.slice a1 m1 c1, .slice a2 m2 c2]) ∧ nx.length = m1 ∧ bd.length = m2 ∧ w.heap.size ≤ n ∧ Ownb w' w.heap.size (.slice a1 m1 c1) nx ∧ (∀ k, (Value.slice a1 m1 c1).ownBlock = some k → k < n) ∧ Ownb w' n (.slice a2 m2 c2) bd ∧ Below w.heap.size w w'

theorem latch_ahead {inp : Int} {ls : List (Int × Bool)} {xs : List (Int × Int)} {bs : List Int} (h : okC inp ls xs bs = true) {p : Int × Bool} (hp : p ∈ ls) : aheadG p.1 (1 + inp + (ls.length : Int) + (xs.length : Int)) = true := by
  unfold okC at h
  simp only [Bool.and_eq_true] at h
  exact List.all_eq_true.1 h.2.2 p.1 (by unfold endsOf; exact List.mem_append_left _ (List.mem_map_of_mem hp))
theorem bad_ahead {inp : Int} {ls : List (Int × Bool)} {xs : List (Int × Int)} {bs : List Int} (h : okC inp ls xs bs = true) {x : Int} (hp : x ∈ bs) : aheadG x (1 + inp + (ls.length : Int) + (xs.length : Int)) = true := by
  unfold okC at h
  simp only [Bool.and_eq_true] at h
  exact List.all_eq_true.1 h.2.2 x (by unfold endsOf; exact List.mem_append_right _ hp)

set_option maxRecDepth 100000 in
set_option maxHeartbeats 4000000 in
theorem l3Step_any (inp : Int) (al aa ab : Option Addr) (cl ca cb : Nat) (ls : List (Int × Bool)) (xs : List (Int × Int)) (bs : List Int) (alt ain : Option Addr) (clt cin : Nat) (lats ins : List Bool) (w : World) (hC : IsCir w al aa ab cl ca cb ls xs bs)
    (hLa : IsBits w (.slice alt lats.length clt) lats) (hIn : IsBits w (.slice ain ins.length cin) ins) (hok : okC inp ls xs bs = true) (hll : lats.length = ls.length) (hil : (ins.length : Int) = inp) (hl64 : ∀ p ∈ ls, I64 p.1) (h64 : ∀ p ∈ xs, I64 p.1 ∧ I64 p.2) (hb64 : ∀ x ∈ bs, I64 x) :
    Calls Try.prog 61 #[.agg #[.int .i64 inp, .slice al ls.length cl, .slice aa xs.length ca, .slice ab bs.length cb], .slice alt lats.length clt, .slice ain ins.length cin] w (StepPost ((ls.map Prod.fst).map (litV (valF (startOf ins lats) xs xs.length))) (bs.map (litV (valF (startOf ins lats) xs xs.length))) w) := by
  have hsz : 0 ≤ inp ∧ inp ≤ 8 ∧ ls.length ≤ 8 ∧ xs.length ≤ 40 ∧ bs.length ≤ 4 := by
    unfold okC sizesB at hok
    simp only [Bool.and_eq_true, decide_eq_true_eq] at hok
    exact hok.1
  obtain ⟨h0, h1, h2, h3, h4⟩ := hsz
  have HC : Hid (∀ w', Below w.heap.size w w' → IsCir w' al aa ab cl ca cb ls xs bs) := fun w' h => hC.below h
  have HLA : Hid (∀ w', Below w.heap.size w w' → IsBits w' (.slice alt lats.length clt) lats) := fun w' h => hLa.below h
  have HIN : Hid (∀ w', Below w.heap.size w w' → IsBits w' (.slice ain ins.length cin) ins) := fun w' h => hIn.below h
  have HOK : Hid (okC inp ls xs bs = true) := hok
  have HLL : Hid (lats.length = ls.length) := hll
  have HIL : Hid ((ins.length : Int) = inp) := hil
  have H64 : Hid (∀ p ∈ xs, I64 p.1 ∧ I64 p.2) := h64
  have HL64 : Hid (∀ p ∈ ls, I64 p.1) := hl64
  have HB64 : Hid (∀ x ∈ bs, I64 x) := hb64
  have HO0 : Hid (Own4 (w.alloc (.cells #[.int .i64 inp, .slice al ls.length cl, .slice aa xs.length ca, .slice ab bs.length cb] 33)) w.heap.size 33 (.int .i64 inp) (.slice al ls.length cl) (.slice aa xs.length ca) (.slice ab bs.length cb)) := Own4.new _ _ _ _ _ _
  have hvl : ((valF (startOf ins lats) xs xs.length).length : Int) = 1 + inp + ls.length + xs.length := by
    rw [valF_length _ _ _ (Nat.le_refl _)]; unfold startOf; simp; omega
  have hv60 : (valF (startOf ins lats) xs xs.length).length ≤ 100 := by omega
  have HVL : Hid (((valF (startOf ins lats) xs xs.length).length : Int) = 1 + inp + ls.length + xs.length) := hvl
  clear hC hLa hIn hok hll hil h64 hl64 hb64 hvl
  go_enter Try.func61, Try.ntmps61
  go_wp2_with fail
  refine (l3Values_any inp al aa ab cl ca cb ls xs bs _ _ _ _ lats ins _ (HC.out _ (belOne _ _)) (HLA.out _ (belOne _ _)) (HIN.out _ (belOne _ _)) HOK.out HLL.out HIL.out H64.out).mono ?_
  rintro e w1 ⟨gv, cv, rfl, hown, hb1⟩
  have HB1 : Hid (Below w.heap.size w w1) := belNext (belOne _ _) hb1
  have HO1 : Hid (Own4 w1 w.heap.size 33 (.int .i64 inp) (.slice al ls.length cl) (.slice aa xs.length ca) (.slice ab bs.length cb)) := HO0.out.below hb1
  have HV1 : Hid (IsBits w1 (.slice (some ⟨gv, 0, none⟩) (valF (startOf ins lats) xs xs.length).length cv) (valF (startOf ins lats) xs xs.length)) := hown.isBits
  clear hown hb1 HO0
  generalize valF (startOf ins lats) xs xs.length = vs at *
  generalize hmv : vs.length = mv at *
  have HMV : Hid (vs.length = mv) := hmv
  clear hmv
  have d0 := HO1.out.four.c0
  have d1 := HO1.out.four.c1
  have d2 := HO1.out.four.c2
  have d3 := HO1.out.four.c3
  have d4 := HO1.out.lt
  have hv60' : vs.length ≤ 100 := by rw [HMV.out]; exact hv60
  go_wp2
  go_loopw [9, 10] (fun o i wr => ∃ a m cp k, k ≤ ls.length ∧ i = .int .i64 (k : Nat) ∧ o = .slice a m cp ∧ Hid ((litsF vs (ls.map Prod.fst) k).length = m) ∧ Below w1.heap.size w1 wr ∧ Ownb wr w1.heap.size (.slice a m cp) (litsF vs (ls.map Prod.fst) k)) (fun _ i _ => ls.length - (intOf i).toNat)
  case atStart => exact ⟨_, 0, 0, 0, Nat.zero_le _, rfl, rfl, rfl, belOne _ _, ownb_empty _⟩
  case round =>
    obtain ⟨a, m, cp, k, hk, rfl, rfl, hm, hB, hR⟩ := hrel
    have hm8 : m ≤ 8 := by rw [← hm.out, litsF_length _ _ _ (by simpa using hk)]; omega
    have hO := HO1.out.below hB
    have c0 := hO.four.c0
    have c1 := hO.four.c1
    have c2 := hO.four.c2
    have c3 := hO.four.c3
    have c4 := hO.lt
    clear hO d0 d1 d2 d3 d4
    by_cases hkl : k < ls.length
    · have hCr := HC.out _ (belNext HB1.out hB)
      obtain ⟨b, off, rfl, hbl, hx1⟩ : ∃ b off, al = some ⟨b, off, none⟩ ∧ b < wr.heap.size ∧ wr.cell? ⟨b, off + k * 2, none⟩ = some (.int .i64 (ls.getD k (0, false)).1) := by
        obtain ⟨ao', cap', he, h⟩ := hCr.isL
        obtain ⟨b, off, ha, hc⟩ := h (by intro e; subst e; simp at hkl)
        injection he with e1 e2 e3
        exact ⟨b, off, e1.trans ha, cell_lt (hc k hkl).1, (hc k hkl).1⟩
      have hmem : ls.getD k (0, false) ∈ ls := by rw [List.getD, List.getElem?_eq_getElem hkl]; simp
      have hsucc := litsF_succ vs (ls.map Prod.fst) k (by simpa using hkl)
      have hget : (ls.map Prod.fst).getD k 0 = (ls.getD k (0, false)).1 := by simp [List.getD, List.getElem?_eq_getElem hkl]
      rw [hget] at hsucc
      have hp := ahead_of (latch_ahead HOK.out hmem) (HL64.out _ hmem)
      clear hCr hmem hget
      generalize (ls.getD k (0, false)).1 = q at *
      have hq0 : 0 ≤ q := hp.1
      have hq1 : q < 2 * (vs.length : Int) := by rw [HMV.out, HVL.out]; omega
      obtain ⟨y, hy⟩ : ∃ y, litV vs q = y := ⟨_, rfl⟩
      rw [hy] at hsucc
      have HY : Hid (litV vs q = y) := hy
      have HS : Hid (litsF vs (ls.map Prod.fst) (k + 1) = litsF vs (ls.map Prod.fst) k ++ [y]) := hsucc
      have HV : Hid (IsBits wr (.slice (some ⟨gv, 0, none⟩) mv cv) vs) := HV1.out.below hB
      have HB : Hid (Below w1.heap.size w1 (wr.alloc (.cells #[.bool y] 4))) := belNext hB (belOne _ _)
      have HR : Hid (Ownb (wr.alloc (.cells #[.bool y] 4)) w1.heap.size (.slice a m cp) (litsF vs (ls.map Prod.fst) k)) := hR.below (belOne _ _)
      have HTB : Hid (IsBits (wr.alloc (.cells #[.bool y] 4)) (.slice (some ⟨wr.heap.size, 0, none⟩) 1 1) [y]) := ⟨_, _, rfl, fun _ => ⟨wr.heap.size, 0, rfl, fun i hi => by obtain rfl : i = 0 := (by simpa using hi); exact (Boxed.new wr 4 (.bool y)).cell⟩⟩
      clear hy hsucc hB hR hp
      go_wp2_with (first
        | (go_at_call 93; refine (l3Lit_any q _ vs _ HV.out hq0 hq1 hv60').mono ?_; rintro e w' ⟨rfl, rfl⟩; rw [HY.out])
        | (at_builtin; refine wpList_push rfl _ _ rfl w1.heap.size _ _ (litsF vs (ls.map Prod.fst) k) y rfl rfl HR.out HB.out.size HTB.out m hm (by omega) ?_; intro g5 cp5 w5 hv5 hg5; have B5 : Hid (Below w1.heap.size w1 w5) := below_grown HB.out HR.out HB.out.size hg5; have R5 : Hid (Ownb w5 w1.heap.size (.slice (some ⟨g5, 0, none⟩) (m + 1) cp5) (litsF vs (ls.map Prod.fst) k ++ [y])) := hv5; clear hv5 hg5))
      go_roundw
      case rel => exact ⟨_, m + 1, cp5, k + 1, by omega, by go_num, rfl, by show (litsF vs (ls.map Prod.fst) (k + 1)).length = m + 1; rw [HS.out, List.length_append, hm.out]; rfl, B5.out, by rw [HS.out]; exact R5.out⟩
      case measure => simp [intOf]; omega
    · obtain rfl : k = ls.length := by omega
      have HBo : Hid (Below w1.heap.size w1 wr) := hB
      have HRo : Hid (Ownb wr w1.heap.size (.slice a m cp) (litsF vs (ls.map Prod.fst) ls.length)) := hR
      have HBw : Hid (Below w.heap.size w wr) := belNext HB1.out hB
      have HOo : Hid (Own4 wr w.heap.size 33 (.int .i64 inp) (.slice al ls.length cl) (.slice aa xs.length ca) (.slice ab bs.length cb)) := HO1.out.below hB
      have HVo : Hid (IsBits wr (.slice (some ⟨gv, 0, none⟩) mv cv) vs) := HV1.out.below hB
      have hsz1 := HB1.out.size
      have hsz2 := hB.size
      clear hB hR hkl hk
      go_wp2
      rename World => wo
      go_loopw [11, 12] (fun o i wr => ∃ a m cp k, k ≤ bs.length ∧ i = .int .i64 (k : Nat) ∧ o = .slice a m cp ∧ Hid ((litsF vs bs k).length = m) ∧ Below wo.heap.size wo wr ∧ Ownb wr wo.heap.size (.slice a m cp) (litsF vs bs k)) (fun _ i _ => bs.length - (intOf i).toNat)
      case atStart => exact ⟨_, 0, 0, 0, Nat.zero_le _, rfl, rfl, rfl, belOne _ _, ownb_empty _⟩
      case round =>
        obtain ⟨a', m', cp', k, hk, rfl, rfl, hm', hB, hR⟩ := hrel
        have hm8' : m' ≤ 4 := by rw [← hm'.out, litsF_length _ _ _ hk]; omega
        have hO := HOo.out.below hB
        clear c0 c1 c2 c3 c4
        have c0 := hO.four.c0
        have c1 := hO.four.c1
        have c2 := hO.four.c2
        have c3 := hO.four.c3
        have c4 := hO.lt
        clear hO
        by_cases hkl : k < bs.length
        · have hCr := HC.out _ (belNext HBw.out hB)
          obtain ⟨b, off, rfl, hbl, hx1⟩ : ∃ b off, ab = some ⟨b, off, none⟩ ∧ b < wr.heap.size ∧ wr.cell? ⟨b, off + k, none⟩ = some (.int .i64 (bs.getD k 0)) := by
            obtain ⟨ao', cap', he, h⟩ := hCr.isB
            obtain ⟨b, off, ha, hc⟩ := h (by intro e; subst e; simp at hkl)
            injection he with e1 e2 e3
            exact ⟨b, off, e1.trans ha, cell_lt (hc k hkl), hc k hkl⟩
          have hmem : bs.getD k 0 ∈ bs := by rw [List.getD, List.getElem?_eq_getElem hkl]; simp
          have hsucc := litsF_succ vs bs k hkl
          have hp := ahead_of (bad_ahead HOK.out hmem) (HB64.out _ hmem)
          clear hCr hmem
          generalize bs.getD k 0 = q at *
          have hq0 : 0 ≤ q := hp.1
          have hq1 : q < 2 * (vs.length : Int) := by rw [HMV.out, HVL.out]; omega
          obtain ⟨y, hy⟩ : ∃ y, litV vs q = y := ⟨_, rfl⟩
          rw [hy] at hsucc
          have HY : Hid (litV vs q = y) := hy
          have HS : Hid (litsF vs bs (k + 1) = litsF vs bs k ++ [y]) := hsucc
          have HV : Hid (IsBits wr (.slice (some ⟨gv, 0, none⟩) mv cv) vs) := HVo.out.below hB
          have HB : Hid (Below wo.heap.size wo (wr.alloc (.cells #[.bool y] 4))) := belNext hB (belOne _ _)
          have HR : Hid (Ownb (wr.alloc (.cells #[.bool y] 4)) wo.heap.size (.slice a' m' cp') (litsF vs bs k)) := hR.below (belOne _ _)
          have HTB : Hid (IsBits (wr.alloc (.cells #[.bool y] 4)) (.slice (some ⟨wr.heap.size, 0, none⟩) 1 1) [y]) := ⟨_, _, rfl, fun _ => ⟨wr.heap.size, 0, rfl, fun i hi => by obtain rfl : i = 0 := (by simpa using hi); exact (Boxed.new wr 4 (.bool y)).cell⟩⟩
          clear hy hsucc hB hR hp
          go_wp2_with (first
            | (go_at_call 93; refine (l3Lit_any q _ vs _ HV.out hq0 hq1 hv60').mono ?_; rintro e w' ⟨rfl, rfl⟩; rw [HY.out])
            | (at_builtin; refine wpList_push rfl _ _ rfl wo.heap.size _ _ (litsF vs bs k) y rfl rfl HR.out HB.out.size HTB.out m' hm' (by omega) ?_; intro g5 cp5 w5 hv5 hg5; have B5 : Hid (Below wo.heap.size wo w5) := below_grown HB.out HR.out HB.out.size hg5; have R5 : Hid (Ownb w5 wo.heap.size (.slice (some ⟨g5, 0, none⟩) (m' + 1) cp5) (litsF vs bs k ++ [y])) := hv5; clear hv5 hg5))
          go_roundw
          case rel => exact ⟨_, m' + 1, cp5, k + 1, by omega, by go_num, rfl, by show (litsF vs bs (k + 1)).length = m' + 1; rw [HS.out, List.length_append, hm'.out]; rfl, B5.out, by rw [HS.out]; exact R5.out⟩
          case measure => simp [intOf]; omega
        · obtain rfl : k = bs.length := by omega
          have HBz : Hid (Below wo.heap.size wo wr) := hB
          have HRz : Hid (Ownb wr wo.heap.size (.slice a' m' cp') (litsF vs bs bs.length)) := hR
          clear hB hR
          go_wp2
          go_ret2
          have e1 : litsF vs (ls.map Prod.fst) ls.length = (ls.map Prod.fst).map (litV vs) := by have := litsF_all vs (ls.map Prod.fst); rwa [List.length_map] at this
          rw [litsF_all] at HRz
          rw [e1] at HRo hm
          rw [litsF_all] at hm'
          exact ⟨a, m, cp, a', m', cp', wo.heap.size, rfl, hm.out, hm'.out, by omega, (HRo.out.below HBz.out).base hsz1, fun k e => (World.ownsRow.lt HRo.out k e).2, HRz.out, belNext HBw.out HBz.out⟩

end Go.Proofs.Ytbdjdgamnnifjaa

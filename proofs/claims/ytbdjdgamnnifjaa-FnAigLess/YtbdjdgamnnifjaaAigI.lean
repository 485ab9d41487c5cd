/-
  All nodes of a circuit: the model's AigValues; both answer the same.
-/
import Derived.Test.YtbdjdgamnnifjaaAigH
import Derived.Test.YtbdjdgamnnifjaaAigF
namespace Go.Proofs.Ytbdjdgamnnifjaa
open Go.RowKit Go.Deep Go.Shelf
set_option linter.unusedVariables false

attribute [local go_sem] Oper.semAt_some

set_option maxHeartbeats 1000000 in
theorem l3Lit_any (x : Int) (v : Value) (vs : List Bool) (w : World) (hv : IsBits w v vs) (h0 : 0 ≤ x) (hx : x < 2 * vs.length) (hl : vs.length ≤ 100) :
    Calls Try.prog 93 #[v, .int .i64 x] w fun e w' => e = .returned (.bool (litV vs x)) ∧ w' = w := by
  obtain ⟨ao, cap, rfl, hv⟩ := hv
  obtain ⟨b, off, rfl, hc⟩ := hv (by intro e; subst e; simp at hx; omega)
  obtain ⟨k, r, hkr, hr0, hr1⟩ : ∃ (k : Nat) (r : Int), x = 2 * (k : Int) + r ∧ 0 ≤ r ∧ r ≤ 1 := ⟨(x / 2).toNat, x % 2, by omega, by omega, by omega⟩
  have hkl : k < vs.length := by omega
  have hcell := hc k hkl
  have hd : x / 2 = (k : Int) := by omega
  have hm : x % 2 = r := by omega
  have hr : litV vs x = (vs.getD k false != (r == 1)) := by
    unfold litV; rw [hd, hm, Int.toNat_natCast]
    congr 1
  rw [hr]
  have HKR : Hid (x = 2 * (k : Int) + r) := hkr
  clear hc hv hr hkr
  generalize vs.getD k false = m at *
  generalize vs.length = n at *
  go_enter Try.func93, Try.ntmps93
  go_wp2
  go_ret
  exact ⟨rfl, rfl⟩

/-- What the model has while it reckons nodes. -/
structure Sst (w W : World) (vs : List Bool) (v c0 c1 c2 c3 : Value) : Prop where
  row : Ownb W w.heap.size v vs
  bel : Below w.heap.size w W
  cir : Own4 W w.heap.size 33 c0 c1 c2 c3

theorem Sst.below {w W W' : World} {vs : List Bool} {v c0 c1 c2 c3 : Value} (h : Sst w W vs v c0 c1 c2 c3) (hb : Below W.heap.size W W') : Sst w W' vs v c0 c1 c2 c3 :=
  ⟨h.row.below hb, belNext h.bel hb, h.cir.below hb⟩

theorem Sst.more {w W w2 : World} {vs zs : List Bool} {v v' c0 c1 c2 c3 : Value} (h : Sst w W vs v c0 c1 c2 c3) (hown : Ownb w2 w.heap.size v' zs) (hg : W.grownBy w2 v.ownBlock) : Sst w w2 zs v' c0 c1 c2 c3 :=
  ⟨hown, below_grown h.bel h.row h.bel.size hg, (hg.block _ h.cir.lt (own_ne h.row (by decide) h.cir)).trans h.cir⟩

set_option maxRecDepth 100000 in
set_option maxHeartbeats 4000000 in
theorem l3Values_any (inp : Int) (al aa ab : Option Addr) (cl ca cb : Nat) (ls : List (Int × Bool)) (xs : List (Int × Int)) (bs : List Int) (alt ain : Option Addr) (clt cin : Nat) (lats ins : List Bool) (w : World) (hC : IsCir w al aa ab cl ca cb ls xs bs)
    (hLa : IsBits w (.slice alt lats.length clt) lats) (hIn : IsBits w (.slice ain ins.length cin) ins) (hok : okC inp ls xs bs = true) (hll : lats.length = ls.length) (hil : (ins.length : Int) = inp) (h64 : ∀ p ∈ xs, I64 p.1 ∧ I64 p.2) :
    Calls Try.prog 51 #[.agg #[.int .i64 inp, .slice al ls.length cl, .slice aa xs.length ca, .slice ab bs.length cb], .slice alt lats.length clt, .slice ain ins.length cin] w fun e w' =>
      ∃ g cap, e = .returned (.slice (some ⟨g, 0, none⟩) (valF (startOf ins lats) xs xs.length).length cap) ∧ Ownb w' w.heap.size (.slice (some ⟨g, 0, none⟩) (valF (startOf ins lats) xs xs.length).length cap) (valF (startOf ins lats) xs xs.length) ∧ Below w.heap.size w w' := by
  have hsz : 0 ≤ inp ∧ inp ≤ 8 ∧ ls.length ≤ 8 ∧ xs.length ≤ 40 ∧ bs.length ≤ 4 := by
    unfold okC sizesB at hok
    simp only [Bool.and_eq_true, decide_eq_true_eq] at hok
    exact hok.1
  obtain ⟨h0, h1, h2, h3, h4⟩ := hsz
  have HC : Hid (∀ w', Below w.heap.size w w' → IsCir w' al aa ab cl ca cb ls xs bs) := fun w' h => hC.below h
  have HLA : Hid (∀ w', Below w.heap.size w w' → IsBits w' (.slice alt lats.length clt) lats) := fun w' h => hLa.below h
  have HIN : Hid (∀ w', Below w.heap.size w w' → IsBits w' (.slice ain ins.length cin) ins) := fun w' h => hIn.below h
  have HOK : Hid (okC inp ls xs bs = true) := hok
  have HLL : Hid (lats.length = ls.length) := hll
  have HIL : Hid ((ins.length : Int) = inp) := hil
  have H64 : Hid (∀ p ∈ xs, I64 p.1 ∧ I64 p.2) := h64
  have hli : ins.length ≤ 8 := by omega
  have hlt : lats.length ≤ 8 := by omega
  have S0 : Hid (Sst w ((w.alloc (.cells #[.int .i64 inp, .slice al ls.length cl, .slice aa xs.length ca, .slice ab bs.length cb] 33)).alloc (.cells #[.bool false] 4)) [false] (.slice (some ⟨w.heap.size + 1, 0, none⟩) 1 1) (.int .i64 inp) (.slice al ls.length cl) (.slice aa xs.length ca) (.slice ab bs.length cb)) := by
    have hb := World.alloc_heap_new (w.alloc (.cells #[.int .i64 inp, .slice al ls.length cl, .slice aa xs.length ca, .slice ab bs.length cb] 33)) (.cells #[.bool false] 4)
    rw [World.size_alloc] at hb
    exact ⟨⟨by simp, .inr ⟨w.heap.size + 1, 1, #[.bool false], rfl, by omega, hb, Nat.le_refl _, by unfold maxLen; omega, by simp, by simp⟩⟩, belNext (belOne _ _) (belOne _ _), (Own4.new _ _ _ _ _ _).below (belOne _ _)⟩
  clear hC hLa hIn hok hll hil h64
  obtain ⟨m2, hm2⟩ : ∃ m, ([false] ++ ins).length = m := ⟨_, rfl⟩
  obtain ⟨m3, hm3⟩ : ∃ m, ([false] ++ ins ++ lats).length = m := ⟨_, rfl⟩
  have HM2 : Hid (([false] ++ ins).length = m2) := hm2
  have HM3 : Hid (([false] ++ ins ++ lats).length = m3) := hm3
  clear hm2 hm3
  go_enter Try.func51, Try.ntmps51
  go_wp2_with (first
    | (at_builtin; refine wpList_more rfl _ _ rfl w.heap.size _ _ [false] ins rfl rfl S0.out.row (by simp) (HIN.out _ S0.out.bel) (by simp; omega) m2 HM2 ?_; intro g2 cp2 w2 hv2 hg2; have S2 : Hid (Sst w w2 ([false] ++ ins) (.slice (some ⟨g2, 0, none⟩) m2 cp2) (.int .i64 inp) (.slice al ls.length cl) (.slice aa xs.length ca) (.slice ab bs.length cb)) := S0.out.more hv2 hg2; clear hv2 hg2 S0)
    | (at_builtin; refine wpList_more rfl _ _ rfl w.heap.size _ _ ([false] ++ ins) lats rfl rfl S2.out.row (by simp) (HLA.out _ S2.out.bel) (by simp; omega) m3 HM3 ?_; intro g3 cp3 w3 hv3 hg3; have S3 : Hid (Sst w w3 ([false] ++ ins ++ lats) (.slice (some ⟨g3, 0, none⟩) m3 cp3) (.int .i64 inp) (.slice al ls.length cl) (.slice aa xs.length ca) (.slice ab bs.length cb)) := S2.out.more hv3 hg3; clear hv3 hg3 S2))
  go_loopw [7, 8] (fun o i wr => ∃ g m cp k, k ≤ xs.length ∧ i = .int .i64 (k : Nat) ∧ o = .slice (some ⟨g, 0, none⟩) m cp ∧ Hid ((valF ([false] ++ ins ++ lats) xs k).length = m) ∧ Sst w wr (valF ([false] ++ ins ++ lats) xs k) (.slice (some ⟨g, 0, none⟩) m cp) (.int .i64 inp) (.slice al ls.length cl) (.slice aa xs.length ca) (.slice ab bs.length cb)) (fun _ i _ => xs.length - (intOf i).toNat)
  case atStart => exact ⟨g3, m3, cp3, 0, Nat.zero_le _, rfl, rfl, HM3, S3.out⟩
  case round =>
    obtain ⟨g, m, cp, k, hk, rfl, rfl, hm, hS⟩ := hrel
    have c0 := hS.cir.four.c0
    have c1 := hS.cir.four.c1
    have c2 := hS.cir.four.c2
    have c3 := hS.cir.four.c3
    have c4 := hS.cir.lt
    by_cases hkl : k < xs.length
    · have hCr := HC.out _ hS.bel
      obtain ⟨b, off, rfl, hbl, hx1, hx2⟩ : ∃ b off, aa = some ⟨b, off, none⟩ ∧ b < wr.heap.size ∧ wr.cell? ⟨b, off + k * 2, none⟩ = some (.int .i64 (xs.getD k (0, 0)).1) ∧ wr.cell? ⟨b, off + k * 2 + 1, none⟩ = some (.int .i64 (xs.getD k (0, 0)).2) := by
        obtain ⟨ao', cap', he, h⟩ := hCr.isA
        obtain ⟨b, off, ha, hc⟩ := h (by intro e; subst e; simp at hkl)
        injection he with e1 e2 e3
        exact ⟨b, off, e1.trans ha, cell_lt (hc k hkl).1, hc k hkl⟩
      have hvl := valF_length ([false] ++ ins ++ lats) xs k (by omega)
      have hsl : (([false] ++ ins ++ lats).length : Int) = 1 + inp + ls.length := by have e1 := HIL.out; have e2 := HLL.out; simp; omega
      have hsucc := valF_succ ([false] ++ ins ++ lats) xs k hkl
      have hp := pair_of_ok HOK.out hkl
      have hmem : xs.getD k (0, 0) ∈ xs := by rw [List.getD, List.getElem?_eq_getElem hkl]; simp
      have h64 := H64.out _ hmem
      clear hCr
      generalize xs.getD k (0, 0) = q at *
      obtain ⟨q1, q2⟩ := q
      obtain ⟨p1, p2⟩ := hp
      have hp1 := ahead_of p1 h64.1
      have hp2 := ahead_of p2 h64.2
      have hpos : 0 < (valF ([false] ++ ins ++ lats) xs k).length := by omega
      have hl60 : (valF ([false] ++ ins ++ lats) xs k).length ≤ 100 := by rw [hvl]; omega
      have hr1 : q1 < 2 * ((valF ([false] ++ ins ++ lats) xs k).length : Int) := by rw [hvl]; omega
      have hr2 : q2 < 2 * ((valF ([false] ++ ins ++ lats) xs k).length : Int) := by rw [hvl]; omega
      have HX1 : wr.cell? ⟨b, off + k * 2, none⟩ = some (.int .i64 q1) := hx1
      have HX2 : wr.cell? ⟨b, off + k * 2 + 1, none⟩ = some (.int .i64 q2) := hx2
      clear hx1 hx2
      generalize valF ([false] ++ ins ++ lats) xs k = vs at *
      obtain ⟨b1, hb1⟩ : ∃ b, litV vs q1 = b := ⟨_, rfl⟩
      obtain ⟨b2, hb2⟩ : ∃ b, litV vs q2 = b := ⟨_, rfl⟩
      have HB1 : Hid (litV vs q1 = b1) := hb1
      have HB2 : Hid (litV vs q2 = b2) := hb2
      rw [hb1, hb2] at hsucc
      have HS : Hid (valF ([false] ++ ins ++ lats) xs (k + 1) = vs ++ [b1 && b2]) := hsucc
      have HM : Hid (vs.length = m) := hm
      have HST : Hid (Sst w wr vs (.slice (some ⟨g, 0, none⟩) m cp) (.int .i64 inp) (.slice al ls.length cl) (.slice (some ⟨b, off, none⟩) xs.length ca) (.slice ab bs.length cb)) := hS
      have HBits : Hid (IsBits wr (.slice (some ⟨g, 0, none⟩) m cp) vs) := hS.row.isBits
      have HM1 : Hid ((vs ++ [b1 && b2]).length = m + 1) := by show (vs ++ [b1 && b2]).length = m + 1; rw [List.length_append, hm.out]; rfl
      have HTB : Hid (IsBits (wr.alloc (.cells #[.bool (b1 && b2)] 4)) (.slice (some ⟨wr.heap.size, 0, none⟩) 1 1) [b1 && b2]) := ⟨_, _, rfl, fun _ => ⟨wr.heap.size, 0, rfl, fun i hi => by obtain rfl : i = 0 := (by simpa using hi); exact (Boxed.new wr 4 (.bool (b1 && b2))).cell⟩⟩
      clear hb1 hb2 hsucc hm hS hvl hsl p1 p2 h64 hmem
      cases b1 with
      | false =>
        go_wp2_with (first
          | (go_at_call 93; refine (l3Lit_any q1 _ vs _ HBits.out hp1.1 hr1 hl60).mono ?_; rintro e w' ⟨rfl, rfl⟩; rw [HB1.out])
          | (at_builtin; refine wpList_more rfl _ _ rfl w.heap.size _ _ vs [false && b2] rfl rfl (HST.out.below (belOne _ _)).row hpos HTB.out (by simp; omega) (m + 1) HM1 ?_; intro g5 cp5 w5 hv5 hg5; have S5 : Hid (Sst w w5 (vs ++ [false && b2]) (.slice (some ⟨g5, 0, none⟩) (m + 1) cp5) (.int .i64 inp) (.slice al ls.length cl) (.slice (some ⟨b, off, none⟩) xs.length ca) (.slice ab bs.length cb)) := (HST.out.below (belOne _ _)).more hv5 hg5; clear hv5 hg5))
        go_roundw
        case rel => exact ⟨g5, m + 1, cp5, k + 1, by omega, by go_num, rfl, by show (valF ([false] ++ ins ++ lats) xs (k + 1)).length = m + 1; rw [HS.out]; exact HM1.out, by rw [HS.out]; exact S5.out⟩
        case measure => simp [intOf]; omega
      | true =>
        go_wp2_with (first
          | (go_at_call_of 93 (Value.int .i64 q1); refine (l3Lit_any q1 _ vs _ HBits.out hp1.1 hr1 hl60).mono ?_; rintro e w' ⟨rfl, rfl⟩; rw [HB1.out])
          | (go_at_call 93; refine (l3Lit_any q2 _ vs _ HBits.out hp2.1 hr2 hl60).mono ?_; rintro e w' ⟨rfl, rfl⟩; rw [HB2.out])
          | (at_builtin; refine wpList_more rfl _ _ rfl w.heap.size _ _ vs [true && b2] rfl rfl (HST.out.below (belOne _ _)).row hpos HTB.out (by simp; omega) (m + 1) HM1 ?_; intro g5 cp5 w5 hv5 hg5; have S5 : Hid (Sst w w5 (vs ++ [true && b2]) (.slice (some ⟨g5, 0, none⟩) (m + 1) cp5) (.int .i64 inp) (.slice al ls.length cl) (.slice (some ⟨b, off, none⟩) xs.length ca) (.slice ab bs.length cb)) := (HST.out.below (belOne _ _)).more hv5 hg5; clear hv5 hg5))
        go_roundw
        case rel => exact ⟨g5, m + 1, cp5, k + 1, by omega, by go_num, rfl, by show (valF ([false] ++ ins ++ lats) xs (k + 1)).length = m + 1; rw [HS.out]; exact HM1.out, by rw [HS.out]; exact S5.out⟩
        case measure => simp [intOf]; omega
    · obtain rfl : k = xs.length := by omega
      have hmm := hm.out
      subst hmm
      have HST := hS
      clear hS
      go_wp2
      go_ret
      exact ⟨g, cp, rfl, HST.row, HST.bel⟩

end Go.Proofs.Ytbdjdgamnnifjaa

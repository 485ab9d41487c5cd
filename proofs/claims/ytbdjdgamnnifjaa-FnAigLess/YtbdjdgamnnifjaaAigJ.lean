/-
  Copies and comparisons of truths; AigValues of the program and of the model at every argument.
-/
import Derived.Test.YtbdjdgamnnifjaaAigI
namespace Go.Proofs.Ytbdjdgamnnifjaa
open Go.RowKit Go.Deep Go.Shelf
set_option linter.unusedVariables false

attribute [local go_sem] Oper.semAt_some

/-- Of the copy, so many cells are filled. -/
def partB (ms : List Bool) (k : Nat) : Nat → Value := fun i => if i < k then .bool (ms.getD i false) else .bool false

theorem partB_set {w : World} {b : Nat} {t : TypeId} {n : Nat} {ms : List Bool} {k : Nat} (h : w.rowIs b t n (partB ms k)) : (w.setCell ⟨b, k, none⟩ (.bool (ms.getD k false))).rowIs b t n (partB ms (k + 1)) := by
  refine (h.set k _).congr (fun i _ => ?_)
  unfold partB
  by_cases e : i = k
  · subst e; simp
  · rw [if_neg e]
    by_cases hlt : i < k
    · rw [if_pos hlt, if_pos (by omega)]
    · rw [if_neg hlt, if_neg (by omega)]

set_option maxHeartbeats 1000000 in
theorem toBoolS_any (v : Value) (ms : List Bool) (w : World) (hv : IsBits w v ms) (hn : ms.length ≤ 1048576) :
    Calls Try.prog 14 #[v] w fun e w' => e = .returned (.slice (some ⟨w.heap.size, 0, none⟩) ms.length ms.length) ∧ Below w.heap.size w w' ∧ w'.heap.size = w.heap.size + 1 ∧ w'.rowIs w.heap.size 4 ms.length (fun i => .bool (ms.getD i false)) := by
  obtain ⟨ao, cap, rfl, hv⟩ := hv
  generalize hN : ms.length = n at *
  have hmk := run_make_row' (P := Try.prog) 27 4 (.bool false) 1 Try.underlying27 info_bool rfl .i64 .i64 n (by omega) (by omega)
  have HN : Hid (ms.length = n) := hN
  clear hN
  by_cases hne : 0 < n
  · obtain ⟨b, off, rfl, hc⟩ := hv (by intro e; have := HN.out; subst e; simp at this; omega)
    have HC : Hid (∀ i, i < n → w.cell? ⟨b, off + i, none⟩ = some (.bool (ms.getD i false))) := hc
    clear hc hv
    go_enter Try.func14, Try.ntmps14
    go_wp2
    go_loopw [4] (fun i wr => ∃ k : Nat, k ≤ n ∧ i = .int .i64 k ∧ Below w.heap.size w wr ∧ wr.heap.size = w.heap.size + 1 ∧ wr.rowIs w.heap.size 4 n (partB ms k)) (fun i _ => n - (intOf i).toNat)
    case atStart => exact ⟨0, Nat.zero_le _, rfl, (Below.refl _ _).alloc (Nat.le_refl _) _, by simp, (World.rowIs_made w _ n 4).congr (fun j _ => by simp [partB])⟩
    case round =>
      obtain ⟨k, hk, rfl, hb, hsz, hrow⟩ := hrel
      by_cases hlt : k < n
      · have hcell := HC.out k hlt
        have hc1 : wr.cell? ⟨b, off + k, none⟩ = some (.bool (ms.getD k false)) := (hb.cell (cell_lt hcell)).trans hcell
        have hc2 := hrow.cell hlt
        have hfz := hrow.frozen k
        have hstep := partB_set hrow
        have HB : Hid (Below w.heap.size w wr) := hb
        have HS : Hid (wr.heap.size = w.heap.size + 1) := hsz
        have HST : Hid ((wr.setCell ⟨w.heap.size, k, none⟩ (.bool (ms.getD k false))).rowIs w.heap.size 4 n (partB ms (k + 1))) := hstep
        clear hcell hrow hb hsz hstep
        generalize ms.getD k false = x at *
        go_wp2
        go_roundw
        case rel => exact ⟨k + 1, by omega, by go_num, HB.out.setCell (Nat.le_refl _) _, by simp [HS.out], HST.out⟩
        case measure => simp [intOf]; omega
      · have hrow' : wr.rowIs w.heap.size 4 n (fun i => .bool (ms.getD i false)) := hrow.congr (fun i hi => by unfold partB; rw [if_pos (by omega)])
        go_wp2
        go_ret
        exact ⟨rfl, hb, hsz, hrow'⟩
  · go_enter Try.func14, Try.ntmps14
    go_wp2
    go_rounds 1
    go_ret
    exact ⟨rfl, (Below.refl _ _).alloc (Nat.le_refl _) _, by simp, (World.rowIs_made w _ n 4).congr (fun j _ => by omega)⟩

set_option maxHeartbeats 1000000 in
theorem eqBoolS_same (v1 v2 : Value) (ms : List Bool) (w : World) (h1 : IsBits w v1 ms) (h2 : IsBits w v2 ms) (hn : ms.length ≤ maxLen) :
    Calls Try.prog 16 #[v1, v2] w fun e w' => e = .returned (.bool true) ∧ ∃ n, w' = w.drewN n := by
  obtain ⟨ao1, cap1, rfl, h1⟩ := h1
  obtain ⟨ao2, cap2, rfl, h2⟩ := h2
  generalize hN : ms.length = n at *
  unfold maxLen at hn
  have HN : Hid (ms.length = n) := hN
  clear hN
  by_cases hne : 0 < n
  · have hx : ms ≠ [] := by intro e; have := HN.out; subst e; simp at this; omega
    obtain ⟨b1, off1, rfl, hc1⟩ := h1 hx
    obtain ⟨b2, off2, rfl, hc2⟩ := h2 hx
    have HC1 : Hid (∀ i, i < n → w.cell? ⟨b1, off1 + i, none⟩ = some (.bool (ms.getD i false))) := hc1
    have HC2 : Hid (∀ i, i < n → w.cell? ⟨b2, off2 + i, none⟩ = some (.bool (ms.getD i false))) := hc2
    clear hc1 hc2 h1 h2 hx
    go_enter Try.func16, Try.ntmps16
    go_wp2
    go_loopw [5] (fun i wr => ∃ k : Nat, k ≤ n ∧ i = .int .i64 k ∧ ∃ m, wr = w.drewN m) (fun i _ => n - (intOf i).toNat)
    case atStart => exact ⟨0, Nat.zero_le _, rfl, 0, rfl⟩
    case round =>
      obtain ⟨k, hk, rfl, m, rfl⟩ := hrel
      by_cases hlt : k < n
      · have hd1 := HC1.out k hlt
        have hd2 := HC2.out k hlt
        generalize ms.getD k false = x at *
        go_wp2
        go_quiet (fail)
        go_wp2
        go_roundw
        case rel => exact ⟨k + 1, by omega, by go_num, _, rfl⟩
        case measure => simp [intOf]; omega
      · go_wp2
        go_ret
        exact ⟨rfl, _, rfl⟩
  · clear h1 h2
    go_enter Try.func16, Try.ntmps16
    go_wp2
    go_rounds 1
    go_ret
    exact ⟨rfl, 0, rfl⟩


theorem IsBits.of_row {w : World} {b cap : Nat} {ms : List Bool} {f : Nat → Value} (hc : ms.length ≤ cap) (h : w.rowIs b 4 cap f) (hf : ∀ i, i < ms.length → f i = .bool (ms.getD i false)) : IsBits w (.slice (some ⟨b, 0, none⟩) ms.length cap) ms :=
  ⟨_, _, rfl, fun _ => ⟨b, 0, rfl, fun i hi => by rw [Nat.zero_add, h.cell (by omega), hf i hi]⟩⟩

/-- Whether latches and inputs fit a circuit. -/
def fitsB (inp : Int) (ls : List (Int × Bool)) (xs : List (Int × Int)) (bs : List Int) (lats ins : List Bool) : Bool := okC inp ls xs bs && (decide (lats.length = ls.length) && decide ((ins.length : Int) = inp))

theorem fitsB_iff {inp : Int} {ls : List (Int × Bool)} {xs : List (Int × Int)} {bs : List Int} {lats ins : List Bool} : fitsB inp ls xs bs lats ins = true ↔ okC inp ls xs bs = true ∧ lats.length = ls.length ∧ (ins.length : Int) = inp := by
  unfold fitsB; simp

theorem valsOf_fits {inp : Int} {ls : List (Int × Bool)} {xs : List (Int × Int)} {bs : List Int} {lats ins : List Bool} (h : fitsB inp ls xs bs lats ins = true) : valsOf inp ls xs bs lats ins = valF (startOf ins lats) xs xs.length := by
  unfold valsOf; rw [if_pos (fitsB_iff.1 h)]
theorem valsOf_not {inp : Int} {ls : List (Int × Bool)} {xs : List (Int × Int)} {bs : List Int} {lats ins : List Bool} (h : fitsB inp ls xs bs lats ins = false) : valsOf inp ls xs bs lats ins = [] := by
  unfold valsOf; rw [if_neg (fun h' => by rw [fitsB_iff.2 h'] at h; cases h)]

set_option maxHeartbeats 1000000 in
theorem l3Fits_any (inp : Int) (al aa ab : Option Addr) (cl ca cb : Nat) (ls : List (Int × Bool)) (xs : List (Int × Int)) (bs : List Int) (alt ain : Option Addr) (clt cin : Nat) (lats ins : List Bool) (w : World) (hC : IsCir w al aa ab cl ca cb ls xs bs) (he : okC inp ls xs bs = okS inp ls xs bs)
    (hl1 : lats.length ≤ 1048576) (hl2 : ins.length ≤ 1048576) :
    Calls Try.prog 50 #[.agg #[.int .i64 inp, .slice al ls.length cl, .slice aa xs.length ca, .slice ab bs.length cb], .slice alt lats.length clt, .slice ain ins.length cin] w fun e w' => e = .returned (.bool (fitsB inp ls xs bs lats ins)) ∧ Below w.heap.size w w' := by
  have hml := hC.lenL
  unfold maxLen at hml
  have HC : Hid (IsCir (w.alloc (.cells #[.int .i64 inp, .slice al ls.length cl, .slice aa xs.length ca, .slice ab bs.length cb] 33)) al aa ab cl ca cb ls xs bs) := hC.below (belOne _ _)
  have HF0 : Hid (Four (w.alloc (.cells #[.int .i64 inp, .slice al ls.length cl, .slice aa xs.length ca, .slice ab bs.length cb] 33)) w.heap.size (.int .i64 inp) (.slice al ls.length cl) (.slice aa xs.length ca) (.slice ab bs.length cb)) := Four.new _ _ _ _ _ _
  clear hC
  obtain ⟨o, ho⟩ : ∃ o, okC inp ls xs bs = o := ⟨_, rfl⟩
  have HE : Hid (okS inp ls xs bs = o) := by show okS inp ls xs bs = o; rw [← he, ho]
  have hfit : fitsB inp ls xs bs lats ins = (o && (((lats.length : Int) == (ls.length : Int)) && ((ins.length : Int) == inp))) := by
    unfold fitsB
    rw [ho]
    have e1 : decide (lats.length = ls.length) = ((lats.length : Int) == (ls.length : Int)) := by
      rw [Bool.eq_iff_iff, decide_eq_true_iff, beq_iff_eq]; omega
    have e2 : decide ((ins.length : Int) = inp) = ((ins.length : Int) == inp) := by
      rw [Bool.eq_iff_iff]; simp
    rw [e1, e2]
  rw [hfit]
  clear he ho hfit
  obtain ⟨b1, hb1⟩ : ∃ b, ((lats.length : Int) == (ls.length : Int)) = b := ⟨_, rfl⟩
  obtain ⟨b2, hb2⟩ : ∃ b, ((ins.length : Int) == inp) = b := ⟨_, rfl⟩
  rw [hb1, hb2]
  cases o with
  | false =>
    clear hb1 hb2
    go_enter Try.func50, Try.ntmps50
    go_wp2_with fail
    refine (specAigOk_any inp al aa ab cl ca cb ls xs bs _ HC.out).mono ?_
    rintro e w1 ⟨rfl, hb⟩
    rw [HE.out]
    have HB1 : Hid (Below w.heap.size w w1) := belNext (belOne _ _) hb
    clear hb
    go_wp2
    go_ret
    exact ⟨rfl, HB1.out⟩
  | true =>
    cases b1 with
    | false =>
      clear hb2
      go_enter Try.func50, Try.ntmps50
      go_wp2_with fail
      refine (specAigOk_any inp al aa ab cl ca cb ls xs bs _ HC.out).mono ?_
      rintro e w1 ⟨rfl, hb⟩
      rw [HE.out]
      have HB1 : Hid (Below w.heap.size w w1) := belNext (belOne _ _) hb
      have HF1 : Hid (Four w1 w.heap.size (.int .i64 inp) (.slice al ls.length cl) (.slice aa xs.length ca) (.slice ab bs.length cb)) := HF0.out.below hb
      clear hb
      have c0 := HF1.out.c0
      have c1 := HF1.out.c1
      go_wp2
      go_ret
      exact ⟨rfl, HB1.out⟩
    | true =>
      go_enter Try.func50, Try.ntmps50
      go_wp2_with fail
      refine (specAigOk_any inp al aa ab cl ca cb ls xs bs _ HC.out).mono ?_
      rintro e w1 ⟨rfl, hb⟩
      rw [HE.out]
      have HB1 : Hid (Below w.heap.size w w1) := belNext (belOne _ _) hb
      have HF1 : Hid (Four w1 w.heap.size (.int .i64 inp) (.slice al ls.length cl) (.slice aa xs.length ca) (.slice ab bs.length cb)) := HF0.out.below hb
      clear hb
      have c0 := HF1.out.c0
      have c1 := HF1.out.c1
      go_wp2
      go_ret
      exact ⟨rfl, HB1.out⟩

/-- What AigValues answers: a slice of the call's own. -/
def ValPost (vs : List Bool) (w : World) (e : Ending) (w' : World) : Prop :=
  ∃ ao m cap, e = .returned (.slice ao m cap) ∧ vs.length = m ∧ Ownb w' w.heap.size (.slice ao m cap) vs ∧ Below w.heap.size w w'

theorem ownb_nil (w : World) (base : Nat) : Ownb w base (.slice none 0 0) [] := ⟨rfl, .inl ⟨rfl, rfl⟩⟩
theorem ownb_empty (w : World) : Ownb (w.alloc (.cells #[] 4)) w.heap.size (.slice (some ⟨w.heap.size, 0, none⟩) 0 0) [] := ⟨by simp, .inr ⟨w.heap.size, 0, #[], rfl, Nat.le_refl _, World.alloc_heap_new _ _, Nat.le_refl _, by simp, by simp, by simp⟩⟩
theorem Ownb.base {w : World} {a b : Nat} {v : Value} {vs : List Bool} (h : Ownb w a v vs) (hb : b ≤ a) : Ownb w b v vs := by
  refine ⟨h.1, ?_⟩
  rcases h.2 with h2 | ⟨g, cap, cur, hv, hg, r⟩
  · exact .inl h2
  · exact .inr ⟨g, cap, cur, hv, by omega, r⟩

set_option maxHeartbeats 1000000 in
theorem specAigValues_any (inp : Int) (al aa ab : Option Addr) (cl ca cb : Nat) (ls : List (Int × Bool)) (xs : List (Int × Int)) (bs : List Int) (alt ain : Option Addr) (clt cin : Nat) (lats ins : List Bool) (w : World) (hC : IsCir w al aa ab cl ca cb ls xs bs)
    (hLa : IsBits w (.slice alt lats.length clt) lats) (hIn : IsBits w (.slice ain ins.length cin) ins) (hl64 : ∀ p ∈ ls, I64 p.1) (h64 : ∀ p ∈ xs, I64 p.1 ∧ I64 p.2) (hb64 : ∀ x ∈ bs, I64 x) (hl1 : lats.length ≤ 1048576) (hl2 : ins.length ≤ 1048576) :
    Calls Try.prog 12 #[.agg #[.int .i64 inp, .slice al ls.length cl, .slice aa xs.length ca, .slice ab bs.length cb], .slice alt lats.length clt, .slice ain ins.length cin] w (ValPost (valsOf inp ls xs bs lats ins) w) := by
  have HE : Hid (okC inp ls xs bs = okS inp ls xs bs) := okC_eq hl64 h64 hb64
  have HC : Hid (∀ w', Below w.heap.size w w' → IsCir w' al aa ab cl ca cb ls xs bs) := fun w' h => hC.below h
  have HLA : Hid (∀ w', Below w.heap.size w w' → IsBits w' (.slice alt lats.length clt) lats) := fun w' h => hLa.below h
  have HIN : Hid (∀ w', Below w.heap.size w w' → IsBits w' (.slice ain ins.length cin) ins) := fun w' h => hIn.below h
  have H64 : Hid (∀ p ∈ xs, I64 p.1 ∧ I64 p.2) := h64
  have HF0 : Hid (Four (w.alloc (.cells #[.int .i64 inp, .slice al ls.length cl, .slice aa xs.length ca, .slice ab bs.length cb] 33)) w.heap.size (.int .i64 inp) (.slice al ls.length cl) (.slice aa xs.length ca) (.slice ab bs.length cb)) := Four.new _ _ _ _ _ _
  clear hC hLa hIn h64 hl64 hb64
  obtain ⟨o, ho⟩ : ∃ o, fitsB inp ls xs bs lats ins = o := ⟨_, rfl⟩
  have HO : Hid (fitsB inp ls xs bs lats ins = o) := ho
  clear ho
  cases o with
  | false =>
    have HV : Hid (valsOf inp ls xs bs lats ins = []) := valsOf_not HO.out
    rw [HV.out]
    go_enter Try.func12, Try.ntmps12
    go_wp2_with fail
    refine (l3Fits_any inp al aa ab cl ca cb ls xs bs _ _ _ _ lats ins _ (HC.out _ (belOne _ _)) HE.out hl1 hl2).mono ?_
    rintro e w1 ⟨rfl, hb⟩
    rw [HO.out]
    have HB1 : Hid (Below w.heap.size w w1) := belNext (belOne _ _) hb
    clear hb
    go_wp2
    go_ret
    exact ⟨_, 0, 0, rfl, rfl, (ownb_empty _).base HB1.out.size, belNext HB1.out (belOne _ _)⟩
  | true =>
    have HV : Hid (valsOf inp ls xs bs lats ins = valF (startOf ins lats) xs xs.length) := valsOf_fits HO.out
    rw [HV.out]
    have HFI : Hid (okC inp ls xs bs = true ∧ lats.length = ls.length ∧ (ins.length : Int) = inp) := fitsB_iff.1 HO.out
    go_enter Try.func12, Try.ntmps12
    go_wp2_with fail
    refine (l3Fits_any inp al aa ab cl ca cb ls xs bs _ _ _ _ lats ins _ (HC.out _ (belOne _ _)) HE.out hl1 hl2).mono ?_
    rintro e w1 ⟨rfl, hb⟩
    rw [HO.out]
    have HB1 : Hid (Below w.heap.size w w1) := belNext (belOne _ _) hb
    have HF1 : Hid (Four w1 w.heap.size (.int .i64 inp) (.slice al ls.length cl) (.slice aa xs.length ca) (.slice ab bs.length cb)) := HF0.out.below hb
    clear hb
    have c0 := HF1.out.c0
    have c1 := HF1.out.c1
    have c2 := HF1.out.c2
    have c3 := HF1.out.c3
    go_wp2_with fail
    refine (l3Values_any inp al aa ab cl ca cb ls xs bs _ _ _ _ lats ins _ (HC.out _ HB1.out) (HLA.out _ HB1.out) (HIN.out _ HB1.out) HFI.out.1 HFI.out.2.1 HFI.out.2.2 H64.out).mono ?_
    rintro e w2 ⟨g, cap, rfl, hown, hb2⟩
    have HR : Hid (Ownb w2 w.heap.size (.slice (some ⟨g, 0, none⟩) (valF (startOf ins lats) xs xs.length).length cap) (valF (startOf ins lats) xs xs.length)) := hown.base HB1.out.size
    have HB2 : Hid (Below w.heap.size w w2) := belNext HB1.out hb2
    clear hown hb2
    generalize hm : (valF (startOf ins lats) xs xs.length).length = m at *
    have HM : Hid ((valF (startOf ins lats) xs xs.length).length = m) := hm
    clear hm
    go_wp2
    go_ret
    exact ⟨_, m, cap, rfl, HM.out, HR.out, HB2.out⟩

set_option maxRecDepth 100000 in
set_option maxHeartbeats 2000000 in
theorem implAigValues_any (inp : Int) (al aa ab : Option Addr) (cl ca cb : Nat) (ls : List (Int × Bool)) (xs : List (Int × Int)) (bs : List Int) (alt ain : Option Addr) (clt cin : Nat) (lats ins : List Bool) (w : World) (hC : IsCir w al aa ab cl ca cb ls xs bs)
    (hLa : IsBits w (.slice alt lats.length clt) lats) (hIn : IsBits w (.slice ain ins.length cin) ins) (h64 : ∀ p ∈ xs, I64 p.1 ∧ I64 p.2) (hl1 : lats.length ≤ 1048576) (hl2 : ins.length ≤ 1048576) :
    Calls Try.prog 15 #[.agg #[.int .i64 inp, .slice al ls.length cl, .slice aa xs.length ca, .slice ab bs.length cb], .slice alt lats.length clt, .slice ain ins.length cin] w (ValPost (valsOf inp ls xs bs lats ins) w) := by
  obtain ⟨o, ho⟩ : ∃ o, fitsB inp ls xs bs lats ins = o := ⟨_, rfl⟩
  cases o with
  | true =>
    obtain ⟨e1, e2, e3⟩ := fitsB_iff.1 ho
    rw [valsOf_fits ho]
    refine (implAigValues_fit inp al aa ab cl ca cb ls xs bs alt ain clt cin lats ins w hC hLa hIn e1 e2 e3 h64).mono ?_
    rintro e w' ⟨g, cap, rfl, h1, h2⟩
    exact ⟨_, _, cap, rfl, rfl, h1, h2⟩
  | false =>
    rw [valsOf_not ho]
    have hml := hC.lenL
    unfold maxLen at hml
    have HC : Hid (IsCir (w.alloc (.cells #[.int .i64 inp, .slice al ls.length cl, .slice aa xs.length ca, .slice ab bs.length cb] 33)) al aa ab cl ca cb ls xs bs) := hC.below (belOne _ _)
    have HF0 : Hid (Four (w.alloc (.cells #[.int .i64 inp, .slice al ls.length cl, .slice aa xs.length ca, .slice ab bs.length cb] 33)) w.heap.size (.int .i64 inp) (.slice al ls.length cl) (.slice aa xs.length ca) (.slice ab bs.length cb)) := Four.new _ _ _ _ _ _
    have HO : Hid (fitsB inp ls xs bs lats ins = false) := ho
    clear ho hC hLa hIn h64
    obtain ⟨k, hk⟩ : ∃ k, okC inp ls xs bs = k := ⟨_, rfl⟩
    have HK : Hid (okC inp ls xs bs = k) := hk
    clear hk
    refine (callsIn_wide (n := 8)).1 ?_
    refine callsIn_of_wp_marks Try.func15 rfl trivial ?_ rfl
    simp only [Try.ntmps15, List.size_toArray, List.length_cons, List.length_nil, Nat.reduceAdd, Nat.reduceSub, Array.replicate_succ, Array.replicate_zero, List.push_toArray, List.append_toArray, List.nil_append, List.cons_append]
    refine wpIn_wide.2 ?_
    go_wp2_with fail
    refine (implAigOk_any inp al aa ab cl ca cb ls xs bs _ HC.out).mono ?_
    rintro e w1 ⟨rfl, hb1⟩
    rw [HK.out]
    have HB1 : Hid (Below w.heap.size w w1) := belNext (belOne _ _) hb1
    have HF1 : Hid (Four w1 w.heap.size (.int .i64 inp) (.slice al ls.length cl) (.slice aa xs.length ca) (.slice ab bs.length cb)) := HF0.out.below hb1
    clear hb1
    have c0 := HF1.out.c0
    have c1 := HF1.out.c1
    have c4 := HF1.out.lt
    cases k with
    | false =>
      go_wp2
      exact ⟨_, results_tmp rfl _ _ _, none, 0, 0, rfl, rfl, ownb_nil _ _, HB1.out⟩
    | true =>
      by_cases e1 : lats.length = ls.length
      · by_cases e2 : (ins.length : Int) = inp
        · exact absurd (fitsB_iff.2 ⟨HK.out, e1, e2⟩) (by rw [HO.out]; simp)
        · have b1 : ((lats.length : Int) != (ls.length : Int)) = false := by simp [e1]
          have b2 : ((ins.length : Int) != inp) = true := by simp [e2]
          clear e1 e2
          go_wp2
          exact ⟨_, results_tmp rfl _ _ _, none, 0, 0, rfl, rfl, ownb_nil _ _, HB1.out⟩
      · have b1 : ((lats.length : Int) != (ls.length : Int)) = true := by simp; omega
        clear e1
        go_wp2
        exact ⟨_, results_tmp rfl _ _ _, none, 0, 0, rfl, rfl, ownb_nil _ _, HB1.out⟩

end Go.Proofs.Ytbdjdgamnnifjaa

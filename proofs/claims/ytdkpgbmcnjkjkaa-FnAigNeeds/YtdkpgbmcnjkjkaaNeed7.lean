/-
  What something needs: the program's AigNeeds.
-/
import Derived.Test.YtdkpgbmcnjkjkaaNeed6
namespace Go.Proofs.Ytdkpgbmcnjkjkaa
open Go.RowKit Go.Deep Go.Shelf
set_option linter.unusedVariables false

attribute [local go_sem] Oper.semAt_some

theorem owni_nil (w : World) (base : Nat) (h : base ≤ w.heap.size) : Owni w base (.slice none 0 0) [] := ⟨by simp, .inl ⟨rfl, rfl⟩⟩

theorem setF_none : setF (fun _ => false) = fun _ => Value.bool false := rfl

set_option maxRecDepth 100000 in
set_option maxHeartbeats 4000000 in
theorem implAigNeeds_any (inp : Int) (al aa ab : Option Addr) (cl ca cb : Nat) (ls : List (Int × Bool)) (xs : List (Int × Int)) (bs : List Int) (lit : Int) (w : World) (hC : IsCir w al aa ab cl ca cb ls xs bs) (h64 : ∀ p ∈ xs, I64 p.1 ∧ I64 p.2) (hlit : I64 lit) :
    Calls Try.prog 29 #[.agg #[.int .i64 inp, .slice al ls.length cl, .slice aa xs.length ca, .slice ab bs.length cb], .int .i64 lit] w (NeedPost inp ls xs bs lit w) := by
  have HC : Hid (∀ w', Below w.heap.size w w' → IsCir w' al aa ab cl ca cb ls xs bs) := fun w' h => hC.below h
  have HAA : Hid (∀ k off, aa = some ⟨k, off, none⟩ → k < w.heap.size) := fun k off e => hC.inA k off e
  have H64 : Hid (∀ p ∈ xs, I64 p.1 ∧ I64 p.2) := h64
  obtain ⟨o, ho⟩ : ∃ o, okC inp ls xs bs = o := ⟨_, rfl⟩
  have HO : Hid (okC inp ls xs bs = o) := ho
  obtain ⟨W1, hW1⟩ : ∃ W1, W1 = w.alloc (.cells #[.int .i64 inp, .slice al ls.length cl, .slice aa xs.length ca, .slice ab bs.length cb] 33) := ⟨_, rfl⟩
  have HF1 : Hid (Four W1 w.heap.size (.int .i64 inp) (.slice al ls.length cl) (.slice aa xs.length ca) (.slice ab bs.length cb)) := by rw [hW1]; exact Four.new _ _ _ _ _ _
  have HB1 : Hid (Below w.heap.size w W1) := by rw [hW1]; exact belOne _ _
  have HW1 : Hid (W1 = w.alloc (.cells #[.int .i64 inp, .slice al ls.length cl, .slice aa xs.length ca, .slice ab bs.length cb] 33)) := hW1
  have HLIT : Hid (I64 lit) := hlit
  obtain ⟨ib, hib, hzb0, hzb1, hzb2⟩ := info_parts info_int
  clear hC h64 hlit ho hW1
  go_enter Try.func29, Try.ntmps29
  go_wp2_with fail
  rw [← HW1.out]
  refine (implAigOk_any inp al aa ab cl ca cb ls xs bs _ (HC.out _ HB1.out)).mono ?_
  rintro e w3 ⟨he, hb3⟩
  rw [HO.out] at he
  subst he
  have HB3 : Hid (Below w.heap.size w w3) := belNext HB1.out hb3
  have HF3 := hideN (HF1.out.below hb3)
  clear hb3
  cases o with
  | false =>
    have c0 := HF3.out.c0
    have c1 := HF3.out.c1
    have c2 := HF3.out.c2
    have c3 := HF3.out.c3
    go_wp2
    go_ret
    exact ⟨_, 0, 0, [], rfl, rfl, by omega, owni_nil _ _ HB3.out.size, HB3.out, ⟨(fun h => by rw [HO.out] at h; exact absurd h.1 (by simp)), fun _ => rfl⟩⟩
  | true =>
    have hsz : 0 ≤ inp ∧ inp ≤ 8 ∧ ls.length ≤ 8 ∧ xs.length ≤ 40 ∧ bs.length ≤ 4 := by
      have h := HO.out
      unfold okC sizesB at h
      simp only [Bool.and_eq_true, decide_eq_true_eq] at h
      exact h.1
    obtain ⟨h0, h8, hl8, hx40, hb4⟩ := hsz
    obtain ⟨F, hF⟩ : ∃ F : Nat, (F : Int) = 1 + inp + ls.length := ⟨(1 + inp + ls.length).toNat, by omega⟩
    have HFF : Hid ((F : Int) = 1 + inp + ls.length) := hF
    obtain ⟨M, hM⟩ : ∃ M : Nat, M = F + xs.length := ⟨_, rfl⟩
    have HMM : Hid (M = F + xs.length) := hM
    have hMe : 1 + inp + (ls.length : Int) + (xs.length : Int) = (M : Int) := by omega
    have HME : Hid (1 + inp + (ls.length : Int) + (xs.length : Int) = (M : Int)) := hMe
    have hM1 : 1 ≤ M := by omega
    have hM100 : M ≤ 100 := by omega
    obtain ⟨r, hr⟩ : ∃ r, aheadG lit (M : Int) = r := ⟨_, rfl⟩
    have HAH : Hid (aheadG lit (M : Int) = r) := hr
    have HRG : Hid (r = true ↔ 0 ≤ lit ∧ lit ≤ 2 * (inp + (ls.length : Int) + (xs.length : Int)) + 1) := by
      show _ ↔ _
      rw [← hr, aheadG_eq HLIT.out]
      unfold aheadB
      simp only [Bool.and_eq_true, decide_eq_true_eq]
      omega
    clear hF hM hr hMe
    have c0 := HF3.out.c0
    have c1 := HF3.out.c1
    have c2 := HF3.out.c2
    have c3 := HF3.out.c3
    go_wp2_with fail
    refine (nodesOf_any _ _ _ _ _ _ _ _ _ _ _ h0 h8 hl8 hx40).mono ?_
    rintro e w4 ⟨rfl, hb4'⟩
    rw [HME.out]
    have HB4 : Hid (Below w.heap.size w w4) := belNext HB3.out hb4'
    have HF4 := hideN (HF3.out.below hb4')
    clear hb4' c0 c1 c2 c3
    go_wp2_with fail
    refine (isAhead_any _ _ _).mono ?_
    rintro e w' ⟨he, hw'⟩
    rw [HAH.out] at he
    subst he
    subst hw'
    cases r with
    | false =>
      go_wp2
      go_ret
      exact ⟨_, 0, 0, [], rfl, rfl, by omega, owni_nil _ _ HB4.out.size, HB4.out, ⟨(fun h => absurd (HRG.out.2 h.2) (by simp)), fun _ => rfl⟩⟩
    | true =>
      obtain ⟨hlit0, hlit1⟩ := HRG.out.1 rfl
      have hl1000 : lit ≤ 1000 := by omega
      have hMe := HME.out
      obtain ⟨n, hn⟩ : ∃ n : Nat, lit / 2 = (n : Int) := ⟨(lit / 2).toNat, by omega⟩
      have hnM : n < M := by omega
      have HN : Hid ((lit / 2).toNat = n) := by show _ = _; omega
      have HND : Hid (∀ V, Calls Try.prog 67 #[.int .i64 lit] V fun e w' => e = .returned (.int .i64 (n : Int)) ∧ w' = V) := fun V => by rw [← hn, ← halfW_eq hlit0 HLIT.out]; exact node_any lit V
      clear hMe hn
      have c0 := HF4.out.c0
      have c1 := HF4.out.c1
      have c2 := HF4.out.c2
      have c3 := HF4.out.c3
      go_wp2_with fail
      refine (nodesOf_any _ _ _ _ _ _ _ _ _ _ _ h0 h8 hl8 hx40).mono ?_
      rintro e w5 ⟨rfl, hb5⟩
      rw [HME.out]
      have HB5 : Hid (Below w.heap.size w w5) := belNext HB4.out hb5
      have HF5 := hideN (HF4.out.below hb5)
      clear hb5 c0 c1 c2 c3
      have hmk := run_make_row' (P := Try.prog) 27 4 (.bool false) 1 Try.underlying27 info_bool rfl .i64 .i64 M (by omega) (by omega)
      have HR6 : Hid ((w5.alloc (.cells (madeCells #[.bool false] M) 4)).rowIs w5.heap.size 4 M (setF (fun _ => false))) := (World.rowIs_made w5 _ M 4).congr (fun j _ => rfl)
      have HB6 : Hid (Below w.heap.size w (w5.alloc (.cells (madeCells #[.bool false] M) 4))) := belNext HB5.out (belOne _ _)
      have HF6 := hideN (HF5.out.below (belOne w5 (.cells (madeCells #[.bool false] M) 4)))
      have c4 := HF5.out.lt
      have hs5 := HB5.out.size
      have c0 := HF5.out.c0
      have c1 := HF5.out.c1
      have c2 := HF5.out.c2
      have c3 := HF5.out.c3
      go_wp2_with fail
      clear c0 c1 c2 c3 hmk
      generalize (w5.alloc (.cells (madeCells #[.bool false] M) 4)) = w6 at *
      refine (HND.out _).mono ?_
      rintro e w' ⟨rfl, hw'⟩
      subst hw'
      have HR7 : Hid ((w'.setCell ⟨w5.heap.size, n, none⟩ (.bool true)).rowIs w5.heap.size 4 M (setF (setS (fun _ => false) n))) := setF_set HR6.out
      have HB7 : Hid (Below w.heap.size w (w'.setCell ⟨w5.heap.size, n, none⟩ (.bool true))) := HB6.out.setCell (p := ⟨w5.heap.size, n, none⟩) (by show w.heap.size ≤ w5.heap.size; omega) _
      have HF7 : Hid (Four (w'.setCell ⟨w5.heap.size, n, none⟩ (.bool true)) w.heap.size (.int .i64 inp) (.slice al ls.length cl) (.slice aa xs.length ca) (.slice ab bs.length cb)) := (Chg.set w' w5.heap.size n (.bool true)).four HF6.out (by show w.heap.size ≠ w5.heap.size; omega)
      have d0 := HR6.out.cell (i := n) hnM
      have d1 := HR6.out.frozen n
      have c0 := HF7.out.c0
      have c1 := HF7.out.c1
      have c2 := HF7.out.c2
      have c3 := HF7.out.c3
      go_wp2_with fail
      clear c0 c1 c2 c3 d0 d1
      generalize (w'.setCell ⟨w5.heap.size, n, none⟩ (.bool true)) = w7 at *
      have HAO : Hid (Ahead F xs) := ahead_ok HO.out H64.out HFF.out
      refine (spread_any inp al aa ab cl ca cb ls xs bs w5.heap.size M F (setS (fun _ => false) n) _ h0 h8 hl8 hx40 HFF.out HMM.out HAO.out (small_ok HO.out H64.out) (fun k off e => by have h := HAA.out k off e; have h2 := HB7.out.size; exact ⟨by omega, by omega⟩) (HC.out _ HB7.out).isA HR7.out).mono ?_
      rintro e w8 ⟨rfl, hr8, hc8⟩
      have HLS : Hid (Least F xs (lit / 2).toNat (sweepF F xs (setS (fun _ => false) n) xs.length)) := by show Least _ _ _ _; rw [HN.out]; exact sweep_least HAO.out
      have HR8 : Hid (w8.rowIs w5.heap.size 4 M (setF (sweepF F xs (setS (fun _ => false) n) xs.length))) := hr8
      have HB8 : Hid (Below w.heap.size w w8) := Chg.below HB7.out HB7.out.size hc8 (fun k hk => by have hk' : k = w5.heap.size := hk; omega)
      clear hr8 hc8
      generalize sweepF F xs (setS (fun _ => false) n) xs.length = S at *
      go_wp2_with fail
      go_loopw [6, 31] (fun o i wr => ∃ a m cp k, k ≤ M ∧ i = .int .i64 (k : Nat) ∧ o = .slice a m cp ∧ Hid ((pickN S k).length = m) ∧ Owni wr w.heap.size (.slice a m cp) (pickN S k) ∧ wr.rowIs w5.heap.size 4 M (setF S) ∧ Below w.heap.size w wr) (fun _ i _ => M - (intOf i).toNat)
      case atStart => exact ⟨none, 0, 0, 0, Nat.zero_le _, rfl, rfl, rfl, owni_nil _ _ HB8.out.size, HR8.out, HB8.out⟩
      case round =>
        obtain ⟨a, m, cp, k, hkM, rfl, rfl, hm, hown, hrow, hbel⟩ := hrel
        have hm100 : m ≤ 100 := by have := pickN_le S k; have := hm.out; omega
        have HOW : Hid (Owni wr w.heap.size (.slice a m cp) (pickN S k)) := hown
        have HRW : Hid (wr.rowIs w5.heap.size 4 M (setF S)) := hrow
        have HBR : Hid (Below w.heap.size w wr) := hbel
        have hsw := hbel.size
        clear hown hbel
        by_cases hlt : k < M
        · have hcell : wr.cell? ⟨w5.heap.size, k, none⟩ = some (.bool (S k)) := hrow.cell hlt
          have hps := pickN_succ S k
          clear hrow
          obtain ⟨b, hb⟩ : ∃ b, S k = b := ⟨_, rfl⟩
          rw [hb] at hcell hps
          clear hb
          by_cases hbk : 0 < k ∧ b = true
          · have HPS : Hid (pickN S (k + 1) = pickN S k ++ [(k : Int)]) := by rw [if_pos hbk] at hps; exact hps
            obtain ⟨hk0, rfl⟩ := hbk
            clear hps
            have HOM : Hid ((wr.alloc (.cells #[.int .i64 (k : Int)] 3)).ownsRow w.heap.size 3 1 (.slice a m cp) m ((pickN S k).map (Value.int .i64))) := by have h := HOW.out.below (belOne wr (.cells #[.int .i64 (k : Int)] 3)); unfold Owni at h; rw [hm.out] at h; exact h
            go_wp2_with (at_builtin; refine wpList_append_lies _ rfl _ _ 24 rfl w.heap.size 3 ib (.int .i64 0) 1 8 Try.underlying24 hib hzb0 hzb1 hzb2 rfl (by decide) _ m ((pickN S k).map (Value.int .i64)) rfl HOM.out ⟨wr.heap.size, 0, none⟩ 1 1 [.int .i64 (k : Int)] rfl rfl (newsN _ _ _) (ints_oneCell .i64 [(k : Int)]) (by decide) (by unfold maxLen; omega) (by omega) (by simp; omega) _ rfl ?_; intro g gcap w9 hown9 hgrow9 hat9 hlt9)
            have HO9 : Hid (Owni w9 w.heap.size (.slice (some ⟨g, 0, none⟩) (m + 1) gcap) (pickN S (k + 1))) := by
              show Owni _ _ _ _
              unfold Owni
              rw [HPS.out, List.length_append, hm.out, List.map_append]
              exact hown9
            have HR9 : Hid (w9.rowIs w5.heap.size 4 M (setF S)) := by
              have h1 := HRW.out.of_block ((belOne wr (.cells #[.int .i64 (k : Int)] 3)).block _ HRW.out.lt)
              exact h1.of_block (hgrow9.block _ h1.lt (row_ne_row (HOW.out.below (belOne _ _)) h1))
            have HB9 : Hid (Below w.heap.size w w9) := (belNext HBR.out (belOne _ _)).grown hgrow9 (by simp; omega) (fun q e => (World.ownsRow.lt HOW.out q e).1)
            clear hown9 hgrow9 hat9 hlt9
            go_wp2_with fail
            go_roundw
            case rel => exact ⟨_, m + 1, gcap, k + 1, by omega, by go_num, rfl, by show (pickN S (k + 1)).length = m + 1; rw [HPS.out, List.length_append, hm.out]; rfl, HO9.out, HR9.out, HB9.out⟩
            case measure => simp [intOf]; omega
          · have HPS : Hid (pickN S (k + 1) = pickN S k) := by rw [if_neg hbk] at hps; exact hps
            clear hps
            cases b
            · clear hbk
              go_wp2_with fail
              go_roundw
              case rel => exact ⟨a, m, cp, k + 1, by omega, by go_num, rfl, by show (pickN S (k + 1)).length = m; rw [HPS.out]; exact hm.out, by rw [HPS.out]; exact HOW.out, HRW.out, HBR.out⟩
              case measure => simp [intOf]; omega
            · obtain rfl : k = 0 := by
                rcases Nat.eq_zero_or_pos k with e | e
                · exact e
                · exact absurd ⟨e, rfl⟩ hbk
              clear hbk
              go_wp2_with fail
              go_roundw
              case rel => exact ⟨a, m, cp, 1, by omega, by go_num, rfl, by show (pickN S (0 + 1)).length = m; rw [HPS.out]; exact hm.out, by show Owni _ _ _ (pickN S (0 + 1)); rw [HPS.out]; exact HOW.out, HRW.out, HBR.out⟩
              case measure => simp [intOf]; omega
        · obtain rfl : k = M := by omega
          clear hrow
          go_wp2
          go_ret
          exact ⟨a, m, cp, pickN S k, rfl, hm.out, hm100, HOW.out, HBR.out, ⟨fun _ => ⟨S, F, HFF.out, HLS.out, by rw [← HMM.out]⟩, fun h => absurd ⟨HO.out, hlit0, hlit1⟩ h⟩⟩

end Go.Proofs.Ytdkpgbmcnjkjkaa

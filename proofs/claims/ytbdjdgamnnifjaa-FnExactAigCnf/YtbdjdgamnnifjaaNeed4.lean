/-
  What something needs: the model's AigNeeds, walked.
-/
import Derived.Test.YtbdjdgamnnifjaaNeed3
import Derived.Test.YtbdjdgamnnifjaaAigF
import Derived.OwnWalk
namespace Go.Proofs.Ytbdjdgamnnifjaa
open Go.RowKit Go.Deep Go.Shelf
set_option linter.unusedVariables false

attribute [local go_sem] Oper.semAt_some

/-- What AigNeeds answers: the numbers of the least set, ascending, without 0. -/
def IsNeeds (inp : Int) (ls : List (Int × Bool)) (xs : List (Int × Int)) (bs : List Int) (lit : Int) (vs : List Int) : Prop :=
  (okC inp ls xs bs = true ∧ 0 ≤ lit ∧ lit ≤ 2 * (inp + ls.length + xs.length) + 1 → ∃ S F, ((F : Nat) : Int) = 1 + inp + ls.length ∧ Least F xs (lit / 2).toNat S ∧ vs = pickN S (F + xs.length)) ∧
  (¬ (okC inp ls xs bs = true ∧ 0 ≤ lit ∧ lit ≤ 2 * (inp + ls.length + xs.length) + 1) → vs = [])

theorem IsNeeds.uniq {inp : Int} {ls : List (Int × Bool)} {xs : List (Int × Int)} {bs : List Int} {lit : Int} {vs us : List Int} (h : IsNeeds inp ls xs bs lit vs) (k : IsNeeds inp ls xs bs lit us) : vs = us := by
  by_cases hc : okC inp ls xs bs = true ∧ 0 ≤ lit ∧ lit ≤ 2 * (inp + ls.length + xs.length) + 1
  · obtain ⟨S, F, h1, h2, rfl⟩ := h.1 hc
    obtain ⟨T, G, k1, k2, rfl⟩ := k.1 hc
    obtain rfl : F = G := by omega
    rw [Least.uniq h2 k2]
  · rw [h.2 hc, k.2 hc]

def NeedPost (inp : Int) (ls : List (Int × Bool)) (xs : List (Int × Int)) (bs : List Int) (lit : Int) (w : World) (e : Ending) (w' : World) : Prop :=
  ∃ ao m cap vs, e = .returned (.slice ao m cap) ∧ vs.length = m ∧ m ≤ 100 ∧ Owni w' w.heap.size (.slice ao m cap) vs ∧ Below w.heap.size w w' ∧ IsNeeds inp ls xs bs lit vs

theorem pickN_one (S : Nat → Bool) : pickN S 1 = [] := by
  rw [pickN_succ, if_neg (by simp)]
  rfl

theorem row_ne_row {w : World} {base : Nat} {v : Value} {vs : List Int} {b n : Nat} {f : Nat → Value} (h : Owni w base v vs) (hr : w.rowIs b 4 n f) : some b ≠ v.ownBlock := by
  intro e
  rcases h.2 with ⟨h3, _⟩ | ⟨g1, c1, cur1, h3, _, hh1, _⟩
  · rw [h3] at e; cases e
  · rw [h3] at e
    have e1 : b = g1 := Option.some.inj e
    subst e1
    obtain ⟨cells, hb, _⟩ := hr
    rw [hh1] at hb
    cases hb

set_option maxRecDepth 100000 in
set_option maxHeartbeats 4000000 in
theorem specAigNeeds_any (inp : Int) (al aa ab : Option Addr) (cl ca cb : Nat) (ls : List (Int × Bool)) (xs : List (Int × Int)) (bs : List Int) (lit : Int) (w : World) (hC : IsCir w al aa ab cl ca cb ls xs bs) (hl64 : ∀ p ∈ ls, I64 p.1) (h64 : ∀ p ∈ xs, I64 p.1 ∧ I64 p.2) (hb64 : ∀ x ∈ bs, I64 x) :
    Calls Try.prog 28 #[.agg #[.int .i64 inp, .slice al ls.length cl, .slice aa xs.length ca, .slice ab bs.length cb], .int .i64 lit] w (NeedPost inp ls xs bs lit w) := by
  have HC : Hid (∀ w', Below w.heap.size w w' → IsCir w' al aa ab cl ca cb ls xs bs) := fun w' h => hC.below h
  have HAA : Hid (∀ k off, aa = some ⟨k, off, none⟩ → k < w.heap.size) := fun k off e => hC.inA k off e
  have H64 : Hid (∀ p ∈ xs, I64 p.1 ∧ I64 p.2) := h64
  obtain ⟨o, ho⟩ : ∃ o, okC inp ls xs bs = o := ⟨_, rfl⟩
  have HO : Hid (okC inp ls xs bs = o) := ho
  have HOS : Hid (okS inp ls xs bs = o) := by show okS inp ls xs bs = o; rw [← okC_eq hl64 h64 hb64]; exact ho
  obtain ⟨W1, hW1⟩ : ∃ W1, W1 = w.alloc (.cells #[.int .i64 inp, .slice al ls.length cl, .slice aa xs.length ca, .slice ab bs.length cb] 33) := ⟨_, rfl⟩
  have hs1 : W1.heap.size = w.heap.size + 1 := by rw [hW1]; simp
  have HF1 : Hid (Four W1 w.heap.size (.int .i64 inp) (.slice al ls.length cl) (.slice aa xs.length ca) (.slice ab bs.length cb)) := by rw [hW1]; exact Four.new _ _ _ _ _ _
  have HB1 : Hid (Below w.heap.size w W1) := by rw [hW1]; exact belOne _ _
  have HW1 : Hid (W1 = w.alloc (.cells #[.int .i64 inp, .slice al ls.length cl, .slice aa xs.length ca, .slice ab bs.length cb] 33)) := hW1
  have HB2 : Hid (Below w.heap.size w (W1.alloc (.cells #[] 3))) := belNext HB1.out (belOne _ _)
  have HF2 := hideN (HF1.out.below (belOne W1 (.cells #[] 3)))
  have HE2 : Hid (Owni (W1.alloc (.cells #[] 3)) w.heap.size (.slice (some ⟨w.heap.size + 1, 0, none⟩) 0 0) []) := by
    have h := owni_empty W1
    rw [hs1] at h
    exact h.base (by omega)
  obtain ⟨ib, hib, hzb0, hzb1, hzb2⟩ := info_parts info_int
  clear hC hl64 h64 hb64 ho hW1
  go_enter Try.func28, Try.ntmps28
  go_wp2_with fail
  rw [← HW1.out]
  refine (specAigOk_any inp al aa ab cl ca cb ls xs bs _ (HC.out _ HB2.out)).mono ?_
  rintro e w3 ⟨he, hb3⟩
  rw [HOS.out] at he
  subst he
  have HB3 : Hid (Below w.heap.size w w3) := belNext HB2.out hb3
  have HF3 := hideN (HF2.out.below hb3)
  have HE3 : Hid (Owni w3 w.heap.size (.slice (some ⟨w.heap.size + 1, 0, none⟩) 0 0) []) := HE2.out.below hb3
  clear hb3
  cases o with
  | false =>
    go_wp2
    go_ret
    exact ⟨_, 0, 0, [], rfl, rfl, by omega, HE3.out, HB3.out, ⟨(fun h => by rw [HO.out] at h; exact absurd h.1 (by simp)), fun _ => rfl⟩⟩
  | true =>
    have hsz : 0 ≤ inp ∧ inp ≤ 8 ∧ ls.length ≤ 8 ∧ xs.length ≤ 40 ∧ bs.length ≤ 4 := by
      have h := HO.out
      unfold okC sizesB at h
      simp only [Bool.and_eq_true, decide_eq_true_eq] at h
      exact h.1
    obtain ⟨h0, h8, hl8, hx40, hb4⟩ := hsz
    obtain ⟨F, hF⟩ : ∃ F : Nat, (F : Int) = 1 + inp + ls.length := ⟨(1 + inp + ls.length).toNat, by omega⟩
    have HFF : Hid ((F : Int) = 1 + inp + ls.length) := hF
    obtain ⟨M, hM⟩ : ∃ M : Nat, M = F + xs.length := ⟨_, rfl⟩
    have HMM : Hid (M = F + xs.length) := hM
    have hMe : inp + (ls.length : Int) + (xs.length : Int) + 1 = (M : Int) := by omega
    have hM100 : M ≤ 100 := by omega
    have hM1 : 1 ≤ M := by omega
    obtain ⟨r, hr⟩ : ∃ r, inB lit 0 (2 * (inp + (ls.length : Int) + (xs.length : Int)) + 1) = r := ⟨_, rfl⟩
    have HIN : Hid (inB lit 0 (2 * (inp + (ls.length : Int) + (xs.length : Int)) + 1) = r) := hr
    have hw4 : IntKind.i64.wrap (2 * (inp + (ls.length : Int) + (xs.length : Int))) = 2 * (inp + (ls.length : Int) + (xs.length : Int)) := by rw [IntKind.wrap_i64]; omega
    have hw5 : IntKind.i64.wrap (2 * (inp + (ls.length : Int) + (xs.length : Int)) + 1) = 2 * (inp + (ls.length : Int) + (xs.length : Int)) + 1 := by rw [IntKind.wrap_i64]; omega
    have HRG : Hid (r = true ↔ 0 ≤ lit ∧ lit ≤ 2 * (inp + (ls.length : Int) + (xs.length : Int)) + 1) := by show _ ↔ _; rw [← hr]; unfold inB; simp
    have HME : Hid (inp + (ls.length : Int) + (xs.length : Int) + 1 = (M : Int)) := hMe
    clear hF hM hr hMe
    have c0 := HF3.out.c0
    have c1 := HF3.out.c1
    have c2 := HF3.out.c2
    have c3 := HF3.out.c3
    go_wp2_with fail
    refine (l3Nodes_any _ _ _ _ _ _ _ _ _ _ _ h0 h8 hl8 hx40).mono ?_
    rintro e w4 ⟨rfl, hb4'⟩
    have HB4 : Hid (Below w.heap.size w w4) := belNext HB3.out hb4'
    have HF4 := hideN (HF3.out.below hb4')
    have HE4 : Hid (Owni w4 w.heap.size (.slice (some ⟨w.heap.size + 1, 0, none⟩) 0 0) []) := HE3.out.below hb4'
    clear hb4' c0 c1 c2 c3
    go_wp2_with fail
    refine (l1In_any _ _ _ _).mono ?_
    rintro e w' ⟨he, hw'⟩
    rw [HIN.out] at he
    subst he
    subst hw'
    cases r with
    | false =>
      go_wp2
      go_ret
      exact ⟨_, 0, 0, [], rfl, rfl, by omega, HE4.out, HB4.out, ⟨(fun h => absurd (HRG.out.2 h.2) (by simp)), fun _ => rfl⟩⟩
    | true =>
      obtain ⟨hlit0, hlit1⟩ := HRG.out.1 rfl
      have hl1000 : lit ≤ 1000 := by omega
      have HNM : Hid ((lit / 2).toNat < M) := by have := HME.out; show _ < _; omega
      have c0 := HF4.out.c0
      have c1 := HF4.out.c1
      have c2 := HF4.out.c2
      have c3 := HF4.out.c3
      clear hw4 hw5
      go_wp2_with fail
      refine (l3Nodes_any _ _ _ _ _ _ _ _ _ _ _ h0 h8 hl8 hx40).mono ?_
      rintro e w5 ⟨rfl, hb5⟩
      have HB5 : Hid (Below w.heap.size w w5) := belNext HB4.out hb5
      have HF5 := hideN (HF4.out.below hb5)
      have HE5 : Hid (Owni w5 w.heap.size (.slice (some ⟨w.heap.size + 1, 0, none⟩) 0 0) []) := HE4.out.below hb5
      clear hb5 c0 c1 c2 c3
      have c0 := HF5.out.c0
      have c1 := HF5.out.c1
      have c2 := HF5.out.c2
      have c3 := HF5.out.c3
      have c4 := HF5.out.lt
      have hmk := run_make_row' (P := Try.prog) 27 4 (.bool false) 1 Try.underlying27 info_bool rfl .i64 .i64 M (by omega) (by omega)
      have hMe := HME.out
      have HR6 : Hid ((w5.alloc (.cells (madeCells #[.bool false] M) 4)).rowIs w5.heap.size 4 M (setF (fun _ => false))) := (World.rowIs_made w5 _ M 4).congr (fun j _ => rfl)
      go_wp2_with fail
      have HB6 : Hid (Below w.heap.size w (w5.alloc (.cells (madeCells #[.bool false] M) 4))) := belNext HB5.out (belOne _ _)
      have hs5 := HB5.out.size
      refine (l3Mark_any inp al aa ab cl ca cb ls xs bs w5.heap.size M F h0 h8 hl8 hx40 HFF.out HMM.out (ahead_ok HO.out H64.out HFF.out) (small_ok HO.out H64.out) (fun k off e => by have := HAA.out k off e; omega) (lit / 2).toNat lit M (fun _ => false) _ (by omega) hlit0 hl1000 HNM.out HNM.out (fun m _ _ _ h => by cases h) (HC.out _ HB6.out).isA HR6.out).mono ?_
      rintro e w6 ⟨rfl, S, hmp, hr6, hc6⟩
      have HLS : Hid (Least F xs (lit / 2).toNat S) := hmp.isLeast (by have := HMM.out; omega)
      have HB7 : Hid (Below w.heap.size w w6) := Chg.below HB6.out HB6.out.size hc6 (fun k hk => by have hk' : k = w5.heap.size := hk; omega)
      have HE7 : Hid (Owni w6 w.heap.size (.slice (some ⟨w.heap.size + 1, 0, none⟩) 0 0) []) := owni_of_block (HE5.out.below (belOne _ _)) (fun k e => hc6.block k (World.ownsRow.lt (HE5.out.below (belOne _ _)) k e).2 (fun hk => by have hk' : k = w5.heap.size := hk; have := (World.ownsRow.lt HE5.out k e).2; omega))
      have HR7 : Hid (w6.rowIs w5.heap.size 4 M (setF S)) := hr6
      clear hmp hr6 hc6 hmk c0 c1 c2 c3 c4 hMe
      go_wp2_with fail
      go_loopw [5, 7] (fun o i wr => ∃ a m cp k, 1 ≤ k ∧ k ≤ M ∧ i = .int .i64 (k : Nat) ∧ o = .slice a m cp ∧ Hid ((pickN S k).length = m) ∧ Owni wr w.heap.size (.slice a m cp) (pickN S k) ∧ wr.rowIs w5.heap.size 4 M (setF S) ∧ Below w.heap.size w wr) (fun _ i _ => M - (intOf i).toNat)
      case atStart => exact ⟨_, 0, 0, 1, Nat.le_refl _, hM1, rfl, rfl, by show (pickN S 1).length = 0; rw [pickN_one]; rfl, by rw [pickN_one]; exact HE7.out, HR7.out, HB7.out⟩
      case round =>
        obtain ⟨a, m, cp, k, hk1, hkM, rfl, rfl, hm, hown, hrow, hbel⟩ := hrel
        have hm100 : m ≤ 100 := by have := pickN_le S k; have := hm.out; omega
        have HOW : Hid (Owni wr w.heap.size (.slice a m cp) (pickN S k)) := hown
        have HRW : Hid (wr.rowIs w5.heap.size 4 M (setF S)) := hrow
        have HBR : Hid (Below w.heap.size w wr) := hbel
        have hsw := hbel.size
        clear hown hbel
        by_cases hlt : k < M
        · have hcell : wr.cell? ⟨w5.heap.size, k, none⟩ = some (.bool (S k)) := hrow.cell hlt
          have hps := pickN_succ S k
          clear hrow
          obtain ⟨b, hb⟩ : ∃ b, S k = b := ⟨_, rfl⟩
          rw [hb] at hcell hps
          clear hb
          cases b
          · have HPS : Hid (pickN S (k + 1) = pickN S k) := by rw [if_neg (by simp)] at hps; exact hps
            clear hps
            go_wp2_with fail
            go_roundw
            case rel => exact ⟨a, m, cp, k + 1, by omega, by omega, by go_num, rfl, by show (pickN S (k + 1)).length = m; rw [HPS.out]; exact hm.out, by rw [HPS.out]; exact HOW.out, HRW.out, HBR.out⟩
            case measure => simp [intOf]; omega
          · have HPS : Hid (pickN S (k + 1) = pickN S k ++ [(k : Int)]) := by rw [if_pos ⟨by omega, rfl⟩] at hps; exact hps
            clear hps
            have HOM : Hid ((wr.alloc (.cells #[.int .i64 (k : Int)] 3)).ownsRow w.heap.size 3 1 (.slice a m cp) m ((pickN S k).map (Value.int .i64))) := by have h := HOW.out.below (belOne wr (.cells #[.int .i64 (k : Int)] 3)); unfold Owni at h; rw [hm.out] at h; exact h
            go_wp2_with (at_builtin; refine wpList_append_lies _ rfl _ _ 24 rfl w.heap.size 3 ib (.int .i64 0) 1 8 Try.underlying24 hib hzb0 hzb1 hzb2 rfl (by decide) _ m ((pickN S k).map (Value.int .i64)) rfl HOM.out ⟨wr.heap.size, 0, none⟩ 1 1 [.int .i64 (k : Int)] rfl rfl (newsN _ _ _) (ints_oneCell .i64 [(k : Int)]) (by decide) (by unfold maxLen; omega) (by omega) (by simp; omega) _ rfl ?_; intro g gcap w8 hown8 hgrow8 hat8 hlt8)
            have HO8 : Hid (Owni w8 w.heap.size (.slice (some ⟨g, 0, none⟩) (m + 1) gcap) (pickN S (k + 1))) := by
              show Owni _ _ _ _
              unfold Owni
              rw [HPS.out, List.length_append, hm.out, List.map_append]
              exact hown8
            have HR8 : Hid (w8.rowIs w5.heap.size 4 M (setF S)) := by
              have h1 := HRW.out.of_block ((belOne wr (.cells #[.int .i64 (k : Int)] 3)).block _ HRW.out.lt)
              exact h1.of_block (hgrow8.block _ h1.lt (row_ne_row (HOW.out.below (belOne _ _)) h1))
            have HB8 : Hid (Below w.heap.size w w8) := (belNext HBR.out (belOne _ _)).grown hgrow8 (by simp; omega) (fun q e => (World.ownsRow.lt HOW.out q e).1)
            clear hown8 hgrow8 hat8 hlt8
            go_wp2_with fail
            go_roundw
            case rel => exact ⟨_, m + 1, gcap, k + 1, by omega, by omega, by go_num, rfl, by show (pickN S (k + 1)).length = m + 1; rw [HPS.out, List.length_append, hm.out]; rfl, HO8.out, HR8.out, HB8.out⟩
            case measure => simp [intOf]; omega
        · obtain rfl : k = M := by omega
          clear hrow
          go_wp2
          go_ret
          exact ⟨a, m, cp, pickN S k, rfl, hm.out, hm100, HOW.out, HBR.out, ⟨fun _ => ⟨S, F, HFF.out, HLS.out, by rw [← HMM.out]⟩, fun h => absurd ⟨HO.out, hlit0, hlit1⟩ h⟩⟩

end Go.Proofs.Ytbdjdgamnnifjaa

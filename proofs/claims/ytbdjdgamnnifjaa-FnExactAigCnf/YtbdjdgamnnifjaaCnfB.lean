/-
  Clauses of a circuit: one clause more, of model (l4Add) and program (putClause).
-/
import Derived.Test.YtbdjdgamnnifjaaCnfA
namespace Go.Proofs.Ytbdjdgamnnifjaa
open Go.RowKit Go.Deep Go.Shelf
set_option linter.unusedVariables false

attribute [local go_sem] Oper.semAt_some

set_option maxRecDepth 100000 in
set_option maxHeartbeats 4000000 in
theorem l4Add_any (lo hi n cap : Nat) (ao : Option Addr) (css : List (List Int)) (pv : Value) (ys : List Int) (w : World) (h : GridL w lo hi (.slice ao n cap) css) (hn : css.length = n) (hn2 : n ≤ 1000) (hlo : lo ≤ hi) (hhi : hi ≤ w.heap.size) (hp : IsInts w pv ys) (hy : ∀ y ∈ ys, 0 ≤ y ∧ y ≤ 200) (hl : ys.length ≤ 10) :
    Calls Try.prog 75 #[.slice ao n cap, pv] w (AddPost lo (.slice ao n cap) (addCl css ys) w) := by
  have HG : Hid (GridL w lo hi (.slice ao n cap) css) := h
  have HN : Hid (css.length = n) := hn
  have HP : Hid (IsInts w pv ys) := hp
  have HY : Hid (∀ y ∈ ys, 0 ≤ y ∧ y ≤ 200) := hy
  obtain ⟨ap, cp, rfl, -⟩ := hp
  obtain ⟨ib, hib, hzb0, hzb1, hzb2⟩ := info_parts info_int
  obtain ⟨ii, hii, hzi0, hzi1, hzi2⟩ := info_parts info_ints
  have HE : Hid (Owni (w.alloc (.cells #[] 3)) w.heap.size (.slice (some ⟨w.heap.size, 0, none⟩) 0 0) []) := owni_empty w
  have HB : Hid (Below w.heap.size w (w.alloc (.cells #[] 3))) := belOne _ _
  clear h hn hy
  go_enter Try.func75, Try.ntmps75
  go_wp2
  go_loopw [5, 6] (fun o i wr => ∃ a m cq k, k ≤ ys.length ∧ i = .int .i64 (k : Nat) ∧ o = .slice a m cq ∧ Hid ((clauseK ys k).length = m) ∧ Hid (Owni wr w.heap.size (.slice a m cq) (clauseK ys k)) ∧ Hid (hasOne (ys.take k) = false) ∧ Hid (Below w.heap.size w wr)) (fun _ i _ => ys.length - (intOf i).toNat)
  case atStart => exact ⟨_, 0, 0, 0, Nat.zero_le _, rfl, rfl, rfl, HE, rfl, HB⟩
  case round =>
    obtain ⟨a, m, cq, k, hk, rfl, rfl, hm, hown, hone, hbel⟩ := hrel
    have hsz := hbel.out.size
    have hm10 : m ≤ 10 := by have := clauseK_le ys k; have := hm.out; omega
    by_cases hlt : k < ys.length
    · obtain ⟨b, off, rfl, hcs⟩ : ∃ b off, ap = some ⟨b, off, none⟩ ∧ ∀ i, i < ys.length → wr.cell? ⟨b, off + i, none⟩ = some (.int .i64 (ys.getD i 0)) := by
        obtain ⟨ao', cap', he, h⟩ := HP.out.below hbel.out
        obtain ⟨b, off, ha, hc⟩ := h (by intro e; subst e; simp at hlt)
        injection he with e1 e2 e3
        exact ⟨b, off, e1.trans ha, hc⟩
      have d0 := hcs k hlt
      have hys := HY.out (ys.getD k 0) (by rw [List.getD, List.getElem?_eq_getElem hlt]; simp)
      have hsc := clauseK_succ ys k hlt
      have hso := hasOne_take_succ ys k hlt
      rw [hone.out, Bool.false_or] at hso
      clear hcs
      generalize ys.getD k 0 = y at *
      by_cases hy1 : y = 1
      · subst hy1
        have HT : Hid (hasOne ys = true) := hasOne_of_take (k := k + 1) (by rw [hso]; rfl)
        have HR : Hid (AddPost lo (.slice ao n cap) (addCl css ys) w (.returned (.slice ao n cap)) wr) := by
          show AddPost _ _ _ _ _ _
          unfold addCl
          rw [if_pos HT.out]
          exact gridL_same HG.out HN.out hhi hbel.out
        clear hsc hso
        go_wp2
        go_ret
        exact HR.out
      · have e1 : (y == 1) = false := by simpa using hy1
        have HO2 : Hid (hasOne (ys.take (k + 1)) = false) := by show _ = _; rw [hso]; exact e1
        clear hso hy1
        by_cases hy0 : y = 0
        · subst hy0
          have HSC : Hid (clauseK ys (k + 1) = clauseK ys k) := by rw [if_pos rfl] at hsc; exact hsc
          clear hsc
          go_wp2
          go_roundw
          case rel => exact ⟨a, m, cq, k + 1, by omega, by go_num, rfl, by rw [HSC.out]; exact hm, by rw [HSC.out]; exact hown, HO2, hbel⟩
          case measure => simp [intOf]; omega
        · have HSC : Hid (clauseK ys (k + 1) = clauseK ys k ++ [litN y]) := by rw [if_neg hy0] at hsc; exact hsc
          have e0 : (y == 0) = false := by simpa using hy0
          clear hsc hy0
          have HOM : Hid ((wr.alloc (.cells #[.int .i64 (litN y)] 3)).ownsRow w.heap.size 3 1 (.slice a m cq) m ((clauseK ys k).map (Value.int .i64))) := by have h := hown.out.below (belOne wr (.cells #[.int .i64 (litN y)] 3)); unfold Owni at h; rw [hm.out] at h; exact h
          go_wp2_with (first
            | (go_at_call 103; refine (l4Lit_any _ _ hys.1 hys.2).mono ?_; rintro e w' ⟨rfl, hw'⟩; obtain rfl := hw'.symm)
            | (at_builtin; refine wpList_append_lies _ rfl _ _ 24 rfl w.heap.size 3 ib (.int .i64 0) 1 8 Try.underlying24 hib hzb0 hzb1 hzb2 rfl (by decide) _ m ((clauseK ys k).map (Value.int .i64)) rfl HOM.out ⟨wr.heap.size, 0, none⟩ 1 1 [.int .i64 (litN y)] rfl rfl (newsN _ _ _) (ints_oneCell .i64 [litN y]) (by decide) (by unfold maxLen; omega) (by omega) (by simp; omega) _ rfl ?_; intro g gcap w9 hown9 hgrow9 hat9 hlt9))
          have HO9 : Hid (Owni w9 w.heap.size (.slice (some ⟨g, 0, none⟩) (m + 1) gcap) (clauseK ys (k + 1))) := by
            show Owni _ _ _ _
            unfold Owni
            rw [HSC.out, List.length_append, hm.out, List.map_append]
            exact hown9
          have HB9 : Hid (Below w.heap.size w w9) := (belNext hbel.out (belOne _ _)).grown hgrow9 (by simp; omega) (fun q e => (hown.out.blk q e).1)
          clear hown9 hgrow9 hat9 hlt9
          go_wp2_with fail
          go_roundw
          case rel => exact ⟨_, m + 1, gcap, k + 1, by omega, by go_num, rfl, by show (clauseK ys (k + 1)).length = m + 1; rw [HSC.out, List.length_append, hm.out]; rfl, HO9, HO2, HB9⟩
          case measure => simp [intOf]; omega
    · obtain rfl : k = ys.length := by omega
      have HT : Hid (addCl css ys = css ++ [clauseK ys ys.length]) := by
        have h := hone.out
        rw [List.take_of_length_le (Nat.le_refl _)] at h
        show _ = _
        unfold addCl
        rw [if_neg (by rw [h]; simp)]
      obtain ⟨vs, g1, g2, g3, g4⟩ := GridF.below HG.out hbel.out
      have HV1 : Hid (wr.ownsRow lo 24 1 (.slice ao n cap) n vs) := by show World.ownsRow _ _ _ _ _ _ _; rw [← HN.out]; rw [← HN.out] at g1; exact g1
      have HG1 := hideN g1
      have HG3 := hideN g3
      have HG4 := hideN g4
      clear g1 g2 g3 g4
      go_wp2_with (at_builtin; refine wpList_append_lies _ rfl _ _ 53 rfl lo 24 ii (.slice none 0 0) 1 24 Try.underlying53 hii hzi0 hzi1 hzi2 rfl (by decide) _ n vs rfl (World.ownsRow.alloc HV1.out _) ⟨wr.heap.size, 0, none⟩ 1 1 [.slice a m cq] rfl rfl (newsN _ _ _) (slice_one _ _ _) (by decide) (by unfold maxLen; omega) (by omega) (by simp; omega) _ rfl ?_; intro g gcap w8 hown8 hgrow8 hat8 hlt8)
      have HR : Hid (AddPost lo (.slice ao n cap) (addCl css ys) w (.returned (.slice (some ⟨g, 0, none⟩) (n + 1) gcap)) w8) := by
        show AddPost _ _ _ _ _ _
        rw [HT.out]
        have hbb : Below w.heap.size w (wr.alloc (.cells #[.slice a m cq] 24)) := belNext hbel.out (belOne _ _)
        refine ⟨some ⟨g, 0, none⟩, n + 1, gcap, rfl, by rw [List.length_append, HN.out]; rfl, ?_, chg_grown hbb hgrow8, fun q e => by
          have e2 : g = q := Option.some.inj e
          subst e2
          rcases hat8 with h8 | h8
          · exact .inl h8
          · exact .inr (by have h9 := hbel.out.size; have h7 := h8; rw [World.size_alloc] at h7; omega)⟩
        have hns := HN.out
        subst hns
        exact GridL.snoc (World.ownsRow.alloc HG1.out _) (fun i hi => by obtain ⟨rv, h1, h2, h3⟩ := HG3.out i hi; exact ⟨rv, h1, h2.below (belOne _ _), h3⟩) HG4.out hlo ((hown.out.below (belOne _ _)).base hhi) hgrow8 hown8
      clear hown8 hgrow8 hat8 hlt8
      go_wp2
      go_ret
      exact HR.out

set_option maxRecDepth 100000 in
set_option maxHeartbeats 4000000 in
theorem putClause_any (lo hi n cap : Nat) (ao : Option Addr) (css : List (List Int)) (pv : Value) (ys : List Int) (w : World) (h : GridL w lo hi (.slice ao n cap) css) (hn : css.length = n) (hn2 : n ≤ 1000) (hlo : lo ≤ hi) (hhi : hi ≤ w.heap.size) (hp : IsInts w pv ys) (hy : ∀ y ∈ ys, 0 ≤ y ∧ y ≤ 200) (hl : ys.length ≤ 10) :
    Calls Try.prog 104 #[.slice ao n cap, pv] w (AddPost lo (.slice ao n cap) (addCl css ys) w) := by
  have HG : Hid (GridL w lo hi (.slice ao n cap) css) := h
  have HN : Hid (css.length = n) := hn
  have HP : Hid (IsInts w pv ys) := hp
  have HY : Hid (∀ y ∈ ys, 0 ≤ y ∧ y ≤ 200) := hy
  obtain ⟨ap, cp, rfl, -⟩ := hp
  obtain ⟨ib, hib, hzb0, hzb1, hzb2⟩ := info_parts info_int
  obtain ⟨ii, hii, hzi0, hzi1, hzi2⟩ := info_parts info_ints
  have HE : Hid (Owni w w.heap.size (.slice none 0 0) []) := owni_nil w _ (Nat.le_refl _)
  have HB : Hid (Below w.heap.size w w) := Below.refl _ _
  obtain ⟨o, ho⟩ : ∃ o, hasOne ys = o := ⟨_, rfl⟩
  have HO : Hid (hasOne ys = o) := ho
  clear h hn hy ho
  go_enter Try.func104, Try.ntmps104
  go_wp2_with fail
  refine (containsM_any _ ys _ HP.out (by omega)).mono ?_
  rintro e w' ⟨he, hw'⟩
  rw [HO.out] at he
  subst he
  obtain rfl := hw'.symm
  cases o with
  | true =>
    have HR : Hid (AddPost lo (.slice ao n cap) (addCl css ys) w (.returned (.slice ao n cap)) w) := by
      show AddPost _ _ _ _ _ _
      unfold addCl
      rw [if_pos HO.out]
      exact gridL_same HG.out HN.out hhi HB.out
    go_wp2
    go_ret
    exact HR.out
  | false =>
  go_wp2_with fail
  go_loopw [5, 13] (fun o i wr => ∃ a m cq k, k ≤ ys.length ∧ i = .int .i64 (k : Nat) ∧ o = .slice a m cq ∧ Hid ((clauseK ys k).length = m) ∧ Hid (Owni wr w.heap.size (.slice a m cq) (clauseK ys k)) ∧ Hid (Below w.heap.size w wr)) (fun _ i _ => ys.length - (intOf i).toNat)
  case atStart => exact ⟨_, 0, 0, 0, Nat.zero_le _, rfl, rfl, rfl, HE, HB⟩
  case round =>
    obtain ⟨a, m, cq, k, hk, rfl, rfl, hm, hown, hbel⟩ := hrel
    have hsz := hbel.out.size
    have hm10 : m ≤ 10 := by have := clauseK_le ys k; have := hm.out; omega
    by_cases hlt : k < ys.length
    · obtain ⟨b, off, rfl, hcs⟩ : ∃ b off, ap = some ⟨b, off, none⟩ ∧ ∀ i, i < ys.length → wr.cell? ⟨b, off + i, none⟩ = some (.int .i64 (ys.getD i 0)) := by
        obtain ⟨ao', cap', he, h⟩ := HP.out.below hbel.out
        obtain ⟨b, off, ha, hc⟩ := h (by intro e; subst e; simp at hlt)
        injection he with e1 e2 e3
        exact ⟨b, off, e1.trans ha, hc⟩
      have d0 := hcs k hlt
      have hys := HY.out (ys.getD k 0) (by rw [List.getD, List.getElem?_eq_getElem hlt]; simp)
      have hsc := clauseK_succ ys k hlt
      clear hcs
      generalize ys.getD k 0 = y at *
      by_cases hy0 : y = 0
      · subst hy0
        have HSC : Hid (clauseK ys (k + 1) = clauseK ys k) := by rw [if_pos rfl] at hsc; exact hsc
        clear hsc
        go_wp2
        go_roundw
        case rel => exact ⟨a, m, cq, k + 1, by omega, by go_num, rfl, by rw [HSC.out]; exact hm, by rw [HSC.out]; exact hown, hbel⟩
        case measure => simp [intOf]; omega
      · have HSC : Hid (clauseK ys (k + 1) = clauseK ys k ++ [litN y]) := by rw [if_neg hy0] at hsc; exact hsc
        have e0 : (y == 0) = false := by simpa using hy0
        clear hsc hy0
        have HOM : Hid ((wr.alloc (.cells #[.int .i64 (litN y)] 3)).ownsRow w.heap.size 3 1 (.slice a m cq) m ((clauseK ys k).map (Value.int .i64))) := by have h := hown.out.below (belOne wr (.cells #[.int .i64 (litN y)] 3)); unfold Owni at h; rw [hm.out] at h; exact h
        go_wp2_with (first
          | (go_at_call 119; refine (literal_any _ _ hys.1 hys.2).mono ?_; rintro e w' ⟨rfl, hw'⟩; obtain rfl := hw'.symm)
          | (at_builtin; refine wpList_append_lies _ rfl _ _ 24 rfl w.heap.size 3 ib (.int .i64 0) 1 8 Try.underlying24 hib hzb0 hzb1 hzb2 rfl (by decide) _ m ((clauseK ys k).map (Value.int .i64)) rfl HOM.out ⟨wr.heap.size, 0, none⟩ 1 1 [.int .i64 (litN y)] rfl rfl (newsN _ _ _) (ints_oneCell .i64 [litN y]) (by decide) (by unfold maxLen; omega) (by omega) (by simp; omega) _ rfl ?_; intro g gcap w9 hown9 hgrow9 hat9 hlt9))
        have HO9 : Hid (Owni w9 w.heap.size (.slice (some ⟨g, 0, none⟩) (m + 1) gcap) (clauseK ys (k + 1))) := by
          show Owni _ _ _ _
          unfold Owni
          rw [HSC.out, List.length_append, hm.out, List.map_append]
          exact hown9
        have HB9 : Hid (Below w.heap.size w w9) := (belNext hbel.out (belOne _ _)).grown hgrow9 (by simp; omega) (fun q e => (hown.out.blk q e).1)
        clear hown9 hgrow9 hat9 hlt9
        go_wp2_with fail
        go_roundw
        case rel => exact ⟨_, m + 1, gcap, k + 1, by omega, by go_num, rfl, by show (clauseK ys (k + 1)).length = m + 1; rw [HSC.out, List.length_append, hm.out]; rfl, HO9, HB9⟩
        case measure => simp [intOf]; omega
    · obtain rfl : k = ys.length := by omega
      have HT : Hid (addCl css ys = css ++ [clauseK ys ys.length]) := by
        show _ = _
        unfold addCl
        rw [if_neg (by rw [HO.out]; simp)]
      obtain ⟨vs, g1, g2, g3, g4⟩ := GridF.below HG.out hbel.out
      have HV1 : Hid (wr.ownsRow lo 24 1 (.slice ao n cap) n vs) := by show World.ownsRow _ _ _ _ _ _ _; rw [← HN.out]; rw [← HN.out] at g1; exact g1
      have HG1 := hideN g1
      have HG3 := hideN g3
      have HG4 := hideN g4
      clear g1 g2 g3 g4
      go_wp2_with (at_builtin; refine wpList_append_lies _ rfl _ _ 53 rfl lo 24 ii (.slice none 0 0) 1 24 Try.underlying53 hii hzi0 hzi1 hzi2 rfl (by decide) _ n vs rfl (World.ownsRow.alloc HV1.out _) ⟨wr.heap.size, 0, none⟩ 1 1 [.slice a m cq] rfl rfl (newsN _ _ _) (slice_one _ _ _) (by decide) (by unfold maxLen; omega) (by omega) (by simp; omega) _ rfl ?_; intro g gcap w8 hown8 hgrow8 hat8 hlt8)
      have HR : Hid (AddPost lo (.slice ao n cap) (addCl css ys) w (.returned (.slice (some ⟨g, 0, none⟩) (n + 1) gcap)) w8) := by
        show AddPost _ _ _ _ _ _
        rw [HT.out]
        have hbb : Below w.heap.size w (wr.alloc (.cells #[.slice a m cq] 24)) := belNext hbel.out (belOne _ _)
        refine ⟨some ⟨g, 0, none⟩, n + 1, gcap, rfl, by rw [List.length_append, HN.out]; rfl, ?_, chg_grown hbb hgrow8, fun q e => by
          have e2 : g = q := Option.some.inj e
          subst e2
          rcases hat8 with h8 | h8
          · exact .inl h8
          · exact .inr (by have h9 := hbel.out.size; have h7 := h8; rw [World.size_alloc] at h7; omega)⟩
        have hns := HN.out
        subst hns
        exact GridL.snoc (World.ownsRow.alloc HG1.out _) (fun i hi => by obtain ⟨rv, h1, h2, h3⟩ := HG3.out i hi; exact ⟨rv, h1, h2.below (belOne _ _), h3⟩) HG4.out hlo ((hown.out.below (belOne _ _)).base hhi) hgrow8 hown8
      clear hown8 hgrow8 hat8 hlt8
      go_wp2
      go_ret
      exact HR.out

end Go.Proofs.Ytbdjdgamnnifjaa

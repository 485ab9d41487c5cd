/-
  A circuit without what is needless: the model's l3Fold.
-/
import Derived.Test.YtbdjdgamnnifjaaLess3
import Derived.Test.YtbdjdgamnnifjaaNeed6
namespace Go.Proofs.Ytbdjdgamnnifjaa
open Go.RowKit Go.Deep Go.Shelf
set_option linter.unusedVariables false

attribute [local go_sem] Oper.semAt_some

set_option maxRecDepth 100000 in
set_option maxHeartbeats 8000000 in
theorem l3Fold_any (inp : Int) (al aa ab : Option Addr) (cl ca cb : Nat) (ls : List (Int × Bool)) (xs : List (Int × Int)) (bs : List Int) (F : Nat) (w : World) (hC : IsCir w al aa ab cl ca cb ls xs bs) (h0 : 0 ≤ inp) (h8 : inp ≤ 8) (hl8 : ls.length ≤ 8) (hx40 : xs.length ≤ 40) (hb4 : bs.length ≤ 4) (hF : (F : Int) = 1 + inp + ls.length) (hA : AndsOk F xs) (hL : ∀ p ∈ ls, 0 ≤ p.1 ∧ p.1 < 2 * ((F : Int) + xs.length)) (hB : ∀ x ∈ bs, 0 ≤ x ∧ x < 2 * ((F : Int) + xs.length)) :
    Calls Try.prog 83 #[.agg #[.int .i64 inp, .slice al ls.length cl, .slice aa xs.length ca, .slice ab bs.length cb]] w (LessPost inp (mapLat (foldS F xs xs.length).1 ls) (foldS F xs xs.length).2 (mapBad (foldS F xs xs.length).1 bs) w) := by
  have HC : Hid (∀ w', Below w.heap.size w w' → IsCir w' al aa ab cl ca cb ls xs bs) := fun w' h => hC.below h
  have HA := hideN hA
  have HL := hideN hL
  have HBD := hideN hB
  have HFF := hideN hF
  have HL3F : Hid (∀ V, Calls Try.prog 74 #[.agg #[.int .i64 inp, .slice al ls.length cl, .slice aa xs.length ca, .slice ab bs.length cb]] V fun e w' => e = .returned (.int .i64 (F : Int)) ∧ Below V.heap.size V w') := fun V => by rw [hF]; exact l3First_any _ _ _ _ _ _ _ _ _ _ _ h0 h8 hl8
  have hF17 : F ≤ 17 := by omega
  have hF1 : 1 ≤ F := by omega
  obtain ⟨ib, hib, hzb0, hzb1, hzb2⟩ := info_parts info_int
  obtain ⟨ia, hia, hza0, hza1, hza2⟩ := info_parts info_and
  obtain ⟨il, hil, hzl0, hzl1, hzl2⟩ := info_parts info_latch
  obtain ⟨W1, hW1⟩ : ∃ W1, W1 = ((w.alloc (.cells #[.int .i64 inp, .slice al ls.length cl, .slice aa xs.length ca, .slice ab bs.length cb] 33)).alloc (.cells #[.int .i64 0, .slice none 0 0, .slice none 0 0, .slice none 0 0] 33)).alloc (.cells #[.int .i64 inp, .slice none 0 0, .slice none 0 0, .slice none 0 0] 33) := ⟨_, rfl⟩
  have hs1 : W1.heap.size = w.heap.size + 3 := by rw [hW1]; simp
  have HS1 : Hid (Fst w W1 w.heap.size (w.heap.size + 1) (w.heap.size + 2) (w.heap.size + 3) inp (.slice al ls.length cl) (.slice aa xs.length ca) (.slice ab bs.length cb) (.slice none 0 0) (.slice none 0 0) (.slice none 0 0)) := by
    rw [hW1]
    have hq := Own4.new (w.alloc (.cells #[.int .i64 inp, .slice al ls.length cl, .slice aa xs.length ca, .slice ab bs.length cb] 33)) 33 (.int .i64 0) (.slice none 0 0) (.slice none 0 0) (.slice none 0 0)
    have hc := Own4.new ((w.alloc (.cells #[.int .i64 inp, .slice al ls.length cl, .slice aa xs.length ca, .slice ab bs.length cb] 33)).alloc (.cells #[.int .i64 0, .slice none 0 0, .slice none 0 0, .slice none 0 0] 33)) 33 (.int .i64 inp) (.slice none 0 0) (.slice none 0 0) (.slice none 0 0)
    rw [World.size_alloc] at hq
    rw [World.size_alloc, World.size_alloc] at hc
    exact ⟨((Own4.new _ _ _ _ _ _).below (belOne _ _)).below (belOne _ _), hq.below (belOne _ _), hc, belNext (belNext (belOne _ _) (belOne _ _)) (belOne _ _), Nat.le_refl _, by omega, by omega, by omega, by omega, by omega, by omega, by omega, by omega, by simp⟩
  have HW1 := hideN hW1
  have HT1 : Hid (Owni (W1.alloc (.cells #[] 3)) (w.heap.size + 3) (.slice (some ⟨w.heap.size + 3, 0, none⟩) 0 0) ((start2 F).take 0)) := by
    have h := owni_empty W1
    rw [hs1] at h
    exact h
  have HS2 := hideN (HS1.out.below (belOne W1 (.cells #[] 3)))
  clear hC hA hL hB hF hW1 hs1
  go_enter Try.func83, Try.ntmps83
  go_wp2_with fail
  rw [← HW1.out]
  go_loopw [4, 5] (fun t i wr => ∃ at' k cp, k ≤ F ∧ i = .int .i64 (k : Nat) ∧ t = .slice at' k cp ∧ Hid (Owni wr (w.heap.size + 3) (.slice at' k cp) ((start2 F).take k)) ∧ Hid (Fst w wr w.heap.size (w.heap.size + 1) (w.heap.size + 2) (w.heap.size + 3) inp (.slice al ls.length cl) (.slice aa xs.length ca) (.slice ab bs.length cb) (.slice none 0 0) (.slice none 0 0) (.slice none 0 0))) (fun _ i _ => F - (intOf i).toNat)
  case atStart => exact ⟨_, 0, 0, Nat.zero_le _, rfl, rfl, HT1, HS2⟩
  case round =>
    obtain ⟨at', k, cp, hk, rfl, rfl, hto, hst⟩ := hrel
    have c0 := hst.out.b.four.c0
    have c1 := hst.out.b.four.c1
    have c2 := hst.out.b.four.c2
    have c3 := hst.out.b.four.c3
    go_wp2_with fail
    refine (HL3F.out _).mono ?_
    rintro e w1 ⟨rfl, hb1⟩
    have HTO := hideN (hto.out.below hb1)
    have HST := hideN (hst.out.below hb1)
    clear hb1 hto hst c0 c1 c2 c3
    by_cases hlt : k < F
    · have dlt : decide ((k : Int) < (F : Int)) = true := by simp; omega
      have hlen : ((start2 F).take k).length = k := by rw [List.length_take, start2_length]; omega
      have HSU := hideN (start2_take_succ F k hlt)
      have hll := HST.out.ll
      have HOM : Hid ((w1.alloc (.cells #[.int .i64 (2 * (k : Int))] 3)).ownsRow (w.heap.size + 3) 3 1 (.slice at' k cp) k (((start2 F).take k).map (Value.int .i64))) := by have h := HTO.out.below (belOne w1 (.cells #[.int .i64 (2 * (k : Int))] 3)); unfold Owni at h; rw [hlen] at h; exact h
      have HLEN := hideN hlen
      clear hlen
      go_wp2_with (at_builtin; refine wpList_append_lies _ rfl _ _ 24 rfl (w.heap.size + 3) 3 ib (.int .i64 0) 1 8 Try.underlying24 hib hzb0 hzb1 hzb2 rfl (by decide) _ k (((start2 F).take k).map (Value.int .i64)) rfl HOM.out ⟨w1.heap.size, 0, none⟩ 1 1 [.int .i64 (2 * (k : Int))] rfl rfl (newsN _ _ _) (ints_oneCell .i64 [2 * (k : Int)]) (by decide) (by unfold maxLen; omega) (by omega) (by simp; omega) _ rfl ?_; intro g gcap w9 hown9 hgrow9 hat9 hlt9)
      have HO9 : Hid (Owni w9 (w.heap.size + 3) (.slice (some ⟨g, 0, none⟩) (k + 1) gcap) ((start2 F).take (k + 1))) := by
        show Owni _ _ _ _
        unfold Owni
        rw [HSU.out, List.length_append, HLEN.out, List.map_append]
        exact hown9
      have HS9 := hideN ((HST.out.below (belOne _ _)).grown hgrow9 (fun q e => (HTO.out.blk q e).1))
      clear hown9 hgrow9 hat9 hlt9
      go_wp2_with fail
      go_roundw
      case rel => exact ⟨_, k + 1, gcap, by omega, by go_num, rfl, HO9, HS9⟩
      case measure => simp [intOf]; omega
    · obtain rfl : k = F := by omega
      have dlt : decide ((k : Int) < (k : Int)) = false := by simp
      have HTK : Hid (Owni w1 (w.heap.size + 3) (.slice at' k cp) (foldS k xs 0).1) := by have h := HTO.out; rw [List.take_of_length_le (by rw [start2_length]; exact Nat.le_refl _)] at h; exact h
      have HAK : Hid (w1.ownsRow (w.heap.size + 3) 65 2 (.slice none 0 0) 0 (andV (foldS k xs 0).2)) := World.ownsRow_nil _ _ _ _
      clear HTO hk hlt
      go_wp2_with fail
      go_loopw [4, 6] (fun t i wr => ∃ at' m cp av n cv j, j ≤ xs.length ∧ i = .int .i64 (j : Nat) ∧ t = .slice at' m cp ∧ m ≤ 60 ∧ Hid (m = k + j) ∧ n ≤ j ∧ Hid ((foldS k xs j).2.length = n) ∧ Hid (Owni wr (w.heap.size + 3) (.slice at' m cp) (foldS k xs j).1) ∧ Hid (wr.ownsRow (w.heap.size + 3) 65 2 (.slice av n cv) n (andV (foldS k xs j).2)) ∧ Hid (Fst w wr w.heap.size (w.heap.size + 1) (w.heap.size + 2) (w.heap.size + 3) inp (.slice al ls.length cl) (.slice aa xs.length ca) (.slice ab bs.length cb) (.slice none 0 0) (.slice av n cv) (.slice none 0 0))) (fun _ i _ => xs.length - (intOf i).toNat)
      case atStart => exact ⟨_, k, _, none, 0, 0, 0, Nat.zero_le _, rfl, rfl, by omega, rfl, Nat.le_refl _, rfl, HTK, HAK, HST⟩
      case round =>
        rename World => wg
        obtain ⟨at', m, cp, av, n, cv, j, hj, rfl, rfl, hm60, hm, hnj, hn, hto, han, hst⟩ := hrel
        have c2 := hst.out.b.four.c2
        by_cases hlt : j < xs.length
        · have hfo := foldS_ok k hF1 xs HA.out j (by omega)
          have HFO := hideN hfo
          have HSTEP : Hid (foldS k xs (j + 1) = foldStep k (foldS k xs j) (xs.getD j (0, 0))) := rfl
          obtain ⟨ba, off, hao, hxc⟩ : ∃ ba off, aa = some ⟨ba, off, none⟩ ∧ ba < w.heap.size ∧ ∀ W, Below w.heap.size w W → W.cell? ⟨ba, off + j * 2, none⟩ = some (.int .i64 (xs.getD j (0, 0)).1) ∧ W.cell? ⟨ba, off + j * 2 + 1, none⟩ = some (.int .i64 (xs.getD j (0, 0)).2) := by
            obtain ⟨ao', cap', he, h⟩ := (HC.out w (Below.refl _ _)).isA
            obtain ⟨ba, off, ha, hc⟩ := h (by intro e; subst e; simp at hlt)
            injection he with e1 e2 e3
            refine ⟨ba, off, e1.trans ha, cell_lt (hc j hlt).1, fun W hW => ?_⟩
            obtain ⟨q1, q2⟩ := hc j hlt
            exact ⟨(hW.cell (p := ⟨ba, off + j * 2, none⟩) (cell_lt q1)).trans q1, (hW.cell (p := ⟨ba, off + j * 2 + 1, none⟩) (cell_lt q2)).trans q2⟩
          obtain ⟨hbb, hxc⟩ := hxc
          subst hao
          obtain ⟨⟨xa0, xa1⟩, xb0, xb1⟩ := HA.out j hlt
          generalize xs.getD j (0, 0) = x at *
          obtain ⟨xa, xb⟩ := x
          have xa0 : 0 ≤ xa := xa0
          have xa1 : xa < 2 * ((k : Int) + (j : Int)) := xa1
          have xb0 : 0 ≤ xb := xb0
          have xb1 : xb < 2 * ((k : Int) + (j : Int)) := xb1
          have HXC : Hid (∀ W, Below w.heap.size w W → W.cell? ⟨ba, off + j * 2, none⟩ = some (.int .i64 xa) ∧ W.cell? ⟨ba, off + j * 2 + 1, none⟩ = some (.int .i64 xb)) := hxc
          have d0 := (HXC.out _ hst.out.bel).1
          have d1 := (HXC.out _ hst.out.bel).2
          obtain ⟨P, hP⟩ : ∃ P, mapL (foldS k xs j).1 xa = P := ⟨_, rfl⟩
          obtain ⟨R, hR⟩ : ∃ R, mapL (foldS k xs j).1 xb = R := ⟨_, rfl⟩
          have hpr := hfo.to.map xa0 (by omega)
          have hrr := hfo.to.map xb0 (by omega)
          rw [hP] at hpr
          rw [hR] at hrr
          have hP0 : 0 ≤ P := hpr.1
          have hP1 : P ≤ 300 := by have := hfo.le; omega
          have hR0 : 0 ≤ R := hrr.1
          have hR1 : R ≤ 300 := by have := hfo.le; omega
          have HP := hideN hP
          have HR := hideN hR
          have HMA : Hid (Calls Try.prog 106 #[.slice at' m cp, .int .i64 xa] wg fun e w' => e = .returned (.int .i64 P) ∧ w' = wg) := by
            have h := l3Map_any (.slice at' m cp) (foldS k xs j).1 xa (k + j) (k + (foldS k xs j).2.length) wg hto.out.isInts hfo.to xa0 (by omega) (by omega) (by have := hfo.le; omega)
            rw [hP] at h
            exact h
          have HMB : Hid (Calls Try.prog 106 #[.slice at' m cp, .int .i64 xb] wg fun e w' => e = .returned (.int .i64 R) ∧ w' = wg) := by
            have h := l3Map_any (.slice at' m cp) (foldS k xs j).1 xb (k + j) (k + (foldS k xs j).2.length) wg hto.out.isInts hfo.to xb0 (by omega) (by omega) (by have := hfo.le; omega)
            rw [hR] at h
            exact h
          clear hfo hP hR hpr hrr hxc
          go_wp2_with fail
          refine HMA.out.mono ?_
          rintro e w' ⟨rfl, hw'⟩
          obtain rfl := hw'.symm
          go_wp2_with fail
          refine HMB.out.mono ?_
          rintro e w' ⟨rfl, hw'⟩
          obtain rfl := hw'.symm
          go_wp2_with fail
          have s0 := hst.out.c.four.c2
          have s1 := hst.out.b.four.c0
          have s2 := hst.out.b.four.c1
          have s3 := hst.out.b.four.c2
          have s4 := hst.out.b.four.c3
          obtain ⟨rv, hrv⟩ : ∃ rv, andL k (foldS k xs j).2 (lo2 P R) (hi2 P R) = rv := ⟨_, rfl⟩
          have HRV := hideN hrv
          clear hrv
          refine wp_region_held (S := fun V => V.cell? ⟨w.heap.size + 2, 2, none⟩ = some (.slice av n cv) ∧ V.cell? ⟨w.heap.size, 0, none⟩ = some (.int .i64 inp) ∧ V.cell? ⟨w.heap.size, 1, none⟩ = some (.slice al ls.length cl) ∧ V.cell? ⟨w.heap.size, 2, none⟩ = some (.slice (some ⟨ba, off, none⟩) xs.length ca) ∧ V.cell? ⟨w.heap.size, 3, none⟩ = some (.slice ab bs.length cb)) (by kernel_rfl) ?_
          refine wpAnyH_take (i := 0) (v := .pointer (some ⟨w.heap.size + 2, 2, none⟩)) rfl (by kernel_rfl) (by kernel_rfl) (by kernel_rfl) (fun _ _ _ h => h) (Or.inl ⟨by rfl, fun w hS => by obtain ⟨s0, s1, s2, s3, s4⟩ := hS; go_simp⟩) ⟨s0, s1, s2, s3, s4⟩ ?_
          simp only [List.getElem_toArray, List.getElem_cons_zero, Act.put, List.setIfInBounds_toArray, List.set_cons_zero, List.set_cons_succ]
          refine wpAnyH_take (i := 1) (v := .slice av n cv) rfl (by kernel_rfl) (by kernel_rfl) (by kernel_rfl) (fun _ _ _ h => h) (Or.inl ⟨by rfl, fun w hS => by obtain ⟨s0, s1, s2, s3, s4⟩ := hS; go_simp⟩) ⟨s0, s1, s2, s3, s4⟩ ?_
          simp only [List.getElem_toArray, List.getElem_cons_zero, List.getElem_cons_succ, Act.put, List.setIfInBounds_toArray, List.set_cons_zero, List.set_cons_succ]
          refine wpAnyH_take (i := 2) (v := .agg #[.int .i64 inp, .slice al ls.length cl, .slice (some ⟨ba, off, none⟩) xs.length ca, .slice ab bs.length cb]) rfl (by kernel_rfl) (by kernel_rfl) (by kernel_rfl) (fun _ _ _ h => h) (Or.inl ⟨by rfl, fun w hS => by obtain ⟨s0, s1, s2, s3, s4⟩ := hS; go_simp⟩) ⟨s0, s1, s2, s3, s4⟩ ?_
          simp only [List.getElem_toArray, List.getElem_cons_zero, List.getElem_cons_succ, Act.put, List.setIfInBounds_toArray, List.set_cons_zero, List.set_cons_succ]
          refine wpAnyH_take (i := 4) (v := .int .i64 P) rfl (by kernel_rfl) (by kernel_rfl) (by kernel_rfl) (fun _ _ _ h => h) (Or.inl ⟨by rfl, fun w hS => by obtain ⟨s0, s1, s2, s3, s4⟩ := hS; go_simp⟩) ⟨s0, s1, s2, s3, s4⟩ ?_
          simp only [List.getElem_toArray, List.getElem_cons_zero, List.getElem_cons_succ, Act.put, List.setIfInBounds_toArray, List.set_cons_zero, List.set_cons_succ]
          refine wpAnyH_take (i := 5) (v := .int .i64 R) rfl (by kernel_rfl) (by kernel_rfl) (by kernel_rfl) (fun _ _ _ h => h) (Or.inl ⟨by rfl, fun w hS => by obtain ⟨s0, s1, s2, s3, s4⟩ := hS; go_simp⟩) ⟨s0, s1, s2, s3, s4⟩ ?_
          simp only [List.getElem_toArray, List.getElem_cons_zero, List.getElem_cons_succ, Act.put, List.setIfInBounds_toArray, List.set_cons_zero, List.set_cons_succ]
          refine oneH (i := 3) (by kernel_rfl) rfl (by rfl) ?_
          simp only [List.getElem_toArray, List.getElem_cons_zero, List.getElem_cons_succ]
          go_simp
          refine (HL3F.out _).mono ?_
          rintro e w2 ⟨rfl, hb2'⟩
          have hb2 : Below wg.heap.size wg w2 := (by first | exact hb2' | exact undrew hb2')
          have HTO2 := hideN (hto.out.below hb2)
          have HAN2 := hideN (row_below han.out hb2)
          have HST2 := hideN (hst.out.below hb2)
          clear hb2 hb2' s0 s1 s2 s3 s4 c2 d0 d1 hto han hst
          have s0 := HST2.out.c.four.c2
          have s1 := HST2.out.b.four.c0
          have s2 := HST2.out.b.four.c1
          have s3 := HST2.out.b.four.c2
          have s4 := HST2.out.b.four.c3
          have HAC : Hid (Calls Try.prog 107 #[.slice av n cv, .int .i64 (k : Int), .int .i64 P, .int .i64 R] w2 fun e w' => e = .returned (.int .i64 rv) ∧ w' = w2) := by
            have hl := hn.out
            have h := l3And_any (.slice av n cv) (foldS k xs j).2 k P R w2 (by have h := HAN2.out; rw [← hl] at h ⊢; exact isAnds_row h) (by omega) (by omega) ⟨hP0, by omega⟩ ⟨hR0, by omega⟩
            rw [HRV.out] at h
            exact h
          refine ⟨⟨s0, s1, s2, s3, s4⟩, ?_⟩
          refine oneH (i := 6) (by kernel_rfl) rfl (by rfl) ?_
          simp only [List.getElem_toArray, List.getElem_cons_zero, List.getElem_cons_succ]
          go_simp
          refine HAC.out.mono ?_
          rintro e w' ⟨rfl, hw'⟩
          obtain rfl := hw'.symm
          refine ⟨⟨s0, s1, s2, s3, s4⟩, ?_⟩
          refine wpAnyH_take (i := 7) (v := .int .i64 rv) rfl (by kernel_rfl) (by kernel_rfl) (by kernel_rfl) (fun _ _ _ h => h) (Or.inl ⟨by rfl, fun w hS => by obtain ⟨s0, s1, s2, s3, s4⟩ := hS; go_simp⟩) ⟨s0, s1, s2, s3, s4⟩ ?_
          simp only [List.getElem_toArray, List.getElem_cons_zero, List.getElem_cons_succ, Act.put, List.setIfInBounds_toArray, List.set_cons_zero, List.set_cons_succ]
          refine wpAnyH_done (by kernel_rfl) ?_ _
          have hrvr : -1 ≤ rv ∧ rv ≤ 1000 := by
            rw [← HRV.out]
            unfold andL
            have h1 := lo_hi P R
            have h2 : whereA (foldS k xs j).2 (lo2 P R, hi2 P R) ≤ (foldS k xs j).2.length := List.findIdx_le_length
            have h3 := hn.out
            split
            · omega
            · split
              · omega
              · split <;> omega
          have HTL : Hid ((foldS k xs j).1.length = m) := by show _ = _; rw [HFO.out.to.len, hm.out]
          clear HMA HMB HAC
          have hwk : IntKind.i64.wrap ((k : Int) + (n : Int)) = (k : Int) + (n : Int) := by rw [IntKind.wrap_i64]; omega
          have hwk2 : IntKind.i64.wrap (2 * ((k : Int) + (n : Int))) = 2 * ((k : Int) + (n : Int)) := by rw [IntKind.wrap_i64]; omega
          by_cases hrn : rv < 0
          · have hd1 : decide (rv < 0) = true := by simpa using hrn
            have HNEW : Hid (foldS k xs (j + 1) = ((foldS k xs j).1 ++ [2 * ((k : Int) + (n : Int))], (foldS k xs j).2 ++ [(lo2 P R, hi2 P R)])) := by
              show _ = _
              rw [HSTEP.out]
              unfold foldStep
              simp only [HP.out, HR.out, HRV.out, hn.out]
              rw [if_pos hrn]
            clear hrn
            have hlh := lo_hi P R
            obtain ⟨L, hL⟩ : ∃ L, lo2 P R = L := ⟨_, rfl⟩
            obtain ⟨H, hH⟩ : ∃ H, hi2 P R = H := ⟨_, rfl⟩
            rw [hL, hH] at hlh HNEW
            have hgo : (L = P ∧ H = R ∧ decide (R < P) = false) ∨ (L = R ∧ H = P ∧ decide (R < P) = true) := by
              rcases hlh with ⟨h1, h2, h3⟩ | ⟨h1, h2, h3⟩
              · exact .inl ⟨h1, h2, by simp; omega⟩
              · exact .inr ⟨h1, h2, by simp; omega⟩
            clear hlh hL hH
            rcases hgo with ⟨rfl, rfl, hd2⟩ | ⟨rfl, rfl, hd2⟩
            all_goals
              go_wp2_with fail
              refine wp_region_held (S := fun V => V.cell? ⟨w.heap.size + 2, 2, none⟩ = some (.slice av n cv) ∧ V.cell? ⟨w.heap.size, 0, none⟩ = some (.int .i64 inp) ∧ V.cell? ⟨w.heap.size, 1, none⟩ = some (.slice al ls.length cl) ∧ V.cell? ⟨w.heap.size, 2, none⟩ = some (.slice (some ⟨ba, off, none⟩) xs.length ca) ∧ V.cell? ⟨w.heap.size, 3, none⟩ = some (.slice ab bs.length cb)) (by kernel_rfl) ?_
              refine wpAnyH_take (i := 0) (v := .agg #[.int .i64 inp, .slice al ls.length cl, .slice (some ⟨ba, off, none⟩) xs.length ca, .slice ab bs.length cb]) rfl (by kernel_rfl) (by kernel_rfl) (by kernel_rfl) (fun _ _ _ h => h) (Or.inl ⟨by rfl, fun w hS => by obtain ⟨s0, s1, s2, s3, s4⟩ := hS; go_simp⟩) ⟨s0, s1, s2, s3, s4⟩ ?_
              simp only [List.getElem_toArray, List.getElem_cons_zero, Act.put, List.setIfInBounds_toArray, List.set_cons_zero, List.set_cons_succ]
              refine wpAnyH_take (i := 2) (v := .pointer (some ⟨w.heap.size + 2, 2, none⟩)) rfl (by kernel_rfl) (by kernel_rfl) (by kernel_rfl) (fun _ _ _ h => h) (Or.inl ⟨by rfl, fun w hS => by obtain ⟨s0, s1, s2, s3, s4⟩ := hS; go_simp⟩) ⟨s0, s1, s2, s3, s4⟩ ?_
              simp only [List.getElem_toArray, List.getElem_cons_zero, List.getElem_cons_succ, Act.put, List.setIfInBounds_toArray, List.set_cons_zero, List.set_cons_succ]
              refine wpAnyH_take (i := 3) (v := .slice av n cv) rfl (by kernel_rfl) (by kernel_rfl) (by kernel_rfl) (fun _ _ _ h => h) (Or.inl ⟨by rfl, fun w hS => by obtain ⟨s0, s1, s2, s3, s4⟩ := hS; go_simp⟩) ⟨s0, s1, s2, s3, s4⟩ ?_
              simp only [List.getElem_toArray, List.getElem_cons_zero, List.getElem_cons_succ, Act.put, List.setIfInBounds_toArray, List.set_cons_zero, List.set_cons_succ]
              refine wpAnyH_take (i := 4) (v := .int .i64 (n : Int)) rfl (by kernel_rfl) (by kernel_rfl) (by kernel_rfl) (fun _ _ _ h => h) (Or.inl ⟨by rfl, fun w hS => by obtain ⟨s0, s1, s2, s3, s4⟩ := hS; go_simp⟩) ⟨s0, s1, s2, s3, s4⟩ ?_
              simp only [List.getElem_toArray, List.getElem_cons_zero, List.getElem_cons_succ, Act.put, List.setIfInBounds_toArray, List.set_cons_zero, List.set_cons_succ]
              refine oneH (i := 1) (by kernel_rfl) rfl (by rfl) ?_
              simp only [List.getElem_toArray, List.getElem_cons_zero, List.getElem_cons_succ]
              go_simp
              refine (HL3F.out _).mono ?_
              rintro e w3 ⟨rfl, hb3'⟩
              have hb3 : Below w2.heap.size w2 w3 := (by first | exact hb3' | exact undrew hb3' | exact (by simpa using hb3'))
              have HTO3 := hideN (HTO2.out.below hb3)
              have HAN3 := hideN (row_below HAN2.out hb3)
              have HST3 := hideN (HST2.out.below hb3)
              clear hb3 hb3' s0 s1 s2 s3 s4
              have s0 := HST3.out.c.four.c2
              have s1 := HST3.out.b.four.c0
              have s2 := HST3.out.b.four.c1
              have s3 := HST3.out.b.four.c2
              have s4 := HST3.out.b.four.c3
              refine ⟨⟨s0, s1, s2, s3, s4⟩, ?_⟩
              refine wpAnyH_take (i := 5) (v := .int .i64 ((k : Int) + (n : Int))) rfl (by kernel_rfl) (by kernel_rfl) (by kernel_rfl) (fun _ _ _ h => h) (Or.inl ⟨by rfl, fun w hS => by obtain ⟨s0, s1, s2, s3, s4⟩ := hS; go_simp⟩) ⟨s0, s1, s2, s3, s4⟩ ?_
              simp only [List.getElem_toArray, List.getElem_cons_zero, List.getElem_cons_succ, Act.put, List.setIfInBounds_toArray, List.set_cons_zero, List.set_cons_succ]
              refine wpAnyH_take (i := 6) (v := .int .i64 (2 * ((k : Int) + (n : Int)))) rfl (by kernel_rfl) (by kernel_rfl) (by kernel_rfl) (fun _ _ _ h => h) (Or.inl ⟨by rfl, fun w hS => by obtain ⟨s0, s1, s2, s3, s4⟩ := hS; go_simp⟩) ⟨s0, s1, s2, s3, s4⟩ ?_
              simp only [List.getElem_toArray, List.getElem_cons_zero, List.getElem_cons_succ, Act.put, List.setIfInBounds_toArray, List.set_cons_zero, List.set_cons_succ]
              refine wpAnyH_take (i := 7) (v := .int .i64 (2 * ((k : Int) + (n : Int)))) rfl (by kernel_rfl) (by kernel_rfl) (by kernel_rfl) (fun _ _ _ h => h) (Or.inl ⟨by rfl, fun w hS => by obtain ⟨s0, s1, s2, s3, s4⟩ := hS; go_simp⟩) ⟨s0, s1, s2, s3, s4⟩ ?_
              simp only [List.getElem_toArray, List.getElem_cons_zero, List.getElem_cons_succ, Act.put, List.setIfInBounds_toArray, List.set_cons_zero, List.set_cons_succ]
              refine wpAnyH_done (by kernel_rfl) ?_ _
              have HOA : Hid ((w3.alloc (.cells #[.int .i64 L, .int .i64 H] 65)).ownsRow (w.heap.size + 3) 65 2 (.slice av n cv) n (andV (foldS k xs j).2)) := row_below HAN3.out (belOne _ _)
              have hll3 := HST3.out.ll
              have s5 := HST3.out.c.lt
              have s6 := HST3.out.c.fz 2
              clear s1 s2 s3 s4
              go_wp2_with (first
                | (at_builtin; refine wpList_append_lies _ rfl _ _ 24 rfl (w.heap.size + 3) 3 ib (.int .i64 0) 1 8 Try.underlying24 hib hzb0 hzb1 hzb2 rfl (by decide) _ m ((foldS k xs j).1.map (Value.int .i64)) rfl HOM.out ⟨w4.heap.size, 0, none⟩ 1 1 [.int .i64 (2 * ((k : Int) + (n : Int)))] rfl rfl (by intro q u hq; have h := newsN (w4.setCell ⟨w.heap.size + 2, 2, none⟩ (.slice (some ⟨g3, 0, none⟩) (n + 1) gcap3)) (.int .i64 (2 * ((k : Int) + (n : Int)))) 3 q u hq; simpa using h) (ints_oneCell .i64 [2 * ((k : Int) + (n : Int))]) (by decide) (by unfold maxLen; omega) (by omega) (by simp; omega) _ rfl ?_; intro g gcap w9 hown9 hgrow9 hat9 hlt9)
                | (at_builtin; refine wpList_append_lies _ rfl _ _ 31 rfl (w.heap.size + 3) 65 ia (.agg #[.int .i64 0, .int .i64 0]) 2 16 Try.underlying31 hia hza0 hza1 hza2 rfl (by decide) _ n (andV (foldS k xs j).2) rfl HOA.out ⟨w3.heap.size, 0, none⟩ 1 1 [.int .i64 L, .int .i64 H] rfl rfl (news2 _ _ _ _) (and_oneCell _ _) (by decide) (by unfold maxLen; omega) (by omega) (by simp; omega) _ rfl ?_; intro g3 gcap3 w4 hown4 hgrow4 hat4 hlt4; have HS4 := hideN ((HST3.out.below (belOne _ _)).grown hgrow4 (fun q e => (World.ownsRow.lt HOA.out q e).1)); have HT4 : Hid (Owni w4 (w.heap.size + 3) (.slice at' m cp) (foldS k xs j).1) := (by have h := HTO3.out.below (belOne w3 (.cells #[.int .i64 L, .int .i64 H] 65)); exact owni_of_block h (fun q e => hgrow4.block q (h.blk q e).2 (fun e2 => rows_apart h HOA.out (by decide) q e e2.symm))); have HS5 := hideN (HS4.out.set2 (.slice (some ⟨g3, 0, none⟩) (n + 1) gcap3)); have HT5 := hideN (HT4.out.setC (i := 2) HS4.out.cl (.slice (some ⟨g3, 0, none⟩) (n + 1) gcap3)); have HA5 := hideN (row_setC (i := 2) hown4 HS4.out.cl (.slice (some ⟨g3, 0, none⟩) (n + 1) gcap3)); have HOM : Hid (((w4.setCell ⟨w.heap.size + 2, 2, none⟩ (.slice (some ⟨g3, 0, none⟩) (n + 1) gcap3)).alloc (.cells #[.int .i64 (2 * ((k : Int) + (n : Int)))] 3)).ownsRow (w.heap.size + 3) 3 1 (.slice at' m cp) m ((foldS k xs j).1.map (Value.int .i64))) := (by have h := HT5.out.below (belOne _ (.cells #[.int .i64 (2 * ((k : Int) + (n : Int)))] 3)); unfold Owni at h; rw [HTL.out] at h; exact h); have z0 := HS4.out.c.four.c2; have z1 := HS4.out.c.lt; have z2 := HS4.out.c.fz 2; have hll := HS4.out.ll; clear hown4 hgrow4 hat4 hlt4 s0 s5 s6))
              have HO9 : Hid (Owni w9 (w.heap.size + 3) (.slice (some ⟨g, 0, none⟩) (m + 1) gcap) (foldS k xs (j + 1)).1) := by
                show Owni _ _ _ _
                rw [HNEW.out]
                unfold Owni
                rw [List.length_append, HTL.out, List.map_append]
                exact hown9
              have HA9 : Hid (w9.ownsRow (w.heap.size + 3) 65 2 (.slice (some ⟨g3, 0, none⟩) (n + 1) gcap3) (n + 1) (andV (foldS k xs (j + 1)).2)) := by
                show World.ownsRow _ _ _ _ _ _ _
                rw [HNEW.out, andV_snoc]
                have h := row_below HA5.out (belOne _ (.cells #[.int .i64 (2 * ((k : Int) + (n : Int)))] 3))
                exact row_of_block h (fun q e => hgrow9.block q (World.ownsRow.lt h q e).2 (fun e2 => rows_apart h HOM.out (by decide) q e e2.symm))
              have HS9 := hideN ((HS5.out.below (belOne _ _)).grown hgrow9 (fun q e => (World.ownsRow.lt HOM.out q e).1))
              have HN9 : Hid ((foldS k xs (j + 1)).2.length = n + 1) := by show _ = _; rw [HNEW.out, List.length_append, hn.out]; rfl
              clear hown9 hgrow9 hat9 hlt9
              go_wp2_with fail
              go_roundw
              case rel => exact ⟨_, m + 1, gcap, _, n + 1, _, j + 1, by omega, by go_num, rfl, by have := hm.out; omega, (show m + 1 = k + (j + 1) by have := hm.out; omega), by omega, HN9, HO9, HA9, HS9⟩
              case measure => simp [intOf]; omega
          · have hd1 : decide (rv < 0) = false := by simpa using hrn
            have HNEW : Hid (foldS k xs (j + 1) = ((foldS k xs j).1 ++ [rv], (foldS k xs j).2)) := by
              show _ = _
              rw [HSTEP.out]
              unfold foldStep
              simp only [HP.out, HR.out, HRV.out]
              rw [if_neg hrn]
            clear hrn
            have HOM : Hid ((w2.alloc (.cells #[.int .i64 (rv)] 3)).ownsRow (w.heap.size + 3) 3 1 (.slice at' m cp) m ((foldS k xs j).1.map (Value.int .i64))) := by
              have h := HTO2.out.below (belOne w2 (.cells #[.int .i64 (rv)] 3))
              unfold Owni at h
              rw [HTL.out] at h
              exact h
            have hll := HST2.out.ll
            go_wp2_with (at_builtin; refine wpList_append_lies _ rfl _ _ 24 rfl (w.heap.size + 3) 3 ib (.int .i64 0) 1 8 Try.underlying24 hib hzb0 hzb1 hzb2 rfl (by decide) _ m ((foldS k xs j).1.map (Value.int .i64)) rfl HOM.out ⟨w2.heap.size, 0, none⟩ 1 1 [.int .i64 (rv)] rfl rfl (newsN _ _ _) (ints_oneCell .i64 [rv]) (by decide) (by unfold maxLen; omega) (by omega) (by simp; omega) _ rfl ?_; intro g gcap w9 hown9 hgrow9 hat9 hlt9)
            have HO9 : Hid (Owni w9 (w.heap.size + 3) (.slice (some ⟨g, 0, none⟩) (m + 1) gcap) (foldS k xs (j + 1)).1) := by
              show Owni _ _ _ _
              rw [HNEW.out]
              unfold Owni
              rw [List.length_append, HTL.out, List.map_append]
              exact hown9
            have HA9 : Hid (w9.ownsRow (w.heap.size + 3) 65 2 (.slice av n cv) n (andV (foldS k xs (j + 1)).2)) := by
              show World.ownsRow _ _ _ _ _ _ _
              rw [HNEW.out]
              have h := row_below HAN2.out (belOne w2 (.cells #[.int .i64 (rv)] 3))
              exact row_of_block h (fun q e => hgrow9.block q (World.ownsRow.lt h q e).2 (fun e2 => rows_apart h HOM.out (by decide) q e e2.symm))
            have HS9 := hideN ((HST2.out.below (belOne _ _)).grown hgrow9 (fun q e => (World.ownsRow.lt HOM.out q e).1))
            have HN9 : Hid ((foldS k xs (j + 1)).2.length = n) := by show _ = _; rw [HNEW.out]; exact hn.out
            clear hown9 hgrow9 hat9 hlt9
            go_wp2_with fail
            go_roundw
            case rel => exact ⟨_, m + 1, gcap, _, n, _, j + 1, by omega, by go_num, rfl, by have := hm.out; omega, (show m + 1 = k + (j + 1) by have := hm.out; omega), by omega, HN9, HO9, HA9, HS9⟩
            case measure => simp [intOf]; omega
        · obtain rfl : j = xs.length := by omega
          have hfo := foldS_ok k hF1 xs HA.out xs.length (Nat.le_refl _)
          generalize foldS k xs xs.length = st at *
          have HFO := hideN hfo
          have HTL : Hid (∀ q, (Value.slice at' m cp).ownBlock = some q → q < wg.heap.size) := fun q e => (hto.out.blk q e).2
          have HAL : Hid (∀ q, (Value.slice av n cv).ownBlock = some q → q < wg.heap.size) := fun q e => (World.ownsRow.lt han.out q e).2
          have hlo := hst.out.ll
          have HLR : Hid (wg.ownsRow wg.heap.size 86 2 (.slice none 0 0) 0 (latV (mapLat st.1 (ls.take 0)))) := World.ownsRow_nil _ _ _ _
          clear hfo hlt hj
          go_wp2_with fail
          go_loopw [10] (fun i wr => ∃ al' cl' j, j ≤ ls.length ∧ i = .int .i64 (j : Nat) ∧ Hid (wr.ownsRow wg.heap.size 86 2 (.slice al' j cl') j (latV (mapLat st.1 (ls.take j)))) ∧ Hid (Owni wr (w.heap.size + 3) (.slice at' m cp) st.1) ∧ Hid (wr.ownsRow (w.heap.size + 3) 65 2 (.slice av n cv) n (andV st.2)) ∧ wg.heap.size ≤ wr.heap.size ∧ Hid (Fst w wr w.heap.size (w.heap.size + 1) (w.heap.size + 2) (w.heap.size + 3) inp (.slice al ls.length cl) (.slice aa xs.length ca) (.slice ab bs.length cb) (.slice al' j cl') (.slice av n cv) (.slice none 0 0))) (fun i _ => ls.length - (intOf i).toNat)
          case atStart => exact ⟨none, 0, 0, Nat.zero_le _, rfl, HLR, hto, han, Nat.le_refl _, hst⟩
          case round =>
            rename World => wh
            obtain ⟨al', cl', j, hj, rfl, hlr, hto, han, hgs, hst⟩ := hrel
            have c1 := hst.out.b.four.c1
            by_cases hlt : j < ls.length
            · obtain ⟨bl, off, hao, hbb, hxc⟩ : ∃ bl off, al = some ⟨bl, off, none⟩ ∧ bl < w.heap.size ∧ ∀ W, Below w.heap.size w W → W.cell? ⟨bl, off + j * 2, none⟩ = some (.int .i64 (ls.getD j (0, false)).1) ∧ W.cell? ⟨bl, off + j * 2 + 1, none⟩ = some (.bool (ls.getD j (0, false)).2) := by
                obtain ⟨ao', cap', he, h⟩ := (HC.out w (Below.refl _ _)).isL
                obtain ⟨bl, off, ha, hc⟩ := h (by intro e; subst e; simp at hlt)
                injection he with e1 e2 e3
                refine ⟨bl, off, e1.trans ha, cell_lt (hc j hlt).1, fun W hW => ?_⟩
                obtain ⟨q1, q2⟩ := hc j hlt
                exact ⟨(hW.cell (p := ⟨bl, off + j * 2, none⟩) (cell_lt q1)).trans q1, (hW.cell (p := ⟨bl, off + j * 2 + 1, none⟩) (cell_lt q2)).trans q2⟩
              subst hao
              have hmem : ls.getD j (0, false) ∈ ls := by rw [List.getD, List.getElem?_eq_getElem hlt]; simp
              obtain ⟨hn0, hn1⟩ := HL.out _ hmem
              have HSU : Hid (latV (mapLat st.1 (ls.take (j + 1))) = latV (mapLat st.1 (ls.take j)) ++ [.int .i64 (mapL st.1 (ls.getD j (0, false)).1), .bool (ls.getD j (0, false)).2]) := by
                show _ = _
                rw [List.take_succ_eq_append_getElem hlt]
                have e : ls.getD j (0, false) = ls[j] := by simp [List.getD, hlt]
                rw [e]
                unfold mapLat
                rw [List.map_append]
                exact latV_snoc _ _ _
              generalize ls.getD j (0, false) = x at *
              obtain ⟨nx, ini⟩ := x
              have hn0 : 0 ≤ nx := hn0
              have hn1 : nx < 2 * ((k : Int) + xs.length) := hn1
              have s0 := hst.out.c.four.c1
              have s1 := hst.out.b.four.c1
              have s2 : wh.cell? ⟨bl, off + j * 2, none⟩ = some (.int .i64 nx) := (hxc _ hst.out.bel).1
              have s3 : wh.cell? ⟨bl, off + j * 2 + 1, none⟩ = some (.bool ini) := (hxc _ hst.out.bel).2
              have s4 := hst.out.c.lt
              have s5 := hst.out.b.lt
              have s6 := hst.out.c.fz 1
              have s7 : bl < wh.heap.size := Nat.lt_of_lt_of_le hbb hst.out.bel.size
              obtain ⟨P, hP⟩ : ∃ P, mapL st.1 nx = P := ⟨_, rfl⟩
              have HMA : Hid (∀ V, IsInts V (.slice at' m cp) st.1 → Calls Try.prog 106 #[.slice at' m cp, .int .i64 nx] V fun e w' => e = .returned (.int .i64 P) ∧ w' = V) := fun V hV => by
                have h := l3Map_any (.slice at' m cp) st.1 nx (k + xs.length) (k + st.2.length) V hV HFO.out.to hn0 (by omega) (by omega) (by have := HFO.out.le; omega)
                rw [hP] at h
                exact h
              have HXC := hideN hxc
              have HSU2 : Hid (latV (mapLat st.1 (ls.take (j + 1))) = latV (mapLat st.1 (ls.take j)) ++ [.int .i64 P, .bool ini]) := by show _ = _; rw [← hP]; exact HSU.out
              clear hP hxc hmem c1 HSU
              go_wp2_with fail
              refine region_S (fin := 20) (S := fun V => V.cell? ⟨w.heap.size + 2, 1, none⟩ = some (.slice al' j cl') ∧ V.cell? ⟨w.heap.size, 1, none⟩ = some (.slice (some ⟨bl, off, none⟩) ls.length cl) ∧ V.cell? ⟨bl, off + j * 2, none⟩ = some (.int .i64 nx) ∧ V.cell? ⟨bl, off + j * 2 + 1, none⟩ = some (.bool ini)) (by kernel_rfl) ⟨s0, s1, s2, s3⟩ (fun hHeld => ?walk3)
              case walk3 =>
              clear hHeld
              refine takeS (i := 0) (v := .pointer (some ⟨w.heap.size + 2, 1, none⟩)) rfl (by kernel_rfl) (by kernel_rfl) (by kernel_rfl) (by kernel_rfl) (fun _ _ _ h => h) (Or.inl ⟨by rfl, fun w hS => by obtain ⟨s0, s1, s2, s3⟩ := hS; go_simp⟩) ⟨s0, s1, s2, s3⟩ ?_
              simp only [List.getElem_toArray, List.getElem_cons_zero, Act.put, List.setIfInBounds_toArray, List.set_cons_zero, List.set_cons_succ]
              refine takeS (i := 1) (v := .slice al' j cl') rfl (by kernel_rfl) (by kernel_rfl) (by kernel_rfl) (by kernel_rfl) (fun _ _ _ h => h) (Or.inl ⟨by rfl, fun w hS => by obtain ⟨s0, s1, s2, s3⟩ := hS; go_simp⟩) ⟨s0, s1, s2, s3⟩ ?_
              simp only [List.getElem_toArray, List.getElem_cons_zero, List.getElem_cons_succ, Act.put, List.setIfInBounds_toArray, List.set_cons_zero, List.set_cons_succ]
              refine takeS (i := 2) (v := .slice at' m cp) rfl (by kernel_rfl) (by kernel_rfl) (by kernel_rfl) (by kernel_rfl) (fun _ _ _ h => h) (Or.inl ⟨by rfl, fun w hS => by obtain ⟨s0, s1, s2, s3⟩ := hS; go_simp⟩) ⟨s0, s1, s2, s3⟩ ?_
              simp only [List.getElem_toArray, List.getElem_cons_zero, List.getElem_cons_succ, Act.put, List.setIfInBounds_toArray, List.set_cons_zero, List.set_cons_succ]
              refine takeS (i := 3) (v := .pointer (some ⟨w.heap.size, 1, none⟩)) rfl (by kernel_rfl) (by kernel_rfl) (by kernel_rfl) (by kernel_rfl) (fun _ _ _ h => h) (Or.inl ⟨by rfl, fun w hS => by obtain ⟨s0, s1, s2, s3⟩ := hS; go_simp⟩) ⟨s0, s1, s2, s3⟩ ?_
              simp only [List.getElem_toArray, List.getElem_cons_zero, List.getElem_cons_succ, Act.put, List.setIfInBounds_toArray, List.set_cons_zero, List.set_cons_succ]
              refine takeS (i := 4) (v := .slice (some ⟨bl, off, none⟩) ls.length cl) rfl (by kernel_rfl) (by kernel_rfl) (by kernel_rfl) (by kernel_rfl) (fun _ _ _ h => h) (Or.inl ⟨by rfl, fun w hS => by obtain ⟨s0, s1, s2, s3⟩ := hS; go_simp⟩) ⟨s0, s1, s2, s3⟩ ?_
              simp only [List.getElem_toArray, List.getElem_cons_zero, List.getElem_cons_succ, Act.put, List.setIfInBounds_toArray, List.set_cons_zero, List.set_cons_succ]
              refine takeS (i := 5) (v := .int .i64 (j : Int)) rfl (by kernel_rfl) (by kernel_rfl) (by kernel_rfl) (by kernel_rfl) (fun _ _ _ h => h) (Or.inl ⟨by rfl, fun w hS => by obtain ⟨s0, s1, s2, s3⟩ := hS; go_simp⟩) ⟨s0, s1, s2, s3⟩ ?_
              simp only [List.getElem_toArray, List.getElem_cons_zero, List.getElem_cons_succ, Act.put, List.setIfInBounds_toArray, List.set_cons_zero, List.set_cons_succ]
              refine takeS (i := 6) (v := .pointer (some ⟨bl, off + j * 2, none⟩)) rfl (by kernel_rfl) (by kernel_rfl) (by kernel_rfl) (by kernel_rfl) (fun _ _ _ h => h) (Or.inl ⟨by rfl, fun w hS => by obtain ⟨s0, s1, s2, s3⟩ := hS; go_simp⟩) ⟨s0, s1, s2, s3⟩ ?_
              simp only [List.getElem_toArray, List.getElem_cons_zero, List.getElem_cons_succ, Act.put, List.setIfInBounds_toArray, List.set_cons_zero, List.set_cons_succ]
              refine takeS (i := 7) (v := .pointer (some ⟨bl, off + j * 2, none⟩)) rfl (by kernel_rfl) (by kernel_rfl) (by kernel_rfl) (by kernel_rfl) (fun _ _ _ h => h) (Or.inl ⟨by rfl, fun w hS => by obtain ⟨s0, s1, s2, s3⟩ := hS; go_simp⟩) ⟨s0, s1, s2, s3⟩ ?_
              simp only [List.getElem_toArray, List.getElem_cons_zero, List.getElem_cons_succ, Act.put, List.setIfInBounds_toArray, List.set_cons_zero, List.set_cons_succ]
              refine takeS (i := 8) (v := .int .i64 nx) rfl (by kernel_rfl) (by kernel_rfl) (by kernel_rfl) (by kernel_rfl) (fun _ _ _ h => h) (Or.inl ⟨by rfl, fun w hS => by obtain ⟨s0, s1, s2, s3⟩ := hS; go_simp⟩) ⟨s0, s1, s2, s3⟩ ?_
              simp only [List.getElem_toArray, List.getElem_cons_zero, List.getElem_cons_succ, Act.put, List.setIfInBounds_toArray, List.set_cons_zero, List.set_cons_succ]
              refine takeS (i := 10) (v := .pointer (some ⟨w.heap.size, 1, none⟩)) rfl (by kernel_rfl) (by kernel_rfl) (by kernel_rfl) (by kernel_rfl) (fun _ _ _ h => h) (Or.inl ⟨by rfl, fun w hS => by obtain ⟨s0, s1, s2, s3⟩ := hS; go_simp⟩) ⟨s0, s1, s2, s3⟩ ?_
              simp only [List.getElem_toArray, List.getElem_cons_zero, List.getElem_cons_succ, Act.put, List.setIfInBounds_toArray, List.set_cons_zero, List.set_cons_succ]
              refine takeS (i := 11) (v := .slice (some ⟨bl, off, none⟩) ls.length cl) rfl (by kernel_rfl) (by kernel_rfl) (by kernel_rfl) (by kernel_rfl) (fun _ _ _ h => h) (Or.inl ⟨by rfl, fun w hS => by obtain ⟨s0, s1, s2, s3⟩ := hS; go_simp⟩) ⟨s0, s1, s2, s3⟩ ?_
              simp only [List.getElem_toArray, List.getElem_cons_zero, List.getElem_cons_succ, Act.put, List.setIfInBounds_toArray, List.set_cons_zero, List.set_cons_succ]
              refine takeS (i := 12) (v := .int .i64 (j : Int)) rfl (by kernel_rfl) (by kernel_rfl) (by kernel_rfl) (by kernel_rfl) (fun _ _ _ h => h) (Or.inl ⟨by rfl, fun w hS => by obtain ⟨s0, s1, s2, s3⟩ := hS; go_simp⟩) ⟨s0, s1, s2, s3⟩ ?_
              simp only [List.getElem_toArray, List.getElem_cons_zero, List.getElem_cons_succ, Act.put, List.setIfInBounds_toArray, List.set_cons_zero, List.set_cons_succ]
              refine takeS (i := 13) (v := .pointer (some ⟨bl, off + j * 2, none⟩)) rfl (by kernel_rfl) (by kernel_rfl) (by kernel_rfl) (by kernel_rfl) (fun _ _ _ h => h) (Or.inl ⟨by rfl, fun w hS => by obtain ⟨s0, s1, s2, s3⟩ := hS; go_simp⟩) ⟨s0, s1, s2, s3⟩ ?_
              simp only [List.getElem_toArray, List.getElem_cons_zero, List.getElem_cons_succ, Act.put, List.setIfInBounds_toArray, List.set_cons_zero, List.set_cons_succ]
              refine takeS (i := 14) (v := .pointer (some ⟨bl, off + j * 2 + 1, none⟩)) rfl (by kernel_rfl) (by kernel_rfl) (by kernel_rfl) (by kernel_rfl) (fun _ _ _ h => h) (Or.inl ⟨by rfl, fun w hS => by obtain ⟨s0, s1, s2, s3⟩ := hS; go_simp⟩) ⟨s0, s1, s2, s3⟩ ?_
              simp only [List.getElem_toArray, List.getElem_cons_zero, List.getElem_cons_succ, Act.put, List.setIfInBounds_toArray, List.set_cons_zero, List.set_cons_succ]
              refine takeS (i := 15) (v := .bool ini) rfl (by kernel_rfl) (by kernel_rfl) (by kernel_rfl) (by kernel_rfl) (fun _ _ _ h => h) (Or.inl ⟨by rfl, fun w hS => by obtain ⟨s0, s1, s2, s3⟩ := hS; go_simp⟩) ⟨s0, s1, s2, s3⟩ ?_
              simp only [List.getElem_toArray, List.getElem_cons_zero, List.getElem_cons_succ, Act.put, List.setIfInBounds_toArray, List.set_cons_zero, List.set_cons_succ]
              refine oneS (i := 9) (by kernel_rfl) rfl (by rfl) ?_
              simp only [List.getElem_toArray, List.getElem_cons_zero, List.getElem_cons_succ]
              go_simp
              refine (HMA.out _ (by exact hto.out.isInts)).mono ?_
              rintro e w' ⟨rfl, hw'⟩
              obtain rfl := hw'.symm
              refine ⟨⟨s0, s1, s2, s3⟩, ?_⟩
              refine takeS (i := 16) (v := .agg #[.int .i64 P, .bool ini]) rfl (by kernel_rfl) (by kernel_rfl) (by kernel_rfl) (by kernel_rfl) (fun _ _ _ h => h) (Or.inl ⟨by rfl, fun w hS => by obtain ⟨s0, s1, s2, s3⟩ := hS; go_simp⟩) ⟨s0, s1, s2, s3⟩ ?_
              simp only [List.getElem_toArray, List.getElem_cons_zero, List.getElem_cons_succ, Act.put, List.setIfInBounds_toArray, List.set_cons_zero, List.set_cons_succ]
              refine oneS (i := 17) (by kernel_rfl) rfl (by rfl) ?_
              simp only [List.getElem_toArray, List.getElem_cons_zero, List.getElem_cons_succ]
              go_simp
              have HBD : Hid (Below wh.heap.size wh (wh.alloc (.cells #[.int .i64 P, .bool ini] 86)).drew) := below_drewN (belOne _ _) 1
              have HLD := hideN (row_below hlr.out HBD.out)
              refine oneS (i := 18) (by kernel_rfl) rfl (by rfl) ?_
              simp only [List.getElem_toArray, List.getElem_cons_zero, List.getElem_cons_succ]
              refine wp_append_lies _ (.tmp 91) (.tmp 107) 30 rfl wg.heap.size 86 il (.agg #[.int .i64 0, .bool false]) 2 16 Try.underlying30 hil hzl0 hzl1 hzl2 rfl (by decide) (.slice al' j cl') j (latV (mapLat st.1 (ls.take j))) rfl HLD.out ⟨wh.heap.size, 0, none⟩ 1 1 [.int .i64 P, .bool ini] rfl rfl (by exact news2 wh _ _ _) (lat_oneCell _ _) (by decide) (by unfold maxLen; omega) (by omega) (by simp; omega) _ rfl ?_
              intro g gcap w9 hown9 hgrow9 hat9 hlt9
              have hfr : ∀ q, (Value.slice al' j cl').ownBlock = some q → w.heap.size + 3 ≤ q := fun q e => by have := (World.ownsRow.lt HLD.out q e).1; omega
              have HS9 := hideN ((hst.out.below HBD.out).grown hgrow9 hfr)
              have HT9 : Hid (Owni w9 (w.heap.size + 3) (.slice at' m cp) st.1) := by have h := hto.out.below HBD.out; exact owni_of_block h (fun q e => hgrow9.block q (h.blk q e).2 (fun e2 => rows_apart h HLD.out (by decide) q e e2.symm))
              have HA9 : Hid (w9.ownsRow (w.heap.size + 3) 65 2 (.slice av n cv) n (andV st.2)) := by have h := row_below han.out HBD.out; exact row_of_block h (fun q e => hgrow9.block q (World.ownsRow.lt h q e).2 (fun e2 => rows_apart h HLD.out (by decide) q e e2.symm))
              have HSZ := hgrow9.size
              have HL9 : Hid (w9.ownsRow wg.heap.size 86 2 (.slice (some ⟨g, 0, none⟩) (j + 1) gcap) (j + 1) (latV (mapLat st.1 (ls.take (j + 1))))) := by show World.ownsRow _ _ _ _ _ _ _; rw [HSU2.out]; exact hown9
              have hgs9 : wg.heap.size ≤ w9.heap.size := by have := hgrow9.size; simp at this; omega
              clear hown9 hgrow9 hat9 hlt9 hfr s0 s1 s2 s3 s4 s5 s6 HSZ
              have r0 := HS9.out.c.four.c1
              have r1 := HS9.out.b.four.c1
              obtain ⟨r2, r3⟩ := HXC.out _ HS9.out.bel
              have r4 := HS9.out.c.lt
              have r6 := HS9.out.c.fz 1
              refine ⟨fun _ => ⟨r0, r1, r2, r3⟩, ?_⟩
              simp only [Act.put, List.setIfInBounds_toArray, List.set_cons_zero, List.set_cons_succ]
              refine takeS (i := 19) (v := .pointer (some ⟨w.heap.size + 2, 1, none⟩)) rfl (by kernel_rfl) (by kernel_rfl) (by kernel_rfl) (by kernel_rfl) (fun _ _ _ h => h) (Or.inl ⟨by rfl, fun w hS => by obtain ⟨r0, r1, r2, r3⟩ := hS; go_simp⟩) ⟨r0, r1, r2, r3⟩ ?_
              simp only [List.getElem_toArray, List.getElem_cons_zero, List.getElem_cons_succ, Act.put, List.setIfInBounds_toArray, List.set_cons_zero, List.set_cons_succ]
              refine oneS (i := 20) (by kernel_rfl) rfl (by rfl) ?_
              simp only [List.getElem_toArray, List.getElem_cons_zero, List.getElem_cons_succ]
              go_simp
              refine doneS (by kernel_rfl) ?_ _
              have HS10 := hideN (HS9.out.set1 (.slice (some ⟨g, 0, none⟩) (j + 1) gcap))
              have HT10 := hideN (HT9.out.setC (i := 1) HS9.out.cl (.slice (some ⟨g, 0, none⟩) (j + 1) gcap))
              have HA10 := hideN (row_setC (i := 1) HA9.out HS9.out.cl (.slice (some ⟨g, 0, none⟩) (j + 1) gcap))
              have HL10 := hideN (row_setC (i := 1) HL9.out (show w.heap.size + 2 < wg.heap.size by omega) (.slice (some ⟨g, 0, none⟩) (j + 1) gcap))
              clear r0 r1 r2 r3 r4 r6 HS9 HT9 HA9 HL9
              go_wp2_with fail
              go_roundw
              case rel => exact ⟨_, gcap, j + 1, by omega, by go_num, HL10, HT10, HA10, by simpa using hgs9, HS10⟩
              case measure => simp [intOf]; omega
            · obtain rfl : j = ls.length := by omega
              have HLK : Hid (wh.ownsRow wg.heap.size 86 2 (.slice al' ls.length cl') ls.length (latV (mapLat st.1 ls))) := by have h := hlr.out; rw [List.take_length] at h; exact h
              have hlh := hst.out.ll
              have HBR : Hid (wh.ownsRow wh.heap.size 3 1 (.slice none 0 0) 0 (intV (mapBad st.1 (bs.take 0)))) := World.ownsRow_nil _ _ _ _
              clear hlr hlt hj
              have HTL2 : Hid (∀ q, (Value.slice at' m cp).ownBlock = some q → q < wh.heap.size) := fun q e => Nat.lt_of_lt_of_le (HTL.out q e) hgs
              go_wp2_with fail
              go_loopw [11] (fun i wr => ∃ ab' cb' j, j ≤ bs.length ∧ i = .int .i64 (j : Nat) ∧ Hid (wr.ownsRow wh.heap.size 3 1 (.slice ab' j cb') j (intV (mapBad st.1 (bs.take j)))) ∧ Hid (wr.ownsRow wg.heap.size 86 2 (.slice al' ls.length cl') ls.length (latV (mapLat st.1 ls))) ∧ Hid (Owni wr (w.heap.size + 3) (.slice at' m cp) st.1) ∧ Hid (wr.ownsRow (w.heap.size + 3) 65 2 (.slice av n cv) n (andV st.2)) ∧ wh.heap.size ≤ wr.heap.size ∧ Hid (Fst w wr w.heap.size (w.heap.size + 1) (w.heap.size + 2) (w.heap.size + 3) inp (.slice al ls.length cl) (.slice aa xs.length ca) (.slice ab bs.length cb) (.slice al' ls.length cl') (.slice av n cv) (.slice ab' j cb'))) (fun i _ => bs.length - (intOf i).toNat)
              case atStart => exact ⟨none, 0, 0, Nat.zero_le _, rfl, HBR, HLK, hto, han, Nat.le_refl _, hst⟩
              case round =>
                rename World => wi
                obtain ⟨ab', cb', j, hj, rfl, hbr, hlr, hto, han, hgs2, hst⟩ := hrel
                have c3 := hst.out.b.four.c3
                by_cases hlt : j < bs.length
                · obtain ⟨bb, off, hao, hbb, hxc⟩ : ∃ bb off, ab = some ⟨bb, off, none⟩ ∧ bb < w.heap.size ∧ ∀ W, Below w.heap.size w W → W.cell? ⟨bb, off + j, none⟩ = some (.int .i64 (bs.getD j 0)) := by
                    obtain ⟨ao', cap', he, h⟩ := (HC.out w (Below.refl _ _)).isB
                    obtain ⟨bb, off, ha, hc⟩ := h (by intro e; subst e; simp at hlt)
                    injection he with e1 e2 e3
                    refine ⟨bb, off, e1.trans ha, cell_lt (hc j hlt), fun W hW => ?_⟩
                    exact (hW.cell (p := ⟨bb, off + j, none⟩) (cell_lt (hc j hlt))).trans (hc j hlt)
                  subst hao
                  have hmem : bs.getD j 0 ∈ bs := by rw [List.getD, List.getElem?_eq_getElem hlt]; simp
                  obtain ⟨hn0, hn1⟩ := HBD.out _ hmem
                  have HSU : Hid (intV (mapBad st.1 (bs.take (j + 1))) = intV (mapBad st.1 (bs.take j)) ++ [.int .i64 (mapL st.1 (bs.getD j 0))]) := by
                    show _ = _
                    rw [List.take_succ_eq_append_getElem hlt]
                    have e : bs.getD j 0 = bs[j] := by simp [List.getD, hlt]
                    rw [e]
                    unfold mapBad intV
                    rw [List.map_append, List.map_append]
                    rfl
                  generalize bs.getD j 0 = nx at *
                  have s0 := hst.out.c.four.c3
                  have s1 := hst.out.b.four.c3
                  have s2 : wi.cell? ⟨bb, off + j, none⟩ = some (.int .i64 nx) := hxc _ hst.out.bel
                  have s4 := hst.out.c.lt
                  have s5 := hst.out.b.lt
                  have s6 := hst.out.c.fz 3
                  have s7 : bb < wi.heap.size := Nat.lt_of_lt_of_le hbb hst.out.bel.size
                  obtain ⟨P, hP⟩ : ∃ P, mapL st.1 nx = P := ⟨_, rfl⟩
                  have HMA : Hid (∀ V, IsInts V (.slice at' m cp) st.1 → Calls Try.prog 106 #[.slice at' m cp, .int .i64 nx] V fun e w' => e = .returned (.int .i64 P) ∧ w' = V) := fun V hV => by
                    have h := l3Map_any (.slice at' m cp) st.1 nx (k + xs.length) (k + st.2.length) V hV HFO.out.to hn0 (by omega) (by omega) (by have := HFO.out.le; omega)
                    rw [hP] at h
                    exact h
                  have HXC := hideN hxc
                  have HSU2 : Hid (intV (mapBad st.1 (bs.take (j + 1))) = intV (mapBad st.1 (bs.take j)) ++ [.int .i64 P]) := by show _ = _; rw [← hP]; exact HSU.out
                  clear hP hxc hmem c3 HSU
                  go_wp2_with fail
                  refine region_S (fin := 12) (S := fun V => V.cell? ⟨w.heap.size + 2, 3, none⟩ = some (.slice ab' j cb') ∧ V.cell? ⟨w.heap.size, 3, none⟩ = some (.slice (some ⟨bb, off, none⟩) bs.length cb) ∧ V.cell? ⟨bb, off + j, none⟩ = some (.int .i64 nx)) (by kernel_rfl) ⟨s0, s1, s2⟩ (fun hHeld => ?walk4)
                  case walk4 =>
                  clear hHeld
                  refine takeS (i := 0) (v := .pointer (some ⟨w.heap.size + 2, 3, none⟩)) rfl (by kernel_rfl) (by kernel_rfl) (by kernel_rfl) (by kernel_rfl) (fun _ _ _ h => h) (Or.inl ⟨by rfl, fun w hS => by obtain ⟨s0, s1, s2⟩ := hS; go_simp⟩) ⟨s0, s1, s2⟩ ?_
                  simp only [List.getElem_toArray, List.getElem_cons_zero, Act.put, List.setIfInBounds_toArray, List.set_cons_zero, List.set_cons_succ]
                  refine takeS (i := 1) (v := .slice ab' j cb') rfl (by kernel_rfl) (by kernel_rfl) (by kernel_rfl) (by kernel_rfl) (fun _ _ _ h => h) (Or.inl ⟨by rfl, fun w hS => by obtain ⟨s0, s1, s2⟩ := hS; go_simp⟩) ⟨s0, s1, s2⟩ ?_
                  simp only [List.getElem_toArray, List.getElem_cons_zero, List.getElem_cons_succ, Act.put, List.setIfInBounds_toArray, List.set_cons_zero, List.set_cons_succ]
                  refine takeS (i := 2) (v := .slice at' m cp) rfl (by kernel_rfl) (by kernel_rfl) (by kernel_rfl) (by kernel_rfl) (fun _ _ _ h => h) (Or.inl ⟨by rfl, fun w hS => by obtain ⟨s0, s1, s2⟩ := hS; go_simp⟩) ⟨s0, s1, s2⟩ ?_
                  simp only [List.getElem_toArray, List.getElem_cons_zero, List.getElem_cons_succ, Act.put, List.setIfInBounds_toArray, List.set_cons_zero, List.set_cons_succ]
                  refine takeS (i := 3) (v := .pointer (some ⟨w.heap.size, 3, none⟩)) rfl (by kernel_rfl) (by kernel_rfl) (by kernel_rfl) (by kernel_rfl) (fun _ _ _ h => h) (Or.inl ⟨by rfl, fun w hS => by obtain ⟨s0, s1, s2⟩ := hS; go_simp⟩) ⟨s0, s1, s2⟩ ?_
                  simp only [List.getElem_toArray, List.getElem_cons_zero, List.getElem_cons_succ, Act.put, List.setIfInBounds_toArray, List.set_cons_zero, List.set_cons_succ]
                  refine takeS (i := 4) (v := .slice (some ⟨bb, off, none⟩) bs.length cb) rfl (by kernel_rfl) (by kernel_rfl) (by kernel_rfl) (by kernel_rfl) (fun _ _ _ h => h) (Or.inl ⟨by rfl, fun w hS => by obtain ⟨s0, s1, s2⟩ := hS; go_simp⟩) ⟨s0, s1, s2⟩ ?_
                  simp only [List.getElem_toArray, List.getElem_cons_zero, List.getElem_cons_succ, Act.put, List.setIfInBounds_toArray, List.set_cons_zero, List.set_cons_succ]
                  refine takeS (i := 5) (v := .int .i64 (j : Int)) rfl (by kernel_rfl) (by kernel_rfl) (by kernel_rfl) (by kernel_rfl) (fun _ _ _ h => h) (Or.inl ⟨by rfl, fun w hS => by obtain ⟨s0, s1, s2⟩ := hS; go_simp⟩) ⟨s0, s1, s2⟩ ?_
                  simp only [List.getElem_toArray, List.getElem_cons_zero, List.getElem_cons_succ, Act.put, List.setIfInBounds_toArray, List.set_cons_zero, List.set_cons_succ]
                  refine takeS (i := 6) (v := .pointer (some ⟨bb, off + j, none⟩)) rfl (by kernel_rfl) (by kernel_rfl) (by kernel_rfl) (by kernel_rfl) (fun _ _ _ h => h) (Or.inl ⟨by rfl, fun w hS => by obtain ⟨s0, s1, s2⟩ := hS; go_simp⟩) ⟨s0, s1, s2⟩ ?_
                  simp only [List.getElem_toArray, List.getElem_cons_zero, List.getElem_cons_succ, Act.put, List.setIfInBounds_toArray, List.set_cons_zero, List.set_cons_succ]
                  refine takeS (i := 7) (v := .int .i64 nx) rfl (by kernel_rfl) (by kernel_rfl) (by kernel_rfl) (by kernel_rfl) (fun _ _ _ h => h) (Or.inl ⟨by rfl, fun w hS => by obtain ⟨s0, s1, s2⟩ := hS; go_simp⟩) ⟨s0, s1, s2⟩ ?_
                  simp only [List.getElem_toArray, List.getElem_cons_zero, List.getElem_cons_succ, Act.put, List.setIfInBounds_toArray, List.set_cons_zero, List.set_cons_succ]
                  refine oneS (i := 8) (by kernel_rfl) rfl (by rfl) ?_
                  simp only [List.getElem_toArray, List.getElem_cons_zero, List.getElem_cons_succ]
                  go_simp
                  refine (HMA.out _ (by exact hto.out.isInts)).mono ?_
                  rintro e w' ⟨rfl, hw'⟩
                  obtain rfl := hw'.symm
                  refine ⟨⟨s0, s1, s2⟩, ?_⟩
                  refine oneS (i := 9) (by kernel_rfl) rfl (by rfl) ?_
                  simp only [List.getElem_toArray, List.getElem_cons_zero, List.getElem_cons_succ]
                  go_simp
                  have HBE : Hid (Below wi.heap.size wi (wi.alloc (.cells #[.int .i64 P] 3)).drew) := below_drewN (belOne _ _) 1
                  have HLD := hideN (row_below hbr.out HBE.out)
                  refine oneS (i := 10) (by kernel_rfl) rfl (by rfl) ?_
                  simp only [List.getElem_toArray, List.getElem_cons_zero, List.getElem_cons_succ]
                  refine wp_append_lies _ (.tmp 118) (.tmp 126) 24 rfl wh.heap.size 3 ib (.int .i64 0) 1 8 Try.underlying24 hib hzb0 hzb1 hzb2 rfl (by decide) (.slice ab' j cb') j (intV (mapBad st.1 (bs.take j))) rfl HLD.out ⟨wi.heap.size, 0, none⟩ 1 1 [.int .i64 P] rfl rfl (by exact news1 wi _ _) (ints_oneCell .i64 [P]) (by decide) (by unfold maxLen; omega) (by omega) (by simp; omega) _ rfl ?_
                  intro g gcap w9 hown9 hgrow9 hat9 hlt9
                  have hfr : ∀ q, (Value.slice ab' j cb').ownBlock = some q → wh.heap.size ≤ q := fun q e => (World.ownsRow.lt HLD.out q e).1
                  have HS9 := hideN ((hst.out.below HBE.out).grown hgrow9 (fun q e => by have := hfr q e; omega))
                  have HT9 : Hid (Owni w9 (w.heap.size + 3) (.slice at' m cp) st.1) := by have h := hto.out.below HBE.out; exact owni_of_block h (fun q e => hgrow9.block q (h.blk q e).2 (fun e2 => by have := hfr q e2.symm; have := HTL2.out q e; omega))
                  have HA9 : Hid (w9.ownsRow (w.heap.size + 3) 65 2 (.slice av n cv) n (andV st.2)) := by have h := row_below han.out HBE.out; exact row_of_block h (fun q e => hgrow9.block q (World.ownsRow.lt h q e).2 (fun e2 => rows_apart h HLD.out (by decide) q e e2.symm))
                  have HL9 : Hid (w9.ownsRow wg.heap.size 86 2 (.slice al' ls.length cl') ls.length (latV (mapLat st.1 ls))) := by have h := row_below hlr.out HBE.out; exact row_of_block h (fun q e => hgrow9.block q (World.ownsRow.lt h q e).2 (fun e2 => rows_apart h HLD.out (by decide) q e e2.symm))
                  have HB9 : Hid (w9.ownsRow wh.heap.size 3 1 (.slice (some ⟨g, 0, none⟩) (j + 1) gcap) (j + 1) (intV (mapBad st.1 (bs.take (j + 1))))) := by show World.ownsRow _ _ _ _ _ _ _; rw [HSU2.out]; exact hown9
                  have hgs9 : wh.heap.size ≤ w9.heap.size := by have := hgrow9.size; simp at this; omega
                  clear hown9 hgrow9 hat9 hlt9 hfr s0 s1 s2 s4 s5 s6
                  have r0 := HS9.out.c.four.c3
                  have r1 := HS9.out.b.four.c3
                  have r2 := HXC.out _ HS9.out.bel
                  have r4 := HS9.out.c.lt
                  have r6 := HS9.out.c.fz 3
                  refine ⟨fun _ => ⟨r0, r1, r2⟩, ?_⟩
                  simp only [Act.put, List.setIfInBounds_toArray, List.set_cons_zero, List.set_cons_succ]
                  refine takeS (i := 11) (v := .pointer (some ⟨w.heap.size + 2, 3, none⟩)) rfl (by kernel_rfl) (by kernel_rfl) (by kernel_rfl) (by kernel_rfl) (fun _ _ _ h => h) (Or.inl ⟨by rfl, fun w hS => by obtain ⟨r0, r1, r2⟩ := hS; go_simp⟩) ⟨r0, r1, r2⟩ ?_
                  simp only [List.getElem_toArray, List.getElem_cons_zero, List.getElem_cons_succ, Act.put, List.setIfInBounds_toArray, List.set_cons_zero, List.set_cons_succ]
                  refine oneS (i := 12) (by kernel_rfl) rfl (by rfl) ?_
                  simp only [List.getElem_toArray, List.getElem_cons_zero, List.getElem_cons_succ]
                  go_simp
                  refine doneS (by kernel_rfl) ?_ _
                  have HS10 := hideN (HS9.out.set3 (.slice (some ⟨g, 0, none⟩) (j + 1) gcap))
                  have HT10 := hideN (HT9.out.setC (i := 3) HS9.out.cl (.slice (some ⟨g, 0, none⟩) (j + 1) gcap))
                  have HA10 := hideN (row_setC (i := 3) HA9.out HS9.out.cl (.slice (some ⟨g, 0, none⟩) (j + 1) gcap))
                  have HL10 := hideN (row_setC (i := 3) HL9.out (show w.heap.size + 2 < wg.heap.size by omega) (.slice (some ⟨g, 0, none⟩) (j + 1) gcap))
                  have HB10 := hideN (row_setC (i := 3) HB9.out (show w.heap.size + 2 < wh.heap.size by omega) (.slice (some ⟨g, 0, none⟩) (j + 1) gcap))
                  clear r0 r1 r2 r4 r6 HS9 HT9 HA9 HL9 HB9
                  go_wp2_with fail
                  go_roundw
                  case rel => exact ⟨_, gcap, j + 1, by omega, by go_num, HB10, HL10, HT10, HA10, by simpa using hgs9, HS10⟩
                  case measure => simp [intOf]; omega
                · obtain rfl : j = bs.length := by omega
                  have HBK : Hid (wi.ownsRow wh.heap.size 3 1 (.slice ab' bs.length cb') bs.length (intV (mapBad st.1 bs))) := by have h := hbr.out; rw [List.take_length] at h; exact h
                  have d0 := hst.out.c.four.c0
                  have d1 := hst.out.c.four.c1
                  have d2 := hst.out.c.four.c2
                  have d3 := hst.out.c.four.c3
                  have d4 := hst.out.c.lt
                  have m2 := hst.out.q.lt
                  have m3 := hst.out.q.fz 0
                  have m4 := hst.out.q.fz 1
                  have m5 := hst.out.q.fz 2
                  have m6 := hst.out.q.fz 3
                  have m7 := hst.out.q.four.c0
                  have m8 := hst.out.q.four.c1
                  have m9 := hst.out.q.four.c2
                  have m10 := hst.out.q.four.c3
                  have hqq := (((hst.out.q.set0 (.int .i64 inp)).set1 (.slice al' ls.length cl')).set2 (.slice av n cv)).set3 (.slice ab' bs.length cb')
                  have u0 := hqq.four.c0
                  have u1 := hqq.four.c1
                  have u2 := hqq.four.c2
                  have u3 := hqq.four.c3
                  clear hqq hbr
                  have hq3 : w.heap.size + 1 < w.heap.size + 3 := by omega
                  have hq4 : w.heap.size + 1 < wg.heap.size := by omega
                  have hq5 : w.heap.size + 1 < wh.heap.size := by omega
                  have HLE := hideN (row_base (row_setC (i := 3) (row_setC (i := 2) (row_setC (i := 1) (row_setC (i := 0) hlr.out hq4 (.int .i64 inp)) hq4 (.slice al' ls.length cl')) hq4 (.slice av n cv)) hq4 (.slice ab' bs.length cb')) (show w.heap.size ≤ wg.heap.size by omega))
                  have HAE := hideN (row_base (row_setC (i := 3) (row_setC (i := 2) (row_setC (i := 1) (row_setC (i := 0) han.out hq3 (.int .i64 inp)) hq3 (.slice al' ls.length cl')) hq3 (.slice av n cv)) hq3 (.slice ab' bs.length cb')) (show w.heap.size ≤ w.heap.size + 3 by omega))
                  have HBK2 := hideN (row_base (row_setC (i := 3) (row_setC (i := 2) (row_setC (i := 1) (row_setC (i := 0) HBK.out hq5 (.int .i64 inp)) hq5 (.slice al' ls.length cl')) hq5 (.slice av n cv)) hq5 (.slice ab' bs.length cb')) (show w.heap.size ≤ wh.heap.size by omega))
                  have hwq : w.heap.size ≤ w.heap.size + 1 := by omega
                  have HBE := hideN ((((hst.out.bel.setCell (p := ⟨w.heap.size + 1, 0, none⟩) hwq (.int .i64 inp)).setCell (p := ⟨w.heap.size + 1, 1, none⟩) hwq (.slice al' ls.length cl')).setCell (p := ⟨w.heap.size + 1, 2, none⟩) hwq (.slice av n cv)).setCell (p := ⟨w.heap.size + 1, 3, none⟩) hwq (.slice ab' bs.length cb'))
                  have HZL : Hid ((mapLat st.1 ls).length = ls.length) := by show _ = _; simp [mapLat]
                  have HZB : Hid ((mapBad st.1 bs).length = bs.length) := by show _ = _; simp [mapBad]
                  go_wp2
                  refine bodyPost_ret (v := .agg #[.int .i64 inp, .slice al' ls.length cl', .slice av n cv, .slice ab' bs.length cb']) (by simp [results, Try.results83, go_sem, u0, u1, u2, u3]) rfl ⟨al', av, ab', cl', cv, cb', ?_, ?_, ?_, ?_, HBE.out⟩
                  · rw [HZL.out, HZB.out, hn.out]
                  · rw [HZL.out]; exact HLE.out
                  · rw [hn.out]; exact HAE.out
                  · rw [HZB.out]; exact HBK2.out

end Go.Proofs.Ytbdjdgamnnifjaa

/-
  A circuit without what is needless: the model's AigLess.
-/
import Derived.Test.YtbdjdgamnnifjaaLess4
import Derived.Test.YtbdjdgamnnifjaaLess6
import Derived.Test.YtbdjdgamnnifjaaNeed2X
namespace Go.Proofs.Ytbdjdgamnnifjaa
open Go.RowKit Go.Deep Go.Shelf
set_option linter.unusedVariables false

attribute [local go_sem] Oper.semAt_some

/-- What is left of a circuit that is ok. -/
def IsLess (inp : Int) (ls : List (Int × Bool)) (xs : List (Int × Int)) (bs : List Int) (i' : Int) (ls' : List (Int × Bool)) (xs' : List (Int × Int)) (bs' : List Int) : Prop :=
  (okC inp ls xs bs = false → i' = 0 ∧ ls' = [] ∧ xs' = [] ∧ bs' = []) ∧
  (okC inp ls xs bs = true → ∀ F : Nat, (F : Int) = 1 + inp + ls.length → i' = inp ∧ ∃ st : List Int × List (Int × Int), st = foldS F xs xs.length ∧ ∃ S, LeastR F st.2 (rootsOf (mapLat st.1 ls) (mapBad st.1 bs)) S ∧ ls' = mapLat (pruneS F st.2 S st.2.length).1 (mapLat st.1 ls) ∧ xs' = (pruneS F st.2 S st.2.length).2 ∧ bs' = mapBad (pruneS F st.2 S st.2.length).1 (mapBad st.1 bs))

theorem IsLess.uniq {inp : Int} {ls : List (Int × Bool)} {xs : List (Int × Int)} {bs : List Int} {i1 i2 : Int} {l1 l2 : List (Int × Bool)} {x1 x2 : List (Int × Int)} {b1 b2 : List Int} (h : IsLess inp ls xs bs i1 l1 x1 b1) (k : IsLess inp ls xs bs i2 l2 x2 b2) (h0 : okC inp ls xs bs = true → 0 ≤ inp) : i1 = i2 ∧ l1 = l2 ∧ x1 = x2 ∧ b1 = b2 := by
  by_cases o : okC inp ls xs bs = true
  · have hi := h0 o
    obtain ⟨e1, st, rfl, S, hS, e2, e3, e4⟩ := h.2 o (1 + inp + ls.length).toNat (by omega)
    obtain ⟨g1, st, rfl, T, hT, g2, g3, g4⟩ := k.2 o (1 + inp + ls.length).toNat (by omega)
    have hST := hS.uniq hT
    subst hST
    exact ⟨e1.trans g1.symm, e2.trans g2.symm, e3.trans g3.symm, e4.trans g4.symm⟩
  · have o : okC inp ls xs bs = false := by simpa using o
    obtain ⟨e1, e2, e3, e4⟩ := h.1 o
    obtain ⟨g1, g2, g3, g4⟩ := k.1 o
    exact ⟨e1.trans g1.symm, e2.trans g2.symm, e3.trans g3.symm, e4.trans g4.symm⟩

/-- What AigLess answers. -/
def LessAns (inp : Int) (ls : List (Int × Bool)) (xs : List (Int × Int)) (bs : List Int) (w : World) (e : Ending) (w' : World) : Prop :=
  ∃ i' ls' xs' bs', IsLess inp ls xs bs i' ls' xs' bs' ∧ LessPost i' ls' xs' bs' w e w'

theorem LessPost.isCir {inp : Int} {ls : List (Int × Bool)} {xs : List (Int × Int)} {bs : List Int} {w w' : World} {al aa ab : Option Addr} {cl ca cb : Nat} (h1 : w'.ownsRow w.heap.size 86 2 (.slice al ls.length cl) ls.length (latV ls)) (h2 : w'.ownsRow w.heap.size 65 2 (.slice aa xs.length ca) xs.length (andV xs)) (h3 : w'.ownsRow w.heap.size 3 1 (.slice ab bs.length cb) bs.length (intV bs)) (hl : ls.length ≤ maxLen) (hx : xs.length ≤ maxLen) (hb : bs.length ≤ maxLen) : IsCir w' al aa ab cl ca cb ls xs bs :=
  ⟨isLatches_row h1, isAnds_row h2, isInts_row h3, row_in h1, row_in h2, row_in h3, hl, hx, hb⟩

theorem okC_sizes {inp : Int} {ls : List (Int × Bool)} {xs : List (Int × Int)} {bs : List Int} (h : okC inp ls xs bs = true) : 0 ≤ inp ∧ inp ≤ 8 ∧ ls.length ≤ 8 ∧ xs.length ≤ 40 ∧ bs.length ≤ 4 := by
  unfold okC sizesB at h
  simp only [Bool.and_eq_true, decide_eq_true_eq] at h
  exact h.1

theorem okS_ands {inp : Int} {ls : List (Int × Bool)} {xs : List (Int × Int)} {bs : List Int} {F : Nat} (h : okC inp ls xs bs = true) (hl64 : ∀ p ∈ ls, I64 p.1) (h64 : ∀ p ∈ xs, I64 p.1 ∧ I64 p.2) (hb64 : ∀ x ∈ bs, I64 x) (hF : (F : Int) = 1 + inp + ls.length) :
    AndsOk F xs ∧ (∀ p ∈ ls, 0 ≤ p.1 ∧ p.1 < 2 * ((F : Int) + xs.length)) ∧ (∀ x ∈ bs, 0 ≤ x ∧ x < 2 * ((F : Int) + xs.length)) := by
  have h3 := h
  rw [okC_eq hl64 h64 hb64] at h3
  unfold okS okF at h3
  simp only [Bool.and_eq_true, List.all_eq_true, List.mem_map] at h3
  obtain ⟨_, _, h4, h5⟩ := h3
  refine ⟨fun i hi => ?_, fun p hp => ?_, fun x hx => ?_⟩
  · obtain ⟨p1, p2⟩ := pair_of_ok h hi
    have hm : xs.getD i (0, 0) ∈ xs := by rw [List.getD, List.getElem?_eq_getElem hi]; simp
    obtain ⟨q1, q2⟩ := h64 _ hm
    obtain ⟨a0, a1⟩ := ahead_of p1 q1
    obtain ⟨b0, b1⟩ := ahead_of p2 q2
    omega
  · have := h4 p.1 ⟨p, hp, rfl⟩
    unfold aheadB at this
    simp only [Bool.and_eq_true, decide_eq_true_eq] at this
    omega
  · have := h5 x hx
    unfold aheadB at this
    simp only [Bool.and_eq_true, decide_eq_true_eq] at this
    omega

set_option maxRecDepth 100000 in
set_option maxHeartbeats 4000000 in
theorem specAigLess_any (inp : Int) (al aa ab : Option Addr) (cl ca cb : Nat) (ls : List (Int × Bool)) (xs : List (Int × Int)) (bs : List Int) (w : World) (hC : IsCir w al aa ab cl ca cb ls xs bs) (hl64 : ∀ p ∈ ls, I64 p.1) (h64 : ∀ p ∈ xs, I64 p.1 ∧ I64 p.2) (hb64 : ∀ x ∈ bs, I64 x) :
    Calls Try.prog 38 #[.agg #[.int .i64 inp, .slice al ls.length cl, .slice aa xs.length ca, .slice ab bs.length cb]] w (LessAns inp ls xs bs w) := by
  have HC : Hid (∀ w', Below w.heap.size w w' → IsCir w' al aa ab cl ca cb ls xs bs) := fun w' h => hC.below h
  obtain ⟨o, ho⟩ : ∃ o, okC inp ls xs bs = o := ⟨_, rfl⟩
  have HO : Hid (okC inp ls xs bs = o) := ho
  have HOS : Hid (okS inp ls xs bs = o) := by show okS inp ls xs bs = o; rw [← okC_eq hl64 h64 hb64]; exact ho
  have HL64 := hideN hl64
  have HX64 := hideN h64
  have HB64 := hideN hb64
  obtain ⟨W1, hW1⟩ : ∃ W1, W1 = (w.alloc (.cells #[.int .i64 inp, .slice al ls.length cl, .slice aa xs.length ca, .slice ab bs.length cb] 33)).alloc (.cells #[.int .i64 0, .slice none 0 0, .slice none 0 0, .slice none 0 0] 33) := ⟨_, rfl⟩
  have HBO : Hid (Own4 W1 w.heap.size 33 (.int .i64 inp) (.slice al ls.length cl) (.slice aa xs.length ca) (.slice ab bs.length cb)) := by rw [hW1]; exact (Own4.new _ _ _ _ _ _).below (belOne _ _)
  have HQO : Hid (Own4 W1 (w.heap.size + 1) 33 (.int .i64 0) (.slice none 0 0) (.slice none 0 0) (.slice none 0 0)) := by
    rw [hW1]
    have hq := Own4.new (w.alloc (.cells #[.int .i64 inp, .slice al ls.length cl, .slice aa xs.length ca, .slice ab bs.length cb] 33)) 33 (.int .i64 0) (.slice none 0 0) (.slice none 0 0) (.slice none 0 0)
    rw [World.size_alloc] at hq
    exact hq
  have HB1 : Hid (Below w.heap.size w W1) := by rw [hW1]; exact belNext (belOne _ _) (belOne _ _)
  have HW1 := hideN hW1
  have hwq : w.heap.size ≤ w.heap.size + 1 := by omega
  clear hC hl64 h64 hb64 ho hW1
  go_enter Try.func38, Try.ntmps38
  go_wp2_with fail
  rw [← HW1.out]
  refine (specAigOk_any inp al aa ab cl ca cb ls xs bs _ (HC.out _ HB1.out)).mono ?_
  rintro e w3 ⟨he, hb3⟩
  rw [HOS.out] at he
  subst he
  have HB3 : Hid (Below w.heap.size w w3) := belNext HB1.out hb3
  have HBO3 := hideN (HBO.out.below hb3)
  have HQO3 := hideN (HQO.out.below hb3)
  clear hb3 HBO HQO HB1 HW1
  cases o with
  | false =>
    have m2 := HQO3.out.lt
    have m3 := HQO3.out.fz 0
    have m4 := HQO3.out.fz 1
    have m5 := HQO3.out.fz 2
    have m6 := HQO3.out.fz 3
    have m7 := HQO3.out.four.c0
    have m8 := HQO3.out.four.c1
    have m9 := HQO3.out.four.c2
    have m10 := HQO3.out.four.c3
    have hqq := (((HQO3.out.set0 (.int .i64 0)).set1 (.slice none 0 0)).set2 (.slice none 0 0)).set3 (.slice none 0 0)
    have u0 := hqq.four.c0
    have u1 := hqq.four.c1
    have u2 := hqq.four.c2
    have u3 := hqq.four.c3
    have HBE := hideN ((((HB3.out.setCell (p := ⟨w.heap.size + 1, 0, none⟩) hwq (.int .i64 0)).setCell (p := ⟨w.heap.size + 1, 1, none⟩) hwq (.slice none 0 0)).setCell (p := ⟨w.heap.size + 1, 2, none⟩) hwq (.slice none 0 0)).setCell (p := ⟨w.heap.size + 1, 3, none⟩) hwq (.slice none 0 0))
    clear hqq
    go_wp2
    refine bodyPost_ret (v := .agg #[.int .i64 0, .slice none 0 0, .slice none 0 0, .slice none 0 0]) (by simp [results, Try.results38, go_sem, u0, u1, u2, u3]) rfl ⟨0, [], [], [], ⟨fun _ => ⟨rfl, rfl, rfl, rfl⟩, fun h => by rw [HO.out] at h; cases h⟩, none, none, none, 0, 0, 0, rfl, World.ownsRow_nil _ _ _ _, World.ownsRow_nil _ _ _ _, World.ownsRow_nil _ _ _ _, HBE.out⟩
  | true =>
    obtain ⟨h0, h8, hl8, hx40, hb4⟩ := okC_sizes HO.out
    obtain ⟨F, hF⟩ : ∃ F : Nat, (F : Int) = 1 + inp + ls.length := ⟨(1 + inp + ls.length).toNat, by omega⟩
    obtain ⟨hA, hL, hB⟩ := okS_ands HO.out HL64.out HX64.out HB64.out hF
    have HFF := hideN hF
    have HCF : Hid (∀ V, Below w.heap.size w V → Calls Try.prog 83 #[.agg #[.int .i64 inp, .slice al ls.length cl, .slice aa xs.length ca, .slice ab bs.length cb]] V (LessPost inp (mapLat (foldS F xs xs.length).1 ls) (foldS F xs xs.length).2 (mapBad (foldS F xs xs.length).1 bs) V)) := fun V hV => l3Fold_any inp al aa ab cl ca cb ls xs bs F V (HC.out V hV) h0 h8 hl8 hx40 hb4 hF hA hL hB
    have hfo := foldS_ok F (by omega) xs hA xs.length (Nat.le_refl _)
    obtain ⟨st, hst⟩ : ∃ st, st = foldS F xs xs.length := ⟨_, rfl⟩
    rw [← hst] at HCF hfo
    have HSTE := hideN hst
    obtain ⟨ls2, hls2⟩ : ∃ ls2, ls2 = mapLat st.1 ls := ⟨_, rfl⟩
    obtain ⟨bs2, hbs2⟩ : ∃ bs2, bs2 = mapBad st.1 bs := ⟨_, rfl⟩
    obtain ⟨xs2, hxs2⟩ : ∃ xs2, xs2 = st.2 := ⟨_, rfl⟩
    have hl2 : ls2.length = ls.length := by rw [hls2]; simp [mapLat]
    have hb2 : bs2.length = bs.length := by rw [hbs2]; simp [mapBad]
    have hx2 : xs2.length ≤ xs.length := by rw [hxs2]; exact hfo.le
    have hL2 : ∀ p ∈ ls2, 0 ≤ p.1 ∧ p.1 < 2 * ((F : Int) + xs2.length) := fun p hp => by
      rw [hls2] at hp
      obtain ⟨q, hq, rfl⟩ := List.mem_map.1 hp
      have := hL q hq
      have h := hfo.to.map this.1 (by omega)
      rw [hxs2]
      omega
    have hB2 : ∀ x ∈ bs2, 0 ≤ x ∧ x < 2 * ((F : Int) + xs2.length) := fun p hp => by
      rw [hbs2] at hp
      obtain ⟨q, hq, rfl⟩ := List.mem_map.1 hp
      have := hB q hq
      have h := hfo.to.map this.1 (by omega)
      rw [hxs2]
      omega
    have hA2 : AndsOk F xs2 := by rw [hxs2]; exact hfo.ands
    have HCP : Hid (∀ al aa ab cl ca cb V, IsCir V al aa ab cl ca cb ls2 xs2 bs2 → Calls Try.prog 82 #[.agg #[.int .i64 inp, .slice al ls2.length cl, .slice aa xs2.length ca, .slice ab bs2.length cb]] V (PrunePost inp F ls2 xs2 bs2 V)) := fun al aa ab cl ca cb V hV => l3Prune_any inp al aa ab cl ca cb ls2 xs2 bs2 F V hV h0 h8 (by omega) (by omega) (by omega) (by omega) hA2 hL2 hB2
    have hmx : ls2.length ≤ maxLen ∧ xs2.length ≤ maxLen ∧ bs2.length ≤ maxLen := by unfold maxLen; omega
    rw [← hls2, ← hbs2, ← hxs2] at HCF
    have HLS2 := hideN hls2
    have HBS2 := hideN hbs2
    have HXS2 := hideN hxs2
    have HMX := hideN hmx
    clear hA hL hB hF hfo hst hls2 hbs2 hxs2 hL2 hB2 hA2 hl2 hb2 hx2 hmx
    have c0 := HBO3.out.four.c0
    have c1 := HBO3.out.four.c1
    have c2 := HBO3.out.four.c2
    have c3 := HBO3.out.four.c3
    go_wp2_with fail
    refine (HCF.out _ HB3.out).mono ?_
    rintro e w4 ⟨al2, aa2, ab2, cl2, ca2, cb2, rfl, r1, r2, r3, hb4'⟩
    have HC4 := hideN (LessPost.isCir (inp := inp) r1 r2 r3 HMX.out.1 HMX.out.2.1 HMX.out.2.2)
    have HB4 : Hid (Below w.heap.size w w4) := belNext HB3.out hb4'
    have HQO4 := hideN (HQO3.out.below hb4')
    clear hb4' r1 r2 r3 c0 c1 c2 c3 HBO3 HQO3
    go_wp2_with fail
    refine (HCP.out al2 aa2 ab2 cl2 ca2 cb2 _ HC4.out).mono ?_
    rintro e w5 ⟨S, hS, al3, aa3, ab3, cl3, ca3, cb3, rfl, r1, r2, r3, hb5⟩
    have HB5 : Hid (Below w.heap.size w w5) := belNext HB4.out hb5
    have HQO5 := hideN (HQO4.out.below hb5)
    have hq4 := HQO4.out.lt
    have HS := hideN hS
    obtain ⟨pt, hpt⟩ : ∃ pt, pt = pruneS F xs2 S xs2.length := ⟨_, rfl⟩
    rw [← hpt] at r1 r2 r3
    have HPT := hideN hpt
    obtain ⟨ls3, hls3⟩ : ∃ ls3, ls3 = mapLat pt.1 ls2 := ⟨_, rfl⟩
    obtain ⟨bs3, hbs3⟩ : ∃ bs3, bs3 = mapBad pt.1 bs2 := ⟨_, rfl⟩
    rw [← hpt, ← hls3, ← hbs3]
    rw [← hls3] at r1
    rw [← hbs3] at r3
    have HLS3 := hideN hls3
    have HBS3 := hideN hbs3
    have HR1 := hideN r1
    have HR2 := hideN r2
    have HR3 := hideN r3
    have HIL : Hid (IsLess inp ls xs bs inp ls3 pt.2 bs3) := by
      refine ⟨fun h => (by rw [HO.out] at h; cases h), fun _ F' hF' => ?_⟩
      obtain rfl : F' = F := by have := HFF.out; omega
      refine ⟨rfl, st, HSTE.out, S, ?_, ?_, ?_, ?_⟩
      · rw [← HXS2.out, ← HLS2.out, ← HBS2.out]; exact HS.out
      · rw [HLS3.out, HPT.out, HLS2.out, HXS2.out]
      · rw [HPT.out, HXS2.out]
      · rw [HBS3.out, HPT.out, HBS2.out, HXS2.out]
    clear hb5 hS hpt hls3 hbs3 r1 r2 r3
    have m2 := HQO5.out.lt
    have m3 := HQO5.out.fz 0
    have m4 := HQO5.out.fz 1
    have m5 := HQO5.out.fz 2
    have m6 := HQO5.out.fz 3
    have m7 := HQO5.out.four.c0
    have m8 := HQO5.out.four.c1
    have m9 := HQO5.out.four.c2
    have m10 := HQO5.out.four.c3
    obtain ⟨v1, hv1⟩ : ∃ v1, v1 = Value.slice al3 ls3.length cl3 := ⟨_, rfl⟩
    obtain ⟨v2, hv2⟩ : ∃ v2, v2 = Value.slice aa3 pt.2.length ca3 := ⟨_, rfl⟩
    obtain ⟨v3, hv3⟩ : ∃ v3, v3 = Value.slice ab3 bs3.length cb3 := ⟨_, rfl⟩
    have hqq := (((HQO5.out.set0 (.int .i64 inp)).set1 (.slice al3 ls3.length cl3)).set2 (.slice aa3 pt.2.length ca3)).set3 (.slice ab3 bs3.length cb3)
    have u0 := hqq.four.c0
    have u1 := hqq.four.c1
    have u2 := hqq.four.c2
    have u3 := hqq.four.c3
    have HBE := hideN ((((HB5.out.setCell (p := ⟨w.heap.size + 1, 0, none⟩) hwq (.int .i64 inp)).setCell (p := ⟨w.heap.size + 1, 1, none⟩) hwq (.slice al3 ls3.length cl3)).setCell (p := ⟨w.heap.size + 1, 2, none⟩) hwq (.slice aa3 pt.2.length ca3)).setCell (p := ⟨w.heap.size + 1, 3, none⟩) hwq (.slice ab3 bs3.length cb3))
    have HLE := hideN (row_base (row_setC (i := 3) (row_setC (i := 2) (row_setC (i := 1) (row_setC (i := 0) HR1.out hq4 (.int .i64 inp)) hq4 (.slice al3 ls3.length cl3)) hq4 (.slice aa3 pt.2.length ca3)) hq4 (.slice ab3 bs3.length cb3)) (show w.heap.size ≤ w4.heap.size by omega))
    have HAE := hideN (row_base (row_setC (i := 3) (row_setC (i := 2) (row_setC (i := 1) (row_setC (i := 0) HR2.out hq4 (.int .i64 inp)) hq4 (.slice al3 ls3.length cl3)) hq4 (.slice aa3 pt.2.length ca3)) hq4 (.slice ab3 bs3.length cb3)) (show w.heap.size ≤ w4.heap.size by omega))
    have HBR := hideN (row_base (row_setC (i := 3) (row_setC (i := 2) (row_setC (i := 1) (row_setC (i := 0) HR3.out hq4 (.int .i64 inp)) hq4 (.slice al3 ls3.length cl3)) hq4 (.slice aa3 pt.2.length ca3)) hq4 (.slice ab3 bs3.length cb3)) (show w.heap.size ≤ w4.heap.size by omega))
    clear hqq hv1 hv2 hv3 v1 v2 v3
    go_wp2
    refine bodyPost_ret (v := .agg #[.int .i64 inp, .slice al3 ls3.length cl3, .slice aa3 pt.2.length ca3, .slice ab3 bs3.length cb3]) (by simp [results, Try.results38, go_sem, u0, u1, u2, u3]) rfl ⟨inp, ls3, pt.2, bs3, HIL.out, al3, aa3, ab3, cl3, ca3, cb3, rfl, HLE.out, HAE.out, HBR.out, HBE.out⟩

end Go.Proofs.Ytbdjdgamnnifjaa

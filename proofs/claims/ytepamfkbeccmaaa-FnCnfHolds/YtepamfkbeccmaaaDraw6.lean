/-
  Drawn clauses, some of them not ok: l13AnyCnf.
-/
import Derived.Test.YtepamfkbeccmaaaDraw5
import Derived.Deep.RegionHeldLaw
namespace Go.Proofs.Ytepamfkbeccmaaa
open Go.RowKit Go.Deep
set_option linter.unusedVariables false

/-- What any drawn clauses are. -/
def AnyPost (R : Nat) (v : Value) (bs : List Int) (p : Nat) (w : World) (e : Ending) (w' : World) : Prop :=
  ∃ (vars : Int) (ao : Option Addr) (cap : Nat) (css : List (List Int)) (p' : Nat), e = .returned (.agg #[.int .i64 vars, .slice ao css.length cap]) ∧ Grid w' (w.heap.size + 3) (.slice ao css.length cap) css ∧ (-1 ≤ vars ∧ vars ≤ 61) ∧ css.length ≤ 160 ∧ (∀ i, i < css.length → (css.getD i []).length ≤ 9) ∧ p' ≤ p + 1100 ∧ Rd w' R v bs p' ∧ Old R w.heap.size w w'

theorem lit_cells (w : World) (xs : List Int) (t : TypeId) : ∀ i, i < xs.length → (w.alloc (.cells (xs.map (Value.int .i64)).toArray t)).cell? ⟨w.heap.size, 0 + i, none⟩ = some (.int .i64 (xs.getD i 0)) := by
  intro i hi
  rw [World.cell?_alloc_new]
  simp [List.getD, hi]

theorem own_lit (w : World) (base : Nat) (xs : List Int) (hb : base ≤ w.heap.size) (hl : xs.length ≤ maxLen) : Owns (w.alloc (.cells (xs.map (Value.int .i64)).toArray 3)) base (.slice (some ⟨w.heap.size, 0, none⟩) xs.length xs.length) xs :=
  ⟨by simp, .inr ⟨w.heap.size, xs.length, _, rfl, hb, blk_alloc_new _ _, Nat.le_refl _, hl, by simp, by rw [Nat.mul_one]; exact List.take_of_length_le (by simp)⟩⟩

set_option maxRecDepth 100000 in
set_option maxHeartbeats 8000000 in
theorem l13AnyCnf_any (R : Nat) (v : Value) (bs : List Int) (p : Nat) (w : World) (hr : Rd w R v bs p) (hvb : ∀ ao n cap b off, v = .slice ao n cap → ao = some ⟨b, off, none⟩ → b < w.heap.size) (hp : p ≤ 300000) :
    Calls Try.prog 10 #[.pointer (some ⟨R, 0, none⟩)] w (AnyPost R v bs p w) := by
  have hRlt := hr.lt
  have HVB : Hid (∀ ao n cap b off, v = .slice ao n cap → ao = some ⟨b, off, none⟩ → b < w.heap.size) := hvb
  have HR0 : Hid (Rd (w.alloc (.cells #[.int .i64 0, .slice none 0 0] 25)) R v bs p) := hr.grown (World.grownBy_alloc w _ none) (by simp) (by simp)
  obtain ⟨i0, hi, hz0, hz1, hz2⟩ := info_parts info_ints
  clear hr hvb
  go_enter Try.func10, Try.ntmps10
  go_wp2_with fail
  refine (l13Cnf_any R v bs p _ HR0.out (fun a b c d e h1 h2 => by have := HVB.out a b c d e h1 h2; simp; omega) (by omega)).mono ?_
  rintro e w1 ⟨vars, ao, cap, css, p1, rfl, hgrid, ⟨hvars0, hvars1⟩, hcl, hthin, hp1, hrd1, hold1, hs3'⟩
  have hs1 : w.heap.size + 1 ≤ w1.heap.size := by have := hold1.size; simpa using this
  have HS0 : Hid (Su w (w1.alloc (.cells #[.int .i64 vars, .slice ao css.length cap] 25)) R v bs p1 w.heap.size w1.heap.size (w.heap.size + 3) vars (.slice ao css.length cap) css) := by
    have hg3 : Grid w1 (w.heap.size + 3) (.slice ao css.length cap) css := by simpa using hgrid
    have ho : Old R (w.heap.size + 1) (w.alloc (.cells #[.int .i64 0, .slice none 0 0] 25)) w1 := by simpa using hold1
    have hsz3 : w.heap.size + 3 ≤ w1.heap.size := by simpa using hs3'
    exact ⟨((Blk.new w _ _).old ho (by omega) (by omega)).below (belOne _ _), Blk.new w1 _ _, hg3.keep (fun k hk hlt => (belOne w1 _).block k hlt), hrd1.grown (World.grownBy_alloc w1 _ none) (by simp) (by simp),
      (((Old.refl R w.heap.size w).below (belOne _ _) (Nat.le_refl _)).trans ⟨ho.1, ho.2.1, ho.2.2.1, ho.2.2.2.1, fun k hk hne => ho.2.2.2.2 k (by omega) hne⟩).below (belOne _ _) (by omega), by simp; omega, Nat.le_refl _, by omega, by omega, by omega, hthin⟩
  clear hgrid hrd1 hold1 hthin hs3'
  go_wp2_with fail
  refine (pick_any R v bs p1 _ _ HS0.out.rd (by omega) (by omega)).mono ?_
  rintro e w2 ⟨z, rfl, hz30, hz31, hz32, hrd2, hg2, hs2⟩
  have HS2 : Hid (Su w w2 R v bs (p1 + 1) w.heap.size w1.heap.size (w.heap.size + 3) vars (.slice ao css.length cap) css) := HS0.out.pick hRlt hrd2 hg2
  clear hrd2 hg2 hs2 hz31 hz32
  have n0 := HS2.out.c.c0
  have n1 := HS2.out.c.c1
  have n2 := HS2.out.c.lt
  have n3 := HS2.out.c.f 0
  have n4 := HS2.out.size
  by_cases e0 : z = 0
  · subst e0
    go_wp2_with fail
    refine (one_any R v bs (p1 + 1) w2.heap.size 0 3 3 [-1, 61, 0] _ (HS2.out.alloc _).rd (by omega) rfl (by omega) (by omega) (by omega) (lit_cells w2 [-1, 61, 0] 3)).mono ?_
    rintro e w3 ⟨x, rfl, hx, hrd3, hg3, hs3⟩
    have hxr : -1 ≤ x ∧ x ≤ 61 := by simp at hx; omega
    have HS3 : Hid (Su w w3 R v bs (p1 + 2) w.heap.size w1.heap.size (w.heap.size + 3) vars (.slice ao css.length cap) css) := (HS2.out.alloc _).pick hRlt hrd3 hg3
    have HS4 : Hid (Su w (w3.setCell ⟨w1.heap.size, 0, none⟩ (.int .i64 x)) R v bs (p1 + 2) w.heap.size w1.heap.size (w.heap.size + 3) x (.slice ao css.length cap) css) := HS3.out.revar hRlt HVB.out x
    clear hx hrd3 hg3 hs3 n0 n1 n2 n3 n4
    have n0 := HS3.out.c.c0
    have n3 := HS3.out.c.f 0
    have n2 := HS3.out.c.lt
    have m0 := HS4.out.c.c0
    have m1 := HS4.out.c.c1
    have m2 := HS4.out.c.lt
    have m3 := HS4.out.q.c0
    have m4 := HS4.out.q.c1
    have m5 := HS4.out.q.lt
    have m6 := HS4.out.q.f 0
    have m7 := HS4.out.q.f 1
    have HDN := hideD (HS4.out.done hRlt HVB.out (.int .i64 (x)) (.slice ao css.length cap))
    go_wp2
    exact bodyPost_ret (v := .agg #[.int .i64 (x), .slice ao css.length cap]) (by simp [results, Try.results10, go_sem, m3, m4]) rfl ⟨_, ao, cap, css, p1 + 2, rfl, HDN.out.1, ⟨by omega, by omega⟩, by first | omega | (simp; omega), HS4.out.thin, by omega, HDN.out.2.1, HDN.out.2.2⟩
  · have b0 : (z == 0) = false := by simpa using e0
    by_cases e1 : z = 1
    · subst e1
      have hwa : IntKind.i64.wrap (vars + 1) = vars + 1 := by rw [IntKind.wrap_i64]; omega
      have hwb : IntKind.i64.wrap (-vars) = -vars := by rw [IntKind.wrap_i64]; omega
      have hwc : IntKind.i64.wrap (-vars - 1) = -vars - 1 := by rw [IntKind.wrap_i64]; omega
      have hne9 : ¬ w2.heap.size = R := by omega
      go_wp2_with fail
      go_region_law (first
          | (refine step_append_lies _ rfl (.tmp 17) (.tmp 29) 23 rfl (w.heap.size + 3) 31 i0 (.slice none 0 0) 1 24 Try.underlying23 hi hz0 hz1 hz2 rfl (by decide) _ css.length vs rfl (World.ownsRow.alloc (World.ownsRow.alloc HV1.out _) _) ⟨w3.heap.size + 1, 0, none⟩ 1 1 [.slice (some ⟨w3.heap.size, 0, none⟩) 1 1] rfl rfl (news_second _ _ _ _) (slice_oneCell _ _ _) (by decide) (by unfold maxLen; omega) (by omega) (by first | omega | (simp; omega)) _ rfl ?_; intro g gcap w5 hown5 hgrow5 hat5 hlt5; have hb5 := ((HS3.out.alloc _).alloc _).c.grown hgrow5 HNE.out; have y0 := hb5.c0; have y1 := hb5.c1; have y2 := hb5.f 1; have y3 := hb5.lt; have hq5 := ((HS3.out.alloc _).alloc _).q.grown hgrow5 HNQ.out; have u0 := hq5.c0; have u1 := hq5.c1; have u2 := hq5.f 0; have u3 := hq5.f 1; have u4 := hq5.lt; have HO5 : Hid (w5.ownsRow _ _ _ _ _ _) := hown5; have HG5 : Hid (World.grownBy _ w5 _) := hgrow5; clear hown5 hgrow5 hat5 hb5 hq5)
          | (go_simp; go_at_call 20; refine (one_any R v bs (p1 + 1) w2.heap.size 0 3 3 [0, vars + 1, -vars - 1] _ (HS2.out.alloc _).drew.rd (by omega) rfl (by omega) (by omega) hne9 (lit_cells w2 [0, vars + 1, -vars - 1] 3)).mono ?_; rintro e w3 ⟨x, rfl, hx, hrd3, hg3, hs3⟩; have HS3 : Hid (Su w w3 R v bs (p1 + 2) w.heap.size w1.heap.size (w.heap.size + 3) vars (.slice ao css.length cap) css) := (HS2.out.alloc _).drew.pick hRlt hrd3 hg3; obtain ⟨vs, hv1, hv2⟩ := HS3.out.grid; have HV1 : Hid (w3.ownsRow (w.heap.size + 3) 31 1 (.slice ao css.length cap) css.length vs) := hv1; have HV2 : Hid (∀ i, i < css.length → ∃ rv, vs[i]? = some rv ∧ Owns w3 (w.heap.size + 3) rv (css.getD i [])) := hv2; have HNE : Hid (some w1.heap.size ≠ (Value.slice ao css.length cap).ownBlock) := (fun e => by obtain ⟨c, f, hc⟩ := ownsRow_type hv1 _ e.symm; have hb := HS3.out.c; unfold Blk at hb; rw [hb] at hc; cases hc); have HNQ : Hid (some w.heap.size ≠ (Value.slice ao css.length cap).ownBlock) := (fun e => by obtain ⟨c, f, hc⟩ := ownsRow_type hv1 _ e.symm; have hb := HS3.out.q; unfold Blk at hb; rw [hb] at hc; cases hc); have q0 := HS3.out.c.c0; have q1 := HS3.out.c.c1; have q2 := HS3.out.c.lt; have q4 := HS3.out.size; have HX3 : Hid (Owns (w3.alloc (.cells #[.int .i64 x] 3)) (w.heap.size + 3) (.slice (some ⟨w3.heap.size, 0, none⟩) 1 1) [x]) := own_lit _ _ [x] q4 (by simp [maxLen]); clear hx hrd3 hg3 hs3 hv1 hv2))
      all_goals
        have HSTN := ((HS3.out.alloc _).alloc _).push hRlt HVB.out (World.ownsRow.alloc (World.ownsRow.alloc HV1.out _) _) (fun i hi => by obtain ⟨rv, h1, h2⟩ := HV2.out i hi; exact ⟨rv, h1, (h2.below (belOne _ _)).below (belOne _ _)⟩) (HX3.out.below (belOne _ _)) (by simp) HG5.out HO5.out
        have HS9 : Hid (Su w _ R v bs _ _ _ _ _ _ _) := HSTN
        clear HSTN
        have HL9 : Hid ((css ++ [[x]]).length = css.length + 1) := by simp [Hid]
        have HDN := hideD (HS9.out.done hRlt HVB.out (.int .i64 vars) (.slice (some ⟨g, 0, none⟩) (css.length + 1) gcap))
        go_wp2
        exact bodyPost_ret (v := .agg #[.int .i64 vars, .slice (some ⟨g, 0, none⟩) (css.length + 1) gcap]) (by simp [results, Try.results10, go_sem, u0, u1]) rfl ⟨vars, some ⟨g, 0, none⟩, gcap, css ++ [[x]], p1 + 2, by rw [HL9.out], by rw [HL9.out]; exact HDN.out.1, ⟨by omega, by omega⟩, by rw [HL9.out]; omega, HS9.out.thin, by omega, HDN.out.2.1, HDN.out.2.2⟩
    · have b1 : (z == 1) = false := by simpa using e1
      by_cases e2 : z = 2
      · subst e2
        obtain ⟨vs, hv1, hv2⟩ := HS2.out.grid
        have HV1 : Hid (w2.ownsRow (w.heap.size + 3) 31 1 (.slice ao css.length cap) css.length vs) := hv1
        have HV2 : Hid (∀ i, i < css.length → ∃ rv, vs[i]? = some rv ∧ Owns w2 (w.heap.size + 3) rv (css.getD i [])) := hv2
        have HNE : Hid (some w1.heap.size ≠ (Value.slice ao css.length cap).ownBlock) := fun e => by obtain ⟨c, f, hc⟩ := ownsRow_type hv1 _ e.symm; have hb := HS2.out.c; unfold Blk at hb; rw [hb] at hc; cases hc
        have HNQ : Hid (some w.heap.size ≠ (Value.slice ao css.length cap).ownBlock) := fun e => by obtain ⟨c, f, hc⟩ := ownsRow_type hv1 _ e.symm; have hb := HS2.out.q; unfold Blk at hb; rw [hb] at hc; cases hc
        clear hv1 hv2
        have HOX : Hid (Owns (w2.alloc (.cells #[.int .i64 1, .int .i64 1, .int .i64 1, .int .i64 1, .int .i64 1, .int .i64 1, .int .i64 1, .int .i64 1, .int .i64 1] 3)) (w.heap.size + 3) (.slice (some ⟨w2.heap.size, 0, none⟩) 9 9) [1, 1, 1, 1, 1, 1, 1, 1, 1]) := own_lit _ _ [1, 1, 1, 1, 1, 1, 1, 1, 1] n4 (by simp [maxLen])
        have HSA : Hid (Su w (w2.alloc (.cells #[.int .i64 1, .int .i64 1, .int .i64 1, .int .i64 1, .int .i64 1, .int .i64 1, .int .i64 1, .int .i64 1, .int .i64 1] 3)) R v bs (p1 + 1) w.heap.size w1.heap.size (w.heap.size + 3) vars (.slice ao css.length cap) css) := HS2.out.alloc _
        go_wp2_with (at_builtin; refine wpList_append_lies _ rfl _ _ 23 rfl (w.heap.size + 3) 31 i0 (.slice none 0 0) 1 24 Try.underlying23 hi hz0 hz1 hz2 rfl (by decide) _ css.length vs rfl (World.ownsRow.alloc (World.ownsRow.alloc HV1.out _) _) ⟨w2.heap.size + 1, 0, none⟩ 1 1 [.slice (some ⟨w2.heap.size, 0, none⟩) 9 9] rfl rfl (news_second _ _ _ _) (slice_oneCell _ _ _) (by decide) (by unfold maxLen; omega) (by omega) (by simp; omega) _ rfl ?_; intro g gcap w5 hown5 hgrow5 hat5 hlt5; have hb5 := (HSA.out.alloc _).c.grown hgrow5 HNE.out; have y0 := hb5.c0; have y1 := hb5.c1; have y2 := hb5.f 1; have y3 := hb5.lt; have hq5 := (HSA.out.alloc _).q.grown hgrow5 HNQ.out; have u0 := hq5.c0; have u1 := hq5.c1; have u2 := hq5.f 0; have u3 := hq5.f 1; have u4 := hq5.lt; have HO5 : Hid (w5.ownsRow _ _ _ _ _ _) := hown5; have HG5 : Hid (World.grownBy _ w5 _) := hgrow5; clear hown5 hgrow5 hat5 hb5 hq5)
        have HSTN := (HSA.out.alloc _).push hRlt HVB.out (World.ownsRow.alloc (World.ownsRow.alloc HV1.out _) _) (fun i hi => by obtain ⟨rv, h1, h2⟩ := HV2.out i hi; exact ⟨rv, h1, (h2.below (belOne _ _)).below (belOne _ _)⟩) (HOX.out.below (belOne _ _)) (by simp) HG5.out HO5.out
        have HS9 : Hid (Su w _ R v bs _ _ _ _ _ _ _) := HSTN
        clear HSTN
        have hl9 : (css ++ [[1, 1, 1, 1, 1, 1, 1, 1, 1]]).length = css.length + 1 := by simp
        have HL9 : Hid ((css ++ [[1, 1, 1, 1, 1, 1, 1, 1, (1 : Int)]]).length = css.length + 1) := hl9
        clear hl9 n0 n1 n2 n3 n4
        have HDN := hideD (HS9.out.done hRlt HVB.out (.int .i64 vars) (.slice (some ⟨g, 0, none⟩) (css.length + 1) gcap))
        exact bodyPost_ret (v := .agg #[.int .i64 vars, .slice (some ⟨g, 0, none⟩) (css.length + 1) gcap]) (by simp [results, Try.results10, go_sem, u0, u1]) rfl ⟨vars, some ⟨g, 0, none⟩, gcap, css ++ [[1, 1, 1, 1, 1, 1, 1, 1, 1]], p1 + 1, by rw [HL9.out], by rw [HL9.out]; exact HDN.out.1, ⟨by omega, by omega⟩, by rw [HL9.out]; omega, HS9.out.thin, by omega, HDN.out.2.1, HDN.out.2.2⟩
      · have b2 : (z == 2) = false := by simpa using e2
        by_cases e3 : z = 3
        · subst e3
          have HCL : Hid (css.length ≤ 150) := hcl
          have HPB : Hid (p1 + 1 ≤ p + 1100) := by show p1 + 1 ≤ p + 1100; omega
          clear hcl hp1 n0 n1 n2 n3 n4
          go_wp2_with fail
          go_loopg [] (151 - css.length) (fun q wr => ∃ (ao : Option Addr) (cap : Nat) (css : List (List Int)), q + css.length = 151 ∧ Su w wr R v bs (p1 + 1) w.heap.size w1.heap.size (w.heap.size + 3) vars (.slice ao css.length cap) css)
          case atStart => exact ⟨ao, cap, css, by have := HCL.out; omega, HS2.out⟩
          case round =>
            rename World => wg
            obtain ⟨ao, cap, css, hq, hst⟩ := hrel
            have HQ : Hid (gk + css.length = 151) := hq
            have hq2 : css.length ≤ 151 := by omega
            have HS8 : Hid (Su w wg R v bs (p1 + 1) w.heap.size w1.heap.size (w.heap.size + 3) vars (.slice ao css.length cap) css) := hst
            clear hst hq
            have j0 := HS8.out.c.c0
            have j1 := HS8.out.c.c1
            have j2 := HS8.out.c.lt
            have j3 := HS8.out.size
            have hp9 := HPB.out
            by_cases hlt : css.length ≤ 150
            · obtain ⟨vs, hv1, hv2⟩ := HS8.out.grid
              have HV1 : Hid (wg.ownsRow (w.heap.size + 3) 31 1 (.slice ao css.length cap) css.length vs) := hv1
              have HV2 : Hid (∀ i, i < css.length → ∃ rv, vs[i]? = some rv ∧ Owns wg (w.heap.size + 3) rv (css.getD i [])) := hv2
              have HNE : Hid (some w1.heap.size ≠ (Value.slice ao css.length cap).ownBlock) := fun e => by obtain ⟨c, f, hc⟩ := ownsRow_type hv1 _ e.symm; have hb := HS8.out.c; unfold Blk at hb; rw [hb] at hc; cases hc
              have HNQ : Hid (some w.heap.size ≠ (Value.slice ao css.length cap).ownBlock) := fun e => by obtain ⟨c, f, hc⟩ := ownsRow_type hv1 _ e.symm; have hb := HS8.out.q; unfold Blk at hb; rw [hb] at hc; cases hc
              clear hv1 hv2
              have HOX : Hid (Owns (wg.alloc (.cells #[.int .i64 1] 3)) (w.heap.size + 3) (.slice (some ⟨wg.heap.size, 0, none⟩) 1 1) [1]) := own_lit _ _ [1] j3 (by simp [maxLen])
              have HSA : Hid (Su w (wg.alloc (.cells #[.int .i64 1] 3)) R v bs (p1 + 1) w.heap.size w1.heap.size (w.heap.size + 3) vars (.slice ao css.length cap) css) := HS8.out.alloc _
              go_wp2_with (at_builtin; refine wpList_append_lies _ rfl _ _ 23 rfl (w.heap.size + 3) 31 i0 (.slice none 0 0) 1 24 Try.underlying23 hi hz0 hz1 hz2 rfl (by decide) _ css.length vs rfl (World.ownsRow.alloc (World.ownsRow.alloc HV1.out _) _) ⟨wg.heap.size + 1, 0, none⟩ 1 1 [.slice (some ⟨wg.heap.size, 0, none⟩) 1 1] rfl rfl (news_second _ _ _ _) (slice_oneCell _ _ _) (by decide) (by unfold maxLen; omega) (by omega) (by simp; omega) _ rfl ?_; intro g gcap w5 hown5 hgrow5 hat5 hlt5; have hb5 := (HSA.out.alloc _).c.grown hgrow5 HNE.out; have y1 := hb5.c1; have y2 := hb5.f 1; have y3 := hb5.lt; have HO5 : Hid (w5.ownsRow _ _ _ _ _ _) := hown5; have HG5 : Hid (World.grownBy _ w5 _) := hgrow5; clear hown5 hgrow5 hat5 hb5)
              have HSTN := (HSA.out.alloc _).push hRlt HVB.out (World.ownsRow.alloc (World.ownsRow.alloc HV1.out _) _) (fun i hi => by obtain ⟨rv, h1, h2⟩ := HV2.out i hi; exact ⟨rv, h1, (h2.below (belOne _ _)).below (belOne _ _)⟩) (HOX.out.below (belOne _ _)) (by simp) HG5.out HO5.out
              have HSTM : Hid (Su w _ R v bs _ _ _ _ _ _ _) := HSTN
              clear HSTN
              go_wp2
              go_roundg (gk - 1)
              case measure => have := HQ.out; omega
              case rel => exact ⟨some ⟨g, 0, none⟩, gcap, css ++ [[1]], by have := HQ.out; simp; omega, by rw [List.length_append]; exact HSTM.out⟩
            · clear j0 j1 j2 j3
              have n0 := HS8.out.c.c1
              have m0 := HS8.out.c.c0
              have m1 := HS8.out.c.c1
              have m2 := HS8.out.c.lt
              have m3 := HS8.out.q.c0
              have m4 := HS8.out.q.c1
              have m5 := HS8.out.q.lt
              have m6 := HS8.out.q.f 0
              have m7 := HS8.out.q.f 1
              have HDN := hideD (HS8.out.done hRlt HVB.out (.int .i64 (vars)) (.slice ao css.length cap))
              go_wp2
              exact bodyPost_ret (v := .agg #[.int .i64 (vars), .slice ao css.length cap]) (by simp [results, Try.results10, go_sem, m3, m4]) rfl ⟨_, ao, cap, css, p1 + 1, rfl, HDN.out.1, ⟨by omega, by omega⟩, by first | omega | (simp; omega), HS8.out.thin, by omega, HDN.out.2.1, HDN.out.2.2⟩
        · have b3 : (z == 3) = false := by simpa using e3
          clear n0 n1 n2 n3 n4
          have m0 := HS2.out.c.c0
          have m1 := HS2.out.c.c1
          have m2 := HS2.out.c.lt
          have m3 := HS2.out.q.c0
          have m4 := HS2.out.q.c1
          have m5 := HS2.out.q.lt
          have m6 := HS2.out.q.f 0
          have m7 := HS2.out.q.f 1
          have HDN := hideD (HS2.out.done hRlt HVB.out (.int .i64 (vars)) (.slice ao css.length cap))
          go_wp2
          exact bodyPost_ret (v := .agg #[.int .i64 (vars), .slice ao css.length cap]) (by simp [results, Try.results10, go_sem, m3, m4]) rfl ⟨_, ao, cap, css, p1 + 1, rfl, HDN.out.1, ⟨by omega, by omega⟩, by first | omega | (simp; omega), HS2.out.thin, by omega, HDN.out.2.1, HDN.out.2.2⟩

end Go.Proofs.Ytepamfkbeccmaaa

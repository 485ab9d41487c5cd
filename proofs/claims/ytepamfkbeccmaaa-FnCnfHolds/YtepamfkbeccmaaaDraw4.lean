/-
  Drawn clauses: the walk of l13Cnf.
-/
import Derived.Test.YtepamfkbeccmaaaDraw3
import Derived.Deep.LoopGhost
namespace Go.Proofs.Ytepamfkbeccmaaa
open Go.RowKit Go.Deep
set_option linter.unusedVariables false

theorem news_slice (w : World) (x : Value) (t : TypeId) : ∀ j u, [x][j]? = some u → (w.alloc (.cells #[x] t)).cell? ((⟨w.heap.size, 0, none⟩ : Addr).add j) = some u := news_plain1 w x t

theorem news_second (w : World) (o : Obj) (x : Value) (t : TypeId) : ∀ j u, [x][j]? = some u → ((w.alloc o).alloc (.cells #[x] t)).cell? ((⟨w.heap.size + 1, 0, none⟩ : Addr).add j) = some u := by
  have h := news_plain1 (w.alloc o) x t
  rw [World.size_alloc] at h
  exact h

theorem slice_oneCell (a : Option Addr) (n c : Nat) : ∀ u ∈ [Value.slice a n c], u.oneCell' = true := by intro u hu; simp at hu; subst hu; rfl

theorem hideD {P : Prop} (h : P) : Hid P := h

set_option maxRecDepth 100000 in
set_option maxHeartbeats 8000000 in
theorem l13Cnf_any (R : Nat) (v : Value) (bs : List Int) (p : Nat) (w : World) (hr : Rd w R v bs p) (hvb : ∀ ao n cap b off, v = .slice ao n cap → ao = some ⟨b, off, none⟩ → b < w.heap.size) (hp : p ≤ 400000) :
    Calls Try.prog 19 #[.pointer (some ⟨R, 0, none⟩)] w (CnfPost R v bs p w) := by
  have hRlt := hr.lt
  have HVB : Hid (∀ ao n cap b off, v = .slice ao n cap → ao = some ⟨b, off, none⟩ → b < w.heap.size) := hvb
  have HR0 : Hid (Rd (w.alloc (.cells #[.int .i64 0, .slice none 0 0] 25)) R v bs p) := hr.grown (World.grownBy_alloc w _ none) (by simp) (by simp)
  obtain ⟨i0, hi, hz0, hz1, hz2⟩ := info_parts info_ints
  clear hr hvb
  go_enter Try.func19, Try.ntmps19
  go_wp2_with fail
  refine (pick_any R v bs p _ _ HR0.out (by omega) (by omega)).mono ?_
  rintro e w1 ⟨x, rfl, hx0, hx1, hx2, hrd1, hg1, hs1⟩
  have hx7 : x < 7 := hx1 (by omega)
  have hs1' : w1.heap.size = w.heap.size + 1 := by simpa using hs1
  have HST0 : Hid (St w (w1.alloc (.cells #[.int .i64 (1 + x), .slice none 0 0] 25)) R v bs (p + 1) (1 + x) (.slice none 0 0) []) := by
    have hc := Blk.new w1 (.int .i64 (1 + x)) (.slice none 0 0)
    rw [hs1'] at hc
    exact ⟨((Blk.new w (.int .i64 0) (.slice none 0 0)).grown hg1 (fun e => by have := Option.some.inj e; omega)).below (belOne _ _), hc, grid_nil _ _, hrd1.grown (World.grownBy_alloc w1 _ none) (by simp) (by simp),
      (((Old.refl R w.heap.size w).below (belOne _ _) (Nat.le_refl _)).grown hg1 (by simp) (fun q e => .inr (Option.some.inj e).symm)).below (belOne _ _) (by omega), by simp; omega, fun i hi => by simp at hi⟩
  have hsz1 : w1.heap.size = w.heap.size + 1 := hs1'
  clear hrd1 hg1 hs1 hx1 hx2 hs1'
  go_wp2_with fail
  refine (pick_any R v bs (p + 1) _ _ HST0.out.rd (by omega) (by omega)).mono ?_
  rintro e w2 ⟨y, rfl, hy0, hy1, hy2, hrd2, hg2, hs2⟩
  have HST2 : Hid (St w w2 R v bs (p + 2) (1 + x) (.slice none 0 0) []) := HST0.out.pick hRlt hrd2 hg2
  clear hrd2 hg2 hs2 hy1 hy2
  clear hsz1
  have k0 := HST2.out.c.c0
  have k1 := HST2.out.c.c1
  have k2 := HST2.out.c.lt
  cases hyb : (y == 0)
  all_goals
    go_wp2_with fail
    refine (pick_any R v bs (p + 2) _ _ HST2.out.rd (by omega) (by omega)).mono ?_
    rintro e w3 ⟨n, rfl, hn0, hn1, hn2, hrd3, hg3, hs3⟩
    have HST3 : Hid (St w w3 R v bs (p + 3) (1 + x) (.slice none 0 0) []) := HST2.out.pick hRlt hrd3 hg3
    have hn28 : n < 28 := by have := hn1 (by omega); omega
    clear hrd3 hg3 hs3 hn1 hn2 k0 k1 k2
    go_wp2_with fail
    go_loopw [5] (fun m wr => ∃ (k : Nat) (o : Value) (css : List (List Int)) (p' : Nat), m = .int .i64 k ∧ css.length + k ≤ 28 ∧ p' + 18 * k ≤ p + 510 ∧ St w wr R v bs p' (1 + x) o css) (fun m _ => (intOf m).toNat)
    case atStart => exact ⟨n.toNat, _, [], p + 3, by rw [Int.toNat_of_nonneg hn0], by simp; omega, by omega, HST3.out⟩
    case round =>
      obtain ⟨k, o, css, p', rfl, hck, hpk, hst⟩ := hrel
      have HST : Hid (St w wr R v bs p' (1 + x) o css) := hst
      obtain ⟨ao, cap, rfl⟩ := hst.grid.form
      have j0 := hst.c.c0
      have j1 := hst.c.c1
      have j2 := hst.c.lt
      have j3 := hst.size
      clear hst
      by_cases hk : 0 < k
      · obtain ⟨k', rfl⟩ : ∃ k', k = k' + 1 := ⟨k - 1, by omega⟩
        go_wp2_with fail
        refine (l13Clause_any R v bs p' _ _ _ HST.out.rd (fun a b c d e h1 h2 => by have := HVB.out a b c d e h1 h2; omega) (by omega) (by omega) (by omega) (by omega)).mono ?_
        rintro e w4 ⟨aoX, capX, xs, p4, rfl, hownX, hxl, hp4, hrd4, hold4⟩
        have HST4 : Hid (St w w4 R v bs p4 (1 + x) (.slice ao css.length cap) css) := HST.out.more hRlt hrd4 hold4
        have HOX : Hid (Owns w4 (w.heap.size + 2) (.slice aoX xs.length capX) xs) := hownX.mono j3
        clear hownX hrd4 hold4 j0 j1 j2 j3
        by_cases hx : 0 < xs.length
        · obtain ⟨vs, hv1, hv2⟩ := HST4.out.grid
          have HV1 : Hid (w4.ownsRow (w.heap.size + 2) 31 1 (.slice ao css.length cap) css.length vs) := hv1
          have HV2 : Hid (∀ i, i < css.length → ∃ rv, vs[i]? = some rv ∧ Owns w4 (w.heap.size + 2) rv (css.getD i [])) := hv2
          have HNE : Hid (some (w.heap.size + 1) ≠ (Value.slice ao css.length cap).ownBlock) := fun e => by have := World.ownsRow.lt hv1 _ e.symm; omega
          clear hv1 hv2
          have j0 := HST4.out.c.c0
          have j1 := HST4.out.c.c1
          have j2 := HST4.out.c.lt
          have j3 := HST4.out.size
          go_wp2_with (at_builtin; refine wpList_append_lies _ rfl _ _ 23 rfl (w.heap.size + 2) 31 i0 (.slice none 0 0) 1 24 Try.underlying23 hi hz0 hz1 hz2 rfl (by decide) _ css.length vs rfl (World.ownsRow.alloc HV1.out _) ⟨w4.heap.size, 0, none⟩ 1 1 [.slice aoX xs.length capX] rfl rfl (news_slice _ _ _) (slice_oneCell _ _ _) (by decide) (by unfold maxLen; omega) (by omega) (by simp; omega) _ rfl ?_; intro g gcap w5 hown5 hgrow5 hat5 hlt5; have hb5 := (HST4.out.alloc _).c.grown hgrow5 HNE.out; have z1 := hb5.c1; have z2 := hb5.f 1; have z3 := hb5.lt; have HO5 : Hid (w5.ownsRow _ _ _ _ _ _) := hown5; have HG5 : Hid (World.grownBy _ w5 _) := hgrow5; clear hown5 hgrow5 hat5 hb5)
          have HSTN := (HST4.out.alloc _).push hRlt HVB.out (World.ownsRow.alloc HV1.out _) (fun i hi => by obtain ⟨rv, h1, h2⟩ := HV2.out i hi; exact ⟨rv, h1, h2.below (belOne _ _)⟩) (HOX.out.below (belOne _ _)) (by omega) HG5.out HO5.out
          have HSTM : Hid (St w _ R v bs _ _ _ _) := HSTN
          clear HSTN
          go_wp2
          go_roundw
          case rel => exact ⟨k', .slice (some ⟨g, 0, none⟩) (css.length + 1) gcap, css ++ [xs], p4, by go_num, by simp; omega, by omega, HSTM.out⟩
          case measure => simp [intOf]
        · have hxd : decide ((0 : Int) < (xs.length : Int)) = false := decide_eq_false (by omega)
          go_wp2_with fail
          refine (pick_any R v bs p4 _ _ HST4.out.rd (by omega) (by omega)).mono ?_
          rintro e w6 ⟨z, rfl, hz30, hz31, hz32, hrd6, hg6, hs6⟩
          have HST6 : Hid (St w w6 R v bs (p4 + 1) (1 + x) (.slice ao css.length cap) css) := HST4.out.pick hRlt hrd6 hg6
          have HOX6 : Hid (Owns w6 (w.heap.size + 2) (.slice aoX xs.length capX) xs) := HOX.out.kept hg6 (fun k e => by have := Option.some.inj e; omega)
          clear hrd6 hg6 hs6 hz31 hz32
          cases hzb : (z == 0)
          · go_wp2
            go_roundw
            case rel => exact ⟨k', _, css, p4 + 1, by go_num, by omega, by omega, HST6.out⟩
            case measure => simp [intOf]
          · obtain ⟨vs, hv1, hv2⟩ := HST6.out.grid
            have HV1 : Hid (w6.ownsRow (w.heap.size + 2) 31 1 (.slice ao css.length cap) css.length vs) := hv1
            have HV2 : Hid (∀ i, i < css.length → ∃ rv, vs[i]? = some rv ∧ Owns w6 (w.heap.size + 2) rv (css.getD i [])) := hv2
            have HNE : Hid (some (w.heap.size + 1) ≠ (Value.slice ao css.length cap).ownBlock) := fun e => by have := World.ownsRow.lt hv1 _ e.symm; omega
            clear hv1 hv2
            have j0 := HST6.out.c.c0
            have j1 := HST6.out.c.c1
            have j2 := HST6.out.c.lt
            have j3 := HST6.out.size
            go_wp2_with (at_builtin; refine wpList_append_lies _ rfl _ _ 23 rfl (w.heap.size + 2) 31 i0 (.slice none 0 0) 1 24 Try.underlying23 hi hz0 hz1 hz2 rfl (by decide) _ css.length vs rfl (World.ownsRow.alloc HV1.out _) ⟨w6.heap.size, 0, none⟩ 1 1 [.slice aoX xs.length capX] rfl rfl (news_slice _ _ _) (slice_oneCell _ _ _) (by decide) (by unfold maxLen; omega) (by omega) (by simp; omega) _ rfl ?_; intro g gcap w5 hown5 hgrow5 hat5 hlt5; have hb5 := (HST6.out.alloc _).c.grown hgrow5 HNE.out; have z1 := hb5.c1; have z2 := hb5.f 1; have z3 := hb5.lt; have HO5 : Hid (w5.ownsRow _ _ _ _ _ _) := hown5; have HG5 : Hid (World.grownBy _ w5 _) := hgrow5; clear hown5 hgrow5 hat5 hb5)
            have HSTN := (HST6.out.alloc _).push hRlt HVB.out (World.ownsRow.alloc HV1.out _) (fun i hi => by obtain ⟨rv, h1, h2⟩ := HV2.out i hi; exact ⟨rv, h1, h2.below (belOne _ _)⟩) (HOX6.out.below (belOne _ _)) (by omega) HG5.out HO5.out
            have HSTM : Hid (St w _ R v bs _ _ _ _) := HSTN
            clear HSTN
            go_wp2
            go_roundw
            case rel => exact ⟨k', .slice (some ⟨g, 0, none⟩) (css.length + 1) gcap, css ++ [xs], p4 + 1, by go_num, by simp; omega, by omega, HSTM.out⟩
            case measure => simp [intOf]
      · go_wp2_with fail
        refine (pick_any R v bs p' _ _ HST.out.rd (by omega) (by omega)).mono ?_
        rintro e w7 ⟨z, rfl, hz30, hz31, hz32, hrd7, hg7, hs7⟩
        have HST7 : Hid (St w w7 R v bs (p' + 1) (1 + x) (.slice ao css.length cap) css) := HST.out.pick hRlt hrd7 hg7
        clear hrd7 hg7 hs7 hz31 hz32 j0 j1 j2 j3
        by_cases hz0' : z = 0
        · subst hz0'
          go_wp2_with fail
          refine (pick_any R v bs (p' + 1) _ _ HST7.out.rd (by omega) (by omega)).mono ?_
          rintro e w8 ⟨q, rfl, hq0, hq1, hq2, hrd8, hg8, hs8⟩
          have hq3 : q < 2 := hq1 (by omega)
          have HST8 : Hid (St w w8 R v bs (p' + 2) (1 + x) (.slice ao css.length cap) css) := HST7.out.pick hRlt hrd8 hg8
          have HST9 : Hid (St w (w8.setCell ⟨w.heap.size + 1, 0, none⟩ (.int .i64 (12 + q))) R v bs (p' + 2) (12 + q) (.slice ao css.length cap) css) := HST8.out.revar hRlt HVB.out (12 + q)
          clear hrd8 hg8 hs8 hq1 hq2
          have y0 := HST8.out.c.c0
          have y1 := HST8.out.c.f 0
          have y2 := HST8.out.c.lt
          have m0 := HST9.out.c.c0
          have m1 := HST9.out.c.c1
          have m2 := HST9.out.c.lt
          have m3 := HST9.out.q.c0
          have m4 := HST9.out.q.c1
          have m5 := HST9.out.q.lt
          have m6 := HST9.out.q.f 0
          have m7 := HST9.out.q.f 1
          have HDN := hideD (HST9.out.done hRlt HVB.out (.int .i64 (12 + q)) (.slice ao css.length cap))
          go_wp2
          exact bodyPost_ret (v := .agg #[.int .i64 (12 + q), .slice ao css.length cap]) (by simp [results, Try.results19, go_sem, m3, m4]) rfl ⟨_, ao, cap, css, p' + 2, rfl, HDN.out.1, ⟨by omega, by omega⟩, by omega, HST9.out.thin, by omega, HDN.out.2.1, HDN.out.2.2.1, HDN.out.2.2.2⟩
        · have hb0 : (z == 0) = false := by simpa using hz0'
          by_cases hz1' : z = 1
          · subst hz1'
            have HST9 : Hid (St w (w7.setCell ⟨w.heap.size + 1, 0, none⟩ (.int .i64 60)) R v bs (p' + 1) 60 (.slice ao css.length cap) css) := HST7.out.revar hRlt HVB.out 60
            have y0 := HST7.out.c.c0
            have y1 := HST7.out.c.f 0
            have y2 := HST7.out.c.lt
            have m0 := HST9.out.c.c0
            have m1 := HST9.out.c.c1
            have m2 := HST9.out.c.lt
            have m3 := HST9.out.q.c0
            have m4 := HST9.out.q.c1
            have m5 := HST9.out.q.lt
            have m6 := HST9.out.q.f 0
            have m7 := HST9.out.q.f 1
            have HDN := hideD (HST9.out.done hRlt HVB.out (.int .i64 (60)) (.slice ao css.length cap))
            go_wp2
            exact bodyPost_ret (v := .agg #[.int .i64 (60), .slice ao css.length cap]) (by simp [results, Try.results19, go_sem, m3, m4]) rfl ⟨_, ao, cap, css, p' + 1, rfl, HDN.out.1, ⟨by omega, by omega⟩, by omega, HST9.out.thin, by omega, HDN.out.2.1, HDN.out.2.2.1, HDN.out.2.2.2⟩
          · have hb1 : (z == 1) = false := by simpa using hz1'
            by_cases hz2' : z = 2
            · subst hz2'
              have HCL : Hid (css.length ≤ 28) := by show css.length ≤ 28; omega
              have HPB : Hid (p' + 1 ≤ p + 1000) := by show p' + 1 ≤ p + 1000; omega
              clear HST hck hpk
              go_wp2_with fail
              go_loopg [] (150 - css.length) (fun q wr => ∃ (ao : Option Addr) (cap : Nat) (css : List (List Int)), q + css.length = 150 ∧ St w wr R v bs (p' + 1) (1 + x) (.slice ao css.length cap) css)
              case atStart => exact ⟨ao, cap, css, by have := HCL.out; omega, HST7.out⟩
              case round =>
                rename World => wg
                obtain ⟨ao, cap, css, hq, hst⟩ := hrel
                have HQ : Hid (gk + css.length = 150) := hq
                have hq2 : css.length ≤ 150 := by omega
                clear hq
                have HST8 : Hid (St w wg R v bs (p' + 1) (1 + x) (.slice ao css.length cap) css) := hst
                clear hst
                have j0 := HST8.out.c.c0
                have j1 := HST8.out.c.c1
                have j2 := HST8.out.c.lt
                have j3 := HST8.out.size
                have hp9 := HPB.out
                by_cases hlt : css.length < 150
                · obtain ⟨vs, hv1, hv2⟩ := HST8.out.grid
                  have HV1 : Hid (wg.ownsRow (w.heap.size + 2) 31 1 (.slice ao css.length cap) css.length vs) := hv1
                  have HV2 : Hid (∀ i, i < css.length → ∃ rv, vs[i]? = some rv ∧ Owns wg (w.heap.size + 2) rv (css.getD i [])) := hv2
                  have HNE : Hid (some (w.heap.size + 1) ≠ (Value.slice ao css.length cap).ownBlock) := fun e => by have := World.ownsRow.lt hv1 _ e.symm; omega
                  have HOX : Hid (Owns (wg.alloc (.cells #[.int .i64 1, .int .i64 (-1)] 3)) (w.heap.size + 2) (.slice (some ⟨wg.heap.size, 0, none⟩) 2 2) [1, -1]) := ⟨by simp, .inr ⟨wg.heap.size, 2, #[.int .i64 1, .int .i64 (-1)], rfl, by omega, blk_alloc_new _ _, by simp, by simp [maxLen], by simp, by simp⟩⟩
                  have HSA : Hid (St w (wg.alloc (.cells #[.int .i64 1, .int .i64 (-1)] 3)) R v bs (p' + 1) (1 + x) (.slice ao css.length cap) css) := HST8.out.alloc _
                  clear hv1 hv2
                  go_wp2_with (at_builtin; refine wpList_append_lies _ rfl _ _ 23 rfl (w.heap.size + 2) 31 i0 (.slice none 0 0) 1 24 Try.underlying23 hi hz0 hz1 hz2 rfl (by decide) _ css.length vs rfl (World.ownsRow.alloc (World.ownsRow.alloc HV1.out _) _) ⟨wg.heap.size + 1, 0, none⟩ 1 1 [.slice (some ⟨wg.heap.size, 0, none⟩) 2 2] rfl rfl (news_second _ _ _ _) (slice_oneCell _ _ _) (by decide) (by unfold maxLen; omega) (by omega) (by simp; omega) _ rfl ?_; intro g gcap w5 hown5 hgrow5 hat5 hlt5; have hb5 := (HSA.out.alloc _).c.grown hgrow5 HNE.out; have z1 := hb5.c1; have z2 := hb5.f 1; have z3 := hb5.lt; have HO5 : Hid (w5.ownsRow _ _ _ _ _ _) := hown5; have HG5 : Hid (World.grownBy _ w5 _) := hgrow5; clear hown5 hgrow5 hat5 hb5)
                  have HSTN := (HSA.out.alloc _).push hRlt HVB.out (World.ownsRow.alloc (World.ownsRow.alloc HV1.out _) _) (fun i hi => by obtain ⟨rv, h1, h2⟩ := HV2.out i hi; exact ⟨rv, h1, (h2.below (belOne _ _)).below (belOne _ _)⟩) (HOX.out.below (belOne _ _)) (by simp) HG5.out HO5.out
                  have HSTM : Hid (St w _ R v bs _ _ _ _) := HSTN
                  clear HSTN
                  go_wp2
                  go_roundg (gk - 1)
                  case measure => have := HQ.out; omega
                  case rel => exact ⟨some ⟨g, 0, none⟩, gcap, css ++ [[1, -1]], by have := HQ.out; simp; omega, by rw [List.length_append]; exact HSTM.out⟩
                · clear j0 j1 j2 j3
                  have n0 := HST8.out.c.c1
                  have m0 := HST8.out.c.c0
                  have m1 := HST8.out.c.c1
                  have m2 := HST8.out.c.lt
                  have m3 := HST8.out.q.c0
                  have m4 := HST8.out.q.c1
                  have m5 := HST8.out.q.lt
                  have m6 := HST8.out.q.f 0
                  have m7 := HST8.out.q.f 1
                  have HDN := hideD (HST8.out.done hRlt HVB.out (.int .i64 (1 + x)) (.slice ao css.length cap))
                  go_wp2
                  exact bodyPost_ret (v := .agg #[.int .i64 (1 + x), .slice ao css.length cap]) (by simp [results, Try.results19, go_sem, m3, m4]) rfl ⟨_, ao, cap, css, p' + 1, rfl, HDN.out.1, ⟨by omega, by omega⟩, by omega, HST8.out.thin, by omega, HDN.out.2.1, HDN.out.2.2.1, HDN.out.2.2.2⟩
            · have hb2 : (z == 2) = false := by simpa using hz2'
              have m0 := HST7.out.c.c0
              have m1 := HST7.out.c.c1
              have m2 := HST7.out.c.lt
              have m3 := HST7.out.q.c0
              have m4 := HST7.out.q.c1
              have m5 := HST7.out.q.lt
              have m6 := HST7.out.q.f 0
              have m7 := HST7.out.q.f 1
              have HDN := hideD (HST7.out.done hRlt HVB.out (.int .i64 (1 + x)) (.slice ao css.length cap))
              go_wp2
              exact bodyPost_ret (v := .agg #[.int .i64 (1 + x), .slice ao css.length cap]) (by simp [results, Try.results19, go_sem, m3, m4]) rfl ⟨_, ao, cap, css, p' + 1, rfl, HDN.out.1, ⟨by omega, by omega⟩, by omega, HST7.out.thin, by omega, HDN.out.2.1, HDN.out.2.2.1, HDN.out.2.2.2⟩

end Go.Proofs.Ytepamfkbeccmaaa

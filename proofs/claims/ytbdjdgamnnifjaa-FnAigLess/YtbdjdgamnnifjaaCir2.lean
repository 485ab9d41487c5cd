/-
  A drawn circuit: the walk of l13Aig.
-/
import Derived.Test.YtbdjdgamnnifjaaCir1
import Derived.Test.YtbdjdgamnnifjaaAigF
import Derived.Deep.AppendLies
import Derived.Deep.RegionHeld3
import Derived.Deep.RegionWith
import Derived.Deep.RegionLaw
import Derived.Deep.RegionHeldLaw
namespace Go.Proofs.Ytbdjdgamnnifjaa
open Go.RowKit Go.Deep
set_option linter.unusedVariables false

theorem undrewG {w w' : World} {r : Option Nat} (h : w.drew.grownBy w' r) : w.grownBy w' r := ⟨h.os, h.tape, h.output, h.size, h.block⟩

theorem StC.ne {w wr : World} {R : Nat} {v : Value} {bs : List Int} {p : Nat} {inp : Int} {vl va vb : Value} {ls : List (Int × Bool)} {xs : List (Int × Int)} {cs : List Int} (h : StC w wr R v bs p inp vl va vb ls xs cs) :
    some (w.heap.size + 1) ≠ vl.ownBlock ∧ some (w.heap.size + 1) ≠ va.ownBlock ∧ some (w.heap.size + 1) ≠ vb.ownBlock :=
  ⟨fun e => by have := World.ownsRow.lt h.ol _ e.symm; omega, fun e => by have := World.ownsRow.lt h.oa _ e.symm; omega, fun e => by have := World.ownsRow.lt h.ob _ e.symm; omega⟩

theorem StC.drew {w wr : World} {R : Nat} {v : Value} {bs : List Int} {p : Nat} {inp : Int} {vl va vb : Value} {ls : List (Int × Bool)} {xs : List (Int × Int)} {cs : List Int} (h : StC w wr R v bs p inp vl va vb ls xs cs) : StC w wr.drew R v bs p inp vl va vb ls xs cs :=
  ⟨h.q, h.c, h.ol, h.oa, h.ob, ⟨h.rd.lt, h.rd.c0, h.rd.c1, h.rd.f1, h.rd.small, h.rd.form, h.rd.byte⟩, h.old, h.size, h.sl, h.sa, h.sb⟩

set_option maxRecDepth 100000 in
set_option maxHeartbeats 8000000 in
theorem l13Aig_any (R : Nat) (v : Value) (bs : List Int) (p : Nat) (w : World) (hr : Rd w R v bs p) (hvb : ∀ ao n cap b off, v = .slice ao n cap → ao = some ⟨b, off, none⟩ → b < w.heap.size) (hp : p ≤ 400000) :
    Calls Try.prog 112 #[.pointer (some ⟨R, 0, none⟩)] w (CirPost 0 3 3 40 2 200 R v bs p w) := by
  have hRlt := hr.lt
  have HVB : Hid (∀ ao n cap b off, v = .slice ao n cap → ao = some ⟨b, off, none⟩ → b < w.heap.size) := hvb
  have HR0 : Hid (Rd (w.alloc (.cells #[.int .i64 0, .slice none 0 0, .slice none 0 0, .slice none 0 0] 33)) R v bs p) := hr.grown (World.grownBy_alloc w _ none) (by simp) (by simp)
  obtain ⟨il, hil, hzl0, hzl1, hzl2⟩ := info_parts info_latch
  obtain ⟨ia, hia, hza0, hza1, hza2⟩ := info_parts info_and
  obtain ⟨ib, hib, hzb0, hzb1, hzb2⟩ := info_parts info_int
  clear hr hvb
  go_enter Try.func112, Try.ntmps112
  go_wp2_with fail
  refine (pick_any R v bs p _ _ HR0.out (by omega) (by omega)).mono ?_
  rintro e w1 ⟨x, rfl, hx0, hx1, hx2, hrd1, hg1, hs1⟩
  have hx3 : x < 4 := hx1 (by omega)
  have hs1' : w1.heap.size = w.heap.size + 1 := by simpa using hs1
  have HST0 : Hid (StC w (w1.alloc (.cells #[.int .i64 x, .slice none 0 0, .slice none 0 0, .slice none 0 0] 33)) R v bs (p + 1) x (.slice none 0 0) (.slice none 0 0) (.slice none 0 0) [] [] []) := by
    have hc := Blk4.new w1 (.int .i64 x) (.slice none 0 0) (.slice none 0 0) (.slice none 0 0)
    rw [hs1'] at hc
    exact ⟨((Blk4.new w (.int .i64 0) (.slice none 0 0) (.slice none 0 0) (.slice none 0 0)).of_block (hg1.block _ (by simp) (fun e => by have := Option.some.inj e; omega))).of_block ((belOne _ _).block _ (by omega)), hc, World.ownsRow_nil _ _ _ _, World.ownsRow_nil _ _ _ _, World.ownsRow_nil _ _ _ _, hrd1.grown (World.grownBy_alloc w1 _ none) (by simp) (by simp),
      (((Old.refl R w.heap.size w).below (belOne _ _) (Nat.le_refl _)).grown hg1 (by simp) (fun q e => .inr (Option.some.inj e).symm)).below (belOne _ _) (by omega), by simp; omega, fun i hi => by simp at hi, fun i hi => by simp at hi, fun i hi => by simp at hi⟩
  have hsz1 : w1.heap.size = w.heap.size + 1 := hs1'
  clear hrd1 hg1 hs1 hx1 hx2 hs1'
  go_wp2_with fail
  refine (pick_any R v bs (p + 1) _ _ HST0.out.rd (by omega) (by omega)).mono ?_
  rintro e w2 ⟨n, rfl, hn0, hn1, hn2, hrd2, hg2, hs2⟩
  have HST2 : Hid (StC w w2 R v bs (p + 2) x (.slice none 0 0) (.slice none 0 0) (.slice none 0 0) [] [] []) := HST0.out.pick hRlt hrd2 hg2
  have hn3 : n < 4 := hn1 (by omega)
  clear hrd2 hg2 hs2 hn1 hn2
  clear hsz1
  go_wp2_with fail
  go_loopw [4] (fun m wr => ∃ (k : Nat) (ao : Option Addr) (cap : Nat) (ls : List (Int × Bool)) (p' : Nat), m = .int .i64 k ∧ ls.length + k ≤ 3 ∧ p' + k ≤ p + 5 ∧ StC w wr R v bs p' x (.slice ao ls.length cap) (.slice none 0 0) (.slice none 0 0) ls [] []) (fun m _ => (intOf m).toNat)
  case atStart => exact ⟨n.toNat, _, _, [], p + 2, by rw [Int.toNat_of_nonneg hn0], by simp; omega, by omega, HST2.out⟩
  case round =>
    obtain ⟨k, ao, cap, ls, p', rfl, hlk, hpk, hst⟩ := hrel
    have HST : Hid (StC w wr R v bs p' x (.slice ao ls.length cap) (.slice none 0 0) (.slice none 0 0) ls [] []) := hst
    have j0 := hst.c.c0
    have j1 := hst.c.c1
    have j2 := hst.c.lt
    have j3 := hst.size
    clear hst
    by_cases hk : 0 < k
    · obtain ⟨k', rfl⟩ : ∃ k', k = k' + 1 := ⟨k - 1, by omega⟩
      go_wp2_with fail
      go_region_law (first
          | (refine step_append_lies _ rfl (.tmp 20) (.tmp 25) 30 rfl (w.heap.size + 2) 86 il (.agg #[.int .i64 0, .bool false]) 2 16 Try.underlying30 hil hzl0 hzl1 hzl2 rfl (by decide) _ ls.length (latV ls) rfl (World.ownsRow.alloc HST3.out.ol _) ⟨w3.heap.size, 0, none⟩ 1 1 [.int .i64 0, .bool (z == 0)] rfl rfl (news2 _ _ _ _) (lat_oneCell _ _) (by decide) (by unfold maxLen; omega) (by omega) (by first | omega | (simp; omega)) _ rfl ?_; intro g gcap w5 hown5 hgrow5 hat5 hlt5; have hb5 := (HST3.out.below (belOne _ _)).c.of_block (hgrow5.block _ (by simp; omega) HNE.out); have y0 := hb5.c0; have y1 := hb5.c1; have y2 := hb5.f 1; have y3 := hb5.lt; have HO5 : Hid (w5.ownsRow _ _ _ _ _ _) := hown5; have HG5 : Hid (World.grownBy _ w5 _) := hgrow5; clear hown5 hgrow5 hat5 hb5)
          | (go_simp; go_at_call 113; refine (pick_any R v bs p' _ _ HST.out.drew.rd (by omega) (by omega)).mono ?_; rintro e w3 ⟨z, rfl, hz0, hz1, hz2, hrd3, hg3, hs3⟩; have HST3 : Hid (StC w w3 R v bs (p' + 1) x (.slice ao ls.length cap) (.slice none 0 0) (.slice none 0 0) ls [] []) := HST.out.drew.pick hRlt hrd3 hg3; have HNE : Hid (some (w.heap.size + 1) ≠ (Value.slice ao ls.length cap).ownBlock) := HST3.out.ne.1; have q0 := HST3.out.c.c0; have q1 := HST3.out.c.c1; have q2 := HST3.out.c.lt; have q4 := HST3.out.size; clear hrd3 hg3 hs3 hz1 hz2))
      all_goals
        have HSTN := (HST3.out.below (belOne _ _)).pushL hRlt HVB.out (x := 0) (y := (z == 0)) (by unfold Sm; omega) HG5.out HO5.out
        have HSTM : Hid (StC w _ R v bs _ _ _ _ _ _ _ _) := HSTN
        clear HSTN
        go_wp2
        go_roundw
        case rel => exact ⟨k', some ⟨g, 0, none⟩, gcap, ls ++ [(0, (z == 0))], p' + 1, by go_num, by simp; omega, by omega, by rw [List.length_append]; exact HSTM.out⟩
        case measure => simp [intOf]
    · obtain rfl : k = 0 := by omega
      clear j0 j1 j2 j3
      go_wp2_with fail
      refine (pick_any R v bs p' _ _ HST.out.rd (by omega) (by omega)).mono ?_
      rintro e w3 ⟨m, rfl, hm0, hm1, hm2, hrd3, hg3, hs3⟩
      have HST3 : Hid (StC w w3 R v bs (p' + 1) x (.slice ao ls.length cap) (.slice none 0 0) (.slice none 0 0) ls [] []) := HST.out.pick hRlt hrd3 hg3
      have hm3 : m < 9 := hm1 (by omega)
      clear hrd3 hg3 hs3 hm1 hm2
      go_wp2_with fail
      refine (pick_any R v bs (p' + 1) _ _ HST3.out.rd (by omega) (by omega)).mono ?_
      rintro e w4 ⟨t, rfl, ht0, ht1, ht2, hrd4, hg4, hs4⟩
      have HST4 : Hid (StC w w4 R v bs (p' + 2) x (.slice ao ls.length cap) (.slice none 0 0) (.slice none 0 0) ls [] []) := HST3.out.pick hRlt hrd4 hg4
      clear hrd4 hg4 hs4 ht1 ht2
      obtain ⟨lim, hlim⟩ : ∃ lim : Int, lim = (if (t == 0) = true then 40 else m) := ⟨_, rfl⟩
      have hlim0 : (0 : Int) ≤ lim := by rw [hlim]; split <;> omega
      have hlim1 : (lim : Int) ≤ 40 := by rw [hlim]; split <;> omega
      cases htb : (t == 0)
      all_goals
        rw [htb] at hlim
        first | rw [if_pos rfl] at hlim | rw [if_neg (by decide)] at hlim
        have HLM := hideD hlim
        clear hlim
        go_wp2_with fail
        go_loopw [6] (fun i wr => ∃ (k : Nat) (aa : Option Addr) (ca : Nat) (xs : List (Int × Int)) (pa : Nat), i = .int .i64 k ∧ xs.length = k ∧ (k : Int) ≤ lim ∧ pa ≤ p + 7 + 2 * k ∧ StC w wr R v bs pa x (.slice ao ls.length cap) (.slice aa xs.length ca) (.slice none 0 0) ls xs []) (fun i _ => 40 - (intOf i).toNat)
        case atStart => exact ⟨0, none, 0, [], p' + 2, rfl, rfl, by omega, by omega, HST4.out⟩
        case round =>
          obtain ⟨k, aa, ca, xs, pa, rfl, hxk, hkl, hpa, hst⟩ := hrel
          have HXK : Hid (xs.length = k) := hxk
          have HSA : Hid (StC w wr R v bs pa x (.slice ao ls.length cap) (.slice aa xs.length ca) (.slice none 0 0) ls xs []) := hst
          by_cases hlt0 : (k : Int) < lim
          · have hlt := hlt0
            rw [HLM.out] at hlt
            have j0 := hst.c.c0
            have j1 := hst.c.c1
            have j2 := hst.c.c2
            have j3 := hst.c.c3
            have j4 := hst.c.lt
            clear hst hxk
            go_wp2_with fail
            refine (l3First_any _ _ _ _ _ _ _ _ _ _ _ (by omega) (by omega) (by omega)).mono ?_
            rintro e w5 ⟨rfl, hb5⟩
            have HS5 : Hid (StC w w5 R v bs pa x (.slice ao ls.length cap) (.slice aa xs.length ca) (.slice none 0 0) ls xs []) := HSA.out.below hb5
            clear hb5 j0 j1 j2 j3 j4
            have hxl : xs.length ≤ 40 := by rw [HXK.out]; omega
            have j2 := HS5.out.c.c2
            have j4 := HS5.out.c.lt
            go_wp2_with fail
            go_region_law (first
              | (refine step_append_lies _ rfl (.tmp 44) (.tmp 52) 31 rfl (w.heap.size + 2) 65 ia (.agg #[.int .i64 0, .int .i64 0]) 2 16 Try.underlying31 hia hza0 hza1 hza2 rfl (by decide) _ xs.length (andV xs) rfl (World.ownsRow.alloc HS7.out.oa _) ⟨w7.heap.size, 0, none⟩ 1 1 [.int .i64 z1, .int .i64 z2] rfl rfl (news2 _ _ _ _) (and_oneCell _ _) (by decide) (by unfold maxLen; omega) (by omega) (by first | omega | (simp; omega)) _ rfl ?_; intro g gcap w8 hown8 hgrow8 hat8 hlt8; have hb8 := (HS7.out.below (belOne _ _)).c.of_block (hgrow8.block _ (by simp; omega) HNE.out); have y0 := hb8.c0; have y1 := hb8.c2; have y2 := hb8.f 2; have y3 := hb8.lt; have HO8 : Hid (w8.ownsRow _ _ _ _ _ _) := hown8; have HG8 : Hid (World.grownBy _ w8 _) := hgrow8; clear hown8 hgrow8 hat8 hb8)
              | (go_simp; go_at_call 113; refine (pick_any R v bs pa _ _ HS5.out.drew.rd (by omega) (by omega)).mono ?_; rintro e w6 ⟨z1, rfl, hz10, hz11, hz12, hrd6, hg6, hs6⟩; have HS6 : Hid (StC w w6 R v bs (pa + 1) x (.slice ao ls.length cap) (.slice aa xs.length ca) (.slice none 0 0) ls xs []) := HS5.out.drew.pick hRlt hrd6 hg6; have hz13 : z1 ≤ 1000 := (by have := hz11 (by omega); omega); have q0 := HS6.out.c.c0; have q1 := HS6.out.c.c2; have q2 := HS6.out.c.lt; have q4 := HS6.out.size; clear hrd6 hg6 hs6 hz11 hz12)
              | (go_simp; go_at_call 113; refine (pick_any R v bs (pa + 1) _ _ HS6.out.rd (by omega) (by omega)).mono ?_; rintro e w7 ⟨z2, rfl, hz20, hz21, hz22, hrd7, hg7, hs7⟩; have HS7 : Hid (StC w w7 R v bs (pa + 2) x (.slice ao ls.length cap) (.slice aa xs.length ca) (.slice none 0 0) ls xs []) := HS6.out.pick hRlt hrd7 hg7; have HNE : Hid (some (w.heap.size + 1) ≠ (Value.slice aa xs.length ca).ownBlock) := HS7.out.ne.2.1; have hz23 : z2 ≤ 1000 := (by have := hz21 (by omega); omega); have q5 := HS7.out.c.c2; have q6 := HS7.out.c.lt; have q7 := HS7.out.size; clear hrd7 hg7 hs7 hz21 hz22))
            all_goals
              have HSTN := (HS7.out.below (belOne _ _)).pushA hRlt HVB.out (x := z1) (y := z2) (by unfold Sm; omega) (by unfold Sm; omega) HG8.out HO8.out
              have HSTM : Hid (StC w _ R v bs _ _ _ _ _ _ _ _) := HSTN
              clear HSTN
              go_wp2
              go_roundw
              case rel => exact ⟨k + 1, some ⟨g, 0, none⟩, gcap, xs ++ [(z1, z2)], pa + 2, by go_num, by rw [List.length_append, HXK.out]; rfl, by omega, by omega, by rw [List.length_append]; exact HSTM.out⟩
              case measure => simp [intOf]; omega
          · have hlt := hlt0
            rw [HLM.out] at hlt
            clear hst
            have hxl : xs.length ≤ 40 := by rw [HXK.out]; omega
            have hpa2 : pa ≤ p + 87 := by omega
            clear hpa hkl hxk
            go_wp2_with fail
            go_loopw [8] (fun i wr => ∃ (q : Nat) (ls' : List (Int × Bool)) (pb : Nat), i = .int .i64 q ∧ Hid (ls'.length = ls.length) ∧ q ≤ ls'.length ∧ pb ≤ p + 87 + q ∧ StC w wr R v bs pb x (.slice ao ls'.length cap) (.slice aa xs.length ca) (.slice none 0 0) ls' xs []) (fun i _ => 3 - (intOf i).toNat)
            case atStart => exact ⟨0, ls, pa, rfl, rfl, Nat.zero_le _, by omega, HSA.out⟩
            case round =>
              rename World => wb
              obtain ⟨q, ls', pb, rfl, hll, hql, hpb, hst⟩ := hrel
              have hl3 : ls'.length ≤ 3 := by have := hll.out; omega
              have HSB : Hid (StC w wb R v bs pb x (.slice ao ls'.length cap) (.slice aa xs.length ca) (.slice none 0 0) ls' xs []) := hst
              have j0 := hst.c.c0
              have j1 := hst.c.c1
              have j2 := hst.c.c2
              have j3 := hst.c.c3
              have j4 := hst.c.lt
              by_cases hlt2 : q < ls'.length
              · obtain ⟨g, hao, hgl⟩ : ∃ g, ao = some ⟨g, 0, none⟩ ∧ g < wb.heap.size := by
                  obtain ⟨g, c', h1, h2, h3⟩ := World.ownsRow.form hst.ol (by omega)
                  injection h1 with e1 e2 e3
                  exact ⟨g, e1, h3⟩
                subst hao
                clear hst
                have HWR : Hid (IntKind.i64.wrap (IntKind.i64.wrap (2 * (x + (ls'.length : Int) + (xs.length : Int))) + 2) = 2 * (x + (ls'.length : Int) + (xs.length : Int)) + 2) := (by show _ = _; simp only [IntKind.wrap_i64]; omega)
                go_wp2_with fail
                go_region_law (first
                  | (go_simp; go_at_call 68; refine (l3Nodes_any _ _ _ _ _ _ _ _ _ _ _ (by omega) (by omega) (by omega) (by omega)).mono ?_; rintro e w6 ⟨rfl, hb6⟩; have HS6 : Hid (StC w w6 R v bs pb x (.slice (some ⟨g, 0, none⟩) ls'.length cap) (.slice aa xs.length ca) (.slice none 0 0) ls' xs []) := HSB.out.drew.below hb6; have q0 := HS6.out.c.c0; have q1 := HS6.out.c.c1; have q2 := HS6.out.c.c2; have q3 := HS6.out.c.c3; have q4 := HS6.out.c.lt; clear hb6)
                  | (go_simp; go_at_call 113; refine (pick_any R v bs pb _ _ HS6.out.rd (by omega) (by rw [HWR.out]; omega)).mono ?_; rintro e w7 ⟨z, rfl, hz0, hz1, hz2, hrd7, hg7, hs7⟩; rw [HWR.out] at hz1; have HS7 : Hid (StC w w7 R v bs (pb + 1) x (.slice (some ⟨g, 0, none⟩) ls'.length cap) (.slice aa xs.length ca) (.slice none 0 0) ls' xs []) := HS6.out.pick hRlt hrd7 hg7; have hz3 : z ≤ 1000 := (by have := hz1 (by omega); omega); have q5 := HS7.out.c.c1; have q6 := HS7.out.c.lt; have q7 : w7.cell? ⟨g, q * 2, none⟩ = some (.int .i64 (ls'.getD q (0, false)).1) := ((World.ownsRow.cellAt HS7.out.ol (q * 2) (by omega)).trans (flat2_get0 (fun p : Int × Bool => Value.int .i64 p.1) (fun p => Value.bool p.2) ls' (0, false) q hlt2)); have q8 : w7.frozen? ⟨g, q * 2, none⟩ = false := World.ownsRow.frozenAt HS7.out.ol (q * 2); clear hrd7 hg7 hs7 hz1 hz2))
                all_goals
                  have HSTN := HS7.out.setL hRlt HVB.out rfl hlt2 (x := z) (by unfold Sm; omega)
                  have HSTM : Hid (StC w _ R v bs _ _ _ _ _ _ _ _) := HSTN
                  clear HSTN
                  go_wp2
                  go_roundw
                  case rel => exact ⟨q + 1, ls'.set q (z, (ls'.getD q (0, false)).2), pb + 1, by go_num, by show (ls'.set q _).length = _; rw [List.length_set]; exact hll.out, by rw [List.length_set]; omega, by omega, by rw [List.length_set]; exact HSTM.out⟩
                  case measure => simp [intOf]; omega
              · clear hst
                go_wp2_with fail
                refine (pick_any R v bs pb _ _ HSB.out.rd (by omega) (by omega)).mono ?_
                rintro e w6 ⟨n4, rfl, hn40, hn41, hn42, hrd6, hg6, hs6⟩
                have HS6 : Hid (StC w w6 R v bs (pb + 1) x (.slice ao ls'.length cap) (.slice aa xs.length ca) (.slice none 0 0) ls' xs []) := HSB.out.pick hRlt hrd6 hg6
                have hn43 : n4 < 3 := hn41 (by omega)
                clear hrd6 hg6 hs6 hn41 hn42 j0 j1 j2 j3 j4
                go_wp2_with fail
                go_loopw [9] (fun i wr => ∃ (k4 : Nat) (ab : Option Addr) (cb : Nat) (cs : List Int) (pc : Nat), i = .int .i64 k4 ∧ cs.length + k4 ≤ 2 ∧ pc + k4 ≤ p + 95 ∧ StC w wr R v bs pc x (.slice ao ls'.length cap) (.slice aa xs.length ca) (.slice ab cs.length cb) ls' xs cs) (fun i _ => (intOf i).toNat)
                case atStart => exact ⟨n4.toNat, none, 0, [], pb + 1, by rw [Int.toNat_of_nonneg hn40], by simp; omega, by omega, HS6.out⟩
                case round =>
                  rename World => wc
                  obtain ⟨k4, ab, cb, cs, pc, rfl, hck, hpc, hst⟩ := hrel
                  have HSC : Hid (StC w wc R v bs pc x (.slice ao ls'.length cap) (.slice aa xs.length ca) (.slice ab cs.length cb) ls' xs cs) := hst
                  have j0 := hst.c.c0
                  have j1 := hst.c.c1
                  have j2 := hst.c.c2
                  have j3 := hst.c.c3
                  have j4 := hst.c.lt
                  by_cases hk4 : 0 < k4
                  · obtain ⟨k5, rfl⟩ : ∃ k5, k4 = k5 + 1 := ⟨k4 - 1, by omega⟩
                    clear hst
                    have HWR : Hid (IntKind.i64.wrap (IntKind.i64.wrap (2 * (x + (ls'.length : Int) + (xs.length : Int))) + 2) = 2 * (x + (ls'.length : Int) + (xs.length : Int)) + 2) := (by show _ = _; simp only [IntKind.wrap_i64]; omega)
                    go_wp2_with fail
                    go_region_law (first
                      | (refine step_append_lies _ rfl (.tmp 80) (.tmp 87) 24 rfl (w.heap.size + 2) 3 ib (.int .i64 0) 1 8 Try.underlying24 hib hzb0 hzb1 hzb2 rfl (by decide) _ cs.length (intV cs) rfl (World.ownsRow.alloc HS8.out.ob _) ⟨w8.heap.size, 0, none⟩ 1 1 [.int .i64 z] rfl rfl (news1 _ _ _) (ints_oneCell .i64 [z]) (by decide) (by unfold maxLen; omega) (by omega) (by first | omega | (simp; omega)) _ rfl ?_; intro g gcap w9 hown9 hgrow9 hat9 hlt9; have hb9 := (HS8.out.below (belOne _ _)).c.of_block (hgrow9.block _ (by simp; omega) HNE.out); have y0 := hb9.c0; have y1 := hb9.c3; have y2 := hb9.f 3; have y3 := hb9.lt; have HO9 : Hid (w9.ownsRow _ _ _ _ _ _) := hown9; have HG9 : Hid (World.grownBy _ w9 _) := hgrow9; clear hown9 hgrow9 hat9 hb9)
                      | (go_simp; go_at_call 68; refine (l3Nodes_any _ _ _ _ _ _ _ _ _ _ _ (by omega) (by omega) (by omega) (by omega)).mono ?_; rintro e w7 ⟨rfl, hb7⟩; have HS7 : Hid (StC w w7 R v bs pc x (.slice ao ls'.length cap) (.slice aa xs.length ca) (.slice ab cs.length cb) ls' xs cs) := HSC.out.drew.below hb7; have q0 := HS7.out.c.c0; have q1 := HS7.out.c.c1; have q2 := HS7.out.c.c2; have q3 := HS7.out.c.c3; have q4 := HS7.out.c.lt; clear hb7)
                      | (go_simp; go_at_call 113; refine (pick_any R v bs pc _ _ HS7.out.rd (by omega) (by rw [HWR.out]; omega)).mono ?_; rintro e w8 ⟨z, rfl, hz0, hz1, hz2, hrd8, hg8, hs8⟩; rw [HWR.out] at hz1; have HS8 : Hid (StC w w8 R v bs (pc + 1) x (.slice ao ls'.length cap) (.slice aa xs.length ca) (.slice ab cs.length cb) ls' xs cs) := HS7.out.pick hRlt hrd8 hg8; have HNE : Hid (some (w.heap.size + 1) ≠ (Value.slice ab cs.length cb).ownBlock) := HS8.out.ne.2.2; have hz3 : z ≤ 1000 := (by have := hz1 (by omega); omega); have q5 := HS8.out.c.c3; have q6 := HS8.out.c.lt; have q7 := HS8.out.size; clear hrd8 hg8 hs8 hz1 hz2))
                    all_goals
                      have HSTN := (HS8.out.below (belOne _ _)).pushB hRlt HVB.out (x := z) (by unfold Sm; omega) HG9.out HO9.out
                      have HSTM : Hid (StC w _ R v bs _ _ _ _ _ _ _ _) := HSTN
                      clear HSTN
                      go_wp2
                      go_roundw
                      case rel => exact ⟨k5, some ⟨g, 0, none⟩, gcap, cs ++ [z], pc + 1, by go_num, by simp; omega, by omega, by rw [List.length_append]; exact HSTM.out⟩
                      case measure => simp [intOf]
                  · obtain rfl : k4 = 0 := by omega
                    have m3 := hst.q.c0
                    have m4 := hst.q.c1
                    have m5 := hst.q.c2
                    have m6 := hst.q.c3
                    have m7 := hst.q.lt
                    have m8 := hst.q.f 0
                    have m9 := hst.q.f 1
                    have m10 := hst.q.f 2
                    have m11 := hst.q.f 3
                    have hqq := (((hst.q.set0 (.int .i64 x)).set1 (.slice ao ls'.length cap)).set2 (.slice aa xs.length ca)).set3 (.slice ab cs.length cb)
                    have u0 := hqq.c0
                    have u1 := hqq.c1
                    have u2 := hqq.c2
                    have u3 := hqq.c3
                    have HDN := hideD ((((hst.got.set hRlt HVB.out (a := ⟨w.heap.size, 0, none⟩) (Nat.le_refl _) (by show w.heap.size < _; omega) (.int .i64 x)).set hRlt HVB.out (a := ⟨w.heap.size, 1, none⟩) (Nat.le_refl _) (by show w.heap.size < _; omega) (.slice ao ls'.length cap)).set hRlt HVB.out (a := ⟨w.heap.size, 2, none⟩) (Nat.le_refl _) (by show w.heap.size < _; omega) (.slice aa xs.length ca)).set hRlt HVB.out (a := ⟨w.heap.size, 3, none⟩) (Nat.le_refl _) (by show w.heap.size < _; omega) (.slice ab cs.length cb))
                    clear hst hqq
                    go_wp2
                    exact bodyPost_ret (v := .agg #[.int .i64 x, .slice ao ls'.length cap, .slice aa xs.length ca, .slice ab cs.length cb]) (by simp [results, Try.results112, go_sem, u0, u1, u2, u3]) rfl ⟨x, ao, aa, ab, cap, ca, cb, ls', xs, cs, pc, rfl, hx0, by omega, by omega, by omega, by omega, by omega, HDN.out⟩

end Go.Proofs.Ytbdjdgamnnifjaa

/-
  A circuit that is drawn on: the walk of l13AnyAig.
-/
import Derived.Test.YtbdjdgamnnifjaaCir3
import Derived.Deep.LoopGhost
namespace Go.Proofs.Ytbdjdgamnnifjaa
open Go.RowKit Go.Deep
set_option linter.unusedVariables false

theorem stD_start {w w1 : World} {R : Nat} {v : Value} {bs : List Int} {p1 : Nat} {x : Int} {vl va vb : Value} {ls : List (Int × Bool)} {xs : List (Int × Int)} {cs : List Int} {o : Obj} (ho : o = .cells #[.int .i64 0, .slice none 0 0, .slice none 0 0, .slice none 0 0] 33) (hR : R < w.heap.size) (h : Got (w.alloc o) w1 R v bs p1 vl va vb ls xs cs) :
    StD w (w1.alloc (.cells #[.int .i64 x, vl, va, vb] 33)) w.heap.size w1.heap.size R v bs p1 x vl va vb ls xs cs := by
  have hs := h.size
  simp at hs
  have hq : Blk4 (w.alloc o) w.heap.size (.int .i64 0) (.slice none 0 0) (.slice none 0 0) (.slice none 0 0) := by rw [ho]; exact Blk4.new w _ _ _ _
  have hq1 := hq.of_block (h.old.2.2.2.2 w.heap.size (by simp) (by omega))
  have hb := belOne w1 (.cells #[.int .i64 x, vl, va, vb] 33)
  refine ⟨hq1.of_block (hb.block _ (by omega)), Blk4.new w1 _ _ _ _, by omega, Nat.le_refl _, by omega, row_base (World.ownsRow.alloc h.ol _) (by simp; omega), row_base (World.ownsRow.alloc h.oa _) (by simp; omega), row_base (World.ownsRow.alloc h.ob _) (by simp; omega),
    h.rd.grown (World.grownBy_alloc w1 _ none) (by simp) (by simp), Old.below (((Old.refl R w.heap.size w).below (belOne w o) (Nat.le_refl _)).trans ⟨h.old.1, h.old.2.1, h.old.2.2.1, h.old.2.2.2.1, fun k hk hne => h.old.2.2.2.2 k (by simp; omega) hne⟩) hb (by omega), h.sl, h.sa, h.sb⟩

set_option maxRecDepth 100000 in
set_option maxHeartbeats 8000000 in
theorem l13AnyAig_any (R : Nat) (v : Value) (bs : List Int) (p : Nat) (w : World) (hr : Rd w R v bs p) (hvb : ∀ ao n cap b off, v = .slice ao n cap → ao = some ⟨b, off, none⟩ → b < w.heap.size) (hp : p ≤ 300000) :
    Calls Try.prog 88 #[.pointer (some ⟨R, 0, none⟩)] w (AnyPost R v bs p w) := by
  have hRlt := hr.lt
  have HVB : Hid (∀ ao n cap b off, v = .slice ao n cap → ao = some ⟨b, off, none⟩ → b < w.heap.size) := hvb
  have HR0 : Hid (Rd (w.alloc (.cells #[.int .i64 0, .slice none 0 0, .slice none 0 0, .slice none 0 0] 33)) R v bs p) := hr.grown (World.grownBy_alloc w _ none) (by simp) (by simp)
  obtain ⟨il, hil, hzl0, hzl1, hzl2⟩ := info_parts info_latch
  obtain ⟨ia, hia, hza0, hza1, hza2⟩ := info_parts info_and
  obtain ⟨ib, hib, hzb0, hzb1, hzb2⟩ := info_parts info_int
  clear hr hvb
  go_enter Try.func88, Try.ntmps88
  go_wp2_with fail
  refine (l13Aig_any R v bs p _ HR0.out (fun ao n cap b off h1 h2 => by have := HVB.out ao n cap b off h1 h2; simp; omega) (by omega)).mono ?_
  rintro e w1 ⟨x, al, aa, ab, cl, ca, cb, ls, xs, cs, p1, rfl, hx0, hx1, hll, hla, hlb, hp1, hgot⟩
  have HS1 : Hid (StD w (w1.alloc (.cells #[.int .i64 x, .slice al ls.length cl, .slice aa xs.length ca, .slice ab cs.length cb] 33)) w.heap.size w1.heap.size R v bs p1 x (.slice al ls.length cl) (.slice aa xs.length ca) (.slice ab cs.length cb) ls xs cs) := stD_start rfl hRlt hgot
  have hw1 : w.heap.size < w1.heap.size := by have := hgot.size; simp at this; omega
  clear hgot
  go_wp2_with fail
  refine (pick_any R v bs p1 _ _ HS1.out.rd (by omega) (by omega)).mono ?_
  rintro e w2 ⟨t, rfl, ht0, ht1, ht2, hrd2, hg2, hs2⟩
  have HS2 : Hid (StD w w2 w.heap.size w1.heap.size R v bs (p1 + 1) x (.slice al ls.length cl) (.slice aa xs.length ca) (.slice ab cs.length cb) ls xs cs) := HS1.out.pick hRlt hrd2 hg2
  clear hrd2 hg2 hs2 ht1 ht2
  have hsz2 := HS2.out.size
  by_cases e0 : t = 0
  · subst e0
    go_wp2_with fail
    refine (one_any R v bs (p1 + 1) w2.heap.size 0 3 3 [-1, 9, 8] _ (HS2.out.below (belOne _ _)).rd (by omega) rfl (by omega) (by omega) (by omega) (lit_cells w2 [-1, 9, 8] 3)).mono ?_
    rintro e w3 ⟨y, rfl, hy, hrd3, hg3, hs3⟩
    have hyr : -1 ≤ y ∧ y ≤ 9 := by simp at hy; omega
    have HS3 : Hid (StD w w3 w.heap.size w1.heap.size R v bs (p1 + 2) x (.slice al ls.length cl) (.slice aa xs.length ca) (.slice ab cs.length cb) ls xs cs) := (HS2.out.below (belOne _ _)).pick hRlt hrd3 hg3
    have HS4 : Hid (StD w (w3.setCell ⟨w1.heap.size, 0, none⟩ (.int .i64 y)) w.heap.size w1.heap.size R v bs (p1 + 2) y (.slice al ls.length cl) (.slice aa xs.length ca) (.slice ab cs.length cb) ls xs cs) := HS3.out.setI hRlt HVB.out y
    clear hy hrd3 hg3 hs3
    have n0 := HS3.out.c.c0
    have n1 := HS3.out.c.f 0
    have n2 := HS3.out.c.lt
    have j0 := HS4.out.c.c0
    have j1 := HS4.out.c.c1
    have j2 := HS4.out.c.c2
    have j3 := HS4.out.c.c3
    have j4 := HS4.out.c.lt
    have m3 := HS4.out.q.c0
    have m4 := HS4.out.q.c1
    have m5 := HS4.out.q.c2
    have m6 := HS4.out.q.c3
    have m7 := HS4.out.q.lt
    have m8 := HS4.out.q.f 0
    have m9 := HS4.out.q.f 1
    have m10 := HS4.out.q.f 2
    have m11 := HS4.out.q.f 3
    have hqq := (((HS4.out.q.set0 (.int .i64 (y))).set1 (.slice al ls.length cl)).set2 (.slice aa xs.length ca)).set3 (.slice ab cs.length cb)
    have u0 := hqq.c0
    have u1 := hqq.c1
    have u2 := hqq.c2
    have u3 := hqq.c3
    have HDN := hideD (HS4.out.done hRlt HVB.out (.int .i64 (y)) (.slice al ls.length cl) (.slice aa xs.length ca) (.slice ab cs.length cb))
    clear hqq
    go_wp2
    exact bodyPost_ret (v := .agg #[.int .i64 (y), .slice al ls.length cl, .slice aa xs.length ca, .slice ab cs.length cb]) (by simp [results, Try.results88, go_sem, u0, u1, u2, u3]) rfl ⟨_, al, aa, ab, cl, ca, cb, ls, xs, cs, p1 + 2, rfl, by omega, by omega, by first | omega | (simp; omega), by first | omega | (simp; omega), by first | omega | (simp; omega), by omega, HDN.out⟩
  · have b0 : (t == 0) = false := by simpa using e0
    have hw4 : IntKind.i64.wrap (2 * (x + (ls.length : Int) + (xs.length : Int))) = 2 * (x + (ls.length : Int) + (xs.length : Int)) := by rw [IntKind.wrap_i64]; omega
    have hw5 : IntKind.i64.wrap (2 * (x + (ls.length : Int) + (xs.length : Int)) + 2) = 2 * (x + (ls.length : Int) + (xs.length : Int)) + 2 := by rw [IntKind.wrap_i64]; omega
    by_cases e1 : t = 1
    · subst e1
      have j0 := HS2.out.c.c0
      have j1 := HS2.out.c.c1
      have j2 := HS2.out.c.c2
      have j3 := HS2.out.c.c3
      have j4 := HS2.out.c.lt
      have HNE : Hid (some w1.heap.size ≠ (Value.slice aa xs.length ca).ownBlock) := HS2.out.ne.2.1
      go_wp2_with fail
      go_region_law (first
        | (refine step_append_lies _ rfl (.tmp 17) (.tmp 23) 31 rfl w.heap.size 65 ia (.agg #[.int .i64 0, .int .i64 0]) 2 16 Try.underlying31 hia hza0 hza1 hza2 rfl (by decide) _ xs.length (andV xs) rfl (World.ownsRow.alloc HS3.out.oa _) ⟨w3.heap.size, 0, none⟩ 1 1 [.int .i64 (2 * (x + (ls.length : Int) + (xs.length : Int)) + 2), .int .i64 0] rfl rfl (news2 _ _ _ _) (and_oneCell _ _) (by decide) (by unfold maxLen; omega) (by omega) (by first | omega | (simp; omega)) _ rfl ?_; intro g gcap w8 hown8 hgrow8 hat8 hlt8; have hb8 := (HS3.out.below (belOne _ _)).c.of_block (hgrow8.block _ (by simp; omega) HNE.out); have y0 := hb8.c0; have y1 := hb8.c2; have y2 := hb8.f 2; have y3 := hb8.lt; have HO8 : Hid (w8.ownsRow _ _ _ _ _ _) := hown8; have HG8 : Hid (World.grownBy _ w8 _) := hgrow8; clear hown8 hgrow8 hat8 hb8)
        | (go_simp; go_at_call 68; refine (l3Nodes_any _ _ _ _ _ _ _ _ _ _ _ (by omega) (by omega) (by omega) (by omega)).mono ?_; rintro e w3 ⟨rfl, hb3⟩; have HS3 : Hid (StD w w3 w.heap.size w1.heap.size R v bs (p1 + 1) x (.slice al ls.length cl) (.slice aa xs.length ca) (.slice ab cs.length cb) ls xs cs) := HS2.out.drew.below hb3; have q0 := HS3.out.c.c0; have q1 := HS3.out.c.c1; have q2 := HS3.out.c.c2; have q3 := HS3.out.c.c3; have q4 := HS3.out.c.lt; have q5 := HS3.out.size; clear hb3))
      all_goals
        have HSTN := (HS3.out.below (belOne _ _)).pushA hRlt HVB.out (x := 2 * (x + (ls.length : Int) + (xs.length : Int)) + 2) (y := 0) (by unfold Sm; omega) (by unfold Sm; omega) HG8.out HO8.out
        have HS9 : Hid (StD w _ _ _ R v bs _ _ _ _ _ _ _ _) := HSTN
        have HL9 : Hid ((xs ++ [(2 * (x + (ls.length : Int) + (xs.length : Int)) + 2, (0 : Int))]).length = xs.length + 1) := by simp [Hid]
        clear HSTN
        have j0 := HS9.out.c.c0
        have j1 := HS9.out.c.c1
        have j2 := HS9.out.c.c2
        have j3 := HS9.out.c.c3
        have j4 := HS9.out.c.lt
        have m3 := HS9.out.q.c0
        have m4 := HS9.out.q.c1
        have m5 := HS9.out.q.c2
        have m6 := HS9.out.q.c3
        have m7 := HS9.out.q.lt
        have m8 := HS9.out.q.f 0
        have m9 := HS9.out.q.f 1
        have m10 := HS9.out.q.f 2
        have m11 := HS9.out.q.f 3
        have hqq := (((HS9.out.q.set0 (.int .i64 (x))).set1 (.slice al ls.length cl)).set2 (.slice (some ⟨g, 0, none⟩) (xs.length + 1) gcap)).set3 (.slice ab cs.length cb)
        have u0 := hqq.c0
        have u1 := hqq.c1
        have u2 := hqq.c2
        have u3 := hqq.c3
        have HDN := hideD (HS9.out.done hRlt HVB.out (.int .i64 (x)) (.slice al ls.length cl) (.slice (some ⟨g, 0, none⟩) (xs.length + 1) gcap) (.slice ab cs.length cb))
        clear hqq
        go_wp2
        exact bodyPost_ret (v := .agg #[.int .i64 (x), .slice al ls.length cl, .slice (some ⟨g, 0, none⟩) (xs.length + 1) gcap, .slice ab cs.length cb]) (by simp [results, Try.results88, go_sem, u0, u1, u2, u3]) rfl ⟨_, al, (some ⟨g, 0, none⟩), ab, cl, gcap, cb, ls, xs ++ [(2 * (x + (ls.length : Int) + (xs.length : Int)) + 2, (0 : Int))], cs, p1 + 1, by rw [HL9.out], by omega, by omega, by first | omega | (simp; omega), by first | omega | (simp; omega), by first | omega | (simp; omega), by omega, by rw [HL9.out]; exact HDN.out⟩
    · have b1 : (t == 1) = false := by simpa using e1
      by_cases e2 : t = 2
      · subst e2
        have j0 := HS2.out.c.c0
        have j1 := HS2.out.c.c1
        have j2 := HS2.out.c.c2
        have j3 := HS2.out.c.c3
        have j4 := HS2.out.c.lt
        have HNE : Hid (some w1.heap.size ≠ (Value.slice ab cs.length cb).ownBlock) := HS2.out.ne.2.2
        go_wp2_with fail
        go_region_law (first
          | (refine step_append_lies _ rfl (.tmp 29) (.tmp 37) 24 rfl w.heap.size 3 ib (.int .i64 0) 1 8 Try.underlying24 hib hzb0 hzb1 hzb2 rfl (by decide) _ cs.length (intV cs) rfl (World.ownsRow.alloc HS4.out.ob _) ⟨w4.heap.size, 0, none⟩ 1 1 [.int .i64 z] rfl rfl (news1 _ _ _) (ints_oneCell .i64 [z]) (by decide) (by unfold maxLen; omega) (by omega) (by first | omega | (simp; omega)) _ rfl ?_; intro g gcap w8 hown8 hgrow8 hat8 hlt8; have hb8 := (HS4.out.below (belOne _ _)).c.of_block (hgrow8.block _ (by simp; omega) HNE.out); have y0 := hb8.c0; have y1 := hb8.c3; have y2 := hb8.f 3; have y3 := hb8.lt; have HO8 : Hid (w8.ownsRow _ _ _ _ _ _) := hown8; have HG8 : Hid (World.grownBy _ w8 _) := hgrow8; clear hown8 hgrow8 hat8 hb8)
          | (go_simp; go_at_call 68; refine (l3Nodes_any _ _ _ _ _ _ _ _ _ _ _ (by omega) (by omega) (by omega) (by omega)).mono ?_; rintro e w3 ⟨rfl, hb3⟩; have HS3 : Hid (StD w w3 w.heap.size w1.heap.size R v bs (p1 + 1) x (.slice al ls.length cl) (.slice aa xs.length ca) (.slice ab cs.length cb) ls xs cs) := HS2.out.drew.below hb3; have q0 := HS3.out.c.c0; have q1 := HS3.out.c.c1; have q2 := HS3.out.c.c2; have q3 := HS3.out.c.c3; have q4 := HS3.out.c.lt; have q5 := HS3.out.size; have hne9 : ¬ w3.heap.size = R := (by omega); clear hb3)
          | (go_simp; go_at_call 114; refine (one_any R v bs (p1 + 1) w3.heap.size 0 2 2 [-1, 2 * (x + (ls.length : Int) + (xs.length : Int)) + 2] _ (HS3.out.below (belOne _ _)).rd (by omega) rfl (by omega) (by omega) hne9 (lit_cells w3 [-1, 2 * (x + (ls.length : Int) + (xs.length : Int)) + 2] 3)).mono ?_; rintro e w4 ⟨z, rfl, hz, hrd4, hg4, hs4⟩; have hzr : -1 ≤ z ∧ z ≤ 1000 := (by simp at hz; omega); have HS4 : Hid (StD w w4 w.heap.size w1.heap.size R v bs (p1 + 2) x (.slice al ls.length cl) (.slice aa xs.length ca) (.slice ab cs.length cb) ls xs cs) := (HS3.out.below (belOne _ _)).pick hRlt hrd4 hg4; have r0 := HS4.out.c.c0; have r1 := HS4.out.c.c1; have r2 := HS4.out.c.c2; have r3 := HS4.out.c.c3; have r4 := HS4.out.c.lt; have r5 := HS4.out.size; clear hz hrd4 hg4 hs4))
        all_goals
          have HSTN := (HS4.out.below (belOne _ _)).pushB hRlt HVB.out (x := z) (by unfold Sm; omega) HG8.out HO8.out
          have HS9 : Hid (StD w _ _ _ R v bs _ _ _ _ _ _ _ _) := HSTN
          have HL9 : Hid ((cs ++ [z]).length = cs.length + 1) := by simp [Hid]
          clear HSTN
          have j0 := HS9.out.c.c0
          have j1 := HS9.out.c.c1
          have j2 := HS9.out.c.c2
          have j3 := HS9.out.c.c3
          have j4 := HS9.out.c.lt
          have m3 := HS9.out.q.c0
          have m4 := HS9.out.q.c1
          have m5 := HS9.out.q.c2
          have m6 := HS9.out.q.c3
          have m7 := HS9.out.q.lt
          have m8 := HS9.out.q.f 0
          have m9 := HS9.out.q.f 1
          have m10 := HS9.out.q.f 2
          have m11 := HS9.out.q.f 3
          have hqq := (((HS9.out.q.set0 (.int .i64 (x))).set1 (.slice al ls.length cl)).set2 (.slice aa xs.length ca)).set3 (.slice (some ⟨g, 0, none⟩) (cs.length + 1) gcap)
          have u0 := hqq.c0
          have u1 := hqq.c1
          have u2 := hqq.c2
          have u3 := hqq.c3
          have HDN := hideD (HS9.out.done hRlt HVB.out (.int .i64 (x)) (.slice al ls.length cl) (.slice aa xs.length ca) (.slice (some ⟨g, 0, none⟩) (cs.length + 1) gcap))
          clear hqq
          go_wp2
          exact bodyPost_ret (v := .agg #[.int .i64 (x), .slice al ls.length cl, .slice aa xs.length ca, .slice (some ⟨g, 0, none⟩) (cs.length + 1) gcap]) (by simp [results, Try.results88, go_sem, u0, u1, u2, u3]) rfl ⟨_, al, aa, (some ⟨g, 0, none⟩), cl, ca, gcap, ls, xs, cs ++ [z], p1 + 2, by rw [HL9.out], by omega, by omega, by first | omega | (simp; omega), by first | omega | (simp; omega), by first | omega | (simp; omega), by omega, by rw [HL9.out]; exact HDN.out⟩
      · have b2 : (t == 2) = false := by simpa using e2
        by_cases e3 : t = 3
        · subst e3
          have HCL : Hid (cs.length ≤ 2) := hlb
          have HPB : Hid (p1 ≤ p + 200) := hp1
          clear hlb hp1
          go_wp2_with fail
          go_loopg [] 6 (fun q wr => ∃ (ab : Option Addr) (cb : Nat) (cs : List Int) (pb : Nat), cs.length ≤ 5 ∧ q + cs.length ≤ 8 ∧ 6 ≤ q + cs.length ∧ pb + q ≤ p1 + 10 ∧ StD w wr w.heap.size w1.heap.size R v bs pb x (.slice al ls.length cl) (.slice aa xs.length ca) (.slice ab cs.length cb) ls xs cs) 
          case atStart => exact ⟨ab, cb, cs, p1 + 1, by have := HCL.out; omega, by have := HCL.out; omega, by omega, by omega, HS2.out⟩
          case round =>
            rename World => wg
            obtain ⟨ab, cb, cs, pb, hc5, hq, hq6, hpb, hst⟩ := hrel
            have HQ : Hid (gk + cs.length ≤ 8) := hq
            have HQ6 : Hid (6 ≤ gk + cs.length) := hq6
            have HPP : Hid (pb + gk ≤ p1 + 10) := hpb
            have HS8 : Hid (StD w wg w.heap.size w1.heap.size R v bs pb x (.slice al ls.length cl) (.slice aa xs.length ca) (.slice ab cs.length cb) ls xs cs) := hst
            have hpb2 : pb ≤ 400000 := by have := HPB.out; omega
            clear hst hq hq6 hpb
            have j3 := HS8.out.c.c3
            have j4 := HS8.out.c.lt
            have j5 := HS8.out.size
            go_wp2_with fail
            go_region_law (first
              | (go_simp; go_at_call 113; refine (pick_any R v bs pb _ _ HS8.out.drew.rd (by omega) (by omega)).mono ?_; rintro e w3 ⟨z, rfl, hz0, hz1, hz2, hrd3, hg3, hs3⟩; have HS3 : Hid (StD w w3 w.heap.size w1.heap.size R v bs (pb + 1) x (.slice al ls.length cl) (.slice aa xs.length ca) (.slice ab cs.length cb) ls xs cs) := HS8.out.drew.pick hRlt hrd3 hg3; have hz3 : z < 2 := hz1 (by omega); have q3 := HS3.out.c.c3; have q4 := HS3.out.c.lt; have q5 := HS3.out.size; clear hrd3 hg3 hs3 hz1 hz2))
            all_goals
              have hz4 : IntKind.i64.wrap (4 + z) = 4 + z := by rw [IntKind.wrap_i64]; omega
              by_cases hlt : (cs.length : Int) < 4 + z
              · have HNE : Hid (some w1.heap.size ≠ (Value.slice ab cs.length cb).ownBlock) := HS3.out.ne.2.2
                go_wp2_with (at_builtin; refine wpList_append_lies _ rfl _ _ 24 rfl w.heap.size 3 ib (.int .i64 0) 1 8 Try.underlying24 hib hzb0 hzb1 hzb2 rfl (by decide) _ cs.length (intV cs) rfl (World.ownsRow.alloc HS3.out.ob _) ⟨w3.heap.size, 0, none⟩ 1 1 [.int .i64 1] rfl rfl (news1 _ _ _) (ints_oneCell .i64 [1]) (by decide) (by unfold maxLen; omega) (by omega) (by simp; omega) _ rfl ?_; intro g gcap w5 hown5 hgrow5 hat5 hlt5; have hb5 := (HS3.out.below (belOne _ _)).c.of_block (hgrow5.block _ (by simp; omega) HNE.out); have y1 := hb5.c3; have y2 := hb5.f 3; have y3 := hb5.lt; have HO5 : Hid (w5.ownsRow _ _ _ _ _ _) := hown5; have HG5 : Hid (World.grownBy _ w5 _) := hgrow5; clear hown5 hgrow5 hat5 hb5)
                have HSTN := (HS3.out.below (belOne _ _)).pushB hRlt HVB.out (x := 1) (by unfold Sm; omega) HG5.out HO5.out
                have HSTM : Hid (StD w _ _ _ R v bs _ _ _ _ _ _ _ _) := HSTN
                clear HSTN
                go_wp2
                go_roundg (gk - 1)
                case measure => have := HQ6.out; omega
                case rel => exact ⟨some ⟨g, 0, none⟩, gcap, cs ++ [1], pb + 1, by simp; omega, by have := HQ.out; have := HQ6.out; simp; omega, by have := HQ6.out; simp; omega, by have := HPP.out; have := HQ6.out; omega, by rw [List.length_append]; exact HSTM.out⟩
              · have hpq : pb + 1 ≤ p + 300 := by have := HPB.out; have := HPP.out; omega
                clear j3 j4 j5 q3 q4 q5
                have j0 := HS3.out.c.c0
                have j1 := HS3.out.c.c1
                have j2 := HS3.out.c.c2
                have j3 := HS3.out.c.c3
                have j4 := HS3.out.c.lt
                have m3 := HS3.out.q.c0
                have m4 := HS3.out.q.c1
                have m5 := HS3.out.q.c2
                have m6 := HS3.out.q.c3
                have m7 := HS3.out.q.lt
                have m8 := HS3.out.q.f 0
                have m9 := HS3.out.q.f 1
                have m10 := HS3.out.q.f 2
                have m11 := HS3.out.q.f 3
                have hqq := (((HS3.out.q.set0 (.int .i64 (x))).set1 (.slice al ls.length cl)).set2 (.slice aa xs.length ca)).set3 (.slice ab cs.length cb)
                have u0 := hqq.c0
                have u1 := hqq.c1
                have u2 := hqq.c2
                have u3 := hqq.c3
                have HDN := hideD (HS3.out.done hRlt HVB.out (.int .i64 (x)) (.slice al ls.length cl) (.slice aa xs.length ca) (.slice ab cs.length cb))
                clear hqq
                go_wp2
                exact bodyPost_ret (v := .agg #[.int .i64 (x), .slice al ls.length cl, .slice aa xs.length ca, .slice ab cs.length cb]) (by simp [results, Try.results88, go_sem, u0, u1, u2, u3]) rfl ⟨_, al, aa, ab, cl, ca, cb, ls, xs, cs, pb + 1, rfl, by omega, by omega, by first | omega | (simp; omega), by first | omega | (simp; omega), by first | omega | (simp; omega), by omega, HDN.out⟩
        · have b3 : (t == 3) = false := by simpa using e3
          by_cases e4 : t = 4
          · subst e4
            have j1 := HS2.out.c.c1
            have j4 := HS2.out.c.lt
            have HNE : Hid (some w1.heap.size ≠ (Value.slice al ls.length cl).ownBlock) := HS2.out.ne.1
            have HNQ : Hid (some w.heap.size ≠ (Value.slice al ls.length cl).ownBlock) := HS2.out.neQ.1
            go_wp2_with (at_builtin; refine wpList_append_lies _ rfl _ _ 30 rfl w.heap.size 86 il (.agg #[.int .i64 0, .bool false]) 2 16 Try.underlying30 hil hzl0 hzl1 hzl2 rfl (by decide) _ ls.length (latV ls) rfl (World.ownsRow.alloc HS2.out.ol _) ⟨w2.heap.size, 0, none⟩ 1 1 [.int .i64 (-1), .bool false] rfl rfl (news2 _ _ _ _) (lat_oneCell _ _) (by decide) (by unfold maxLen; omega) (by omega) (by simp; omega) _ rfl ?_; intro g gcap w5 hown5 hgrow5 hat5 hlt5; have hb5 := (HS2.out.below (belOne _ _)).c.of_block (hgrow5.block _ (by simp; omega) HNE.out); have y0 := hb5.c0; have y1 := hb5.c1; have y2 := hb5.f 1; have y3 := hb5.lt; have y4 := hb5.c2; have y5 := hb5.c3; have hq5 := (HS2.out.below (belOne _ _)).q.of_block (hgrow5.block _ (by simp; omega) HNQ.out); have z0 := hq5.c0; have z1 := hq5.c1; have z2 := hq5.c2; have z3 := hq5.c3; have z4 := hq5.lt; have z5 := hq5.f 0; have z6 := hq5.f 1; have z7 := hq5.f 2; have z8 := hq5.f 3; have HO5 : Hid (w5.ownsRow _ _ _ _ _ _) := hown5; have HG5 : Hid (World.grownBy _ w5 _) := hgrow5; clear hown5 hgrow5 hat5 hb5 hq5)
            have HSTN := (HS2.out.below (belOne _ _)).pushL hRlt HVB.out (x := -1) (y := false) (by unfold Sm; omega) HG5.out HO5.out
            have HS9 : Hid (StD w _ _ _ R v bs _ _ _ _ _ _ _ _) := HSTN
            have HL9 : Hid ((ls ++ [((-1 : Int), false)]).length = ls.length + 1) := by simp [Hid]
            clear HSTN
            have j0 := HS9.out.c.c0
            have j1 := HS9.out.c.c1
            have j2 := HS9.out.c.c2
            have j3 := HS9.out.c.c3
            have j4 := HS9.out.c.lt
            have m3 := HS9.out.q.c0
            have m4 := HS9.out.q.c1
            have m5 := HS9.out.q.c2
            have m6 := HS9.out.q.c3
            have m7 := HS9.out.q.lt
            have m8 := HS9.out.q.f 0
            have m9 := HS9.out.q.f 1
            have m10 := HS9.out.q.f 2
            have m11 := HS9.out.q.f 3
            have hqq := (((HS9.out.q.set0 (.int .i64 (x))).set1 (.slice (some ⟨g, 0, none⟩) (ls.length + 1) gcap)).set2 (.slice aa xs.length ca)).set3 (.slice ab cs.length cb)
            have u0 := hqq.c0
            have u1 := hqq.c1
            have u2 := hqq.c2
            have u3 := hqq.c3
            have HDN := hideD (HS9.out.done hRlt HVB.out (.int .i64 (x)) (.slice (some ⟨g, 0, none⟩) (ls.length + 1) gcap) (.slice aa xs.length ca) (.slice ab cs.length cb))
            clear hqq
            go_wp2
            exact bodyPost_ret (v := .agg #[.int .i64 (x), .slice (some ⟨g, 0, none⟩) (ls.length + 1) gcap, .slice aa xs.length ca, .slice ab cs.length cb]) (by simp [results, Try.results88, go_sem, u0, u1, u2, u3]) rfl ⟨_, (some ⟨g, 0, none⟩), aa, ab, gcap, ca, cb, ls ++ [((-1 : Int), false)], xs, cs, p1 + 1, by rw [HL9.out], by omega, by omega, by first | omega | (simp; omega), by first | omega | (simp; omega), by first | omega | (simp; omega), by omega, by rw [HL9.out]; exact HDN.out⟩
          · have b4 : (t == 4) = false := by simpa using e4
            have j0 := HS2.out.c.c0
            have j1 := HS2.out.c.c1
            have j2 := HS2.out.c.c2
            have j3 := HS2.out.c.c3
            have j4 := HS2.out.c.lt
            have m3 := HS2.out.q.c0
            have m4 := HS2.out.q.c1
            have m5 := HS2.out.q.c2
            have m6 := HS2.out.q.c3
            have m7 := HS2.out.q.lt
            have m8 := HS2.out.q.f 0
            have m9 := HS2.out.q.f 1
            have m10 := HS2.out.q.f 2
            have m11 := HS2.out.q.f 3
            have hqq := (((HS2.out.q.set0 (.int .i64 (x))).set1 (.slice al ls.length cl)).set2 (.slice aa xs.length ca)).set3 (.slice ab cs.length cb)
            have u0 := hqq.c0
            have u1 := hqq.c1
            have u2 := hqq.c2
            have u3 := hqq.c3
            have HDN := hideD (HS2.out.done hRlt HVB.out (.int .i64 (x)) (.slice al ls.length cl) (.slice aa xs.length ca) (.slice ab cs.length cb))
            clear hqq
            go_wp2
            exact bodyPost_ret (v := .agg #[.int .i64 (x), .slice al ls.length cl, .slice aa xs.length ca, .slice ab cs.length cb]) (by simp [results, Try.results88, go_sem, u0, u1, u2, u3]) rfl ⟨_, al, aa, ab, cl, ca, cb, ls, xs, cs, p1 + 1, rfl, by omega, by omega, by first | omega | (simp; omega), by first | omega | (simp; omega), by first | omega | (simp; omega), by omega, HDN.out⟩

end Go.Proofs.Ytbdjdgamnnifjaa

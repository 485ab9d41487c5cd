/-
  Some variables and a table drawn: DrawBddOf; a table of seven variables, too.
-/
import Derived.Test.YtmkbcfiechoebaaBdDr
namespace Go.Proofs.Ytmkbcfiechoebaa
open Go.RowKit Go.Deep
set_option linter.unusedVariables false

attribute [local go_sem] Oper.semAt_some

set_option maxHeartbeats 1000000 in
theorem l11Size7_any (n : Nat) (w : World) (h : n ≤ 7) : Calls Try.prog 52 #[.int .i64 (n : Int)] w fun e w' => e = .returned (.int .i64 ((2 ^ n : Nat) : Int)) ∧ w' = w := by
  have HN : Hid (2 ^ n ≤ 128) := by show _ ≤ 2 ^ 7; exact Nat.pow_le_pow_right (by decide) h
  obtain ⟨N, hN⟩ : ∃ N, 2 ^ n = N := ⟨_, rfl⟩
  rw [hN] at HN ⊢
  have HNN := hideN hN
  clear hN
  go_enter Try.func52, Try.ntmps52
  go_wp2
  go_loop [0, 3] (fun v p => ∃ a q : Nat, a ≤ 7 ∧ v = .int .i64 (a : Int) ∧ p = .int .i64 (q : Int) ∧ Hid (q * 2 ^ a = N)) (fun v _ => (intOf v).toNat)
  case atStart => exact ⟨n, 1, h, rfl, rfl, by show 1 * 2 ^ n = N; rw [Nat.one_mul]; exact HNN.out⟩
  case round =>
    obtain ⟨a, q, ha, rfl, rfl, hq⟩ := hrel
    by_cases hlt : 0 < a
    · obtain ⟨a, rfl⟩ : ∃ a', a = a' + 1 := ⟨a - 1, by omega⟩
      have hq2 : Hid ((q * 2) * 2 ^ a = N) := by show _ = _; rw [← hq.out, Nat.pow_succ, Nat.mul_assoc, Nat.mul_comm 2]
      have hq64 : q * 2 ≤ 128 := by
        have h1 := hq2.out
        have h2 : 1 ≤ 2 ^ a := Nat.one_le_two_pow
        have h3 : q * 2 * 1 ≤ q * 2 * 2 ^ a := Nat.mul_le_mul_left _ h2
        have h4 := HN.out
        omega
      clear hq
      go_wp2
      go_round
      case rel => exact ⟨a, q * 2, by omega, by go_num, by go_num, hq2⟩
      case measure => simp [intOf]
    · obtain rfl : a = 0 := by omega
      have hqN : q = N := by have h1 := hq.out; simpa using h1
      subst hqN
      clear hq HNN
      go_wp2
      go_ret
      exact ⟨rfl, rfl⟩

def TablePost7 (M : Nat) (R : Nat) (v : Value) (bs : List Int) (p : Nat) (w : World) (e : Ending) (w' : World) : Prop :=
  ∃ g cap ms p', e = .returned (.slice (some ⟨g, 0, none⟩) M cap) ∧ ms.length = M ∧ Ownb w' w.heap.size (.slice (some ⟨g, 0, none⟩) M cap) ms ∧ p' ≤ p + 200 ∧ Rd w' R v bs p' ∧ Old R w.heap.size w w'

set_option maxRecDepth 100000 in
set_option maxHeartbeats 4000000 in
theorem l13Table7_any (R : Nat) (v : Value) (bs : List Int) (p vars : Nat) (w : World) (hr : Rd w R v bs p) (hvb : ∀ ao n cap b off, v = .slice ao n cap → ao = some ⟨b, off, none⟩ → b < w.heap.size) (hp : p ≤ 500000) (h6 : vars ≤ 7) :
    Calls Try.prog 49 #[.pointer (some ⟨R, 0, none⟩), .int .i64 (vars : Int)] w (TablePost7 (2 ^ vars) R v bs p w) := by
  have hRlt := hr.lt
  have HVB : Hid (∀ ao n cap b off, v = .slice ao n cap → ao = some ⟨b, off, none⟩ → b < w.heap.size) := hvb
  have HR0 : Hid (Rd (w.alloc (.cells #[] 4)) R v bs p) := hr.grown (World.grownBy_alloc w _ none) (by simp) (by simp)
  have HO0 : Hid (Ownb (w.alloc (.cells #[] 4)) w.heap.size (.slice (some ⟨w.heap.size, 0, none⟩) 0 0) []) := ownb_empty w
  have HD0 : Hid (Old R w.heap.size w (w.alloc (.cells #[] 4))) := (Old.refl R w.heap.size w).below (belOne _ _) (Nat.le_refl _)
  have HLS := hideN (fun W => l11Size7_any vars W h6)
  obtain ⟨i0, hi, hz0, hz1, hz2⟩ := info_parts info_bool
  obtain ⟨M, hM⟩ : ∃ M, 2 ^ vars = M := ⟨_, rfl⟩
  have hM64 : M ≤ 128 := by rw [← hM]; show _ ≤ 2 ^ 7; exact Nat.pow_le_pow_right (by decide) h6
  have hM1 : 1 ≤ M := by rw [← hM]; exact Nat.one_le_two_pow
  rw [hM] at HLS ⊢
  have hrl : ∀ i : Nat, i % (1 + M / 2) < M := fun i => Nat.lt_of_lt_of_le (Nat.mod_lt _ (by omega)) (by omega)
  have HRL := hideN hrl
  clear hr hvb hM hrl
  go_enter Try.func49, Try.ntmps49
  go_wp2_with fail
  refine (HLS.out _).mono ?_
  rintro e w1 ⟨rfl, rfl⟩
  go_wp2_with fail
  go_loopw [5, 6] (fun o m wr => ∃ (ao : Option Addr) (cap : Nat) (ms : List Bool) (k p' : Nat), o = .slice ao ms.length cap ∧ m = .int .i64 (k : Int) ∧ ms.length + k = M ∧ p' ≤ p + ms.length ∧ Ownb wr w.heap.size (.slice ao ms.length cap) ms ∧ Rd wr R v bs p' ∧ Old R w.heap.size w wr) (fun _ m _ => (intOf m).toNat)
  case atStart => exact ⟨_, 0, [], M, p, rfl, rfl, by simp, by simp, HO0.out, HR0.out, HD0.out⟩
  case round =>
    obtain ⟨ao, cap, ms, k, p', rfl, rfl, hlen, hp', hown, hrd, hold⟩ := hrel
    have HO : Hid (Ownb wr w.heap.size (.slice ao ms.length cap) ms) := hown
    have HRD : Hid (Rd wr R v bs p') := hrd
    have HD : Hid (Old R w.heap.size w wr) := hold
    have hsz := hold.size
    clear hown hrd hold
    by_cases hk : 0 < k
    · have hki : (0 : Int) < (k : Int) := by omega
      go_wp2_with fail
      refine (pick_any R v bs p' _ _ HRD.out (by omega) (by omega)).mono ?_
      rintro e w2 ⟨x, rfl, hx0, hx1, hx2, hrd2, hg2, hs2⟩
      have HR2 : Hid (Rd w2 R v bs (p' + 1)) := hrd2
      have HO2 : Hid (Ownb w2 w.heap.size (.slice ao ms.length cap) ms) := ownb_keptOld HO.out hg2 (fun k e => by have := Option.some.inj e; omega)
      have HD2 : Hid (Old R w.heap.size w w2) := HD.out.grown hg2 hsz (fun q e => .inr (Option.some.inj e).symm)
      have hsz2 : w.heap.size ≤ w2.heap.size := by omega
      clear hrd2 hg2 hx1 hx2 hs2
      generalize hB : (x == 0) = bb
      have HBB : Hid ((x == 0) = bb) := hB
      go_wp2_with (at_builtin; refine wpList_append_lies _ rfl _ _ 23 rfl w.heap.size 4 i0 (.bool false) 1 1 Try.underlying23 hi hz0 hz1 hz2 rfl (by decide) _ ms.length (ms.map Value.bool) rfl (World.ownsRow.alloc HO2.out _) ⟨w2.heap.size, 0, none⟩ 1 1 [.bool bb] rfl rfl (news1G _ _ _) (bool_one _) (by decide) (by unfold maxLen; omega) (by omega) (by simp; omega) _ rfl ?_; intro g gcap w4 hown4 hgrow4 hat4 hlt4)
      have HOF : Hid (Ownb w4 w.heap.size (.slice (some ⟨g, 0, none⟩) (ms.length + 1) gcap) (ms ++ [bb])) := ownb_snoc hown4
      have HRF : Hid (Rd w4 R v bs (p' + 1)) := (HR2.out.grown (World.grownBy_alloc w2 _ none) (by simp) (by simp)).own hgrow4 hRlt HVB.out (fun q e => (World.ownsRow.lt HO2.out q e).1)
      have HDF : Hid (Old R w.heap.size w w4) := (HD2.out.below (belOne _ _) hsz2).grown hgrow4 (by simp; omega) (fun q e => .inl (World.ownsRow.lt HO2.out q e).1)
      have hkk : (k : Int) - 1 = ((k - 1 : Nat) : Int) := by omega
      clear hown4 hgrow4 hat4 hlt4
      go_wp2
      go_roundw
      case rel => exact ⟨some ⟨g, 0, none⟩, gcap, ms ++ [bb], k - 1, p' + 1, by simp, by rw [hkk], by simp; omega, by simp; omega, by rw [List.length_append]; exact HOF.out, HRF.out, HDF.out⟩
      case measure => simp [intOf]; omega
    · have hki : ¬ (0 : Int) < (k : Int) := by omega
      have hml : ms.length = M := by omega
      obtain ⟨g, cap2, hv, hgb, hgl⟩ := HO.out.cons_form (by omega)
      injection hv with e1 e2 e3
      subst e1 e3
      rw [hml] at HO ⊢
      clear hk hlen e2
      go_wp2_with fail
      refine (pick_any R v bs p' _ _ HRD.out (by omega) (by omega)).mono ?_
      rintro e w2 ⟨x, rfl, hx0, hx1, hx2, hrd2, hg2, hs2⟩
      have HR2 : Hid (Rd w2 R v bs (p' + 1)) := hrd2
      have HO2 : Hid (Ownb w2 w.heap.size (.slice (some ⟨g, 0, none⟩) M cap) ms) := ownb_keptOld HO.out hg2 (fun k e => by have := Option.some.inj e; omega)
      have HD2 : Hid (Old R w.heap.size w w2) := HD.out.grown hg2 hsz (fun q e => .inr (Option.some.inj e).symm)
      have HML := hideN hml
      clear hrd2 hg2 hx1 hx2 hs2
      by_cases hx : x = 0
      · subst hx
        go_wp2_with fail
        go_loopw [7] (fun i wr => ∃ (j : Nat) (zs : List Bool), j ≤ M ∧ i = .int .i64 (j : Int) ∧ Hid (zs.length = M) ∧ Hid (Ownb wr w.heap.size (.slice (some ⟨g, 0, none⟩) M cap) zs) ∧ Hid (Rd wr R v bs (p' + 1)) ∧ Hid (Old R w.heap.size w wr)) (fun i _ => M - (intOf i).toNat)
        case atStart => exact ⟨0, ms, Nat.zero_le _, rfl, HML, HO2, HR2, HD2⟩
        case round =>
          obtain ⟨j, zs, hj, rfl, hzl, hoz, hrz, hdz⟩ := hrel
          by_cases hjM : j < M
          · obtain ⟨c1, f1, l1⟩ := ownb_cell hoz.out (i := j) (by rw [hzl.out]; exact hjM)
            obtain ⟨c2, f2, l2⟩ := ownb_cell hoz.out (i := j % (1 + M / 2)) (by rw [hzl.out]; exact HRL.out j)
            have hjK := HRL.out j
            have hjP : 0 ≤ (j : Int) % (1 + (M : Int) / 2) ∧ (j : Int) % (1 + (M : Int) / 2) < (M : Int) := ⟨Int.emod_nonneg _ (by omega), Int.lt_of_lt_of_le (Int.emod_lt_of_pos (j : Int) (show 0 < 1 + (M : Int) / 2 by omega)) (by omega)⟩
            have hjI : ¬ ((M : Int) ≤ ((j % (1 + M / 2) : Nat) : Int)) := by omega
            have hjI2 : ((j % (1 + M / 2) : Nat) : Int) < (M : Int) := by omega
            have HOS : Hid (Ownb (wr.setCell ⟨g, j, none⟩ (.bool (zs.getD (j % (1 + M / 2)) false))) w.heap.size (.slice (some ⟨g, 0, none⟩) M cap) (zs.set j (zs.getD (j % (1 + M / 2)) false))) := ownb_set hoz.out j (by rw [hzl.out]; exact hjM) _
            have hgw : wr.grownBy (wr.setCell ⟨g, j, none⟩ (.bool (zs.getD (j % (1 + M / 2)) false))) (some g) := ⟨rfl, rfl, rfl, by simp [World.setCell], fun k hk hne => Below.heap_setCell wr _ _ k (fun e => hne (by rw [e]))⟩
            have HRS : Hid (Rd (wr.setCell ⟨g, j, none⟩ (.bool (zs.getD (j % (1 + M / 2)) false))) R v bs (p' + 1)) := hrz.out.own hgw hRlt HVB.out (fun q e => by have := Option.some.inj e; omega)
            have HDS : Hid (Old R w.heap.size w (wr.setCell ⟨g, j, none⟩ (.bool (zs.getD (j % (1 + M / 2)) false)))) := hdz.out.grown hgw hdz.out.size (fun q e => .inl (by have := Option.some.inj e; omega))
            have HZS : Hid ((zs.set j (zs.getD (j % (1 + M / 2)) false)).length = M) := by show _ = _; rw [List.length_set]; exact hzl.out
            generalize zs.getD (j % (1 + M / 2)) false = y at *
            clear hgw l1 l2
            go_wp2
            go_roundw
            case rel => exact ⟨j + 1, _, by omega, by go_num, HZS, HOS, HRS, HDS⟩
            case measure => simp [intOf]; omega
          · obtain rfl : j = M := by omega
            go_wp2_with fail
            go_ret
            exact ⟨g, cap, zs, p' + 1, rfl, hzl.out, hoz.out, by omega, hrz.out, hdz.out⟩
      · go_wp2_with fail
        go_ret
        exact ⟨g, cap, ms, p' + 1, rfl, HML.out, HO2.out, by omega, HR2.out, HD2.out⟩

/-- Drawn variables and a drawn table. -/
def DrawnO (w : World) (e : Ending) (w' : World) : Prop :=
  ∃ (X g off m cap : Nat) (t : List Bool), e = .returned (.tuple #[.int .i64 (X : Int), .slice (some ⟨g, off, none⟩) m cap]) ∧ X ≤ 7 ∧ t.length = m ∧ m ≤ 128 ∧ Tab w' g off cap t ∧ g < w'.heap.size ∧ Below w.heap.size w w'

set_option maxRecDepth 100000 in
set_option maxHeartbeats 4000000 in
theorem drawBddOf_any (v : Value) (bs : List Int) (w : World) (hv : IsBytes w v bs) (hn : bs.length ≤ 1048576) (hal : ∀ ao n cap b off, v = .slice ao n cap → ao = some ⟨b, off, none⟩ → b < w.heap.size) :
    Calls Try.prog 11 #[v] w (DrawnO w) := by
  have HOP := hideN (l1Open_any w.heap.size v bs w hv hn hal)
  obtain ⟨aoc, capc, rfl, _⟩ := hv
  clear hal
  go_enter Try.func11, Try.ntmps11
  go_wp2_with fail
  refine HOP.out.mono ?_
  rintro e w2 ⟨v2, bs2, rfl, hrd2, hb2, hs2, hal2⟩
  have HAL := hideN hal2
  obtain ⟨R, hRR⟩ : ∃ R, w.heap.size = R := ⟨_, rfl⟩
  rw [hRR] at hrd2
  try rw [hRR]
  have HB2 := hideN hb2
  have hs22 := hb2.size
  clear hb2 hs2 hal2
  go_wp2_with fail
  refine (pick_any R v2 bs2 0 8 w2 hrd2 (by omega) (by omega)).mono ?_
  rintro e w3 ⟨x, rfl, hx0, hx1, -, hrd3, hg3, hs3⟩
  have hx1 : x < 8 := hx1 (by omega)
  obtain ⟨X, rfl⟩ := Int.eq_ofNat_of_zero_le hx0
  have hX : X ≤ 7 := by omega
  have hRl := hrd3.lt
  have hb3 : Below w.heap.size w w3 := HB2.out.grown hg3 HB2.out.size (fun k e => by have := Option.some.inj e; omega)
  have HTB := hideN (l13Table7_any R v2 bs2 1 X w3 hrd3 (fun ao n cap b off h1 h2 => by have := HAL.out ao n cap b off h1 h2; omega) (by omega) hX)
  have HB3 := hideN hb3
  clear hrd2 hrd3 hg3 hs3 hb3 hx1
  go_wp2_with fail
  refine HTB.out.mono ?_
  rintro e w4 ⟨g, cap, ms, p4, rfl, hml, hown, hp4, hrd4, hold⟩
  have hb4 : Below w.heap.size w w4 := ⟨hold.1.trans HB3.out.os, hold.2.1.trans HB3.out.tape, hold.2.2.1.trans HB3.out.output, by have := HB3.out.size; have := hold.2.2.2.1; omega, fun k hk => (hold.2.2.2.2 k (by have := HB3.out.size; omega) (by omega)).trans (HB3.out.block k hk)⟩
  have HO4 := hideN hown
  have HR4 := hideN hrd4
  have HB4 := hideN hb4
  have hMp : 2 ^ X ≤ 128 := by show _ ≤ 2 ^ 7; exact Nat.pow_le_pow_right (by decide) hX
  have hM0 : 1 ≤ 2 ^ X := Nat.one_le_two_pow
  obtain ⟨M, hM⟩ : ∃ M, 2 ^ X = M := ⟨_, rfl⟩
  rw [hM] at HO4 hMp hM0 hml
  try rw [hM]
  have HML := hideN hml
  clear hold hown hrd4 hb4 hM hml
  go_wp2_with fail
  refine (pick_any R v2 bs2 p4 12 w4 HR4.out (by omega) (by omega)).mono ?_
  rintro e w5 ⟨x2, rfl, hx20, hx21, -, hrd5, hg5, hs5⟩
  have hown5 := ownb_keptOld HO4.out hg5 (fun k e => by have := Option.some.inj e; omega)
  have HT5 : Hid (Tab w5 g 0 cap ms) := ⟨(ownb_cell hown5 (i := 0) (by rw [HML.out]; exact hM0)).2.2, fun i hi => by rw [Nat.zero_add]; exact (ownb_cell hown5 hi).1⟩
  have hcap : M ≤ cap := by have := HT5.out.le; have := HML.out; omega
  have HB5 : Hid (Below w.heap.size w w5) := HB4.out.grown hg5 HB4.out.size (fun k e => by have := Option.some.inj e; omega)
  have hgl : g < w5.heap.size := (hown5.blk g rfl).2
  clear hrd5 hg5 hs5 hown5 hx21
  by_cases hxz : x2 = 0
  · subst hxz
    go_wp2_with fail
    have hi1 : (1 : Int) ≤ (M : Int) := by omega
    have hc1 : (M : Int) ≤ (cap : Int) := by omega
    by_cases hc : cap = 1
    · have hM1 : M = 1 := by omega
      have HTX : Hid (Tab w5.drew g 0 0 (ms.drop 1)) := ⟨by rw [List.length_drop, HML.out]; omega, fun i hi => by rw [List.length_drop, HML.out] at hi; omega⟩
      subst hM1
      subst hc
      refine region_U (fin := 4) (S := fun _ => True) (by kernel_rfl) trivial (fun hHeld => ?_)
      clear hHeld
      have tt : True := trivial
      refine takeU (i := 0) (v := .int .i64 (X : Int)) rfl (by rfl) (by kernel_rfl) (by kernel_rfl) (by kernel_rfl) (by kernel_rfl) (by kernel_rfl) (fun _ _ _ h => h) (Or.inl ⟨by rfl, fun w hS => by have tt := hS; go_simp⟩) tt ?_
      simp only [List.getElem_toArray, List.getElem_cons_zero, Act.put, List.setIfInBounds_toArray, List.set_cons_zero, List.set_cons_succ]
      refine takeU (i := 1) (v := .slice (some ⟨g, 0, none⟩) 1 1) rfl (by rfl) (by kernel_rfl) (by kernel_rfl) (by kernel_rfl) (by kernel_rfl) (by kernel_rfl) (fun _ _ _ h => h) (Or.inl ⟨by rfl, fun w hS => by have tt := hS; go_simp⟩) tt ?_
      simp only [List.getElem_toArray, List.getElem_cons_zero, List.getElem_cons_succ, Act.put, List.setIfInBounds_toArray, List.set_cons_zero, List.set_cons_succ]
      refine takeU (i := 2) (v := .slice (some ⟨g, 0, none⟩) 0 0) rfl (by rfl) (by kernel_rfl) (by kernel_rfl) (by kernel_rfl) (by kernel_rfl) (by kernel_rfl) (fun _ _ _ h => h) (Or.inl ⟨by rfl, fun w hS => by have tt := hS; go_simp⟩) tt ?_
      simp only [List.getElem_toArray, List.getElem_cons_zero, List.getElem_cons_succ, Act.put, List.setIfInBounds_toArray, List.set_cons_zero, List.set_cons_succ]
      refine oneU (i := 3) (by kernel_rfl) rfl (by rfl) ?_
      simp only [List.getElem_toArray, List.getElem_cons_zero, List.getElem_cons_succ]
      go_simp
      refine oneU (i := 4) (by kernel_rfl) rfl (by rfl) ?_
      simp only [List.getElem_toArray, List.getElem_cons_zero, List.getElem_cons_succ]
      go_simp
      refine doneU (by kernel_rfl) ?_ _
      go_wp2
      exact bodyPost_ret (v := .tuple #[.int .i64 (X : Int), .slice (some ⟨g, 0, none⟩) 0 0]) (by simp [results, Try.results11, go_sem]) rfl ⟨X, g, 0, 0, 0, ms.drop 1, rfl, hX, by rw [List.length_drop, HML.out], by omega, HTX.out, hgl, belNext HB5.out (below_drewN (Below.refl _ _) 1)⟩
    · have HTX : Hid (Tab w5.drew g 1 (cap - 1) (ms.drop 1)) := by have h := (HT5.out.below hgl (below_drewN (Below.refl _ _) 1)).drop 1; rw [Nat.zero_add] at h; exact h
      refine region_U (fin := 4) (S := fun _ => True) (by kernel_rfl) trivial (fun hHeld => ?_)
      clear hHeld
      have tt : True := trivial
      refine takeU (i := 0) (v := .int .i64 (X : Int)) rfl (by rfl) (by kernel_rfl) (by kernel_rfl) (by kernel_rfl) (by kernel_rfl) (by kernel_rfl) (fun _ _ _ h => h) (Or.inl ⟨by rfl, fun w hS => by have tt := hS; go_simp⟩) tt ?_
      simp only [List.getElem_toArray, List.getElem_cons_zero, Act.put, List.setIfInBounds_toArray, List.set_cons_zero, List.set_cons_succ]
      refine takeU (i := 1) (v := .slice (some ⟨g, 0, none⟩) M cap) rfl (by rfl) (by kernel_rfl) (by kernel_rfl) (by kernel_rfl) (by kernel_rfl) (by kernel_rfl) (fun _ _ _ h => h) (Or.inl ⟨by rfl, fun w hS => by have tt := hS; go_simp⟩) tt ?_
      simp only [List.getElem_toArray, List.getElem_cons_zero, List.getElem_cons_succ, Act.put, List.setIfInBounds_toArray, List.set_cons_zero, List.set_cons_succ]
      refine takeU (i := 2) (v := .slice (some ⟨g, 1, none⟩) (M - 1) (cap - 1)) rfl (by rfl) (by kernel_rfl) (by kernel_rfl) (by kernel_rfl) (by kernel_rfl) (by kernel_rfl) (fun _ _ _ h => h) (Or.inl ⟨by rfl, fun w hS => by have tt := hS; go_simp⟩) tt ?_
      simp only [List.getElem_toArray, List.getElem_cons_zero, List.getElem_cons_succ, Act.put, List.setIfInBounds_toArray, List.set_cons_zero, List.set_cons_succ]
      refine oneU (i := 3) (by kernel_rfl) rfl (by rfl) ?_
      simp only [List.getElem_toArray, List.getElem_cons_zero, List.getElem_cons_succ]
      go_simp
      refine oneU (i := 4) (by kernel_rfl) rfl (by rfl) ?_
      simp only [List.getElem_toArray, List.getElem_cons_zero, List.getElem_cons_succ]
      go_simp
      refine doneU (by kernel_rfl) ?_ _
      go_wp2
      exact bodyPost_ret (v := .tuple #[.int .i64 (X : Int), .slice (some ⟨g, 1, none⟩) (M - 1) (cap - 1)]) (by simp [results, Try.results11, go_sem]) rfl ⟨X, g, 1, M - 1, cap - 1, ms.drop 1, rfl, hX, by rw [List.length_drop, HML.out], by omega, HTX.out, hgl, belNext HB5.out (below_drewN (Below.refl _ _) 1)⟩
  · have hxb : (x2 == 0) = false := by simpa using hxz
    go_wp2_with fail
    exact bodyPost_ret (v := .tuple #[.int .i64 (X : Int), .slice (some ⟨g, 0, none⟩) M cap]) (by simp [results, Try.results11, go_sem]) rfl ⟨X, g, 0, M, cap, ms, rfl, hX, HML.out, hMp, HT5.out, hgl, HB5.out⟩

end Go.Proofs.Ytmkbcfiechoebaa

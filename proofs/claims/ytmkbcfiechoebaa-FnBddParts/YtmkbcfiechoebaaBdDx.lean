/-
  A row of truths drawn (l13Model); a diagram and a way drawn (DrawBddIs).
-/
import Derived.Test.YtmkbcfiechoebaaBdDw
namespace Go.Proofs.Ytmkbcfiechoebaa
open Go.RowKit Go.Deep
set_option linter.unusedVariables false

attribute [local go_sem] Oper.semAt_some

def RowPost (R : Nat) (v : Value) (bs : List Int) (p : Nat) (w : World) (e : Ending) (w' : World) : Prop :=
  ∃ g cap ms p', e = .returned (.slice (some ⟨g, 0, none⟩) ms.length cap) ∧ Ownb w' w.heap.size (.slice (some ⟨g, 0, none⟩) ms.length cap) ms ∧ ms.length ≤ 1000 ∧ p' ≤ p + 1000 ∧ Rd w' R v bs p' ∧ Old R w.heap.size w w'

set_option maxRecDepth 100000 in
set_option maxHeartbeats 4000000 in
theorem l13Row_any (R : Nat) (v : Value) (bs : List Int) (p : Nat) (n : Int) (w : World) (hr : Rd w R v bs p) (hvb : ∀ ao n cap b off, v = .slice ao n cap → ao = some ⟨b, off, none⟩ → b < w.heap.size) (hp : p ≤ 500000) (hn : n ≤ 1000) :
    Calls Try.prog 59 #[.pointer (some ⟨R, 0, none⟩), .int .i64 n] w (RowPost R v bs p w) := by
  have hRlt := hr.lt
  have HVB : Hid (∀ ao n cap b off, v = .slice ao n cap → ao = some ⟨b, off, none⟩ → b < w.heap.size) := hvb
  have HR0 : Hid (Rd (w.alloc (.cells #[] 4)) R v bs p) := hr.grown (World.grownBy_alloc w _ none) (by simp) (by simp)
  have HO0 : Hid (Ownb (w.alloc (.cells #[] 4)) w.heap.size (.slice (some ⟨w.heap.size, 0, none⟩) 0 0) []) := ownb_empty w
  have HD0 : Hid (Old R w.heap.size w (w.alloc (.cells #[] 4))) := (Old.refl R w.heap.size w).below (belOne _ _) (Nat.le_refl _)
  obtain ⟨i0, hi, hz0, hz1, hz2⟩ := info_parts info_bool
  clear hr hvb
  go_enter Try.func59, Try.ntmps59
  go_wp2_with fail
  go_loopw [1, 5] (fun m o wr => ∃ (g : Nat) (cap : Nat) (ms : List Bool) (k : Int) (p' : Nat), o = .slice (some ⟨g, 0, none⟩) ms.length cap ∧ m = .int .i64 k ∧ (k ≤ 1000 ∧ (0 ≤ k → (ms.length : Int) + k ≤ 1000)) ∧ ms.length ≤ 1000 ∧ p' ≤ p + ms.length ∧ Ownb wr w.heap.size (.slice (some ⟨g, 0, none⟩) ms.length cap) ms ∧ Rd wr R v bs p' ∧ Old R w.heap.size w wr) (fun m _ _ => (intOf m).toNat)
  case atStart => exact ⟨_, 0, [], n, p, rfl, rfl, ⟨hn, by simp; omega⟩, by simp, by simp, HO0.out, HR0.out, HD0.out⟩
  case round =>
    obtain ⟨ga, cap, ms, k, p', rfl, rfl, hlen, hms, hp', hown, hrd, hold⟩ := hrel
    have HO : Hid (Ownb wr w.heap.size (.slice (some ⟨ga, 0, none⟩) ms.length cap) ms) := hown
    have HRD : Hid (Rd wr R v bs p') := hrd
    have HD : Hid (Old R w.heap.size w wr) := hold
    have hsz := hold.size
    clear hown hrd hold
    by_cases hk : 0 < k
    · have hlk := hlen.2 (by omega)
      have hl1 := hlen.1
      go_wp2_with fail
      refine (pick_any R v bs p' _ _ HRD.out (by omega) (by omega)).mono ?_
      rintro e w2 ⟨x, rfl, hx0, hx1, hx2, hrd2, hg2, hs2⟩
      have HR2 : Hid (Rd w2 R v bs (p' + 1)) := hrd2
      have HO2 : Hid (Ownb w2 w.heap.size (.slice (some ⟨ga, 0, none⟩) ms.length cap) ms) := ownb_keptOld HO.out hg2 (fun k e => by have := Option.some.inj e; omega)
      have HD2 : Hid (Old R w.heap.size w w2) := HD.out.grown hg2 hsz (fun q e => .inr (Option.some.inj e).symm)
      have hsz2 : w.heap.size ≤ w2.heap.size := by omega
      clear hrd2 hg2 hx1 hx2 hs2
      generalize hB : (x == 0) = bb
      have HBB : Hid ((x == 0) = bb) := hB
      go_wp2_with (at_builtin; refine wpList_append_lies _ rfl _ _ 23 rfl w.heap.size 4 i0 (.bool false) 1 1 Try.underlying23 hi hz0 hz1 hz2 rfl (by decide) _ ms.length (ms.map Value.bool) rfl (World.ownsRow.alloc HO2.out _) ⟨w2.heap.size, 0, none⟩ 1 1 [.bool bb] rfl rfl (news1G _ _ _) (bool_one _) (by decide) (by unfold maxLen; omega) (by omega) (by simp; omega) _ rfl ?_; intro g gcap w4 hown4 hgrow4 hat4 hlt4)
      have HOF : Hid (Ownb w4 w.heap.size (.slice (some ⟨g, 0, none⟩) (ms.length + 1) gcap) (ms ++ [bb])) := ownb_snoc hown4
      have HRF : Hid (Rd w4 R v bs (p' + 1)) := (HR2.out.grown (World.grownBy_alloc w2 _ none) (by simp) (by simp)).own hgrow4 hRlt HVB.out (fun q e => (World.ownsRow.lt HO2.out q e).1)
      have HDF : Hid (Old R w.heap.size w w4) := (HD2.out.below (belOne _ _) hsz2).grown hgrow4 (by simp; omega) (fun q e => .inl (World.ownsRow.lt HO2.out q e).1)
      clear hown4 hgrow4 hat4 hlt4 hlen
      go_wp2
      go_roundw
      case rel => exact ⟨g, gcap, ms ++ [bb], k - 1, p' + 1, by simp, by go_num, ⟨by omega, fun _ => by simp; omega⟩, by simp; omega, by simp; omega, by rw [List.length_append]; exact HOF.out, HRF.out, HDF.out⟩
      case measure => simp [intOf]; omega
    · go_wp2
      go_ret
      exact ⟨ga, cap, ms, p', rfl, HO.out, hms, by omega, HRD.out, HD.out⟩

theorem DwS.old {w V V' : World} {B R : Nat} {v : Value} {bs : List Int} {p p' : Nat} {vi root : Int} {ao : Option Addr} {n cap : Nat} {ns : List Nd} (h : DwS w V B R v bs p vi root ao n cap ns) (hrd : Rd V' R v bs p') (ho : Old R V.heap.size V V') : DwS w V' B R v bs p' vi root ao n cap ns :=
  ⟨(ho.2.2.2.2 _ h.q.lt (by have := h.hR; omega)).trans h.q, (ho.2.2.2.2 _ h.b.lt h.hB).trans h.b, row_of_block h.row (fun k e => ho.2.2.2.2 k (World.ownsRow.lt h.row k e).2 (h.nr k e).1), h.nr, hrd,
    ⟨ho.1.trans h.be.os, ho.2.1.trans h.be.tape, ho.2.2.1.trans h.be.output, by have := h.be.size; have := ho.2.2.2.1; omega, fun k hk => (ho.2.2.2.2 k (by have := h.be.size; omega) (by have := h.hR; omega)).trans (h.be.block k hk)⟩, h.hR, h.hB, h.hQB⟩

/-- A drawn diagram and a way. -/
def DrawnI (w : World) (e : Ending) (w' : World) : Prop :=
  ∃ (vi root : Int) (ao : Option Addr) (n cap : Nat) (ns : List Nd) (g c2 : Nat) (ms : List Bool), e = .returned (.tuple #[.agg #[.int .i64 vi, .slice ao n cap, .int .i64 root], .slice (some ⟨g, 0, none⟩) ms.length c2]) ∧ Sm vi ∧ Sm root ∧ n ≤ 80 ∧ ns.length = n ∧ (∀ q ∈ ns, SmN q) ∧ w'.ownsRow w.heap.size 33 3 (.slice ao n cap) n (ndV ns) ∧ Below w.heap.size w w' ∧ Ownb w' w.heap.size (.slice (some ⟨g, 0, none⟩) ms.length c2) ms ∧ ms.length ≤ 1000

set_option maxRecDepth 100000 in
set_option maxHeartbeats 8000000 in
theorem drawBddIs_any (v : Value) (bs : List Int) (w : World) (hv : IsBytes w v bs) (hn : bs.length ≤ 1048576) (hal : ∀ ao n cap b off, v = .slice ao n cap → ao = some ⟨b, off, none⟩ → b < w.heap.size) :
    Calls Try.prog 18 #[v] w (DrawnI w) := by
  obtain ⟨W1, hW1⟩ : ∃ W1, W1 = w.alloc (.cells #[.int .i64 0, .slice none 0 0, .int .i64 0] 28) := ⟨_, rfl⟩
  have HB1 : Hid (Below w.heap.size w W1) := by rw [hW1]; exact belOne _ _
  have HQ1 : Hid (BlkD W1 w.heap.size (.int .i64 0) (.slice none 0 0) (.int .i64 0)) := by rw [hW1]; exact BlkD.new _ _ _ _
  have HOP := hideN (l1Open_any w.heap.size v bs W1 (isBytes_below hv HB1.out) hn hal)
  have HW1 := hideN hW1
  obtain ⟨aoc, capc, rfl, _⟩ := hv
  clear hal hW1
  go_enter Try.func18, Try.ntmps18
  go_wp2_with fail
  rw [← HW1.out]
  refine HOP.out.mono ?_
  rintro e w2 ⟨v2, bs2, rfl, hrd2, hb2, hs2, hal2⟩
  have HAN := hideN (l13AnyBdd_any W1.heap.size v2 bs2 0 w2 hrd2 (fun ao n cap b off h1 h2 => by have := hal2 ao n cap b off h1 h2; have := HQ1.out.lt; omega) (by omega))
  have HAL := hideN hal2
  have HQ2 := hideN (HQ1.out.below hb2)
  have HB2 := hideN (belNext HB1.out hb2)
  have hs12 : w.heap.size < W1.heap.size := HQ1.out.lt
  have hs22 : W1.heap.size < w2.heap.size := by omega
  clear hrd2 hb2 hs2 hal2
  obtain ⟨R, hRR⟩ : ∃ R, W1.heap.size = R := ⟨_, rfl⟩
  rw [hRR] at HAN hs12 hs22 ⊢
  clear hRR
  go_wp2_with fail
  refine HAN.out.mono ?_
  rintro e w3 ⟨vi, root, ao, n, cap, p', rfl, hsv, hsr, hn80, hown, hp', hrd3, hold⟩
  obtain ⟨ns, hnl, hsm, hrow⟩ := hown.nodes
  obtain ⟨V3, hV3⟩ : ∃ V3, V3 = w3.alloc (.cells #[.int .i64 vi, .slice ao n cap, .int .i64 root] 28) := ⟨_, rfl⟩
  have hb33 : Below w3.heap.size w3 V3 := by rw [hV3]; exact belOne _ _
  have hs3 := hold.2.2.2.1
  have hs23 : w2.heap.size ≤ w3.heap.size := hs3
  have HDW : Hid (DwS w V3 w3.heap.size R v2 bs2 p' vi root ao n cap ns) := by
    refine ⟨?_, by rw [hV3]; exact BlkD.new _ _ _ _, row_base (row_below hrow hb33) (by omega), fun k e => by have := (World.ownsRow.lt hrow k e).1; omega, hrd3.grown (row := none) ⟨hb33.os, hb33.tape, hb33.output, hb33.size, fun k hk _ => hb33.block k hk⟩ (by simp) (by simp), ?_, hs12, by omega, by omega⟩
    · exact (hb33.block _ (by omega)).trans ((hold.2.2.2.2 _ (by omega) (by omega)).trans HQ2.out)
    · exact belNext ⟨hold.1.trans HB2.out.os, hold.2.1.trans HB2.out.tape, hold.2.2.1.trans HB2.out.output, by omega, fun k hk => (hold.2.2.2.2 k (by omega) (by omega)).trans (HB2.out.block k hk)⟩ hb33
  have HNL := hideN hnl
  have HSM := hideN hsm
  have HV3 := hideN hV3
  have hvl := hsv.1
  have hvh := hsv.2
  clear hold hown hrow hnl hsm hV3 hb33 hs3 hrd3
  obtain ⟨B, hBB⟩ : ∃ B, w3.heap.size = B := ⟨_, rfl⟩
  rw [hBB] at HDW
  have HCL : Hid (∀ V, Below V3.heap.size V3 V → V.cell? ⟨B, 0, none⟩ = some (.int .i64 vi) ∧ V.cell? ⟨B, 1, none⟩ = some (.slice ao n cap) ∧ V.cell? ⟨B, 2, none⟩ = some (.int .i64 root) ∧ B < V.heap.size) := fun V hV => ⟨(HDW.out.b.below hV).c0, (HDW.out.b.below hV).c1, (HDW.out.b.below hV).c2, (HDW.out.b.below hV).lt⟩
  have HV3' : Hid (w3.alloc (.cells #[.int .i64 vi, .slice ao n cap, .int .i64 root] 28) = V3) := HV3.out.symm
  obtain ⟨b0, b1, b2, b3⟩ := HCL.out V3 (Below.refl _ _)
  by_cases hv0 : vi < 0
  · go_upto_region 6 with fail
    rw [HV3'.out]
    obtain ⟨u0, u1, u2, u3⟩ := HDW.out.drew.cells
    refine region_U (fin := 5) (S := fun V => V.cell? ⟨B, 0, none⟩ = some (.int .i64 vi) ∧ V.cell? ⟨B, 1, none⟩ = some (.slice ao n cap) ∧ V.cell? ⟨B, 2, none⟩ = some (.int .i64 root) ∧ B < V.heap.size) (by kernel_rfl) ⟨u0, u1, u2, u3⟩ (fun hHeld => ?_)
    clear hHeld
    refine takeU (i := 0) (v := .agg #[.int .i64 vi, .slice ao n cap, .int .i64 root]) rfl (by rfl) (by kernel_rfl) (by kernel_rfl) (reach_one (by kernel_rfl)) (by kernel_rfl) (by kernel_rfl) (fun _ _ _ h => h) (Or.inl ⟨by rfl, fun w hS => by obtain ⟨u0, u1, u2, u3⟩ := hS; go_simp⟩) ⟨u0, u1, u2, u3⟩ ?_
    simp only [List.getElem_toArray, List.getElem_cons_zero, Act.put, List.setIfInBounds_toArray, List.set_cons_zero, List.set_cons_succ]
    refine takeU (i := 1) (v := .pointer (some ⟨R, 0, none⟩)) rfl (by rfl) (by kernel_rfl) (by kernel_rfl) (reach_one (by kernel_rfl)) (by kernel_rfl) (by kernel_rfl) (fun _ _ _ h => h) (Or.inl ⟨by rfl, fun w hS => by obtain ⟨u0, u1, u2, u3⟩ := hS; go_simp⟩) ⟨u0, u1, u2, u3⟩ ?_
    simp only [List.getElem_toArray, List.getElem_cons_zero, List.getElem_cons_succ, Act.put, List.setIfInBounds_toArray, List.set_cons_zero, List.set_cons_succ]
    refine takeU (i := 2) (v := .int .i64 1) rfl (by rfl) (by kernel_rfl) (by kernel_rfl) (reach_one (by kernel_rfl)) (by kernel_rfl) (by kernel_rfl) (fun _ _ _ h => h) (Or.inl ⟨by rfl, fun w hS => by obtain ⟨u0, u1, u2, u3⟩ := hS; go_simp⟩) ⟨u0, u1, u2, u3⟩ ?_
    simp only [List.getElem_toArray, List.getElem_cons_zero, List.getElem_cons_succ, Act.put, List.setIfInBounds_toArray, List.set_cons_zero, List.set_cons_succ]
    refine oneU (i := 3) (by kernel_rfl) rfl (by rfl) ?_
    simp only [List.getElem_toArray, List.getElem_cons_zero, List.getElem_cons_succ]
    go_simp
    refine (l13Row_any R v2 bs2 p' 1 V3.drew HDW.out.drew.rd (fun ao n cap b off h1 h2 => by have := HAL.out ao n cap b off h1 h2; have := HDW.out.hR; have := HDW.out.drew.rd.lt; omega) (by omega) (by omega)).mono ?_
    rintro e w7 ⟨g, c7, ms, p7, rfl, hown7, hml7, hp7, hrd7, hold7⟩
    have HD7 := hideN (HDW.out.drew.old hrd7 hold7)
    have hgb := hown7.blk g rfl
    have hqlt := HDW.out.drew.q.lt
    have HOZ : Hid (Ownb (set3 w7 w.heap.size (.int .i64 vi) (.slice ao n cap) (.int .i64 root)) w.heap.size (.slice (some ⟨g, 0, none⟩) ms.length c7) ms) := (hown7.of_block (fun k e => set3_other _ _ _ (by have := hown7.blk k e; omega))).base (by omega)
    have HML := hideN hml7
    clear u0 u1 u2 u3
    obtain ⟨u0, u1, u2, u3⟩ := HD7.out.cells
    refine ⟨⟨u0, u1, u2, u3⟩, ?_⟩
    clear hrd7 hold7 hown7 hml7 hgb hqlt
    have HQ3 := hideN (HD7.out.q.set (.int .i64 vi) (.slice ao n cap) (.int .i64 root))
    have HBE := hideN (set3_below HD7.out.be (Nat.le_refl _) (.int .i64 vi) (.slice ao n cap) (.int .i64 root))
    have HRZ : Hid ((set3 w7 w.heap.size (.int .i64 vi) (.slice ao n cap) (.int .i64 root)).ownsRow w.heap.size 33 3 (.slice ao n cap) n (ndV ns)) :=
      row_of_block HD7.out.row (fun k e => set3_other _ _ _ (HD7.out.nr k e).2)
    have hBq := HD7.out.hQB
    have m0 := HD7.out.q.c0
    have m1 := HD7.out.q.c1
    have m2 := HD7.out.q.c2
    have m3 := HD7.out.q.f 0
    have m4 := HD7.out.q.f 1
    have m5 := HD7.out.q.f 2
    have m6 := HD7.out.q.lt
    have hne1 : B ≠ w.heap.size := by omega
    have hne2 : w.heap.size ≠ B := by omega
    refine oneU (i := 4) (by kernel_rfl) rfl (by rfl) ?_
    simp only [List.getElem_toArray, List.getElem_cons_zero, List.getElem_cons_succ]
    go_simp
    refine oneU (i := 5) (by kernel_rfl) rfl (by rfl) ?_
    simp only [List.getElem_toArray, List.getElem_cons_zero, List.getElem_cons_succ]
    go_simp
    refine doneU (by kernel_rfl) ?_ _
    have t0 := HQ3.out.c0
    have t1 := HQ3.out.c1
    have t2 := HQ3.out.c2
    unfold set3 at t0 t1 t2
    go_wp2
    exact bodyPost_ret (v := .tuple #[.agg #[.int .i64 vi, .slice ao n cap, .int .i64 root], .slice (some ⟨g, 0, none⟩) ms.length c7]) (by simp [results, Try.results18, go_sem, t0, t1, t2]) rfl ⟨vi, root, ao, n, cap, ns, g, c7, ms, rfl, hsv, hsr, hn80, HNL.out, HSM.out, HRZ.out, HBE.out, HOZ.out, HML.out⟩
  · go_wp2_with fail
    rw [HV3'.out]
    refine (pick_any R v2 bs2 p' 16 V3 HDW.out.rd (by omega) (by omega)).mono ?_
    rintro e w4 ⟨x1, rfl, hx0, hx1, -, hrd4, hg4, hs4⟩
    have HD4 := hideN (HDW.out.pick hrd4 hg4)
    clear hrd4 hg4 hs4 HCL hx1
    by_cases hxz : x1 = 0
    · subst hxz
      clear b0 b1 b2 b3
      obtain ⟨b0, b1, b2, b3⟩ := HD4.out.cells
      go_upto_region 6 with fail
      obtain ⟨u0, u1, u2, u3⟩ := HD4.out.drew.cells
      refine region_U (fin := 5) (S := fun V => V.cell? ⟨B, 0, none⟩ = some (.int .i64 vi) ∧ V.cell? ⟨B, 1, none⟩ = some (.slice ao n cap) ∧ V.cell? ⟨B, 2, none⟩ = some (.int .i64 root) ∧ B < V.heap.size) (by kernel_rfl) ⟨u0, u1, u2, u3⟩ (fun hHeld => ?_)
      clear hHeld
      refine takeU (i := 0) (v := .agg #[.int .i64 vi, .slice ao n cap, .int .i64 root]) rfl (by rfl) (by kernel_rfl) (by kernel_rfl) (reach_one (by kernel_rfl)) (by kernel_rfl) (by kernel_rfl) (fun _ _ _ h => h) (Or.inl ⟨by rfl, fun w hS => by obtain ⟨u0, u1, u2, u3⟩ := hS; go_simp⟩) ⟨u0, u1, u2, u3⟩ ?_
      simp only [List.getElem_toArray, List.getElem_cons_zero, Act.put, List.setIfInBounds_toArray, List.set_cons_zero, List.set_cons_succ]
      refine takeU (i := 1) (v := .pointer (some ⟨R, 0, none⟩)) rfl (by rfl) (by kernel_rfl) (by kernel_rfl) (reach_one (by kernel_rfl)) (by kernel_rfl) (by kernel_rfl) (fun _ _ _ h => h) (Or.inl ⟨by rfl, fun w hS => by obtain ⟨u0, u1, u2, u3⟩ := hS; go_simp⟩) ⟨u0, u1, u2, u3⟩ ?_
      simp only [List.getElem_toArray, List.getElem_cons_zero, List.getElem_cons_succ, Act.put, List.setIfInBounds_toArray, List.set_cons_zero, List.set_cons_succ]
      refine takeU (i := 2) (v := .int .i64 1) rfl (by rfl) (by kernel_rfl) (by kernel_rfl) (reach_one (by kernel_rfl)) (by kernel_rfl) (by kernel_rfl) (fun _ _ _ h => h) (Or.inl ⟨by rfl, fun w hS => by obtain ⟨u0, u1, u2, u3⟩ := hS; go_simp⟩) ⟨u0, u1, u2, u3⟩ ?_
      simp only [List.getElem_toArray, List.getElem_cons_zero, List.getElem_cons_succ, Act.put, List.setIfInBounds_toArray, List.set_cons_zero, List.set_cons_succ]
      refine oneU (i := 3) (by kernel_rfl) rfl (by rfl) ?_
      simp only [List.getElem_toArray, List.getElem_cons_zero, List.getElem_cons_succ]
      go_simp
      refine (l13Row_any R v2 bs2 (p' + 1) 1 w4.drew HD4.out.drew.rd (fun ao n cap b off h1 h2 => by have := HAL.out ao n cap b off h1 h2; have := HD4.out.hR; have := HD4.out.drew.rd.lt; omega) (by omega) (by omega)).mono ?_
      rintro e w7 ⟨g, c7, ms, p7, rfl, hown7, hml7, hp7, hrd7, hold7⟩
      have HD7 := hideN (HD4.out.drew.old hrd7 hold7)
      have hgb := hown7.blk g rfl
      have hqlt := HD4.out.drew.q.lt
      have HOZ : Hid (Ownb (set3 w7 w.heap.size (.int .i64 vi) (.slice ao n cap) (.int .i64 root)) w.heap.size (.slice (some ⟨g, 0, none⟩) ms.length c7) ms) := (hown7.of_block (fun k e => set3_other _ _ _ (by have := hown7.blk k e; omega))).base (by omega)
      have HML := hideN hml7
      clear u0 u1 u2 u3
      obtain ⟨u0, u1, u2, u3⟩ := HD7.out.cells
      refine ⟨⟨u0, u1, u2, u3⟩, ?_⟩
      clear hrd7 hold7 hown7 hml7 hgb hqlt
      have HQ3 := hideN (HD7.out.q.set (.int .i64 vi) (.slice ao n cap) (.int .i64 root))
      have HBE := hideN (set3_below HD7.out.be (Nat.le_refl _) (.int .i64 vi) (.slice ao n cap) (.int .i64 root))
      have HRZ : Hid ((set3 w7 w.heap.size (.int .i64 vi) (.slice ao n cap) (.int .i64 root)).ownsRow w.heap.size 33 3 (.slice ao n cap) n (ndV ns)) :=
        row_of_block HD7.out.row (fun k e => set3_other _ _ _ (HD7.out.nr k e).2)
      have hBq := HD7.out.hQB
      have m0 := HD7.out.q.c0
      have m1 := HD7.out.q.c1
      have m2 := HD7.out.q.c2
      have m3 := HD7.out.q.f 0
      have m4 := HD7.out.q.f 1
      have m5 := HD7.out.q.f 2
      have m6 := HD7.out.q.lt
      have hne1 : B ≠ w.heap.size := by omega
      have hne2 : w.heap.size ≠ B := by omega
      refine oneU (i := 4) (by kernel_rfl) rfl (by rfl) ?_
      simp only [List.getElem_toArray, List.getElem_cons_zero, List.getElem_cons_succ]
      go_simp
      refine oneU (i := 5) (by kernel_rfl) rfl (by rfl) ?_
      simp only [List.getElem_toArray, List.getElem_cons_zero, List.getElem_cons_succ]
      go_simp
      refine doneU (by kernel_rfl) ?_ _
      have t0 := HQ3.out.c0
      have t1 := HQ3.out.c1
      have t2 := HQ3.out.c2
      unfold set3 at t0 t1 t2
      go_wp2
      exact bodyPost_ret (v := .tuple #[.agg #[.int .i64 vi, .slice ao n cap, .int .i64 root], .slice (some ⟨g, 0, none⟩) ms.length c7]) (by simp [results, Try.results18, go_sem, t0, t1, t2]) rfl ⟨vi, root, ao, n, cap, ns, g, c7, ms, rfl, hsv, hsr, hn80, HNL.out, HSM.out, HRZ.out, HBE.out, HOZ.out, HML.out⟩
    · have hxb : (x1 == 0) = false := by simpa using hxz
      clear b0 b1 b2 b3
      obtain ⟨b0, b1, b2, b3⟩ := HD4.out.cells
      go_upto_region 6 with fail
      obtain ⟨u0, u1, u2, u3⟩ := HD4.out.drew.cells
      refine region_U (fin := 5) (S := fun V => V.cell? ⟨B, 0, none⟩ = some (.int .i64 vi) ∧ V.cell? ⟨B, 1, none⟩ = some (.slice ao n cap) ∧ V.cell? ⟨B, 2, none⟩ = some (.int .i64 root) ∧ B < V.heap.size) (by kernel_rfl) ⟨u0, u1, u2, u3⟩ (fun hHeld => ?_)
      clear hHeld
      refine takeU (i := 0) (v := .agg #[.int .i64 vi, .slice ao n cap, .int .i64 root]) rfl (by rfl) (by kernel_rfl) (by kernel_rfl) (reach_one (by kernel_rfl)) (by kernel_rfl) (by kernel_rfl) (fun _ _ _ h => h) (Or.inl ⟨by rfl, fun w hS => by obtain ⟨u0, u1, u2, u3⟩ := hS; go_simp⟩) ⟨u0, u1, u2, u3⟩ ?_
      simp only [List.getElem_toArray, List.getElem_cons_zero, Act.put, List.setIfInBounds_toArray, List.set_cons_zero, List.set_cons_succ]
      refine takeU (i := 1) (v := .pointer (some ⟨R, 0, none⟩)) rfl (by rfl) (by kernel_rfl) (by kernel_rfl) (reach_one (by kernel_rfl)) (by kernel_rfl) (by kernel_rfl) (fun _ _ _ h => h) (Or.inl ⟨by rfl, fun w hS => by obtain ⟨u0, u1, u2, u3⟩ := hS; go_simp⟩) ⟨u0, u1, u2, u3⟩ ?_
      simp only [List.getElem_toArray, List.getElem_cons_zero, List.getElem_cons_succ, Act.put, List.setIfInBounds_toArray, List.set_cons_zero, List.set_cons_succ]
      refine takeU (i := 2) (v := .int .i64 vi) rfl (by rfl) (by kernel_rfl) (by kernel_rfl) (reach_one (by kernel_rfl)) (by kernel_rfl) (by kernel_rfl) (fun _ _ _ h => h) (Or.inl ⟨by rfl, fun w hS => by obtain ⟨u0, u1, u2, u3⟩ := hS; go_simp⟩) ⟨u0, u1, u2, u3⟩ ?_
      simp only [List.getElem_toArray, List.getElem_cons_zero, List.getElem_cons_succ, Act.put, List.setIfInBounds_toArray, List.set_cons_zero, List.set_cons_succ]
      refine oneU (i := 3) (by kernel_rfl) rfl (by rfl) ?_
      simp only [List.getElem_toArray, List.getElem_cons_zero, List.getElem_cons_succ]
      go_simp
      refine (l13Row_any R v2 bs2 (p' + 1) vi w4.drew HD4.out.drew.rd (fun ao n cap b off h1 h2 => by have := HAL.out ao n cap b off h1 h2; have := HD4.out.hR; have := HD4.out.drew.rd.lt; omega) (by omega) (by omega)).mono ?_
      rintro e w7 ⟨g, c7, ms, p7, rfl, hown7, hml7, hp7, hrd7, hold7⟩
      have HD7 := hideN (HD4.out.drew.old hrd7 hold7)
      have hgb := hown7.blk g rfl
      have hqlt := HD4.out.drew.q.lt
      have HOZ : Hid (Ownb (set3 w7 w.heap.size (.int .i64 vi) (.slice ao n cap) (.int .i64 root)) w.heap.size (.slice (some ⟨g, 0, none⟩) ms.length c7) ms) := (hown7.of_block (fun k e => set3_other _ _ _ (by have := hown7.blk k e; omega))).base (by omega)
      have HML := hideN hml7
      clear u0 u1 u2 u3
      obtain ⟨u0, u1, u2, u3⟩ := HD7.out.cells
      refine ⟨⟨u0, u1, u2, u3⟩, ?_⟩
      clear hrd7 hold7 hown7 hml7 hgb hqlt
      have HQ3 := hideN (HD7.out.q.set (.int .i64 vi) (.slice ao n cap) (.int .i64 root))
      have HBE := hideN (set3_below HD7.out.be (Nat.le_refl _) (.int .i64 vi) (.slice ao n cap) (.int .i64 root))
      have HRZ : Hid ((set3 w7 w.heap.size (.int .i64 vi) (.slice ao n cap) (.int .i64 root)).ownsRow w.heap.size 33 3 (.slice ao n cap) n (ndV ns)) :=
        row_of_block HD7.out.row (fun k e => set3_other _ _ _ (HD7.out.nr k e).2)
      have hBq := HD7.out.hQB
      have m0 := HD7.out.q.c0
      have m1 := HD7.out.q.c1
      have m2 := HD7.out.q.c2
      have m3 := HD7.out.q.f 0
      have m4 := HD7.out.q.f 1
      have m5 := HD7.out.q.f 2
      have m6 := HD7.out.q.lt
      have hne1 : B ≠ w.heap.size := by omega
      have hne2 : w.heap.size ≠ B := by omega
      refine oneU (i := 4) (by kernel_rfl) rfl (by rfl) ?_
      simp only [List.getElem_toArray, List.getElem_cons_zero, List.getElem_cons_succ]
      go_simp
      refine oneU (i := 5) (by kernel_rfl) rfl (by rfl) ?_
      simp only [List.getElem_toArray, List.getElem_cons_zero, List.getElem_cons_succ]
      go_simp
      refine doneU (by kernel_rfl) ?_ _
      have t0 := HQ3.out.c0
      have t1 := HQ3.out.c1
      have t2 := HQ3.out.c2
      unfold set3 at t0 t1 t2
      go_wp2
      exact bodyPost_ret (v := .tuple #[.agg #[.int .i64 vi, .slice ao n cap, .int .i64 root], .slice (some ⟨g, 0, none⟩) ms.length c7]) (by simp [results, Try.results18, go_sem, t0, t1, t2]) rfl ⟨vi, root, ao, n, cap, ns, g, c7, ms, rfl, hsv, hsr, hn80, HNL.out, HSM.out, HRZ.out, HBE.out, HOZ.out, HML.out⟩

end Go.Proofs.Ytmkbcfiechoebaa

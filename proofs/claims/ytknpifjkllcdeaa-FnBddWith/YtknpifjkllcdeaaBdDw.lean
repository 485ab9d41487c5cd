/-
  What the last operation of a region waits for itself: found without a search.
  A diagram, a variable and a truth drawn from bytes: DrawBddWith.
-/
import Derived.Test.YtknpifjkllcdeaaHoldU
import Derived.Test.YtknpifjkllcdeaaBdDv
import Derived.Deep.DeepCutAuto
namespace Go.Proofs.Ytknpifjkllcdeaa
open Go.RowKit Go.Deep
set_option linter.unusedVariables false

attribute [local go_sem] Oper.semAt_some

/-- What stands while more is drawn beside a diagram. -/
structure DwS (w V : World) (B R : Nat) (v : Value) (bs : List Int) (p : Nat) (vi root : Int) (ao : Option Addr) (n cap : Nat) (ns : List Nd) : Prop where
  q : BlkD V w.heap.size (.int .i64 0) (.slice none 0 0) (.int .i64 0)
  b : BlkD V B (.int .i64 vi) (.slice ao n cap) (.int .i64 root)
  row : V.ownsRow w.heap.size 50 3 (.slice ao n cap) n (ndV ns)
  nr : ∀ k, (Value.slice ao n cap).ownBlock = some k → k ≠ R ∧ k ≠ w.heap.size
  rd : Rd V R v bs p
  be : Below w.heap.size w V
  hR : w.heap.size < R
  hB : B ≠ R
  hQB : w.heap.size < B

theorem DwS.pick {w V V' : World} {B R : Nat} {v : Value} {bs : List Int} {p p' : Nat} {vi root : Int} {ao : Option Addr} {n cap : Nat} {ns : List Nd} (h : DwS w V B R v bs p vi root ao n cap ns) (hrd : Rd V' R v bs p') (hg : V.grownBy V' (some R)) : DwS w V' B R v bs p' vi root ao n cap ns :=
  ⟨(hg.block _ h.q.lt (fun e => by have := Option.some.inj e; have := h.hR; omega)).trans h.q, (hg.block _ h.b.lt (fun e => h.hB (Option.some.inj e))).trans h.b, row_of_block h.row (fun k e => hg.block k (World.ownsRow.lt h.row k e).2 (fun e2 => (h.nr k e).1 (Option.some.inj e2))), h.nr, hrd, h.be.grown hg h.be.size (fun k e => by have := Option.some.inj e; have := h.hR; omega), h.hR, h.hB, h.hQB⟩
theorem DwS.drew {w V : World} {B R : Nat} {v : Value} {bs : List Int} {p : Nat} {vi root : Int} {ao : Option Addr} {n cap : Nat} {ns : List Nd} (h : DwS w V B R v bs p vi root ao n cap ns) : DwS w V.drew B R v bs p vi root ao n cap ns :=
  ⟨h.q, h.b, row_below h.row (below_drewN (Below.refl _ _) 1), h.nr, ⟨h.rd.lt, h.rd.c0, h.rd.c1, h.rd.f1, h.rd.small, h.rd.form, h.rd.byte⟩, belNext h.be (below_drewN (Below.refl _ _) 1), h.hR, h.hB, h.hQB⟩

theorem DwS.cells {w V : World} {B R : Nat} {v : Value} {bs : List Int} {p : Nat} {vi root : Int} {ao : Option Addr} {n cap : Nat} {ns : List Nd} (h : DwS w V B R v bs p vi root ao n cap ns) : V.cell? ⟨B, 0, none⟩ = some (.int .i64 vi) ∧ V.cell? ⟨B, 1, none⟩ = some (.slice ao n cap) ∧ V.cell? ⟨B, 2, none⟩ = some (.int .i64 root) ∧ B < V.heap.size := ⟨h.b.c0, h.b.c1, h.b.c2, h.b.lt⟩
theorem BlkD.set3_ne {w : World} {b b2 : Nat} {a0 a1 a2 : Value} (h : BlkD w b a0 a1 a2) (hne : b ≠ b2) (u0 u1 u2 : Value) : BlkD (set3 w b2 u0 u1 u2) b a0 a1 a2 := (set3_other u0 u1 u2 hne).trans h

/-- A drawn diagram, a variable, a truth. -/
def DrawnW (w : World) (e : Ending) (w' : World) : Prop :=
  ∃ (vi root : Int) (ao : Option Addr) (n cap : Nat) (ns : List Nd) (u : Int) (so : Bool), e = .returned (.tuple #[.agg #[.int .i64 vi, .slice ao n cap, .int .i64 root], .int .i64 u, .bool so]) ∧ Sm vi ∧ Sm root ∧ n ≤ 80 ∧ ns.length = n ∧ (∀ q ∈ ns, SmN q) ∧ w'.ownsRow w.heap.size 50 3 (.slice ao n cap) n (ndV ns) ∧ Below w.heap.size w w' ∧ -10 ≤ u ∧ u ≤ 2000

set_option maxRecDepth 100000 in
set_option maxHeartbeats 8000000 in
theorem drawBddWith_any (v : Value) (bs : List Int) (w : World) (hv : IsBytes w v bs) (hn : bs.length ≤ 1048576) (hal : ∀ ao n cap b off, v = .slice ao n cap → ao = some ⟨b, off, none⟩ → b < w.heap.size) :
    Calls Try.prog 49 #[v] w (DrawnW w) := by
  obtain ⟨W1, hW1⟩ : ∃ W1, W1 = w.alloc (.cells #[.int .i64 0, .slice none 0 0, .int .i64 0] 25) := ⟨_, rfl⟩
  have HB1 : Hid (Below w.heap.size w W1) := by rw [hW1]; exact belOne _ _
  have HQ1 : Hid (BlkD W1 w.heap.size (.int .i64 0) (.slice none 0 0) (.int .i64 0)) := by rw [hW1]; exact BlkD.new _ _ _ _
  have HOP := hideN (l1Open_any w.heap.size v bs W1 (isBytes_below hv HB1.out) hn hal)
  have HW1 := hideN hW1
  obtain ⟨aoc, capc, rfl, _⟩ := hv
  clear hal hW1
  go_enter Try.func49, Try.ntmps49
  go_wp2_with fail
  rw [← HW1.out]
  refine HOP.out.mono ?_
  rintro e w2 ⟨v2, bs2, rfl, hrd2, hb2, hs2, hal2⟩
  have HAN := hideN (l13AnyBdd_any W1.heap.size v2 bs2 0 w2 hrd2 (fun ao n cap b off h1 h2 => by have := hal2 ao n cap b off h1 h2; have := HQ1.out.lt; omega) (by omega))
  have HQ2 := hideN (HQ1.out.below hb2)
  have HB2 := hideN (belNext HB1.out hb2)
  have hs12 : w.heap.size < W1.heap.size := HQ1.out.lt
  have hs22 : W1.heap.size < w2.heap.size := by omega
  clear hrd2 hb2 hs2 hal2
  obtain ⟨R, hRR⟩ : ∃ R, W1.heap.size = R := ⟨_, rfl⟩
  rw [hRR] at HAN hs12 hs22 ⊢
  clear hRR
  go_wp2_with fail
  refine HAN.out.mono ?_
  rintro e w3 ⟨vi, root, ao, n, cap, p', rfl, hsv, hsr, hn80, hown, hp', hrd3, hold⟩
  obtain ⟨ns, hnl, hsm, hrow⟩ := hown.nodes
  obtain ⟨V3, hV3⟩ : ∃ V3, V3 = w3.alloc (.cells #[.int .i64 vi, .slice ao n cap, .int .i64 root] 25) := ⟨_, rfl⟩
  have hb33 : Below w3.heap.size w3 V3 := by rw [hV3]; exact belOne _ _
  have hs3 := hold.2.2.2.1
  have hs23 : w2.heap.size ≤ w3.heap.size := hs3
  have HDW : Hid (DwS w V3 w3.heap.size R v2 bs2 p' vi root ao n cap ns) := by
    refine ⟨?_, by rw [hV3]; exact BlkD.new _ _ _ _, row_base (row_below hrow hb33) (by omega), fun k e => by have := (World.ownsRow.lt hrow k e).1; omega, hrd3.grown (row := none) ⟨hb33.os, hb33.tape, hb33.output, hb33.size, fun k hk _ => hb33.block k hk⟩ (by simp) (by simp), ?_, hs12, by omega, by omega⟩
    · exact (hb33.block _ (by omega)).trans ((hold.2.2.2.2 _ (by omega) (by omega)).trans HQ2.out)
    · exact belNext ⟨hold.1.trans HB2.out.os, hold.2.1.trans HB2.out.tape, hold.2.2.1.trans HB2.out.output, by omega, fun k hk => (hold.2.2.2.2 k (by omega) (by omega)).trans (HB2.out.block k hk)⟩ hb33
  have HNL := hideN hnl
  have HSM := hideN hsm
  have HV3 := hideN hV3
  have hvl := hsv.1
  have hvh := hsv.2
  clear hold hown hrow hnl hsm hV3 hb33 hs3 hrd3
  obtain ⟨B, hBB⟩ : ∃ B, w3.heap.size = B := ⟨_, rfl⟩
  rw [hBB] at HDW
  have HCL : Hid (∀ V, Below V3.heap.size V3 V → V.cell? ⟨B, 0, none⟩ = some (.int .i64 vi) ∧ V.cell? ⟨B, 1, none⟩ = some (.slice ao n cap) ∧ V.cell? ⟨B, 2, none⟩ = some (.int .i64 root) ∧ B < V.heap.size) := fun V hV => ⟨(HDW.out.b.below hV).c0, (HDW.out.b.below hV).c1, (HDW.out.b.below hV).c2, (HDW.out.b.below hV).lt⟩
  have HV3' : Hid (w3.alloc (.cells #[.int .i64 vi, .slice ao n cap, .int .i64 root] 25) = V3) := HV3.out.symm
  obtain ⟨b0, b1, b2, b3⟩ := HCL.out V3 (Below.refl _ _)
  have hw22 : IntKind.i64.wrap 2 = 2 := by decide
  by_cases hv0 : vi < 0
  · go_upto_region 6 with fail
    rw [HV3'.out]
    obtain ⟨u0, u1, u2, u3⟩ := HCL.out V3.drew (below_drewN (Below.refl _ _) 1)
    refine region_U (fin := 15) (S := fun V => V.cell? ⟨B, 0, none⟩ = some (.int .i64 vi) ∧ V.cell? ⟨B, 1, none⟩ = some (.slice ao n cap) ∧ V.cell? ⟨B, 2, none⟩ = some (.int .i64 root) ∧ B < V.heap.size) (by kernel_rfl) ⟨u0, u1, u2, u3⟩ (fun hHeld => ?_)
    clear hHeld
    refine takeU (i := 0) (v := .agg #[.int .i64 vi, .slice ao n cap, .int .i64 root]) rfl (by rfl) (by kernel_rfl) (by kernel_rfl) (reach_one (by kernel_rfl)) (by kernel_rfl) (by kernel_rfl) (fun _ _ _ h => h) (Or.inl ⟨by rfl, fun w hS => by obtain ⟨u0, u1, u2, u3⟩ := hS; go_simp⟩) ⟨u0, u1, u2, u3⟩ ?_
    simp only [List.getElem_toArray, List.getElem_cons_zero, Act.put, List.setIfInBounds_toArray, List.set_cons_zero, List.set_cons_succ]
    refine takeU (i := 1) (v := .pointer (some ⟨R, 0, none⟩)) rfl (by rfl) (by kernel_rfl) (by kernel_rfl) (reach_one (by kernel_rfl)) (by kernel_rfl) (by kernel_rfl) (fun _ _ _ h => h) (Or.inl ⟨by rfl, fun w hS => by obtain ⟨u0, u1, u2, u3⟩ := hS; go_simp⟩) ⟨u0, u1, u2, u3⟩ ?_
    simp only [List.getElem_toArray, List.getElem_cons_zero, List.getElem_cons_succ, Act.put, List.setIfInBounds_toArray, List.set_cons_zero, List.set_cons_succ]
    refine takeU (i := 2) (v := .int .i64 0) rfl (by rfl) (by kernel_rfl) (by kernel_rfl) (reach_one (by kernel_rfl)) (by kernel_rfl) (by kernel_rfl) (fun _ _ _ h => h) (Or.inl ⟨by rfl, fun w hS => by obtain ⟨u0, u1, u2, u3⟩ := hS; go_simp⟩) ⟨u0, u1, u2, u3⟩ ?_
    simp only [List.getElem_toArray, List.getElem_cons_zero, List.getElem_cons_succ, Act.put, List.setIfInBounds_toArray, List.set_cons_zero, List.set_cons_succ]
    refine takeU (i := 3) (v := .int .i64 2) rfl (by rfl) (by kernel_rfl) (by kernel_rfl) (reach_one (by kernel_rfl)) (by kernel_rfl) (by kernel_rfl) (fun _ _ _ h => h) (Or.inl ⟨by rfl, fun w hS => by obtain ⟨u0, u1, u2, u3⟩ := hS; go_simp⟩) ⟨u0, u1, u2, u3⟩ ?_
    simp only [List.getElem_toArray, List.getElem_cons_zero, List.getElem_cons_succ, Act.put, List.setIfInBounds_toArray, List.set_cons_zero, List.set_cons_succ]
    refine takeU (i := 5) (v := .pointer (some ⟨R, 0, none⟩)) rfl (by rfl) (by kernel_rfl) (by kernel_rfl) (reach_one (by kernel_rfl)) (by kernel_rfl) (by kernel_rfl) (fun _ _ _ h => h) (Or.inl ⟨by rfl, fun w hS => by obtain ⟨u0, u1, u2, u3⟩ := hS; go_simp⟩) ⟨u0, u1, u2, u3⟩ ?_
    simp only [List.getElem_toArray, List.getElem_cons_zero, List.getElem_cons_succ, Act.put, List.setIfInBounds_toArray, List.set_cons_zero, List.set_cons_succ]
    refine takeU (i := 10) (v := .pointer (some ⟨R, 0, none⟩)) rfl (by rfl) (by kernel_rfl) (by kernel_rfl) (reach_one (by kernel_rfl)) (by kernel_rfl) (by kernel_rfl) (fun _ _ _ h => h) (Or.inl ⟨by rfl, fun w hS => by obtain ⟨u0, u1, u2, u3⟩ := hS; go_simp⟩) ⟨u0, u1, u2, u3⟩ ?_
    simp only [List.getElem_toArray, List.getElem_cons_zero, List.getElem_cons_succ, Act.put, List.setIfInBounds_toArray, List.set_cons_zero, List.set_cons_succ]
    refine oneU (i := 4) (by kernel_rfl) rfl (by rfl) ?_
    simp only [List.getElem_toArray, List.getElem_cons_zero, List.getElem_cons_succ]
    go_simp
    refine (pick_any R v2 bs2 p' 2 V3.drew HDW.out.drew.rd (by omega) (by omega)).mono ?_
    rintro e w4 ⟨x1, rfl, hx0, hx1, -, hrd4, hg4, hs4⟩
    have hx1 : x1 < 2 := hx1 (by omega)
    have HD4 := hideN (HDW.out.drew.pick hrd4 hg4)
    refine ⟨HD4.out.cells, ?_⟩
    clear hrd4 hg4 hs4 HCL
    refine oneU (i := 6) (by kernel_rfl) rfl (by rfl) ?_
    simp only [List.getElem_toArray, List.getElem_cons_zero, List.getElem_cons_succ]
    go_simp
    refine (pick_any R v2 bs2 (p' + 1) 8 w4 HD4.out.rd (by omega) (by omega)).mono ?_
    rintro e w5 ⟨x2, rfl, hx20, hx21, -, hrd5, hg5, hs5⟩
    have HD5 := hideN (HD4.out.pick hrd5 hg5)
    obtain ⟨y0, y1, y2, y3⟩ := HD5.out.cells
    refine ⟨⟨y0, y1, y2, y3⟩, ?_⟩
    clear hrd5 hg5 hs5 HD4 hx20 hx21
    obtain ⟨fb, hfb⟩ : ∃ fb : Bool, (x2 == 0) = fb := ⟨_, rfl⟩
    refine takeU (i := 7) (v := .bool fb) rfl (by rfl) (by kernel_rfl) (by kernel_rfl) (reach_one (by kernel_rfl)) (by kernel_rfl) (by kernel_rfl) (fun _ _ _ h => h) (Or.inl ⟨by rfl, fun w hS => by obtain ⟨y0, y1, y2, y3⟩ := hS; go_simp⟩) ⟨y0, y1, y2, y3⟩ ?_
    simp only [List.getElem_toArray, List.getElem_cons_zero, List.getElem_cons_succ, Act.put, List.setIfInBounds_toArray, List.set_cons_zero, List.set_cons_succ]
    refine oneU (i := 8) (by kernel_rfl) rfl (by rfl) ?_
    simp only [List.getElem_toArray, List.getElem_cons_zero, List.getElem_cons_succ]
    go_simp
    refine (l7Flag_any fb w5).mono ?_
    rintro e w5' ⟨rfl, hw5⟩
    obtain rfl := hw5
    refine ⟨⟨y0, y1, y2, y3⟩, ?_⟩
    have hnb : 0 ≤ numB fb ∧ numB fb ≤ 1 := by cases fb <;> simp [numB]
    obtain ⟨u, hu⟩ : ∃ u, u = x1 - numB fb := ⟨_, rfl⟩
    have huw : IntKind.i64.wrap (x1 - numB fb) = u := by rw [IntKind.wrap_i64]; omega
    have HU : Hid (-1 ≤ u ∧ u < 2) := ⟨by omega, by omega⟩
    clear hu
    refine takeU (i := 9) (v := .int .i64 u) rfl (by rfl) (by kernel_rfl) (by kernel_rfl) (reach_one (by kernel_rfl)) (by kernel_rfl) (by kernel_rfl) (fun _ _ _ h => h) (Or.inl ⟨by rfl, fun w hS => by obtain ⟨y0, y1, y2, y3⟩ := hS; go_simp⟩) ⟨y0, y1, y2, y3⟩ ?_
    simp only [List.getElem_toArray, List.getElem_cons_zero, List.getElem_cons_succ, Act.put, List.setIfInBounds_toArray, List.set_cons_zero, List.set_cons_succ]
    refine oneU (i := 11) (by kernel_rfl) rfl (by rfl) ?_
    simp only [List.getElem_toArray, List.getElem_cons_zero, List.getElem_cons_succ]
    go_simp
    refine (pick_any R v2 bs2 (p' + 1 + 1) 2 w5' HD5.out.rd (by omega) (by omega)).mono ?_
    rintro e w6 ⟨x3, rfl, hx30, hx31, -, hrd6, hg6, hs6⟩
    have HD6 := hideN (HD5.out.pick hrd6 hg6)
    clear y0 y1 y2 y3
    obtain ⟨y0, y1, y2, y3⟩ := HD6.out.cells
    refine ⟨⟨y0, y1, y2, y3⟩, ?_⟩
    clear hrd6 hg6 hs6 HD5 hx30 hx31
    obtain ⟨so, hso⟩ : ∃ so : Bool, (x3 == 0) = so := ⟨_, rfl⟩
    refine takeU (i := 12) (v := .bool so) rfl (by rfl) (by kernel_rfl) (by kernel_rfl) (reach_one (by kernel_rfl)) (by kernel_rfl) (by kernel_rfl) (fun _ _ _ h => h) (Or.inl ⟨by rfl, fun w hS => by obtain ⟨y0, y1, y2, y3⟩ := hS; go_simp⟩) ⟨y0, y1, y2, y3⟩ ?_
    simp only [List.getElem_toArray, List.getElem_cons_zero, List.getElem_cons_succ, Act.put, List.setIfInBounds_toArray, List.set_cons_zero, List.set_cons_succ]
    have HQ3 := hideN (HD6.out.q.set (.int .i64 vi) (.slice ao n cap) (.int .i64 root))
    have HBE := hideN (set3_below HD6.out.be (Nat.le_refl _) (.int .i64 vi) (.slice ao n cap) (.int .i64 root))
    have HRZ : Hid ((set3 w6 w.heap.size (.int .i64 vi) (.slice ao n cap) (.int .i64 root)).ownsRow w.heap.size 50 3 (.slice ao n cap) n (ndV ns)) :=
      row_of_block HD6.out.row (fun k e => set3_other _ _ _ (HD6.out.nr k e).2)
    have HBX := hideN (HD6.out.b.set3_ne (b2 := w.heap.size) (by have := HD6.out.hQB; omega) (.int .i64 vi) (.slice ao n cap) (.int .i64 root))
    have m0 := HD6.out.q.c0
    have m1 := HD6.out.q.c1
    have m2 := HD6.out.q.c2
    have m3 := HD6.out.q.f 0
    have m4 := HD6.out.q.f 1
    have m5 := HD6.out.q.f 2
    have m6 := HD6.out.q.lt
    refine oneU (i := 13) (by kernel_rfl) rfl (by rfl) ?_
    simp only [List.getElem_toArray, List.getElem_cons_zero, List.getElem_cons_succ]
    go_simp
    refine oneU (i := 14) (by kernel_rfl) rfl (by rfl) ?_
    simp only [List.getElem_toArray, List.getElem_cons_zero, List.getElem_cons_succ]
    go_simp
    refine oneU (i := 15) (by kernel_rfl) rfl (by rfl) ?_
    simp only [List.getElem_toArray, List.getElem_cons_zero, List.getElem_cons_succ]
    go_simp
    refine doneU (by kernel_rfl) ?_ _
    have u0 := HQ3.out.c0
    have u1 := HQ3.out.c1
    have u2 := HQ3.out.c2
    unfold set3 at u0 u1 u2
    go_wp2
    exact bodyPost_ret (v := .tuple #[.agg #[.int .i64 vi, .slice ao n cap, .int .i64 root], .int .i64 u, .bool so]) (by simp [results, Try.results49, go_sem, u0, u1, u2]) rfl ⟨vi, root, ao, n, cap, ns, u, so, rfl, hsv, hsr, hn80, HNL.out, HSM.out, HRZ.out, HBE.out, by have := HU.out.1; omega, by have := HU.out.2; omega⟩
  · have hw2 : IntKind.i64.wrap (vi + 2) = vi + 2 := by rw [IntKind.wrap_i64]; omega
    go_upto_region 6 with fail
    rw [HV3'.out]
    obtain ⟨u0, u1, u2, u3⟩ := HCL.out V3.drew (below_drewN (Below.refl _ _) 1)
    refine region_U (fin := 15) (S := fun V => V.cell? ⟨B, 0, none⟩ = some (.int .i64 vi) ∧ V.cell? ⟨B, 1, none⟩ = some (.slice ao n cap) ∧ V.cell? ⟨B, 2, none⟩ = some (.int .i64 root) ∧ B < V.heap.size) (by kernel_rfl) ⟨u0, u1, u2, u3⟩ (fun hHeld => ?_)
    clear hHeld
    refine takeU (i := 0) (v := .agg #[.int .i64 vi, .slice ao n cap, .int .i64 root]) rfl (by rfl) (by kernel_rfl) (by kernel_rfl) (reach_one (by kernel_rfl)) (by kernel_rfl) (by kernel_rfl) (fun _ _ _ h => h) (Or.inl ⟨by rfl, fun w hS => by obtain ⟨u0, u1, u2, u3⟩ := hS; go_simp⟩) ⟨u0, u1, u2, u3⟩ ?_
    simp only [List.getElem_toArray, List.getElem_cons_zero, Act.put, List.setIfInBounds_toArray, List.set_cons_zero, List.set_cons_succ]
    refine takeU (i := 1) (v := .pointer (some ⟨R, 0, none⟩)) rfl (by rfl) (by kernel_rfl) (by kernel_rfl) (reach_one (by kernel_rfl)) (by kernel_rfl) (by kernel_rfl) (fun _ _ _ h => h) (Or.inl ⟨by rfl, fun w hS => by obtain ⟨u0, u1, u2, u3⟩ := hS; go_simp⟩) ⟨u0, u1, u2, u3⟩ ?_
    simp only [List.getElem_toArray, List.getElem_cons_zero, List.getElem_cons_succ, Act.put, List.setIfInBounds_toArray, List.set_cons_zero, List.set_cons_succ]
    refine takeU (i := 2) (v := .int .i64 vi) rfl (by rfl) (by kernel_rfl) (by kernel_rfl) (reach_one (by kernel_rfl)) (by kernel_rfl) (by kernel_rfl) (fun _ _ _ h => h) (Or.inl ⟨by rfl, fun w hS => by obtain ⟨u0, u1, u2, u3⟩ := hS; go_simp⟩) ⟨u0, u1, u2, u3⟩ ?_
    simp only [List.getElem_toArray, List.getElem_cons_zero, List.getElem_cons_succ, Act.put, List.setIfInBounds_toArray, List.set_cons_zero, List.set_cons_succ]
    refine takeU (i := 3) (v := .int .i64 (vi + 2)) rfl (by rfl) (by kernel_rfl) (by kernel_rfl) (reach_one (by kernel_rfl)) (by kernel_rfl) (by kernel_rfl) (fun _ _ _ h => h) (Or.inl ⟨by rfl, fun w hS => by obtain ⟨u0, u1, u2, u3⟩ := hS; go_simp⟩) ⟨u0, u1, u2, u3⟩ ?_
    simp only [List.getElem_toArray, List.getElem_cons_zero, List.getElem_cons_succ, Act.put, List.setIfInBounds_toArray, List.set_cons_zero, List.set_cons_succ]
    refine takeU (i := 5) (v := .pointer (some ⟨R, 0, none⟩)) rfl (by rfl) (by kernel_rfl) (by kernel_rfl) (reach_one (by kernel_rfl)) (by kernel_rfl) (by kernel_rfl) (fun _ _ _ h => h) (Or.inl ⟨by rfl, fun w hS => by obtain ⟨u0, u1, u2, u3⟩ := hS; go_simp⟩) ⟨u0, u1, u2, u3⟩ ?_
    simp only [List.getElem_toArray, List.getElem_cons_zero, List.getElem_cons_succ, Act.put, List.setIfInBounds_toArray, List.set_cons_zero, List.set_cons_succ]
    refine takeU (i := 10) (v := .pointer (some ⟨R, 0, none⟩)) rfl (by rfl) (by kernel_rfl) (by kernel_rfl) (reach_one (by kernel_rfl)) (by kernel_rfl) (by kernel_rfl) (fun _ _ _ h => h) (Or.inl ⟨by rfl, fun w hS => by obtain ⟨u0, u1, u2, u3⟩ := hS; go_simp⟩) ⟨u0, u1, u2, u3⟩ ?_
    simp only [List.getElem_toArray, List.getElem_cons_zero, List.getElem_cons_succ, Act.put, List.setIfInBounds_toArray, List.set_cons_zero, List.set_cons_succ]
    refine oneU (i := 4) (by kernel_rfl) rfl (by rfl) ?_
    simp only [List.getElem_toArray, List.getElem_cons_zero, List.getElem_cons_succ]
    go_simp
    refine (pick_any R v2 bs2 p' (vi + 2) V3.drew HDW.out.drew.rd (by omega) (by omega)).mono ?_
    rintro e w4 ⟨x1, rfl, hx0, hx1, -, hrd4, hg4, hs4⟩
    have hx1 : x1 < (vi + 2) := hx1 (by omega)
    have HD4 := hideN (HDW.out.drew.pick hrd4 hg4)
    refine ⟨HD4.out.cells, ?_⟩
    clear hrd4 hg4 hs4 HCL
    refine oneU (i := 6) (by kernel_rfl) rfl (by rfl) ?_
    simp only [List.getElem_toArray, List.getElem_cons_zero, List.getElem_cons_succ]
    go_simp
    refine (pick_any R v2 bs2 (p' + 1) 8 w4 HD4.out.rd (by omega) (by omega)).mono ?_
    rintro e w5 ⟨x2, rfl, hx20, hx21, -, hrd5, hg5, hs5⟩
    have HD5 := hideN (HD4.out.pick hrd5 hg5)
    obtain ⟨y0, y1, y2, y3⟩ := HD5.out.cells
    refine ⟨⟨y0, y1, y2, y3⟩, ?_⟩
    clear hrd5 hg5 hs5 HD4 hx20 hx21
    obtain ⟨fb, hfb⟩ : ∃ fb : Bool, (x2 == 0) = fb := ⟨_, rfl⟩
    refine takeU (i := 7) (v := .bool fb) rfl (by rfl) (by kernel_rfl) (by kernel_rfl) (reach_one (by kernel_rfl)) (by kernel_rfl) (by kernel_rfl) (fun _ _ _ h => h) (Or.inl ⟨by rfl, fun w hS => by obtain ⟨y0, y1, y2, y3⟩ := hS; go_simp⟩) ⟨y0, y1, y2, y3⟩ ?_
    simp only [List.getElem_toArray, List.getElem_cons_zero, List.getElem_cons_succ, Act.put, List.setIfInBounds_toArray, List.set_cons_zero, List.set_cons_succ]
    refine oneU (i := 8) (by kernel_rfl) rfl (by rfl) ?_
    simp only [List.getElem_toArray, List.getElem_cons_zero, List.getElem_cons_succ]
    go_simp
    refine (l7Flag_any fb w5).mono ?_
    rintro e w5' ⟨rfl, hw5⟩
    obtain rfl := hw5
    refine ⟨⟨y0, y1, y2, y3⟩, ?_⟩
    have hnb : 0 ≤ numB fb ∧ numB fb ≤ 1 := by cases fb <;> simp [numB]
    obtain ⟨u, hu⟩ : ∃ u, u = x1 - numB fb := ⟨_, rfl⟩
    have huw : IntKind.i64.wrap (x1 - numB fb) = u := by rw [IntKind.wrap_i64]; omega
    have HU : Hid (-1 ≤ u ∧ u < (vi + 2)) := ⟨by omega, by omega⟩
    clear hu
    refine takeU (i := 9) (v := .int .i64 u) rfl (by rfl) (by kernel_rfl) (by kernel_rfl) (reach_one (by kernel_rfl)) (by kernel_rfl) (by kernel_rfl) (fun _ _ _ h => h) (Or.inl ⟨by rfl, fun w hS => by obtain ⟨y0, y1, y2, y3⟩ := hS; go_simp⟩) ⟨y0, y1, y2, y3⟩ ?_
    simp only [List.getElem_toArray, List.getElem_cons_zero, List.getElem_cons_succ, Act.put, List.setIfInBounds_toArray, List.set_cons_zero, List.set_cons_succ]
    refine oneU (i := 11) (by kernel_rfl) rfl (by rfl) ?_
    simp only [List.getElem_toArray, List.getElem_cons_zero, List.getElem_cons_succ]
    go_simp
    refine (pick_any R v2 bs2 (p' + 1 + 1) 2 w5' HD5.out.rd (by omega) (by omega)).mono ?_
    rintro e w6 ⟨x3, rfl, hx30, hx31, -, hrd6, hg6, hs6⟩
    have HD6 := hideN (HD5.out.pick hrd6 hg6)
    clear y0 y1 y2 y3
    obtain ⟨y0, y1, y2, y3⟩ := HD6.out.cells
    refine ⟨⟨y0, y1, y2, y3⟩, ?_⟩
    clear hrd6 hg6 hs6 HD5 hx30 hx31
    obtain ⟨so, hso⟩ : ∃ so : Bool, (x3 == 0) = so := ⟨_, rfl⟩
    refine takeU (i := 12) (v := .bool so) rfl (by rfl) (by kernel_rfl) (by kernel_rfl) (reach_one (by kernel_rfl)) (by kernel_rfl) (by kernel_rfl) (fun _ _ _ h => h) (Or.inl ⟨by rfl, fun w hS => by obtain ⟨y0, y1, y2, y3⟩ := hS; go_simp⟩) ⟨y0, y1, y2, y3⟩ ?_
    simp only [List.getElem_toArray, List.getElem_cons_zero, List.getElem_cons_succ, Act.put, List.setIfInBounds_toArray, List.set_cons_zero, List.set_cons_succ]
    have HQ3 := hideN (HD6.out.q.set (.int .i64 vi) (.slice ao n cap) (.int .i64 root))
    have HBE := hideN (set3_below HD6.out.be (Nat.le_refl _) (.int .i64 vi) (.slice ao n cap) (.int .i64 root))
    have HRZ : Hid ((set3 w6 w.heap.size (.int .i64 vi) (.slice ao n cap) (.int .i64 root)).ownsRow w.heap.size 50 3 (.slice ao n cap) n (ndV ns)) :=
      row_of_block HD6.out.row (fun k e => set3_other _ _ _ (HD6.out.nr k e).2)
    have HBX := hideN (HD6.out.b.set3_ne (b2 := w.heap.size) (by have := HD6.out.hQB; omega) (.int .i64 vi) (.slice ao n cap) (.int .i64 root))
    have m0 := HD6.out.q.c0
    have m1 := HD6.out.q.c1
    have m2 := HD6.out.q.c2
    have m3 := HD6.out.q.f 0
    have m4 := HD6.out.q.f 1
    have m5 := HD6.out.q.f 2
    have m6 := HD6.out.q.lt
    refine oneU (i := 13) (by kernel_rfl) rfl (by rfl) ?_
    simp only [List.getElem_toArray, List.getElem_cons_zero, List.getElem_cons_succ]
    go_simp
    refine oneU (i := 14) (by kernel_rfl) rfl (by rfl) ?_
    simp only [List.getElem_toArray, List.getElem_cons_zero, List.getElem_cons_succ]
    go_simp
    refine oneU (i := 15) (by kernel_rfl) rfl (by rfl) ?_
    simp only [List.getElem_toArray, List.getElem_cons_zero, List.getElem_cons_succ]
    go_simp
    refine doneU (by kernel_rfl) ?_ _
    have u0 := HQ3.out.c0
    have u1 := HQ3.out.c1
    have u2 := HQ3.out.c2
    unfold set3 at u0 u1 u2
    go_wp2
    exact bodyPost_ret (v := .tuple #[.agg #[.int .i64 vi, .slice ao n cap, .int .i64 root], .int .i64 u, .bool so]) (by simp [results, Try.results49, go_sem, u0, u1, u2]) rfl ⟨vi, root, ao, n, cap, ns, u, so, rfl, hsv, hsr, hn80, HNL.out, HSM.out, HRZ.out, HBE.out, by have := HU.out.1; omega, by have := HU.out.2; omega⟩

/-- A drawn diagram and a variable. -/
def DrawnS (w : World) (e : Ending) (w' : World) : Prop :=
  ∃ (vi root : Int) (ao : Option Addr) (n cap : Nat) (ns : List Nd) (u : Int), e = .returned (.tuple #[.agg #[.int .i64 vi, .slice ao n cap, .int .i64 root], .int .i64 u]) ∧ Sm vi ∧ Sm root ∧ n ≤ 80 ∧ ns.length = n ∧ (∀ q ∈ ns, SmN q) ∧ w'.ownsRow w.heap.size 50 3 (.slice ao n cap) n (ndV ns) ∧ Below w.heap.size w w' ∧ -10 ≤ u ∧ u ≤ 2000

set_option maxRecDepth 100000 in
set_option maxHeartbeats 4000000 in
theorem drawBddSome_any (v : Value) (bs : List Int) (w : World) (hv : IsBytes w v bs) (hn : bs.length ≤ 1048576) (hal : ∀ ao n cap b off, v = .slice ao n cap → ao = some ⟨b, off, none⟩ → b < w.heap.size) :
    Calls Try.prog 53 #[v] w (DrawnS w) := by
  obtain ⟨W1, hW1⟩ : ∃ W1, W1 = w.alloc (.cells #[.int .i64 0, .slice none 0 0, .int .i64 0] 25) := ⟨_, rfl⟩
  have HB1 : Hid (Below w.heap.size w W1) := by rw [hW1]; exact belOne _ _
  have HQ1 : Hid (BlkD W1 w.heap.size (.int .i64 0) (.slice none 0 0) (.int .i64 0)) := by rw [hW1]; exact BlkD.new _ _ _ _
  have HDW := hideN (drawBddWith_any v bs W1 (isBytes_below hv HB1.out) hn (fun ao n cap b off h1 h2 => by have := hal ao n cap b off h1 h2; have := HB1.out.size; omega))
  have HW1 := hideN hW1
  obtain ⟨aoc, capc, rfl, _⟩ := hv
  clear hal hW1
  go_enter Try.func53, Try.ntmps53
  go_wp2_with fail
  rw [← HW1.out]
  refine HDW.out.mono ?_
  rintro e w3 ⟨vi, root, ao, n, cap, ns, u, so, rfl, hsv, hsr, hn80, hnl, hsm, hrow, hb3, hul, huh⟩
  obtain ⟨V3, hV3⟩ : ∃ V3, V3 = w3.alloc (.cells #[.int .i64 vi, .slice ao n cap, .int .i64 root] 25) := ⟨_, rfl⟩
  have hb33 : Below w3.heap.size w3 V3 := by rw [hV3]; exact belOne _ _
  have hQ3 : BlkD V3 w.heap.size (.int .i64 0) (.slice none 0 0) (.int .i64 0) := (HQ1.out.below hb3).below hb33
  have hB3 : Below w.heap.size w V3 := belNext (belNext HB1.out hb3) hb33
  have hQ1l := HQ1.out.lt
  have HQ3 := hideN (hQ3.set (.int .i64 vi) (.slice ao n cap) (.int .i64 root))
  have HBE := hideN (set3_below hB3 (Nat.le_refl _) (.int .i64 vi) (.slice ao n cap) (.int .i64 root))
  have HRZ : Hid ((set3 V3 w.heap.size (.int .i64 vi) (.slice ao n cap) (.int .i64 root)).ownsRow w.heap.size 50 3 (.slice ao n cap) n (ndV ns)) :=
    row_base (row_of_block (row_below hrow hb33) (fun k e => set3_other _ _ _ (by have := (World.ownsRow.lt hrow k e).1; omega))) (by omega)
  have HNL := hideN hnl
  have HSM := hideN hsm
  have hK : BlkD V3 w3.heap.size (.int .i64 vi) (.slice ao n cap) (.int .i64 root) := by rw [hV3]; exact BlkD.new _ _ _ _
  have m0 := hQ3.c0
  have m1 := hQ3.c1
  have m2 := hQ3.c2
  have m3 := hQ3.f 0
  have m4 := hQ3.f 1
  have m5 := hQ3.f 2
  have m6 := hQ3.lt
  have l0 := hK.c0
  have l1 := hK.c1
  have l2 := hK.c2
  have l3 := hK.lt
  have HV3 := hideN hV3
  have hne : w.heap.size ≠ w3.heap.size := by have := hb3.size; omega
  clear hrow hb3 hB3 hQ3 hnl hsm hK hb33 hQ1l hV3
  rw [HV3.out] at m0 m1 m2 m3 m4 m5 m6 l0 l1 l2 l3
  go_wp2
  have u0 := HQ3.out.c0
  have u1 := HQ3.out.c1
  have u2 := HQ3.out.c2
  unfold set3 at u0 u1 u2
  rw [HV3.out] at u0 u1 u2
  exact bodyPost_ret (v := .tuple #[.agg #[.int .i64 vi, .slice ao n cap, .int .i64 root], .int .i64 u]) (by simp [results, Try.results53, go_sem, u0, u1, u2]) rfl ⟨vi, root, ao, n, cap, ns, u, rfl, hsv, hsr, hn80, HNL.out, HSM.out, by have := HRZ.out; rw [HV3.out] at this; exact this, by have := HBE.out; rw [HV3.out] at this; exact this, hul, huh⟩

end Go.Proofs.Ytknpifjkllcdeaa

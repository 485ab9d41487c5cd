/-
  A diagram drawn from bytes: DrawBddFirst, DrawBddNot, DrawBddNeeds.
-/
import Derived.Test.YtknpifjkllcdeaaBdDu
namespace Go.Proofs.Ytknpifjkllcdeaa
open Go.RowKit Go.Deep
set_option linter.unusedVariables false

attribute [local go_sem] Oper.semAt_some

theorem isBytes_below {w w' : World} {v : Value} {bs : List Int} (h : IsBytes w v bs) (hb : Below w.heap.size w w') : IsBytes w' v bs := by
  obtain ⟨ao, cap, hv, hc, hx, hy⟩ := h
  exact ⟨ao, cap, hv, hc, fun hne => by
    obtain ⟨b, off, ha, hcc⟩ := hx hne
    exact ⟨b, off, ha, fun i hi => (hb.cell (cell_lt (hcc i hi))).trans (hcc i hi)⟩, hy⟩

/-- A drawn diagram: small numbers, its nodes the call's own. -/
def DrawnB (w : World) (e : Ending) (w' : World) : Prop :=
  ∃ (vi root : Int) (ao : Option Addr) (n cap : Nat) (ns : List Nd), e = .returned (.agg #[.int .i64 vi, .slice ao n cap, .int .i64 root]) ∧ Sm vi ∧ Sm root ∧ n ≤ 80 ∧ ns.length = n ∧ (∀ q ∈ ns, SmN q) ∧ w'.ownsRow w.heap.size 50 3 (.slice ao n cap) n (ndV ns) ∧ Below w.heap.size w w'

theorem smN64 {q : Nd} (h : SmN q) : I64N q := by obtain ⟨⟨a, b⟩, ⟨c, d⟩, e, f⟩ := h; unfold I64N I64; omega
theorem sm64 {x : Int} (h : Sm x) : I64 x := by obtain ⟨a, b⟩ := h; unfold I64; omega

set_option maxRecDepth 100000 in
set_option maxHeartbeats 4000000 in
theorem drawBddFirst_any (v : Value) (bs : List Int) (w : World) (hv : IsBytes w v bs) (hn : bs.length ≤ 1048576) (hal : ∀ ao n cap b off, v = .slice ao n cap → ao = some ⟨b, off, none⟩ → b < w.heap.size) :
    Calls Try.prog 56 #[v] w (DrawnB w) := by
  obtain ⟨W1, hW1⟩ : ∃ W1, W1 = w.alloc (.cells #[.int .i64 0, .slice none 0 0, .int .i64 0] 25) := ⟨_, rfl⟩
  have HB1 : Hid (Below w.heap.size w W1) := by rw [hW1]; exact belOne _ _
  have HQ1 : Hid (BlkD W1 w.heap.size (.int .i64 0) (.slice none 0 0) (.int .i64 0)) := by rw [hW1]; exact BlkD.new _ _ _ _
  have HOP := hideN (l1Open_any w.heap.size v bs W1 (isBytes_below hv HB1.out) hn hal)
  have HW1 := hideN hW1
  obtain ⟨aoc, capc, rfl, _⟩ := hv
  clear hal hW1
  go_enter Try.func56, Try.ntmps56
  go_wp2_with fail
  rw [← HW1.out]
  refine HOP.out.mono ?_
  rintro e w2 ⟨v2, bs2, rfl, hrd2, hb2, hs2, hal2⟩
  have HAN := hideN (l13AnyBdd_any W1.heap.size v2 bs2 0 w2 hrd2 (fun ao n cap b off h1 h2 => by have := hal2 ao n cap b off h1 h2; have := HQ1.out.lt; omega) (by omega))
  have HQ2 := hideN (HQ1.out.below hb2)
  have HB2 := hideN (belNext HB1.out hb2)
  have hs12 : w.heap.size < W1.heap.size := HQ1.out.lt
  have hs22 : W1.heap.size < w2.heap.size := by omega
  clear hrd2 hb2 hs2 hal2
  go_wp2_with fail
  refine HAN.out.mono ?_
  rintro e w3 ⟨vi, root, ao, n, cap, p', rfl, hsv, hsr, hn80, hown, -, -, hold⟩
  have hQ3 : BlkD w3 w.heap.size (.int .i64 0) (.slice none 0 0) (.int .i64 0) := (hold.2.2.2.2 _ (by omega) (by omega)).trans HQ2.out
  have hB3 : Below w.heap.size w w3 := ⟨hold.1.trans HB2.out.os, hold.2.1.trans HB2.out.tape, hold.2.2.1.trans HB2.out.output, Nat.le_trans HB2.out.size hold.2.2.2.1, fun k hk => (hold.2.2.2.2 k (by omega) (by omega)).trans (HB2.out.block k hk)⟩
  have HQ3 := hideN (hQ3.set (.int .i64 vi) (.slice ao n cap) (.int .i64 root))
  have HBE := hideN (set3_below hB3 (Nat.le_refl _) (.int .i64 vi) (.slice ao n cap) (.int .i64 root))
  obtain ⟨ns, hnl, hsm, hrow⟩ := hown.nodes
  have HRZ : Hid ((set3 w3 w.heap.size (.int .i64 vi) (.slice ao n cap) (.int .i64 root)).ownsRow w.heap.size 50 3 (.slice ao n cap) n (ndV ns)) :=
    row_base (row_of_block hrow (fun k e => set3_other _ _ _ (by have := (World.ownsRow.lt hrow k e).1; omega))) (by omega)
  have HNL := hideN hnl
  have HSM := hideN hsm
  have m0 := hQ3.c0
  have m1 := hQ3.c1
  have m2 := hQ3.c2
  have m3 := hQ3.f 0
  have m4 := hQ3.f 1
  have m5 := hQ3.f 2
  have m6 := hQ3.lt
  clear hold hown hrow hB3 hQ3 hnl hsm
  go_wp2
  have u0 := HQ3.out.c0
  have u1 := HQ3.out.c1
  have u2 := HQ3.out.c2
  unfold set3 at u0 u1 u2
  exact bodyPost_ret (v := .agg #[.int .i64 vi, .slice ao n cap, .int .i64 root]) (by simp [results, Try.results56, go_sem, u0, u1, u2]) rfl ⟨vi, root, ao, n, cap, ns, rfl, hsv, hsr, hn80, HNL.out, HSM.out, HRZ.out, HBE.out⟩

set_option maxRecDepth 100000 in
set_option maxHeartbeats 4000000 in
theorem drawBddNot_any (v : Value) (bs : List Int) (w : World) (hv : IsBytes w v bs) (hn : bs.length ≤ 1048576) (hal : ∀ ao n cap b off, v = .slice ao n cap → ao = some ⟨b, off, none⟩ → b < w.heap.size) :
    Calls Try.prog 42 #[v] w (DrawnB w) := by
  obtain ⟨W1, hW1⟩ : ∃ W1, W1 = w.alloc (.cells #[.int .i64 0, .slice none 0 0, .int .i64 0] 25) := ⟨_, rfl⟩
  have HB1 : Hid (Below w.heap.size w W1) := by rw [hW1]; exact belOne _ _
  have HQ1 : Hid (BlkD W1 w.heap.size (.int .i64 0) (.slice none 0 0) (.int .i64 0)) := by rw [hW1]; exact BlkD.new _ _ _ _
  have HOP := hideN (l1Open_any w.heap.size v bs W1 (isBytes_below hv HB1.out) hn hal)
  have HW1 := hideN hW1
  obtain ⟨aoc, capc, rfl, _⟩ := hv
  clear hal hW1
  go_enter Try.func42, Try.ntmps42
  go_wp2_with fail
  rw [← HW1.out]
  refine HOP.out.mono ?_
  rintro e w2 ⟨v2, bs2, rfl, hrd2, hb2, hs2, hal2⟩
  have HAN := hideN (l13AnyBdd_any W1.heap.size v2 bs2 0 w2 hrd2 (fun ao n cap b off h1 h2 => by have := hal2 ao n cap b off h1 h2; have := HQ1.out.lt; omega) (by omega))
  have HQ2 := hideN (HQ1.out.below hb2)
  have HB2 := hideN (belNext HB1.out hb2)
  have hs12 : w.heap.size < W1.heap.size := HQ1.out.lt
  have hs22 : W1.heap.size < w2.heap.size := by omega
  clear hrd2 hb2 hs2 hal2
  go_wp2_with fail
  refine HAN.out.mono ?_
  rintro e w3 ⟨vi, root, ao, n, cap, p', rfl, hsv, hsr, hn80, hown, -, -, hold⟩
  have hQ3 : BlkD w3 w.heap.size (.int .i64 0) (.slice none 0 0) (.int .i64 0) := (hold.2.2.2.2 _ (by omega) (by omega)).trans HQ2.out
  have hB3 : Below w.heap.size w w3 := ⟨hold.1.trans HB2.out.os, hold.2.1.trans HB2.out.tape, hold.2.2.1.trans HB2.out.output, Nat.le_trans HB2.out.size hold.2.2.2.1, fun k hk => (hold.2.2.2.2 k (by omega) (by omega)).trans (HB2.out.block k hk)⟩
  have HQ3 := hideN (hQ3.set (.int .i64 vi) (.slice ao n cap) (.int .i64 root))
  have HBE := hideN (set3_below hB3 (Nat.le_refl _) (.int .i64 vi) (.slice ao n cap) (.int .i64 root))
  obtain ⟨ns, hnl, hsm, hrow⟩ := hown.nodes
  have HRZ : Hid ((set3 w3 w.heap.size (.int .i64 vi) (.slice ao n cap) (.int .i64 root)).ownsRow w.heap.size 50 3 (.slice ao n cap) n (ndV ns)) :=
    row_base (row_of_block hrow (fun k e => set3_other _ _ _ (by have := (World.ownsRow.lt hrow k e).1; omega))) (by omega)
  have HNL := hideN hnl
  have HSM := hideN hsm
  have m0 := hQ3.c0
  have m1 := hQ3.c1
  have m2 := hQ3.c2
  have m3 := hQ3.f 0
  have m4 := hQ3.f 1
  have m5 := hQ3.f 2
  have m6 := hQ3.lt
  clear hold hown hrow hB3 hQ3 hnl hsm
  go_wp2
  have u0 := HQ3.out.c0
  have u1 := HQ3.out.c1
  have u2 := HQ3.out.c2
  unfold set3 at u0 u1 u2
  exact bodyPost_ret (v := .agg #[.int .i64 vi, .slice ao n cap, .int .i64 root]) (by simp [results, Try.results42, go_sem, u0, u1, u2]) rfl ⟨vi, root, ao, n, cap, ns, rfl, hsv, hsr, hn80, HNL.out, HSM.out, HRZ.out, HBE.out⟩

set_option maxRecDepth 100000 in
set_option maxHeartbeats 4000000 in
theorem drawBddNeeds_any (v : Value) (bs : List Int) (w : World) (hv : IsBytes w v bs) (hn : bs.length ≤ 1048576) (hal : ∀ ao n cap b off, v = .slice ao n cap → ao = some ⟨b, off, none⟩ → b < w.heap.size) :
    Calls Try.prog 58 #[v] w (DrawnB w) := by
  obtain ⟨W1, hW1⟩ : ∃ W1, W1 = w.alloc (.cells #[.int .i64 0, .slice none 0 0, .int .i64 0] 25) := ⟨_, rfl⟩
  have HB1 : Hid (Below w.heap.size w W1) := by rw [hW1]; exact belOne _ _
  have HQ1 : Hid (BlkD W1 w.heap.size (.int .i64 0) (.slice none 0 0) (.int .i64 0)) := by rw [hW1]; exact BlkD.new _ _ _ _
  have HOP := hideN (l1Open_any w.heap.size v bs W1 (isBytes_below hv HB1.out) hn hal)
  have HW1 := hideN hW1
  obtain ⟨aoc, capc, rfl, _⟩ := hv
  clear hal hW1
  go_enter Try.func58, Try.ntmps58
  go_wp2_with fail
  rw [← HW1.out]
  refine HOP.out.mono ?_
  rintro e w2 ⟨v2, bs2, rfl, hrd2, hb2, hs2, hal2⟩
  have HAN := hideN (l13AnyBdd_any W1.heap.size v2 bs2 0 w2 hrd2 (fun ao n cap b off h1 h2 => by have := hal2 ao n cap b off h1 h2; have := HQ1.out.lt; omega) (by omega))
  have HQ2 := hideN (HQ1.out.below hb2)
  have HB2 := hideN (belNext HB1.out hb2)
  have hs12 : w.heap.size < W1.heap.size := HQ1.out.lt
  have hs22 : W1.heap.size < w2.heap.size := by omega
  clear hrd2 hb2 hs2 hal2
  go_wp2_with fail
  refine HAN.out.mono ?_
  rintro e w3 ⟨vi, root, ao, n, cap, p', rfl, hsv, hsr, hn80, hown, -, -, hold⟩
  have hQ3 : BlkD w3 w.heap.size (.int .i64 0) (.slice none 0 0) (.int .i64 0) := (hold.2.2.2.2 _ (by omega) (by omega)).trans HQ2.out
  have hB3 : Below w.heap.size w w3 := ⟨hold.1.trans HB2.out.os, hold.2.1.trans HB2.out.tape, hold.2.2.1.trans HB2.out.output, Nat.le_trans HB2.out.size hold.2.2.2.1, fun k hk => (hold.2.2.2.2 k (by omega) (by omega)).trans (HB2.out.block k hk)⟩
  have HQ3 := hideN (hQ3.set (.int .i64 vi) (.slice ao n cap) (.int .i64 root))
  have HBE := hideN (set3_below hB3 (Nat.le_refl _) (.int .i64 vi) (.slice ao n cap) (.int .i64 root))
  obtain ⟨ns, hnl, hsm, hrow⟩ := hown.nodes
  have HRZ : Hid ((set3 w3 w.heap.size (.int .i64 vi) (.slice ao n cap) (.int .i64 root)).ownsRow w.heap.size 50 3 (.slice ao n cap) n (ndV ns)) :=
    row_base (row_of_block hrow (fun k e => set3_other _ _ _ (by have := (World.ownsRow.lt hrow k e).1; omega))) (by omega)
  have HNL := hideN hnl
  have HSM := hideN hsm
  have m0 := hQ3.c0
  have m1 := hQ3.c1
  have m2 := hQ3.c2
  have m3 := hQ3.f 0
  have m4 := hQ3.f 1
  have m5 := hQ3.f 2
  have m6 := hQ3.lt
  clear hold hown hrow hB3 hQ3 hnl hsm
  go_wp2
  have u0 := HQ3.out.c0
  have u1 := HQ3.out.c1
  have u2 := HQ3.out.c2
  unfold set3 at u0 u1 u2
  exact bodyPost_ret (v := .agg #[.int .i64 vi, .slice ao n cap, .int .i64 root]) (by simp [results, Try.results58, go_sem, u0, u1, u2]) rfl ⟨vi, root, ao, n, cap, ns, rfl, hsv, hsr, hn80, HNL.out, HSM.out, HRZ.out, HBE.out⟩

end Go.Proofs.Ytknpifjkllcdeaa

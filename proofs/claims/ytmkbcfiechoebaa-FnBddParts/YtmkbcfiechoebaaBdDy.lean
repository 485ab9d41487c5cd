/-
  A sign and two diagrams drawn: DrawBddTwo.
-/
import Derived.Test.YtmkbcfiechoebaaBdDx
import Derived.Test.YtmkbcfiechoebaaBdPe
namespace Go.Proofs.Ytmkbcfiechoebaa
open Go.RowKit Go.Deep
set_option linter.unusedVariables false

attribute [local go_sem] Oper.semAt_some

theorem litS_cells (w : World) (xs : List ByteArray) (t : TypeId) : ∀ i, i < xs.length → (w.alloc (.cells (xs.map Value.string).toArray t)).cell? ⟨w.heap.size, 0 + i, none⟩ = some (.string (xs.getD i ⟨#[]⟩)) := by
  intro i hi
  rw [World.cell?_alloc_new]
  simp [List.getD, hi]

set_option maxHeartbeats 1000000 in
theorem ofB_any (R : Nat) (v : Value) (bs : List Int) (p : Nat) (b off n cap : Nat) (xs : List ByteArray) (w : World) (hr : Rd w R v bs p) (hp : p ≤ 500000) (hn : xs.length = n) (h0 : 0 < n) (h9 : n ≤ 9) (hb : b ≠ R) (hc : ∀ i, i < n → w.cell? ⟨b, off + i, none⟩ = some (.string (xs.getD i ⟨#[]⟩))) :
    Calls Try.prog 64 #[.pointer (some ⟨R, 0, none⟩), .slice (some ⟨b, off, none⟩) n cap] w fun e w' => ∃ x : ByteArray, e = .returned (.string x) ∧ Rd w' R v bs (p + 1) ∧ w.grownBy w' (some R) ∧ w'.heap.size = w.heap.size := by
  have HC : Hid (∀ i, i < n → w.cell? ⟨b, off + i, none⟩ = some (.string (xs.getD i ⟨#[]⟩))) := hc
  clear hc hn
  go_enter Try.func64, Try.ntmps64
  go_wp2_with fail
  refine (pick_any R v bs p _ _ hr (by omega) (by omega)).mono ?_
  rintro e w1 ⟨x, rfl, hx0, hx1, hx2, hrd1, hg1, hs1⟩
  have hxn : x < n := hx1 (by omega)
  obtain ⟨i, rfl⟩ := Int.eq_ofNat_of_zero_le hx0
  have hi : i < n := by omega
  have hcell : w1.cell? ⟨b, off + i, none⟩ = some (.string (xs.getD i ⟨#[]⟩)) := hg1.cell (HC.out i hi) (fun e => hb (Option.some.inj e))
  have HR1 : Hid (Rd w1 R v bs (p + 1)) := hrd1
  have HG1 : Hid (w.grownBy w1 (some R)) := hg1
  have HS1 : Hid (w1.heap.size = w.heap.size) := hs1
  clear hrd1 hg1 hs1 hx1 hx2
  generalize xs.getD i ⟨#[]⟩ = z at *
  go_wp2
  go_ret
  exact ⟨z, rfl, HR1.out, HG1.out, HS1.out⟩

/-- What stands while more is drawn beside a diagram, two answers being open. -/
structure DwT (w V : World) (B R : Nat) (v : Value) (bs : List Int) (p : Nat) (vi root : Int) (ao : Option Addr) (n cap : Nat) (ns : List Nd) : Prop where
  q : BlkD V w.heap.size (.int .i64 0) (.slice none 0 0) (.int .i64 0)
  q2 : BlkD V (w.heap.size + 1) (.int .i64 0) (.slice none 0 0) (.int .i64 0)
  b : BlkD V B (.int .i64 vi) (.slice ao n cap) (.int .i64 root)
  row : V.ownsRow w.heap.size 33 3 (.slice ao n cap) n (ndV ns)
  nr : ∀ k, (Value.slice ao n cap).ownBlock = some k → k ≠ R ∧ w.heap.size + 1 < k
  rd : Rd V R v bs p
  be : Below w.heap.size w V
  hR : w.heap.size + 1 < R
  hB : B ≠ R
  hQB : w.heap.size + 1 < B

section
variable {w V V' : World} {B R : Nat} {v : Value} {bs : List Int} {p p' : Nat} {vi root : Int} {ao : Option Addr} {n cap : Nat} {ns : List Nd}
theorem DwT.old (h : DwT w V B R v bs p vi root ao n cap ns) (hrd : Rd V' R v bs p') (ho : Old R V.heap.size V V') : DwT w V' B R v bs p' vi root ao n cap ns :=
  ⟨(ho.2.2.2.2 _ h.q.lt (by have := h.hR; omega)).trans h.q, (ho.2.2.2.2 _ h.q2.lt (by have := h.hR; omega)).trans h.q2, (ho.2.2.2.2 _ h.b.lt h.hB).trans h.b, row_of_block h.row (fun k e => ho.2.2.2.2 k (World.ownsRow.lt h.row k e).2 (h.nr k e).1), h.nr, hrd,
    ⟨ho.1.trans h.be.os, ho.2.1.trans h.be.tape, ho.2.2.1.trans h.be.output, by have := h.be.size; have := ho.2.2.2.1; omega, fun k hk => (ho.2.2.2.2 k (by have := h.be.size; omega) (by have := h.hR; omega)).trans (h.be.block k hk)⟩, h.hR, h.hB, h.hQB⟩
theorem DwT.below (h : DwT w V B R v bs p vi root ao n cap ns) (hb : Below V.heap.size V V') : DwT w V' B R v bs p vi root ao n cap ns :=
  ⟨h.q.below hb, h.q2.below hb, h.b.below hb, row_below h.row hb, h.nr, h.rd.grown (row := none) ⟨hb.os, hb.tape, hb.output, hb.size, fun k hk _ => hb.block k hk⟩ (by simp) (by simp), belNext h.be hb, h.hR, h.hB, h.hQB⟩
theorem DwT.drew (h : DwT w V B R v bs p vi root ao n cap ns) : DwT w V.drew B R v bs p vi root ao n cap ns := h.below (below_drewN (Below.refl _ _) 1)
theorem DwT.cells (h : DwT w V B R v bs p vi root ao n cap ns) : V.cell? ⟨B, 0, none⟩ = some (.int .i64 vi) ∧ V.cell? ⟨B, 1, none⟩ = some (.slice ao n cap) ∧ V.cell? ⟨B, 2, none⟩ = some (.int .i64 root) ∧ B < V.heap.size := ⟨h.b.c0, h.b.c1, h.b.c2, h.b.lt⟩
theorem DwT.pick (h : DwT w V B R v bs p vi root ao n cap ns) (hrd : Rd V' R v bs p') (hg : V.grownBy V' (some R)) : DwT w V' B R v bs p' vi root ao n cap ns :=
  ⟨(hg.block _ h.q.lt (fun e => by have := Option.some.inj e; have := h.hR; omega)).trans h.q, (hg.block _ h.q2.lt (fun e => by have := Option.some.inj e; have := h.hR; omega)).trans h.q2, (hg.block _ h.b.lt (fun e => h.hB (Option.some.inj e))).trans h.b, row_of_block h.row (fun k e => hg.block k (World.ownsRow.lt h.row k e).2 (fun e2 => (h.nr k e).1 (Option.some.inj e2))), h.nr, hrd, h.be.grown hg h.be.size (fun k e => by have := Option.some.inj e; have := h.hR; omega), h.hR, h.hB, h.hQB⟩

/-- Both answers are written: what is then. -/
theorem DwT.done (h : DwT w V B R v bs p vi root ao n cap ns) {vj rj : Int} {aj : Option Addr} {nj cj : Nat} {nb : List Nd} {b0 : Nat} (hw : V.ownsRow b0 33 3 (.slice aj nj cj) nj (ndV nb)) (hb0 : w.heap.size + 1 < b0) :
    let Z := set3 (set3 V w.heap.size (.int .i64 vi) (.slice ao n cap) (.int .i64 root)) (w.heap.size + 1) (.int .i64 vj) (.slice aj nj cj) (.int .i64 rj)
    BlkD Z w.heap.size (.int .i64 vi) (.slice ao n cap) (.int .i64 root) ∧ BlkD Z (w.heap.size + 1) (.int .i64 vj) (.slice aj nj cj) (.int .i64 rj) ∧ Z.ownsRow w.heap.size 33 3 (.slice ao n cap) n (ndV ns) ∧ Z.ownsRow w.heap.size 33 3 (.slice aj nj cj) nj (ndV nb) ∧ Below w.heap.size w Z := by
  intro Z
  have o1 := fun (k : Nat) (hk : k ≠ w.heap.size) => set3_other (w := V) (.int .i64 vi) (.slice ao n cap) (.int .i64 root) hk
  have o2 := fun (k : Nat) (hk : k ≠ w.heap.size + 1) => set3_other (w := set3 V w.heap.size (.int .i64 vi) (.slice ao n cap) (.int .i64 root)) (.int .i64 vj) (.slice aj nj cj) (.int .i64 rj) hk
  have hq2 : BlkD (set3 V w.heap.size (.int .i64 vi) (.slice ao n cap) (.int .i64 root)) (w.heap.size + 1) (.int .i64 0) (.slice none 0 0) (.int .i64 0) := h.q2.set3_ne (by omega) _ _ _
  refine ⟨(h.q.set _ _ _).set3_ne (by omega) _ _ _, hq2.set _ _ _, ?_, ?_, set3_below (set3_below h.be (Nat.le_refl _) _ _ _) (by omega) _ _ _⟩
  · exact row_of_block h.row (fun k e => (o2 k (by have := (h.nr k e).2; omega)).trans (o1 k (by have := (h.nr k e).2; omega)))
  · exact row_base (row_of_block hw (fun k e => (o2 k (by have := (World.ownsRow.lt hw k e).1; omega)).trans (o1 k (by have := (World.ownsRow.lt hw k e).1; omega)))) (by omega)
end

/-- A drawn sign and two drawn diagrams. -/
def DrawnT (w : World) (e : Ending) (w' : World) : Prop :=
  ∃ (sg : ByteArray) (va ra : Int) (ao : Option Addr) (n cap : Nat) (na : List Nd) (vb rb : Int) (bo : Option Addr) (n2 cap2 : Nat) (nb : List Nd), e = .returned (.tuple #[.string sg, .agg #[.int .i64 va, .slice ao n cap, .int .i64 ra], .agg #[.int .i64 vb, .slice bo n2 cap2, .int .i64 rb]]) ∧ (Sm va ∧ Sm ra ∧ n ≤ 80 ∧ na.length = n ∧ (∀ q ∈ na, SmN q)) ∧ (Sm vb ∧ Sm rb ∧ n2 ≤ 80 ∧ nb.length = n2 ∧ (∀ q ∈ nb, SmN q)) ∧ w'.ownsRow w.heap.size 33 3 (.slice ao n cap) n (ndV na) ∧ w'.ownsRow w.heap.size 33 3 (.slice bo n2 cap2) n2 (ndV nb) ∧ Below w.heap.size w w'

theorem fit_sm {q : Nd} (h : FitN q) : SmN q := by obtain ⟨⟨a, b⟩, ⟨c, d⟩, e, g⟩ := h; unfold SmN Sm; omega

set_option maxRecDepth 100000 in
set_option maxHeartbeats 8000000 in
theorem drawBddTwo_any (v : Value) (bs : List Int) (w : World) (hv : IsBytes w v bs) (hn : bs.length ≤ 1048576) (hal : ∀ ao n cap b off, v = .slice ao n cap → ao = some ⟨b, off, none⟩ → b < w.heap.size) :
    Calls Try.prog 22 #[v] w (DrawnT w) := by
  obtain ⟨W1, hW1⟩ : ∃ W1, W1 = (w.alloc (.cells #[.int .i64 0, .slice none 0 0, .int .i64 0] 28)).alloc (.cells #[.int .i64 0, .slice none 0 0, .int .i64 0] 28) := ⟨_, rfl⟩
  have HB1 : Hid (Below w.heap.size w W1) := by rw [hW1]; exact belNext (belOne _ _) (belOne _ _)
  have HQ1 : Hid (BlkD W1 w.heap.size (.int .i64 0) (.slice none 0 0) (.int .i64 0)) := by rw [hW1]; exact (BlkD.new _ _ _ _).below (belOne _ _)
  have HQ1b : Hid (BlkD W1 (w.heap.size + 1) (.int .i64 0) (.slice none 0 0) (.int .i64 0)) := by
    have h := BlkD.new (w.alloc (.cells #[.int .i64 0, .slice none 0 0, .int .i64 0] 28)) (.int .i64 0) (.slice none 0 0) (.int .i64 0)
    rw [World.size_alloc, ← hW1] at h
    exact h
  have HOP := hideN (l1Open_any w.heap.size v bs W1 (isBytes_below hv HB1.out) hn hal)
  have HW1 := hideN hW1
  obtain ⟨aoc, capc, rfl, _⟩ := hv
  clear hal hW1
  go_enter Try.func22, Try.ntmps22
  go_wp2_with fail
  rw [← HW1.out]
  refine HOP.out.mono ?_
  rintro e w2 ⟨v2, bs2, rfl, hrd2, hb2, hs2, hal2⟩
  have HAL := hideN hal2
  have hs12 : w.heap.size + 1 < W1.heap.size := HQ1b.out.lt
  have hs22 : W1.heap.size < w2.heap.size := by omega
  obtain ⟨R, hRR⟩ : ∃ R, W1.heap.size = R := ⟨_, rfl⟩
  rw [hRR] at hrd2 hs12 hs22 ⊢
  obtain ⟨G, hG⟩ : ∃ G, G = w2.alloc (.cells ([⟨#[38]⟩, ⟨#[124]⟩, ⟨#[61]⟩, ⟨#[38]⟩, ⟨#[124]⟩, ⟨#[61]⟩, ⟨#[60]⟩, ⟨#[]⟩].map Value.string).toArray 9) := ⟨_, rfl⟩
  have hbG : Below w2.heap.size w2 G := by rw [hG]; exact belOne _ _
  have hrdG : Rd G R v2 bs2 0 := hrd2.grown (row := none) ⟨hbG.os, hbG.tape, hbG.output, hbG.size, fun k hk _ => hbG.block k hk⟩ (by simp) (by simp)
  have HOF := hideN (ofB_any R v2 bs2 0 w2.heap.size 0 8 8 [⟨#[38]⟩, ⟨#[124]⟩, ⟨#[61]⟩, ⟨#[38]⟩, ⟨#[124]⟩, ⟨#[61]⟩, ⟨#[60]⟩, ⟨#[]⟩] G hrdG (by omega) rfl (by decide) (by decide) (by omega) (by rw [hG]; exact fun i hi => litS_cells w2 [⟨#[38]⟩, ⟨#[124]⟩, ⟨#[61]⟩, ⟨#[38]⟩, ⟨#[124]⟩, ⟨#[61]⟩, ⟨#[60]⟩, ⟨#[]⟩] _ i hi))
  have HQ2 := hideN ((HQ1.out.below hb2).below hbG)
  have HQ2b := hideN ((HQ1b.out.below hb2).below hbG)
  have HB2 := hideN (belNext (belNext HB1.out hb2) hbG)
  have hsG : w2.heap.size < G.heap.size := by rw [hG]; simp
  have HG := hideN hG
  clear hrd2 hb2 hs2 hal2 hrdG hbG hG
  go_wp2_with fail
  try simp only [List.map_cons, List.map_nil] at HG
  try rw [← HG.out]
  refine HOF.out.mono ?_
  rintro e w3 ⟨sg, rfl, hrd3, hg3, hs3⟩
  have hq3 : BlkD w3 w.heap.size (.int .i64 0) (.slice none 0 0) (.int .i64 0) := (hg3.block _ HQ2.out.lt (fun e => by have := Option.some.inj e; omega)).trans HQ2.out
  have hq3b : BlkD w3 (w.heap.size + 1) (.int .i64 0) (.slice none 0 0) (.int .i64 0) := (hg3.block _ HQ2b.out.lt (fun e => by have := Option.some.inj e; omega)).trans HQ2b.out
  have hbe3 : Below w.heap.size w w3 := HB2.out.grown hg3 HB2.out.size (fun k e => by have := Option.some.inj e; omega)
  have HAN := hideN (l13AnyBdd_any R v2 bs2 1 w3 hrd3 (fun ao n cap b off h1 h2 => by have := HAL.out ao n cap b off h1 h2; have := hq3.lt; omega) (by omega))
  have HQ3 := hideN hq3
  have HQ3b := hideN hq3b
  have HBE3 := hideN hbe3
  have hs33 : R < w3.heap.size := by omega
  clear hrd3 hg3 hs3 hq3 hq3b hbe3 hRR hs22 hsG
  go_wp2_with fail
  refine HAN.out.mono ?_
  rintro e w4 ⟨vi, root, ao, n, cap, p', rfl, hsv, hsr, hn80, hown, hp', hrd4, hold⟩
  obtain ⟨ns, hnl, hsm, hrow⟩ := hown.nodes
  obtain ⟨V4, hV4⟩ : ∃ V4, V4 = w4.alloc (.cells #[.int .i64 vi, .slice ao n cap, .int .i64 root] 28) := ⟨_, rfl⟩
  have hb44 : Below w4.heap.size w4 V4 := by rw [hV4]; exact belOne _ _
  have hs34 : w3.heap.size ≤ w4.heap.size := hold.2.2.2.1
  have HDT : Hid (DwT w V4 w4.heap.size R v2 bs2 p' vi root ao n cap ns) := by
    refine ⟨?_, ?_, by rw [hV4]; exact BlkD.new _ _ _ _, row_base (row_below hrow hb44) (by omega), fun k e => by have := (World.ownsRow.lt hrow k e).1; omega, hrd4.grown (row := none) ⟨hb44.os, hb44.tape, hb44.output, hb44.size, fun k hk _ => hb44.block k hk⟩ (by simp) (by simp), ?_, hs12, by omega, by omega⟩
    · exact (hb44.block _ (by omega)).trans ((hold.2.2.2.2 _ HQ3.out.lt (by omega)).trans HQ3.out)
    · exact (hb44.block _ (by omega)).trans ((hold.2.2.2.2 _ HQ3b.out.lt (by omega)).trans HQ3b.out)
    · exact belNext ⟨hold.1.trans HBE3.out.os, hold.2.1.trans HBE3.out.tape, hold.2.2.1.trans HBE3.out.output, by have := HBE3.out.size; omega, fun k hk => (hold.2.2.2.2 k (by omega) (by omega)).trans (HBE3.out.block k hk)⟩ hb44
  have HOK := hideN (specBddOk_any vi root ao n cap ns V4 (nds_of_own HDT.out.row hnl) (fun q hq => smN64 (hsm q hq)) (sm64 hsr) (by omega))
  have HNL := hideN hnl
  have HSM := hideN hsm
  have HV4 := hideN hV4
  clear hold hown hrow hnl hsm hV4 hb44 hs34 hrd4
  obtain ⟨B, hBB⟩ : ∃ B, w4.heap.size = B := ⟨_, rfl⟩
  rw [hBB] at HDT
  obtain ⟨b0, b1, b2, b3⟩ := HDT.out.cells
  go_wp2_with fail
  try rw [← HV4.out]
  refine HOK.out.mono ?_
  rintro e w5 ⟨rfl, hb5⟩
  have HD5 := hideN (HDT.out.below hb5)
  clear hb5 b0 b1 b2 b3
  obtain ⟨b0, b1, b2, b3⟩ := HD5.out.cells
  cases hbd : bddB vi ns root with
  | false =>
    go_upto_region 5 with fail
    obtain ⟨u0, u1, u2, u3⟩ := HD5.out.drew.cells
    refine region_U (fin := 6) (S := fun V => V.cell? ⟨B, 0, none⟩ = some (.int .i64 vi) ∧ V.cell? ⟨B, 1, none⟩ = some (.slice ao n cap) ∧ V.cell? ⟨B, 2, none⟩ = some (.int .i64 root) ∧ B < V.heap.size) (by kernel_rfl) ⟨u0, u1, u2, u3⟩ (fun hHeld => ?_)
    clear hHeld
    refine takeU (i := 0) (v := .string sg) rfl (by rfl) (by kernel_rfl) (by kernel_rfl) (reach_one (by kernel_rfl)) (by kernel_rfl) (by kernel_rfl) (fun _ _ _ h => h) (Or.inl ⟨by rfl, fun w hS => by obtain ⟨u0, u1, u2, u3⟩ := hS; go_simp⟩) ⟨u0, u1, u2, u3⟩ ?_
    simp only [List.getElem_toArray, List.getElem_cons_zero, Act.put, List.setIfInBounds_toArray, List.set_cons_zero, List.set_cons_succ]
    refine takeU (i := 1) (v := .agg #[.int .i64 vi, .slice ao n cap, .int .i64 root]) rfl (by rfl) (by kernel_rfl) (by kernel_rfl) (reach_one (by kernel_rfl)) (by kernel_rfl) (by kernel_rfl) (fun _ _ _ h => h) (Or.inl ⟨by rfl, fun w hS => by obtain ⟨u0, u1, u2, u3⟩ := hS; go_simp⟩) ⟨u0, u1, u2, u3⟩ ?_
    simp only [List.getElem_toArray, List.getElem_cons_zero, List.getElem_cons_succ, Act.put, List.setIfInBounds_toArray, List.set_cons_zero, List.set_cons_succ]
    refine takeU (i := 2) (v := .pointer (some ⟨R, 0, none⟩)) rfl (by rfl) (by kernel_rfl) (by kernel_rfl) (reach_one (by kernel_rfl)) (by kernel_rfl) (by kernel_rfl) (fun _ _ _ h => h) (Or.inl ⟨by rfl, fun w hS => by obtain ⟨u0, u1, u2, u3⟩ := hS; go_simp⟩) ⟨u0, u1, u2, u3⟩ ?_
    simp only [List.getElem_toArray, List.getElem_cons_zero, List.getElem_cons_succ, Act.put, List.setIfInBounds_toArray, List.set_cons_zero, List.set_cons_succ]
    refine oneU (i := 3) (by kernel_rfl) rfl (by rfl) ?_
    simp only [List.getElem_toArray, List.getElem_cons_zero, List.getElem_cons_succ]
    go_simp
    refine (l13AnyBdd_any R v2 bs2 p' w5.drew HD5.out.drew.rd (fun ao n cap b off h1 h2 => by have := HAL.out ao n cap b off h1 h2; have := HD5.out.hR; have := HD5.out.drew.rd.lt; omega) (by omega)).mono ?_
    rintro e w7 ⟨vj, rj, aj, nj, cj, p7, rfl, hsv7, hsr7, hn7, hown7, hp7, hrd7, hold7⟩
    obtain ⟨nb, hnl7, hsm7, hrow7⟩ := hown7.nodes
    have hd7 := HD5.out.drew.old hrd7 hold7
    have hb07 : w.heap.size + 1 < w5.drew.heap.size := by have := HD5.out.drew.rd.lt; have := HD5.out.hR; omega
    have HD7 := hideN hd7
    have HR7 := hideN hrow7
    have HNL7 := hideN hnl7
    have HSM7 := hideN hsm7
    clear u0 u1 u2 u3
    obtain ⟨u0, u1, u2, u3⟩ := HD7.out.cells
    refine ⟨⟨u0, u1, u2, u3⟩, ?_⟩
    clear hrd7 hold7 hown7 hd7 hrow7 hnl7 hsm7
    have HZ := hideN (HD7.out.done (vj := vj) (rj := rj) HR7.out hb07)
    have m0 := HD7.out.q.c0
    have m1 := HD7.out.q.c1
    have m2 := HD7.out.q.c2
    have m3 := HD7.out.q.f 0
    have m4 := HD7.out.q.f 1
    have m5 := HD7.out.q.f 2
    have m6 := HD7.out.q.lt
    have k0 := HD7.out.q2.c0
    have k1 := HD7.out.q2.c1
    have k2 := HD7.out.q2.c2
    have k3 := HD7.out.q2.f 0
    have k4 := HD7.out.q2.f 1
    have k5 := HD7.out.q2.f 2
    have k6 := HD7.out.q2.lt
    have hne1 : B ≠ w.heap.size := by have := HD7.out.hQB; omega
    have hne2 : w.heap.size ≠ B := by have := HD7.out.hQB; omega
    have hne3 : B ≠ w.heap.size + 1 := by have := HD7.out.hQB; omega
    have hne4 : w.heap.size + 1 ≠ B := by have := HD7.out.hQB; omega
    have hne5 : w.heap.size + 1 ≠ w.heap.size := by omega
    have hne6 : w.heap.size ≠ w.heap.size + 1 := by omega
    refine oneU (i := 4) (by kernel_rfl) rfl (by rfl) ?_
    simp only [List.getElem_toArray, List.getElem_cons_zero, List.getElem_cons_succ]
    go_simp
    refine oneU (i := 5) (by kernel_rfl) rfl (by rfl) ?_
    simp only [List.getElem_toArray, List.getElem_cons_zero, List.getElem_cons_succ]
    go_simp
    refine oneU (i := 6) (by kernel_rfl) rfl (by rfl) ?_
    simp only [List.getElem_toArray, List.getElem_cons_zero, List.getElem_cons_succ]
    go_simp
    refine doneU (by kernel_rfl) ?_ _
    have t0 := HZ.out.1.c0
    have t1 := HZ.out.1.c1
    have t2 := HZ.out.1.c2
    have t3 := HZ.out.2.1.c0
    have t4 := HZ.out.2.1.c1
    have t5 := HZ.out.2.1.c2
    unfold set3 at t0 t1 t2 t3 t4 t5
    go_wp2
    exact bodyPost_ret (v := .tuple #[.string sg, .agg #[.int .i64 vi, .slice ao n cap, .int .i64 root], .agg #[.int .i64 vj, .slice aj nj cj, .int .i64 rj]]) (by simp [results, Try.results22, go_sem, t0, t1, t2, t3, t4, t5]) rfl ⟨sg, vi, root, ao, n, cap, ns, vj, rj, aj, nj, cj, nb, rfl, ⟨hsv, hsr, hn80, HNL.out, HSM.out⟩, ⟨hsv7, hsr7, hn7, HNL7.out, HSM7.out⟩, HZ.out.2.2.1, HZ.out.2.2.2.1, HZ.out.2.2.2.2⟩
  | true =>
    obtain ⟨X, rfl, h6, -⟩ := bdd_split hbd
    go_wp2_with fail
    refine (pick_any R v2 bs2 p' 8 w5 HD5.out.rd (by omega) (by omega)).mono ?_
    rintro e w6 ⟨x1, rfl, hx0, hx1, -, hrd6, hg6, hs6⟩
    have HD6 := hideN (HD5.out.pick hrd6 hg6)
    clear hrd6 hg6 hs6 hx1 b0 b1 b2 b3
    obtain ⟨b0, b1, b2, b3⟩ := HD6.out.cells
    by_cases hxz : x1 = 0
    · subst hxz
      go_upto_region 5 with fail
      obtain ⟨u0, u1, u2, u3⟩ := HD6.out.drew.cells
      refine region_U (fin := 6) (S := fun V => V.cell? ⟨B, 0, none⟩ = some (.int .i64 (X : Int)) ∧ V.cell? ⟨B, 1, none⟩ = some (.slice ao n cap) ∧ V.cell? ⟨B, 2, none⟩ = some (.int .i64 root) ∧ B < V.heap.size) (by kernel_rfl) ⟨u0, u1, u2, u3⟩ (fun hHeld => ?_)
      clear hHeld
      refine takeU (i := 0) (v := .string sg) rfl (by rfl) (by kernel_rfl) (by kernel_rfl) (reach_one (by kernel_rfl)) (by kernel_rfl) (by kernel_rfl) (fun _ _ _ h => h) (Or.inl ⟨by rfl, fun w hS => by obtain ⟨u0, u1, u2, u3⟩ := hS; go_simp⟩) ⟨u0, u1, u2, u3⟩ ?_
      simp only [List.getElem_toArray, List.getElem_cons_zero, Act.put, List.setIfInBounds_toArray, List.set_cons_zero, List.set_cons_succ]
      refine takeU (i := 1) (v := .agg #[.int .i64 (X : Int), .slice ao n cap, .int .i64 root]) rfl (by rfl) (by kernel_rfl) (by kernel_rfl) (reach_one (by kernel_rfl)) (by kernel_rfl) (by kernel_rfl) (fun _ _ _ h => h) (Or.inl ⟨by rfl, fun w hS => by obtain ⟨u0, u1, u2, u3⟩ := hS; go_simp⟩) ⟨u0, u1, u2, u3⟩ ?_
      simp only [List.getElem_toArray, List.getElem_cons_zero, List.getElem_cons_succ, Act.put, List.setIfInBounds_toArray, List.set_cons_zero, List.set_cons_succ]
      refine takeU (i := 2) (v := .pointer (some ⟨R, 0, none⟩)) rfl (by rfl) (by kernel_rfl) (by kernel_rfl) (reach_one (by kernel_rfl)) (by kernel_rfl) (by kernel_rfl) (fun _ _ _ h => h) (Or.inl ⟨by rfl, fun w hS => by obtain ⟨u0, u1, u2, u3⟩ := hS; go_simp⟩) ⟨u0, u1, u2, u3⟩ ?_
      simp only [List.getElem_toArray, List.getElem_cons_zero, List.getElem_cons_succ, Act.put, List.setIfInBounds_toArray, List.set_cons_zero, List.set_cons_succ]
      refine oneU (i := 3) (by kernel_rfl) rfl (by rfl) ?_
      simp only [List.getElem_toArray, List.getElem_cons_zero, List.getElem_cons_succ]
      go_simp
      refine (l13AnyBdd_any R v2 bs2 (p' + 1) w6.drew HD6.out.drew.rd (fun ao n cap b off h1 h2 => by have := HAL.out ao n cap b off h1 h2; have := HD6.out.hR; have := HD6.out.drew.rd.lt; omega) (by omega)).mono ?_
      rintro e w7 ⟨vj, rj, aj, nj, cj, p7, rfl, hsv7, hsr7, hn7, hown7, hp7, hrd7, hold7⟩
      obtain ⟨nb, hnl7, hsm7, hrow7⟩ := hown7.nodes
      have hd7 := HD6.out.drew.old hrd7 hold7
      have hb07 : w.heap.size + 1 < w6.drew.heap.size := by have := HD6.out.drew.rd.lt; have := HD6.out.hR; omega
      have HD7 := hideN hd7
      have HR7 := hideN hrow7
      have HNL7 := hideN hnl7
      have HSM7 := hideN hsm7
      clear u0 u1 u2 u3
      obtain ⟨u0, u1, u2, u3⟩ := HD7.out.cells
      refine ⟨⟨u0, u1, u2, u3⟩, ?_⟩
      clear hrd7 hold7 hown7 hd7 hrow7 hnl7 hsm7
      have HZ := hideN (HD7.out.done (vj := vj) (rj := rj) HR7.out hb07)
      have m0 := HD7.out.q.c0
      have m1 := HD7.out.q.c1
      have m2 := HD7.out.q.c2
      have m3 := HD7.out.q.f 0
      have m4 := HD7.out.q.f 1
      have m5 := HD7.out.q.f 2
      have m6 := HD7.out.q.lt
      have k0 := HD7.out.q2.c0
      have k1 := HD7.out.q2.c1
      have k2 := HD7.out.q2.c2
      have k3 := HD7.out.q2.f 0
      have k4 := HD7.out.q2.f 1
      have k5 := HD7.out.q2.f 2
      have k6 := HD7.out.q2.lt
      have hne1 : B ≠ w.heap.size := by have := HD7.out.hQB; omega
      have hne2 : w.heap.size ≠ B := by have := HD7.out.hQB; omega
      have hne3 : B ≠ w.heap.size + 1 := by have := HD7.out.hQB; omega
      have hne4 : w.heap.size + 1 ≠ B := by have := HD7.out.hQB; omega
      have hne5 : w.heap.size + 1 ≠ w.heap.size := by omega
      have hne6 : w.heap.size ≠ w.heap.size + 1 := by omega
      refine oneU (i := 4) (by kernel_rfl) rfl (by rfl) ?_
      simp only [List.getElem_toArray, List.getElem_cons_zero, List.getElem_cons_succ]
      go_simp
      refine oneU (i := 5) (by kernel_rfl) rfl (by rfl) ?_
      simp only [List.getElem_toArray, List.getElem_cons_zero, List.getElem_cons_succ]
      go_simp
      refine oneU (i := 6) (by kernel_rfl) rfl (by rfl) ?_
      simp only [List.getElem_toArray, List.getElem_cons_zero, List.getElem_cons_succ]
      go_simp
      refine doneU (by kernel_rfl) ?_ _
      have t0 := HZ.out.1.c0
      have t1 := HZ.out.1.c1
      have t2 := HZ.out.1.c2
      have t3 := HZ.out.2.1.c0
      have t4 := HZ.out.2.1.c1
      have t5 := HZ.out.2.1.c2
      unfold set3 at t0 t1 t2 t3 t4 t5
      go_wp2
      exact bodyPost_ret (v := .tuple #[.string sg, .agg #[.int .i64 (X : Int), .slice ao n cap, .int .i64 root], .agg #[.int .i64 vj, .slice aj nj cj, .int .i64 rj]]) (by simp [results, Try.results22, go_sem, t0, t1, t2, t3, t4, t5]) rfl ⟨sg, (X : Int), root, ao, n, cap, ns, vj, rj, aj, nj, cj, nb, rfl, ⟨hsv, hsr, hn80, HNL.out, HSM.out⟩, ⟨hsv7, hsr7, hn7, HNL7.out, HSM7.out⟩, HZ.out.2.2.1, HZ.out.2.2.2.1, HZ.out.2.2.2.2⟩
    · have hxb : (x1 == 0) = false := by simpa using hxz
      go_upto_region 6 with fail
      obtain ⟨u0, u1, u2, u3⟩ := HD6.out.drew.cells
      refine region_U (fin := 11) (S := fun V => V.cell? ⟨B, 0, none⟩ = some (.int .i64 (X : Int)) ∧ V.cell? ⟨B, 1, none⟩ = some (.slice ao n cap) ∧ V.cell? ⟨B, 2, none⟩ = some (.int .i64 root) ∧ B < V.heap.size) (by kernel_rfl) ⟨u0, u1, u2, u3⟩ (fun hHeld => ?_)
      clear hHeld
      refine takeU (i := 0) (v := .string sg) rfl (by rfl) (by kernel_rfl) (by kernel_rfl) (reach_one (by kernel_rfl)) (by kernel_rfl) (by kernel_rfl) (fun _ _ _ h => h) (Or.inl ⟨by rfl, fun w hS => by obtain ⟨u0, u1, u2, u3⟩ := hS; go_simp⟩) ⟨u0, u1, u2, u3⟩ ?_
      simp only [List.getElem_toArray, List.getElem_cons_zero, Act.put, List.setIfInBounds_toArray, List.set_cons_zero, List.set_cons_succ]
      refine takeU (i := 1) (v := .agg #[.int .i64 (X : Int), .slice ao n cap, .int .i64 root]) rfl (by rfl) (by kernel_rfl) (by kernel_rfl) (reach_one (by kernel_rfl)) (by kernel_rfl) (by kernel_rfl) (fun _ _ _ h => h) (Or.inl ⟨by rfl, fun w hS => by obtain ⟨u0, u1, u2, u3⟩ := hS; go_simp⟩) ⟨u0, u1, u2, u3⟩ ?_
      simp only [List.getElem_toArray, List.getElem_cons_zero, List.getElem_cons_succ, Act.put, List.setIfInBounds_toArray, List.set_cons_zero, List.set_cons_succ]
      refine takeU (i := 2) (v := .pointer (some ⟨B, 0, none⟩)) rfl (by rfl) (by kernel_rfl) (by kernel_rfl) (reach_one (by kernel_rfl)) (by kernel_rfl) (by kernel_rfl) (fun _ _ _ h => h) (Or.inl ⟨by rfl, fun w hS => by obtain ⟨u0, u1, u2, u3⟩ := hS; go_simp⟩) ⟨u0, u1, u2, u3⟩ ?_
      simp only [List.getElem_toArray, List.getElem_cons_zero, List.getElem_cons_succ, Act.put, List.setIfInBounds_toArray, List.set_cons_zero, List.set_cons_succ]
      refine takeU (i := 3) (v := .int .i64 (X : Int)) rfl (by rfl) (by kernel_rfl) (by kernel_rfl) (reach_one (by kernel_rfl)) (by kernel_rfl) (by kernel_rfl) (fun _ _ _ h => h) (Or.inl ⟨by rfl, fun w hS => by obtain ⟨u0, u1, u2, u3⟩ := hS; go_simp⟩) ⟨u0, u1, u2, u3⟩ ?_
      simp only [List.getElem_toArray, List.getElem_cons_zero, List.getElem_cons_succ, Act.put, List.setIfInBounds_toArray, List.set_cons_zero, List.set_cons_succ]
      refine takeU (i := 4) (v := .pointer (some ⟨R, 0, none⟩)) rfl (by rfl) (by kernel_rfl) (by kernel_rfl) (reach_one (by kernel_rfl)) (by kernel_rfl) (by kernel_rfl) (fun _ _ _ h => h) (Or.inl ⟨by rfl, fun w hS => by obtain ⟨u0, u1, u2, u3⟩ := hS; go_simp⟩) ⟨u0, u1, u2, u3⟩ ?_
      simp only [List.getElem_toArray, List.getElem_cons_zero, List.getElem_cons_succ, Act.put, List.setIfInBounds_toArray, List.set_cons_zero, List.set_cons_succ]
      refine takeU (i := 5) (v := .pointer (some ⟨B, 0, none⟩)) rfl (by rfl) (by kernel_rfl) (by kernel_rfl) (reach_one (by kernel_rfl)) (by kernel_rfl) (by kernel_rfl) (fun _ _ _ h => h) (Or.inl ⟨by rfl, fun w hS => by obtain ⟨u0, u1, u2, u3⟩ := hS; go_simp⟩) ⟨u0, u1, u2, u3⟩ ?_
      simp only [List.getElem_toArray, List.getElem_cons_zero, List.getElem_cons_succ, Act.put, List.setIfInBounds_toArray, List.set_cons_zero, List.set_cons_succ]
      refine takeU (i := 6) (v := .int .i64 (X : Int)) rfl (by rfl) (by kernel_rfl) (by kernel_rfl) (reach_one (by kernel_rfl)) (by kernel_rfl) (by kernel_rfl) (fun _ _ _ h => h) (Or.inl ⟨by rfl, fun w hS => by obtain ⟨u0, u1, u2, u3⟩ := hS; go_simp⟩) ⟨u0, u1, u2, u3⟩ ?_
      simp only [List.getElem_toArray, List.getElem_cons_zero, List.getElem_cons_succ, Act.put, List.setIfInBounds_toArray, List.set_cons_zero, List.set_cons_succ]
      refine oneU (i := 7) (by kernel_rfl) rfl (by rfl) ?_
      simp only [List.getElem_toArray, List.getElem_cons_zero, List.getElem_cons_succ]
      go_simp
      refine (l13Table_any R v2 bs2 (p' + 1) X w6.drew HD6.out.drew.rd (fun ao n cap b off h1 h2 => by have := HAL.out ao n cap b off h1 h2; have := HD6.out.hR; have := HD6.out.drew.rd.lt; omega) (by omega) h6).mono ?_
      rintro e w7 ⟨g7, c7, ms, p7, rfl, hml7, hown7, hp7, hrd7, hold7⟩
      have hd7 := HD6.out.drew.old hrd7 hold7
      have HT7 : Hid (Tab w7 g7 0 c7 ms) := ⟨(ownb_cell hown7 (i := 0) (by rw [hml7]; exact Nat.pow_pos (by decide))).2.2, fun i hi => by rw [Nat.zero_add]; exact (ownb_cell hown7 hi).1⟩
      have hgl : g7 < w7.heap.size := (hown7.blk g7 rfl).2
      have HD7 := hideN hd7
      have HML := hideN hml7
      have hs7 : w6.drew.heap.size ≤ w7.heap.size := hold7.2.2.2.1
      clear u0 u1 u2 u3
      obtain ⟨u0, u1, u2, u3⟩ := HD7.out.cells
      refine ⟨⟨u0, u1, u2, u3⟩, ?_⟩
      clear hrd7 hold7 hown7 hd7 hml7
      refine oneU (i := 8) (by kernel_rfl) rfl (by rfl) ?_
      simp only [List.getElem_toArray, List.getElem_cons_zero, List.getElem_cons_succ]
      go_simp
      refine (l11Of_any X g7 0 c7 (2 ^ X) ms w7 h6 HML.out rfl HT7.out hgl).mono ?_
      rintro e w8 ⟨aj, nj, cj, rfl, hnl8, hrow8, hb8⟩
      have hdf := draw_fit (t := ms) h6
      have hb08 : w.heap.size + 1 < w7.heap.size := by have := HD7.out.q2.lt; omega
      have HD8 := hideN (HD7.out.below hb8)
      have HR8 := hideN hrow8
      have HNL8 := hideN hnl8
      have HFB := hideN (⟨⟨by omega, by omega⟩, ⟨by omega, by omega⟩, by omega, hnl8, fun q hq => fit_sm (hdf.1 q hq)⟩ : Sm (X : Int) ∧ Sm (drawB X 0 ms []).2 ∧ nj ≤ 80 ∧ (drawB X 0 ms []).1.length = nj ∧ (∀ q ∈ (drawB X 0 ms []).1, SmN q))
      clear u0 u1 u2 u3
      obtain ⟨u0, u1, u2, u3⟩ := HD8.out.cells
      refine ⟨⟨u0, u1, u2, u3⟩, ?_⟩
      clear hb8 hrow8 hnl8 hdf HML HT7
      generalize drawB X 0 ms [] = DD at *
      obtain ⟨nb, rj⟩ := DD
      have HZ := hideN (HD8.out.done (vj := (X : Int)) (rj := rj) HR8.out hb08)
      have m0 := HD8.out.q.c0
      have m1 := HD8.out.q.c1
      have m2 := HD8.out.q.c2
      have m3 := HD8.out.q.f 0
      have m4 := HD8.out.q.f 1
      have m5 := HD8.out.q.f 2
      have m6 := HD8.out.q.lt
      have k0 := HD8.out.q2.c0
      have k1 := HD8.out.q2.c1
      have k2 := HD8.out.q2.c2
      have k3 := HD8.out.q2.f 0
      have k4 := HD8.out.q2.f 1
      have k5 := HD8.out.q2.f 2
      have k6 := HD8.out.q2.lt
      have hne1 : B ≠ w.heap.size := by have := HD8.out.hQB; omega
      have hne2 : w.heap.size ≠ B := by have := HD8.out.hQB; omega
      have hne3 : B ≠ w.heap.size + 1 := by have := HD8.out.hQB; omega
      have hne4 : w.heap.size + 1 ≠ B := by have := HD8.out.hQB; omega
      have hne5 : w.heap.size + 1 ≠ w.heap.size := by omega
      have hne6 : w.heap.size ≠ w.heap.size + 1 := by omega
      refine oneU (i := 9) (by kernel_rfl) rfl (by rfl) ?_
      simp only [List.getElem_toArray, List.getElem_cons_zero, List.getElem_cons_succ]
      go_simp
      refine oneU (i := 10) (by kernel_rfl) rfl (by rfl) ?_
      simp only [List.getElem_toArray, List.getElem_cons_zero, List.getElem_cons_succ]
      go_simp
      refine oneU (i := 11) (by kernel_rfl) rfl (by rfl) ?_
      simp only [List.getElem_toArray, List.getElem_cons_zero, List.getElem_cons_succ]
      go_simp
      refine doneU (by kernel_rfl) ?_ _
      have t0 := HZ.out.1.c0
      have t1 := HZ.out.1.c1
      have t2 := HZ.out.1.c2
      have t3 := HZ.out.2.1.c0
      have t4 := HZ.out.2.1.c1
      have t5 := HZ.out.2.1.c2
      unfold set3 at t0 t1 t2 t3 t4 t5
      go_wp2
      exact bodyPost_ret (v := .tuple #[.string sg, .agg #[.int .i64 (X : Int), .slice ao n cap, .int .i64 root], .agg #[.int .i64 (X : Int), .slice aj nj cj, .int .i64 rj]]) (by simp [results, Try.results22, go_sem, t0, t1, t2, t3, t4, t5]) rfl ⟨sg, (X : Int), root, ao, n, cap, ns, (X : Int), rj, aj, nj, cj, nb, rfl, ⟨hsv, hsr, hn80, HNL.out, HSM.out⟩, HFB.out, HZ.out.2.2.1, HZ.out.2.2.2.1, HZ.out.2.2.2.2⟩

end Go.Proofs.Ytmkbcfiechoebaa

/-
  A drawn circuit with latches and inputs: DrawAigValues.
-/
import Derived.Test.YtbdjdgamnnifjaaCir5
namespace Go.Proofs.Ytbdjdgamnnifjaa
open Go.RowKit Go.Deep
set_option linter.unusedVariables false

/-- What holds while more is drawn beside a circuit. -/
structure StV (w w1 wr : World) (Q C R : Nat) (v : Value) (bs : List Int) (p : Nat) (inp : Int) (vl va vb : Value) (ls : List (Int × Bool)) (xs : List (Int × Int)) (cs : List Int) : Prop where
  q : Blk4 wr Q (.int .i64 0) (.slice none 0 0) (.slice none 0 0) (.slice none 0 0)
  c : Blk4 wr C (.int .i64 inp) vl va vb
  g : GotD w1 wr R v bs p vl va vb ls xs cs
  bel : Below w.heap.size w wr
  qr : Q ≠ R
  cr : C ≠ R
  hR : w.heap.size ≤ R
  hQ : w.heap.size ≤ Q
  rw1 : R < w1.heap.size
  qw1 : Q < w1.heap.size
  cw1 : w1.heap.size ≤ C

theorem ownb_old {wr w' : World} {base R : Nat} {v : Value} {ms : List Bool} (h : Ownb wr base v ms) (ho : Old R wr.heap.size wr w') (hR : R < base) : Ownb w' base v ms :=
  row_of_block h (fun k e => ho.2.2.2.2 k (World.ownsRow.lt h k e).2 (by have := (World.ownsRow.lt h k e).1; omega))

theorem row_set {wr : World} {base e s n : Nat} {v : Value} {zs : List Value} (h : wr.ownsRow base e s v n zs) {a : Addr} (ha : a.block < base) (u : Value) : (wr.setCell a u).ownsRow base e s v n zs :=
  row_of_block h (fun k e => Below.heap_setCell wr _ _ k (by have := (World.ownsRow.lt h k e).1; omega))

section
variable {w w1 wr w2 : World} {Q C R : Nat} {v : Value} {bs : List Int} {p : Nat} {inp : Int} {vl va vb : Value} {ls : List (Int × Bool)} {xs : List (Int × Int)} {cs : List Int}

theorem StV.pick (h : StV w w1 wr Q C R v bs p inp vl va vb ls xs cs) {p1 : Nat} (hrd : Rd w2 R v bs p1) (hg : wr.grownBy w2 (some R)) : StV w w1 w2 Q C R v bs p1 inp vl va vb ls xs cs :=
  ⟨h.q.of_block (hg.block _ h.q.lt (fun e => h.qr (Option.some.inj e))), h.c.of_block (hg.block _ h.c.lt (fun e => h.cr (Option.some.inj e))), h.g.pick h.rw1 hrd hg,
    ⟨hg.os.trans h.bel.os, hg.tape.trans h.bel.tape, hg.output.trans h.bel.output, Nat.le_trans h.bel.size hg.size, fun k hk => (hg.block k (by have := h.bel.size; omega) (fun e => by have := Option.some.inj e; have := h.hR; omega)).trans (h.bel.block k hk)⟩,
    h.qr, h.cr, h.hR, h.hQ, h.rw1, h.qw1, h.cw1⟩

theorem StV.more (h : StV w w1 wr Q C R v bs p inp vl va vb ls xs cs) {p1 : Nat} (hrd : Rd w2 R v bs p1) (ho : Old R wr.heap.size wr w2) : StV w w1 w2 Q C R v bs p1 inp vl va vb ls xs cs :=
  ⟨h.q.of_block (ho.2.2.2.2 _ h.q.lt h.qr), h.c.of_block (ho.2.2.2.2 _ h.c.lt h.cr), h.g.more h.rw1 hrd ho,
    ⟨ho.1.trans h.bel.os, ho.2.1.trans h.bel.tape, ho.2.2.1.trans h.bel.output, Nat.le_trans h.bel.size ho.size, fun k hk => (ho.2.2.2.2 k (by have := h.bel.size; omega) (by have := h.hR; omega)).trans (h.bel.block k hk)⟩,
    h.qr, h.cr, h.hR, h.hQ, h.rw1, h.qw1, h.cw1⟩

theorem StV.drew (h : StV w w1 wr Q C R v bs p inp vl va vb ls xs cs) : StV w w1 wr.drew Q C R v bs p inp vl va vb ls xs cs :=
  ⟨h.q, h.c, h.g.drew, h.bel.drew, h.qr, h.cr, h.hR, h.hQ, h.rw1, h.qw1, h.cw1⟩

theorem StV.wide (h : StV w w1 wr Q C R v bs p inp vl va vb ls xs cs) : w1.heap.size ≤ wr.heap.size := by have := h.c.lt; have := h.cw1; omega

/-- Four cells of a block. -/
def set4 (w : World) (Q : Nat) (a0 a1 a2 a3 : Value) : World := (((w.setCell ⟨Q, 0, none⟩ a0).setCell ⟨Q, 1, none⟩ a1).setCell ⟨Q, 2, none⟩ a2).setCell ⟨Q, 3, none⟩ a3

theorem row_set4 {base e s n : Nat} {u : Value} {zs : List Value} (h : wr.ownsRow base e s u n zs) (hQ : Q < base) (a0 a1 a2 a3 : Value) : (set4 wr Q a0 a1 a2 a3).ownsRow base e s u n zs :=
  row_set (row_set (row_set (row_set h (a := ⟨Q, 0, none⟩) hQ a0) (a := ⟨Q, 1, none⟩) hQ a1) (a := ⟨Q, 2, none⟩) hQ a2) (a := ⟨Q, 3, none⟩) hQ a3

theorem below_set4 (h : Below w.heap.size w wr) (hQ : w.heap.size ≤ Q) (a0 a1 a2 a3 : Value) : Below w.heap.size w (set4 wr Q a0 a1 a2 a3) :=
  (((h.setCell (p := ⟨Q, 0, none⟩) hQ a0).setCell (p := ⟨Q, 1, none⟩) hQ a1).setCell (p := ⟨Q, 2, none⟩) hQ a2).setCell (p := ⟨Q, 3, none⟩) hQ a3
end

theorem isCir_rows {wr : World} {base cl ca cb : Nat} {al aa ab : Option Addr} {ls : List (Int × Bool)} {xs : List (Int × Int)} {cs : List Int} (ol : wr.ownsRow base 86 2 (.slice al ls.length cl) ls.length (latV ls)) (oa : wr.ownsRow base 65 2 (.slice aa xs.length ca) xs.length (andV xs)) (ob : wr.ownsRow base 3 1 (.slice ab cs.length cb) cs.length (intV cs)) (h1 : ls.length ≤ 4) (h2 : xs.length ≤ 41) (h3 : cs.length ≤ 5) : IsCir wr al aa ab cl ca cb ls xs cs :=
  ⟨isLatches_row ol, isAnds_row oa, isInts_row ob, row_in ol, row_in oa, row_in ob, by unfold maxLen; omega, by unfold maxLen; omega, by unfold maxLen; omega⟩

/-- A circuit, latches and inputs that were drawn. -/
structure Drawn (w w' : World) (inp : Int) (al aa ab : Option Addr) (cl ca cb : Nat) (ls : List (Int × Bool)) (xs : List (Int × Int)) (cs : List Int) : Prop where
  ol : w'.ownsRow w.heap.size 86 2 (.slice al ls.length cl) ls.length (latV ls)
  oa : w'.ownsRow w.heap.size 65 2 (.slice aa xs.length ca) xs.length (andV xs)
  ob : w'.ownsRow w.heap.size 3 1 (.slice ab cs.length cb) cs.length (intV cs)
  l64 : ∀ p ∈ ls, I64 p.1
  a64 : ∀ p ∈ xs, I64 p.1 ∧ I64 p.2
  b64 : ∀ x ∈ cs, I64 x
  lo : -1 ≤ inp
  hi : inp ≤ 9
  ll : ls.length ≤ 4
  la : xs.length ≤ 41
  lb : cs.length ≤ 5
  bel : Below w.heap.size w w'

theorem Drawn.cir {w w' : World} {inp : Int} {al aa ab : Option Addr} {cl ca cb : Nat} {ls : List (Int × Bool)} {xs : List (Int × Int)} {cs : List Int} (h : Drawn w w' inp al aa ab cl ca cb ls xs cs) : IsCir w' al aa ab cl ca cb ls xs cs := isCir_rows h.ol h.oa h.ob h.ll h.la h.lb

def DrawPost (w : World) (e : Ending) (w' : World) : Prop :=
  ∃ (inp : Int) (al aa ab : Option Addr) (cl ca cb : Nat) (ls : List (Int × Bool)) (xs : List (Int × Int)) (cs : List Int) (alt ain : Option Addr) (clt cin : Nat) (lats ins : List Bool),
    e = .returned (.tuple #[.agg #[.int .i64 inp, .slice al ls.length cl, .slice aa xs.length ca, .slice ab cs.length cb], .slice alt lats.length clt, .slice ain ins.length cin]) ∧ Drawn w w' inp al aa ab cl ca cb ls xs cs ∧
    Ownb w' w.heap.size (.slice alt lats.length clt) lats ∧ Ownb w' w.heap.size (.slice ain ins.length cin) ins ∧ lats.length ≤ 100 ∧ ins.length ≤ 100

theorem drawn_of {w w1 wr : World} {Q C R p : Nat} {v : Value} {bs : List Int} {inp : Int} {al aa ab : Option Addr} {cl ca cb : Nat} {ls : List (Int × Bool)} {xs : List (Int × Int)} {cs : List Int}
    (h : StV w w1 wr Q C R v bs p inp (.slice al ls.length cl) (.slice aa xs.length ca) (.slice ab cs.length cb) ls xs cs) (h0 : -1 ≤ inp) (h1 : inp ≤ 9) (h2 : ls.length ≤ 4) (h3 : xs.length ≤ 41) (h4 : cs.length ≤ 5) (a0 a1 a2 a3 : Value) : Drawn w (set4 wr Q a0 a1 a2 a3) inp al aa ab cl ca cb ls xs cs :=
  have hw : w.heap.size ≤ w1.heap.size := by have := h.hQ; have := h.qw1; omega
  ⟨row_base (row_set4 h.g.ol h.qw1 a0 a1 a2 a3) hw, row_base (row_set4 h.g.oa h.qw1 a0 a1 a2 a3) hw, row_base (row_set4 h.g.ob h.qw1 a0 a1 a2 a3) hw, fun p hp => sm64 (h.g.sl p hp), fun p hp => ⟨sm64 (h.g.sa p hp).1, sm64 (h.g.sa p hp).2⟩, fun x hx => sm64 (h.g.sb x hx), h0, h1, h2, h3, h4, below_set4 h.bel h.hQ a0 a1 a2 a3⟩

theorem bits_set4 {wr : World} {base b0 Q : Nat} {v : Value} {ms : List Bool} (h : Ownb wr base v ms) (hQ : Q < base) (h0 : b0 ≤ Q) (a0 a1 a2 a3 : Value) : Ownb (set4 wr Q a0 a1 a2 a3) b0 v ms :=
  row_base (row_set4 h hQ a0 a1 a2 a3) (by omega)

set_option maxRecDepth 100000 in
set_option maxHeartbeats 8000000 in
theorem drawAigValues_any (v : Value) (bs : List Int) (w : World) (hv : IsBytes w v bs) (hn : bs.length ≤ 1048576) (hal : ∀ ao n cap b off, v = .slice ao n cap → ao = some ⟨b, off, none⟩ → b < w.heap.size) :
    Calls Try.prog 92 #[v] w (DrawPost w) := by
  have HV : Hid (IsBytes (w.alloc (.cells #[.int .i64 0, .slice none 0 0, .slice none 0 0, .slice none 0 0] 33)) v bs) := by
    obtain ⟨ao, cap, h1, h2, h3, h4⟩ := hv
    refine ⟨ao, cap, h1, h2, fun hne => ?_, h4⟩
    obtain ⟨b, off, ha, hc⟩ := h3 hne
    exact ⟨b, off, ha, fun i hi => by rw [World.cell?_alloc_lt w _ _ (cell_lt (a := ⟨b, off + i, none⟩) (hc i hi))]; exact hc i hi⟩
  have HAL : Hid (∀ ao n cap b off, v = .slice ao n cap → ao = some ⟨b, off, none⟩ → b < w.heap.size) := hal
  obtain ⟨ao0, cap0, rfl, _⟩ := hv
  clear hal
  go_enter Try.func92, Try.ntmps92
  go_wp2_with fail
  refine (l1Open_any w.heap.size _ bs _ HV.out hn HAL.out).mono ?_
  rintro e w1 ⟨v', bs', rfl, hrd1, hb1, hs1, hvb1⟩
  have hs1' : w1.heap.size = w.heap.size + 2 := by simpa using hs1
  have hrd1' : Rd w1 (w.heap.size + 1) v' bs' 0 := by simpa using hrd1
  have HRD1 : Hid (Rd w1 (w.heap.size + 1) v' bs' 0) := hrd1'
  have HQ1 : Hid (Blk4 w1 w.heap.size (.int .i64 0) (.slice none 0 0) (.slice none 0 0) (.slice none 0 0)) := (Blk4.new w _ _ _ _).of_block (hb1.block _ (by simp))
  have HB1 : Hid (Below w.heap.size w w1) := belNext (belOne _ _) hb1
  have HVB : Hid (∀ ao n cap b off, v' = .slice ao n cap → ao = some ⟨b, off, none⟩ → b < w.heap.size) := hvb1
  have HS1 : Hid (w1.heap.size = w.heap.size + 2) := hs1'
  clear hrd1 hrd1' hb1 hs1 hvb1 hs1'
  go_wp2_with fail
  refine (l13AnyAig_any (w.heap.size + 1) v' bs' 0 _ HRD1.out (fun ao n cap b off h1 h2 => by have := HVB.out ao n cap b off h1 h2; have := HS1.out; omega) (by omega)).mono ?_
  rintro e w2 ⟨inp, al, aa, ab, cl, ca, cb, ls, xs, cs, p2, rfl, hi0, hi1, hll, hla, hlb, hp2, hgot⟩
  have HS2 : Hid (StV w w1 (w2.alloc (.cells #[.int .i64 inp, .slice al ls.length cl, .slice aa xs.length ca, .slice ab cs.length cb] 33)) w.heap.size w2.heap.size (w.heap.size + 1) v' bs' p2 inp (.slice al ls.length cl) (.slice aa xs.length ca) (.slice ab cs.length cb) ls xs cs) := by
    have h1 := HS1.out
    have h2 := hgot.old.size
    have hb := belOne w2 (.cells #[.int .i64 inp, .slice al ls.length cl, .slice aa xs.length ca, .slice ab cs.length cb] 33)
    exact ⟨(HQ1.out.of_block (hgot.old.2.2.2.2 _ (by omega) (by omega))).of_block (hb.block _ (by omega)), Blk4.new w2 _ _ _ _, hgot.below hb,
      belNext ⟨hgot.old.1.trans HB1.out.os, hgot.old.2.1.trans HB1.out.tape, hgot.old.2.2.1.trans HB1.out.output, by omega, fun k hk => (hgot.old.2.2.2.2 k (by omega) (by omega)).trans (HB1.out.block k hk)⟩ hb,
      by omega, by omega, by omega, Nat.le_refl _, by omega, by omega, by omega⟩
  clear hgot
  have c0 := HS2.out.c.c0
  have c1 := HS2.out.c.c1
  have c4 := HS2.out.c.lt
  by_cases hneg : inp < 0
  · have HSX := HS2
    go_wp2_with fail
    have d0 := HSX.out.c.c0
    have d1 := HSX.out.c.c1
    have d2 := HSX.out.c.c2
    have d3 := HSX.out.c.c3
    have d4 := HSX.out.c.lt
    have hw1 := HSX.out.wide
    go_region_law (first
      | (go_simp; go_at_call 116; refine (l13Model_any (w.heap.size + 1) v' bs' _ _ _ HSX.out.drew.g.rd (fun ao n cap b off h1 h2 => by have := HVB.out ao n cap b off h1 h2; have := HSX.out.drew.bel.size; omega) (by omega) (by omega)).mono ?_; rintro e w5 ⟨alt, clt, lats, p5, rfl, hown5, hl5, hn5, hp5, hrd5, hold5⟩; have HS5 : Hid (StV w w1 w5 w.heap.size w2.heap.size (w.heap.size + 1) v' bs' p5 inp (.slice al ls.length cl) (.slice aa xs.length ca) (.slice ab cs.length cb) ls xs cs) := HSX.out.drew.more hrd5 hold5; have HLT : Hid (Ownb w5 w1.heap.size (.slice alt lats.length clt) lats) := hown5.base hw1; have q0 := HS5.out.c.c0; have q1 := HS5.out.c.c1; have q2 := HS5.out.c.c2; have q3 := HS5.out.c.c3; have q4 := HS5.out.c.lt; clear hown5 hn5 hrd5 hold5)
      | (go_simp; go_at_call 116; refine (l13Model_any (w.heap.size + 1) v' bs' p5 _ _ HS5.out.g.rd (fun ao n cap b off h1 h2 => by have := HVB.out ao n cap b off h1 h2; have := HS5.out.bel.size; omega) (by omega) (by omega)).mono ?_; rintro e w6 ⟨ain, cin, ins, p6, rfl, hown6, hl6, hn6, hp6, hrd6, hold6⟩; have HS6 : Hid (StV w w1 w6 w.heap.size w2.heap.size (w.heap.size + 1) v' bs' p6 inp (.slice al ls.length cl) (.slice aa xs.length ca) (.slice ab cs.length cb) ls xs cs) := HS5.out.more hrd6 hold6; have HLT6 : Hid (Ownb w6 w1.heap.size (.slice alt lats.length clt) lats) := ownb_old HLT.out hold6 HS5.out.rw1; have HIN6 : Hid (Ownb w6 w1.heap.size (.slice ain ins.length cin) ins) := hown6.base HS5.out.wide; have r0 := HS6.out.c.c0; have r1 := HS6.out.c.c1; have r2 := HS6.out.c.c2; have r3 := HS6.out.c.c3; have r4 := HS6.out.c.lt; have m3 := HS6.out.q.c0; have m4 := HS6.out.q.c1; have m5 := HS6.out.q.c2; have m6 := HS6.out.q.c3; have m7 := HS6.out.q.lt; have m8 := HS6.out.q.f 0; have m9 := HS6.out.q.f 1; have m10 := HS6.out.q.f 2; have m11 := HS6.out.q.f 3; clear hown6 hn6 hrd6 hold6))
    all_goals
      have hqq := (((HS6.out.q.set0 (.int .i64 inp)).set1 (.slice al ls.length cl)).set2 (.slice aa xs.length ca)).set3 (.slice ab cs.length cb)
      have u0 := hqq.c0
      have u1 := hqq.c1
      have u2 := hqq.c2
      have u3 := hqq.c3
      have HDN := hideD (drawn_of HS6.out hi0 hi1 hll hla hlb (.int .i64 inp) (.slice al ls.length cl) (.slice aa xs.length ca) (.slice ab cs.length cb))
      have HDL := hideD (bits_set4 HLT6.out HS6.out.qw1 HS6.out.hQ (.int .i64 inp) (.slice al ls.length cl) (.slice aa xs.length ca) (.slice ab cs.length cb))
      have HDI := hideD (bits_set4 HIN6.out HS6.out.qw1 HS6.out.hQ (.int .i64 inp) (.slice al ls.length cl) (.slice aa xs.length ca) (.slice ab cs.length cb))
      clear hqq
      go_wp2
      exact bodyPost_ret (v := .tuple #[.agg #[.int .i64 inp, .slice al ls.length cl, .slice aa xs.length ca, .slice ab cs.length cb], .slice alt lats.length clt, .slice ain ins.length cin]) (by simp [results, Try.results92, go_sem, u0, u1, u2, u3]) rfl ⟨inp, al, aa, ab, cl, ca, cb, ls, xs, cs, alt, ain, clt, cin, lats, ins, rfl, HDN.out, HDL.out, HDI.out, hl5, hl6⟩
  · go_wp2_with fail
    refine (pick_any (w.heap.size + 1) v' bs' p2 _ _ HS2.out.g.rd (by omega) (by omega)).mono ?_
    rintro e w3 ⟨z, rfl, hz0, hz1, hz2, hrd3, hg3, hs3⟩
    have HSX : Hid (StV w w1 w3 w.heap.size w2.heap.size (w.heap.size + 1) v' bs' (p2 + 1) inp (.slice al ls.length cl) (.slice aa xs.length ca) (.slice ab cs.length cb) ls xs cs) := HS2.out.pick hrd3 hg3
    clear hrd3 hg3 hs3 hz1 hz2 c0 c1 c4
    have c0 := HSX.out.c.c0
    have c1 := HSX.out.c.c1
    have c4 := HSX.out.c.lt
    cases hzb : (z == 0)
    · go_wp2_with fail
      have d0 := HSX.out.c.c0
      have d1 := HSX.out.c.c1
      have d2 := HSX.out.c.c2
      have d3 := HSX.out.c.c3
      have d4 := HSX.out.c.lt
      have hw1 := HSX.out.wide
      go_region_law (first
        | (go_simp; go_at_call 116; refine (l13Model_any (w.heap.size + 1) v' bs' _ _ _ HSX.out.drew.g.rd (fun ao n cap b off h1 h2 => by have := HVB.out ao n cap b off h1 h2; have := HSX.out.drew.bel.size; omega) (by omega) (by omega)).mono ?_; rintro e w5 ⟨alt, clt, lats, p5, rfl, hown5, hl5, hn5, hp5, hrd5, hold5⟩; have HS5 : Hid (StV w w1 w5 w.heap.size w2.heap.size (w.heap.size + 1) v' bs' p5 inp (.slice al ls.length cl) (.slice aa xs.length ca) (.slice ab cs.length cb) ls xs cs) := HSX.out.drew.more hrd5 hold5; have HLT : Hid (Ownb w5 w1.heap.size (.slice alt lats.length clt) lats) := hown5.base hw1; have q0 := HS5.out.c.c0; have q1 := HS5.out.c.c1; have q2 := HS5.out.c.c2; have q3 := HS5.out.c.c3; have q4 := HS5.out.c.lt; clear hown5 hn5 hrd5 hold5)
        | (go_simp; go_at_call 116; refine (l13Model_any (w.heap.size + 1) v' bs' p5 _ _ HS5.out.g.rd (fun ao n cap b off h1 h2 => by have := HVB.out ao n cap b off h1 h2; have := HS5.out.bel.size; omega) (by omega) (by omega)).mono ?_; rintro e w6 ⟨ain, cin, ins, p6, rfl, hown6, hl6, hn6, hp6, hrd6, hold6⟩; have HS6 : Hid (StV w w1 w6 w.heap.size w2.heap.size (w.heap.size + 1) v' bs' p6 inp (.slice al ls.length cl) (.slice aa xs.length ca) (.slice ab cs.length cb) ls xs cs) := HS5.out.more hrd6 hold6; have HLT6 : Hid (Ownb w6 w1.heap.size (.slice alt lats.length clt) lats) := ownb_old HLT.out hold6 HS5.out.rw1; have HIN6 : Hid (Ownb w6 w1.heap.size (.slice ain ins.length cin) ins) := hown6.base HS5.out.wide; have r0 := HS6.out.c.c0; have r1 := HS6.out.c.c1; have r2 := HS6.out.c.c2; have r3 := HS6.out.c.c3; have r4 := HS6.out.c.lt; have m3 := HS6.out.q.c0; have m4 := HS6.out.q.c1; have m5 := HS6.out.q.c2; have m6 := HS6.out.q.c3; have m7 := HS6.out.q.lt; have m8 := HS6.out.q.f 0; have m9 := HS6.out.q.f 1; have m10 := HS6.out.q.f 2; have m11 := HS6.out.q.f 3; clear hown6 hn6 hrd6 hold6))
      all_goals
        have hqq := (((HS6.out.q.set0 (.int .i64 inp)).set1 (.slice al ls.length cl)).set2 (.slice aa xs.length ca)).set3 (.slice ab cs.length cb)
        have u0 := hqq.c0
        have u1 := hqq.c1
        have u2 := hqq.c2
        have u3 := hqq.c3
        have HDN := hideD (drawn_of HS6.out hi0 hi1 hll hla hlb (.int .i64 inp) (.slice al ls.length cl) (.slice aa xs.length ca) (.slice ab cs.length cb))
        have HDL := hideD (bits_set4 HLT6.out HS6.out.qw1 HS6.out.hQ (.int .i64 inp) (.slice al ls.length cl) (.slice aa xs.length ca) (.slice ab cs.length cb))
        have HDI := hideD (bits_set4 HIN6.out HS6.out.qw1 HS6.out.hQ (.int .i64 inp) (.slice al ls.length cl) (.slice aa xs.length ca) (.slice ab cs.length cb))
        clear hqq
        go_wp2
        exact bodyPost_ret (v := .tuple #[.agg #[.int .i64 inp, .slice al ls.length cl, .slice aa xs.length ca, .slice ab cs.length cb], .slice alt lats.length clt, .slice ain ins.length cin]) (by simp [results, Try.results92, go_sem, u0, u1, u2, u3]) rfl ⟨inp, al, aa, ab, cl, ca, cb, ls, xs, cs, alt, ain, clt, cin, lats, ins, rfl, HDN.out, HDL.out, HDI.out, hl5, hl6⟩
    · go_wp2_with fail
      have d0 := HSX.out.c.c0
      have d1 := HSX.out.c.c1
      have d2 := HSX.out.c.c2
      have d3 := HSX.out.c.c3
      have d4 := HSX.out.c.lt
      have hw1 := HSX.out.wide
      go_region_law (first
        | (go_simp; go_at_call 116; refine (l13Model_any (w.heap.size + 1) v' bs' _ _ _ HSX.out.drew.g.rd (fun ao n cap b off h1 h2 => by have := HVB.out ao n cap b off h1 h2; have := HSX.out.drew.bel.size; omega) (by omega) (by omega)).mono ?_; rintro e w5 ⟨alt, clt, lats, p5, rfl, hown5, hl5, hn5, hp5, hrd5, hold5⟩; have HS5 : Hid (StV w w1 w5 w.heap.size w2.heap.size (w.heap.size + 1) v' bs' p5 inp (.slice al ls.length cl) (.slice aa xs.length ca) (.slice ab cs.length cb) ls xs cs) := HSX.out.drew.more hrd5 hold5; have HLT : Hid (Ownb w5 w1.heap.size (.slice alt lats.length clt) lats) := hown5.base hw1; have q0 := HS5.out.c.c0; have q1 := HS5.out.c.c1; have q2 := HS5.out.c.c2; have q3 := HS5.out.c.c3; have q4 := HS5.out.c.lt; clear hown5 hn5 hrd5 hold5)
        | (go_simp; go_at_call 116; refine (l13Model_any (w.heap.size + 1) v' bs' p5 _ _ HS5.out.g.rd (fun ao n cap b off h1 h2 => by have := HVB.out ao n cap b off h1 h2; have := HS5.out.bel.size; omega) (by omega) (by omega)).mono ?_; rintro e w6 ⟨ain, cin, ins, p6, rfl, hown6, hl6, hn6, hp6, hrd6, hold6⟩; have HS6 : Hid (StV w w1 w6 w.heap.size w2.heap.size (w.heap.size + 1) v' bs' p6 inp (.slice al ls.length cl) (.slice aa xs.length ca) (.slice ab cs.length cb) ls xs cs) := HS5.out.more hrd6 hold6; have HLT6 : Hid (Ownb w6 w1.heap.size (.slice alt lats.length clt) lats) := ownb_old HLT.out hold6 HS5.out.rw1; have HIN6 : Hid (Ownb w6 w1.heap.size (.slice ain ins.length cin) ins) := hown6.base HS5.out.wide; have r0 := HS6.out.c.c0; have r1 := HS6.out.c.c1; have r2 := HS6.out.c.c2; have r3 := HS6.out.c.c3; have r4 := HS6.out.c.lt; have m3 := HS6.out.q.c0; have m4 := HS6.out.q.c1; have m5 := HS6.out.q.c2; have m6 := HS6.out.q.c3; have m7 := HS6.out.q.lt; have m8 := HS6.out.q.f 0; have m9 := HS6.out.q.f 1; have m10 := HS6.out.q.f 2; have m11 := HS6.out.q.f 3; clear hown6 hn6 hrd6 hold6))
      all_goals
        have hqq := (((HS6.out.q.set0 (.int .i64 inp)).set1 (.slice al ls.length cl)).set2 (.slice aa xs.length ca)).set3 (.slice ab cs.length cb)
        have u0 := hqq.c0
        have u1 := hqq.c1
        have u2 := hqq.c2
        have u3 := hqq.c3
        have HDN := hideD (drawn_of HS6.out hi0 hi1 hll hla hlb (.int .i64 inp) (.slice al ls.length cl) (.slice aa xs.length ca) (.slice ab cs.length cb))
        have HDL := hideD (bits_set4 HLT6.out HS6.out.qw1 HS6.out.hQ (.int .i64 inp) (.slice al ls.length cl) (.slice aa xs.length ca) (.slice ab cs.length cb))
        have HDI := hideD (bits_set4 HIN6.out HS6.out.qw1 HS6.out.hQ (.int .i64 inp) (.slice al ls.length cl) (.slice aa xs.length ca) (.slice ab cs.length cb))
        clear hqq
        go_wp2
        exact bodyPost_ret (v := .tuple #[.agg #[.int .i64 inp, .slice al ls.length cl, .slice aa xs.length ca, .slice ab cs.length cb], .slice alt lats.length clt, .slice ain ins.length cin]) (by simp [results, Try.results92, go_sem, u0, u1, u2, u3]) rfl ⟨inp, al, aa, ab, cl, ca, cb, ls, xs, cs, alt, ain, clt, cin, lats, ins, rfl, HDN.out, HDL.out, HDI.out, hl5, hl6⟩

end Go.Proofs.Ytbdjdgamnnifjaa

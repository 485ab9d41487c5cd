/-
  A drawn circuit, as the law FnAigLess draws it: DrawAigLess.
-/
import Derived.Test.YtbdjdgamnnifjaaCir6
namespace Go.Proofs.Ytbdjdgamnnifjaa
open Go.RowKit Go.Deep
set_option linter.unusedVariables false

set_option maxRecDepth 100000 in
set_option maxHeartbeats 4000000 in
theorem drawAigLess_any (v : Value) (bs : List Int) (w : World) (hv : IsBytes w v bs) (hn : bs.length ≤ 1048576) (hal : ∀ ao n cap b off, v = .slice ao n cap → ao = some ⟨b, off, none⟩ → b < w.heap.size) :
    Calls Try.prog 41 #[v] w fun e w' => ∃ inp al aa ab cl ca cb ls xs cs, e = .returned (.agg #[.int .i64 inp, .slice al ls.length cl, .slice aa xs.length ca, .slice ab cs.length cb]) ∧ Drawn w w' inp al aa ab cl ca cb ls xs cs := by
  have HV : Hid (IsBytes (w.alloc (.cells #[.int .i64 0, .slice none 0 0, .slice none 0 0, .slice none 0 0] 33)) v bs) := by
    obtain ⟨ao, cap, h1, h2, h3, h4⟩ := hv
    refine ⟨ao, cap, h1, h2, fun hne => ?_, h4⟩
    obtain ⟨b, off, ha, hc⟩ := h3 hne
    exact ⟨b, off, ha, fun i hi => by rw [World.cell?_alloc_lt w _ _ (cell_lt (a := ⟨b, off + i, none⟩) (hc i hi))]; exact hc i hi⟩
  have HAL : Hid (∀ ao n cap b off, v = .slice ao n cap → ao = some ⟨b, off, none⟩ → b < w.heap.size) := hal
  obtain ⟨ao0, cap0, rfl, _⟩ := hv
  clear hal
  go_enter Try.func41, Try.ntmps41
  go_wp2_with fail
  refine (l1Open_any w.heap.size _ bs _ HV.out hn HAL.out).mono ?_
  rintro e w1 ⟨v', bs', rfl, hrd1, hb1, hs1, hvb1⟩
  have hs1' : w1.heap.size = w.heap.size + 2 := by simpa using hs1
  have hrd1' : Rd w1 (w.heap.size + 1) v' bs' 0 := by simpa using hrd1
  have HRD1 : Hid (Rd w1 (w.heap.size + 1) v' bs' 0) := hrd1'
  have HQ1 : Hid (Blk4 w1 w.heap.size (.int .i64 0) (.slice none 0 0) (.slice none 0 0) (.slice none 0 0)) := (Blk4.new w _ _ _ _).of_block (hb1.block _ (by simp))
  have HB1 : Hid (Below w.heap.size w w1) := belNext (belOne _ _) hb1
  have HVB : Hid (∀ ao n cap b off, v' = .slice ao n cap → ao = some ⟨b, off, none⟩ → b < w.heap.size) := hvb1
  have HS1 : Hid (w1.heap.size = w.heap.size + 2) := hs1'
  clear hrd1 hrd1' hb1 hs1 hvb1 hs1'
  go_wp2_with fail
  refine (l13AnyAig_any (w.heap.size + 1) v' bs' 0 _ HRD1.out (fun ao n cap b off h1 h2 => by have := HVB.out ao n cap b off h1 h2; have := HS1.out; omega) (by omega)).mono ?_
  rintro e w2 ⟨inp, al, aa, ab, cl, ca, cb, ls, xs, cs, p2, rfl, hi0, hi1, hll, hla, hlb, hp2, hgot⟩
  have h1 := HS1.out
  have h2 := hgot.old.size
  have hq2 : Blk4 w2 w.heap.size (.int .i64 0) (.slice none 0 0) (.slice none 0 0) (.slice none 0 0) := HQ1.out.of_block (hgot.old.2.2.2.2 _ (by omega) (by omega))
  have hbel : Below w.heap.size w w2 := ⟨hgot.old.1.trans HB1.out.os, hgot.old.2.1.trans HB1.out.tape, hgot.old.2.2.1.trans HB1.out.output, by omega, fun k hk => (hgot.old.2.2.2.2 k (by omega) (by omega)).trans (HB1.out.block k hk)⟩
  have hw : w.heap.size ≤ w1.heap.size := by omega
  have hqw : w.heap.size < w1.heap.size := by omega
  have HDN : Hid (Drawn w (set4 w2 w.heap.size (.int .i64 inp) (.slice al ls.length cl) (.slice aa xs.length ca) (.slice ab cs.length cb)) inp al aa ab cl ca cb ls xs cs) :=
    ⟨row_base (row_set4 hgot.ol hqw _ _ _ _) hw, row_base (row_set4 hgot.oa hqw _ _ _ _) hw, row_base (row_set4 hgot.ob hqw _ _ _ _) hw, fun p hp => sm64 (hgot.sl p hp), fun p hp => ⟨sm64 (hgot.sa p hp).1, sm64 (hgot.sa p hp).2⟩, fun x hx => sm64 (hgot.sb x hx), hi0, hi1, hll, hla, hlb, below_set4 hbel (Nat.le_refl _) _ _ _ _⟩
  have m0 := hq2.c0
  have m1 := hq2.c1
  have m2 := hq2.c2
  have m3 := hq2.c3
  have m4 := hq2.lt
  have m5 := hq2.f 0
  have m6 := hq2.f 1
  have m7 := hq2.f 2
  have m8 := hq2.f 3
  have hqq := (((hq2.set0 (.int .i64 inp)).set1 (.slice al ls.length cl)).set2 (.slice aa xs.length ca)).set3 (.slice ab cs.length cb)
  have u0 := hqq.c0
  have u1 := hqq.c1
  have u2 := hqq.c2
  have u3 := hqq.c3
  clear hqq hgot h1 h2 hbel hw hqw hq2
  go_wp2
  exact bodyPost_ret (v := .agg #[.int .i64 inp, .slice al ls.length cl, .slice aa xs.length ca, .slice ab cs.length cb]) (by simp [results, Try.results41, go_sem, u0, u1, u2, u3]) rfl ⟨inp, al, aa, ab, cl, ca, cb, ls, xs, cs, rfl, HDN.out⟩

end Go.Proofs.Ytbdjdgamnnifjaa

/-
  Drawn truths; a drawn circuit with latches and inputs (DrawAigValues); truths compared (rgBools).
-/
import Derived.Test.YtbdjdgamnnifjaaCir4
import Derived.Test.YtbdjdgamnnifjaaAigL
import Derived.Test.YtbdjdgamnnifjaaAigM
namespace Go.Proofs.Ytbdjdgamnnifjaa
open Go.RowKit Go.Deep
set_option linter.unusedVariables false

theorem Ownb.keptOld {w w' : World} {base : Nat} {v : Value} {ms : List Bool} {row : Option Nat} (h : Ownb w base v ms) (hg : w.grownBy w' row) (hr : ∀ k, row = some k → k < base) : Ownb w' base v ms :=
  row_of_block h (fun k e => hg.block k (World.ownsRow.lt h k e).2 (fun e2 => by have := hr k e2.symm; have := (World.ownsRow.lt h k e).1; omega))

theorem Ownb.snoc {w : World} {base g cap : Nat} {ms : List Bool} {b : Bool} (h : w.ownsRow base 4 1 (.slice (some ⟨g, 0, none⟩) (ms.length + 1) cap) (ms.length + 1) (ms.map Value.bool ++ [.bool b])) : Ownb w base (.slice (some ⟨g, 0, none⟩) (ms.length + 1) cap) (ms ++ [b]) := by
  unfold Ownb
  rw [List.length_append, List.map_append]
  exact h

theorem bool_oneCell (b : Bool) : ∀ u ∈ [Value.bool b], u.oneCell' = true := by intro u hu; simp at hu; subst hu; rfl

def ModelPost (n : Int) (R : Nat) (v : Value) (bs : List Int) (p : Nat) (w : World) (e : Ending) (w' : World) : Prop :=
  ∃ ao cap ms p', e = .returned (.slice ao ms.length cap) ∧ Ownb w' w.heap.size (.slice ao ms.length cap) ms ∧ ms.length ≤ 100 ∧ (0 ≤ n → (ms.length : Int) = n) ∧ p' ≤ p + 100 ∧ Rd w' R v bs p' ∧ Old R w.heap.size w w'

set_option maxHeartbeats 2000000 in
theorem l13Model_any (R : Nat) (v : Value) (bs : List Int) (p : Nat) (n : Int) (w : World) (hr : Rd w R v bs p) (hvb : ∀ ao n cap b off, v = .slice ao n cap → ao = some ⟨b, off, none⟩ → b < w.heap.size) (hp : p ≤ 500000) (hn : n ≤ 100) :
    Calls Try.prog 116 #[.pointer (some ⟨R, 0, none⟩), .int .i64 n] w (ModelPost n R v bs p w) := by
  have hRlt := hr.lt
  have HVB : Hid (∀ ao n cap b off, v = .slice ao n cap → ao = some ⟨b, off, none⟩ → b < w.heap.size) := hvb
  have HR0 : Hid (Rd (w.alloc (.cells #[] 4)) R v bs p) := hr.grown (World.grownBy_alloc w _ none) (by simp) (by simp)
  have HO0 : Hid (Ownb (w.alloc (.cells #[] 4)) w.heap.size (.slice (some ⟨w.heap.size, 0, none⟩) 0 0) []) := ownb_empty w
  have HD0 : Hid (Old R w.heap.size w (w.alloc (.cells #[] 4))) := (Old.refl R w.heap.size w).below (belOne _ _) (Nat.le_refl _)
  obtain ⟨i0, hi, hz0, hz1, hz2⟩ := info_parts info_bool
  clear hr hvb
  go_enter Try.func116, Try.ntmps116
  go_wp2_with fail
  go_loopw [1, 5] (fun m o wr => ∃ (ao : Option Addr) (cap : Nat) (ms : List Bool) (k : Int) (p' : Nat), o = .slice ao ms.length cap ∧ m = .int .i64 k ∧ Hid (0 ≤ n → 0 ≤ k ∧ (ms.length : Int) + k = n) ∧ (ms.length : Int) + k ≤ 100 ∧ ms.length ≤ 100 ∧ p' ≤ p + ms.length ∧ Ownb wr w.heap.size (.slice ao ms.length cap) ms ∧ Rd wr R v bs p' ∧ Old R w.heap.size w wr) (fun m _ _ => (intOf m).toNat)
  case atStart => exact ⟨_, 0, [], n, p, rfl, rfl, fun h => ⟨h, by simp⟩, by simp; omega, by simp, by simp, HO0.out, HR0.out, HD0.out⟩
  case round =>
    obtain ⟨ao, cap, ms, k, p', rfl, rfl, HNK, hlen, hms, hp', hown, hrd, hold⟩ := hrel
    have HO : Hid (Ownb wr w.heap.size (.slice ao ms.length cap) ms) := hown
    have HRD : Hid (Rd wr R v bs p') := hrd
    have HD : Hid (Old R w.heap.size w wr) := hold
    have hsz := hold.size
    clear hown hrd hold
    by_cases hk : 0 < k
    · go_wp2_with fail
      refine (pick_any R v bs p' _ _ HRD.out (by omega) (by omega)).mono ?_
      rintro e w2 ⟨x, rfl, hx0, hx1, hx2, hrd2, hg2, hs2⟩
      have HR2 : Hid (Rd w2 R v bs (p' + 1)) := hrd2
      have HO2 : Hid (Ownb w2 w.heap.size (.slice ao ms.length cap) ms) := HO.out.keptOld hg2 (fun k e => by have := Option.some.inj e; omega)
      have HD2 : Hid (Old R w.heap.size w w2) := HD.out.grown hg2 hsz (fun q e => .inr (Option.some.inj e).symm)
      have hsz2 : w.heap.size ≤ w2.heap.size := by omega
      clear hrd2 hg2 hx1 hx2 hs2
      generalize hB : (x == 0) = bb
      have HBB : Hid ((x == 0) = bb) := hB
      go_wp2_with (at_builtin; refine wpList_append_lies _ rfl _ _ 27 rfl w.heap.size 4 i0 (.bool false) 1 1 Try.underlying27 hi hz0 hz1 hz2 rfl (by decide) _ ms.length (ms.map Value.bool) rfl (World.ownsRow.alloc HO2.out _) ⟨w2.heap.size, 0, none⟩ 1 1 [.bool bb] rfl rfl (news1 _ _ _) (bool_oneCell _) (by decide) (by unfold maxLen; omega) (by omega) (by simp; omega) _ rfl ?_; intro g gcap w4 hown4 hgrow4 hat4 hlt4)
      have HOF : Hid (Ownb w4 w.heap.size (.slice (some ⟨g, 0, none⟩) (ms.length + 1) gcap) (ms ++ [bb])) := Ownb.snoc hown4
      have HRF : Hid (Rd w4 R v bs (p' + 1)) := (HR2.out.grown (World.grownBy_alloc w2 _ none) (by simp) (by simp)).own hgrow4 hRlt HVB.out (fun q e => (World.ownsRow.lt HO2.out q e).1)
      have HDF : Hid (Old R w.heap.size w w4) := (HD2.out.below (belOne _ _) hsz2).grown hgrow4 (by simp; omega) (fun q e => .inl (World.ownsRow.lt HO2.out q e).1)
      clear hown4 hgrow4 hat4 hlt4
      go_wp2
      go_roundw
      case rel => exact ⟨some ⟨g, 0, none⟩, gcap, ms ++ [bb], k - 1, p' + 1, by simp, by go_num, fun h => by have := HNK.out h; simp; omega, by simp; omega, by simp; omega, by simp; omega, by rw [List.length_append]; exact HOF.out, HRF.out, HDF.out⟩
      case measure => simp [intOf]; omega
    · go_wp2
      go_ret
      exact ⟨ao, cap, ms, p', rfl, HO.out, hms, fun h => by have := HNK.out h; omega, by omega, HRD.out, HD.out⟩

section
variable {w wr w1 : World} {R : Nat} {v : Value} {bs : List Int} {p : Nat} {vl va vb : Value} {ls : List (Int × Bool)} {xs : List (Int × Int)} {cs : List Int}

theorem GotD.keep (h : GotD w wr R v bs p vl va vb ls xs cs) {p1 : Nat} (hk : ∀ k, w.heap.size ≤ k → k < wr.heap.size → w1.heap[k]? = wr.heap[k]?) (hrd : Rd w1 R v bs p1) (ho : Old R w.heap.size w w1) : GotD w w1 R v bs p1 vl va vb ls xs cs :=
  ⟨row_of_block h.ol (fun k e => by have := World.ownsRow.lt h.ol k e; exact hk k this.1 this.2), row_of_block h.oa (fun k e => by have := World.ownsRow.lt h.oa k e; exact hk k this.1 this.2),
    row_of_block h.ob (fun k e => by have := World.ownsRow.lt h.ob k e; exact hk k this.1 this.2), hrd, ho, h.sl, h.sa, h.sb⟩

theorem GotD.pick (h : GotD w wr R v bs p vl va vb ls xs cs) (hR : R < w.heap.size) {p1 : Nat} (hrd : Rd w1 R v bs p1) (hg : wr.grownBy w1 (some R)) : GotD w w1 R v bs p1 vl va vb ls xs cs :=
  h.keep (fun k hk hlt => hg.block k hlt (fun e => by have := Option.some.inj e; omega)) hrd (h.old.grown hg h.old.size (fun q e => .inr (Option.some.inj e).symm))

theorem GotD.below (h : GotD w wr R v bs p vl va vb ls xs cs) (hb : Below wr.heap.size wr w1) : GotD w w1 R v bs p vl va vb ls xs cs :=
  h.keep (fun k hk hlt => hb.block k hlt) (h.rd.grown (row := none) ⟨hb.os, hb.tape, hb.output, hb.size, fun k hk _ => hb.block k hk⟩ (by simp) (by simp)) (h.old.below hb h.old.size)

theorem GotD.drew (h : GotD w wr R v bs p vl va vb ls xs cs) : GotD w wr.drew R v bs p vl va vb ls xs cs :=
  ⟨h.ol, h.oa, h.ob, ⟨h.rd.lt, h.rd.c0, h.rd.c1, h.rd.f1, h.rd.small, h.rd.form, h.rd.byte⟩, h.old, h.sl, h.sa, h.sb⟩

/-- More was drawn, with the same reader. -/
theorem GotD.more (h : GotD w wr R v bs p vl va vb ls xs cs) (hR : R < w.heap.size) {p1 : Nat} (hrd : Rd w1 R v bs p1) (ho : Old R wr.heap.size wr w1) : GotD w w1 R v bs p1 vl va vb ls xs cs := by
  have hs := h.old.size
  exact h.keep (fun k hk hlt => ho.2.2.2.2 k hlt (by omega)) hrd (h.old.trans ⟨ho.1, ho.2.1, ho.2.2.1, ho.2.2.2.1, fun k hk hne => ho.2.2.2.2 k (by omega) hne⟩)

theorem GotD.isCir {al aa ab : Option Addr} {cl ca cb : Nat} (h : GotD w wr R v bs p (.slice al ls.length cl) (.slice aa xs.length ca) (.slice ab cs.length cb) ls xs cs) (h1 : ls.length ≤ 4) (h2 : xs.length ≤ 41) (h3 : cs.length ≤ 5) : IsCir wr al aa ab cl ca cb ls xs cs :=
  ⟨isLatches_row h.ol, isAnds_row h.oa, isInts_row h.ob, row_in h.ol, row_in h.oa, row_in h.ob, by unfold maxLen; omega, by unfold maxLen; omega, by unfold maxLen; omega⟩
end

theorem sm64 {x : Int} (h : Sm x) : I64 x := by unfold Sm at h; unfold I64; omega

end Go.Proofs.Ytbdjdgamnnifjaa

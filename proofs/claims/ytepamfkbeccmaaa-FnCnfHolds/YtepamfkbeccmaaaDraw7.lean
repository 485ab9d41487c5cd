/-
  A drawn model, and the reader opened: l13Model, l1Open.
-/
import Derived.Test.YtepamfkbeccmaaaDraw6
import Derived.Test.YtepamfkbeccmaaaHolds
namespace Go.Proofs.Ytepamfkbeccmaaa
open Go.RowKit Go.Deep
set_option linter.unusedVariables false

def OwnsB (w : World) (base : Nat) (v : Value) (ms : List Bool) : Prop := w.ownsRow base 4 1 v ms.length (ms.map Value.bool)

theorem OwnsB.isBools {w : World} {base : Nat} {v : Value} {ms : List Bool} (h : OwnsB w base v ms) : IsBools w v ms := by
  have h' := h
  rcases h.2 with ⟨h1, h2⟩ | ⟨g, cap, cur, h1, _⟩
  · subst h1
    obtain rfl := List.length_eq_zero_iff.1 h2
    exact ⟨_, _, rfl, fun hne => absurd rfl hne⟩
  · subst h1
    refine ⟨_, _, rfl, fun _ => ⟨g, 0, rfl, fun i hi => ?_⟩⟩
    have := World.ownsRow.cellAt h' i (by omega)
    rw [Nat.zero_add, this]
    simp [List.getD, hi]

theorem OwnsB.kept {w w' : World} {base : Nat} {v : Value} {ms : List Bool} {row : Option Nat} (h : OwnsB w base v ms) (hg : w.grownBy w' row) (hr : ∀ k, row = some k → k < base) : OwnsB w' base v ms := by
  refine World.ownsRow.kept h hg ?_
  cases hb : v.ownBlock with
  | none => exact .inl rfl
  | some g =>
    right
    intro e
    have h1 := (World.ownsRow.lt h g hb).1
    have h2 := hr g e.symm
    omega

theorem OwnsB.snoc {w : World} {base g cap : Nat} {ms : List Bool} {b : Bool} (h : w.ownsRow base 4 1 (.slice (some ⟨g, 0, none⟩) (ms.length + 1) cap) (ms.length + 1) (ms.map Value.bool ++ [.bool b])) : OwnsB w base (.slice (some ⟨g, 0, none⟩) (ms.length + 1) cap) (ms ++ [b]) := by
  unfold OwnsB
  rw [List.length_append, List.map_append]
  exact h

theorem bool_oneCell (b : Bool) : ∀ u ∈ [Value.bool b], u.oneCell' = true := by intro u hu; simp at hu; subst hu; rfl

def ModelPost (R : Nat) (v : Value) (bs : List Int) (p : Nat) (w : World) (e : Ending) (w' : World) : Prop :=
  ∃ ao cap ms p', e = .returned (.slice ao ms.length cap) ∧ OwnsB w' w.heap.size (.slice ao ms.length cap) ms ∧ ms.length ≤ 100 ∧ p' ≤ p + 100 ∧ Rd w' R v bs p' ∧ Old R w.heap.size w w'

set_option maxHeartbeats 2000000 in
theorem l13Model_any (R : Nat) (v : Value) (bs : List Int) (p : Nat) (n : Int) (w : World) (hr : Rd w R v bs p) (hvb : ∀ ao n cap b off, v = .slice ao n cap → ao = some ⟨b, off, none⟩ → b < w.heap.size) (hp : p ≤ 500000) (hn : n ≤ 100) :
    Calls Try.prog 13 #[.pointer (some ⟨R, 0, none⟩), .int .i64 n] w (ModelPost R v bs p w) := by
  have hRlt := hr.lt
  have HVB : Hid (∀ ao n cap b off, v = .slice ao n cap → ao = some ⟨b, off, none⟩ → b < w.heap.size) := hvb
  have HR0 : Hid (Rd (w.alloc (.cells #[] 4)) R v bs p) := hr.grown (World.grownBy_alloc w _ none) (by simp) (by simp)
  have HO0 : Hid (OwnsB (w.alloc (.cells #[] 4)) w.heap.size (.slice (some ⟨w.heap.size, 0, none⟩) 0 0) []) := ⟨by simp, .inr ⟨w.heap.size, 0, #[], rfl, Nat.le_refl _, blk_alloc_new _ _, Nat.le_refl _, by simp, by simp, by simp⟩⟩
  have HD0 : Hid (Old R w.heap.size w (w.alloc (.cells #[] 4))) := (Old.refl R w.heap.size w).below (belOne _ _) (Nat.le_refl _)
  obtain ⟨i0, hi, hz0, hz1, hz2⟩ := info_parts info_bool
  clear hr hvb
  go_enter Try.func13, Try.ntmps13
  go_wp2_with fail
  go_loopw [1, 5] (fun m o wr => ∃ (ao : Option Addr) (cap : Nat) (ms : List Bool) (k : Int) (p' : Nat), o = .slice ao ms.length cap ∧ m = .int .i64 k ∧ (ms.length : Int) + k ≤ 100 ∧ ms.length ≤ 100 ∧ p' ≤ p + ms.length ∧ OwnsB wr w.heap.size (.slice ao ms.length cap) ms ∧ Rd wr R v bs p' ∧ Old R w.heap.size w wr) (fun m _ _ => (intOf m).toNat)
  case atStart => exact ⟨_, 0, [], n, p, rfl, rfl, by simp; omega, by simp, by simp, HO0.out, HR0.out, HD0.out⟩
  case round =>
    obtain ⟨ao, cap, ms, k, p', rfl, rfl, hlen, hms, hp', hown, hrd, hold⟩ := hrel
    have HO : Hid (OwnsB wr w.heap.size (.slice ao ms.length cap) ms) := hown
    have HRD : Hid (Rd wr R v bs p') := hrd
    have HD : Hid (Old R w.heap.size w wr) := hold
    have hsz := hold.size
    clear hown hrd hold
    by_cases hk : 0 < k
    · go_wp2_with fail
      refine (pick_any R v bs p' _ _ HRD.out (by omega) (by omega)).mono ?_
      rintro e w2 ⟨x, rfl, hx0, hx1, hx2, hrd2, hg2, hs2⟩
      have HR2 : Hid (Rd w2 R v bs (p' + 1)) := hrd2
      have HO2 : Hid (OwnsB w2 w.heap.size (.slice ao ms.length cap) ms) := HO.out.kept hg2 (fun k e => by have := Option.some.inj e; omega)
      have HD2 : Hid (Old R w.heap.size w w2) := HD.out.grown hg2 hsz (fun q e => .inr (Option.some.inj e).symm)
      have hsz2 : w.heap.size ≤ w2.heap.size := by omega
      clear hrd2 hg2 hx1 hx2 hs2
      generalize hB : (x == 0) = bb
      have HBB : Hid ((x == 0) = bb) := hB
      go_wp2_with (at_builtin; refine wpList_append_lies _ rfl _ _ 26 rfl w.heap.size 4 i0 (.bool false) 1 1 Try.underlying26 hi hz0 hz1 hz2 rfl (by decide) _ ms.length (ms.map Value.bool) rfl (World.ownsRow.alloc HO2.out _) ⟨w2.heap.size, 0, none⟩ 1 1 [.bool bb] rfl rfl (news_plain1 _ _ _) (bool_oneCell _) (by decide) (by unfold maxLen; omega) (by omega) (by simp; omega) _ rfl ?_; intro g gcap w4 hown4 hgrow4 hat4 hlt4)
      have HOF : Hid (OwnsB w4 w.heap.size (.slice (some ⟨g, 0, none⟩) (ms.length + 1) gcap) (ms ++ [bb])) := OwnsB.snoc hown4
      have HRF : Hid (Rd w4 R v bs (p' + 1)) := (HR2.out.grown (World.grownBy_alloc w2 _ none) (by simp) (by simp)).own hgrow4 hRlt HVB.out (fun q e => (World.ownsRow.lt HO2.out q e).1)
      have HDF : Hid (Old R w.heap.size w w4) := (HD2.out.below (belOne _ _) hsz2).grown hgrow4 (by simp; omega) (fun q e => .inl (World.ownsRow.lt HO2.out q e).1)
      clear hown4 hgrow4 hat4 hlt4
      go_wp2
      go_roundw
      case rel => exact ⟨some ⟨g, 0, none⟩, gcap, ms ++ [bb], k - 1, p' + 1, by simp, by go_num, by simp; omega, by simp; omega, by simp; omega, by rw [List.length_append]; exact HOF.out, HRF.out, HDF.out⟩
      case measure => simp [intOf]; omega
    · go_wp2
      go_ret
      exact ⟨ao, cap, ms, p', rfl, HO.out, hms, by omega, HRD.out, HD.out⟩

end Go.Proofs.Ytepamfkbeccmaaa

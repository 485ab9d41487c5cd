/-
  A drawn clause: some numbers in new memory; of what was there the reader's place alone has turned.
-/
import Derived.Test.YtepamfkbeccmaaaPick
import Derived.Test.YtepamfkbeccmaaaUnits2
namespace Go.Proofs.Ytepamfkbeccmaaa
open Go.RowKit Go.Deep
set_option linter.unusedVariables false

theorem Owns.kept {w w' : World} {base : Nat} {v : Value} {xs : List Int} {row : Option Nat} (h : Owns w base v xs) (hg : w.grownBy w' row) (hr : ∀ k, row = some k → k < base) : Owns w' base v xs := by
  refine World.ownsRow.kept h hg ?_
  cases hb : v.ownBlock with
  | none => exact .inl rfl
  | some g =>
    right
    intro e
    have h1 := (h.blk_lt g hb).1
    have h2 := hr g e.symm
    omega

/-- A reader beside memory that is written in one block of the call's own. -/
theorem Rd.own {w w' : World} {R : Nat} {v : Value} {bs : List Int} {p base : Nat} {row : Option Nat} (h : Rd w R v bs p) (hg : w.grownBy w' row) (hR : R < base) (hvb : ∀ ao n cap b off, v = .slice ao n cap → ao = some ⟨b, off, none⟩ → b < base) (hrow : ∀ k, row = some k → base ≤ k) : Rd w' R v bs p :=
  h.grown hg (fun e => by have := hrow R e.symm; omega) (fun ao n cap b off hv ha e => by have h1 := hvb ao n cap b off hv ha; have h2 := hrow b e.symm; omega)

/-- Of old memory the reader's block alone has turned. -/
def Old (R base : Nat) (w w' : World) : Prop := w'.os = w.os ∧ w'.tape = w.tape ∧ w'.output = w.output ∧ w.heap.size ≤ w'.heap.size ∧ ∀ k, k < base → k ≠ R → w'.heap[k]? = w.heap[k]?

theorem Old.refl (R base : Nat) (w : World) : Old R base w w := ⟨rfl, rfl, rfl, Nat.le_refl _, fun _ _ _ => rfl⟩
theorem Old.trans {R base : Nat} {a b c : World} (h : Old R base a b) (k : Old R base b c) : Old R base a c :=
  ⟨k.1.trans h.1, k.2.1.trans h.2.1, k.2.2.1.trans h.2.2.1, Nat.le_trans h.2.2.2.1 k.2.2.2.1, fun i hi hne => (k.2.2.2.2 i hi hne).trans (h.2.2.2.2 i hi hne)⟩
theorem Old.below {R base : Nat} {a b c : World} (h : Old R base a b) (k : Below b.heap.size b c) (hb : base ≤ b.heap.size) : Old R base a c :=
  h.trans ⟨k.os, k.tape, k.output, k.size, fun i hi _ => k.block i (by omega)⟩
theorem Old.grown {R base : Nat} {a b c : World} {row : Option Nat} (h : Old R base a b) (k : b.grownBy c row) (hb : base ≤ b.heap.size) (hr : ∀ q, row = some q → base ≤ q ∨ q = R) : Old R base a c :=
  h.trans ⟨k.os, k.tape, k.output, k.size, fun i hi hne => k.block i (by omega) (fun e => by rcases hr i e.symm with h | h <;> omega)⟩
theorem Old.size {R base : Nat} {a b : World} (h : Old R base a b) : a.heap.size ≤ b.heap.size := h.2.2.2.1

/-- What a drawn clause is. -/
def ClausePost (R : Nat) (v : Value) (bs : List Int) (p : Nat) (w : World) (e : Ending) (w' : World) : Prop :=
  ∃ ao cap xs p', e = .returned (.slice ao xs.length cap) ∧ Owns w' w.heap.size (.slice ao xs.length cap) xs ∧ xs.length ≤ 8 ∧ p' ≤ p + 17 ∧ Rd w' R v bs p' ∧ Old R w.heap.size w w'

set_option maxHeartbeats 2000000 in
theorem l13Clause_any (R : Nat) (v : Value) (bs : List Int) (p : Nat) (vars most : Int) (w : World) (hr : Rd w R v bs p) (hvb : ∀ ao n cap b off, v = .slice ao n cap → ao = some ⟨b, off, none⟩ → b < w.heap.size) (hp : p ≤ 500000) (hv : vars ≤ 60) (hm0 : 0 ≤ most) (hm : most ≤ 8) :
    Calls Try.prog 27 #[.pointer (some ⟨R, 0, none⟩), .int .i64 vars, .int .i64 most] w (ClausePost R v bs p w) := by
  have hRlt := hr.lt
  have HVB : Hid (∀ ao n cap b off, v = .slice ao n cap → ao = some ⟨b, off, none⟩ → b < w.heap.size) := hvb
  have HR0 : Hid (Rd (w.alloc (.cells #[] 3)) R v bs p) := hr.grown (World.grownBy_alloc w _ none) (by simp) (by simp)
  have HO0 : Hid (Owns (w.alloc (.cells #[] 3)) w.heap.size (.slice (some ⟨w.heap.size, 0, none⟩) 0 0) []) := ⟨by simp, .inr ⟨w.heap.size, 0, #[], rfl, Nat.le_refl _, blk_alloc_new _ _, Nat.le_refl _, by simp, by simp, by simp⟩⟩
  obtain ⟨i0, hi, hz0, hz1, hz2⟩ := info_parts info_int
  clear hr hvb
  go_enter Try.func27, Try.ntmps27
  go_wp2_with fail
  refine (pick_any R v bs p _ _ HR0.out (by omega) (by omega)).mono ?_
  rintro e w1 ⟨n0, rfl, hn0, hn1, hn2, hrd1, hg1, hs1⟩
  have HR1 : Hid (Rd w1 R v bs (p + 1)) := hrd1
  have HO1 : Hid (Owns w1 w.heap.size (.slice (some ⟨w.heap.size, 0, none⟩) 0 0) []) := HO0.out.kept hg1 (fun k e => by have := Option.some.inj e; omega)
  have HD1 : Hid (Old R w.heap.size w w1) := ((Old.refl R w.heap.size w).below (belOne _ _) (Nat.le_refl _)).grown hg1 (by simp) (fun q e => .inr (Option.some.inj e).symm)
  have hn9 : n0 < 9 := by have := hn1 (by omega); omega
  clear hrd1 hg1 hs1 hn1 hn2
  go_wp2_with fail
  go_loopw [7, 8] (fun o m wr => ∃ (ao : Option Addr) (cap : Nat) (xs : List Int) (k p' : Nat), o = .slice ao xs.length cap ∧ m = .int .i64 k ∧ xs.length + k ≤ 8 ∧ p' ≤ p + 1 + 2 * xs.length ∧ Owns wr w.heap.size (.slice ao xs.length cap) xs ∧ Rd wr R v bs p' ∧ Old R w.heap.size w wr) (fun _ m _ => (intOf m).toNat)
  case atStart => exact ⟨_, 0, [], n0.toNat, p + 1, rfl, by rw [Int.toNat_of_nonneg hn0], by simp; omega, by simp, HO1.out, HR1.out, HD1.out⟩
  case round =>
    obtain ⟨ao, cap, xs, k, p', rfl, rfl, hlen, hp', hown, hrd, hold⟩ := hrel
    have HO : Hid (Owns wr w.heap.size (.slice ao xs.length cap) xs) := hown
    have HRD : Hid (Rd wr R v bs p') := hrd
    have HD : Hid (Old R w.heap.size w wr) := hold
    have hsz := hold.size
    clear hown hrd hold
    by_cases hk : 0 < k
    · by_cases hv0 : 0 < vars
      · obtain ⟨k', rfl⟩ : ∃ k', k = k' + 1 := ⟨k - 1, by omega⟩
        go_wp2_with fail
        refine (pick_any R v bs p' _ _ HRD.out (by omega) (by omega)).mono ?_
        rintro e w2 ⟨x, rfl, hx0, hx1, hx2, hrd2, hg2, hs2⟩
        have HR2 : Hid (Rd w2 R v bs (p' + 1)) := hrd2
        have HO2 : Hid (Owns w2 w.heap.size (.slice ao xs.length cap) xs) := HO.out.kept hg2 (fun k e => by have := Option.some.inj e; omega)
        have HD2 : Hid (Old R w.heap.size w w2) := HD.out.grown hg2 hsz (fun q e => .inr (Option.some.inj e).symm)
        have hx3 : x < 60 := by have := hx1 (by omega); omega
        clear hrd2 hg2 hx1 hx2
        go_wp2_with fail
        refine (pick_any R v bs (p' + 1) _ _ HR2.out (by omega) (by omega)).mono ?_
        rintro e w3 ⟨y, rfl, hy0, hy1, hy2, hrd3, hg3, hs3⟩
        have HR3 : Hid (Rd w3 R v bs (p' + 1 + 1)) := hrd3
        have HO3 : Hid (Owns w3 w.heap.size (.slice ao xs.length cap) xs) := HO2.out.kept hg3 (fun k e => by have := Option.some.inj e; omega)
        have HD3 : Hid (Old R w.heap.size w w3) := HD2.out.grown hg3 (by omega) (fun q e => .inr (Option.some.inj e).symm)
        have hsz3 : w.heap.size ≤ w3.heap.size := by omega
        clear hrd3 hg3 hy1 hy2 hs2 hs3
        by_cases hyz : y = 0
        · subst hyz
          go_wp2_with (at_builtin; refine wpList_append_lies _ rfl _ _ 31 rfl w.heap.size 3 i0 (.int .i64 0) 1 8 Try.underlying31 hi hz0 hz1 hz2 rfl (by decide) _ xs.length (xs.map (Value.int .i64)) rfl (World.ownsRow.alloc HO3.out _) ⟨w3.heap.size, 0, none⟩ 1 1 [.int .i64 (-(1 + x))] rfl rfl (news_plain1 _ _ _) (ints_oneCell .i64 [-(1 + x)]) (by decide) (by unfold maxLen; omega) (by omega) (by simp; omega) _ rfl ?_; intro g gcap w4 hown4 hgrow4 hat4 hlt4)
          have HOF : Hid (Owns w4 w.heap.size (.slice (some ⟨g, 0, none⟩) (xs.length + 1) gcap) (xs ++ [-(1 + x)])) := Owns.snoc hown4
          have HRF : Hid (Rd w4 R v bs (p' + 1 + 1)) := (HR3.out.grown (World.grownBy_alloc w3 _ none) (by simp) (by simp)).own hgrow4 hRlt HVB.out (fun q e => (HO3.out.blk_lt q e).1)
          have HDF : Hid (Old R w.heap.size w w4) := (HD3.out.below (belOne _ _) hsz3).grown hgrow4 (by simp; omega) (fun q e => .inl (HO3.out.blk_lt q e).1)
          clear hown4 hgrow4 hat4 hlt4
          go_wp2
          go_roundw
          case rel => exact ⟨some ⟨g, 0, none⟩, gcap, xs ++ [-(1 + x)], k', p' + 1 + 1, by simp, by go_num, by simp; omega, by simp; omega, by rw [List.length_append]; exact HOF.out, HRF.out, HDF.out⟩
          case measure => simp [intOf]
        · have hyb : (y == 0) = false := by simpa using hyz
          go_wp2_with (at_builtin; refine wpList_append_lies _ rfl _ _ 31 rfl w.heap.size 3 i0 (.int .i64 0) 1 8 Try.underlying31 hi hz0 hz1 hz2 rfl (by decide) _ xs.length (xs.map (Value.int .i64)) rfl (World.ownsRow.alloc HO3.out _) ⟨w3.heap.size, 0, none⟩ 1 1 [.int .i64 (1 + x)] rfl rfl (news_plain1 _ _ _) (ints_oneCell .i64 [1 + x]) (by decide) (by unfold maxLen; omega) (by omega) (by simp; omega) _ rfl ?_; intro g gcap w4 hown4 hgrow4 hat4 hlt4)
          have HOF : Hid (Owns w4 w.heap.size (.slice (some ⟨g, 0, none⟩) (xs.length + 1) gcap) (xs ++ [1 + x])) := Owns.snoc hown4
          have HRF : Hid (Rd w4 R v bs (p' + 1 + 1)) := (HR3.out.grown (World.grownBy_alloc w3 _ none) (by simp) (by simp)).own hgrow4 hRlt HVB.out (fun q e => (HO3.out.blk_lt q e).1)
          have HDF : Hid (Old R w.heap.size w w4) := (HD3.out.below (belOne _ _) hsz3).grown hgrow4 (by simp; omega) (fun q e => .inl (HO3.out.blk_lt q e).1)
          clear hown4 hgrow4 hat4 hlt4
          go_wp2
          go_roundw
          case rel => exact ⟨some ⟨g, 0, none⟩, gcap, xs ++ [1 + x], k', p' + 1 + 1, by simp, by go_num, by simp; omega, by simp; omega, by rw [List.length_append]; exact HOF.out, HRF.out, HDF.out⟩
          case measure => simp [intOf]
      · have hdec : decide ((0 : Int) < vars) = false := by simp; omega
        go_wp2
        go_ret
        exact ⟨ao, cap, xs, p', rfl, HO.out, by omega, by omega, HRD.out, HD.out⟩
    · go_wp2
      go_ret
      exact ⟨ao, cap, xs, p', rfl, HO.out, by omega, by omega, HRD.out, HD.out⟩

end Go.Proofs.Ytepamfkbeccmaaa

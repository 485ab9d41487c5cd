/-
  The model's l1Units: what follows at once, one after the other.
-/
import Derived.Test.YtepamfkbeccmaaaUnits
import Derived.Deep.RegionLaw
import Derived.Deep.AppendLies
namespace Go.Proofs.Ytepamfkbeccmaaa
open Go.RowKit Go.Deep
set_option linter.unusedVariables false

/-- What the call owns and what it holds, as numbers. -/
def Owns (w : World) (base : Nat) (v : Value) (xs : List Int) : Prop := w.ownsRow base 3 1 v xs.length (xs.map (Value.int .i64))

theorem Owns.form {w : World} {base : Nat} {v : Value} {xs : List Int} (h : Owns w base v xs) : ∃ ao cap, v = .slice ao xs.length cap := by
  rcases h.2 with ⟨h1, h2⟩ | ⟨g, cap, cur, h1, _⟩
  · rw [h2] at *; exact ⟨_, _, h1⟩
  · exact ⟨_, _, h1⟩

theorem Owns.isInts {w : World} {base : Nat} {v : Value} {xs : List Int} (h : Owns w base v xs) : IsInts w v xs := by
  have h' := h
  rcases h.2 with ⟨h1, h2⟩ | ⟨g, cap, cur, h1, hb, hh, _, _, hs, ht⟩
  · subst h1
    obtain rfl := List.length_eq_zero_iff.1 h2
    exact ⟨_, _, rfl, fun hne => absurd rfl hne⟩
  · subst h1
    refine ⟨_, _, rfl, fun _ => ⟨g, 0, rfl, fun i hi => ?_⟩⟩
    have := World.ownsRow.cellAt h' i (by omega)
    rw [Nat.zero_add, this]
    simp [List.getD, hi]

theorem Owns.below {w w' : World} {base : Nat} {v : Value} {xs : List Int} (h : Owns w base v xs) (hb : Below w.heap.size w w') : Owns w' base v xs := by
  refine ⟨h.1, ?_⟩
  rcases h.2 with h2 | ⟨g, cap, cur, hv, hg, hh, r⟩
  · exact .inl h2
  · have hlt : g < w.heap.size := (Array.getElem?_eq_some_iff.1 hh).1
    exact .inr ⟨g, cap, cur, hv, hg, (hb.block g hlt).trans hh, r⟩

theorem Owns.blk_lt {w : World} {base : Nat} {v : Value} {xs : List Int} (h : Owns w base v xs) : ∀ k, v.ownBlock = some k → base ≤ k ∧ k < w.heap.size := World.ownsRow.lt h

theorem news_one (w : World) (x : Value) (t : TypeId) : ∀ j u, [x][j]? = some u → ((w.alloc (.cells #[x] t)).drew).cell? ((⟨w.heap.size, 0, none⟩ : Addr).add j) = some u := by
  intro j u h
  cases j with
  | zero => simp at h; subst h; simp [Addr.add]
  | succ j => simp at h

theorem news_plain1 (w : World) (x : Value) (t : TypeId) : ∀ j u, [x][j]? = some u → (w.alloc (.cells #[x] t)).cell? ((⟨w.heap.size, 0, none⟩ : Addr).add j) = some u := by
  intro j u h
  cases j with
  | zero => simp at h; subst h; simp [Addr.add]
  | succ j => simp at h

theorem Owns.laid {w : World} {base : Nat} {v : Value} {xs : List Int} (h : Owns w base v xs) (o : Obj) : (w.alloc o).drew.ownsRow base 3 1 v xs.length (xs.map (Value.int .i64)) := (World.ownsRow.alloc h o).drew

theorem Owns.snoc {w : World} {base g cap : Nat} {xs : List Int} {x : Int} (h : w.ownsRow base 3 1 (.slice (some ⟨g, 0, none⟩) (xs.length + 1) cap) (xs.length + 1) (xs.map (Value.int .i64) ++ [.int .i64 x])) : Owns w base (.slice (some ⟨g, 0, none⟩) (xs.length + 1) cap) (xs ++ [x]) := by
  unfold Owns
  rw [List.length_append, List.map_append]
  exact h

/-- What lies in another block than the row that an append writes is as it was. -/
theorem Two.grown {w w' : World} {b : Nat} {a0 a1 : Value} {row : Option Nat} (h : Two w b a0 a1) (hg : w.grownBy w' row) (hne : some b ≠ row) : Two w' b a0 a1 :=
  ⟨Nat.lt_of_lt_of_le h.lt hg.size, hg.cell h.c0 hne, hg.cell h.c1 hne⟩

theorem ret_tuple {v : Value} {a b : Bool} (h : a = b) : Ending.returned (.tuple #[v, .bool a]) = .returned (.tuple #[v, .bool b]) := by rw [h]

theorem drop_getD2 (xs : List (List Int)) (k : Nat) (h : k < xs.length) : xs.drop k = xs.getD k [] :: xs.drop (k + 1) := by
  rw [List.drop_eq_getElem_cons h]
  simp [List.getD, List.getElem?_eq_getElem h]

theorem scanL_bad {told c : List Int} {r : List (List Int)} {x : Int} (h : unitL told c 0 = (x, false)) : scanL told (c :: r) = (0, false) := by simp only [scanL]; rw [if_pos (by rw [h])]
theorem scanL_hit {told c : List Int} {r : List (List Int)} {x : Int} (h : unitL told c 0 = (x, true)) (hx : x ≠ 0) : scanL told (c :: r) = (x, true) := by simp only [scanL]; rw [if_neg (by rw [h]; simp), if_pos (by rw [h]; exact hx), h]
theorem scanL_next {told c : List Int} {r : List (List Int)} (h : unitL told c 0 = (0, true)) : scanL told (c :: r) = scanL told r := by simp only [scanL]; rw [if_neg (by rw [h]; decide), if_neg (by rw [h]; simp)]

set_option maxHeartbeats 2000000 in
theorem l1Units_any (css : List (List Int)) (vars : Int) (h0 : 0 ≤ vars) (h60 : vars ≤ 60) (hc : ∀ xs ∈ css, ∀ x ∈ xs, litB vars x = true) (hn : css.length ≤ 150) (hm : ∀ i, i < css.length → (css.getD i []).length ≤ maxLen) :
    ∀ (f : Nat) (told : List Int) (vv : Int) (v1 v : Value) (w : World) (base : Nat), Good vars told → vars.toNat < told.length + f → (∀ w', Below base w w' → IsRows w' v1 css) → base ≤ w.heap.size → Owns w base v told →
    Calls Try.prog 29 #[.agg #[.int .i64 vv, v1], v] w fun e w' => ∃ v', e = .returned (.tuple #[v', .bool (unitsF css f told).2]) ∧ Owns w' base v' (unitsF css f told).1 ∧ Below base w w' := by
  intro f
  induction f with
  | zero =>
    intro told vv v1 v w base hg hf
    have := hg.length_le h0
    omega
  | succ f ih =>
    intro told vv v1 v w base hg hf hv hb hown
    have IH : Hid (∀ (told : List Int) (vv : Int) (v1 v : Value) (w : World) (base : Nat), Good vars told → vars.toNat < told.length + f → (∀ w', Below base w w' → IsRows w' v1 css) → base ≤ w.heap.size → Owns w base v told →
      Calls Try.prog 29 #[.agg #[.int .i64 vv, v1], v] w fun e w' => ∃ v', e = .returned (.tuple #[v', .bool (unitsF css f told).2]) ∧ Owns w' base v' (unitsF css f told).1 ∧ Below base w w') := ih
    clear ih
    have HG : Hid (Good vars told) := hg
    have hlen := hg.length_le h0
    have HV : Hid (∀ w', Below base w w' → IsRows w' v1 css) := hv
    obtain ⟨ao1, cap1, rfl, _⟩ := hv w (Below.refl _ _)
    have HO : Hid (Owns w base v told) := hown
    obtain ⟨ao, cap, rfl⟩ := hown.form
    have HC : Hid (∀ xs ∈ css, ∀ x ∈ xs, litB vars x = true) := hc
    have HM : Hid (∀ i, i < css.length → (css.getD i []).length ≤ maxLen) := hm
    clear hg hv hown hc hm
    obtain ⟨W0, hW0⟩ : ∃ W0, W0 = w.alloc (.cells #[.int .i64 vv, .slice ao1 css.length cap1] 25) := ⟨_, rfl⟩
    have hB0 : Below w.heap.size w W0 := by rw [hW0]; exact belOne _ _
    have HB0 : Hid (Below w.heap.size w W0) := hB0
    have HT0 : Hid (Two W0 w.heap.size (.int .i64 vv) (.slice ao1 css.length cap1)) := by rw [hW0]; exact Two.new _ _ _ _
    have HO0 : Hid (Owns W0 base (.slice ao told.length cap) told) := HO.out.below hB0
    obtain ⟨ao', cap', he, hrows⟩ := HV.out W0 (hB0.mono hb)
    simp only [Value.slice.injEq, true_and] at he
    obtain ⟨rfl, rfl⟩ := he
    obtain ⟨sx, sb, hs⟩ : ∃ sx sb, scanL told css = (sx, sb) := ⟨_, _, rfl⟩
    have HS : Hid (scanL told css = (sx, sb)) := hs
    obtain ⟨rl, rb, hr⟩ : ∃ rl rb, unitsF css (f + 1) told = (rl, rb) := ⟨_, _, rfl⟩
    rw [hr]
    have HR : Hid (unitsF css (f + 1) told = (rl, rb)) := hr
    clear hs hr hB0
    have hle0 : w.heap.size < W0.heap.size := HT0.out.lt
    obtain ⟨i0, hi, hz0, hz1, hz2⟩ := info_parts info_int
    by_cases hne : 0 < css.length
    · obtain ⟨b, off, rfl, hcells⟩ := hrows (by intro e; subst e; simp at hne)
      have HCE : Hid (∀ i, i < css.length → ∃ r, W0.cell? ⟨b, off + i, none⟩ = some r ∧ IsInts W0 r (css.getD i [])) := hcells
      clear hcells hrows
      go_enter Try.func29, Try.ntmps29
      go_wp2
      rw [← hW0]
      have hx0 := HT0.out.c0
      have hx1 := HT0.out.c1
      clear hW0
      go_loop [6] (fun i => ∃ k : Nat, k ≤ css.length ∧ i = .int .i64 k ∧ Hid (scanL told (css.drop k) = (sx, sb))) (fun i => css.length - (intOf i).toNat)
      case atStart => exact ⟨0, Nat.zero_le _, rfl, HS.out⟩
      case round =>
        obtain ⟨k, hk, rfl, hscan⟩ := hrel
        by_cases hlt : k < css.length
        · obtain ⟨rv, hcell, hints⟩ := HCE.out k hlt
          have hmx : Hid ((css.getD k []).length ≤ maxLen) := HM.out k hlt
          have hmem : css.getD k [] ∈ css := by rw [List.getD, List.getElem?_eq_getElem hlt]; simp
          have hlit : Hid (∀ x ∈ css.getD k [], -100 ≤ x ∧ x ≤ 100) := fun x hx => by have := litB_iff.1 (HC.out _ hmem x hx); omega
          have hsc := hscan.out
          rw [drop_getD2 css k hlt] at hsc
          clear hscan hmem
          generalize css.getD k [] = ys at *
          have HI : Hid (IsInts W0 rv ys) := hints
          obtain ⟨a1, c1, rfl, _⟩ := hints
          have HTL : Hid (told.length ≤ maxLen) := by show told.length ≤ maxLen; unfold maxLen; omega
          obtain ⟨ux, ub, hu⟩ : ∃ ux ub, unitL told ys 0 = (ux, ub) := ⟨_, _, rfl⟩
          have HU : Hid (unitL told ys 0 = (ux, ub)) := hu
          cases ub with
          | false =>
            have HE : Hid (told = rl ∧ false = rb) := by
              rw [scanL_bad hu] at hsc
              have h1 := HS.out
              rw [← hsc] at h1
              have h2 := HR.out
              simp only [unitsF] at h2
              rw [if_pos (by rw [h1])] at h2
              exact Prod.mk.inj h2
            clear hu hsc
            go_wp2_with (go_at_call 34; refine (l1Unit_any _ _ ys told _ HI.out HO0.out.isInts hmx.out HTL.out hlit.out).mono ?_; rintro e W0 ⟨rfl, rfl⟩; rw [HU.out])
            go_ret2
            exact ⟨_, ret_tuple HE.out.2, by rw [← HE.out.1]; exact HO0.out, HB0.out.mono hb⟩
          | true =>
            by_cases hux : ux = 0
            · subst hux
              have HSC : Hid (scanL told (css.drop (k + 1)) = (sx, sb)) := by rw [scanL_next hu] at hsc; exact hsc
              clear hu hsc
              go_wp2_with (go_at_call 34; refine (l1Unit_any _ _ ys told _ HI.out HO0.out.isInts hmx.out HTL.out hlit.out).mono ?_; rintro e W0 ⟨rfl, rfl⟩; rw [HU.out])
              go_round
              case rel => exact ⟨k + 1, by omega, by go_num, HSC⟩
              case measure => simp [intOf]; omega
            · have hsx : scanL told css = (ux, true) := by
                rw [scanL_hit hu hux] at hsc
                rw [hsc]; exact HS.out
              have HE : Hid (unitsF css f (told ++ [ux]) = (rl, rb)) := by
                have h2 := HR.out
                simp only [unitsF] at h2
                rw [if_neg (by rw [hsx]; simp), if_neg (by rw [hsx]; exact hux), hsx] at h2
                exact h2
              have HGN : Hid (Good vars (told ++ [ux])) := by
                have := HG.out.step HC.out (by rw [hsx]; exact hux)
                rw [hsx] at this; exact this
              have hbeq : (ux == 0) = false := by simpa using hux
              have hbne : (ux != 0) = true := by simpa using hux
              clear hu hsc hsx hux
              go_wp2_with (go_at_call 34; refine (l1Unit_any _ _ ys told _ HI.out HO0.out.isInts hmx.out HTL.out hlit.out).mono ?_; rintro e W0 ⟨rfl, rfl⟩; rw [HU.out])
              have hbox : Hid (some w.heap.size ≠ (Value.slice ao told.length cap).ownBlock) := fun e => by have := HO.out.blk_lt _ e.symm; omega
              have hrb : Hid (∀ q, (Value.slice ao told.length cap).ownBlock = some q → base ≤ q) := fun q e => (HO.out.blk_lt q e).1
              have HSZ : Hid ((told ++ [ux]).length = told.length + 1) := by simp [Hid]
              go_region_law (first
                | (refine step_append_lies _ rfl (.tmp 32) (.tmp 34) 31 rfl base 3 i0 (.int .i64 0) 1 8 Try.underlying31 hi hz0 hz1 hz2 rfl (by decide) _ told.length (told.map (Value.int .i64)) rfl (HO0.out.laid _) ⟨W0.heap.size, 0, none⟩ 1 1 [.int .i64 ux] rfl rfl (news_one _ _ _) (ints_oneCell .i64 [ux]) (by decide) (by unfold maxLen; omega) (by omega) (by first | omega | (simp; done) | (simp; omega)) _ rfl ?_; intro g gcap w1 hown1 hgrow1 hat1 hlt1; have HO1 : Hid (Owns w1 base (.slice (some ⟨g, 0, none⟩) (told.length + 1) gcap) (told ++ [ux])) := Owns.snoc hown1; have HB1 : Hid (Below base w w1) := Below.grown (((HB0.out.mono hb).alloc (by omega) _).drew) hgrow1 (by first | omega | (simp; done) | (simp; omega)) hrb.out; have ht1 := ((HT0.out.below (belOne _ _)).below ((Below.refl _ _).drew)).grown hgrow1 hbox.out; have ht10 := ht1.lt; have ht11 := ht1.c0; have ht12 := ht1.c1; have hs1 : base ≤ w1.heap.size := (by omega); clear hown1 hgrow1 hat1 hlt1 ht1)
                | (go_simp; go_at_call 29; refine (IH.out (told ++ [ux]) _ _ _ _ base HGN.out (by rw [HSZ.out]; omega) (fun w' h => HV.out w' (HB1.out.trans h)) hs1 HO1.out).mono ?_; rintro e w2 ⟨v2, rfl, hown2, hbel2⟩; have HO2 : Hid (Owns w2 base v2 (unitsF css f (told ++ [ux])).1) := hown2; have HB2 : Hid (Below base w w2) := HB1.out.trans hbel2; clear hown2 hbel2; rw [HE.out]))
              all_goals
                go_wp2
                go_ret2
                exact ⟨v2, rfl, by have := HO2.out; rw [HE.out] at this; exact this, HB2.out⟩
        · have HE : Hid (told = rl ∧ true = rb) := by
            have hsc := hscan.out
            rw [List.drop_eq_nil_of_le (by omega)] at hsc
            have h1 := HS.out
            rw [← hsc] at h1
            have h2 := HR.out
            simp only [unitsF] at h2
            rw [if_neg (by rw [h1]; simp [scanL]), if_pos (by rw [h1]; simp [scanL])] at h2
            exact Prod.mk.inj h2
          clear hscan
          go_wp2
          go_ret2
          exact ⟨_, ret_tuple HE.out.2, by rw [← HE.out.1]; exact HO0.out, HB0.out.mono hb⟩
    · obtain rfl : css = [] := List.length_eq_zero_iff.1 (by omega)
      have HE : Hid (told = rl ∧ true = rb) := by
        have h2 := HR.out
        simp only [unitsF, scanL] at h2
        simp at h2
        exact ⟨h2.1, h2.2.symm⟩
      have HOX : Hid (∀ o, Owns (w.alloc o) base (.slice ao told.length cap) told) := fun o => HO.out.below (belOne _ _)
      have HBX : Hid (∀ o, Below base w (w.alloc o)) := fun o => (belOne _ _).mono hb
      clear hrows hW0
      go_enter Try.func29, Try.ntmps29
      go_wp2
      go_rounds 1
      go_ret2
      exact ⟨_, ret_tuple HE.out.2, by rw [← HE.out.1]; exact HOX.out _, HBX.out _⟩

end Go.Proofs.Ytepamfkbeccmaaa

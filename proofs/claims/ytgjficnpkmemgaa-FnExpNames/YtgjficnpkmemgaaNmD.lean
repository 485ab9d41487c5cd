/-
  ExpNames of the program.
-/
import Derived.Test.YtgjficnpkmemgaaNmC
import Derived.Test.YtgjficnpkmemgaaNmB
import Derived.Test.YtgjficnpkmemgaaExpH
namespace Go.Proofs.Ytgjficnpkmemgaa
open Go.RowKit Go.Deep Go.Proofs
set_option linter.unusedVariables false

attribute [local go_sem] Oper.semAt_some

/-- An answer that is a row of texts of the call's own. -/
def TextsPost (L : List Bs) (w : World) (e : Ending) (w' : World) : Prop := ∃ ao n c, e = .returned (.slice ao n c) ∧ L.length = n ∧ Ownt w' w.heap.size (.slice ao n c) L ∧ Below w.heap.size w w'

theorem RowTo.below {base : Nat} {w0 w1 w2 : World} {v v2 : Value} {ss : List Bs} (hb : Below base w0 w1) (ho : Ownt w1 base v ss) (hs : base ≤ w1.heap.size) (h : RowTo w1 v w2 v2) : Below base w0 w2 := hb.grown h.1 hs (fun k e => (ho.lt k e).1)

set_option maxRecDepth 100000 in
set_option maxHeartbeats 8000000 in
theorem implExpNames_any (lo : Nat) (t : ExpT) (ht : totE t ≤ 1048576) (v : Value) (w : World) (hE : IsE w lo t v) : Calls Try.prog 5 #[v] w (TextsPost (namesOf t) w) := by
  obtain ⟨k, n, s, ao, m, cap, rfl⟩ := hE.agg
  obtain ⟨W1, hW1⟩ : ∃ W1, W1 = w.alloc (.cells #[.int .i64 k, .int .i64 n, .string s, .slice ao m cap] 25) := ⟨_, rfl⟩
  have HB1 : Hid (Below w.heap.size w W1) := by rw [hW1]; exact belOne _ _
  have HK : Hid (BlkE W1 w.heap.size (.int .i64 k) (.int .i64 n) (.string s) (.slice ao m cap) 25) := by rw [hW1]; exact BlkE.new _ _ _ _ _ _
  have HCL := hideN (termOf_any lo t ht _ W1 (IsE.below hE HB1.out))
  have HR : Hid (namesOf t = if okE t = true then putAll [] (namesT t) else []) := rfl
  have HGO := grow_ok t
  have HLN : Hid (okE t = true → (namesT t).length ≤ 60) := fun h => by
    have h1 := namesT_size t
    unfold okE at h
    simp only [Bool.and_eq_true, decide_eq_true_eq] at h
    omega
  have HPN : Hid (okE t = true → ∀ W : World, Below w.heap.size w W → Calls Try.prog 12 #[.slice none 0 0, termV t] W (AppPost w.heap.size ([] ++ namesT t) (.slice none 0 0) W)) := fun h W hW => by
    rw [← HGO] at h
    obtain ⟨r, hr⟩ := Option.isSome_iff_exists.1 h
    exact putNames_any w.heap.size t ht 60 1 r hr none 0 0 [] W (ownt_nil _ _) rfl hW.size (by rw [HGO] at h; have := HLN.out h; omega)
  have HIF : Hid (okE t = true → ∃ a x, termV t = .iface a x) := fun h => by
    rw [← HGO] at h
    obtain ⟨r, hr⟩ := Option.isSome_iff_exists.1 h
    exact termV_iface hr
  obtain ⟨NL, hNL⟩ : ∃ NL, namesT t = NL := ⟨_, rfl⟩
  obtain ⟨TV, hTV⟩ : ∃ TV, termV t = TV := ⟨_, rfl⟩
  obtain ⟨R, hR⟩ : ∃ R, namesOf t = R := ⟨_, rfl⟩
  obtain ⟨r, hr⟩ : ∃ r, okE t = r := ⟨_, rfl⟩
  rw [hNL, hR, hr] at HR
  rw [hNL, hr] at HLN
  rw [hNL, hTV, hr] at HPN
  rw [hTV, hr] at HIF HCL
  rw [hR]
  have HW1 := hideN hW1
  have b0 := HK.out.c0
  have b1 := HK.out.c1
  have b2 := HK.out.c2
  have b3 := HK.out.c3
  clear hE hW1 hNL hTV hR hr HGO
  cases r with
  | false =>
    have HRR : Hid (R = []) := by show _ = _; rw [HR.out]; rfl
    clear HPN HIF HLN HR
    go_enter Try.func5, Try.ntmps5
    go_wp2_with fail
    try rw [← HW1.out]
    refine HCL.out.mono ?_
    rintro e w2 ⟨tv, rfl, _, hb2⟩
    have HB2 := hideN (belNext HB1.out hb2)
    clear hb2 b0 b1 b2 b3
    go_wp2_with fail
    exact bodyPost_ret (v := .slice none 0 0) (by simp [results, Try.results5, go_sem]) rfl ⟨none, 0, 0, rfl, by rw [HRR.out]; rfl, by rw [HRR.out]; exact ownt_nil _ _, HB2.out⟩
  | true =>
    have HRR : Hid (R = Lib.compact (sortT NL)) := by show _ = _; rw [HR.out]; exact (compact_sort NL).symm
    have HPN2 := hideN (HPN.out rfl)
    have HLN2 := hideN (HLN.out rfl)
    obtain ⟨ta, tx, rfl⟩ := HIF.out rfl
    clear HPN HIF HLN HR
    go_enter Try.func5, Try.ntmps5
    go_wp2_with fail
    try rw [← HW1.out]
    refine HCL.out.mono ?_
    rintro e w2 ⟨tv, rfl, htv, hb2⟩
    obtain rfl := htv rfl
    have HB2 := hideN (belNext HB1.out hb2)
    clear hb2 b0 b1 b2 b3 htv
    go_wp2_with fail
    refine (HPN2.out w2 HB2.out).mono ?_
    rintro e w3 ⟨a3, n3, c3, rfl, hl3, ho3, hr3⟩
    have HB3 := hideN (RowTo.below HB2.out (ownt_nil w2 w.heap.size) HB2.out.size hr3)
    have hl3' : NL.length = n3 := hl3
    have h60 : n3 ≤ 60 := by rw [← hl3']; exact HLN2.out
    have HSO := hideN (sortT_any w.heap.size n3 c3 a3 NL w3 HB3.out.size ho3 hl3' (by omega))
    have HSL : Hid ((sortT NL).length = n3) := by show _ = _; unfold sortT; rw [List.length_mergeSort]; exact hl3'
    clear ho3 hr3 hl3 hl3'
    go_wp2_with fail
    refine HSO.out.mono ?_
    rintro e w4 ⟨rfl, ho4, hb4⟩
    have HB4 := hideN (hb4 w.heap.size w HB3.out (Nat.le_refl _))
    have HCO := hideN (compactT_any w.heap.size n3 c3 a3 (sortT NL) w4 HB4.out.size ho4 HSL.out (by omega))
    clear ho4 hb4
    go_wp2_with fail
    refine HCO.out.mono ?_
    rintro e w5 ⟨rfl, ho5, hb5⟩
    have HB5 := hideN (hb5 w.heap.size w HB4.out (Nat.le_refl _))
    have HO5 := hideN ho5
    rw [← HRR.out] at HO5 ⊢
    clear ho5 hb5
    go_wp2_with fail
    exact bodyPost_ret (v := .slice a3 R.length c3) (by simp [results, Try.results5, go_sem]) rfl ⟨_, _, _, rfl, rfl, HO5.out, HB5.out⟩

end Go.Proofs.Ytgjficnpkmemgaa

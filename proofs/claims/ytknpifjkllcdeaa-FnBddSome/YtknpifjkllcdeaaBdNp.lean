/-
  The opposite of a diagram, by the model.
-/
import Derived.Test.YtknpifjkllcdeaaBdNo
namespace Go.Proofs.Ytknpifjkllcdeaa
open Go.RowKit Go.Deep
set_option linter.unusedVariables false

attribute [local go_sem] Oper.semAt_some

theorem notT_map (vars : Nat) (ns : List Nd) (root : Int) : notT (vars : Int) ns root = (tabN vars ns root).map (fun x => !x) := by
  unfold notT
  rw [Int.toNat_natCast, ← tabN_tabF]
  unfold tabF
  rw [List.map_map]
  rfl

theorem own_row {w : World} {base b M c : Nat} {vs : List Bool} (h : w.ownsRow base 4 1 (.slice (some ⟨b, 0, none⟩) M c) M (vs.map Value.bool)) : M ≤ c ∧ ∃ f, w.rowIs b 4 c f ∧ ∀ i, i < M → f i = .bool (vs.getD i false) := by
  rcases h.2 with ⟨h5, _⟩ | ⟨g, cap, cur, h5, _, hh, hle, _, hsz, hcells⟩
  · cases h5
  · injection h5 with e1 e2 e3
    injection e1 with e1
    injection e1 with e1 _ _
    subst e1 e3
    refine ⟨hle, fun i => cur.getD i undef, ⟨cur, hh, by omega, fun i hi => ?_⟩, fun i hi => ?_⟩
    · simp [show i < cur.size by omega]
    · have hl := h.1
      rw [List.length_map] at hl
      have h2 : (cur.toList.take (M * 1))[i]? = (vs.map Value.bool)[i]? := by rw [hcells]
      rw [List.getElem?_take, if_pos (by omega), List.getElem?_map, List.getElem?_eq_getElem (show i < vs.length by omega)] at h2
      have h3 : i < cur.size := by omega
      simp at h2
      simp [h3, List.getD, show i < vs.length by omega] at h2 ⊢
      simpa using h2

set_option maxRecDepth 100000 in
set_option maxHeartbeats 8000000 in
theorem specBddNot_any (vi root : Int) (ao : Option Addr) (n cap : Nat) (ns : List Nd) (w : World) (hN : Nds w ao n cap ns) (h64 : ∀ q ∈ ns, I64N q) (hr : I64 root) (hnl : n ≤ 4194304) :
    Calls Try.prog 44 #[.agg #[.int .i64 vi, .slice ao n cap, .int .i64 root]] w (AnsPost (ansOf (bddB vi ns root) vi (notT vi ns root)) w) := by
  obtain ⟨W1, hW1⟩ : ∃ W1, W1 = (w.alloc (.cells #[.int .i64 vi, .slice ao n cap, .int .i64 root] 25)).alloc (.cells #[.int .i64 0, .slice none 0 0, .int .i64 0] 25) := ⟨_, rfl⟩
  have HB1 : Hid (Below w.heap.size w W1) := by rw [hW1]; exact belNext (belOne _ _) (belOne _ _)
  have HK := hideN (show BlkD W1 w.heap.size (.int .i64 vi) (.slice ao n cap) (.int .i64 root) by rw [hW1]; exact (BlkD.new _ _ _ _).below (belOne _ _))
  have HQ : Hid (BlkD W1 (w.heap.size + 1) (.int .i64 0) (.slice none 0 0) (.int .i64 0)) := by
    have h := BlkD.new (w.alloc (.cells #[.int .i64 vi, .slice ao n cap, .int .i64 root] 25)) (.int .i64 0) (.slice none 0 0) (.int .i64 0)
    rw [World.size_alloc, ← hW1] at h
    exact h
  have HOK := hideN (specBddOk_any vi root ao n cap ns W1 (hN.below HB1.out) h64 hr hnl)
  have HN := hideN (fun V (hV : Below w.heap.size w V) => hN.below hV)
  have HLEN := hideN hN.len
  have HW1 := hideN hW1
  have c0 := HK.out.c0
  have c1 := HK.out.c1
  have c2 := HK.out.c2
  have c3 := HK.out.lt
  clear hN hW1 h64 hr
  cases hbd : bddB vi ns root with
  | false =>
    rw [hbd] at HOK
    clear hbd
    go_enter Try.func44, Try.ntmps44
    go_wp2_with fail
    rw [← HW1.out]
    refine HOK.out.mono ?_
    rintro e w1 ⟨rfl, hb⟩
    have HB := hideN (belNext HB1.out hb)
    have HQ1 := hideN (HQ.out.below hb)
    have m0 := HQ1.out.c0
    have m1 := HQ1.out.c1
    have m2 := HQ1.out.c2
    have m3 := HQ1.out.f 0
    have m4 := HQ1.out.f 1
    have m5 := HQ1.out.f 2
    have m6 := HQ1.out.lt
    clear hb c0 c1 c2 c3
    have HQ2 := hideN (HQ1.out.set (.int .i64 0) (.slice none 0 0) (.int .i64 0))
    have HBE := hideN (set3_below HB.out (show w.heap.size ≤ w.heap.size + 1 by omega) (.int .i64 0) (.slice none 0 0) (.int .i64 0))
    go_wp2
    have u0 := HQ2.out.c0
    have u1 := HQ2.out.c1
    have u2 := HQ2.out.c2
    unfold set3 at u0 u1 u2
    exact bodyPost_ret (v := .agg #[.int .i64 0, .slice none 0 0, .int .i64 0]) (by simp [results, Try.results44, go_sem, u0, u1, u2]) rfl ⟨none, 0, 0, rfl, rfl, World.ownsRow_nil _ _ _ _, HBE.out⟩
  | true =>
  obtain ⟨vars, rfl, h6, hn64, hok, hr0, hr1⟩ := bdd_split hbd
  have hn : n ≤ 64 := by rw [← HLEN.out]; exact hn64
  have hr1n : root < 2 + (n : Int) := by rw [← HLEN.out]; exact hr1
  have HOKN : Hid (∀ i, i < n → nodeB (vars : Int) ns i = true) := fun i hi => hok i (by have := HLEN.out; omega)
  rw [hbd] at HOK
  have HNT := hideN (notT_map vars ns root)
  have HANS : Hid (∀ t, ansOf true (vars : Int) t = ((vars : Int), (drawB vars 0 t []).1, (drawB vars 0 t []).2)) := fun t => by unfold ansOf; rw [if_pos rfl, Int.toNat_natCast]
  clear hbd hok hn64 hr1
  go_enter Try.func44, Try.ntmps44
  go_wp2_with fail
  rw [← HW1.out]
  refine HOK.out.mono ?_
  rintro e w1 ⟨rfl, hb⟩
  have HB := hideN (belNext HB1.out hb)
  have HK1 := hideN (HK.out.below hb)
  have HQ1 := hideN (HQ.out.below hb)
  clear hb c0 c1 c2 c3
  have c0 := HK1.out.c0
  have c1 := HK1.out.c1
  have c2 := HK1.out.c2
  have c3 := HK1.out.lt
  have HTL : Hid ((tabN vars ns root).length = 2 ^ vars) := tabN_length vars ns root
  go_wp2_with fail
  refine (l11Table_any vars n cap root ao ns w1 h6 (HN.out _ HB.out) hn HOKN.out hr0 hr1n).mono ?_
  rintro e w2 ⟨b, k2, rfl, hrow, hb2⟩
  rw [tabN_tabF] at hrow
  have hbB := World.ownsRow.lt hrow b rfl
  obtain ⟨hMc, f0, hf0, hv0⟩ := own_row hrow
  have hM64 : 2 ^ vars ≤ 64 := by show _ ≤ 2 ^ 6; exact Nat.pow_le_pow_right (by decide) h6
  have HB2 := hideN (belNext HB.out hb2)
  have HK2 := hideN (HK1.out.below hb2)
  have HQ2 := hideN (HQ1.out.below hb2)
  have hbw : w1.heap.size ≤ b := hbB.1
  have HW1S : Hid (w.heap.size + 1 < w1.heap.size) := HQ1.out.lt
  clear hb2 c0 c1 c2 c3 hrow hbB
  generalize notT (vars : Int) ns root = T at *
  generalize tabN vars ns root = t at *
  have HA := hideN (HANS.out T)
  clear HANS
  obtain ⟨M, hM⟩ : ∃ M, 2 ^ vars = M := ⟨_, rfl⟩
  rw [hM] at HTL hMc hv0 hM64 ⊢
  have HM := hideN hM.symm
  have HF0 := hideN hf0
  have HV0 := hideN hv0
  clear hM hf0 hv0
  go_wp2_with fail
  go_loopw [4] (fun i wr => ∃ k : Nat, k ≤ M ∧ i = .int .i64 (k : Int) ∧ Hid (∃ f, wr.rowIs b 4 k2 f ∧ ∀ i, i < M → f i = .bool (if i < k then !(t.getD i false) else t.getD i false)) ∧ Hid (Chg (· = b) w2 wr)) (fun i _ => M - (intOf i).toNat)
  case atStart => exact ⟨0, Nat.zero_le _, rfl, ⟨f0, HF0.out, fun i hi => by rw [if_neg (by omega)]; exact HV0.out i hi⟩, Chg.refl _ _⟩
  case round =>
    obtain ⟨k, hk, rfl, hf, hc⟩ := hrel
    by_cases hlt : k < M
    · obtain ⟨f, hrow, hv⟩ := hf.out
      have hx := hrow.cell (i := k) (by omega)
      rw [hv k hlt, if_neg (by omega)] at hx
      have hfz := hrow.frozen k
      have hbl := hrow.lt
      have HV := hideN hv
      have HROW := hideN hrow
      clear hrow hv hf
      go_wp2
      go_roundw
      case rel =>
        refine ⟨k + 1, by omega, by go_num, ⟨_, HROW.out.set k _, fun i hi => ?_⟩, hc.out.trans (Chg.set _ _ _ _)⟩
        by_cases e : i = k
        · subst e; rw [if_pos rfl, if_pos (by omega)]; simp [List.getD]
        · rw [if_neg e, HV.out i hi]
          by_cases h2 : i < k
          · rw [if_pos h2, if_pos (by omega)]
          · rw [if_neg h2, if_neg (by omega)]
      case measure => simp [intOf]; omega
    · obtain rfl : k = M := by omega
      obtain ⟨f, hrow, hv⟩ := hf.out
      have HTAB : Hid (Tab wr b 0 k2 T) := by
        rw [HNT.out]
        refine ⟨by rw [List.length_map, HTL.out]; exact hMc, fun i hi => ?_⟩
        rw [List.length_map, HTL.out] at hi
        rw [Nat.zero_add, hrow.cell (by omega), hv i hi, if_pos hi]
        simp [List.getD, show i < t.length by have := HTL.out; omega]
      have HTT : Hid (T.length = k) := by show _ = _; rw [HNT.out, List.length_map, HTL.out]
      have hbl := hrow.lt
      have HKR : Hid (BlkD wr w.heap.size (.int .i64 (vars : Int)) (.slice ao n cap) (.int .i64 root)) := (hc.out.block _ HK2.out.lt (by have := HW1S.out; omega)).trans HK2.out
      have HQR : Hid (BlkD wr (w.heap.size + 1) (.int .i64 0) (.slice none 0 0) (.int .i64 0)) := (hc.out.block _ HQ2.out.lt (by have := HW1S.out; omega)).trans HQ2.out
      have HBR : Hid (Below w.heap.size w wr) := Chg.below HB2.out HB2.out.size hc.out (fun q e => by have := HW1S.out; omega)
      have c0 := HKR.out.c0
      have c3 := HKR.out.lt
      clear hrow hv hf hc
      go_wp2_with fail
      refine (l11Of_any vars b 0 k2 k T wr h6 HTT.out HM.out HTAB.out hbl).mono ?_
      rintro e w5 ⟨aa, n5, c5, rfl, hn5, hr5, hb5⟩
      have HQ5 := hideN (HQR.out.below hb5)
      have HB5 := hideN (belNext HBR.out hb5)
      have HL5 := hideN hn5
      generalize (drawB vars 0 T []).2 = x at *
      generalize (drawB vars 0 T []).1 = l at *
      have m0 := HQ5.out.c0
      have m1 := HQ5.out.c1
      have m2 := HQ5.out.c2
      have m3 := HQ5.out.f 0
      have m4 := HQ5.out.f 1
      have m5 := HQ5.out.f 2
      have m6 := HQ5.out.lt
      have HQ6 := hideN (HQ5.out.set (.int .i64 (vars : Int)) (.slice aa n5 c5) (.int .i64 x))
      have HR6 : Hid ((set3 w5 (w.heap.size + 1) (.int .i64 (vars : Int)) (.slice aa n5 c5) (.int .i64 x)).ownsRow w.heap.size 50 3 (.slice aa n5 c5) n5 (ndV l)) :=
        row_base (row_of_block hr5 (fun k e => set3_other _ _ _ (by have := (World.ownsRow.lt hr5 k e).1; have := HQR.out.lt; omega))) HBR.out.size
      have HBE := hideN (set3_below HB5.out (show w.heap.size ≤ w.heap.size + 1 by omega) (.int .i64 (vars : Int)) (.slice aa n5 c5) (.int .i64 x))
      clear hr5 hb5 hn5 c0 c3
      go_wp2
      have u0 := HQ6.out.c0
      have u1 := HQ6.out.c1
      have u2 := HQ6.out.c2
      unfold set3 at u0 u1 u2
      exact bodyPost_ret (v := .agg #[.int .i64 (vars : Int), .slice aa n5 c5, .int .i64 x]) (by simp [results, Try.results44, go_sem, u0, u1, u2]) rfl (by unfold AnsPost; rw [HA.out]; exact ⟨aa, n5, c5, rfl, HL5.out, HR6.out, HBE.out⟩)

end Go.Proofs.Ytknpifjkllcdeaa

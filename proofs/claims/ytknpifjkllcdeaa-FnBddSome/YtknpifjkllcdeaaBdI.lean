/-
  What a diagram is of a way: BddIs, of the program and of the model.
-/
import Derived.Test.YtknpifjkllcdeaaBdY
import Derived.Test.YtknpifjkllcdeaaBdV
import Derived.Test.YtknpifjkllcdeaaBdX
namespace Go.Proofs.Ytknpifjkllcdeaa
open Go.RowKit Go.Deep
set_option linter.unusedVariables false

attribute [local go_sem] Oper.semAt_some

theorem bdd_split {vi : Int} {ns : List Nd} {root : Int} (h : bddB vi ns root = true) : ∃ vars : Nat, vi = (vars : Int) ∧ vars ≤ 6 ∧ ns.length ≤ 64 ∧ (∀ i, i < ns.length → nodeB vi ns i = true) ∧ 0 ≤ root ∧ root < 2 + (ns.length : Int) := by
  unfold bddB at h
  simp only [Bool.and_eq_true] at h
  obtain ⟨⟨h1, h2, h3⟩, h4, h5, h6⟩ := goes_split h.1
  exact ⟨vi.toNat, by omega, by omega, h3, h4, h5, h6⟩

/-- What a diagram is of a way; of what is no diagram in its form, or no way of it, nothing. -/
def isB (vi : Int) (ns : List Nd) (root : Int) (ws : List Bool) : Bool := bddB vi ns root && (decide ((ws.length : Int) = vi) && isN ns root ws)

set_option maxRecDepth 100000 in
set_option maxHeartbeats 8000000 in
theorem implBddIs_any (vi root : Int) (ao : Option Addr) (n cap Bw off capw m : Nat) (ns : List Nd) (ws : List Bool) (w : World) (hN : Nds w ao n cap ns) (h64 : ∀ q ∈ ns, I64N q) (hr : I64 root) (hws : ws.length = m) (hT : Tab w Bw off capw ws) :
    Calls Try.prog 40 #[.agg #[.int .i64 vi, .slice ao n cap, .int .i64 root], .slice (some ⟨Bw, off, none⟩) m capw] w fun e w' => e = .returned (.bool (isB vi ns root ws)) ∧ Below w.heap.size w w' := by
  obtain ⟨W1, hW1⟩ : ∃ W1, W1 = w.alloc (.cells #[.int .i64 vi, .slice ao n cap, .int .i64 root] 25) := ⟨_, rfl⟩
  have HB1 : Hid (Below w.heap.size w W1) := by rw [hW1]; exact belOne _ _
  have HK := hideN (show BlkD W1 w.heap.size (.int .i64 vi) (.slice ao n cap) (.int .i64 root) by rw [hW1]; exact BlkD.new _ _ _ _)
  have HOK := hideN (implBddOk_any vi root ao n cap ns W1 (hN.below HB1.out) h64 hr)
  have HN := hideN (fun V (hV : Below w.heap.size w V) => hN.below hV)
  have HT := hideN (fun V (hV : Below w.heap.size w V) => (⟨hT.1, fun i hi => (hV.cell (p := ⟨Bw, off + i, none⟩) (cell_lt (hT.cell i hi))).trans (hT.cell i hi)⟩ : Tab V Bw off capw ws))
  have HLEN := hideN hN.len
  have HWS := hideN hws
  have HW1 := hideN hW1
  have c0 := HK.out.c0
  have c1 := HK.out.c1
  have c2 := HK.out.c2
  have c3 := HK.out.lt
  clear hN hW1 h64 hT hr
  cases hbd : bddB vi ns root with
  | false =>
    have HR : Hid (isB vi ns root ws = false) := by show _ = _; unfold isB; rw [hbd]; rfl
    rw [hbd] at HOK
    clear hbd hws
    go_enter Try.func40, Try.ntmps40
    go_wp2_with fail
    rw [← HW1.out]
    refine HOK.out.mono ?_
    rintro e w1 ⟨rfl, hb⟩
    have HB := hideN (belNext HB1.out hb)
    clear hb c0 c1 c2 c3
    go_wp2_with fail
    go_ret
    exact ⟨by rw [HR.out]; rfl, HB.out⟩
  | true =>
  obtain ⟨vars, rfl, h6, hn64, hok, hr0, hr1⟩ := bdd_split hbd
  have hn : n ≤ 64 := by rw [← HLEN.out]; exact hn64
  have hr1n : root < 2 + (n : Int) := by rw [← HLEN.out]; exact hr1
  have HOKN : Hid (∀ i, i < n → nodeB (vars : Int) ns i = true) := fun i hi => hok i (by have := HLEN.out; omega)
  rw [hbd] at HOK
  by_cases hm : m = vars
  case neg =>
    have HR : Hid (isB (vars : Int) ns root ws = false) := by
      show _ = _
      unfold isB
      rw [decide_eq_false (by omega : ¬ (ws.length : Int) = (vars : Int))]
      simp
    have de : decide ((m : Int) = (vars : Int)) = false := by simp; omega
    have de2 : ((m : Int) == (vars : Int)) = false := by simp; omega
    clear hbd hws hok hn64 hr1
    go_enter Try.func40, Try.ntmps40
    go_wp2_with fail
    rw [← HW1.out]
    refine HOK.out.mono ?_
    rintro e w1 ⟨rfl, hb⟩
    have HB := hideN (belNext HB1.out hb)
    have HK1 := hideN (HK.out.below hb)
    clear hb c0 c1 c2 c3
    have c0 := HK1.out.c0
    have c1 := HK1.out.c1
    have c2 := HK1.out.c2
    have c3 := HK1.out.lt
    go_wp2_with fail
    go_ret
    exact ⟨by rw [HR.out]; rfl, HB.out⟩
  subst hm
  have HR : Hid (isB (m : Int) ns root ws = isN ns root ws) := by
    show _ = _
    unfold isB
    rw [hbd, hws]
    simp
  have de : decide ((m : Int) = (m : Int)) = true := by simp
  have de2 : ((m : Int) == (m : Int)) = true := by simp
  clear hbd hws hok hn64 hr1
  go_enter Try.func40, Try.ntmps40
  go_wp2_with fail
  rw [← HW1.out]
  refine HOK.out.mono ?_
  rintro e w1 ⟨rfl, hb⟩
  have HB := hideN (belNext HB1.out hb)
  have HK1 := hideN (HK.out.below hb)
  clear hb c0 c1 c2 c3
  have c0 := HK1.out.c0
  have c1 := HK1.out.c1
  have c2 := HK1.out.c2
  have c3 := HK1.out.lt
  go_wp2_with fail
  refine (saysOf_any m n cap root ao ns w1 (HN.out _ HB.out) hn HOKN.out hr0 hr1n).mono ?_
  rintro e w2 ⟨fv, rfl, hs, hb2⟩
  have HB2 := hideN (belNext HB.out hb2)
  obtain ⟨F, binds, rfl, heF, hcall⟩ := hs
  have HCALL := hideN hcall
  clear hb2 c0 c1 c2 c3 hcall
  go_wp2_with fail
  refine (HCALL.out w2 (Below.refl _ _) Bw off capw ws HWS.out (HT.out _ HB2.out)).mono ?_
  rintro e w3 ⟨rfl, hb3⟩
  have HB3 := hideN (belNext HB2.out hb3)
  clear hb3
  go_wp2_with fail
  go_ret
  exact ⟨by rw [HR.out]; rfl, HB3.out⟩

set_option maxRecDepth 100000 in
set_option maxHeartbeats 8000000 in
theorem specBddIs_any (vi root : Int) (ao : Option Addr) (n cap Bw off capw m : Nat) (ns : List Nd) (ws : List Bool) (w : World) (hN : Nds w ao n cap ns) (h64 : ∀ q ∈ ns, I64N q) (hr : I64 root) (hnl : n ≤ 4194304) (hws : ws.length = m) (hT : Tab w Bw off capw ws) :
    Calls Try.prog 41 #[.agg #[.int .i64 vi, .slice ao n cap, .int .i64 root], .slice (some ⟨Bw, off, none⟩) m capw] w fun e w' => e = .returned (.bool (isB vi ns root ws)) ∧ Below w.heap.size w w' := by
  obtain ⟨W1, hW1⟩ : ∃ W1, W1 = w.alloc (.cells #[.int .i64 vi, .slice ao n cap, .int .i64 root] 25) := ⟨_, rfl⟩
  have HB1 : Hid (Below w.heap.size w W1) := by rw [hW1]; exact belOne _ _
  have HK := hideN (show BlkD W1 w.heap.size (.int .i64 vi) (.slice ao n cap) (.int .i64 root) by rw [hW1]; exact BlkD.new _ _ _ _)
  have HOK := hideN (specBddOk_any vi root ao n cap ns W1 (hN.below HB1.out) h64 hr hnl)
  have HN := hideN (fun V (hV : Below w.heap.size w V) => hN.below hV)
  have HT := hideN (fun V (hV : Below w.heap.size w V) => (⟨hT.1, fun i hi => (hV.cell (p := ⟨Bw, off + i, none⟩) (cell_lt (hT.cell i hi))).trans (hT.cell i hi)⟩ : Tab V Bw off capw ws))
  have HLEN := hideN hN.len
  have HWS := hideN hws
  have HW1 := hideN hW1
  have c0 := HK.out.c0
  have c1 := HK.out.c1
  have c2 := HK.out.c2
  have c3 := HK.out.lt
  clear hN hW1 h64 hT hr
  cases hbd : bddB vi ns root with
  | false =>
    have HR : Hid (isB vi ns root ws = false) := by show _ = _; unfold isB; rw [hbd]; rfl
    rw [hbd] at HOK
    clear hbd hws
    go_enter Try.func41, Try.ntmps41
    go_wp2_with fail
    rw [← HW1.out]
    refine HOK.out.mono ?_
    rintro e w1 ⟨rfl, hb⟩
    have HB := hideN (belNext HB1.out hb)
    clear hb c0 c1 c2 c3
    go_wp2_with fail
    go_ret
    exact ⟨by rw [HR.out]; rfl, HB.out⟩
  | true =>
  obtain ⟨vars, rfl, h6, hn64, hok, hr0, hr1⟩ := bdd_split hbd
  have hn : n ≤ 64 := by rw [← HLEN.out]; exact hn64
  have hr1n : root < 2 + (n : Int) := by rw [← HLEN.out]; exact hr1
  have HOKN : Hid (∀ i, i < n → nodeB (vars : Int) ns i = true) := fun i hi => hok i (by have := HLEN.out; omega)
  rw [hbd] at HOK
  by_cases hm : m = vars
  case neg =>
    have HR : Hid (isB (vars : Int) ns root ws = false) := by
      show _ = _
      unfold isB
      rw [decide_eq_false (by omega : ¬ (ws.length : Int) = (vars : Int))]
      simp
    have de : decide ((m : Int) = (vars : Int)) = false := by simp; omega
    have de2 : ((m : Int) == (vars : Int)) = false := by simp; omega
    clear hbd hws hok hn64 hr1
    go_enter Try.func41, Try.ntmps41
    go_wp2_with fail
    rw [← HW1.out]
    refine HOK.out.mono ?_
    rintro e w1 ⟨rfl, hb⟩
    have HB := hideN (belNext HB1.out hb)
    have HK1 := hideN (HK.out.below hb)
    clear hb c0 c1 c2 c3
    have c0 := HK1.out.c0
    have c1 := HK1.out.c1
    have c2 := HK1.out.c2
    have c3 := HK1.out.lt
    go_wp2_with fail
    go_ret
    exact ⟨by rw [HR.out]; rfl, HB.out⟩
  subst hm
  have HR : Hid (isB (m : Int) ns root ws = isN ns root ws) := by
    show _ = _
    unfold isB
    rw [hbd, hws]
    simp
  have de : decide ((m : Int) = (m : Int)) = true := by simp
  have de2 : ((m : Int) == (m : Int)) = true := by simp
  clear hbd hws hok hn64 hr1
  go_enter Try.func41, Try.ntmps41
  go_wp2_with fail
  rw [← HW1.out]
  refine HOK.out.mono ?_
  rintro e w1 ⟨rfl, hb⟩
  have HB := hideN (belNext HB1.out hb)
  have HK1 := hideN (HK.out.below hb)
  clear hb c0 c1 c2 c3
  have c0 := HK1.out.c0
  have c1 := HK1.out.c1
  have c2 := HK1.out.c2
  have c3 := HK1.out.lt
  go_wp2_with fail
  refine (l11Is_any m n cap root ao ns Bw off capw ws w1 (HN.out _ HB.out) hn HOKN.out hr0 hr1n HWS.out (HT.out _ HB.out)).mono ?_
  rintro e w2 ⟨rfl, hb2⟩
  have HB2 := hideN (belNext HB.out hb2)
  clear hb2 c0 c1 c2 c3
  go_wp2_with fail
  go_ret
  exact ⟨by rw [HR.out]; rfl, HB2.out⟩

end Go.Proofs.Ytknpifjkllcdeaa

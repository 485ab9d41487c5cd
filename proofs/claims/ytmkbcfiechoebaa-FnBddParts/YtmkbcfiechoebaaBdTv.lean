/-
  Is a text one of some: l5Has, of the model; the three signs.
  Two diagrams with a sign between: BddTwo, of the model.
-/
import Derived.Test.YtmkbcfiechoebaaBdTh
import Derived.LoopIn
import Derived.LoopNIn
import Derived.Test.YtmkbcfiechoebaaBdTu
import Derived.Test.YtmkbcfiechoebaaBdSp
namespace Go.Proofs.Ytmkbcfiechoebaa
open Go.RowKit Go.Deep
set_option linter.unusedVariables false

def strB (l : List UInt8) : Value := .string ⟨l.toArray⟩


theorem anyTake_succ {α : Type} (p : α → Bool) (xs : List α) (d : α) (k : Nat) (h : k < xs.length) : (xs.take (k + 1)).any p = ((xs.take k).any p || p (xs.getD k d)) := by
  rw [List.take_succ_eq_append_getElem h, List.any_append]
  simp [List.getD, List.getElem?_eq_getElem h]

theorem anyTrue_of {α : Type} (p : α → Bool) (xs : List α) (d : α) (k : Nat) (h : k < xs.length) (hp : p (xs.getD k d) = true) : xs.any p = true := by
  rw [List.any_eq_true]
  refine ⟨xs.getD k d, ?_, hp⟩
  rw [List.getD, List.getElem?_eq_getElem h]
  simp

set_option maxHeartbeats 400000 in
theorem l5HasB_any (s : ByteArray) (xs : List (List UInt8)) (g n cap : Nat) (w : World) (hn : xs.length = n) (hm : n ≤ 1000) (hc : ∀ i, i < n → w.cell? ⟨g, i, none⟩ = some (strB (xs.getD i []))) :
    Calls Try.prog 66 #[.slice (some ⟨g, 0, none⟩) n cap, .string s] w fun e w' => e = .returned (.bool (xs.any (fun x => x == s.toList))) ∧ w' = w := by
  have HN : Hid (xs.length = n) := hn
  have HC : Hid (∀ i, i < n → w.cell? ⟨g, i, none⟩ = some (strB (xs.getD i []))) := hc
  clear hn hc
  obtain ⟨r, hr⟩ : ∃ r, xs.any (fun x => x == s.toList) = r := ⟨_, rfl⟩
  rw [hr]
  have HR : Hid (xs.any (fun x => x == s.toList) = r) := hr
  clear hr
  go_enter Try.func66, Try.ntmps66
  go_wp2
  go_loop [5] (fun i => ∃ k : Nat, k ≤ n ∧ i = .int .i64 k ∧ Hid ((xs.take k).any (fun x => x == s.toList) = false)) (fun i => n - (intOf i).toNat)
  case atStart => exact ⟨0, Nat.zero_le _, rfl, rfl⟩
  case round =>
    obtain ⟨k, hk, rfl, hno⟩ := hrel
    by_cases hlt : k < n
    · have hcell := HC.out k hlt
      have hts := anyTake_succ (fun x => x == s.toList) xs [] k (by rw [HN.out]; exact hlt)
      have htr := anyTrue_of (fun x => x == s.toList) xs [] k (by rw [HN.out]; exact hlt)
      generalize xs.getD k [] = x at *
      unfold strB at hcell
      have HTS : Hid ((xs.take (k + 1)).any (fun x => x == s.toList) = ((xs.take k).any (fun x => x == s.toList) || x == s.toList)) := hts
      have HTR : Hid ((x == s.toList) = true → xs.any (fun x => x == s.toList) = true) := htr
      clear hts htr
      go_wp2
      · go_ret
        have h : (x == s.toList) = true := ‹_›
        refine ⟨?_, rfl⟩
        have h1 := HTR.out h
        rw [HR.out] at h1
        rw [h1]
        rfl
      · have h : (x == s.toList) = false := ‹_›
        refine ⟨⟨k + 1, hlt, rfl, ?_⟩, by show _ - ((k : Int) + 1).toNat < _ - ((k : Int)).toNat; omega⟩
        have h1 := HTS.out
        rw [hno.out, h] at h1
        exact h1
    · have hkn : k = n := by omega
      subst hkn
      go_wp2
      go_ret
      refine ⟨?_, rfl⟩
      have h1 := hno.out
      rw [← HN.out, List.take_length, HR.out] at h1
      rw [h1]
      rfl

theorem opOf_some (sg : ByteArray) : (opOf sg).isSome = ([[38], [124], [61]] : List (List UInt8)).any (fun x => x == sg.toList) := by
  unfold opOf
  have hs : ∀ x : List UInt8, (x == sg.toList) = (sg.toList == x) := fun x => by
    cases h : (sg.toList == x) with
    | true => have := eq_of_beq h; rw [this]; simp
    | false =>
      cases h2 : (x == sg.toList) with
      | false => rfl
      | true => have := eq_of_beq h2; rw [this] at h; simp at h
  simp only [List.any_cons, List.any_nil, hs, Bool.or_false]
  cases (sg.toList == [38]) <;> cases (sg.toList == [124]) <;> cases (sg.toList == [61]) <;> rfl

theorem has3_any (sg : ByteArray) (g : Nat) (w : World) (h0 : w.cell? ⟨g, 0, none⟩ = some (.string { data := #[38] })) (h1 : w.cell? ⟨g, 1, none⟩ = some (.string { data := #[124] })) (h2 : w.cell? ⟨g, 2, none⟩ = some (.string { data := #[61] })) :
    Calls Try.prog 66 #[.slice (some ⟨g, 0, none⟩) 3 3, .string sg] w fun e w' => e = .returned (.bool (opOf sg).isSome) ∧ w' = w := by
  rw [opOf_some]
  refine l5HasB_any sg [[38], [124], [61]] g 3 3 w rfl (by decide) (fun i hi => ?_)
  match i, hi with
  | 0, _ => exact h0
  | 1, _ => exact h1
  | 2, _ => exact h2

end Go.Proofs.Ytmkbcfiechoebaa

namespace Go.Proofs.Ytmkbcfiechoebaa
open Go.RowKit Go.Deep
set_option linter.unusedVariables false

attribute [local go_sem] Oper.semAt_some

theorem opOf_cases {sg : ByteArray} {op : Bool → Bool → Bool} (ho : opOf sg = some op) : (((sg.toList == [38]) = true) ∧ op = fun a b => a && b) ∨ (((sg.toList == [38]) = false) ∧ ((sg.toList == [124]) = true) ∧ op = fun a b => a || b) ∨ (((sg.toList == [38]) = false) ∧ ((sg.toList == [124]) = false) ∧ op = fun a b => a == b) := by
  unfold opOf at ho
  by_cases h1 : (sg.toList == [38]) = true
  · rw [if_pos h1] at ho
    injection ho with ho
    exact .inl ⟨h1, ho.symm⟩
  rw [if_neg h1] at ho
  by_cases h2 : (sg.toList == [124]) = true
  · rw [if_pos h2] at ho
    injection ho with ho
    exact .inr (.inl ⟨by simpa using h1, h2, ho.symm⟩)
  rw [if_neg h2] at ho
  by_cases h3 : (sg.toList == [61]) = true
  · rw [if_pos h3] at ho
    injection ho with ho
    exact .inr (.inr ⟨by simpa using h1, by simpa using h2, ho.symm⟩)
  rw [if_neg h3] at ho
  cases ho

set_option maxRecDepth 100000 in
set_option maxHeartbeats 16000000 in
theorem specBddTwo_any (sg : ByteArray) (va ra vb rb : Int) (ao bo : Option Addr) (n cap n2 cap2 : Nat) (na nb : List Nd) (w : World) (hN : Nds w ao n cap na) (h64 : ∀ q ∈ na, I64N q) (hr : I64 ra) (hN2 : Nds w bo n2 cap2 nb) (h642 : ∀ q ∈ nb, I64N q) (hr2 : I64 rb) (hnl : n ≤ 4194304) (hnl2 : n2 ≤ 4194304) :
    Calls Try.prog 24 #[.string sg, .agg #[.int .i64 va, .slice ao n cap, .int .i64 ra], .agg #[.int .i64 vb, .slice bo n2 cap2, .int .i64 rb]] w (TwoPost (ansOf (twoB sg va na ra vb nb rb) va (twoT (twoOp sg) va na ra nb rb)) (twoB sg va na ra vb nb rb) w) := by
  have hmf : ∀ (fn : Fn) (first cap : Array Value) (w : World), (Instr.makeFunc fn first cap).run Try.prog w = .ok (.func fn first cap) w := fun _ _ _ _ => rfl
  obtain ⟨W1, hW1⟩ : ∃ W1, W1 = ((w.alloc (.cells #[.int .i64 va, .slice ao n cap, .int .i64 ra] 28)).alloc (.cells #[.int .i64 vb, .slice bo n2 cap2, .int .i64 rb] 28)).alloc (.cells #[.int .i64 0, .slice none 0 0, .int .i64 0] 28) := ⟨_, rfl⟩
  have HB1 : Hid (Below w.heap.size w W1) := by rw [hW1]; exact belNext (belNext (belOne _ _) (belOne _ _)) (belOne _ _)
  have HK := hideN (show BlkD W1 w.heap.size (.int .i64 va) (.slice ao n cap) (.int .i64 ra) by rw [hW1]; exact ((BlkD.new _ _ _ _).below (belOne _ _)).below (belOne _ _))
  have HJ : Hid (BlkD W1 (w.heap.size + 1) (.int .i64 vb) (.slice bo n2 cap2) (.int .i64 rb)) := by
    have h := (BlkD.new (w.alloc (.cells #[.int .i64 va, .slice ao n cap, .int .i64 ra] 28)) (.int .i64 vb) (.slice bo n2 cap2) (.int .i64 rb)).below (belOne _ (.cells #[.int .i64 0, .slice none 0 0, .int .i64 0] 28))
    rw [World.size_alloc, ← hW1] at h
    exact h
  have HQ : Hid (BlkD W1 (w.heap.size + 1 + 1) (.int .i64 0) (.slice none 0 0) (.int .i64 0)) := by
    have h := BlkD.new ((w.alloc (.cells #[.int .i64 va, .slice ao n cap, .int .i64 ra] 28)).alloc (.cells #[.int .i64 vb, .slice bo n2 cap2, .int .i64 rb] 28)) (.int .i64 0) (.slice none 0 0) (.int .i64 0)
    rw [World.size_alloc, World.size_alloc, ← hW1] at h
    exact h
  have HOK := hideN (specBddOk_any va ra ao n cap na W1 (hN.below HB1.out) h64 hr hnl)
  have HOK2 := hideN (fun V (hV : Below w.heap.size w V) => specBddOk_any vb rb bo n2 cap2 nb V (hN2.below hV) h642 hr2 hnl2)
  have HN := hideN (fun V (hV : Below w.heap.size w V) => hN.below hV)
  have HN2 := hideN (fun V (hV : Below w.heap.size w V) => hN2.below hV)
  have HLEN := hideN hN.len
  have HLEN2 := hideN hN2.len
  have HW1 := hideN hW1
  have c0 := HK.out.c0
  have c1 := HK.out.c1
  have c2 := HK.out.c2
  have c3 := HK.out.lt
  clear hN hW1 h64 hr hN2 h642 hr2
  cases hbd : bddB va na ra with
  | false =>
    have HZ : Hid (twoB sg va na ra vb nb rb = false) := by show _ = _; unfold twoB; rw [hbd]; rfl
    rw [hbd] at HOK
    rw [HZ.out]
    clear hbd
    go_enter Try.func24, Try.ntmps24
    go_wp2_with fail
    rw [← HW1.out]
    refine HOK.out.mono ?_
    rintro e w1 ⟨rfl, hb⟩
    have HB := hideN (belNext HB1.out hb)
    have HQ1 := hideN (HQ.out.below hb)
    have m0 := HQ1.out.c0
    have m1 := HQ1.out.c1
    have m2 := HQ1.out.c2
    have m3 := HQ1.out.f 0
    have m4 := HQ1.out.f 1
    have m5 := HQ1.out.f 2
    have m6 := HQ1.out.lt
    clear hb c0 c1 c2 c3
    have HQ2 := hideN (HQ1.out.set (.int .i64 0) (.slice none 0 0) (.int .i64 0))
    have HBE := hideN (set3_below HB.out (show w.heap.size ≤ w.heap.size + 1 + 1 by omega) (.int .i64 0) (.slice none 0 0) (.int .i64 0))
    go_wp2
    have u0 := HQ2.out.c0
    have u1 := HQ2.out.c1
    have u2 := HQ2.out.c2
    unfold set3 at u0 u1 u2
    exact bodyPost_ret (v := .tuple #[.agg #[.int .i64 0, .slice none 0 0, .int .i64 0], .bool false]) (by simp [results, Try.results24, go_sem, u0, u1, u2]) rfl ⟨none, 0, 0, rfl, rfl, World.ownsRow_nil _ _ _ _, HBE.out⟩
  | true =>
  obtain ⟨vars, rfl, h6, hn64, hok, hr0, hr1⟩ := bdd_split hbd
  have hn : n ≤ 64 := by rw [← HLEN.out]; exact hn64
  have hr1n : ra < 2 + (n : Int) := by rw [← HLEN.out]; exact hr1
  have HOKN : Hid (∀ i, i < n → nodeB (vars : Int) na i = true) := fun i hi => hok i (by have := HLEN.out; omega)
  rw [hbd] at HOK
  have HBD := hideN hbd
  clear hbd hok hn64 hr1
  cases hbd2 : bddB vb nb rb with
  | false =>
    have HZ : Hid (twoB sg (vars : Int) na ra vb nb rb = false) := by show _ = _; unfold twoB; rw [HBD.out, hbd2]; rfl
    rw [hbd2] at HOK2
    rw [HZ.out]
    clear hbd2
    go_enter Try.func24, Try.ntmps24
    go_wp2_with fail
    rw [← HW1.out]
    refine HOK.out.mono ?_
    rintro e w0 ⟨rfl, hb0⟩
    have HB0 := hideN (belNext HB1.out hb0)
    have HJ0 := hideN (HJ.out.below hb0)
    have HQ0 := hideN (HQ.out.below hb0)
    clear hb0 c0 c1 c2 c3
    have c0 := HJ0.out.c0
    have c1 := HJ0.out.c1
    have c2 := HJ0.out.c2
    have c3 := HJ0.out.lt
    go_wp2_with fail
    refine (HOK2.out w0 HB0.out).mono ?_
    rintro e w1 ⟨rfl, hb⟩
    have HB := hideN (belNext HB0.out hb)
    have HQ1 := hideN (HQ0.out.below hb)
    have m0 := HQ1.out.c0
    have m1 := HQ1.out.c1
    have m2 := HQ1.out.c2
    have m3 := HQ1.out.f 0
    have m4 := HQ1.out.f 1
    have m5 := HQ1.out.f 2
    have m6 := HQ1.out.lt
    clear hb c0 c1 c2 c3
    have HQ2 := hideN (HQ1.out.set (.int .i64 0) (.slice none 0 0) (.int .i64 0))
    have HBE := hideN (set3_below HB.out (show w.heap.size ≤ w.heap.size + 1 + 1 by omega) (.int .i64 0) (.slice none 0 0) (.int .i64 0))
    go_wp2
    have u0 := HQ2.out.c0
    have u1 := HQ2.out.c1
    have u2 := HQ2.out.c2
    unfold set3 at u0 u1 u2
    exact bodyPost_ret (v := .tuple #[.agg #[.int .i64 0, .slice none 0 0, .int .i64 0], .bool false]) (by simp [results, Try.results24, go_sem, u0, u1, u2]) rfl ⟨none, 0, 0, rfl, rfl, World.ownsRow_nil _ _ _ _, HBE.out⟩
  | true =>
  obtain ⟨vars2, rfl, h62, hn642, hok2, hr02, hr12⟩ := bdd_split hbd2
  have hn2 : n2 ≤ 64 := by rw [← HLEN2.out]; exact hn642
  have hr1n2 : rb < 2 + (n2 : Int) := by rw [← HLEN2.out]; exact hr12
  have HOKN2 : Hid (∀ i, i < n2 → nodeB (vars2 : Int) nb i = true) := fun i hi => hok2 i (by have := HLEN2.out; omega)
  rw [hbd2] at HOK2
  have HBD2 := hideN hbd2
  clear hbd2 hok2 hn642 hr12
  by_cases hv : vars = vars2
  case neg =>
    have HZ : Hid (twoB sg (vars : Int) na ra (vars2 : Int) nb rb = false) := by
      show _ = _
      unfold twoB
      rw [decide_eq_false (by omega : ¬ (vars : Int) = (vars2 : Int))]
      simp
    have de : decide ((vars : Int) = (vars2 : Int)) = false := by simp; omega
    have de2 : ((vars : Int) == (vars2 : Int)) = false := by simp; omega
    have de3 : ((vars : Int) != (vars2 : Int)) = true := by simp; omega
    rw [HZ.out]
    go_enter Try.func24, Try.ntmps24
    go_wp2_with fail
    rw [← HW1.out]
    refine HOK.out.mono ?_
    rintro e w0 ⟨rfl, hb0⟩
    have HB0 := hideN (belNext HB1.out hb0)
    have HK0 := hideN (HK.out.below hb0)
    have HJ0 := hideN (HJ.out.below hb0)
    have HQ0 := hideN (HQ.out.below hb0)
    clear hb0 c0 c1 c2 c3
    have c0 := HJ0.out.c0
    have c1 := HJ0.out.c1
    have c2 := HJ0.out.c2
    have c3 := HJ0.out.lt
    go_wp2_with fail
    refine (HOK2.out w0 HB0.out).mono ?_
    rintro e w1 ⟨rfl, hb⟩
    have HB := hideN (belNext HB0.out hb)
    have HK1 := hideN (HK0.out.below hb)
    have HJ1 := hideN (HJ0.out.below hb)
    have HQ1 := hideN (HQ0.out.below hb)
    clear hb c0 c1 c2 c3
    have c0 := HK1.out.c0
    have c3 := HK1.out.lt
    have d0 := HJ1.out.c0
    have d3 := HJ1.out.lt
    have m0 := HQ1.out.c0
    have m1 := HQ1.out.c1
    have m2 := HQ1.out.c2
    have m3 := HQ1.out.f 0
    have m4 := HQ1.out.f 1
    have m5 := HQ1.out.f 2
    have m6 := HQ1.out.lt
    have HQ2 := hideN (HQ1.out.set (.int .i64 0) (.slice none 0 0) (.int .i64 0))
    have HBE := hideN (set3_below HB.out (show w.heap.size ≤ w.heap.size + 1 + 1 by omega) (.int .i64 0) (.slice none 0 0) (.int .i64 0))
    go_wp2
    have u0 := HQ2.out.c0
    have u1 := HQ2.out.c1
    have u2 := HQ2.out.c2
    unfold set3 at u0 u1 u2
    exact bodyPost_ret (v := .tuple #[.agg #[.int .i64 0, .slice none 0 0, .int .i64 0], .bool false]) (by simp [results, Try.results24, go_sem, u0, u1, u2]) rfl ⟨none, 0, 0, rfl, rfl, World.ownsRow_nil _ _ _ _, HBE.out⟩
  subst hv
  have de : decide ((vars : Int) = (vars : Int)) = true := by simp
  have de2 : ((vars : Int) == (vars : Int)) = true := by simp
  have de3 : ((vars : Int) != (vars : Int)) = false := by simp
  cases hop : opOf sg with
  | none =>
    have HZ : Hid (twoB sg (vars : Int) na ra (vars : Int) nb rb = false) := by show _ = _; unfold twoB; rw [hop]; simp
    have HIS : Hid ((opOf sg).isSome = false) := by show _ = _; rw [hop]; rfl
    rw [HZ.out]
    clear hop
    go_enter Try.func24, Try.ntmps24
    go_wp2_with fail
    rw [← HW1.out]
    refine HOK.out.mono ?_
    rintro e w0 ⟨rfl, hb0⟩
    have HB0 := hideN (belNext HB1.out hb0)
    have HK0 := hideN (HK.out.below hb0)
    have HJ0 := hideN (HJ.out.below hb0)
    have HQ0 := hideN (HQ.out.below hb0)
    clear hb0 c0 c1 c2 c3
    have c0 := HJ0.out.c0
    have c1 := HJ0.out.c1
    have c2 := HJ0.out.c2
    have c3 := HJ0.out.lt
    go_wp2_with fail
    refine (HOK2.out w0 HB0.out).mono ?_
    rintro e w1 ⟨rfl, hb⟩
    have HB := hideN (belNext HB0.out hb)
    have HK1 := hideN (HK0.out.below hb)
    have HJ1 := hideN (HJ0.out.below hb)
    have HQ1 := hideN (HQ0.out.below hb)
    clear hb c0 c1 c2 c3
    have c0 := HK1.out.c0
    have c3 := HK1.out.lt
    have d0 := HJ1.out.c0
    have d3 := HJ1.out.lt
    go_wp2_with fail
    refine (has3_any sg w1.heap.size _ (by simp only [World.cell?, World.alloc_heap_new]; rfl) (by simp only [World.cell?, World.alloc_heap_new]; rfl) (by simp only [World.cell?, World.alloc_heap_new]; rfl)).mono ?_
    rintro e w2 ⟨he, hww⟩
    rw [HIS.out] at he
    subst he
    have hb : Below w1.heap.size w1 w2 := by rw [hww]; exact belOne _ _
    clear hww c0 c3 d0 d3
    have HB2 := hideN (belNext HB.out hb)
    have HQ2 := hideN (HQ1.out.below hb)
    have m0 := HQ2.out.c0
    have m1 := HQ2.out.c1
    have m2 := HQ2.out.c2
    have m3 := HQ2.out.f 0
    have m4 := HQ2.out.f 1
    have m5 := HQ2.out.f 2
    have m6 := HQ2.out.lt
    clear hb
    have HQ3 := hideN (HQ2.out.set (.int .i64 0) (.slice none 0 0) (.int .i64 0))
    have HBE := hideN (set3_below HB2.out (show w.heap.size ≤ w.heap.size + 1 + 1 by omega) (.int .i64 0) (.slice none 0 0) (.int .i64 0))
    go_wp2
    have u0 := HQ3.out.c0
    have u1 := HQ3.out.c1
    have u2 := HQ3.out.c2
    unfold set3 at u0 u1 u2
    exact bodyPost_ret (v := .tuple #[.agg #[.int .i64 0, .slice none 0 0, .int .i64 0], .bool false]) (by simp [results, Try.results24, go_sem, u0, u1, u2]) rfl ⟨none, 0, 0, rfl, rfl, World.ownsRow_nil _ _ _ _, HBE.out⟩
  | some op =>
  have HZ : Hid (twoB sg (vars : Int) na ra (vars : Int) nb rb = true) := by show _ = _; unfold twoB; rw [hop, HBD.out, HBD2.out]; simp
  have HTO : Hid (twoOp sg = op) := by show _ = _; unfold twoOp; rw [hop]; rfl
  have HIS : Hid ((opOf sg).isSome = true) := by show _ = _; rw [hop]; rfl
  have HSG : Hid ((((sg.toList == [38]) = true) ∧ op = fun a b => a && b) ∨ (((sg.toList == [38]) = false) ∧ ((sg.toList == [124]) = true) ∧ op = fun a b => a || b) ∨ (((sg.toList == [38]) = false) ∧ ((sg.toList == [124]) = false) ∧ op = fun a b => a == b)) := opOf_cases hop
  rw [HZ.out, HTO.out]
  clear hop
  obtain ⟨M, hM⟩ : ∃ M, 2 ^ vars = M := ⟨_, rfl⟩
  have HM := hideN hM.symm
  have hM64 : M ≤ 64 := by rw [← hM]; show _ ≤ 2 ^ 6; exact Nat.pow_le_pow_right (by decide) h6
  have HTL : Hid ((twoT op (vars : Int) na ra nb rb).length = M) := by show _ = _; unfold twoT; rw [tabF_length, Int.toNat_natCast, hM]
  have HNT : Hid (∀ i, i < M → (twoT op (vars : Int) na ra nb rb).getD i false = op ((tabF vars (isN na ra) M).getD i false) ((tabF vars (isN nb rb) M).getD i false)) := fun i hi => by
    unfold twoT
    rw [Int.toNat_natCast, hM, tabF_get _ _ _ _ hi, tabF_get _ _ _ _ hi, tabF_get _ _ _ _ hi]
  have HANS : Hid (∀ t, ansOf true (vars : Int) t = ((vars : Int), (drawB vars 0 t []).1, (drawB vars 0 t []).2)) := fun t => by unfold ansOf; rw [if_pos rfl, Int.toNat_natCast]
  go_enter Try.func24, Try.ntmps24
  go_wp2_with fail
  rw [← HW1.out]
  refine HOK.out.mono ?_
  rintro e w0 ⟨rfl, hb0⟩
  have HB0 := hideN (belNext HB1.out hb0)
  have HK0 := hideN (HK.out.below hb0)
  have HJ0 := hideN (HJ.out.below hb0)
  have HQ0 := hideN (HQ.out.below hb0)
  clear hb0 c0 c1 c2 c3
  have c0 := HJ0.out.c0
  have c1 := HJ0.out.c1
  have c2 := HJ0.out.c2
  have c3 := HJ0.out.lt
  go_wp2_with fail
  refine (HOK2.out w0 HB0.out).mono ?_
  rintro e w1 ⟨rfl, hb⟩
  have HB := hideN (belNext HB0.out hb)
  have HK1 := hideN (HK0.out.below hb)
  have HJ1 := hideN (HJ0.out.below hb)
  have HQ1 := hideN (HQ0.out.below hb)
  clear hb c0 c1 c2 c3
  have c0 := HK1.out.c0
  have c3 := HK1.out.lt
  have d0 := HJ1.out.c0
  have d3 := HJ1.out.lt
  go_wp2_with fail
  refine (has3_any sg w1.heap.size _ (by simp only [World.cell?, World.alloc_heap_new]; rfl) (by simp only [World.cell?, World.alloc_heap_new]; rfl) (by simp only [World.cell?, World.alloc_heap_new]; rfl)).mono ?_
  rintro e w1a ⟨he, hww⟩
  rw [HIS.out] at he
  subst he
  have hb : Below w1.heap.size w1 w1a := by rw [hww]; exact belOne _ _
  clear hww c0 c3 d0 d3
  have HBa := hideN (belNext HB.out hb)
  have HKa := hideN (HK1.out.below hb)
  have HJa := hideN (HJ1.out.below hb)
  have HQa := hideN (HQ1.out.below hb)
  have HW1S : Hid (w.heap.size + 1 + 1 < w1a.heap.size) := HQa.out.lt
  clear hb
  have c0 := HKa.out.c0
  have c1 := HKa.out.c1
  have c2 := HKa.out.c2
  have c3 := HKa.out.lt
  go_wp2_with fail
  refine (l11Table_any vars n cap ra ao na w1a h6 (HN.out _ HBa.out) hn HOKN.out hr0 hr1n).mono ?_
  rintro e w2 ⟨b, k2, rfl, hrow, hb2⟩
  rw [hM] at hrow ⊢
  have HROW := hideN hrow
  have HB2 := hideN (belNext HBa.out hb2)
  have HK2 := hideN (HKa.out.below hb2)
  have HJ2 := hideN (HJa.out.below hb2)
  have HQ2 := hideN (HQa.out.below hb2)
  have HBB : Hid (w1a.heap.size ≤ b ∧ b < w2.heap.size) := World.ownsRow.lt hrow b rfl
  clear hb2 c0 c1 c2 c3 hrow
  have c0 := HJ2.out.c0
  have c1 := HJ2.out.c1
  have c2 := HJ2.out.c2
  have c3 := HJ2.out.lt
  go_wp2_with fail
  refine (l11Table_any vars n2 cap2 rb bo nb w2 h6 (HN2.out _ HB2.out) hn2 HOKN2.out hr02 hr1n2).mono ?_
  rintro e w3 ⟨b2, k3, rfl, hrow2, hb3⟩
  rw [hM] at hrow2 ⊢
  have HB3 := hideN (belNext HB2.out hb3)
  have HK3 := hideN (HK2.out.below hb3)
  have HQ3 := hideN (HQ2.out.below hb3)
  have hb2B := World.ownsRow.lt hrow2 b2 rfl
  have HNE : Hid (b ≠ b2) := by have := HBB.out; show _ ≠ _; omega
  obtain ⟨hMc, f0, hf0, hv0⟩ := own_row (row_below HROW.out hb3)
  obtain ⟨hMc2, g0, hg0, hu0⟩ := own_row hrow2
  clear hb3 c0 c1 c2 c3 hrow2 HROW
  generalize twoT op (vars : Int) na ra nb rb = T at *
  generalize tabF vars (isN na ra) M = t at *
  generalize tabF vars (isN nb rb) M = t2 at *
  have HA := hideN (HANS.out T)
  have HF0 := hideN hf0
  have HV0 := hideN hv0
  have HG0 := hideN hg0
  have HU0 := hideN hu0
  have HM2 := hideN hMc
  clear HANS hM hf0 hv0 hg0 hu0
  go_wp2_with fail
  go_loopw [10] (fun i wr => ∃ k : Nat, k ≤ M ∧ i = .int .i64 (k : Int) ∧ Hid (∃ f, wr.rowIs b 4 k2 f ∧ ∀ i, i < M → f i = .bool (if i < k then op (t.getD i false) (t2.getD i false) else t.getD i false)) ∧ Hid (Chg (· = b) w3 wr)) (fun i _ => M - (intOf i).toNat)
  case atStart => exact ⟨0, Nat.zero_le _, rfl, ⟨f0, HF0.out, fun i hi => by rw [if_neg (by omega)]; exact HV0.out i hi⟩, Chg.refl _ _⟩
  case round =>
    obtain ⟨k, hk, rfl, hf, hc⟩ := hrel
    by_cases hlt : k < M
    · obtain ⟨f, hrow, hv⟩ := hf.out
      have hg := HG0.out.of_block (hc.out.block b2 HG0.out.lt (fun e => HNE.out e.symm))
      have hx := hrow.cell (i := k) (by omega)
      rw [hv k hlt, if_neg (by omega)] at hx
      have hy := hg.cell (i := k) (by omega)
      rw [HU0.out k hlt] at hy
      have hfz := hrow.frozen k
      have hbl := hrow.lt
      have HV := hideN hv
      have HROW := hideN hrow
      have HST : Hid (∀ y, y = op (t.getD k false) (t2.getD k false) → ∃ f, (wr.setCell ⟨b, k, none⟩ (.bool y)).rowIs b 4 k2 f ∧ ∀ i, i < M → f i = .bool (if i < k + 1 then op (t.getD i false) (t2.getD i false) else t.getD i false)) := fun y hy => by
        refine ⟨_, hrow.set k (.bool y), fun i hi => ?_⟩
        by_cases e : i = k
        · subst e; rw [if_pos rfl, if_pos (by omega), hy]
        · rw [if_neg e, hv i hi]
          by_cases h2 : i < k
          · rw [if_pos h2, if_pos (by omega)]
          · rw [if_neg h2, if_neg (by omega)]
      clear hrow hv hf hg HROW HV
      generalize hp : t.getD k false = p at *
      generalize hq : t2.getD k false = q at *
      have HST2 := hideN HST.out
      clear hp hq HST
      rcases HSG.out with ⟨s1, ho⟩ | ⟨s1, s2, ho⟩ | ⟨s1, s2, ho⟩
      · cases p with
        | true =>
          go_wp2
          go_roundw
          case rel => exact ⟨k + 1, by omega, by go_num, HST2.out q (by rw [ho]; rfl), hc.out.trans (Chg.set _ _ _ _)⟩
          case measure => simp [intOf]; omega
        | false =>
          go_wp2
          go_roundw
          case rel => exact ⟨k + 1, by omega, by go_num, HST2.out false (by rw [ho]; rfl), hc.out.trans (Chg.set _ _ _ _)⟩
          case measure => simp [intOf]; omega
      · cases p with
        | true =>
          go_wp2
          go_roundw
          case rel => exact ⟨k + 1, by omega, by go_num, HST2.out true (by rw [ho]; rfl), hc.out.trans (Chg.set _ _ _ _)⟩
          case measure => simp [intOf]; omega
        | false =>
          go_wp2
          go_roundw
          case rel => exact ⟨k + 1, by omega, by go_num, HST2.out q (by rw [ho]; rfl), hc.out.trans (Chg.set _ _ _ _)⟩
          case measure => simp [intOf]; omega
      · go_wp2_with fail
        refine region_U (fin := 12) (S := fun V => V.cell? ⟨b, k, none⟩ = some (.bool p) ∧ V.cell? ⟨b2, k, none⟩ = some (.bool q)) (by kernel_rfl) ⟨hx, hy⟩ (fun hHeld => ?_)
        clear hHeld
        obtain ⟨pq, hpq⟩ : ∃ pq, (p == q) = pq := ⟨_, rfl⟩
        refine takeU (i := 0) (v := .slice (some ⟨b, 0, none⟩) M k2) rfl (by rfl) (by kernel_rfl) (by kernel_rfl) (by kernel_rfl) (by kernel_rfl) (by kernel_rfl) (fun _ _ _ h => h) (Or.inl ⟨by rfl, fun w hS => by obtain ⟨hx, hy⟩ := hS; go_simp⟩) ⟨hx, hy⟩ ?_
        simp only [List.getElem_toArray, List.getElem_cons_zero, Act.put, List.setIfInBounds_toArray, List.set_cons_zero, List.set_cons_succ]
        refine takeU (i := 1) (v := .int .i64 (k : Int)) rfl (by rfl) (by kernel_rfl) (by kernel_rfl) (by kernel_rfl) (by kernel_rfl) (by kernel_rfl) (fun _ _ _ h => h) (Or.inl ⟨by rfl, fun w hS => by obtain ⟨hx, hy⟩ := hS; go_simp⟩) ⟨hx, hy⟩ ?_
        simp only [List.getElem_toArray, List.getElem_cons_zero, List.getElem_cons_succ, Act.put, List.setIfInBounds_toArray, List.set_cons_zero, List.set_cons_succ]
        refine takeU (i := 2) (v := .slice (some ⟨b, 0, none⟩) M k2) rfl (by rfl) (by kernel_rfl) (by kernel_rfl) (by kernel_rfl) (by kernel_rfl) (by kernel_rfl) (fun _ _ _ h => h) (Or.inl ⟨by rfl, fun w hS => by obtain ⟨hx, hy⟩ := hS; go_simp⟩) ⟨hx, hy⟩ ?_
        simp only [List.getElem_toArray, List.getElem_cons_zero, List.getElem_cons_succ, Act.put, List.setIfInBounds_toArray, List.set_cons_zero, List.set_cons_succ]
        refine takeU (i := 3) (v := .int .i64 (k : Int)) rfl (by rfl) (by kernel_rfl) (by kernel_rfl) (by kernel_rfl) (by kernel_rfl) (by kernel_rfl) (fun _ _ _ h => h) (Or.inl ⟨by rfl, fun w hS => by obtain ⟨hx, hy⟩ := hS; go_simp⟩) ⟨hx, hy⟩ ?_
        simp only [List.getElem_toArray, List.getElem_cons_zero, List.getElem_cons_succ, Act.put, List.setIfInBounds_toArray, List.set_cons_zero, List.set_cons_succ]
        refine takeU (i := 4) (v := .pointer (some ⟨b, k, none⟩)) rfl (by rfl) (by kernel_rfl) (by kernel_rfl) (by kernel_rfl) (by kernel_rfl) (by kernel_rfl) (fun _ _ _ h => h) (Or.inl ⟨by rfl, fun w hS => by obtain ⟨hx, hy⟩ := hS; go_simp⟩) ⟨hx, hy⟩ ?_
        simp only [List.getElem_toArray, List.getElem_cons_zero, List.getElem_cons_succ, Act.put, List.setIfInBounds_toArray, List.set_cons_zero, List.set_cons_succ]
        refine takeU (i := 5) (v := .bool p) rfl (by rfl) (by kernel_rfl) (by kernel_rfl) (by kernel_rfl) (by kernel_rfl) (by kernel_rfl) (fun _ _ _ h => h) (Or.inl ⟨by rfl, fun w hS => by obtain ⟨hx, hy⟩ := hS; go_simp⟩) ⟨hx, hy⟩ ?_
        simp only [List.getElem_toArray, List.getElem_cons_zero, List.getElem_cons_succ, Act.put, List.setIfInBounds_toArray, List.set_cons_zero, List.set_cons_succ]
        refine takeU (i := 6) (v := .slice (some ⟨b2, 0, none⟩) M k3) rfl (by rfl) (by kernel_rfl) (by kernel_rfl) (by kernel_rfl) (by kernel_rfl) (by kernel_rfl) (fun _ _ _ h => h) (Or.inl ⟨by rfl, fun w hS => by obtain ⟨hx, hy⟩ := hS; go_simp⟩) ⟨hx, hy⟩ ?_
        simp only [List.getElem_toArray, List.getElem_cons_zero, List.getElem_cons_succ, Act.put, List.setIfInBounds_toArray, List.set_cons_zero, List.set_cons_succ]
        refine takeU (i := 7) (v := .int .i64 (k : Int)) rfl (by rfl) (by kernel_rfl) (by kernel_rfl) (by kernel_rfl) (by kernel_rfl) (by kernel_rfl) (fun _ _ _ h => h) (Or.inl ⟨by rfl, fun w hS => by obtain ⟨hx, hy⟩ := hS; go_simp⟩) ⟨hx, hy⟩ ?_
        simp only [List.getElem_toArray, List.getElem_cons_zero, List.getElem_cons_succ, Act.put, List.setIfInBounds_toArray, List.set_cons_zero, List.set_cons_succ]
        refine takeU (i := 8) (v := .pointer (some ⟨b2, k, none⟩)) rfl (by rfl) (by kernel_rfl) (by kernel_rfl) (by kernel_rfl) (by kernel_rfl) (by kernel_rfl) (fun _ _ _ h => h) (Or.inl ⟨by rfl, fun w hS => by obtain ⟨hx, hy⟩ := hS; go_simp⟩) ⟨hx, hy⟩ ?_
        simp only [List.getElem_toArray, List.getElem_cons_zero, List.getElem_cons_succ, Act.put, List.setIfInBounds_toArray, List.set_cons_zero, List.set_cons_succ]
        refine takeU (i := 9) (v := .bool q) rfl (by rfl) (by kernel_rfl) (by kernel_rfl) (by kernel_rfl) (by kernel_rfl) (by kernel_rfl) (fun _ _ _ h => h) (Or.inl ⟨by rfl, fun w hS => by obtain ⟨hx, hy⟩ := hS; go_simp⟩) ⟨hx, hy⟩ ?_
        simp only [List.getElem_toArray, List.getElem_cons_zero, List.getElem_cons_succ, Act.put, List.setIfInBounds_toArray, List.set_cons_zero, List.set_cons_succ]
        refine takeU (i := 10) (v := .bool pq) rfl (by rfl) (by kernel_rfl) (by kernel_rfl) (by kernel_rfl) (by kernel_rfl) (by kernel_rfl) (fun _ _ _ h => h) (Or.inl ⟨by rfl, fun w hS => by obtain ⟨hx, hy⟩ := hS; go_simp⟩) ⟨hx, hy⟩ ?_
        simp only [List.getElem_toArray, List.getElem_cons_zero, List.getElem_cons_succ, Act.put, List.setIfInBounds_toArray, List.set_cons_zero, List.set_cons_succ]
        refine oneU (i := 11) (by kernel_rfl) rfl (by rfl) ?_
        simp only [List.getElem_toArray, List.getElem_cons_zero, List.getElem_cons_succ]
        go_simp
        refine oneU (i := 12) (by kernel_rfl) rfl (by rfl) ?_
        simp only [List.getElem_toArray, List.getElem_cons_zero, List.getElem_cons_succ]
        go_simp
        refine doneU (by kernel_rfl) ?_ _
        go_wp2
        go_roundw
        case rel => exact ⟨k + 1, by omega, by go_num, HST2.out pq (by rw [ho, ← hpq]), hc.out.trans ((Chg.set _ _ _ _).trans (Chg.of_below (below_drewN (Below.refl _ _) 1)))⟩
        case measure => simp [intOf]; omega
    · obtain rfl : k = M := by omega
      obtain ⟨f, hrow, hv⟩ := hf.out
      have HTAB : Hid (Tab wr b 0 k2 T) := by
        refine ⟨by rw [HTL.out]; exact HM2.out, fun i hi => ?_⟩
        rw [HTL.out] at hi
        rw [Nat.zero_add, hrow.cell (by have := HM2.out; omega), hv i hi, if_pos hi, HNT.out i hi]
      have hbl := hrow.lt
      have HKR : Hid (BlkD wr w.heap.size (.int .i64 (vars : Int)) (.slice ao n cap) (.int .i64 ra)) := (hc.out.block _ HK3.out.lt (by have := HW1S.out; have := HBB.out; omega)).trans HK3.out
      have HQR : Hid (BlkD wr (w.heap.size + 1 + 1) (.int .i64 0) (.slice none 0 0) (.int .i64 0)) := (hc.out.block _ HQ3.out.lt (by have := HW1S.out; have := HBB.out; omega)).trans HQ3.out
      have HBR : Hid (Below w.heap.size w wr) := Chg.below HB3.out HB3.out.size hc.out (fun q e => by have := HW1S.out; have := HBB.out; omega)
      have c0 := HKR.out.c0
      have c3 := HKR.out.lt
      clear hrow hv hf hc
      go_wp2_with fail
      refine (l11Of_any vars b 0 k2 k T wr h6 HTL.out HM.out HTAB.out hbl).mono ?_
      rintro e w5 ⟨aa, n5, c5, rfl, hn5, hr5, hb5⟩
      have HQ5 := hideN (HQR.out.below hb5)
      have HB5 := hideN (belNext HBR.out hb5)
      have HL5 := hideN hn5
      generalize (drawB vars 0 T []).2 = x at *
      generalize (drawB vars 0 T []).1 = l at *
      have m0 := HQ5.out.c0
      have m1 := HQ5.out.c1
      have m2 := HQ5.out.c2
      have m3 := HQ5.out.f 0
      have m4 := HQ5.out.f 1
      have m5 := HQ5.out.f 2
      have m6 := HQ5.out.lt
      have HQ6 := hideN (HQ5.out.set (.int .i64 (vars : Int)) (.slice aa n5 c5) (.int .i64 x))
      have HR6 : Hid ((set3 w5 (w.heap.size + 1 + 1) (.int .i64 (vars : Int)) (.slice aa n5 c5) (.int .i64 x)).ownsRow w.heap.size 33 3 (.slice aa n5 c5) n5 (ndV l)) :=
        row_base (row_of_block hr5 (fun k e => set3_other _ _ _ (by have := (World.ownsRow.lt hr5 k e).1; have := HQR.out.lt; omega))) HBR.out.size
      have HBE := hideN (set3_below HB5.out (show w.heap.size ≤ w.heap.size + 1 + 1 by omega) (.int .i64 (vars : Int)) (.slice aa n5 c5) (.int .i64 x))
      clear hr5 hb5 hn5 c0 c3
      go_wp2
      have u0 := HQ6.out.c0
      have u1 := HQ6.out.c1
      have u2 := HQ6.out.c2
      unfold set3 at u0 u1 u2
      exact bodyPost_ret (v := .tuple #[.agg #[.int .i64 (vars : Int), .slice aa n5 c5, .int .i64 x], .bool true]) (by simp [results, Try.results24, go_sem, u0, u1, u2]) rfl (by unfold TwoPost; rw [HA.out]; exact ⟨aa, n5, c5, rfl, HL5.out, HR6.out, HBE.out⟩)

end Go.Proofs.Ytmkbcfiechoebaa

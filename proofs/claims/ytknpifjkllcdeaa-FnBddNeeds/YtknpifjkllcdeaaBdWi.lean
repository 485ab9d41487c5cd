/-
  A copy of a way (slices.Clone), and what is said with a variable told.
  A diagram with a variable told: BddWith, of the program.
-/
import Derived.Test.YtknpifjkllcdeaaBdJ
import Derived.Test.YtknpifjkllcdeaaBdNp
import Derived.Lib.Walk
import Derived.Lib.SliceRun
namespace Go.Proofs.Ytknpifjkllcdeaa
open Go.RowKit Go.Deep Go.Lib
set_option linter.unusedVariables false

attribute [local go_sem] Oper.semAt_some

set_option maxHeartbeats 2000000 in
set_option maxRecDepth 100000 in
theorem cloneB_any (b off n c : Nat) (ws : List Bool) (w : World) (hws : ws.length = n) (hbig : n ≤ 1048576) (hT : Tab w b off c ws) :
    Calls Try.prog 117 #[.slice (some ⟨b, off, none⟩) n c] w fun e w' => ∃ v', e = .returned v' ∧ w'.ownsRow w.heap.size 4 1 v' n (ws.map Value.bool) ∧ v' ≠ .slice none 0 0 ∧ Below w.heap.size w w' := by
  obtain ⟨i0, hi, hz0, hz1, hz2⟩ := info_parts info_bool
  have q22 : ∀ (w : World) (a : Option Addr) (n c n' c' : Nat), (binOp .eql 22 (.slice a n c) (.slice none n' c')).run Try.prog w = .ok (.bool a.isNone) w := fun w a n c n' c' => Lib.run_eql_slice_nil w _ _ a n c n' c' Try.underlying22
  have A : Hid (Tab w b off c ws) := hT
  have HWS := hideN hws
  clear hT hws
  go_enter Try.func117, Try.ntmps117
  go_wp2_with (at_builtin; refine wpList_append_own _ rfl _ _ 22 rfl w.heap.size 4 i0 (.bool false) 1 1 Try.underlying22 hi hz0 hz1 hz2 rfl (by decide) _ _ _ rfl (World.ownsRow_made w #[] 0 (Nat.le_refl _) (Nat.zero_le _) rfl) ⟨b, off, none⟩ n c (ws.map Value.bool) rfl ?qc1 ?qc2 ?qc3 ?qc4 ?qc5 ?qc6 ?_)
  case qc1 => simp [HWS.out]
  case qc2 =>
    intro j u hj
    have hjn : j < ws.length := by
      have := (List.getElem?_eq_some_iff.1 hj).1
      simpa using this
    rw [Addr.add_lit]
    refine Lib.cell?_alloc_some _ ?_
    rw [A.out.cell j hjn]
    have e : (ws.map Value.bool)[j]? = some (Value.bool (ws.getD j false)) := by simp [List.getD, List.getElem?_eq_getElem hjn]
    rw [e] at hj
    exact hj
  case qc3 => intro u hu; obtain ⟨x, _, rfl⟩ := List.mem_map.1 hu; rfl
  case qc4 => unfold maxLen; omega
  case qc5 => omega
  case qc6 => simp
  intro v' w1 hown hgrow hnil
  go_wp2
  go_ret
  refine ⟨v', rfl, by simpa using hown, ?_, ?_⟩
  · exact hnil
  · exact ((Below.refl _ w).alloc (Nat.le_refl _) _).grown hgrow (by simp) (by intro k hk; simp [Value.ownBlock] at hk; omega)

theorem set_get (ws : List Bool) (v : Nat) (so : Bool) (i : Nat) (h : i < ws.length) : (ws.set v so).getD i false = if i = v then so else ws.getD i false := by
  by_cases e : i = v
  · subst e; simp [List.getD, h]
  · rw [if_neg e]
    simp [List.getD, Ne.symm e]

set_option maxHeartbeats 4000000 in
set_option maxRecDepth 100000 in
/-- What is said with a variable told, whatever a way says of it. -/
theorem withSays_any (vars v Bs Bv Bi Bw off cap : Nat) (so : Bool) (fv : Value) (g : List Bool → Bool) (ws : List Bool) (W : World) (h6 : vars ≤ 1048576) (hv : v < vars) (hs : W.cell? ⟨Bs, 0, none⟩ = some (.bool so)) (hv0 : W.cell? ⟨Bv, 0, none⟩ = some (.int .i64 (v : Int))) (hi : W.cell? ⟨Bi, 0, none⟩ = some fv) (sg : SaysF W fv vars g) (hws : ws.length = vars) (hT : Tab W Bw off cap ws) :
    Calls Try.prog 116 #[.slice (some ⟨Bw, off, none⟩) vars cap, .pointer (some ⟨Bs, 0, none⟩), .pointer (some ⟨Bv, 0, none⟩), .pointer (some ⟨Bi, 0, none⟩)] W fun e w' => e = .returned (.bool (g (ws.set v so))) ∧ Below W.heap.size W w' := by
  have SG := hideN sg
  have HS := hideN hs
  have HV := hideN hv0
  have HI := hideN hi
  have HWS := hideN hws
  obtain ⟨F, binds, rfl, he, hc⟩ := sg
  have HCL := hideN (cloneB_any Bw off vars cap ws W hws h6 hT)
  clear hc hT hs hv0 hi
  go_enter Try.func116, Try.ntmps116
  go_wp2_with fail
  refine HCL.out.mono ?_
  rintro e w1 ⟨v', rfl, hrow, hnn, hb1⟩
  obtain ⟨b, c, hv', hWb⟩ : ∃ b c, v' = .slice (some ⟨b, 0, none⟩) vars c ∧ W.heap.size ≤ b := by
    rcases hrow.2 with ⟨h5, h0⟩ | ⟨g', c', cur, h5, hg, _⟩
    · omega
    · exact ⟨g', c', h5, hg⟩
  subst hv'
  obtain ⟨hMc, f, hf, hfv⟩ := own_row hrow
  have q0 := (hb1.cell (cell_lt HS.out)).trans HS.out
  have q1 := (hb1.cell (cell_lt HV.out)).trans HV.out
  have q2 := (hb1.cell (cell_lt HI.out)).trans HI.out
  have q3 := hf.cell (i := v) (by omega)
  rw [hfv v hv] at q3
  have q4 := hf.frozen v
  have q5 := hf.lt
  have hlt := cell_lt HI.out
  have hb2 : Below W.heap.size W (w1.setCell ⟨b, v, none⟩ (.bool so)) := hb1.setCell (p := ⟨b, v, none⟩) hWb _
  have HB2 := hideN hb2
  have q6 := (hb2.cell hlt).trans HI.out
  have HT2 : Hid (Tab (w1.setCell ⟨b, v, none⟩ (.bool so)) b 0 c (ws.set v so)) := by
    have hrs := hf.set v (.bool so)
    refine ⟨by rw [List.length_set, hws]; exact hMc, fun i hi => ?_⟩
    rw [List.length_set, hws] at hi
    rw [Nat.zero_add, hrs.cell (by omega), set_get ws v so i (by omega)]
    by_cases e : i = v
    · rw [if_pos e, if_pos e]
    · rw [if_neg e, if_neg e, hfv i hi]
  have HCC := hideN ((SG.out.below hb2))
  clear hb1 hrow hnn hf hfv hb2 SG
  go_wp2_with fail
  obtain ⟨F2, b2, he2, hen2, hc2⟩ := HCC.out
  injection he2 with e1 e2 e3
  injection e1 with e1
  subst e1 e3
  refine (hc2 _ (Below.refl _ _) b 0 c (ws.set v so) (by rw [List.length_set]; exact HWS.out) HT2.out).mono ?_
  rintro e w3 ⟨rfl, hb3⟩
  have HB3 := hideN (belNext HB2.out hb3)
  clear hb3 hc2 hen2 q0 q1 q2 q3 q4 q5 q6
  go_wp2_with fail
  go_ret
  exact ⟨rfl, HB3.out⟩

set_option maxHeartbeats 4000000 in
set_option maxRecDepth 100000 in
theorem with_any (vars v : Nat) (so : Bool) (fv : Value) (g : List Bool → Bool) (W : World) (h6 : vars ≤ 1048576) (hv : v < vars) (sg : SaysF W fv vars g) :
    Calls Try.prog 97 #[fv, .int .i64 (v : Int), .bool so] W fun e w' => ∃ fv', e = .returned fv' ∧ SaysF w' fv' vars (fun ws => g (ws.set v so)) ∧ Below W.heap.size W w' := by
  have SG := hideN sg
  have hmf : ∀ (fn : Fn) (first cap : Array Value) (w : World), (Instr.makeFunc fn first cap).run Try.prog w = .ok (.func fn first cap) w := fun _ _ _ _ => rfl
  obtain ⟨F, bl, rfl, _, _⟩ := sg
  go_enter Try.func97, Try.ntmps97
  go_wp2_with fail
  have hb1 := belOne W (.cells #[.func (.func F) #[] bl] 87)
  have hb2 := belOne (W.alloc (.cells #[.func (.func F) #[] bl] 87)) (.cells #[.int .i64 (v : Int)] 3)
  have hb3 := belOne ((W.alloc (.cells #[.func (.func F) #[] bl] 87)).alloc (.cells #[.int .i64 (v : Int)] 3)) (.cells #[.bool so] 4)
  have k1 := World.alloc_heap_new W (.cells #[.func (.func F) #[] bl] 87)
  have k2 := World.alloc_heap_new (W.alloc (.cells #[.func (.func F) #[] bl] 87)) (.cells #[.int .i64 (v : Int)] 3)
  have k3 := World.alloc_heap_new ((W.alloc (.cells #[.func (.func F) #[] bl] 87)).alloc (.cells #[.int .i64 (v : Int)] 3)) (.cells #[.bool so] 4)
  rw [World.size_alloc] at k2
  rw [World.size_alloc, World.size_alloc] at k3
  have hbl := belNext (belNext hb1 hb2) hb3
  have q1 := (hb3.block W.heap.size (by simp; omega)).trans ((hb2.block W.heap.size (by simp)).trans k1)
  have q2 := (hb3.block (W.heap.size + 1) (by simp)).trans k2
  generalize (((W.alloc (.cells #[.func (.func F) #[] bl] 87)).alloc (.cells #[.int .i64 (v : Int)] 3)).alloc (.cells #[.bool so] 4)) = W3 at *
  refine bodyPost_ret (v := .func (.func 116) #[] #[.pointer (some ⟨W.heap.size + 1 + 1, 0, none⟩), .pointer (some ⟨W.heap.size + 1, 0, none⟩), .pointer (some ⟨W.heap.size, 0, none⟩)]) (by simp [results, Try.results97, go_sem]) rfl ⟨_, rfl, ⟨_, _, rfl, enters_of Try.func116 (by kernel_rfl) rfl, fun U hU Bw off cap ws hws hT => ?_⟩, hbl⟩
  have r1 := (hU.block _ (Array.getElem?_eq_some_iff.1 q1).1).trans q1
  have r2 := (hU.block _ (Array.getElem?_eq_some_iff.1 q2).1).trans q2
  have r3 := (hU.block _ (Array.getElem?_eq_some_iff.1 k3).1).trans k3
  exact withSays_any vars v (W.heap.size + 1 + 1) (W.heap.size + 1) W.heap.size Bw off cap so _ g ws U h6 hv (by simp [World.cell?, r3]) (by simp [World.cell?, r2]) (by simp [World.cell?, r1]) (SG.out.below (belNext hbl hU)) hws hT

end Go.Proofs.Ytknpifjkllcdeaa

namespace Go.Proofs.Ytknpifjkllcdeaa
open Go.RowKit Go.Deep
set_option linter.unusedVariables false

attribute [local go_sem] Oper.semAt_some
attribute [local go_sem] run_store_func

/-- What a diagram says with a variable told, as a table; and whether there is such an answer. -/
def withT (vi : Int) (ns : List Nd) (root v : Int) (so : Bool) : List Bool := tabF vi.toNat (fun ws => isN ns root (ws.set v.toNat so)) (2 ^ vi.toNat)
def varB (vi v : Int) : Bool := decide (0 ≤ v) && decide (v < vi)

theorem withT_le {vi : Int} {ns : List Nd} {root v : Int} {so : Bool} : (ansOf (bddB vi ns root && varB vi v) vi (withT vi ns root v so)).2.1.length ≤ 64 := by
  cases h : bddB vi ns root with
  | false => simp [ansOf]
  | true =>
    obtain ⟨vars, rfl, h6, -⟩ := bdd_split h
    have h2 : 2 ^ vars ≤ 64 := by show _ ≤ 2 ^ 6; exact Nat.pow_le_pow_right (by decide) h6
    have h3 := drawB_len vars 0 (withT (vars : Int) ns root v so) []
    unfold ansOf
    split
    · rw [Int.toNat_natCast]
      simp at h3 ⊢
      omega
    · simp

set_option maxRecDepth 100000 in
set_option maxHeartbeats 8000000 in
theorem implBddWith_any (vi root v : Int) (so : Bool) (ao : Option Addr) (n cap : Nat) (ns : List Nd) (w : World) (hN : Nds w ao n cap ns) (h64 : ∀ q ∈ ns, I64N q) (hr : I64 root) :
    Calls Try.prog 50 #[.agg #[.int .i64 vi, .slice ao n cap, .int .i64 root], .int .i64 v, .bool so] w (AnsPost (ansOf (bddB vi ns root && varB vi v) vi (withT vi ns root v so)) w) := by
  have hmf : ∀ (fn : Fn) (first cap : Array Value) (w : World), (Instr.makeFunc fn first cap).run Try.prog w = .ok (.func fn first cap) w := fun _ _ _ _ => rfl
  obtain ⟨W1, hW1⟩ : ∃ W1, W1 = (w.alloc (.cells #[.int .i64 vi, .slice ao n cap, .int .i64 root] 25)).alloc (.cells #[.int .i64 0, .slice none 0 0, .int .i64 0] 25) := ⟨_, rfl⟩
  have HB1 : Hid (Below w.heap.size w W1) := by rw [hW1]; exact belNext (belOne _ _) (belOne _ _)
  have HK := hideN (show BlkD W1 w.heap.size (.int .i64 vi) (.slice ao n cap) (.int .i64 root) by rw [hW1]; exact (BlkD.new _ _ _ _).below (belOne _ _))
  have HQ : Hid (BlkD W1 (w.heap.size + 1) (.int .i64 0) (.slice none 0 0) (.int .i64 0)) := by
    have h := BlkD.new (w.alloc (.cells #[.int .i64 vi, .slice ao n cap, .int .i64 root] 25)) (.int .i64 0) (.slice none 0 0) (.int .i64 0)
    rw [World.size_alloc, ← hW1] at h
    exact h
  have HOK := hideN (implBddOk_any vi root ao n cap ns W1 (hN.below HB1.out) h64 hr)
  have HN := hideN (fun V (hV : Below w.heap.size w V) => hN.below hV)
  have HLEN := hideN hN.len
  have HW1 := hideN hW1
  have c0 := HK.out.c0
  have c1 := HK.out.c1
  have c2 := HK.out.c2
  have c3 := HK.out.lt
  clear hN hW1 h64 hr
  cases hbd : bddB vi ns root with
  | false =>
    rw [hbd] at HOK
    rw [Bool.false_and]
    clear hbd
    go_enter Try.func50, Try.ntmps50
    go_wp2_with fail
    rw [← HW1.out]
    refine HOK.out.mono ?_
    rintro e w1 ⟨rfl, hb⟩
    have HB := hideN (belNext HB1.out hb)
    have HQ1 := hideN (HQ.out.below hb)
    have m0 := HQ1.out.c0
    have m1 := HQ1.out.c1
    have m2 := HQ1.out.c2
    have m3 := HQ1.out.f 0
    have m4 := HQ1.out.f 1
    have m5 := HQ1.out.f 2
    have m6 := HQ1.out.lt
    clear hb c0 c1 c2 c3
    have HQ2 := hideN (HQ1.out.set (.int .i64 0) (.slice none 0 0) (.int .i64 0))
    have HBE := hideN (set3_below HB.out (show w.heap.size ≤ w.heap.size + 1 by omega) (.int .i64 0) (.slice none 0 0) (.int .i64 0))
    go_wp2
    have u0 := HQ2.out.c0
    have u1 := HQ2.out.c1
    have u2 := HQ2.out.c2
    unfold set3 at u0 u1 u2
    exact bodyPost_ret (v := .agg #[.int .i64 0, .slice none 0 0, .int .i64 0]) (by simp [results, Try.results50, go_sem, u0, u1, u2]) rfl ⟨none, 0, 0, rfl, rfl, World.ownsRow_nil _ _ _ _, HBE.out⟩
  | true =>
  obtain ⟨vars, rfl, h6, hn64, hok, hr0, hr1⟩ := bdd_split hbd
  have hn : n ≤ 64 := by rw [← HLEN.out]; exact hn64
  have hr1n : root < 2 + (n : Int) := by rw [← HLEN.out]; exact hr1
  have HOKN : Hid (∀ i, i < n → nodeB (vars : Int) ns i = true) := fun i hi => hok i (by have := HLEN.out; omega)
  rw [hbd] at HOK
  rw [Bool.true_and]
  clear hbd hok hn64 hr1
  cases hvb : varB (vars : Int) v with
  | false =>
    have HV0 : Hid ((decide (0 ≤ v) && decide (v < (vars : Int))) = false) := hvb
    clear hvb
    go_enter Try.func50, Try.ntmps50
    go_wp2_with fail
    rw [← HW1.out]
    refine HOK.out.mono ?_
    rintro e w0 ⟨rfl, hb0⟩
    have HB0 := hideN (belNext HB1.out hb0)
    have HK0 := hideN (HK.out.below hb0)
    have HQ0 := hideN (HQ.out.below hb0)
    clear hb0 c0 c1 c2 c3
    have c0 := HK0.out.c0
    have c1 := HK0.out.c1
    have c2 := HK0.out.c2
    have c3 := HK0.out.lt
    go_wp2_with fail
    refine (isVariable_any (vars : Int) root ao n cap v w0).mono ?_
    rintro e w1 ⟨he, hb⟩
    rw [HV0.out] at he
    subst he
    have HB := hideN (belNext HB0.out hb)
    have HQ1 := hideN (HQ0.out.below hb)
    have m0 := HQ1.out.c0
    have m1 := HQ1.out.c1
    have m2 := HQ1.out.c2
    have m3 := HQ1.out.f 0
    have m4 := HQ1.out.f 1
    have m5 := HQ1.out.f 2
    have m6 := HQ1.out.lt
    clear hb c0 c1 c2 c3
    have HQ2 := hideN (HQ1.out.set (.int .i64 0) (.slice none 0 0) (.int .i64 0))
    have HBE := hideN (set3_below HB.out (show w.heap.size ≤ w.heap.size + 1 by omega) (.int .i64 0) (.slice none 0 0) (.int .i64 0))
    go_wp2
    have u0 := HQ2.out.c0
    have u1 := HQ2.out.c1
    have u2 := HQ2.out.c2
    unfold set3 at u0 u1 u2
    exact bodyPost_ret (v := .agg #[.int .i64 0, .slice none 0 0, .int .i64 0]) (by simp [results, Try.results50, go_sem, u0, u1, u2]) rfl ⟨none, 0, 0, rfl, rfl, World.ownsRow_nil _ _ _ _, HBE.out⟩
  | true =>
  obtain ⟨hv0, hvv⟩ : 0 ≤ v ∧ v < (vars : Int) := by unfold varB at hvb; simpa using hvb
  obtain ⟨u, rfl⟩ : ∃ u : Nat, v = (u : Int) := ⟨v.toNat, by omega⟩
  have huv : u < vars := by omega
  have HV0 : Hid ((decide (0 ≤ (u : Int)) && decide ((u : Int) < (vars : Int))) = true) := hvb
  clear hvb hv0 hvv
  have HNT : Hid (withT (vars : Int) ns root (u : Int) so = tabF vars (fun ws => isN ns root (ws.set u so)) (2 ^ vars)) := by show _ = _; unfold withT; rw [Int.toNat_natCast, Int.toNat_natCast]
  have HANS : Hid (∀ t, ansOf true (vars : Int) t = ((vars : Int), (drawB vars 0 t []).1, (drawB vars 0 t []).2)) := fun t => by unfold ansOf; rw [if_pos rfl, Int.toNat_natCast]
  go_enter Try.func50, Try.ntmps50
  go_wp2_with fail
  rw [← HW1.out]
  refine HOK.out.mono ?_
  rintro e w0 ⟨rfl, hb0⟩
  have HB0 := hideN (belNext HB1.out hb0)
  have HK0 := hideN (HK.out.below hb0)
  have HQ0 := hideN (HQ.out.below hb0)
  clear hb0 c0 c1 c2 c3
  have c0 := HK0.out.c0
  have c1 := HK0.out.c1
  have c2 := HK0.out.c2
  have c3 := HK0.out.lt
  go_wp2_with fail
  refine (isVariable_any (vars : Int) root ao n cap (u : Int) w0).mono ?_
  rintro e w1 ⟨he, hb⟩
  rw [HV0.out] at he
  subst he
  have HB := hideN (belNext HB0.out hb)
  have HK1 := hideN (HK0.out.below hb)
  have HQ1 := hideN (HQ0.out.below hb)
  clear hb c0 c1 c2 c3
  go_wp2_with fail
  have HCL := hideN (fun V (hV : Below w1.heap.size w1 V) => HK1.out.cells hV)
  obtain ⟨z0, z1, z2⟩ := HCL.out w1.drew (below_drewN (Below.refl _ _) 1)
  refine region_U (fin := 10) (S := fun V => V.cell? ⟨w.heap.size, 0, none⟩ = some (.int .i64 (vars : Int)) ∧ V.cell? ⟨w.heap.size, 1, none⟩ = some (.slice ao n cap) ∧ V.cell? ⟨w.heap.size, 2, none⟩ = some (.int .i64 root)) (by kernel_rfl) ⟨z0, z1, z2⟩ (fun hHeld => ?_)
  clear hHeld
  refine takeU (i := 0) (v := .pointer (some ⟨w.heap.size, 0, none⟩)) rfl (by rfl) (by kernel_rfl) (by kernel_rfl) (by kernel_rfl) (by kernel_rfl) (by kernel_rfl) (fun _ _ _ h => h) (Or.inl ⟨by rfl, fun w hS => by obtain ⟨z0, z1, z2⟩ := hS; go_simp⟩) ⟨z0, z1, z2⟩ ?_
  simp only [List.getElem_toArray, List.getElem_cons_zero, Act.put, List.setIfInBounds_toArray, List.set_cons_zero, List.set_cons_succ]
  refine takeU (i := 1) (v := .int .i64 (vars : Int)) rfl (by rfl) (by kernel_rfl) (by kernel_rfl) (by kernel_rfl) (by kernel_rfl) (by kernel_rfl) (fun _ _ _ h => h) (Or.inl ⟨by rfl, fun w hS => by obtain ⟨z0, z1, z2⟩ := hS; go_simp⟩) ⟨z0, z1, z2⟩ ?_
  simp only [List.getElem_toArray, List.getElem_cons_zero, List.getElem_cons_succ, Act.put, List.setIfInBounds_toArray, List.set_cons_zero, List.set_cons_succ]
  refine takeU (i := 2) (v := .agg #[.int .i64 (vars : Int), .slice ao n cap, .int .i64 root]) rfl (by rfl) (by kernel_rfl) (by kernel_rfl) (by kernel_rfl) (by kernel_rfl) (by kernel_rfl) (fun _ _ _ h => h) (Or.inl ⟨by rfl, fun w hS => by obtain ⟨z0, z1, z2⟩ := hS; go_simp⟩) ⟨z0, z1, z2⟩ ?_
  simp only [List.getElem_toArray, List.getElem_cons_zero, List.getElem_cons_succ, Act.put, List.setIfInBounds_toArray, List.set_cons_zero, List.set_cons_succ]
  refine takeU (i := 4) (v := .int .i64 (u : Int)) rfl (by rfl) (by kernel_rfl) (by kernel_rfl) (by kernel_rfl) (by kernel_rfl) (by kernel_rfl) (fun _ _ _ h => h) (Or.inl ⟨by rfl, fun w hS => by obtain ⟨z0, z1, z2⟩ := hS; go_simp⟩) ⟨z0, z1, z2⟩ ?_
  simp only [List.getElem_toArray, List.getElem_cons_zero, List.getElem_cons_succ, Act.put, List.setIfInBounds_toArray, List.set_cons_zero, List.set_cons_succ]
  refine takeU (i := 5) (v := .bool so) rfl (by rfl) (by kernel_rfl) (by kernel_rfl) (by kernel_rfl) (by kernel_rfl) (by kernel_rfl) (fun _ _ _ h => h) (Or.inl ⟨by rfl, fun w hS => by obtain ⟨z0, z1, z2⟩ := hS; go_simp⟩) ⟨z0, z1, z2⟩ ?_
  simp only [List.getElem_toArray, List.getElem_cons_zero, List.getElem_cons_succ, Act.put, List.setIfInBounds_toArray, List.set_cons_zero, List.set_cons_succ]
  refine takeU (i := 7) (v := .pointer (some ⟨w.heap.size, 0, none⟩)) rfl (by rfl) (by kernel_rfl) (by kernel_rfl) (by kernel_rfl) (by kernel_rfl) (by kernel_rfl) (fun _ _ _ h => h) (Or.inl ⟨by rfl, fun w hS => by obtain ⟨z0, z1, z2⟩ := hS; go_simp⟩) ⟨z0, z1, z2⟩ ?_
  simp only [List.getElem_toArray, List.getElem_cons_zero, List.getElem_cons_succ, Act.put, List.setIfInBounds_toArray, List.set_cons_zero, List.set_cons_succ]
  refine takeU (i := 8) (v := .int .i64 (vars : Int)) rfl (by rfl) (by kernel_rfl) (by kernel_rfl) (by kernel_rfl) (by kernel_rfl) (by kernel_rfl) (fun _ _ _ h => h) (Or.inl ⟨by rfl, fun w hS => by obtain ⟨z0, z1, z2⟩ := hS; go_simp⟩) ⟨z0, z1, z2⟩ ?_
  simp only [List.getElem_toArray, List.getElem_cons_zero, List.getElem_cons_succ, Act.put, List.setIfInBounds_toArray, List.set_cons_zero, List.set_cons_succ]
  refine oneU (i := 3) (by kernel_rfl) rfl (by rfl) ?_
  simp only [List.getElem_toArray, List.getElem_cons_zero, List.getElem_cons_succ]
  go_simp
  have hbd := below_drewN (Below.refl w1.heap.size w1) 1
  refine (saysOf_any vars n cap root ao ns w1.drew (HN.out _ (belNext HB.out hbd)) hn HOKN.out hr0 hr1n).mono ?_
  rintro e w2 ⟨fv, rfl, hs, hb2⟩
  have hb12 : Below w1.heap.size w1 w2 := belNext hbd hb2
  have HB2 := hideN (belNext HB.out hb12)
  have HQ2 := hideN (HQ1.out.below hb12)
  have HS := hideN hs
  have HB12 := hideN hb12
  refine ⟨HCL.out w2 hb12, ?_⟩
  obtain ⟨F, binds, rfl, -⟩ := hs
  clear hbd hb2 hb12 z0 z1 z2
  obtain ⟨z0, z1, z2⟩ := HCL.out w2 HB12.out
  refine oneU (i := 6) (by kernel_rfl) rfl (by rfl) ?_
  simp only [List.getElem_toArray, List.getElem_cons_zero, List.getElem_cons_succ]
  go_simp
  refine (with_any vars u so _ (isN ns root) w2 (by omega) huv HS.out).mono ?_
  rintro e W3 ⟨fv2, rfl, hs2, hb23⟩
  have HB3 := hideN (belNext HB2.out hb23)
  have HQ3 := hideN (HQ2.out.below hb23)
  have HS2 := hideN hs2
  have HB13 := hideN (belNext HB12.out hb23)
  refine ⟨HCL.out W3 HB13.out, ?_⟩
  obtain ⟨F2, binds2, rfl, -⟩ := hs2
  clear hb23 z0 z1 z2
  obtain ⟨z0, z1, z2⟩ := HCL.out W3 HB13.out
  refine oneU (i := 9) (by kernel_rfl) rfl (by rfl) ?_
  simp only [List.getElem_toArray, List.getElem_cons_zero, List.getElem_cons_succ]
  go_simp
  refine (table_any vars _ _ W3 h6 HS2.out).mono ?_
  rintro e w4 hp
  obtain ⟨b4, k4, rfl, ht4, hlt4, hb4⟩ := tab_of_post hp
  have hb34 : Below W3.heap.size W3 w4 := hb4
  have HB4 := hideN (belNext HB3.out hb34)
  have HQ4 := hideN (HQ3.out.below hb34)
  have HT4 := hideN ht4
  refine ⟨HCL.out w4 (belNext HB13.out hb34), ?_⟩
  clear hb4 hb34 z0 z1 z2 hp ht4
  rw [← HNT.out] at HT4
  have HTL : Hid ((withT (vars : Int) ns root (u : Int) so).length = 2 ^ vars) := by show _ = _; rw [HNT.out, tabF_length]
  generalize withT (vars : Int) ns root (u : Int) so = T at *
  have HA := hideN (HANS.out T)
  clear HANS
  obtain ⟨M, hM⟩ : ∃ M, 2 ^ vars = M := ⟨_, rfl⟩
  rw [hM] at HTL ⊢
  have HM := hideN hM.symm
  clear hM
  refine oneU (i := 10) (by kernel_rfl) rfl (by rfl) ?_
  simp only [List.getElem_toArray, List.getElem_cons_zero, List.getElem_cons_succ]
  go_simp
  refine (drawnOf_any vars b4 0 k4 M T w4 h6 HTL.out HM.out HT4.out hlt4).mono ?_
  rintro e w5 ⟨aa, n5, c5, rfl, hn5, hr5, hb5⟩
  have HQ5 := hideN (HQ4.out.below hb5)
  have HB5 := hideN (belNext HB4.out hb5)
  have HL5 := hideN hn5
  generalize (drawB vars 0 T []).2 = x at *
  generalize (drawB vars 0 T []).1 = l at *
  have m0 := HQ5.out.c0
  have m1 := HQ5.out.c1
  have m2 := HQ5.out.c2
  have m3 := HQ5.out.f 0
  have m4 := HQ5.out.f 1
  have m5 := HQ5.out.f 2
  have m6 := HQ5.out.lt
  have HQ6 := hideN (HQ5.out.set (.int .i64 (vars : Int)) (.slice aa n5 c5) (.int .i64 x))
  have HR6 : Hid ((set3 w5 (w.heap.size + 1) (.int .i64 (vars : Int)) (.slice aa n5 c5) (.int .i64 x)).ownsRow w.heap.size 50 3 (.slice aa n5 c5) n5 (ndV l)) :=
    row_base (row_of_block hr5 (fun k e => set3_other _ _ _ (by have := (World.ownsRow.lt hr5 k e).1; have := HQ4.out.lt; omega))) HB4.out.size
  have HBE := hideN (set3_below HB5.out (show w.heap.size ≤ w.heap.size + 1 by omega) (.int .i64 (vars : Int)) (.slice aa n5 c5) (.int .i64 x))
  clear hr5 hb5 hn5
  refine oneU (i := 11) (by kernel_rfl) rfl (by rfl) ?_
  simp only [List.getElem_toArray, List.getElem_cons_zero, List.getElem_cons_succ]
  go_simp
  refine doneU (by kernel_rfl) ?_ _
  go_wp2
  have u0 := HQ6.out.c0
  have u1 := HQ6.out.c1
  have u2 := HQ6.out.c2
  unfold set3 at u0 u1 u2
  exact bodyPost_ret (v := .agg #[.int .i64 (vars : Int), .slice aa n5 c5, .int .i64 x]) (by simp [results, Try.results50, go_sem, u0, u1, u2]) rfl (by unfold AnsPost; rw [HA.out]; exact ⟨aa, n5, c5, rfl, HL5.out, HR6.out, HBE.out⟩)

end Go.Proofs.Ytknpifjkllcdeaa

/-
  A copy of a way (slices.Clone), and what is said with a variable told.
-/
import Derived.Test.YtknpifjkllcdeaaBdJ
import Derived.Test.YtknpifjkllcdeaaBdNp
import Derived.Lib.Walk
import Derived.Lib.SliceRun
namespace Go.Proofs.Ytknpifjkllcdeaa
open Go.RowKit Go.Deep Go.Lib
set_option linter.unusedVariables false

attribute [local go_sem] Oper.semAt_some

set_option maxHeartbeats 2000000 in
set_option maxRecDepth 100000 in
theorem cloneB_any (b off n c : Nat) (ws : List Bool) (w : World) (hws : ws.length = n) (hbig : n ≤ 1048576) (hT : Tab w b off c ws) :
    Calls Try.prog 117 #[.slice (some ⟨b, off, none⟩) n c] w fun e w' => ∃ v', e = .returned v' ∧ w'.ownsRow w.heap.size 4 1 v' n (ws.map Value.bool) ∧ v' ≠ .slice none 0 0 ∧ Below w.heap.size w w' := by
  obtain ⟨i0, hi, hz0, hz1, hz2⟩ := info_parts info_bool
  have q22 : ∀ (w : World) (a : Option Addr) (n c n' c' : Nat), (binOp .eql 22 (.slice a n c) (.slice none n' c')).run Try.prog w = .ok (.bool a.isNone) w := fun w a n c n' c' => Lib.run_eql_slice_nil w _ _ a n c n' c' Try.underlying22
  have A : Hid (Tab w b off c ws) := hT
  have HWS := hideN hws
  clear hT hws
  go_enter Try.func117, Try.ntmps117
  go_wp2_with (at_builtin; refine wpList_append_own _ rfl _ _ 22 rfl w.heap.size 4 i0 (.bool false) 1 1 Try.underlying22 hi hz0 hz1 hz2 rfl (by decide) _ _ _ rfl (World.ownsRow_made w #[] 0 (Nat.le_refl _) (Nat.zero_le _) rfl) ⟨b, off, none⟩ n c (ws.map Value.bool) rfl ?qc1 ?qc2 ?qc3 ?qc4 ?qc5 ?qc6 ?_)
  case qc1 => simp [HWS.out]
  case qc2 =>
    intro j u hj
    have hjn : j < ws.length := by
      have := (List.getElem?_eq_some_iff.1 hj).1
      simpa using this
    rw [Addr.add_lit]
    refine Lib.cell?_alloc_some _ ?_
    rw [A.out.cell j hjn]
    have e : (ws.map Value.bool)[j]? = some (Value.bool (ws.getD j false)) := by simp [List.getD, List.getElem?_eq_getElem hjn]
    rw [e] at hj
    exact hj
  case qc3 => intro u hu; obtain ⟨x, _, rfl⟩ := List.mem_map.1 hu; rfl
  case qc4 => unfold maxLen; omega
  case qc5 => omega
  case qc6 => simp
  intro v' w1 hown hgrow hnil
  go_wp2
  go_ret
  refine ⟨v', rfl, by simpa using hown, ?_, ?_⟩
  · exact hnil
  · exact ((Below.refl _ w).alloc (Nat.le_refl _) _).grown hgrow (by simp) (by intro k hk; simp [Value.ownBlock] at hk; omega)

theorem set_get (ws : List Bool) (v : Nat) (so : Bool) (i : Nat) (h : i < ws.length) : (ws.set v so).getD i false = if i = v then so else ws.getD i false := by
  by_cases e : i = v
  · subst e; simp [List.getD, h]
  · rw [if_neg e]
    simp [List.getD, Ne.symm e]

set_option maxHeartbeats 4000000 in
set_option maxRecDepth 100000 in
/-- What is said with a variable told, whatever a way says of it. -/
theorem withSays_any (vars v Bs Bv Bi Bw off cap : Nat) (so : Bool) (fv : Value) (g : List Bool → Bool) (ws : List Bool) (W : World) (h6 : vars ≤ 1048576) (hv : v < vars) (hs : W.cell? ⟨Bs, 0, none⟩ = some (.bool so)) (hv0 : W.cell? ⟨Bv, 0, none⟩ = some (.int .i64 (v : Int))) (hi : W.cell? ⟨Bi, 0, none⟩ = some fv) (sg : SaysF W fv vars g) (hws : ws.length = vars) (hT : Tab W Bw off cap ws) :
    Calls Try.prog 116 #[.slice (some ⟨Bw, off, none⟩) vars cap, .pointer (some ⟨Bs, 0, none⟩), .pointer (some ⟨Bv, 0, none⟩), .pointer (some ⟨Bi, 0, none⟩)] W fun e w' => e = .returned (.bool (g (ws.set v so))) ∧ Below W.heap.size W w' := by
  have SG := hideN sg
  have HS := hideN hs
  have HV := hideN hv0
  have HI := hideN hi
  have HWS := hideN hws
  obtain ⟨F, binds, rfl, he, hc⟩ := sg
  have HCL := hideN (cloneB_any Bw off vars cap ws W hws h6 hT)
  clear hc hT hs hv0 hi
  go_enter Try.func116, Try.ntmps116
  go_wp2_with fail
  refine HCL.out.mono ?_
  rintro e w1 ⟨v', rfl, hrow, hnn, hb1⟩
  obtain ⟨b, c, hv', hWb⟩ : ∃ b c, v' = .slice (some ⟨b, 0, none⟩) vars c ∧ W.heap.size ≤ b := by
    rcases hrow.2 with ⟨h5, h0⟩ | ⟨g', c', cur, h5, hg, _⟩
    · omega
    · exact ⟨g', c', h5, hg⟩
  subst hv'
  obtain ⟨hMc, f, hf, hfv⟩ := own_row hrow
  have q0 := (hb1.cell (cell_lt HS.out)).trans HS.out
  have q1 := (hb1.cell (cell_lt HV.out)).trans HV.out
  have q2 := (hb1.cell (cell_lt HI.out)).trans HI.out
  have q3 := hf.cell (i := v) (by omega)
  rw [hfv v hv] at q3
  have q4 := hf.frozen v
  have q5 := hf.lt
  have hlt := cell_lt HI.out
  have hb2 : Below W.heap.size W (w1.setCell ⟨b, v, none⟩ (.bool so)) := hb1.setCell (p := ⟨b, v, none⟩) hWb _
  have HB2 := hideN hb2
  have q6 := (hb2.cell hlt).trans HI.out
  have HT2 : Hid (Tab (w1.setCell ⟨b, v, none⟩ (.bool so)) b 0 c (ws.set v so)) := by
    have hrs := hf.set v (.bool so)
    refine ⟨by rw [List.length_set, hws]; exact hMc, fun i hi => ?_⟩
    rw [List.length_set, hws] at hi
    rw [Nat.zero_add, hrs.cell (by omega), set_get ws v so i (by omega)]
    by_cases e : i = v
    · rw [if_pos e, if_pos e]
    · rw [if_neg e, if_neg e, hfv i hi]
  have HCC := hideN ((SG.out.below hb2))
  clear hb1 hrow hnn hf hfv hb2 SG
  go_wp2_with fail
  obtain ⟨F2, b2, he2, hen2, hc2⟩ := HCC.out
  injection he2 with e1 e2 e3
  injection e1 with e1
  subst e1 e3
  refine (hc2 _ (Below.refl _ _) b 0 c (ws.set v so) (by rw [List.length_set]; exact HWS.out) HT2.out).mono ?_
  rintro e w3 ⟨rfl, hb3⟩
  have HB3 := hideN (belNext HB2.out hb3)
  clear hb3 hc2 hen2 q0 q1 q2 q3 q4 q5 q6
  go_wp2_with fail
  go_ret
  exact ⟨rfl, HB3.out⟩

set_option maxHeartbeats 4000000 in
set_option maxRecDepth 100000 in
theorem with_any (vars v : Nat) (so : Bool) (fv : Value) (g : List Bool → Bool) (W : World) (h6 : vars ≤ 1048576) (hv : v < vars) (sg : SaysF W fv vars g) :
    Calls Try.prog 97 #[fv, .int .i64 (v : Int), .bool so] W fun e w' => ∃ fv', e = .returned fv' ∧ SaysF w' fv' vars (fun ws => g (ws.set v so)) ∧ Below W.heap.size W w' := by
  have SG := hideN sg
  have hmf : ∀ (fn : Fn) (first cap : Array Value) (w : World), (Instr.makeFunc fn first cap).run Try.prog w = .ok (.func fn first cap) w := fun _ _ _ _ => rfl
  obtain ⟨F, bl, rfl, _, _⟩ := sg
  go_enter Try.func97, Try.ntmps97
  go_wp2_with fail
  have hb1 := belOne W (.cells #[.func (.func F) #[] bl] 87)
  have hb2 := belOne (W.alloc (.cells #[.func (.func F) #[] bl] 87)) (.cells #[.int .i64 (v : Int)] 3)
  have hb3 := belOne ((W.alloc (.cells #[.func (.func F) #[] bl] 87)).alloc (.cells #[.int .i64 (v : Int)] 3)) (.cells #[.bool so] 4)
  have k1 := World.alloc_heap_new W (.cells #[.func (.func F) #[] bl] 87)
  have k2 := World.alloc_heap_new (W.alloc (.cells #[.func (.func F) #[] bl] 87)) (.cells #[.int .i64 (v : Int)] 3)
  have k3 := World.alloc_heap_new ((W.alloc (.cells #[.func (.func F) #[] bl] 87)).alloc (.cells #[.int .i64 (v : Int)] 3)) (.cells #[.bool so] 4)
  rw [World.size_alloc] at k2
  rw [World.size_alloc, World.size_alloc] at k3
  have hbl := belNext (belNext hb1 hb2) hb3
  have q1 := (hb3.block W.heap.size (by simp; omega)).trans ((hb2.block W.heap.size (by simp)).trans k1)
  have q2 := (hb3.block (W.heap.size + 1) (by simp)).trans k2
  generalize (((W.alloc (.cells #[.func (.func F) #[] bl] 87)).alloc (.cells #[.int .i64 (v : Int)] 3)).alloc (.cells #[.bool so] 4)) = W3 at *
  refine bodyPost_ret (v := .func (.func 116) #[] #[.pointer (some ⟨W.heap.size + 1 + 1, 0, none⟩), .pointer (some ⟨W.heap.size + 1, 0, none⟩), .pointer (some ⟨W.heap.size, 0, none⟩)]) (by simp [results, Try.results97, go_sem]) rfl ⟨_, rfl, ⟨_, _, rfl, enters_of Try.func116 (by kernel_rfl) rfl, fun U hU Bw off cap ws hws hT => ?_⟩, hbl⟩
  have r1 := (hU.block _ (Array.getElem?_eq_some_iff.1 q1).1).trans q1
  have r2 := (hU.block _ (Array.getElem?_eq_some_iff.1 q2).1).trans q2
  have r3 := (hU.block _ (Array.getElem?_eq_some_iff.1 k3).1).trans k3
  exact withSays_any vars v (W.heap.size + 1 + 1) (W.heap.size + 1) W.heap.size Bw off cap so _ g ws U h6 hv (by simp [World.cell?, r3]) (by simp [World.cell?, r2]) (by simp [World.cell?, r1]) (SG.out.below (belNext hbl hU)) hws hT

end Go.Proofs.Ytknpifjkllcdeaa

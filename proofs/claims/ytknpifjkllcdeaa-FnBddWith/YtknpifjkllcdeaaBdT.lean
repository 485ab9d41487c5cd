/-
  Diagrams: what a diagram says, as a function value, by the program: saysOf.
  Diagrams: what a diagram says, node by node, by the program: toldBy, saysOf.
-/
import Derived.Test.YtknpifjkllcdeaaBdW
import Derived.Test.YtknpifjkllcdeaaBdG
namespace Go.Proofs.Ytknpifjkllcdeaa
open Go.RowKit Go.Deep
set_option linter.unusedVariables false

attribute [local go_sem] Oper.semAt_some

theorem info_says : (Try.prog.info? 87).map (fun i => (i.zero, i.size, i.bytes)) = some (some .nilFunc, 1, 8) := by kernel_rfl

set_option maxHeartbeats 400000 in
theorem saysNever_any (v : Value) (w : World) : Calls Try.prog 107 #[v] w fun e w' => e = .returned (.bool false) ∧ w' = w := by
  go_enter Try.func107, Try.ntmps107
  go_wp2
  go_ret
  exact ⟨rfl, rfl⟩
set_option maxHeartbeats 400000 in
theorem saysAlways_any (v : Value) (w : World) : Calls Try.prog 108 #[v] w fun e w' => e = .returned (.bool true) ∧ w' = w := by
  go_enter Try.func108, Try.ntmps108
  go_wp2
  go_ret
  exact ⟨rfl, rfl⟩

theorem never_says (w : World) (k0 vars : Nat) : SaysG w k0 (.func (.func 107) #[] #[]) vars (fun _ => false) :=
  ⟨_, _, rfl, enters_of Try.func107 (by kernel_rfl) rfl, fun W _ Bw off cap ws _ _ => (saysNever_any _ W).mono fun e w' h => ⟨h.1, by rw [h.2]; exact Below.refl _ _⟩⟩
theorem always_says (w : World) (k0 vars : Nat) : SaysG w k0 (.func (.func 108) #[] #[]) vars (fun _ => true) :=
  ⟨_, _, rfl, enters_of Try.func108 (by kernel_rfl) rfl, fun W _ Bw off cap ws _ _ => (saysAlways_any _ W).mono fun e w' h => ⟨h.1, by rw [h.2]; exact Below.refl _ _⟩⟩

set_option maxRecDepth 100000 in
set_option maxHeartbeats 4000000 in
/-- What a node says of a way. -/
theorem nodeSays_any (vars x Bn Bh Bl Bw off cap : Nat) (y z : Value) (fl fh : Value) (gl gh : List Bool → Bool) (ws : List Bool) (W0 W : World) (hn : W.cell? ⟨Bn, 0, none⟩ = some (.int .i64 (x : Int))) (hh : W.cell? ⟨Bh, 0, none⟩ = some fh) (hl : W.cell? ⟨Bl, 0, none⟩ = some fl)
    (sl : SaysF W fl vars gl) (sh : SaysF W fh vars gh) (hx : x < vars) (hws : ws.length = vars) (hT : Tab W Bw off cap ws) :
    Calls Try.prog 110 #[.slice (some ⟨Bw, off, none⟩) vars cap, .pointer (some ⟨Bn, 0, none⟩), .pointer (some ⟨Bh, 0, none⟩), .pointer (some ⟨Bl, 0, none⟩)] W fun e w' => e = .returned (.bool (if ws.getD x false = true then gh ws else gl ws)) ∧ Below W.heap.size W w' := by
  obtain ⟨Fl, bl, rfl, hel, hcl⟩ := sl
  obtain ⟨Fh, bh, rfl, heh, hch⟩ := sh
  have HL := hideN (hcl W (Below.refl _ _) Bw off cap ws hws hT)
  have HH := hideN (hch W (Below.refl _ _) Bw off cap ws hws hT)
  have hcx := hT.cell x (by omega)
  have hcap := hT.le
  clear hcl hch hT
  cases hb : ws.getD x false with
  | true =>
    rw [hb] at hcx
    clear hb
    go_enter Try.func110, Try.ntmps110
    go_wp2_with fail
    refine HH.out.mono ?_
    rintro e w' ⟨rfl, hb'⟩
    have HB := hideN hb'
    clear hb'
    go_wp2_with fail
    go_ret
    exact ⟨rfl, HB.out⟩
  | false =>
    rw [hb] at hcx
    clear hb
    go_enter Try.func110, Try.ntmps110
    go_wp2_with fail
    refine HL.out.mono ?_
    rintro e w' ⟨rfl, hb'⟩
    have HB := hideN hb'
    clear hb'
    go_wp2_with fail
    go_ret
    exact ⟨rfl, HB.out⟩

set_option maxRecDepth 100000 in
set_option maxHeartbeats 4000000 in
theorem nodeOf_any (vars x k0 : Nat) (y z : Int) (fl fh : Value) (gl gh : List Bool → Bool) (W : World) (sl : SaysG W k0 fl vars gl) (sh : SaysG W k0 fh vars gh) (hx : x < vars) (hk : k0 < W.heap.size) :
    Calls Try.prog 109 #[.agg #[.int .i64 (x : Int), .int .i64 y, .int .i64 z], fl, fh] W fun e w' => ∃ fv, e = .returned fv ∧ SaysG w' k0 fv vars (fun ws => if ws.getD x false = true then gh ws else gl ws) ∧ Below W.heap.size W w' := by
  have SL := hideN sl
  have SH := hideN sh
  have hmf : ∀ (fn : Fn) (first cap : Array Value) (w : World), (Instr.makeFunc fn first cap).run Try.prog w = .ok (.func fn first cap) w := fun _ _ _ _ => rfl
  obtain ⟨Fl, bl, rfl, _, _⟩ := sl
  obtain ⟨Fh, bh, rfl, _, _⟩ := sh
  go_enter Try.func109, Try.ntmps109
  go_wp2_with fail
  have hb1 := belOne W (.cells #[.int .i64 (x : Int), .int .i64 y, .int .i64 z] 50)
  have hb2 := belOne (W.alloc (.cells #[.int .i64 (x : Int), .int .i64 y, .int .i64 z] 50)) (.cells #[.func (.func Fl) #[] bl] 87)
  have hb3 := belOne ((W.alloc (.cells #[.int .i64 (x : Int), .int .i64 y, .int .i64 z] 50)).alloc (.cells #[.func (.func Fl) #[] bl] 87)) (.cells #[.func (.func Fh) #[] bh] 87)
  have k1 := World.alloc_heap_new W (.cells #[.int .i64 (x : Int), .int .i64 y, .int .i64 z] 50)
  have k2 := World.alloc_heap_new (W.alloc (.cells #[.int .i64 (x : Int), .int .i64 y, .int .i64 z] 50)) (.cells #[.func (.func Fl) #[] bl] 87)
  have k3 := World.alloc_heap_new ((W.alloc (.cells #[.int .i64 (x : Int), .int .i64 y, .int .i64 z] 50)).alloc (.cells #[.func (.func Fl) #[] bl] 87)) (.cells #[.func (.func Fh) #[] bh] 87)
  rw [World.size_alloc] at k2
  rw [World.size_alloc, World.size_alloc] at k3
  have hbl := belNext (belNext hb1 hb2) hb3
  have q1 := (hb3.block W.heap.size (by simp; omega)).trans ((hb2.block W.heap.size (by simp)).trans k1)
  have q2 := (hb3.block (W.heap.size + 1) (by simp)).trans k2
  generalize (((W.alloc (.cells #[.int .i64 (x : Int), .int .i64 y, .int .i64 z] 50)).alloc (.cells #[.func (.func Fl) #[] bl] 87)).alloc (.cells #[.func (.func Fh) #[] bh] 87)) = W3 at *
  refine bodyPost_ret (v := .func (.func 110) #[] #[.pointer (some ⟨W.heap.size, 0, none⟩), .pointer (some ⟨W.heap.size + 1 + 1, 0, none⟩), .pointer (some ⟨W.heap.size + 1, 0, none⟩)]) (by simp [results, Try.results109, go_sem]) rfl ⟨_, rfl, ⟨_, _, rfl, enters_of Try.func110 (by kernel_rfl) rfl, fun U hU Bw off cap ws hws hT => ?_⟩, hbl⟩
  have r1 := (hU.block _ (Array.getElem?_eq_some_iff.1 q1).1 (by omega)).trans q1
  have r2 := (hU.block _ (Array.getElem?_eq_some_iff.1 q2).1 (by omega)).trans q2
  have r3 := (hU.block _ (Array.getElem?_eq_some_iff.1 k3).1 (by omega)).trans k3
  exact nodeSays_any vars x W.heap.size (W.heap.size + 1 + 1) (W.heap.size + 1) Bw off cap (.int .i64 y) (.int .i64 z) _ _ gl gh ws W U (by simp [World.cell?, r1]) (by simp [World.cell?, r3]) (by simp [World.cell?, r2]) (SL.out.says ((Chg.of_below hbl).trans hU)) (SH.out.says ((Chg.of_below hbl).trans hU)) hx hws hT

end Go.Proofs.Ytknpifjkllcdeaa

namespace Go.Proofs.Ytknpifjkllcdeaa
open Go.RowKit Go.Deep
set_option linter.unusedVariables false

attribute [local go_sem] Oper.semAt_some

theorem node_parts {vars : Int} {ns : List Nd} {j : Nat} (h : nodeB vars ns j = true) : 0 ≤ (ns.getD j (0, 0, 0)).1 ∧ (ns.getD j (0, 0, 0)).1 < vars ∧ 0 ≤ (ns.getD j (0, 0, 0)).2.1 ∧ (ns.getD j (0, 0, 0)).2.1 < 2 + (j : Int) ∧ 0 ≤ (ns.getD j (0, 0, 0)).2.2 ∧ (ns.getD j (0, 0, 0)).2.2 < 2 + (j : Int) := by
  unfold nodeB belowB at h
  simp only [Bool.and_eq_true, decide_eq_true_eq] at h
  obtain ⟨⟨h1, h2⟩, ⟨h3, h4, _⟩, h5, h6, _⟩ := h
  exact ⟨h1, h2, h3, h4, h5, h6⟩

set_option maxRecDepth 100000 in
set_option maxHeartbeats 16000000 in
theorem toldBySays_any (vars n cap : Nat) (root : Int) (ao : Option Addr) (ns : List Nd) (w : World) (hN : Nds w ao n cap ns) (hn : n ≤ 64) (hok : ∀ i, i < n → nodeB vars ns i = true) (hr0 : 0 ≤ root) (hr1 : root < 2 + (n : Int)) :
    Calls Try.prog 106 #[.agg #[.int .i64 (vars : Int), .slice ao n cap, .int .i64 root], .func (.func 107) #[] #[], .func (.func 108) #[] #[], .func (.func 109) #[] #[]] w fun e w' => ∃ fv, e = .returned fv ∧ SaysF w' fv vars (isN ns root) ∧ Below w.heap.size w w' := by
  obtain ⟨W1, hW1⟩ : ∃ W1, W1 = w.alloc (.cells #[.int .i64 (vars : Int), .slice ao n cap, .int .i64 root] 25) := ⟨_, rfl⟩
  obtain ⟨W2, hW2⟩ : ∃ W2, W2 = W1.alloc (.cells #[.func (.func 107) #[] #[], .func (.func 108) #[] #[]] 87) := ⟨_, rfl⟩
  have hs1 : W1.heap.size = w.heap.size + 1 := by rw [hW1]; simp
  have HB1 : Hid (Below w.heap.size w W1) := by rw [hW1]; exact belOne _ _
  have HB2 : Hid (Below w.heap.size w W2) := by rw [hW2]; exact belNext HB1.out (belOne _ _)
  have HK := hideN (show BlkD W2 w.heap.size (.int .i64 (vars : Int)) (.slice ao n cap) (.int .i64 root) by rw [hW2]; exact (show BlkD W1 w.heap.size _ _ _ by rw [hW1]; exact BlkD.new _ _ _ _).below (belOne _ _))
  have HT0 : Hid (W2.ownsRow (w.heap.size + 1) 87 1 (.slice (some ⟨w.heap.size + 1, 0, none⟩) 2 2) 2 [.func (.func 107) #[] #[], .func (.func 108) #[] #[]]) := by
    have h := World.alloc_heap_new W1 (.cells #[.func (.func 107) #[] #[], .func (.func 108) #[] #[]] 87)
    rw [← hW2, hs1] at h
    exact ⟨rfl, .inr ⟨w.heap.size + 1, 2, _, rfl, Nat.le_refl _, h, Nat.le_refl _, by unfold maxLen; omega, by simp, by simp⟩⟩
  have HF0 : Hid (∀ q, q < 0 + 2 → SaysG W2 (w.heap.size + 1) ([Value.func (.func 107) #[] #[], .func (.func 108) #[] #[]].getD q .nilFunc) vars (fun ws => (valsN ns ws n).getD q false)) := fun q hq => by
    have e : ∀ ws, (valsN ns ws n).getD q false = [false, true].getD q false := fun ws => valsN_old ns ws 0 n q (Nat.zero_le _) hq
    have e2 : (fun ws => (valsN ns ws n).getD q false) = fun _ => [false, true].getD q false := funext e
    rw [e2]
    match q, hq with
    | 0, _ => exact never_says W2 _ vars
    | 1, _ => exact always_says W2 _ vars
  have HNV := hideN (fun V (hV : Below w.heap.size w V) => hN.below hV)
  have HLEN := hideN hN.len
  have HOK := hideN hok
  have HW1 := hideN hW1
  have HW2 := hideN hW2
  have HS1 := hideN hs1
  obtain ⟨ib, hib, hz0, hz1, hz2⟩ := info_parts info_says
  have c1 := HK.out.c1
  have c3 := HK.out.lt
  clear hN hW1 hW2 hs1 hok
  go_enter Try.func106, Try.ntmps106
  go_wp2_with fail
  try rw [← HW1.out]
  try rw [← HW2.out]
  try rw [← HS1.out]
  clear c1 c3
  go_loopw [9, 18] (fun o i wr => ∃ (gt cap' m j : Nat) (fs : List Value), j ≤ n ∧ m = j + 2 ∧ i = .int .i64 (j : Nat) ∧ o = .slice (some ⟨gt, 0, none⟩) m cap' ∧ Hid (wr.ownsRow (w.heap.size + 1) 87 1 (.slice (some ⟨gt, 0, none⟩) m cap') m fs) ∧ Hid (∀ q, q < j + 2 → SaysG wr gt (fs.getD q .nilFunc) vars (fun ws => (valsN ns ws n).getD q false)) ∧ Hid (Below w.heap.size w wr) ∧ Hid (BlkD wr w.heap.size (.int .i64 (vars : Int)) (.slice ao n cap) (.int .i64 root))) (fun _ i _ => n - (intOf i).toNat)
  case atStart => exact ⟨w.heap.size + 1, 2, 2, 0, _, Nat.zero_le _, rfl, rfl, by first | rfl | rw [HS1.out], HT0, HF0, HB2.out, HK⟩
  case round =>
    obtain ⟨gt, cap', m, j, fs, hj, hm, rfl, rfl, hrow, hfs, hbw, hbk⟩ := hrel
    have hm66 : m ≤ 66 := by omega
    have HM := hideN hm
    by_cases hlt : j < n
    · obtain ⟨b, off, hao, hcs⟩ := (HNV.out wr hbw.out).cells (by omega)
      subst hao
      obtain ⟨e0, e1, e2⟩ := hcs j hlt
      have hnp := node_parts (HOK.out j hlt)
      have hvn := fun ws => valsN_node ns ws n j hlt (by omega) (by omega)
      generalize ns.getD j (0, 0, 0) = p at *
      obtain ⟨xi, yi, zi⟩ := p
      have hnp : 0 ≤ xi ∧ xi < (vars : Int) ∧ 0 ≤ yi ∧ yi < 2 + (j : Int) ∧ 0 ≤ zi ∧ zi < 2 + (j : Int) := hnp
      obtain ⟨x, rfl⟩ : ∃ x : Nat, xi = (x : Int) := ⟨xi.toNat, by omega⟩
      obtain ⟨y, rfl⟩ : ∃ y : Nat, yi = (y : Int) := ⟨yi.toNat, by omega⟩
      obtain ⟨z, rfl⟩ : ∃ z : Nat, zi = (z : Int) := ⟨zi.toNat, by omega⟩
      have e0 : wr.cell? ⟨b, off + j * 3, none⟩ = some (.int .i64 (x : Int)) := e0
      have e1 : wr.cell? ⟨b, off + j * 3 + 1, none⟩ = some (.int .i64 (y : Int)) := e1
      have e2 : wr.cell? ⟨b, off + j * 3 + 2, none⟩ = some (.int .i64 (z : Int)) := e2
      have HVN : Hid ((fun ws : List Bool => if ws.getD x false = true then (valsN ns ws n).getD z false else (valsN ns ws n).getD y false) = fun ws => (valsN ns ws n).getD (j + 2) false) := funext fun ws => (hvn ws).symm
      have hxv : x < vars := by omega
      have hym : y < m := by omega
      have hzm : z < m := by omega
      have hyi : ¬ ((m : Int) ≤ (y : Int)) := by omega
      have hzi : ¬ ((m : Int) ≤ (z : Int)) := by omega
      have hfl : fs.length = m * 1 := hrow.out.1
      have t1 := World.ownsRow.cellAt hrow.out y (by omega)
      have t2 := World.ownsRow.cellAt hrow.out z (by omega)
      have u1 : fs[y]? = some (fs.getD y .nilFunc) := by rw [List.getD, List.getElem?_eq_getElem (by omega)]; rfl
      have u2 : fs[z]? = some (fs.getD z .nilFunc) := by rw [List.getD, List.getElem?_eq_getElem (by omega)]; rfl
      have SL := hideN (hfs.out y (by omega))
      have SH := hideN (hfs.out z (by omega))
      rw [u1] at t1
      rw [u2] at t2
      generalize fs.getD y .nilFunc = fl at *
      generalize fs.getD z .nilFunc = fh at *
      obtain ⟨V, hV⟩ : ∃ V, V = wr.alloc (.cells #[.int .i64 (x : Int), .int .i64 (y : Int), .int .i64 (z : Int)] 50) := ⟨_, rfl⟩
      have HVW : Hid (Below wr.heap.size wr V) := by rw [hV]; exact belOne _ _
      have hT : V.heap[wr.heap.size]? = some (.cells #[.int .i64 (x : Int), .int .i64 (y : Int), .int .i64 (z : Int)] 50 (0, 0)) := by rw [hV]; exact World.alloc_heap_new _ _
      obtain ⟨B11, hB11⟩ : ∃ B11, wr.heap.size = B11 := ⟨_, rfl⟩
      rw [hB11] at hT
      have hgl := cell_lt t1
      have t1' := (HVW.out.cell (p := ⟨gt, y, none⟩) hgl).trans t1
      have t2' := (HVW.out.cell (p := ⟨gt, z, none⟩) hgl).trans t2
      have HCL : Hid (∀ U, Below V.heap.size V U → U.cell? ⟨B11, 0, none⟩ = some (.int .i64 (x : Int)) ∧ U.cell? ⟨B11, 1, none⟩ = some (.int .i64 (y : Int)) ∧ U.cell? ⟨B11, 2, none⟩ = some (.int .i64 (z : Int)) ∧ U.cell? ⟨gt, y, none⟩ = some fl ∧ U.cell? ⟨gt, z, none⟩ = some fh) := fun U hU => by
        have h2 := (hU.block B11 (Array.getElem?_eq_some_iff.1 hT).1).trans hT
        exact ⟨by simp [World.cell?, h2], by simp [World.cell?, h2], by simp [World.cell?, h2], (hU.cell (p := ⟨gt, y, none⟩) (cell_lt t1')).trans t1', (hU.cell (p := ⟨gt, z, none⟩) (cell_lt t2')).trans t2'⟩
      have HVE := hideN hV
      have HB11 := hideN hB11
      clear hcs hnp hvn hV hT hB11 t1 t2 t1' t2' u1 u2 hm hfl
      go_wp2_with fail
      rw [← HVE.out]
      try rw [HB11.out]
      clear e0 e1 e2
      obtain ⟨z0, z1, z2, z3, z4⟩ := HCL.out V.drew (below_drewN (Below.refl _ _) 1)
      refine region_U (fin := 15) (S := fun V => V.cell? ⟨B11, 0, none⟩ = some (.int .i64 (x : Int)) ∧ V.cell? ⟨B11, 1, none⟩ = some (.int .i64 (y : Int)) ∧ V.cell? ⟨B11, 2, none⟩ = some (.int .i64 (z : Int)) ∧ V.cell? ⟨gt, y, none⟩ = some fl ∧ V.cell? ⟨gt, z, none⟩ = some fh) (by kernel_rfl) ⟨z0, z1, z2, z3, z4⟩ (fun hHeld => ?_)
      clear hHeld
      refine takeU (i := 0) (v := .slice (some ⟨gt, 0, none⟩) m cap') rfl (by rfl) (by kernel_rfl) (by kernel_rfl) (by kernel_rfl) (by kernel_rfl) (by kernel_rfl) (fun _ _ _ h => h) (Or.inl ⟨by rfl, fun w hS => by obtain ⟨z0, z1, z2, z3, z4⟩ := hS; go_simp⟩) ⟨z0, z1, z2, z3, z4⟩ ?_
      simp only [List.getElem_toArray, List.getElem_cons_zero, Act.put, List.setIfInBounds_toArray, List.set_cons_zero, List.set_cons_succ]
      refine takeU (i := 1) (v := .func (.func 109) #[] #[]) rfl (by rfl) (by kernel_rfl) (by kernel_rfl) (by kernel_rfl) (by kernel_rfl) (by kernel_rfl) (fun _ _ _ h => h) (Or.inl ⟨by rfl, fun w hS => by obtain ⟨z0, z1, z2, z3, z4⟩ := hS; go_simp⟩) ⟨z0, z1, z2, z3, z4⟩ ?_
      simp only [List.getElem_toArray, List.getElem_cons_zero, List.getElem_cons_succ, Act.put, List.setIfInBounds_toArray, List.set_cons_zero, List.set_cons_succ]
      refine takeU (i := 2) (v := .agg #[.int .i64 (x : Int), .int .i64 (y : Int), .int .i64 (z : Int)]) rfl (by rfl) (by kernel_rfl) (by kernel_rfl) (by kernel_rfl) (by kernel_rfl) (by kernel_rfl) (fun _ _ _ h => h) (Or.inl ⟨by rfl, fun w hS => by obtain ⟨z0, z1, z2, z3, z4⟩ := hS; go_simp⟩) ⟨z0, z1, z2, z3, z4⟩ ?_
      simp only [List.getElem_toArray, List.getElem_cons_zero, List.getElem_cons_succ, Act.put, List.setIfInBounds_toArray, List.set_cons_zero, List.set_cons_succ]
      refine takeU (i := 3) (v := .slice (some ⟨gt, 0, none⟩) m cap') rfl (by rfl) (by kernel_rfl) (by kernel_rfl) (by kernel_rfl) (by kernel_rfl) (by kernel_rfl) (fun _ _ _ h => h) (Or.inl ⟨by rfl, fun w hS => by obtain ⟨z0, z1, z2, z3, z4⟩ := hS; go_simp⟩) ⟨z0, z1, z2, z3, z4⟩ ?_
      simp only [List.getElem_toArray, List.getElem_cons_zero, List.getElem_cons_succ, Act.put, List.setIfInBounds_toArray, List.set_cons_zero, List.set_cons_succ]
      refine takeU (i := 4) (v := .pointer (some ⟨B11, 1, none⟩)) rfl (by rfl) (by kernel_rfl) (by kernel_rfl) (by kernel_rfl) (by kernel_rfl) (by kernel_rfl) (fun _ _ _ h => h) (Or.inl ⟨by rfl, fun w hS => by obtain ⟨z0, z1, z2, z3, z4⟩ := hS; go_simp⟩) ⟨z0, z1, z2, z3, z4⟩ ?_
      simp only [List.getElem_toArray, List.getElem_cons_zero, List.getElem_cons_succ, Act.put, List.setIfInBounds_toArray, List.set_cons_zero, List.set_cons_succ]
      refine takeU (i := 5) (v := .int .i64 (y : Int)) rfl (by rfl) (by kernel_rfl) (by kernel_rfl) (by kernel_rfl) (by kernel_rfl) (by kernel_rfl) (fun _ _ _ h => h) (Or.inl ⟨by rfl, fun w hS => by obtain ⟨z0, z1, z2, z3, z4⟩ := hS; go_simp⟩) ⟨z0, z1, z2, z3, z4⟩ ?_
      simp only [List.getElem_toArray, List.getElem_cons_zero, List.getElem_cons_succ, Act.put, List.setIfInBounds_toArray, List.set_cons_zero, List.set_cons_succ]
      refine takeU (i := 6) (v := .pointer (some ⟨gt, y, none⟩)) rfl (by rfl) (by kernel_rfl) (by kernel_rfl) (by kernel_rfl) (by kernel_rfl) (by kernel_rfl) (fun _ _ _ h => h) (Or.inl ⟨by rfl, fun w hS => by obtain ⟨z0, z1, z2, z3, z4⟩ := hS; go_simp⟩) ⟨z0, z1, z2, z3, z4⟩ ?_
      simp only [List.getElem_toArray, List.getElem_cons_zero, List.getElem_cons_succ, Act.put, List.setIfInBounds_toArray, List.set_cons_zero, List.set_cons_succ]
      refine takeU (i := 7) (v := fl) rfl (by rfl) (by kernel_rfl) (by kernel_rfl) (by kernel_rfl) (by kernel_rfl) (by kernel_rfl) (fun _ _ _ h => h) (Or.inl ⟨by rfl, fun w hS => by obtain ⟨z0, z1, z2, z3, z4⟩ := hS; go_simp⟩) ⟨z0, z1, z2, z3, z4⟩ ?_
      simp only [List.getElem_toArray, List.getElem_cons_zero, List.getElem_cons_succ, Act.put, List.setIfInBounds_toArray, List.set_cons_zero, List.set_cons_succ]
      refine takeU (i := 8) (v := .slice (some ⟨gt, 0, none⟩) m cap') rfl (by rfl) (by kernel_rfl) (by kernel_rfl) (by kernel_rfl) (by kernel_rfl) (by kernel_rfl) (fun _ _ _ h => h) (Or.inl ⟨by rfl, fun w hS => by obtain ⟨z0, z1, z2, z3, z4⟩ := hS; go_simp⟩) ⟨z0, z1, z2, z3, z4⟩ ?_
      simp only [List.getElem_toArray, List.getElem_cons_zero, List.getElem_cons_succ, Act.put, List.setIfInBounds_toArray, List.set_cons_zero, List.set_cons_succ]
      refine takeU (i := 9) (v := .pointer (some ⟨B11, 2, none⟩)) rfl (by rfl) (by kernel_rfl) (by kernel_rfl) (by kernel_rfl) (by kernel_rfl) (by kernel_rfl) (fun _ _ _ h => h) (Or.inl ⟨by rfl, fun w hS => by obtain ⟨z0, z1, z2, z3, z4⟩ := hS; go_simp⟩) ⟨z0, z1, z2, z3, z4⟩ ?_
      simp only [List.getElem_toArray, List.getElem_cons_zero, List.getElem_cons_succ, Act.put, List.setIfInBounds_toArray, List.set_cons_zero, List.set_cons_succ]
      refine takeU (i := 10) (v := .int .i64 (z : Int)) rfl (by rfl) (by kernel_rfl) (by kernel_rfl) (by kernel_rfl) (by kernel_rfl) (by kernel_rfl) (fun _ _ _ h => h) (Or.inl ⟨by rfl, fun w hS => by obtain ⟨z0, z1, z2, z3, z4⟩ := hS; go_simp⟩) ⟨z0, z1, z2, z3, z4⟩ ?_
      simp only [List.getElem_toArray, List.getElem_cons_zero, List.getElem_cons_succ, Act.put, List.setIfInBounds_toArray, List.set_cons_zero, List.set_cons_succ]
      refine takeU (i := 11) (v := .pointer (some ⟨gt, z, none⟩)) rfl (by rfl) (by kernel_rfl) (by kernel_rfl) (by kernel_rfl) (by kernel_rfl) (by kernel_rfl) (fun _ _ _ h => h) (Or.inl ⟨by rfl, fun w hS => by obtain ⟨z0, z1, z2, z3, z4⟩ := hS; go_simp⟩) ⟨z0, z1, z2, z3, z4⟩ ?_
      simp only [List.getElem_toArray, List.getElem_cons_zero, List.getElem_cons_succ, Act.put, List.setIfInBounds_toArray, List.set_cons_zero, List.set_cons_succ]
      refine takeU (i := 12) (v := fh) rfl (by rfl) (by kernel_rfl) (by kernel_rfl) (by kernel_rfl) (by kernel_rfl) (by kernel_rfl) (fun _ _ _ h => h) (Or.inl ⟨by rfl, fun w hS => by obtain ⟨z0, z1, z2, z3, z4⟩ := hS; go_simp⟩) ⟨z0, z1, z2, z3, z4⟩ ?_
      simp only [List.getElem_toArray, List.getElem_cons_zero, List.getElem_cons_succ, Act.put, List.setIfInBounds_toArray, List.set_cons_zero, List.set_cons_succ]
      refine oneU (i := 13) (by kernel_rfl) rfl (by rfl) ?_
      simp only [List.getElem_toArray, List.getElem_cons_zero, List.getElem_cons_succ]
      go_simp
      have HBD : Hid (Below wr.heap.size wr V.drew) := belNext HVW.out (below_drewN (Below.refl _ _) 1)
      refine (nodeOf_any vars x gt (y : Int) (z : Int) fl fh _ _ V.drew (SL.out.chg (Chg.of_below HBD.out) (.inl rfl)) (SH.out.chg (Chg.of_below HBD.out) (.inl rfl)) hxv (Nat.lt_of_lt_of_le hgl HBD.out.size)).mono ?_
      rintro e w1 ⟨fv, rfl, hsv, hb1⟩
      have HSV := hideN hsv
      obtain ⟨F, bs, rfl, -⟩ := hsv
      have HB1w : Hid (Below wr.heap.size wr w1) := belNext HBD.out hb1
      have HBV1 : Hid (Below V.heap.size V w1) := belNext (below_drewN (Below.refl _ _) 1) hb1
      clear hb1 z0 z1 z2 z3 z4
      refine ⟨HCL.out w1 HBV1.out, ?_⟩
      have HRD := hideN (row_below (row_below hrow.out HB1w.out) (belOne w1 (.cells #[.func (.func F) #[] bs] 87)))
      obtain ⟨z0, z1, z2, z3, z4⟩ := HCL.out (w1.alloc (.cells #[.func (.func F) #[] bs] 87)) (belNext HBV1.out (belOne _ _))
      refine oneU (i := 14) (by kernel_rfl) rfl (by rfl) ?_
      simp only [List.getElem_toArray, List.getElem_cons_zero, List.getElem_cons_succ]
      go_simp
      refine oneU (i := 15) (by kernel_rfl) rfl (by rfl) ?_
      simp only [List.getElem_toArray, List.getElem_cons_zero, List.getElem_cons_succ]
      have hwb := hbw.out.size
      have hb1s := HB1w.out.size
      have hgt1 := (World.ownsRow.lt hrow.out gt rfl).1
      have hfl : fs.length = m * 1 := hrow.out.1
      refine wp_append_lies _ (.tmp 22) (.tmp 36) 133 rfl (w.heap.size + 1) 87 ib .nilFunc 1 8 Try.underlying133 hib hz0 hz1 hz2 rfl (by decide) (.slice (some ⟨gt, 0, none⟩) m cap') m fs rfl HRD.out ⟨w1.heap.size, 0, none⟩ 1 1 [.func (.func F) #[] bs] rfl rfl (by exact news1G w1 _ _) (by intro u hu; simp at hu; subst hu; rfl) (by decide) (by unfold maxLen; omega) (by omega) (by simp; omega) _ rfl ?_
      intro g gcap w9 hown9 hgrow9 hat9 hlt9
      have HR9 := hideN hown9
      have hc19 : Chg (· = gt) w1 w9 := (Chg.of_below (belOne w1 (.cells #[.func (.func F) #[] bs] 87))).trans ((chg_of_grown hgrow9).mono (fun k e => (Option.some.inj e).symm))
      have hc9 : Chg (· = gt) wr w9 := (Chg.of_below HB1w.out).trans hc19
      have hg9 : g = gt ∨ w1.heap.size ≤ g := by
        rcases hat9 with h | h
        · exact .inl (Option.some.inj h).symm
        · exact .inr (by rw [h, World.size_alloc]; omega)
      have HF9 : Hid (∀ q, q < j + 1 + 2 → SaysG w9 g ((fs ++ [Value.func (.func F) #[] bs]).getD q .nilFunc) vars (fun ws => (valsN ns ws n).getD q false)) := fun q hq => by
        have hmj := HM.out
        by_cases e : q = j + 2
        · subst e
          have e2 : (fs ++ [Value.func (.func F) #[] bs]).getD (j + 2) Value.nilFunc = Value.func (.func F) #[] bs := by
            rw [List.getD, List.getElem?_append_right (by omega), show j + 2 - fs.length = 0 from by omega]; rfl
          rw [e2, ← HVN.out]
          exact HSV.out.chg hc19 hg9
        · have e2 : (fs ++ [Value.func (.func F) #[] bs]).getD q Value.nilFunc = fs.getD q Value.nilFunc := by
            rw [List.getD, List.getElem?_append_left (by omega)]; rfl
          rw [e2]
          exact (hfs.out q (by omega)).chg hc9 (by rcases hg9 with h | h; exact .inl h; exact .inr (by omega))
      have HB9 : Hid (Below w.heap.size w w9) := Chg.below hbw.out hwb hc9 (fun k e => by have : k = gt := e; omega)
      have HK9 : Hid (BlkD w9 w.heap.size (.int .i64 (vars : Int)) (.slice (some ⟨b, off, none⟩) n cap) (.int .i64 root)) := (hc9.block _ hbk.out.lt (fun e => by have : w.heap.size = gt := e; omega)).trans hbk.out
      clear hown9 hgrow9 hat9 hlt9 hc19 hc9 hg9 z0 z1 z2 z3 z4
      refine ⟨fun h => by simp at h, ?_⟩
      simp only [Act.put, List.setIfInBounds_toArray, List.set_cons_zero, List.set_cons_succ]
      refine oneU (i := 16) (by kernel_rfl) rfl (by rfl) ?_
      simp only [List.getElem_toArray, List.getElem_cons_zero, List.getElem_cons_succ]
      go_simp
      refine doneU (by kernel_rfl) ?_ _
      go_wp2_with fail
      go_roundw
      case rel => exact ⟨g, gcap, m + 1, j + 1, fs ++ [Value.func (.func F) #[] bs], by omega, by have := HM.out; omega, by go_num, rfl, HR9, HF9, HB9, HK9⟩
      case measure => simp [intOf]; omega
    · obtain rfl : j = n := by omega
      obtain ⟨r, rfl⟩ : ∃ r : Nat, root = (r : Int) := ⟨root.toNat, by omega⟩
      have hrm : r < m := by omega
      have hfl : fs.length = m * 1 := hrow.out.1
      have t1 := World.ownsRow.cellAt hrow.out r (by omega)
      have u1 : fs[r]? = some (fs.getD r .nilFunc) := by rw [List.getD, List.getElem?_eq_getElem (by omega)]; rfl
      have SR := hideN (hfs.out r (by omega))
      rw [u1] at t1
      generalize fs.getD r .nilFunc = fv at *
      have c1 := hbk.out.c2
      have c3 := hbk.out.lt
      have hri : ¬ ((m : Int) ≤ (r : Int)) := by omega
      have HIS : Hid ((fun ws => (valsN ns ws j).getD r false) = isN ns (r : Int)) := by
        show _ = _
        funext ws
        unfold isN
        rw [HLEN.out, Int.toNat_natCast]
      obtain ⟨F, bs, rfl, -⟩ := SR.out
      clear hfl u1 hm
      go_wp2_with fail
      go_ret
      exact ⟨_, rfl, by rw [← HIS.out]; exact SR.out.says (Chg.refl _ _), hbw.out⟩

set_option maxRecDepth 100000 in
set_option maxHeartbeats 4000000 in
theorem saysOf_any (vars n cap : Nat) (root : Int) (ao : Option Addr) (ns : List Nd) (w : World) (hN : Nds w ao n cap ns) (hn : n ≤ 64) (hok : ∀ i, i < n → nodeB vars ns i = true) (hr0 : 0 ≤ root) (hr1 : root < 2 + (n : Int)) :
    Calls Try.prog 81 #[.agg #[.int .i64 (vars : Int), .slice ao n cap, .int .i64 root]] w fun e w' => ∃ fv, e = .returned fv ∧ SaysF w' fv vars (isN ns root) ∧ Below w.heap.size w w' := by
  obtain ⟨W1, hW1⟩ : ∃ W1, W1 = w.alloc (.cells #[.int .i64 (vars : Int), .slice ao n cap, .int .i64 root] 25) := ⟨_, rfl⟩
  have HB1 : Hid (Below w.heap.size w W1) := by rw [hW1]; exact belOne _ _
  have hK : BlkD W1 w.heap.size (.int .i64 (vars : Int)) (.slice ao n cap) (.int .i64 root) := by rw [hW1]; exact BlkD.new _ _ _ _
  have HT := hideN (toldBySays_any vars n cap root ao ns W1 (hN.below HB1.out) hn hok hr0 hr1)
  have HW1 := hideN hW1
  have c0 := hK.c0
  have c1 := hK.c1
  have c2 := hK.c2
  have c3 := hK.lt
  clear hN hok hK hW1
  go_enter Try.func81, Try.ntmps81
  go_wp2_with fail
  rw [← HW1.out]
  refine HT.out.mono ?_
  rintro e w1 ⟨fv, rfl, hs, hb⟩
  have HS := hideN hs
  have HB : Hid (Below w.heap.size w w1) := HB1.out.trans (hb.mono HB1.out.size)
  obtain ⟨F, bs, rfl, -⟩ := hs
  clear hb
  go_wp2_with fail
  go_ret
  exact ⟨_, rfl, HS.out, HB.out⟩

end Go.Proofs.Ytknpifjkllcdeaa

/-
  Diagrams: whether each node asks ahead of those that it goes to, by the model.
-/
import Derived.Test.YtknpifjkllcdeaaBdX
namespace Go.Proofs.Ytknpifjkllcdeaa
open Go.RowKit Go.Deep
set_option linter.unusedVariables false

attribute [local go_sem] Oper.semAt_some

theorem belowB_small {ns : List Nd} {j : Nat} {x y : Int} (h0 : 0 ≤ y) (h1 : y ≤ (j : Int) + 1) (h2 : y < 2) : belowB ns j x y = true := by
  unfold belowB
  rw [decide_eq_true h0, decide_eq_true (by omega : y < 2 + (j : Int)), decide_eq_true h2]; rfl
theorem belowB_node {ns : List Nd} {j q : Nat} {x : Int} (h : q < j) : belowB ns j x ((q : Int) + 2) = decide (x < (ns.getD q (0, 0, 0)).1) := by
  unfold belowB
  rw [decide_eq_true (by omega : (0 : Int) ≤ (q : Int) + 2), decide_eq_true (by omega : (q : Int) + 2 < 2 + (j : Int)), decide_eq_false (by omega : ¬ (q : Int) + 2 < 2), show ((q : Int) + 2 - 2).toNat = q from by omega]; rfl
theorem belowB_out {ns : List Nd} {j : Nat} {x y : Int} (h : (decide (0 ≤ y) && decide (y ≤ (j : Int) + 1)) = false) : belowB ns j x y = false := by
  unfold belowB
  by_cases h0 : 0 ≤ y
  · rw [decide_eq_true h0] at h
    have h1 : ¬ y ≤ (j : Int) + 1 := by simpa using h
    rw [decide_eq_false (by omega : ¬ y < 2 + (j : Int))]; simp
  · rw [decide_eq_false h0]; rfl

set_option maxRecDepth 100000 in
set_option maxHeartbeats 16000000 in
theorem l11Nodes_any (vars n cap : Nat) (root : Int) (ao : Option Addr) (ns : List Nd) (w : World) (h6 : vars ≤ 6) (hN : Nds w ao n cap ns) (h64 : ∀ q ∈ ns, I64N q) (hn : n ≤ 64) :
    Calls Try.prog 86 #[.agg #[.int .i64 (vars : Int), .slice ao n cap, .int .i64 root]] w fun e w' => e = .returned (.bool ((List.range n).all (nodeB vars ns))) ∧ Below w.heap.size w w' := by
  obtain ⟨W1, hW1⟩ : ∃ W1, W1 = w.alloc (.cells #[.int .i64 (vars : Int), .slice ao n cap, .int .i64 root] 25) := ⟨_, rfl⟩
  have HB1 : Hid (Below w.heap.size w W1) := by rw [hW1]; exact belOne _ _
  have HK := hideN (show BlkD W1 w.heap.size (.int .i64 (vars : Int)) (.slice ao n cap) (.int .i64 root) by rw [hW1]; exact BlkD.new _ _ _ _)
  have HNV := hideN (fun V (hV : Below W1.heap.size W1 V) => (hN.below HB1.out).below hV)
  have HLEN := hideN hN.len
  have HI64 := hideN h64
  have HW1 := hideN hW1
  clear hN hW1 h64
  go_enter Try.func86, Try.ntmps86
  go_wp2_with fail
  try rw [← HW1.out]
  go_loopw [3] (fun i wr => ∃ j : Nat, j ≤ n ∧ i = .int .i64 j ∧ Hid (∀ q, q < j → nodeB vars ns q = true) ∧ Hid (Below W1.heap.size W1 wr)) (fun i _ => n - (intOf i).toNat)
  case atStart => exact ⟨0, Nat.zero_le _, rfl, fun q hq => by omega, Below.refl _ _⟩
  case round =>
    obtain ⟨j, hj, rfl, hall, hbw⟩ := hrel
    have c0 := (HK.out.below hbw.out).c0
    have c1 := (HK.out.below hbw.out).c1
    have c3 := (HK.out.below hbw.out).lt
    by_cases hlt : j < n
    · obtain ⟨b, off, hao, hcs⟩ := (HNV.out wr hbw.out).cells (by omega)
      subst hao
      obtain ⟨e0, e1, e2⟩ := hcs j hlt
      have hq64 := HI64.out _ (getD_mem_nd2 (l := ns) (i := j) (by have := HLEN.out; omega))
      have HND : Hid (nodeB vars ns j = ((decide (0 ≤ (ns.getD j (0, 0, 0)).1) && decide ((ns.getD j (0, 0, 0)).1 < vars)) && (belowB ns j (ns.getD j (0, 0, 0)).1 (ns.getD j (0, 0, 0)).2.1 && belowB ns j (ns.getD j (0, 0, 0)).1 (ns.getD j (0, 0, 0)).2.2))) := rfl
      have HVB : Hid (Below W1.heap.size W1 (wr.alloc (.cells #[.int .i64 (ns.getD j (0, 0, 0)).1, .int .i64 (ns.getD j (0, 0, 0)).2.1, .int .i64 (ns.getD j (0, 0, 0)).2.2] 50))) := belNext hbw.out (belOne _ _)
      have HNC0 : Hid (∀ q, q < n → wr.cell? ⟨b, off + q * 3, none⟩ = some (.int .i64 (ns.getD q (0, 0, 0)).1)) := fun q hq => (hcs q hq).1
      have hbl : b < wr.heap.size := cell_lt e0
      generalize hpe : ns.getD j (0, 0, 0) = p at *
      obtain ⟨x, y, z⟩ := p
      have e0 : wr.cell? ⟨b, off + j * 3, none⟩ = some (.int .i64 x) := e0
      have e1 : wr.cell? ⟨b, off + j * 3 + 1, none⟩ = some (.int .i64 y) := e1
      have e2 : wr.cell? ⟨b, off + j * 3 + 2, none⟩ = some (.int .i64 z) := e2
      have hI : I64 x ∧ I64 y ∧ I64 z := hq64
      unfold I64 at hI
      obtain ⟨hIx, hIy, hIz⟩ := hI
      have HND : Hid (nodeB vars ns j = ((decide (0 ≤ x) && decide (x < (vars : Int))) && (belowB ns j x y && belowB ns j x z))) := HND.out
      have HVB : Hid (Below W1.heap.size W1 (wr.alloc (.cells #[.int .i64 x, .int .i64 y, .int .i64 z] 50))) := HVB.out
      have hK2 := HK.out.below HVB.out
      have HK2 := hideN hK2
      obtain ⟨V, hV⟩ : ∃ V, V = wr.alloc (.cells #[.int .i64 x, .int .i64 y, .int .i64 z] 50) := ⟨_, rfl⟩
      have b0 : V.cell? ⟨wr.heap.size, 0, none⟩ = some (.int .i64 x) := by rw [hV]; simp
      have b1 : V.cell? ⟨wr.heap.size, 1, none⟩ = some (.int .i64 y) := by rw [hV]; simp
      have b2 : V.cell? ⟨wr.heap.size, 2, none⟩ = some (.int .i64 z) := by rw [hV]; simp
      have HNC : Hid (∀ q, q < n → V.cell? ⟨b, off + q * 3, none⟩ = some (.int .i64 (ns.getD q (0, 0, 0)).1)) := fun q hq => by rw [hV]; exact ((belOne wr _).cell (p := ⟨b, off + q * 3, none⟩) hbl).trans (HNC0.out q hq)
      rw [← hV] at HVB HK2
      have HVW : Hid (Below W1.heap.size W1 V) := HVB.out
      have HVE := hideN hV
      have a0 : V.cell? ⟨w.heap.size, 0, none⟩ = some (.int .i64 (vars : Int)) := HK2.out.c0
      have a1 : V.cell? ⟨w.heap.size, 1, none⟩ = some (.slice (some ⟨b, off, none⟩) n cap) := HK2.out.c1
      have a3 := HK2.out.lt
      have HBQ : Hid (∀ q : Nat, q < j → belowB ns j x ((q : Int) + 2) = decide (x < (ns.getD q (0, 0, 0)).1)) := fun q hq => belowB_node hq
      have hjn64 : j ≤ 64 := by omega
      clear hcs hq64 hpe hV hK2 HNC0
      go_wp2_with fail
      rw [← HVE.out]
      refine (l1In_any x 0 ((vars : Int) - 1) _).mono ?_
      rintro e w' ⟨he, hw'⟩
      obtain rfl := hw'.symm
      obtain ⟨vb, hvb⟩ : ∃ vb, (decide ((0 : Int) ≤ x) && decide (x ≤ (vars : Int) - 1)) = vb := ⟨_, rfl⟩
      rw [hvb] at he
      subst he
      have HXV : Hid ((decide (0 ≤ x) && decide (x < (vars : Int))) = vb) := by show _ = _; rw [← hvb]; congr 1; simp; omega
      clear hvb c0 c1 c3 e0 e1 e2
      rw [HXV.out] at HND
      clear HXV
      cases vb with
      | false =>
        have HNF : Hid (nodeB vars ns j = false) := by show _ = _; rw [HND.out]; rfl
        go_wp2_with fail
        go_ret
        exact ⟨by rw [not_all_nodes (by omega) HNF.out]; rfl, HB1.out.trans (HVW.out.mono HB1.out.size)⟩
      | true =>
      go_wp2_with fail
      refine (l1In_any y 0 ((j : Int) + 1) _).mono ?_
      rintro e w' ⟨he, hw'⟩
      obtain rfl := hw'.symm
      obtain ⟨yb, hyb⟩ : ∃ yb, (decide ((0 : Int) ≤ y) && decide (y ≤ (j : Int) + 1)) = yb := ⟨_, rfl⟩
      rw [hyb] at he
      subst he
      cases yb with
      | false =>
        have HNF : Hid (nodeB vars ns j = false) := by show _ = _; rw [HND.out, belowB_out hyb]; rfl
        clear hyb
        go_wp2_with fail
        go_ret
        exact ⟨by rw [not_all_nodes (by omega) HNF.out]; rfl, HB1.out.trans (HVW.out.mono HB1.out.size)⟩
      | true =>
      have hyr : 0 ≤ y ∧ y ≤ (j : Int) + 1 := by simpa using hyb
      obtain ⟨hy0, hy1⟩ := hyr
      clear hyb
      go_wp2_with fail
      refine (l1In_any z 0 ((j : Int) + 1) _).mono ?_
      rintro e w' ⟨he, hw'⟩
      obtain rfl := hw'.symm
      obtain ⟨zb, hzb⟩ : ∃ zb, (decide ((0 : Int) ≤ z) && decide (z ≤ (j : Int) + 1)) = zb := ⟨_, rfl⟩
      rw [hzb] at he
      subst he
      cases zb with
      | false =>
        have HNF : Hid (nodeB vars ns j = false) := by show _ = _; rw [HND.out, belowB_out hzb]; simp
        clear hzb
        go_wp2_with fail
        go_ret
        exact ⟨by rw [not_all_nodes (by omega) HNF.out]; rfl, HB1.out.trans (HVW.out.mono HB1.out.size)⟩
      | true =>
        have hzr : 0 ≤ z ∧ z ≤ (j : Int) + 1 := by simpa using hzb
        obtain ⟨hz0, hz1⟩ := hzr
        clear hzb
        have HYS : Hid (y < 2 → belowB ns j x y = true) := fun h => belowB_small hy0 hy1 h
        have HZS : Hid (z < 2 → belowB ns j x z = true) := fun h => belowB_small hz0 hz1 h
        go_wp2_with fail
        have hyc : (y < 2) ∨ ∃ q : Nat, y = (q : Int) + 2 ∧ q < j := by
          by_cases h : y < 2
          · exact .inl h
          · exact .inr ⟨(y - 2).toNat, by omega, by omega⟩
        have hzc : (z < 2) ∨ ∃ q : Nat, z = (q : Int) + 2 ∧ q < j := by
          by_cases h : z < 2
          · exact .inl h
          · exact .inr ⟨(z - 2).toNat, by omega, by omega⟩
        rcases hyc with hy2 | ⟨qy, rfl, hqy⟩
        · have dy : decide ((1 : Int) < y) = false := by simp; omega
          have HYB : Hid (belowB ns j x y = true) := HYS.out hy2
          rcases hzc with hz2 | ⟨qz, rfl, hqz⟩
          · have dz : decide ((1 : Int) < z) = false := by simp; omega
            have HNT : Hid (nodeB vars ns j = true) := by show _ = _; rw [HND.out, HYB.out, HZS.out hz2]; rfl
            go_quiet (fail)
            go_wp2_with fail
            go_roundw
            case rel =>
              refine ⟨j + 1, by omega, by go_num, fun q hq => ?_, belNext HVW.out (below_drewN (Below.refl _ _) _)⟩
              by_cases e : q = j
              · subst e; exact HNT.out
              · exact hall.out q (by omega)
            case measure => simp [intOf]; omega
          · have dz : decide ((1 : Int) < (qz : Int) + 2) = true := by simp; omega
            have wz : (qz : Int) + 2 - 2 = (qz : Int) := by omega
            have tz := (HNC.out qz (by omega))
            have HZB := hideN (HBQ.out qz hqz)
            generalize (ns.getD qz (0, 0, 0)).1 = uz at *
            by_cases hc : uz ≤ x
            · have dc : decide (uz ≤ x) = true := by simpa using hc
              have HNF : Hid (nodeB vars ns j = false) := by show _ = _; rw [HND.out, HZB.out, decide_eq_false (by omega : ¬ x < uz)]; simp
              go_quiet (fail)
              go_wp2_with fail
              go_ret
              exact ⟨by rw [not_all_nodes (by omega) HNF.out]; rfl, HB1.out.trans (((belNext HVW.out (below_drewN (Below.refl _ _) _))).mono HB1.out.size)⟩
            · have dc : decide (uz ≤ x) = false := by simpa using hc
              have HNT : Hid (nodeB vars ns j = true) := by show _ = _; rw [HND.out, HYB.out, HZB.out, decide_eq_true (by omega : x < uz)]; rfl
              go_quiet (fail)
              go_wp2_with fail
              go_roundw
              case rel =>
                refine ⟨j + 1, by omega, by go_num, fun q hq => ?_, belNext HVW.out (below_drewN (Below.refl _ _) _)⟩
                by_cases e : q = j
                · subst e; exact HNT.out
                · exact hall.out q (by omega)
              case measure => simp [intOf]; omega
        · have dy : decide ((1 : Int) < (qy : Int) + 2) = true := by simp; omega
          have wy : (qy : Int) + 2 - 2 = (qy : Int) := by omega
          have ty := (HNC.out qy (by omega))
          have HYB0 := hideN (HBQ.out qy hqy)
          obtain ⟨uy, huy⟩ : ∃ uy, (ns.getD qy (0, 0, 0)).1 = uy := ⟨_, rfl⟩
          rw [huy] at ty HYB0
          clear huy
          by_cases hcy : uy ≤ x
          · have dcy : decide (uy ≤ x) = true := by simpa using hcy
            have HNF : Hid (nodeB vars ns j = false) := by show _ = _; rw [HND.out, HYB0.out, decide_eq_false (by omega : ¬ x < uy)]; simp
            go_quiet (fail)
            go_wp2_with fail
            go_ret
            exact ⟨by rw [not_all_nodes (by omega) HNF.out]; rfl, HB1.out.trans (((belNext HVW.out (below_drewN (Below.refl _ _) _))).mono HB1.out.size)⟩
          · have dcy : decide (uy ≤ x) = false := by simpa using hcy
            have HYB : Hid (belowB ns j x ((qy : Int) + 2) = true) := by show _ = _; rw [HYB0.out, decide_eq_true (by omega : x < uy)]
            rcases hzc with hz2 | ⟨qz, rfl, hqz⟩
            · have dz : decide ((1 : Int) < z) = false := by simp; omega
              have HNT : Hid (nodeB vars ns j = true) := by show _ = _; rw [HND.out, HYB.out, HZS.out hz2]; rfl
              go_quiet (fail)
              go_wp2_with fail
              go_roundw
              case rel =>
                refine ⟨j + 1, by omega, by go_num, fun q hq => ?_, belNext HVW.out (below_drewN (Below.refl _ _) _)⟩
                by_cases e : q = j
                · subst e; exact HNT.out
                · exact hall.out q (by omega)
              case measure => simp [intOf]; omega
            · have dz : decide ((1 : Int) < (qz : Int) + 2) = true := by simp; omega
              have wz : (qz : Int) + 2 - 2 = (qz : Int) := by omega
              have tz := (HNC.out qz (by omega))
              have HZB := hideN (HBQ.out qz hqz)
              generalize (ns.getD qz (0, 0, 0)).1 = uz at *
              by_cases hc : uz ≤ x
              · have dc : decide (uz ≤ x) = true := by simpa using hc
                have HNF : Hid (nodeB vars ns j = false) := by show _ = _; rw [HND.out, HZB.out, decide_eq_false (by omega : ¬ x < uz)]; simp
                go_quiet (fail)
                go_wp2_with fail
                go_ret
                exact ⟨by rw [not_all_nodes (by omega) HNF.out]; rfl, HB1.out.trans (((belNext HVW.out (below_drewN (Below.refl _ _) _))).mono HB1.out.size)⟩
              · have dc : decide (uz ≤ x) = false := by simpa using hc
                have HNT : Hid (nodeB vars ns j = true) := by show _ = _; rw [HND.out, HYB.out, HZB.out, decide_eq_true (by omega : x < uz)]; rfl
                go_quiet (fail)
                go_wp2_with fail
                go_roundw
                case rel =>
                  refine ⟨j + 1, by omega, by go_num, fun q hq => ?_, belNext HVW.out (below_drewN (Below.refl _ _) _)⟩
                  by_cases e : q = j
                  · subst e; exact HNT.out
                  · exact hall.out q (by omega)
                case measure => simp [intOf]; omega
    · obtain rfl : j = n := by omega
      have HT : Hid ((List.range j).all (nodeB vars ns) = true) := all_nodes.2 hall.out
      have HBE : Hid (Below w.heap.size w wr) := HB1.out.trans (hbw.out.mono HB1.out.size)
      go_wp2_with fail
      go_ret
      exact ⟨by rw [HT.out]; rfl, HBE.out⟩

end Go.Proofs.Ytknpifjkllcdeaa

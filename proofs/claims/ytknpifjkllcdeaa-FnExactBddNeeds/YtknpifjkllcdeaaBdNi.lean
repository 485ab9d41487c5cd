/-
  The variables that matter: BddNeeds, of the program.
-/
import Derived.Test.YtknpifjkllcdeaaBdNb
import Derived.Test.YtknpifjkllcdeaaShelfN
import Derived.Test.YtknpifjkllcdeaaBdY
namespace Go.Proofs.Ytknpifjkllcdeaa
open Go.RowKit Go.Deep
set_option linter.unusedVariables false

attribute [local go_sem] Oper.semAt_some

theorem vars_take {ns : List Nd} {n j : Nat} (hn : ns.length = n) (hj : j < n) : (varsL ns).take (j + 1) = (varsL ns).take j ++ [(ns.getD j (0, 0, 0)).1] := by
  have hl : j < (varsL ns).length := by simp [varsL]; omega
  rw [List.take_succ_eq_append_getElem hl]
  congr 1
  simp [varsL, List.getD, List.getElem?_eq_getElem (show j < ns.length by omega)]

set_option maxRecDepth 100000 in
set_option maxHeartbeats 8000000 in
theorem implBddNeeds_any (vi root : Int) (ao : Option Addr) (n cap : Nat) (ns : List Nd) (w : World) (hN : Nds w ao n cap ns) (h64 : ∀ q ∈ ns, I64N q) (hr : I64 root) :
    Calls Try.prog 29 #[.agg #[.int .i64 vi, .slice ao n cap, .int .i64 root]] w (IntsPost (needsZ vi ns root) w) := by
  obtain ⟨W1, hW1⟩ : ∃ W1, W1 = w.alloc (.cells #[.int .i64 vi, .slice ao n cap, .int .i64 root] 25) := ⟨_, rfl⟩
  have HB1 : Hid (Below w.heap.size w W1) := by rw [hW1]; exact belOne _ _
  have HK := hideN (show BlkD W1 w.heap.size (.int .i64 vi) (.slice ao n cap) (.int .i64 root) by rw [hW1]; exact BlkD.new _ _ _ _)
  have HOK := hideN (implBddOk_any vi root ao n cap ns W1 (hN.below HB1.out) h64 hr)
  have HN := hideN (fun V (hV : Below w.heap.size w V) => hN.below hV)
  have HLEN := hideN hN.len
  have HW1 := hideN hW1
  obtain ⟨ib, hib, hz0, hz1, hz2⟩ := info_parts info_int
  have c0 := HK.out.c0
  have c1 := HK.out.c1
  have c2 := HK.out.c2
  have c3 := HK.out.lt
  clear hN hW1 h64 hr
  cases hbd : bddB vi ns root with
  | false =>
    have HE : Hid (needsZ vi ns root = []) := by show _ = _; unfold needsZ; rw [if_neg (by rw [hbd]; decide)]
    rw [hbd] at HOK
    clear hbd
    go_enter Try.func29, Try.ntmps29
    go_wp2_with fail
    rw [← HW1.out]
    refine HOK.out.mono ?_
    rintro e w1 ⟨rfl, hb⟩
    have HB := hideN (belNext HB1.out hb)
    clear hb c0 c1 c2 c3
    go_wp2_with fail
    exact bodyPost_ret (v := .slice none 0 0) (by simp [results, Try.results29, go_sem]) rfl (by show IntsPost _ w _ _; rw [HE.out]; exact ⟨_, _, rfl, owni_nil _ _ HB.out.size, HB.out⟩)
  | true =>
  obtain ⟨vars, rfl, h6, hn64, hok, hr0, hr1⟩ := bdd_split hbd
  have hn : n ≤ 64 := by rw [← HLEN.out]; exact hn64
  have HZ : Hid (needsZ (vars : Int) ns root = Lib.compact (sortL (varsL ns))) := by
    show _ = _
    unfold needsZ sortL
    rw [if_pos hbd, Int.toNat_natCast, needs_compact hok]
  have HVL : Hid ((varsL ns).length = n) := by show _ = _; simp [varsL]; exact HLEN.out
  have HVT := hideN (fun j (hj : j < n) => vars_take HLEN.out hj)
  rw [hbd] at HOK
  clear hbd hok hn64 hr1
  go_enter Try.func29, Try.ntmps29
  go_wp2_with fail
  rw [← HW1.out]
  refine HOK.out.mono ?_
  rintro e w1 ⟨rfl, hb⟩
  have HB := hideN (belNext HB1.out hb)
  have HK1 := hideN (HK.out.below hb)
  clear hb c0 c1 c2 c3
  have c0 := HK1.out.c0
  have c1 := HK1.out.c1
  have c2 := HK1.out.c2
  have c3 := HK1.out.lt
  go_wp2_with fail
  clear c0 c1 c2 c3
  go_loopw [3, 12] (fun o i wr => ∃ (a : Option Addr) (cp j : Nat), j ≤ n ∧ i = .int .i64 (j : Int) ∧ o = .slice a j cp ∧ Hid (wr.ownsRow w.heap.size 3 1 (.slice a j cp) j (((varsL ns).take j).map (Value.int .i64))) ∧ Hid (Below w.heap.size w wr)) (fun _ i _ => n - (intOf i).toNat)
  case atStart => exact ⟨none, 0, 0, Nat.zero_le _, rfl, rfl, World.ownsRow_nil _ _ _ _, HB⟩
  case round =>
    obtain ⟨a, cp, j, hj, rfl, rfl, hrow, hbw⟩ := hrel
    by_cases hlt : j < n
    · obtain ⟨b, off, hao, hcs⟩ := (HN.out wr hbw.out).cells (by omega)
      subst hao
      obtain ⟨e9, e1, e2⟩ := hcs j hlt
      have hvt := HVT.out j hlt
      generalize ns.getD j (0, 0, 0) = p at *
      obtain ⟨x, y, z⟩ := p
      have e0 : wr.cell? ⟨b, off + j * 3, none⟩ = some (.int .i64 x) := e9
      have e1 : wr.cell? ⟨b, off + j * 3 + 1, none⟩ = some (.int .i64 y) := e1
      have e2 : wr.cell? ⟨b, off + j * 3 + 2, none⟩ = some (.int .i64 z) := e2
      have HVT2 : Hid ((varsL ns).take (j + 1) = (varsL ns).take j ++ [x]) := hvt
      have HVW : Hid (Below wr.heap.size wr (wr.alloc (.cells #[.int .i64 x, .int .i64 y, .int .i64 z] 50))) := belOne _ _
      have HRV : Hid (((wr.alloc (.cells #[.int .i64 x, .int .i64 y, .int .i64 z] 50)).alloc (.cells #[.int .i64 x] 3)).ownsRow w.heap.size 3 1 (.slice a j cp) j (((varsL ns).take j).map (Value.int .i64))) := row_below (row_below hrow.out HVW.out) (belOne _ _)
      have hsz := hbw.out.size
      have hnw : ∀ k u, [Value.int .i64 x][k]? = some u → ((wr.alloc (.cells #[.int .i64 x, .int .i64 y, .int .i64 z] 50)).alloc (.cells #[.int .i64 x] 3)).cell? ((⟨wr.heap.size + 1, 0, none⟩ : Addr).add k) = some u := by
        have h := newsN (wr.alloc (.cells #[.int .i64 x, .int .i64 y, .int .i64 z] 50)) (.int .i64 x) 3
        rw [World.size_alloc] at h
        exact h
      have HNW := hideN hnw
      clear hcs e9 hvt hnw
      go_wp2_with (at_builtin; refine wpList_append_lies _ rfl _ _ 42 rfl w.heap.size 3 ib (.int .i64 0) 1 8 Try.underlying42 hib hz0 hz1 hz2 rfl (by decide) _ j (((varsL ns).take j).map (Value.int .i64)) rfl HRV.out ⟨wr.heap.size + 1, 0, none⟩ 1 1 [.int .i64 x] rfl rfl (by exact HNW.out) (by intro u hu; simp at hu; subst hu; rfl) (by decide) (by unfold maxLen; omega) (by omega) (by simp; omega) _ rfl ?_; intro gg gcap w8 hown8 hgrow8 hat8 hlt8)
      clear e0 e1 e2
      have HR8 : Hid (w8.ownsRow w.heap.size 3 1 (.slice (some ⟨gg, 0, none⟩) (j + 1) gcap) (j + 1) (((varsL ns).take (j + 1)).map (Value.int .i64))) := by
        rw [HVT2.out, List.map_append]
        exact hown8
      have HB8 : Hid (Below w.heap.size w w8) := (belNext (belNext hbw.out HVW.out) (belOne _ _)).grown hgrow8 (by simp; omega) (fun k e => (World.ownsRow.lt hrow.out k e).1)
      clear hown8 hgrow8 hat8 hlt8
      go_wp2_with fail
      go_roundw
      case rel => exact ⟨some ⟨gg, 0, none⟩, gcap, j + 1, by omega, by go_num, rfl, HR8, HB8⟩
      case measure => simp [intOf]; omega
    · obtain rfl : j = n := by omega
      have HOW : Hid (Owni wr w.heap.size (.slice a j cp) (varsL ns)) := by
        have h := hrow.out
        have ht : (varsL ns).take j = varsL ns := List.take_of_length_le (by rw [HVL.out]; exact Nat.le_refl _)
        rw [ht] at h
        show Owni _ _ _ _
        unfold Owni
        rw [HVL.out]
        exact h
      have HSO := hideN (sort_any w.heap.size j cp a (varsL ns) wr hbw.out.size HOW.out HVL.out hn)
      clear hrow
      go_wp2_with fail
      refine HSO.out.mono ?_
      rintro e w2 ⟨rfl, ho2, hb2⟩
      have HB2 := hideN (hb2 w.heap.size w hbw.out (Nat.le_refl _))
      have hl2 : (sortL (varsL ns)).length = j := by unfold sortL; rw [List.length_mergeSort]; exact HVL.out
      have HCO := hideN (compact_any w.heap.size j cp a (sortL (varsL ns)) w2 HB2.out.size ho2 hl2 hn)
      clear ho2 hb2 hl2
      go_wp2_with fail
      refine HCO.out.mono ?_
      rintro e w3 ⟨rfl, ho3, hb3⟩
      have HB3 := hideN (hb3 w.heap.size w HB2.out (Nat.le_refl _))
      have HO3 := hideN ho3
      rw [← HZ.out] at HO3 ⊢
      clear ho3 hb3
      go_wp2_with fail
      exact bodyPost_ret (v := .slice a (needsZ (vars : Int) ns root).length cp) (by simp [results, Try.results29, go_sem]) rfl ⟨_, _, rfl, HO3.out, HB3.out⟩

end Go.Proofs.Ytknpifjkllcdeaa

/-
  A circuit without what is needless: the program's withEnds.
-/
import Derived.Test.YtlahnihpdidanaaLess9
namespace Go.Proofs.Ytlahnihpdidanaa
open Go.RowKit Go.Deep Go.Shelf
set_option linter.unusedVariables false

attribute [local go_sem] Oper.semAt_some

set_option maxRecDepth 100000 in
set_option maxHeartbeats 4000000 in
theorem withEnds_any (inp : Int) (al aa ab : Option Addr) (cl ca cb : Nat) (ls : List (Int × Bool)) (xs : List (Int × Int)) (bs : List Int) (av : Option Addr) (na cv : Nat) (at' : Option Addr) (nt ct : Nat) (to : List Int) (n m : Nat) (w : World) (hC : IsCir w al aa ab cl ca cb ls xs bs) (ht : IsInts w (.slice at' nt ct) to) (hto : ToOk to n m) (hn : n ≤ 100) (hm : m ≤ 100) (hl8 : ls.length ≤ 8) (hb4 : bs.length ≤ 4) (hL : ∀ p ∈ ls, 0 ≤ p.1 ∧ p.1 < 2 * (n : Int)) (hB : ∀ x ∈ bs, 0 ≤ x ∧ x < 2 * (n : Int)) :
    Calls Try.prog 110 #[.agg #[.int .i64 inp, .slice al ls.length cl, .slice aa xs.length ca, .slice ab bs.length cb], .slice av na cv, .slice at' nt ct] w fun e w' => ∃ al' ab' cl' cb', e = .returned (.agg #[.int .i64 inp, .slice al' ls.length cl', .slice av na cv, .slice ab' bs.length cb']) ∧ w'.ownsRow w.heap.size 86 2 (.slice al' ls.length cl') ls.length (latV (mapLat to ls)) ∧ w'.ownsRow w.heap.size 3 1 (.slice ab' bs.length cb') bs.length (intV (mapBad to bs)) ∧ Below w.heap.size w w' := by
  have HC : Hid (∀ w', Below w.heap.size w w' → IsCir w' al aa ab cl ca cb ls xs bs) := fun w' h => hC.below h
  have HL := hideN hL
  have HBD := hideN hB
  have HNOW : Hid (∀ V x, Below w.heap.size w V → 0 ≤ x → x < 2 * (n : Int) → Calls Try.prog 109 #[.int .i64 x, .slice at' nt ct] V fun e w' => e = .returned (.int .i64 (mapL to x)) ∧ w' = V) := fun V x hV g0 g1 => now_any _ to x n m V (ht.below hV) hto g0 g1 hn hm
  obtain ⟨ib, hib, hzb0, hzb1, hzb2⟩ := info_parts info_int
  obtain ⟨il, hil, hzl0, hzl1, hzl2⟩ := info_parts info_latch
  obtain ⟨W1, hW1⟩ : ∃ W1, W1 = ((w.alloc (.cells #[.int .i64 inp, .slice al ls.length cl, .slice aa xs.length ca, .slice ab bs.length cb] 33)).alloc (.cells #[.int .i64 0, .slice none 0 0, .slice none 0 0, .slice none 0 0] 33)).alloc (.cells #[.int .i64 inp, .slice none 0 0, .slice av na cv, .slice none 0 0] 33) := ⟨_, rfl⟩
  have HS1 : Hid (Fst w W1 w.heap.size (w.heap.size + 1) (w.heap.size + 2) (w.heap.size + 3) inp (.slice al ls.length cl) (.slice aa xs.length ca) (.slice ab bs.length cb) (.slice none 0 0) (.slice av na cv) (.slice none 0 0)) := by
    rw [hW1]
    have hq := Own4.new (w.alloc (.cells #[.int .i64 inp, .slice al ls.length cl, .slice aa xs.length ca, .slice ab bs.length cb] 33)) 33 (.int .i64 0) (.slice none 0 0) (.slice none 0 0) (.slice none 0 0)
    have hc := Own4.new ((w.alloc (.cells #[.int .i64 inp, .slice al ls.length cl, .slice aa xs.length ca, .slice ab bs.length cb] 33)).alloc (.cells #[.int .i64 0, .slice none 0 0, .slice none 0 0, .slice none 0 0] 33)) 33 (.int .i64 inp) (.slice none 0 0) (.slice av na cv) (.slice none 0 0)
    rw [World.size_alloc] at hq
    rw [World.size_alloc, World.size_alloc] at hc
    exact ⟨((Own4.new _ _ _ _ _ _).below (belOne _ _)).below (belOne _ _), hq.below (belOne _ _), hc, belNext (belNext (belOne _ _) (belOne _ _)) (belOne _ _), Nat.le_refl _, by omega, by omega, by omega, by omega, by omega, by omega, by omega, by omega, by simp⟩
  have HW1 := hideN hW1
  have HLR : Hid (W1.ownsRow (w.heap.size + 3) 86 2 (.slice none 0 0) 0 (latV (mapLat to (ls.take 0)))) := World.ownsRow_nil _ _ _ _
  have k1 : ∀ V, Fst w V w.heap.size (w.heap.size + 1) (w.heap.size + 2) (w.heap.size + 3) inp (.slice al ls.length cl) (.slice aa xs.length ca) (.slice ab bs.length cb) (.slice none 0 0) (.slice av na cv) (.slice none 0 0) → V.cell? ⟨w.heap.size, 1, none⟩ = some (.slice al ls.length cl) := fun V h => h.b.four.c1
  have c1 := HS1.out.b.four.c1
  clear hC ht hto hn hm hL hB hW1 k1
  go_enter Try.func110, Try.ntmps110
  go_wp2_with fail
  rw [← HW1.out]
  go_loopw [19] (fun i wr => ∃ al' cl' j, j ≤ ls.length ∧ i = .int .i64 (j : Nat) ∧ Hid (wr.ownsRow (w.heap.size + 3) 86 2 (.slice al' j cl') j (latV (mapLat to (ls.take j)))) ∧ Hid (Fst w wr w.heap.size (w.heap.size + 1) (w.heap.size + 2) (w.heap.size + 3) inp (.slice al ls.length cl) (.slice aa xs.length ca) (.slice ab bs.length cb) (.slice al' j cl') (.slice av na cv) (.slice none 0 0))) (fun i _ => ls.length - (intOf i).toNat)
  case atStart => exact ⟨none, 0, 0, Nat.zero_le _, rfl, HLR, HS1⟩
  case round =>
    rename World => wh
    obtain ⟨al', cl', j, hj, rfl, hlr, hst⟩ := hrel
    by_cases hlt : j < ls.length
    · obtain ⟨bl, off, hao, hbb, hxc⟩ : ∃ bl off, al = some ⟨bl, off, none⟩ ∧ bl < w.heap.size ∧ ∀ W, Below w.heap.size w W → W.cell? ⟨bl, off + j * 2, none⟩ = some (.int .i64 (ls.getD j (0, false)).1) ∧ W.cell? ⟨bl, off + j * 2 + 1, none⟩ = some (.bool (ls.getD j (0, false)).2) := by
        obtain ⟨ao', cap', he, h⟩ := (HC.out w (Below.refl _ _)).isL
        obtain ⟨bl, off, ha, hc⟩ := h (by intro e; subst e; simp at hlt)
        injection he with e1 e2 e3
        refine ⟨bl, off, e1.trans ha, cell_lt (hc j hlt).1, fun W hW => ?_⟩
        obtain ⟨q1, q2⟩ := hc j hlt
        exact ⟨(hW.cell (p := ⟨bl, off + j * 2, none⟩) (cell_lt q1)).trans q1, (hW.cell (p := ⟨bl, off + j * 2 + 1, none⟩) (cell_lt q2)).trans q2⟩
      subst hao
      have hmem : ls.getD j (0, false) ∈ ls := by rw [List.getD, List.getElem?_eq_getElem hlt]; simp
      obtain ⟨hn0, hn1⟩ := HL.out _ hmem
      have HSU : Hid (latV (mapLat to (ls.take (j + 1))) = latV (mapLat to (ls.take j)) ++ [.int .i64 (mapL to (ls.getD j (0, false)).1), .bool (ls.getD j (0, false)).2]) := by
        show _ = _
        rw [List.take_succ_eq_append_getElem hlt]
        have e : ls.getD j (0, false) = ls[j] := by simp [List.getD, hlt]
        rw [e]
        unfold mapLat
        rw [List.map_append]
        exact latV_snoc _ _ _
      generalize ls.getD j (0, false) = x at *
      obtain ⟨nx, ini⟩ := x
      have s2 : wh.cell? ⟨bl, off + j * 2, none⟩ = some (.int .i64 nx) := (hxc _ hst.out.bel).1
      have s3 : wh.cell? ⟨bl, off + j * 2 + 1, none⟩ = some (.bool ini) := (hxc _ hst.out.bel).2
      have s7 : bl < wh.heap.size := cell_lt s2
      obtain ⟨P, hP⟩ : ∃ P, mapL to nx = P := ⟨_, rfl⟩
      have HMA : Hid (∀ V, Below w.heap.size w V → Calls Try.prog 109 #[.int .i64 nx, .slice at' nt ct] V fun e w' => e = .returned (.int .i64 P) ∧ w' = V) := fun V hV => by
        have h := HNOW.out V nx hV hn0 hn1
        rw [hP] at h
        exact h
      have HSU2 : Hid (latV (mapLat to (ls.take (j + 1))) = latV (mapLat to (ls.take j)) ++ [.int .i64 P, .bool ini]) := by show _ = _; rw [← hP]; exact HSU.out
      clear hP hxc hmem HSU hn0 hn1
      obtain ⟨V, hV⟩ : ∃ V, V = wh.alloc (.cells #[.int .i64 nx, .bool ini] 86) := ⟨_, rfl⟩
      have y0 : V.cell? ⟨wh.heap.size, 0, none⟩ = some (.int .i64 nx) := by rw [hV]; simp
      have y1 : V.cell? ⟨wh.heap.size, 1, none⟩ = some (.bool ini) := by rw [hV]; simp
      have HLV : Hid (V.ownsRow (w.heap.size + 3) 86 2 (.slice al' j cl') j (latV (mapLat to (ls.take j)))) := by rw [hV]; exact row_below hlr.out (belOne _ _)
      have HSV : Hid (Fst w V w.heap.size (w.heap.size + 1) (w.heap.size + 2) (w.heap.size + 3) inp (.slice (some ⟨bl, off, none⟩) ls.length cl) (.slice aa xs.length ca) (.slice ab bs.length cb) (.slice al' j cl') (.slice av na cv) (.slice none 0 0)) := by rw [hV]; exact hst.out.below (belOne _ _)
      have HYN : Hid ((Value.slice al' j cl').ownBlock ≠ some wh.heap.size) := fun e => by have := (World.ownsRow.lt hlr.out _ e).2; omega
      have HVD := hideN hV
      have s0 := HSV.out.c.four.c1
      have s4 := HSV.out.c.lt
      have s6 := HSV.out.c.fz 1
      have hyl : wh.heap.size < V.heap.size := cell_lt y0
      have hll := HSV.out.ll
      clear hV
      go_wp2_with fail
      rw [← HVD.out]
      clear s2 s3 s7
      refine region_S (fin := 12) (S := fun V => V.cell? ⟨w.heap.size + 2, 1, none⟩ = some (.slice al' j cl') ∧ V.cell? ⟨wh.heap.size, 0, none⟩ = some (.int .i64 nx) ∧ V.cell? ⟨wh.heap.size, 1, none⟩ = some (.bool ini)) (by kernel_rfl) ⟨s0, y0, y1⟩ (fun hHeld => ?walk1)
      case walk1 =>
      clear hHeld
      refine takeS (i := 0) (v := .pointer (some ⟨w.heap.size + 2, 1, none⟩)) rfl (by kernel_rfl) (by kernel_rfl) (by kernel_rfl) (by kernel_rfl) (fun _ _ _ h => h) (Or.inl ⟨by rfl, fun w hS => by obtain ⟨s0, y0, y1⟩ := hS; go_simp⟩) ⟨s0, y0, y1⟩ ?_
      simp only [List.getElem_toArray, List.getElem_cons_zero, Act.put, List.setIfInBounds_toArray, List.set_cons_zero, List.set_cons_succ]
      refine takeS (i := 1) (v := .slice al' j cl') rfl (by kernel_rfl) (by kernel_rfl) (by kernel_rfl) (by kernel_rfl) (fun _ _ _ h => h) (Or.inl ⟨by rfl, fun w hS => by obtain ⟨s0, y0, y1⟩ := hS; go_simp⟩) ⟨s0, y0, y1⟩ ?_
      simp only [List.getElem_toArray, List.getElem_cons_zero, List.getElem_cons_succ, Act.put, List.setIfInBounds_toArray, List.set_cons_zero, List.set_cons_succ]
      refine takeS (i := 2) (v := .pointer (some ⟨wh.heap.size, 0, none⟩)) rfl (by kernel_rfl) (by kernel_rfl) (by kernel_rfl) (by kernel_rfl) (fun _ _ _ h => h) (Or.inl ⟨by rfl, fun w hS => by obtain ⟨s0, y0, y1⟩ := hS; go_simp⟩) ⟨s0, y0, y1⟩ ?_
      simp only [List.getElem_toArray, List.getElem_cons_zero, List.getElem_cons_succ, Act.put, List.setIfInBounds_toArray, List.set_cons_zero, List.set_cons_succ]
      refine takeS (i := 3) (v := .int .i64 nx) rfl (by kernel_rfl) (by kernel_rfl) (by kernel_rfl) (by kernel_rfl) (fun _ _ _ h => h) (Or.inl ⟨by rfl, fun w hS => by obtain ⟨s0, y0, y1⟩ := hS; go_simp⟩) ⟨s0, y0, y1⟩ ?_
      simp only [List.getElem_toArray, List.getElem_cons_zero, List.getElem_cons_succ, Act.put, List.setIfInBounds_toArray, List.set_cons_zero, List.set_cons_succ]
      refine takeS (i := 4) (v := .slice at' nt ct) rfl (by kernel_rfl) (by kernel_rfl) (by kernel_rfl) (by kernel_rfl) (fun _ _ _ h => h) (Or.inl ⟨by rfl, fun w hS => by obtain ⟨s0, y0, y1⟩ := hS; go_simp⟩) ⟨s0, y0, y1⟩ ?_
      simp only [List.getElem_toArray, List.getElem_cons_zero, List.getElem_cons_succ, Act.put, List.setIfInBounds_toArray, List.set_cons_zero, List.set_cons_succ]
      refine takeS (i := 6) (v := .pointer (some ⟨wh.heap.size, 1, none⟩)) rfl (by kernel_rfl) (by kernel_rfl) (by kernel_rfl) (by kernel_rfl) (fun _ _ _ h => h) (Or.inl ⟨by rfl, fun w hS => by obtain ⟨s0, y0, y1⟩ := hS; go_simp⟩) ⟨s0, y0, y1⟩ ?_
      simp only [List.getElem_toArray, List.getElem_cons_zero, List.getElem_cons_succ, Act.put, List.setIfInBounds_toArray, List.set_cons_zero, List.set_cons_succ]
      refine takeS (i := 7) (v := .bool ini) rfl (by kernel_rfl) (by kernel_rfl) (by kernel_rfl) (by kernel_rfl) (fun _ _ _ h => h) (Or.inl ⟨by rfl, fun w hS => by obtain ⟨s0, y0, y1⟩ := hS; go_simp⟩) ⟨s0, y0, y1⟩ ?_
      simp only [List.getElem_toArray, List.getElem_cons_zero, List.getElem_cons_succ, Act.put, List.setIfInBounds_toArray, List.set_cons_zero, List.set_cons_succ]
      refine oneS (i := 5) (by kernel_rfl) rfl (by rfl) ?_
      simp only [List.getElem_toArray, List.getElem_cons_zero, List.getElem_cons_succ]
      go_simp
      refine (HMA.out _ (by exact below_drewN HSV.out.bel 1)).mono ?_
      rintro e w' ⟨rfl, hw'⟩
      obtain rfl := hw'.symm
      refine ⟨⟨s0, y0, y1⟩, ?_⟩
      refine takeS (i := 8) (v := .agg #[.int .i64 P, .bool ini]) rfl (by kernel_rfl) (by kernel_rfl) (by kernel_rfl) (by kernel_rfl) (fun _ _ _ h => h) (Or.inl ⟨by rfl, fun w hS => by obtain ⟨s0, y0, y1⟩ := hS; go_simp⟩) ⟨s0, y0, y1⟩ ?_
      simp only [List.getElem_toArray, List.getElem_cons_zero, List.getElem_cons_succ, Act.put, List.setIfInBounds_toArray, List.set_cons_zero, List.set_cons_succ]
      refine oneS (i := 9) (by kernel_rfl) rfl (by rfl) ?_
      simp only [List.getElem_toArray, List.getElem_cons_zero, List.getElem_cons_succ]
      go_simp
      have HBE : Hid (Below V.heap.size V (V.alloc (.cells #[.int .i64 P, .bool ini] 86)).drew) := below_drewN (belOne _ _) 1
      have HLD := hideN (row_below HLV.out HBE.out)
      refine oneS (i := 10) (by kernel_rfl) rfl (by rfl) ?_
      simp only [List.getElem_toArray, List.getElem_cons_zero, List.getElem_cons_succ]
      refine wp_append_lies _ (.tmp 24) (.tmp 32) 30 rfl (w.heap.size + 3) 86 il (.agg #[.int .i64 0, .bool false]) 2 16 Try.underlying30 hil hzl0 hzl1 hzl2 rfl (by decide) (.slice al' j cl') j (latV (mapLat to (ls.take j))) rfl HLD.out ⟨V.heap.size, 0, none⟩ 1 1 [.int .i64 P, .bool ini] rfl rfl (by exact news2 V _ _ _) (lat_oneCell _ _) (by decide) (by unfold maxLen; omega) (by omega) (by simp; omega) _ rfl ?_
      intro g gcap w9 hown9 hgrow9 hat9 hlt9
      have HS9 := hideN ((HSV.out.below HBE.out).grown hgrow9 (fun q e => (World.ownsRow.lt HLD.out q e).1))
      have HL9 : Hid (w9.ownsRow (w.heap.size + 3) 86 2 (.slice (some ⟨g, 0, none⟩) (j + 1) gcap) (j + 1) (latV (mapLat to (ls.take (j + 1))))) := by show World.ownsRow _ _ _ _ _ _ _; rw [HSU2.out]; exact hown9
      have hyb := hgrow9.block wh.heap.size (Nat.lt_of_lt_of_le hyl HBE.out.size) (fun e2 => HYN.out e2.symm)
      have q0 : w9.cell? ⟨wh.heap.size, 0, none⟩ = some (.int .i64 nx) := by rw [cellOfBlock hyb]; exact (HBE.out.cell (p := ⟨wh.heap.size, 0, none⟩) hyl).trans y0
      have q1 : w9.cell? ⟨wh.heap.size, 1, none⟩ = some (.bool ini) := by rw [cellOfBlock hyb]; exact (HBE.out.cell (p := ⟨wh.heap.size, 1, none⟩) hyl).trans y1
      clear hown9 hgrow9 hat9 hlt9 hyb s0 s4 s6 y0 y1
      have r0 := HS9.out.c.four.c1
      have r4 := HS9.out.c.lt
      have r6 := HS9.out.c.fz 1
      refine ⟨fun _ => ⟨r0, q0, q1⟩, ?_⟩
      simp only [Act.put, List.setIfInBounds_toArray, List.set_cons_zero, List.set_cons_succ]
      refine takeS (i := 11) (v := .pointer (some ⟨w.heap.size + 2, 1, none⟩)) rfl (by kernel_rfl) (by kernel_rfl) (by kernel_rfl) (by kernel_rfl) (fun _ _ _ h => h) (Or.inl ⟨by rfl, fun w hS => by obtain ⟨r0, q0, q1⟩ := hS; go_simp⟩) ⟨r0, q0, q1⟩ ?_
      simp only [List.getElem_toArray, List.getElem_cons_zero, List.getElem_cons_succ, Act.put, List.setIfInBounds_toArray, List.set_cons_zero, List.set_cons_succ]
      refine oneS (i := 12) (by kernel_rfl) rfl (by rfl) ?_
      simp only [List.getElem_toArray, List.getElem_cons_zero, List.getElem_cons_succ]
      go_simp
      refine doneS (by kernel_rfl) ?_ _
      have HS10 := hideN (HS9.out.set1 (.slice (some ⟨g, 0, none⟩) (j + 1) gcap))
      have HL10 := hideN (row_setC (i := 1) HL9.out HS9.out.cl (.slice (some ⟨g, 0, none⟩) (j + 1) gcap))
      clear r0 q0 q1 r4 r6 HS9 HL9
      go_wp2_with fail
      go_roundw
      case rel => exact ⟨_, gcap, j + 1, by omega, by go_num, HL10, HS10⟩
      case measure => simp [intOf]; omega
    · obtain rfl : j = ls.length := by omega
      have HLK : Hid (wh.ownsRow (w.heap.size + 3) 86 2 (.slice al' ls.length cl') ls.length (latV (mapLat to ls))) := by have h := hlr.out; rw [List.take_length] at h; exact h
      have HBR : Hid (wh.ownsRow (w.heap.size + 3) 3 1 (.slice none 0 0) 0 (intV (mapBad to (bs.take 0)))) := World.ownsRow_nil _ _ _ _
      have c3 := hst.out.b.four.c3
      clear hlr hlt hj c1
      go_wp2_with fail
      go_loopw [39] (fun i wr => ∃ ab' cb' j, j ≤ bs.length ∧ i = .int .i64 (j : Nat) ∧ Hid (wr.ownsRow (w.heap.size + 3) 3 1 (.slice ab' j cb') j (intV (mapBad to (bs.take j)))) ∧ Hid (wr.ownsRow (w.heap.size + 3) 86 2 (.slice al' ls.length cl') ls.length (latV (mapLat to ls))) ∧ Hid (Fst w wr w.heap.size (w.heap.size + 1) (w.heap.size + 2) (w.heap.size + 3) inp (.slice al ls.length cl) (.slice aa xs.length ca) (.slice ab bs.length cb) (.slice al' ls.length cl') (.slice av na cv) (.slice ab' j cb'))) (fun i _ => bs.length - (intOf i).toNat)
      case atStart => exact ⟨none, 0, 0, Nat.zero_le _, rfl, HBR, HLK, hst⟩
      case round =>
        rename World => V
        obtain ⟨ab', cb', j, hj, rfl, hbr, hlr, hst⟩ := hrel
        by_cases hlt : j < bs.length
        · obtain ⟨bb, off, hao, hbb, hxc⟩ : ∃ bb off, ab = some ⟨bb, off, none⟩ ∧ bb < w.heap.size ∧ ∀ W, Below w.heap.size w W → W.cell? ⟨bb, off + j, none⟩ = some (.int .i64 (bs.getD j 0)) := by
            obtain ⟨ao', cap', he, h⟩ := (HC.out w (Below.refl _ _)).isB
            obtain ⟨bb, off, ha, hc⟩ := h (by intro e; subst e; simp at hlt)
            injection he with e1 e2 e3
            refine ⟨bb, off, e1.trans ha, cell_lt (hc j hlt), fun W hW => ?_⟩
            exact (hW.cell (p := ⟨bb, off + j, none⟩) (cell_lt (hc j hlt))).trans (hc j hlt)
          subst hao
          have hmem : bs.getD j 0 ∈ bs := by rw [List.getD, List.getElem?_eq_getElem hlt]; simp
          obtain ⟨hn0, hn1⟩ := HBD.out _ hmem
          have HSU : Hid (intV (mapBad to (bs.take (j + 1))) = intV (mapBad to (bs.take j)) ++ [.int .i64 (mapL to (bs.getD j 0))]) := by
            show _ = _
            rw [List.take_succ_eq_append_getElem hlt]
            have e : bs.getD j 0 = bs[j] := by simp [List.getD, hlt]
            rw [e]
            unfold mapBad intV
            rw [List.map_append, List.map_append]
            rfl
          generalize bs.getD j 0 = nx at *
          have s2 : V.cell? ⟨bb, off + j, none⟩ = some (.int .i64 nx) := hxc _ hst.out.bel
          obtain ⟨P, hP⟩ : ∃ P, mapL to nx = P := ⟨_, rfl⟩
          have HMA : Hid (∀ V, Below w.heap.size w V → Calls Try.prog 109 #[.int .i64 nx, .slice at' nt ct] V fun e w' => e = .returned (.int .i64 P) ∧ w' = V) := fun V hV => by
            have h := HNOW.out V nx hV hn0 hn1
            rw [hP] at h
            exact h
          have HSU2 : Hid (intV (mapBad to (bs.take (j + 1))) = intV (mapBad to (bs.take j)) ++ [.int .i64 P]) := by show _ = _; rw [← hP]; exact HSU.out
          have s0 := hst.out.c.four.c3
          have s4 := hst.out.c.lt
          have s6 := hst.out.c.fz 3
          have hll := hst.out.ll
          clear hP hxc hmem HSU hn0 hn1 c3
          go_wp2_with fail
          clear s2
          refine region_S (fin := 8) (S := fun V => V.cell? ⟨w.heap.size + 2, 3, none⟩ = some (.slice ab' j cb')) (by kernel_rfl) s0 (fun hHeld => ?walk2)
          case walk2 =>
          clear hHeld
          refine takeS (i := 0) (v := .pointer (some ⟨w.heap.size + 2, 3, none⟩)) rfl (by kernel_rfl) (by kernel_rfl) (by kernel_rfl) (by kernel_rfl) (fun _ _ _ h => h) (Or.inl ⟨by rfl, fun w hS => by have s0 := hS; go_simp⟩) s0 ?_
          simp only [List.getElem_toArray, List.getElem_cons_zero, Act.put, List.setIfInBounds_toArray, List.set_cons_zero, List.set_cons_succ]
          refine takeS (i := 1) (v := .slice ab' j cb') rfl (by kernel_rfl) (by kernel_rfl) (by kernel_rfl) (by kernel_rfl) (fun _ _ _ h => h) (Or.inl ⟨by rfl, fun w hS => by have s0 := hS; go_simp⟩) s0 ?_
          simp only [List.getElem_toArray, List.getElem_cons_zero, List.getElem_cons_succ, Act.put, List.setIfInBounds_toArray, List.set_cons_zero, List.set_cons_succ]
          refine takeS (i := 2) (v := .int .i64 nx) rfl (by kernel_rfl) (by kernel_rfl) (by kernel_rfl) (by kernel_rfl) (fun _ _ _ h => h) (Or.inl ⟨by rfl, fun w hS => by have s0 := hS; go_simp⟩) s0 ?_
          simp only [List.getElem_toArray, List.getElem_cons_zero, List.getElem_cons_succ, Act.put, List.setIfInBounds_toArray, List.set_cons_zero, List.set_cons_succ]
          refine takeS (i := 3) (v := .slice at' nt ct) rfl (by kernel_rfl) (by kernel_rfl) (by kernel_rfl) (by kernel_rfl) (fun _ _ _ h => h) (Or.inl ⟨by rfl, fun w hS => by have s0 := hS; go_simp⟩) s0 ?_
          simp only [List.getElem_toArray, List.getElem_cons_zero, List.getElem_cons_succ, Act.put, List.setIfInBounds_toArray, List.set_cons_zero, List.set_cons_succ]
          refine oneS (i := 4) (by kernel_rfl) rfl (by rfl) ?_
          simp only [List.getElem_toArray, List.getElem_cons_zero, List.getElem_cons_succ]
          go_simp
          refine (HMA.out _ (by exact below_drewN hst.out.bel 1)).mono ?_
          rintro e w' ⟨rfl, hw'⟩
          obtain rfl := hw'.symm
          refine ⟨s0, ?_⟩
          refine oneS (i := 5) (by kernel_rfl) rfl (by rfl) ?_
          simp only [List.getElem_toArray, List.getElem_cons_zero, List.getElem_cons_succ]
          go_simp
          have HBE : Hid (Below V.heap.size V (V.alloc (.cells #[.int .i64 P] 3)).drew) := below_drewN (belOne _ _) 1
          have HLD := hideN (row_below hbr.out HBE.out)
          refine oneS (i := 6) (by kernel_rfl) rfl (by rfl) ?_
          simp only [List.getElem_toArray, List.getElem_cons_zero, List.getElem_cons_succ]
          refine wp_append_lies _ (.tmp 44) (.tmp 48) 24 rfl (w.heap.size + 3) 3 ib (.int .i64 0) 1 8 Try.underlying24 hib hzb0 hzb1 hzb2 rfl (by decide) (.slice ab' j cb') j (intV (mapBad to (bs.take j))) rfl HLD.out ⟨V.heap.size, 0, none⟩ 1 1 [.int .i64 P] rfl rfl (by exact news1 V _ _) (ints_oneCell .i64 [P]) (by decide) (by unfold maxLen; omega) (by omega) (by simp; omega) _ rfl ?_
          intro g gcap w9 hown9 hgrow9 hat9 hlt9
          have HS9 := hideN ((hst.out.below HBE.out).grown hgrow9 (fun q e => (World.ownsRow.lt HLD.out q e).1))
          have HL9 : Hid (w9.ownsRow (w.heap.size + 3) 86 2 (.slice al' ls.length cl') ls.length (latV (mapLat to ls))) := by have h := row_below hlr.out HBE.out; exact row_of_block h (fun q e => hgrow9.block q (World.ownsRow.lt h q e).2 (fun e2 => rows_apart h HLD.out (by decide) q e e2.symm))
          have HB9 : Hid (w9.ownsRow (w.heap.size + 3) 3 1 (.slice (some ⟨g, 0, none⟩) (j + 1) gcap) (j + 1) (intV (mapBad to (bs.take (j + 1))))) := by show World.ownsRow _ _ _ _ _ _ _; rw [HSU2.out]; exact hown9
          clear hown9 hgrow9 hat9 hlt9 s0 s4 s6
          have r0 := HS9.out.c.four.c3
          have r4 := HS9.out.c.lt
          have r6 := HS9.out.c.fz 3
          refine ⟨fun _ => r0, ?_⟩
          simp only [Act.put, List.setIfInBounds_toArray, List.set_cons_zero, List.set_cons_succ]
          refine takeS (i := 7) (v := .pointer (some ⟨w.heap.size + 2, 3, none⟩)) rfl (by kernel_rfl) (by kernel_rfl) (by kernel_rfl) (by kernel_rfl) (fun _ _ _ h => h) (Or.inl ⟨by rfl, fun w hS => by have r0 := hS; go_simp⟩) r0 ?_
          simp only [List.getElem_toArray, List.getElem_cons_zero, List.getElem_cons_succ, Act.put, List.setIfInBounds_toArray, List.set_cons_zero, List.set_cons_succ]
          refine oneS (i := 8) (by kernel_rfl) rfl (by rfl) ?_
          simp only [List.getElem_toArray, List.getElem_cons_zero, List.getElem_cons_succ]
          go_simp
          refine doneS (by kernel_rfl) ?_ _
          have HS10 := hideN (HS9.out.set3 (.slice (some ⟨g, 0, none⟩) (j + 1) gcap))
          have HL10 := hideN (row_setC (i := 3) HL9.out HS9.out.cl (.slice (some ⟨g, 0, none⟩) (j + 1) gcap))
          have HB10 := hideN (row_setC (i := 3) HB9.out HS9.out.cl (.slice (some ⟨g, 0, none⟩) (j + 1) gcap))
          clear r0 r4 r6 HS9 HL9 HB9
          go_wp2_with fail
          go_roundw
          case rel => first | exact ⟨_, gcap, j + 1, by omega, by go_num, HB10, HL10, HS10⟩ | exact ⟨_, gcap, j + 1, by omega, by go_num, HB10, HS10⟩
          case measure => simp [intOf]; omega
        · obtain rfl : j = bs.length := by omega
          have HBK : Hid (V.ownsRow (w.heap.size + 3) 3 1 (.slice ab' bs.length cb') bs.length (intV (mapBad to bs))) := by have h := hbr.out; rw [List.take_length] at h; exact h
          have d0 := hst.out.c.four.c0
          have d1 := hst.out.c.four.c1
          have d2 := hst.out.c.four.c2
          have d3 := hst.out.c.four.c3
          have d4 := hst.out.c.lt
          have m2 := hst.out.q.lt
          have m3 := hst.out.q.fz 0
          have m4 := hst.out.q.fz 1
          have m5 := hst.out.q.fz 2
          have m6 := hst.out.q.fz 3
          have m7 := hst.out.q.four.c0
          have m8 := hst.out.q.four.c1
          have m9 := hst.out.q.four.c2
          have m10 := hst.out.q.four.c3
          have hqq := (((hst.out.q.set0 (.int .i64 inp)).set1 (.slice al' ls.length cl')).set2 (.slice av na cv)).set3 (.slice ab' bs.length cb')
          have u0 := hqq.four.c0
          have u1 := hqq.four.c1
          have u2 := hqq.four.c2
          have u3 := hqq.four.c3
          clear hqq hbr
          have hq3 : w.heap.size + 1 < w.heap.size + 3 := by omega
          have HLE := hideN (row_base (row_setC (i := 3) (row_setC (i := 2) (row_setC (i := 1) (row_setC (i := 0) hlr.out hq3 (.int .i64 inp)) hq3 (.slice al' ls.length cl')) hq3 (.slice av na cv)) hq3 (.slice ab' bs.length cb')) (show w.heap.size ≤ w.heap.size + 3 by omega))
          have HBK2 := hideN (row_base (row_setC (i := 3) (row_setC (i := 2) (row_setC (i := 1) (row_setC (i := 0) HBK.out hq3 (.int .i64 inp)) hq3 (.slice al' ls.length cl')) hq3 (.slice av na cv)) hq3 (.slice ab' bs.length cb')) (show w.heap.size ≤ w.heap.size + 3 by omega))
          have hwq : w.heap.size ≤ w.heap.size + 1 := by omega
          have HBE := hideN ((((hst.out.bel.setCell (p := ⟨w.heap.size + 1, 0, none⟩) hwq (.int .i64 inp)).setCell (p := ⟨w.heap.size + 1, 1, none⟩) hwq (.slice al' ls.length cl')).setCell (p := ⟨w.heap.size + 1, 2, none⟩) hwq (.slice av na cv)).setCell (p := ⟨w.heap.size + 1, 3, none⟩) hwq (.slice ab' bs.length cb'))
          go_wp2
          refine bodyPost_ret (v := .agg #[.int .i64 inp, .slice al' ls.length cl', .slice av na cv, .slice ab' bs.length cb']) (by simp [results, Try.results110, go_sem, u0, u1, u2, u3]) rfl ⟨al', ab', cl', cb', rfl, HLE.out, HBK2.out, HBE.out⟩

end Go.Proofs.Ytlahnihpdidanaa

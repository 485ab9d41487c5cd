/-
  A circuit without what is needless: the program's small functions: opposite, now.
  A circuit without what is needless: the program's startOf.
  A circuit without what is needless: the program's withEnds.
  A circuit without what is needless: the map from ands to what they mean, told by the list of ands.
-/
import Derived.Test.YtbdjdgamnnifjaaLess7
import Derived.Test.YtbdjdgamnnifjaaLess1
import Derived.Test.YtbdjdgamnnifjaaAigOpen
import Derived.Maps.OwnSet
import Derived.DeepKeys4
namespace Go.Proofs.Ytbdjdgamnnifjaa
open Go.RowKit Go.Deep Go.Shelf
set_option linter.unusedVariables false

attribute [local go_sem] Oper.semAt_some

theorem bits_xor1 (x : Int) (h0 : 0 ≤ x) (h1 : x ≤ 200) : Go.bits .xor .i64 x 1 = opp x := by
  obtain ⟨n, rfl⟩ := Int.eq_ofNat_of_zero_le h0
  have h : ∀ m : Fin 201, Go.bits .xor .i64 ((m.val : Nat) : Int) 1 = opp ((m.val : Nat) : Int) := by decide +kernel
  exact h ⟨n, by omega⟩

set_option maxHeartbeats 400000 in
theorem oppos_any (x : Int) (w : World) (h0 : 0 ≤ x) (h1 : x ≤ 200) :
    Calls Try.prog 105 #[.int .i64 x] w fun e w' => e = .returned (.int .i64 (opp x)) ∧ w' = w := by
  have hb := bits_xor1 x h0 h1
  clear h0 h1
  go_enter Try.func105, Try.ntmps105
  go_wp2
  go_ret
  exact ⟨rfl, rfl⟩

set_option maxHeartbeats 1000000 in
/-- What a meaning has become. -/
theorem now_any (v : Value) (to : List Int) (x : Int) (n m : Nat) (w : World) (hv : IsInts w v to) (ht : ToOk to n m) (h0 : 0 ≤ x) (h1 : x < 2 * (n : Int)) (hn : n ≤ 100) (hm : m ≤ 100) :
    Calls Try.prog 109 #[.int .i64 x, v] w fun e w' => e = .returned (.int .i64 (mapL to x)) ∧ w' = w := by
  obtain ⟨ao, cap, rfl, hv⟩ := hv
  have hlen := ht.len
  obtain ⟨b, off, rfl, hc⟩ := hv (by intro e; subst e; simp at hlen; omega)
  obtain ⟨k, hk⟩ : ∃ k : Nat, x / 2 = (k : Int) := ⟨(x / 2).toNat, by omega⟩
  have hkl : k < to.length := by omega
  have hcell := hc k hkl
  have hr : mapL to x = if (x % 2 == 1) = true then opp (to.getD k 0) else to.getD k 0 := by
    unfold mapL; rw [hk, Int.toNat_natCast]
    simp
  have hval := ht.val k (by omega)
  have hh : halfW x = (k : Int) := by rw [halfW_eq h0 (by unfold I64; omega), hk]
  have HN : Hid (∀ w, Calls Try.prog 72 #[.int .i64 x] w fun e w' => e = .returned (.int .i64 (k : Int)) ∧ w' = w) := fun w => by rw [← hh]; exact node_any x w
  rw [hr]
  obtain ⟨g, hg⟩ : ∃ g, (x % 2 == 1) = g := ⟨_, rfl⟩
  rw [hg]
  have HO : Hid (∀ w, Calls Try.prog 98 #[.int .i64 x] w fun e w' => e = .returned (.bool g) ∧ w' = w) := fun w => by rw [← hg]; exact isOpposite_any x w h0 (by omega)
  have HP : Hid (∀ w, Calls Try.prog 105 #[.int .i64 (to.getD k 0)] w fun e w' => e = .returned (.int .i64 (opp (to.getD k 0))) ∧ w' = w) := fun w => oppos_any _ w hval.1 (by omega)
  clear hc hv hr hk hg hh hval h1 hn hm
  generalize to.getD k 0 = y at *
  generalize to.length = q at *
  clear hlen ht h0
  go_enter Try.func109, Try.ntmps109
  go_wp2_with fail
  refine (HO.out _).mono ?_
  rintro e w' ⟨rfl, hw'⟩
  obtain rfl := hw'.symm
  cases g with
  | false =>
    go_wp2_with fail
    refine (HN.out _).mono ?_
    rintro e w' ⟨rfl, hw'⟩
    obtain rfl := hw'.symm
    go_wp2_with fail
    go_ret
    exact ⟨rfl, rfl⟩
  | true =>
    go_wp2_with fail
    refine (HN.out _).mono ?_
    rintro e w' ⟨rfl, hw'⟩
    obtain rfl := hw'.symm
    go_wp2_with fail
    refine (HP.out _).mono ?_
    rintro e w' ⟨rfl, hw'⟩
    obtain rfl := hw'.symm
    go_wp2_with fail
    go_ret
    exact ⟨rfl, rfl⟩

end Go.Proofs.Ytbdjdgamnnifjaa

namespace Go.Proofs.Ytbdjdgamnnifjaa
open Go.RowKit Go.Deep Go.Shelf
set_option linter.unusedVariables false

attribute [local go_sem] Oper.semAt_some

theorem info_meaning : (Try.prog.info? 79).map (fun i => (i.zero, i.size, i.bytes)) = some (some (.int .i64 0), 1, 8) := by kernel_rfl

set_option maxHeartbeats 400000 in
theorem meaningOf_any (x : Int) (w : World) (h0 : 0 ≤ x) (h1 : x ≤ 1000) :
    Calls Try.prog 78 #[.int .i64 x] w fun e w' => e = .returned (.int .i64 (2 * x)) ∧ w' = w := by
  have hw : IntKind.i64.wrap (2 * x) = 2 * x := by rw [IntKind.wrap_i64]; omega
  clear h0 h1
  go_enter Try.func78, Try.ntmps78
  go_wp2
  go_ret
  exact ⟨rfl, rfl⟩

set_option maxRecDepth 100000 in
set_option maxHeartbeats 2000000 in
theorem startOf_any (inp : Int) (al aa ab : Option Addr) (cl ca cb : Nat) (ls : List (Int × Bool)) (xs : List (Int × Int)) (bs : List Int) (F : Nat) (w : World) (h0 : 0 ≤ inp) (h8 : inp ≤ 8) (hl8 : ls.length ≤ 8) (hF : (F : Int) = 1 + inp + ls.length) :
    Calls Try.prog 108 #[.agg #[.int .i64 inp, .slice al ls.length cl, .slice aa xs.length ca, .slice ab bs.length cb]] w fun e w' => ∃ ao cap, e = .returned (.slice ao F cap) ∧ w'.ownsRow w.heap.size 79 1 (.slice ao F cap) F (intV (start2 F)) ∧ Below w.heap.size w w' := by
  have HFA : Hid (∀ V, Calls Try.prog 97 #[.agg #[.int .i64 inp, .slice al ls.length cl, .slice aa xs.length ca, .slice ab bs.length cb]] V fun e w' => e = .returned (.int .i64 (F : Int)) ∧ Below V.heap.size V w') := fun V => by rw [hF]; exact firstAnd_any _ _ _ _ _ _ _ _ _ _ _ h0 h8 hl8
  have hF17 : F ≤ 17 := by omega
  obtain ⟨im, him, hzm0, hzm1, hzm2⟩ := info_parts info_meaning
  clear hF h0 h8 hl8
  go_enter Try.func108, Try.ntmps108
  go_wp2_with fail
  refine (HFA.out _).mono ?_
  rintro e w1 ⟨rfl, hb1⟩
  have HB1 : Hid (Below w.heap.size w w1) := belNext (belOne _ _) hb1
  have HR1 : Hid (w1.ownsRow w.heap.size 79 1 (.slice none 0 0) 0 (intV ((start2 F).take 0))) := World.ownsRow_nil _ _ _ _
  clear hb1
  go_wp2_with fail
  go_loopw [3, 7] (fun t i wr => ∃ at' k cp, k ≤ F ∧ i = .int .i64 (k : Nat) ∧ t = .slice at' k cp ∧ Hid (wr.ownsRow w.heap.size 79 1 (.slice at' k cp) k (intV ((start2 F).take k))) ∧ Hid (Below w.heap.size w wr)) (fun _ i _ => F - (intOf i).toNat)
  case atStart => exact ⟨none, 0, 0, Nat.zero_le _, rfl, rfl, HR1, HB1⟩
  case round =>
    rename World => wg
    obtain ⟨at', k, cp, hk, rfl, rfl, hto, hbel⟩ := hrel
    by_cases hlt : k < F
    · have dlt : decide ((k : Int) < (F : Int)) = true := by simp; omega
      have HSU : Hid (intV ((start2 F).take (k + 1)) = intV ((start2 F).take k) ++ [.int .i64 (2 * (k : Int))]) := by show _ = _; rw [start2_take_succ F k hlt]; simp [intV]
      have HM := hideN (meaningOf_any (k : Int) wg (by omega) (by omega))
      have hsz := hbel.out.size
      have HOM := hideN (row_below hto.out (belOne wg (.cells #[.int .i64 (2 * (k : Int))] 79)))
      go_wp2_with fail
      refine HM.out.mono ?_
      rintro e w' ⟨rfl, hw'⟩
      obtain rfl := hw'.symm
      go_wp2_with (at_builtin; refine wpList_append_lies _ rfl _ _ 121 rfl w.heap.size 79 im (.int .i64 0) 1 8 Try.underlying121 him hzm0 hzm1 hzm2 rfl (by decide) _ k (intV ((start2 F).take k)) rfl HOM.out ⟨wg.heap.size, 0, none⟩ 1 1 [.int .i64 (2 * (k : Int))] rfl rfl (news1 _ _ _) (ints_oneCell .i64 [2 * (k : Int)]) (by decide) (by unfold maxLen; omega) (by omega) (by simp; omega) _ rfl ?_; intro g gcap w9 hown9 hgrow9 hat9 hlt9)
      have HO9 : Hid (w9.ownsRow w.heap.size 79 1 (.slice (some ⟨g, 0, none⟩) (k + 1) gcap) (k + 1) (intV ((start2 F).take (k + 1)))) := by show World.ownsRow _ _ _ _ _ _ _; rw [HSU.out]; exact hown9
      have HB9 : Hid (Below w.heap.size w w9) := (belNext hbel.out (belOne _ _)).grown hgrow9 (by simp; omega) (fun q e => (World.ownsRow.lt HOM.out q e).1)
      clear hown9 hgrow9 hat9 hlt9
      go_wp2_with fail
      go_roundw
      case rel => exact ⟨_, k + 1, gcap, by omega, by go_num, rfl, HO9, HB9⟩
      case measure => simp [intOf]; omega
    · obtain rfl : k = F := by omega
      have dlt : decide ((k : Int) < (k : Int)) = false := by simp
      have HTK : Hid (wg.ownsRow w.heap.size 79 1 (.slice at' k cp) k (intV (start2 k))) := by have h := hto.out; rw [List.take_of_length_le (by rw [start2_length]; exact Nat.le_refl _)] at h; exact h
      go_wp2_with fail
      go_ret
      exact ⟨_, _, rfl, HTK.out, hbel.out⟩

end Go.Proofs.Ytbdjdgamnnifjaa

namespace Go.Proofs.Ytbdjdgamnnifjaa
open Go.RowKit Go.Deep Go.Shelf
set_option linter.unusedVariables false

attribute [local go_sem] Oper.semAt_some

set_option maxRecDepth 100000 in
set_option maxHeartbeats 4000000 in
theorem withEnds_any (inp : Int) (al aa ab : Option Addr) (cl ca cb : Nat) (ls : List (Int × Bool)) (xs : List (Int × Int)) (bs : List Int) (av : Option Addr) (na cv : Nat) (at' : Option Addr) (nt ct : Nat) (to : List Int) (n m : Nat) (w : World) (hC : IsCir w al aa ab cl ca cb ls xs bs) (ht : IsInts w (.slice at' nt ct) to) (hto : ToOk to n m) (hn : n ≤ 100) (hm : m ≤ 100) (hl8 : ls.length ≤ 8) (hb4 : bs.length ≤ 4) (hL : ∀ p ∈ ls, 0 ≤ p.1 ∧ p.1 < 2 * (n : Int)) (hB : ∀ x ∈ bs, 0 ≤ x ∧ x < 2 * (n : Int)) :
    Calls Try.prog 110 #[.agg #[.int .i64 inp, .slice al ls.length cl, .slice aa xs.length ca, .slice ab bs.length cb], .slice av na cv, .slice at' nt ct] w fun e w' => ∃ al' ab' cl' cb', e = .returned (.agg #[.int .i64 inp, .slice al' ls.length cl', .slice av na cv, .slice ab' bs.length cb']) ∧ w'.ownsRow w.heap.size 86 2 (.slice al' ls.length cl') ls.length (latV (mapLat to ls)) ∧ w'.ownsRow w.heap.size 3 1 (.slice ab' bs.length cb') bs.length (intV (mapBad to bs)) ∧ Below w.heap.size w w' := by
  have HC : Hid (∀ w', Below w.heap.size w w' → IsCir w' al aa ab cl ca cb ls xs bs) := fun w' h => hC.below h
  have HL := hideN hL
  have HBD := hideN hB
  have HNOW : Hid (∀ V x, Below w.heap.size w V → 0 ≤ x → x < 2 * (n : Int) → Calls Try.prog 109 #[.int .i64 x, .slice at' nt ct] V fun e w' => e = .returned (.int .i64 (mapL to x)) ∧ w' = V) := fun V x hV g0 g1 => now_any _ to x n m V (ht.below hV) hto g0 g1 hn hm
  obtain ⟨ib, hib, hzb0, hzb1, hzb2⟩ := info_parts info_int
  obtain ⟨il, hil, hzl0, hzl1, hzl2⟩ := info_parts info_latch
  obtain ⟨W1, hW1⟩ : ∃ W1, W1 = ((w.alloc (.cells #[.int .i64 inp, .slice al ls.length cl, .slice aa xs.length ca, .slice ab bs.length cb] 33)).alloc (.cells #[.int .i64 0, .slice none 0 0, .slice none 0 0, .slice none 0 0] 33)).alloc (.cells #[.int .i64 inp, .slice none 0 0, .slice av na cv, .slice none 0 0] 33) := ⟨_, rfl⟩
  have HS1 : Hid (Fst w W1 w.heap.size (w.heap.size + 1) (w.heap.size + 2) (w.heap.size + 3) inp (.slice al ls.length cl) (.slice aa xs.length ca) (.slice ab bs.length cb) (.slice none 0 0) (.slice av na cv) (.slice none 0 0)) := by
    rw [hW1]
    have hq := Own4.new (w.alloc (.cells #[.int .i64 inp, .slice al ls.length cl, .slice aa xs.length ca, .slice ab bs.length cb] 33)) 33 (.int .i64 0) (.slice none 0 0) (.slice none 0 0) (.slice none 0 0)
    have hc := Own4.new ((w.alloc (.cells #[.int .i64 inp, .slice al ls.length cl, .slice aa xs.length ca, .slice ab bs.length cb] 33)).alloc (.cells #[.int .i64 0, .slice none 0 0, .slice none 0 0, .slice none 0 0] 33)) 33 (.int .i64 inp) (.slice none 0 0) (.slice av na cv) (.slice none 0 0)
    rw [World.size_alloc] at hq
    rw [World.size_alloc, World.size_alloc] at hc
    exact ⟨((Own4.new _ _ _ _ _ _).below (belOne _ _)).below (belOne _ _), hq.below (belOne _ _), hc, belNext (belNext (belOne _ _) (belOne _ _)) (belOne _ _), Nat.le_refl _, by omega, by omega, by omega, by omega, by omega, by omega, by omega, by omega, by simp⟩
  have HW1 := hideN hW1
  have HLR : Hid (W1.ownsRow (w.heap.size + 3) 86 2 (.slice none 0 0) 0 (latV (mapLat to (ls.take 0)))) := World.ownsRow_nil _ _ _ _
  have k1 : ∀ V, Fst w V w.heap.size (w.heap.size + 1) (w.heap.size + 2) (w.heap.size + 3) inp (.slice al ls.length cl) (.slice aa xs.length ca) (.slice ab bs.length cb) (.slice none 0 0) (.slice av na cv) (.slice none 0 0) → V.cell? ⟨w.heap.size, 1, none⟩ = some (.slice al ls.length cl) := fun V h => h.b.four.c1
  have c1 := HS1.out.b.four.c1
  clear hC ht hto hn hm hL hB hW1 k1
  go_enter Try.func110, Try.ntmps110
  go_wp2_with fail
  rw [← HW1.out]
  go_loopw [19] (fun i wr => ∃ al' cl' j, j ≤ ls.length ∧ i = .int .i64 (j : Nat) ∧ Hid (wr.ownsRow (w.heap.size + 3) 86 2 (.slice al' j cl') j (latV (mapLat to (ls.take j)))) ∧ Hid (Fst w wr w.heap.size (w.heap.size + 1) (w.heap.size + 2) (w.heap.size + 3) inp (.slice al ls.length cl) (.slice aa xs.length ca) (.slice ab bs.length cb) (.slice al' j cl') (.slice av na cv) (.slice none 0 0))) (fun i _ => ls.length - (intOf i).toNat)
  case atStart => exact ⟨none, 0, 0, Nat.zero_le _, rfl, HLR, HS1⟩
  case round =>
    rename World => wh
    obtain ⟨al', cl', j, hj, rfl, hlr, hst⟩ := hrel
    by_cases hlt : j < ls.length
    · obtain ⟨bl, off, hao, hbb, hxc⟩ : ∃ bl off, al = some ⟨bl, off, none⟩ ∧ bl < w.heap.size ∧ ∀ W, Below w.heap.size w W → W.cell? ⟨bl, off + j * 2, none⟩ = some (.int .i64 (ls.getD j (0, false)).1) ∧ W.cell? ⟨bl, off + j * 2 + 1, none⟩ = some (.bool (ls.getD j (0, false)).2) := by
        obtain ⟨ao', cap', he, h⟩ := (HC.out w (Below.refl _ _)).isL
        obtain ⟨bl, off, ha, hc⟩ := h (by intro e; subst e; simp at hlt)
        injection he with e1 e2 e3
        refine ⟨bl, off, e1.trans ha, cell_lt (hc j hlt).1, fun W hW => ?_⟩
        obtain ⟨q1, q2⟩ := hc j hlt
        exact ⟨(hW.cell (p := ⟨bl, off + j * 2, none⟩) (cell_lt q1)).trans q1, (hW.cell (p := ⟨bl, off + j * 2 + 1, none⟩) (cell_lt q2)).trans q2⟩
      subst hao
      have hmem : ls.getD j (0, false) ∈ ls := by rw [List.getD, List.getElem?_eq_getElem hlt]; simp
      obtain ⟨hn0, hn1⟩ := HL.out _ hmem
      have HSU : Hid (latV (mapLat to (ls.take (j + 1))) = latV (mapLat to (ls.take j)) ++ [.int .i64 (mapL to (ls.getD j (0, false)).1), .bool (ls.getD j (0, false)).2]) := by
        show _ = _
        rw [List.take_succ_eq_append_getElem hlt]
        have e : ls.getD j (0, false) = ls[j] := by simp [List.getD, hlt]
        rw [e]
        unfold mapLat
        rw [List.map_append]
        exact latV_snoc _ _ _
      generalize ls.getD j (0, false) = x at *
      obtain ⟨nx, ini⟩ := x
      have s2 : wh.cell? ⟨bl, off + j * 2, none⟩ = some (.int .i64 nx) := (hxc _ hst.out.bel).1
      have s3 : wh.cell? ⟨bl, off + j * 2 + 1, none⟩ = some (.bool ini) := (hxc _ hst.out.bel).2
      have s7 : bl < wh.heap.size := cell_lt s2
      obtain ⟨P, hP⟩ : ∃ P, mapL to nx = P := ⟨_, rfl⟩
      have HMA : Hid (∀ V, Below w.heap.size w V → Calls Try.prog 109 #[.int .i64 nx, .slice at' nt ct] V fun e w' => e = .returned (.int .i64 P) ∧ w' = V) := fun V hV => by
        have h := HNOW.out V nx hV hn0 hn1
        rw [hP] at h
        exact h
      have HSU2 : Hid (latV (mapLat to (ls.take (j + 1))) = latV (mapLat to (ls.take j)) ++ [.int .i64 P, .bool ini]) := by show _ = _; rw [← hP]; exact HSU.out
      clear hP hxc hmem HSU hn0 hn1
      obtain ⟨V, hV⟩ : ∃ V, V = wh.alloc (.cells #[.int .i64 nx, .bool ini] 86) := ⟨_, rfl⟩
      have y0 : V.cell? ⟨wh.heap.size, 0, none⟩ = some (.int .i64 nx) := by rw [hV]; simp
      have y1 : V.cell? ⟨wh.heap.size, 1, none⟩ = some (.bool ini) := by rw [hV]; simp
      have HLV : Hid (V.ownsRow (w.heap.size + 3) 86 2 (.slice al' j cl') j (latV (mapLat to (ls.take j)))) := by rw [hV]; exact row_below hlr.out (belOne _ _)
      have HSV : Hid (Fst w V w.heap.size (w.heap.size + 1) (w.heap.size + 2) (w.heap.size + 3) inp (.slice (some ⟨bl, off, none⟩) ls.length cl) (.slice aa xs.length ca) (.slice ab bs.length cb) (.slice al' j cl') (.slice av na cv) (.slice none 0 0)) := by rw [hV]; exact hst.out.below (belOne _ _)
      have HYN : Hid ((Value.slice al' j cl').ownBlock ≠ some wh.heap.size) := fun e => by have := (World.ownsRow.lt hlr.out _ e).2; omega
      have HVD := hideN hV
      have s0 := HSV.out.c.four.c1
      have s4 := HSV.out.c.lt
      have s6 := HSV.out.c.fz 1
      have hyl : wh.heap.size < V.heap.size := cell_lt y0
      have hll := HSV.out.ll
      clear hV
      go_wp2_with fail
      rw [← HVD.out]
      clear s2 s3 s7
      refine region_S (fin := 12) (S := fun V => V.cell? ⟨w.heap.size + 2, 1, none⟩ = some (.slice al' j cl') ∧ V.cell? ⟨wh.heap.size, 0, none⟩ = some (.int .i64 nx) ∧ V.cell? ⟨wh.heap.size, 1, none⟩ = some (.bool ini)) (by kernel_rfl) ⟨s0, y0, y1⟩ (fun hHeld => ?walk1)
      case walk1 =>
      clear hHeld
      refine takeS (i := 0) (v := .pointer (some ⟨w.heap.size + 2, 1, none⟩)) rfl (by kernel_rfl) (by kernel_rfl) (by kernel_rfl) (by kernel_rfl) (fun _ _ _ h => h) (Or.inl ⟨by rfl, fun w hS => by obtain ⟨s0, y0, y1⟩ := hS; go_simp⟩) ⟨s0, y0, y1⟩ ?_
      simp only [List.getElem_toArray, List.getElem_cons_zero, Act.put, List.setIfInBounds_toArray, List.set_cons_zero, List.set_cons_succ]
      refine takeS (i := 1) (v := .slice al' j cl') rfl (by kernel_rfl) (by kernel_rfl) (by kernel_rfl) (by kernel_rfl) (fun _ _ _ h => h) (Or.inl ⟨by rfl, fun w hS => by obtain ⟨s0, y0, y1⟩ := hS; go_simp⟩) ⟨s0, y0, y1⟩ ?_
      simp only [List.getElem_toArray, List.getElem_cons_zero, List.getElem_cons_succ, Act.put, List.setIfInBounds_toArray, List.set_cons_zero, List.set_cons_succ]
      refine takeS (i := 2) (v := .pointer (some ⟨wh.heap.size, 0, none⟩)) rfl (by kernel_rfl) (by kernel_rfl) (by kernel_rfl) (by kernel_rfl) (fun _ _ _ h => h) (Or.inl ⟨by rfl, fun w hS => by obtain ⟨s0, y0, y1⟩ := hS; go_simp⟩) ⟨s0, y0, y1⟩ ?_
      simp only [List.getElem_toArray, List.getElem_cons_zero, List.getElem_cons_succ, Act.put, List.setIfInBounds_toArray, List.set_cons_zero, List.set_cons_succ]
      refine takeS (i := 3) (v := .int .i64 nx) rfl (by kernel_rfl) (by kernel_rfl) (by kernel_rfl) (by kernel_rfl) (fun _ _ _ h => h) (Or.inl ⟨by rfl, fun w hS => by obtain ⟨s0, y0, y1⟩ := hS; go_simp⟩) ⟨s0, y0, y1⟩ ?_
      simp only [List.getElem_toArray, List.getElem_cons_zero, List.getElem_cons_succ, Act.put, List.setIfInBounds_toArray, List.set_cons_zero, List.set_cons_succ]
      refine takeS (i := 4) (v := .slice at' nt ct) rfl (by kernel_rfl) (by kernel_rfl) (by kernel_rfl) (by kernel_rfl) (fun _ _ _ h => h) (Or.inl ⟨by rfl, fun w hS => by obtain ⟨s0, y0, y1⟩ := hS; go_simp⟩) ⟨s0, y0, y1⟩ ?_
      simp only [List.getElem_toArray, List.getElem_cons_zero, List.getElem_cons_succ, Act.put, List.setIfInBounds_toArray, List.set_cons_zero, List.set_cons_succ]
      refine takeS (i := 6) (v := .pointer (some ⟨wh.heap.size, 1, none⟩)) rfl (by kernel_rfl) (by kernel_rfl) (by kernel_rfl) (by kernel_rfl) (fun _ _ _ h => h) (Or.inl ⟨by rfl, fun w hS => by obtain ⟨s0, y0, y1⟩ := hS; go_simp⟩) ⟨s0, y0, y1⟩ ?_
      simp only [List.getElem_toArray, List.getElem_cons_zero, List.getElem_cons_succ, Act.put, List.setIfInBounds_toArray, List.set_cons_zero, List.set_cons_succ]
      refine takeS (i := 7) (v := .bool ini) rfl (by kernel_rfl) (by kernel_rfl) (by kernel_rfl) (by kernel_rfl) (fun _ _ _ h => h) (Or.inl ⟨by rfl, fun w hS => by obtain ⟨s0, y0, y1⟩ := hS; go_simp⟩) ⟨s0, y0, y1⟩ ?_
      simp only [List.getElem_toArray, List.getElem_cons_zero, List.getElem_cons_succ, Act.put, List.setIfInBounds_toArray, List.set_cons_zero, List.set_cons_succ]
      refine oneS (i := 5) (by kernel_rfl) rfl (by rfl) ?_
      simp only [List.getElem_toArray, List.getElem_cons_zero, List.getElem_cons_succ]
      go_simp
      refine (HMA.out _ (by exact below_drewN HSV.out.bel 1)).mono ?_
      rintro e w' ⟨rfl, hw'⟩
      obtain rfl := hw'.symm
      refine ⟨⟨s0, y0, y1⟩, ?_⟩
      refine takeS (i := 8) (v := .agg #[.int .i64 P, .bool ini]) rfl (by kernel_rfl) (by kernel_rfl) (by kernel_rfl) (by kernel_rfl) (fun _ _ _ h => h) (Or.inl ⟨by rfl, fun w hS => by obtain ⟨s0, y0, y1⟩ := hS; go_simp⟩) ⟨s0, y0, y1⟩ ?_
      simp only [List.getElem_toArray, List.getElem_cons_zero, List.getElem_cons_succ, Act.put, List.setIfInBounds_toArray, List.set_cons_zero, List.set_cons_succ]
      refine oneS (i := 9) (by kernel_rfl) rfl (by rfl) ?_
      simp only [List.getElem_toArray, List.getElem_cons_zero, List.getElem_cons_succ]
      go_simp
      have HBE : Hid (Below V.heap.size V (V.alloc (.cells #[.int .i64 P, .bool ini] 86)).drew) := below_drewN (belOne _ _) 1
      have HLD := hideN (row_below HLV.out HBE.out)
      refine oneS (i := 10) (by kernel_rfl) rfl (by rfl) ?_
      simp only [List.getElem_toArray, List.getElem_cons_zero, List.getElem_cons_succ]
      refine wp_append_lies _ (.tmp 24) (.tmp 32) 30 rfl (w.heap.size + 3) 86 il (.agg #[.int .i64 0, .bool false]) 2 16 Try.underlying30 hil hzl0 hzl1 hzl2 rfl (by decide) (.slice al' j cl') j (latV (mapLat to (ls.take j))) rfl HLD.out ⟨V.heap.size, 0, none⟩ 1 1 [.int .i64 P, .bool ini] rfl rfl (by exact news2 V _ _ _) (lat_oneCell _ _) (by decide) (by unfold maxLen; omega) (by omega) (by simp; omega) _ rfl ?_
      intro g gcap w9 hown9 hgrow9 hat9 hlt9
      have HS9 := hideN ((HSV.out.below HBE.out).grown hgrow9 (fun q e => (World.ownsRow.lt HLD.out q e).1))
      have HL9 : Hid (w9.ownsRow (w.heap.size + 3) 86 2 (.slice (some ⟨g, 0, none⟩) (j + 1) gcap) (j + 1) (latV (mapLat to (ls.take (j + 1))))) := by show World.ownsRow _ _ _ _ _ _ _; rw [HSU2.out]; exact hown9
      have hyb := hgrow9.block wh.heap.size (Nat.lt_of_lt_of_le hyl HBE.out.size) (fun e2 => HYN.out e2.symm)
      have q0 : w9.cell? ⟨wh.heap.size, 0, none⟩ = some (.int .i64 nx) := by rw [cellOfBlock hyb]; exact (HBE.out.cell (p := ⟨wh.heap.size, 0, none⟩) hyl).trans y0
      have q1 : w9.cell? ⟨wh.heap.size, 1, none⟩ = some (.bool ini) := by rw [cellOfBlock hyb]; exact (HBE.out.cell (p := ⟨wh.heap.size, 1, none⟩) hyl).trans y1
      clear hown9 hgrow9 hat9 hlt9 hyb s0 s4 s6 y0 y1
      have r0 := HS9.out.c.four.c1
      have r4 := HS9.out.c.lt
      have r6 := HS9.out.c.fz 1
      refine ⟨fun _ => ⟨r0, q0, q1⟩, ?_⟩
      simp only [Act.put, List.setIfInBounds_toArray, List.set_cons_zero, List.set_cons_succ]
      refine takeS (i := 11) (v := .pointer (some ⟨w.heap.size + 2, 1, none⟩)) rfl (by kernel_rfl) (by kernel_rfl) (by kernel_rfl) (by kernel_rfl) (fun _ _ _ h => h) (Or.inl ⟨by rfl, fun w hS => by obtain ⟨r0, q0, q1⟩ := hS; go_simp⟩) ⟨r0, q0, q1⟩ ?_
      simp only [List.getElem_toArray, List.getElem_cons_zero, List.getElem_cons_succ, Act.put, List.setIfInBounds_toArray, List.set_cons_zero, List.set_cons_succ]
      refine oneS (i := 12) (by kernel_rfl) rfl (by rfl) ?_
      simp only [List.getElem_toArray, List.getElem_cons_zero, List.getElem_cons_succ]
      go_simp
      refine doneS (by kernel_rfl) ?_ _
      have HS10 := hideN (HS9.out.set1 (.slice (some ⟨g, 0, none⟩) (j + 1) gcap))
      have HL10 := hideN (row_setC (i := 1) HL9.out HS9.out.cl (.slice (some ⟨g, 0, none⟩) (j + 1) gcap))
      clear r0 q0 q1 r4 r6 HS9 HL9
      go_wp2_with fail
      go_roundw
      case rel => exact ⟨_, gcap, j + 1, by omega, by go_num, HL10, HS10⟩
      case measure => simp [intOf]; omega
    · obtain rfl : j = ls.length := by omega
      have HLK : Hid (wh.ownsRow (w.heap.size + 3) 86 2 (.slice al' ls.length cl') ls.length (latV (mapLat to ls))) := by have h := hlr.out; rw [List.take_length] at h; exact h
      have HBR : Hid (wh.ownsRow (w.heap.size + 3) 3 1 (.slice none 0 0) 0 (intV (mapBad to (bs.take 0)))) := World.ownsRow_nil _ _ _ _
      have c3 := hst.out.b.four.c3
      clear hlr hlt hj c1
      go_wp2_with fail
      go_loopw [39] (fun i wr => ∃ ab' cb' j, j ≤ bs.length ∧ i = .int .i64 (j : Nat) ∧ Hid (wr.ownsRow (w.heap.size + 3) 3 1 (.slice ab' j cb') j (intV (mapBad to (bs.take j)))) ∧ Hid (wr.ownsRow (w.heap.size + 3) 86 2 (.slice al' ls.length cl') ls.length (latV (mapLat to ls))) ∧ Hid (Fst w wr w.heap.size (w.heap.size + 1) (w.heap.size + 2) (w.heap.size + 3) inp (.slice al ls.length cl) (.slice aa xs.length ca) (.slice ab bs.length cb) (.slice al' ls.length cl') (.slice av na cv) (.slice ab' j cb'))) (fun i _ => bs.length - (intOf i).toNat)
      case atStart => exact ⟨none, 0, 0, Nat.zero_le _, rfl, HBR, HLK, hst⟩
      case round =>
        rename World => V
        obtain ⟨ab', cb', j, hj, rfl, hbr, hlr, hst⟩ := hrel
        by_cases hlt : j < bs.length
        · obtain ⟨bb, off, hao, hbb, hxc⟩ : ∃ bb off, ab = some ⟨bb, off, none⟩ ∧ bb < w.heap.size ∧ ∀ W, Below w.heap.size w W → W.cell? ⟨bb, off + j, none⟩ = some (.int .i64 (bs.getD j 0)) := by
            obtain ⟨ao', cap', he, h⟩ := (HC.out w (Below.refl _ _)).isB
            obtain ⟨bb, off, ha, hc⟩ := h (by intro e; subst e; simp at hlt)
            injection he with e1 e2 e3
            refine ⟨bb, off, e1.trans ha, cell_lt (hc j hlt), fun W hW => ?_⟩
            exact (hW.cell (p := ⟨bb, off + j, none⟩) (cell_lt (hc j hlt))).trans (hc j hlt)
          subst hao
          have hmem : bs.getD j 0 ∈ bs := by rw [List.getD, List.getElem?_eq_getElem hlt]; simp
          obtain ⟨hn0, hn1⟩ := HBD.out _ hmem
          have HSU : Hid (intV (mapBad to (bs.take (j + 1))) = intV (mapBad to (bs.take j)) ++ [.int .i64 (mapL to (bs.getD j 0))]) := by
            show _ = _
            rw [List.take_succ_eq_append_getElem hlt]
            have e : bs.getD j 0 = bs[j] := by simp [List.getD, hlt]
            rw [e]
            unfold mapBad intV
            rw [List.map_append, List.map_append]
            rfl
          generalize bs.getD j 0 = nx at *
          have s2 : V.cell? ⟨bb, off + j, none⟩ = some (.int .i64 nx) := hxc _ hst.out.bel
          obtain ⟨P, hP⟩ : ∃ P, mapL to nx = P := ⟨_, rfl⟩
          have HMA : Hid (∀ V, Below w.heap.size w V → Calls Try.prog 109 #[.int .i64 nx, .slice at' nt ct] V fun e w' => e = .returned (.int .i64 P) ∧ w' = V) := fun V hV => by
            have h := HNOW.out V nx hV hn0 hn1
            rw [hP] at h
            exact h
          have HSU2 : Hid (intV (mapBad to (bs.take (j + 1))) = intV (mapBad to (bs.take j)) ++ [.int .i64 P]) := by show _ = _; rw [← hP]; exact HSU.out
          have s0 := hst.out.c.four.c3
          have s4 := hst.out.c.lt
          have s6 := hst.out.c.fz 3
          have hll := hst.out.ll
          clear hP hxc hmem HSU hn0 hn1 c3
          go_wp2_with fail
          clear s2
          refine region_S (fin := 8) (S := fun V => V.cell? ⟨w.heap.size + 2, 3, none⟩ = some (.slice ab' j cb')) (by kernel_rfl) s0 (fun hHeld => ?walk2)
          case walk2 =>
          clear hHeld
          refine takeS (i := 0) (v := .pointer (some ⟨w.heap.size + 2, 3, none⟩)) rfl (by kernel_rfl) (by kernel_rfl) (by kernel_rfl) (by kernel_rfl) (fun _ _ _ h => h) (Or.inl ⟨by rfl, fun w hS => by have s0 := hS; go_simp⟩) s0 ?_
          simp only [List.getElem_toArray, List.getElem_cons_zero, Act.put, List.setIfInBounds_toArray, List.set_cons_zero, List.set_cons_succ]
          refine takeS (i := 1) (v := .slice ab' j cb') rfl (by kernel_rfl) (by kernel_rfl) (by kernel_rfl) (by kernel_rfl) (fun _ _ _ h => h) (Or.inl ⟨by rfl, fun w hS => by have s0 := hS; go_simp⟩) s0 ?_
          simp only [List.getElem_toArray, List.getElem_cons_zero, List.getElem_cons_succ, Act.put, List.setIfInBounds_toArray, List.set_cons_zero, List.set_cons_succ]
          refine takeS (i := 2) (v := .int .i64 nx) rfl (by kernel_rfl) (by kernel_rfl) (by kernel_rfl) (by kernel_rfl) (fun _ _ _ h => h) (Or.inl ⟨by rfl, fun w hS => by have s0 := hS; go_simp⟩) s0 ?_
          simp only [List.getElem_toArray, List.getElem_cons_zero, List.getElem_cons_succ, Act.put, List.setIfInBounds_toArray, List.set_cons_zero, List.set_cons_succ]
          refine takeS (i := 3) (v := .slice at' nt ct) rfl (by kernel_rfl) (by kernel_rfl) (by kernel_rfl) (by kernel_rfl) (fun _ _ _ h => h) (Or.inl ⟨by rfl, fun w hS => by have s0 := hS; go_simp⟩) s0 ?_
          simp only [List.getElem_toArray, List.getElem_cons_zero, List.getElem_cons_succ, Act.put, List.setIfInBounds_toArray, List.set_cons_zero, List.set_cons_succ]
          refine oneS (i := 4) (by kernel_rfl) rfl (by rfl) ?_
          simp only [List.getElem_toArray, List.getElem_cons_zero, List.getElem_cons_succ]
          go_simp
          refine (HMA.out _ (by exact below_drewN hst.out.bel 1)).mono ?_
          rintro e w' ⟨rfl, hw'⟩
          obtain rfl := hw'.symm
          refine ⟨s0, ?_⟩
          refine oneS (i := 5) (by kernel_rfl) rfl (by rfl) ?_
          simp only [List.getElem_toArray, List.getElem_cons_zero, List.getElem_cons_succ]
          go_simp
          have HBE : Hid (Below V.heap.size V (V.alloc (.cells #[.int .i64 P] 3)).drew) := below_drewN (belOne _ _) 1
          have HLD := hideN (row_below hbr.out HBE.out)
          refine oneS (i := 6) (by kernel_rfl) rfl (by rfl) ?_
          simp only [List.getElem_toArray, List.getElem_cons_zero, List.getElem_cons_succ]
          refine wp_append_lies _ (.tmp 44) (.tmp 48) 24 rfl (w.heap.size + 3) 3 ib (.int .i64 0) 1 8 Try.underlying24 hib hzb0 hzb1 hzb2 rfl (by decide) (.slice ab' j cb') j (intV (mapBad to (bs.take j))) rfl HLD.out ⟨V.heap.size, 0, none⟩ 1 1 [.int .i64 P] rfl rfl (by exact news1 V _ _) (ints_oneCell .i64 [P]) (by decide) (by unfold maxLen; omega) (by omega) (by simp; omega) _ rfl ?_
          intro g gcap w9 hown9 hgrow9 hat9 hlt9
          have HS9 := hideN ((hst.out.below HBE.out).grown hgrow9 (fun q e => (World.ownsRow.lt HLD.out q e).1))
          have HL9 : Hid (w9.ownsRow (w.heap.size + 3) 86 2 (.slice al' ls.length cl') ls.length (latV (mapLat to ls))) := by have h := row_below hlr.out HBE.out; exact row_of_block h (fun q e => hgrow9.block q (World.ownsRow.lt h q e).2 (fun e2 => rows_apart h HLD.out (by decide) q e e2.symm))
          have HB9 : Hid (w9.ownsRow (w.heap.size + 3) 3 1 (.slice (some ⟨g, 0, none⟩) (j + 1) gcap) (j + 1) (intV (mapBad to (bs.take (j + 1))))) := by show World.ownsRow _ _ _ _ _ _ _; rw [HSU2.out]; exact hown9
          clear hown9 hgrow9 hat9 hlt9 s0 s4 s6
          have r0 := HS9.out.c.four.c3
          have r4 := HS9.out.c.lt
          have r6 := HS9.out.c.fz 3
          refine ⟨fun _ => r0, ?_⟩
          simp only [Act.put, List.setIfInBounds_toArray, List.set_cons_zero, List.set_cons_succ]
          refine takeS (i := 7) (v := .pointer (some ⟨w.heap.size + 2, 3, none⟩)) rfl (by kernel_rfl) (by kernel_rfl) (by kernel_rfl) (by kernel_rfl) (fun _ _ _ h => h) (Or.inl ⟨by rfl, fun w hS => by have r0 := hS; go_simp⟩) r0 ?_
          simp only [List.getElem_toArray, List.getElem_cons_zero, List.getElem_cons_succ, Act.put, List.setIfInBounds_toArray, List.set_cons_zero, List.set_cons_succ]
          refine oneS (i := 8) (by kernel_rfl) rfl (by rfl) ?_
          simp only [List.getElem_toArray, List.getElem_cons_zero, List.getElem_cons_succ]
          go_simp
          refine doneS (by kernel_rfl) ?_ _
          have HS10 := hideN (HS9.out.set3 (.slice (some ⟨g, 0, none⟩) (j + 1) gcap))
          have HL10 := hideN (row_setC (i := 3) HL9.out HS9.out.cl (.slice (some ⟨g, 0, none⟩) (j + 1) gcap))
          have HB10 := hideN (row_setC (i := 3) HB9.out HS9.out.cl (.slice (some ⟨g, 0, none⟩) (j + 1) gcap))
          clear r0 r4 r6 HS9 HL9 HB9
          go_wp2_with fail
          go_roundw
          case rel => first | exact ⟨_, gcap, j + 1, by omega, by go_num, HB10, HL10, HS10⟩ | exact ⟨_, gcap, j + 1, by omega, by go_num, HB10, HS10⟩
          case measure => simp [intOf]; omega
        · obtain rfl : j = bs.length := by omega
          have HBK : Hid (V.ownsRow (w.heap.size + 3) 3 1 (.slice ab' bs.length cb') bs.length (intV (mapBad to bs))) := by have h := hbr.out; rw [List.take_length] at h; exact h
          have d0 := hst.out.c.four.c0
          have d1 := hst.out.c.four.c1
          have d2 := hst.out.c.four.c2
          have d3 := hst.out.c.four.c3
          have d4 := hst.out.c.lt
          have m2 := hst.out.q.lt
          have m3 := hst.out.q.fz 0
          have m4 := hst.out.q.fz 1
          have m5 := hst.out.q.fz 2
          have m6 := hst.out.q.fz 3
          have m7 := hst.out.q.four.c0
          have m8 := hst.out.q.four.c1
          have m9 := hst.out.q.four.c2
          have m10 := hst.out.q.four.c3
          have hqq := (((hst.out.q.set0 (.int .i64 inp)).set1 (.slice al' ls.length cl')).set2 (.slice av na cv)).set3 (.slice ab' bs.length cb')
          have u0 := hqq.four.c0
          have u1 := hqq.four.c1
          have u2 := hqq.four.c2
          have u3 := hqq.four.c3
          clear hqq hbr
          have hq3 : w.heap.size + 1 < w.heap.size + 3 := by omega
          have HLE := hideN (row_base (row_setC (i := 3) (row_setC (i := 2) (row_setC (i := 1) (row_setC (i := 0) hlr.out hq3 (.int .i64 inp)) hq3 (.slice al' ls.length cl')) hq3 (.slice av na cv)) hq3 (.slice ab' bs.length cb')) (show w.heap.size ≤ w.heap.size + 3 by omega))
          have HBK2 := hideN (row_base (row_setC (i := 3) (row_setC (i := 2) (row_setC (i := 1) (row_setC (i := 0) HBK.out hq3 (.int .i64 inp)) hq3 (.slice al' ls.length cl')) hq3 (.slice av na cv)) hq3 (.slice ab' bs.length cb')) (show w.heap.size ≤ w.heap.size + 3 by omega))
          have hwq : w.heap.size ≤ w.heap.size + 1 := by omega
          have HBE := hideN ((((hst.out.bel.setCell (p := ⟨w.heap.size + 1, 0, none⟩) hwq (.int .i64 inp)).setCell (p := ⟨w.heap.size + 1, 1, none⟩) hwq (.slice al' ls.length cl')).setCell (p := ⟨w.heap.size + 1, 2, none⟩) hwq (.slice av na cv)).setCell (p := ⟨w.heap.size + 1, 3, none⟩) hwq (.slice ab' bs.length cb'))
          go_wp2
          refine bodyPost_ret (v := .agg #[.int .i64 inp, .slice al' ls.length cl', .slice av na cv, .slice ab' bs.length cb']) (by simp [results, Try.results110, go_sem, u0, u1, u2, u3]) rfl ⟨al', ab', cl', cb', rfl, HLE.out, HBK2.out, HBE.out⟩

end Go.Proofs.Ytbdjdgamnnifjaa

namespace Go.Proofs.Ytbdjdgamnnifjaa
open Go.RowKit Go.Deep Go.Shelf
set_option linter.unusedVariables false

theorem andRow : (65 : TypeId) < Try.prog.types.size := of_decide_eq_true (by kernel_rfl)
theorem andWide : (match Try.prog.underlying 65 with | some (.array _ _) | some (.struct _) => true | _ => false) = true := by kernel_rfl
set_option maxRecDepth 100000 in
theorem andKeyed : Maps.Keyed Try.prog 65 := Maps.Keyed.of_law (deep_law_laid laidOut (m := 3) (by decide) andRow (by kernel_rfl) andWide)

/-- What an and reads as, as a key. -/
def keyA (p : Int × Int) : Lit := .string (keyBytes [.int .i64 p.1, .int .i64 p.2])
/-- Numbers that an and may bear here. -/
def Fits (p : Int × Int) : Prop := (0 ≤ p.1 ∧ p.1 ≤ 1000) ∧ 0 ≤ p.2 ∧ p.2 ≤ 1000

theorem wf_small {x : Int} (h0 : 0 ≤ x) (h1 : x ≤ 1000) : (Lit.int .i64 x).wf = true := by
  have e1 : IntKind.i64.min = -9223372036854775808 := by decide
  have e2 : IntKind.i64.max = 9223372036854775807 := by decide
  simp only [Lit.wf, e1, e2, Bool.and_eq_true, decide_eq_true_eq]
  omega

theorem keyOf_and (p : Int × Int) (h : Fits p) : keyOf Try.prog 65 (.agg #[.int .i64 p.1, .int .i64 p.2]) = some (keyA p) := by
  obtain ⟨⟨a0, a1⟩, b0, b1⟩ := h
  have w1 := wf_small a0 a1
  have w2 := wf_small b0 b1
  have hn : ∃ n, Try.prog.types.size = n + 1 := by
    obtain ⟨m, hm⟩ := Nat.exists_eq_succ_of_ne_zero (Nat.ne_of_gt (Nat.lt_of_le_of_lt (Nat.zero_le _) andRow))
    exact ⟨m, hm⟩
  obtain ⟨n, hn⟩ := hn
  have hu := Try.underlying65
  have hi := Try.underlying3
  have hk : Try.prog.keyType 65 = true := by kernel_rfl
  have hc : Try.prog.cellsOf 65 = 2 := by kernel_rfl
  have hc1 : Try.prog.cellsOf 3 = 1 := by kernel_rfl
  have hf : (Value.agg #[.int .i64 p.1, .int .i64 p.2]).formed Try.prog 65 = true := by simp [Value.formed, hu, hc]
  unfold keyOf
  rw [hu]
  simp only [hk, hf, Bool.and_self, if_true]
  rw [hn]
  simp [Program.keyLits, hu, hi, hc, hc1, w1, w2, keyA, Value.cells]

theorem keyA_inj {p q : Int × Int} (hp : Fits p) (hq : Fits q) (h : keyA p = keyA q) : p = q := by
  have h1 := keyOf_and p hp
  have h2 := keyOf_and q hq
  rw [h] at h1
  have e := andKeyed.inj h1 h2
  obtain ⟨p1, p2⟩ := p
  obtain ⟨q1, q2⟩ := q
  simpa using e

theorem keyA_lit (p : Int × Int) : WideAt.IsKeyLit (keyA p) := trivial

theorem whereA_snoc (xs : List (Int × Int)) (q p : Int × Int) : whereA (xs ++ [q]) p = if whereA xs p < xs.length then whereA xs p else if q = p then xs.length else xs.length + 1 := by
  induction xs with
  | nil =>
    by_cases e : q = p <;> simp [whereA, List.findIdx_cons, e]
  | cons a l ih =>
    unfold whereA at *
    rw [List.cons_append, List.findIdx_cons, List.findIdx_cons, ih]
    by_cases e : a = p
    · simp [e]
    · simp only [e, decide_false, cond_false, List.length_cons]
      clear ih
      generalize List.findIdx (fun q => decide (q = p)) l = k
      by_cases h1 : k < l.length <;> by_cases e2 : q = p <;> simp [h1, e2]

/-- The map tells of each and where it stands. -/
def FoundOk (F : Nat) (D : DataW Nat) (xs : List (Int × Int)) : Prop :=
  Maps.IsMap D ∧ ∀ p, Fits p → Maps.has D (keyA p) = decide (whereA xs p < xs.length) ∧ (whereA xs p < xs.length → D.atKey (keyA p) (.lit (.int .i64 0)) = .lit (.int .i64 (2 * ((F : Int) + (whereA xs p : Int)))))

theorem FoundOk.nil (F : Nat) : FoundOk F (.map []) [] := ⟨Maps.isMap_empty, fun p _ => ⟨by simp [Maps.has], fun h => absurd h (by simp)⟩⟩

theorem FoundOk.snoc {F : Nat} {D : DataW Nat} {xs : List (Int × Int)} (h : FoundOk F D xs) {q : Int × Int} (hq : Fits q) (hn : ¬ whereA xs q < xs.length) : FoundOk F (D.put (keyA q) (.lit (.int .i64 (2 * ((F : Int) + (xs.length : Int)))))) (xs ++ [q]) := by
  refine ⟨h.1.put _ _, fun p hp => ?_⟩
  rw [whereA_snoc, List.length_append, List.length_cons, List.length_nil]
  by_cases e : p = q
  · subst e
    rw [if_neg hn, if_pos rfl]
    exact ⟨by rw [Maps.has_put_same h.1 (keyA_lit _)]; simp, fun _ => by rw [Maps.atKey_put_same h.1 (keyA_lit _)]⟩
  · have hk : keyA p ≠ keyA q := fun e2 => e (keyA_inj hp hq e2)
    obtain ⟨h1, h2⟩ := h.2 p hp
    rw [Maps.has_put_other hk, Maps.atKey_put_other hk]
    by_cases hw : whereA xs p < xs.length
    · rw [if_pos hw]
      exact ⟨by rw [h1]; simp [hw]; omega, fun _ => h2 hw⟩
    · rw [if_neg hw, if_neg (fun e2 => e e2.symm)]
      exact ⟨by rw [h1]; simp [hw], fun h3 => by omega⟩

end Go.Proofs.Ytbdjdgamnnifjaa

/-
  A circuit without what is needless: an answer that owns its three lists; marked, and held.
-/
import Derived.Test.YtlahnihpdidanaaLessK
namespace Go.Proofs.Ytlahnihpdidanaa
open Go.RowKit Go.Deep Go.Shelf
set_option linter.unusedVariables false

/-- Three lists of a call's own, in blocks from lo on and below hi. -/
structure Own3 (V : World) (lo hi : Nat) (al aa ab : Option Addr) (cl ca cb : Nat) (ls : List (Int × Bool)) (xs : List (Int × Int)) (bs : List Int) : Prop where
  l : V.ownsRow lo 86 2 (.slice al ls.length cl) ls.length (latV ls)
  a : V.ownsRow lo 65 2 (.slice aa xs.length ca) xs.length (andV xs)
  b : V.ownsRow lo 3 1 (.slice ab bs.length cb) bs.length (intV bs)
  hl : ∀ k, (Value.slice al ls.length cl).ownBlock = some k → k < hi
  ha : ∀ k, (Value.slice aa xs.length ca).ownBlock = some k → k < hi
  hb : ∀ k, (Value.slice ab bs.length cb).ownBlock = some k → k < hi

section
variable {V V' : World} {lo hi : Nat} {al aa ab : Option Addr} {cl ca cb : Nat} {ls : List (Int × Bool)} {xs : List (Int × Int)} {bs : List Int}
theorem Own3.of (h1 : V.ownsRow lo 86 2 (.slice al ls.length cl) ls.length (latV ls)) (h2 : V.ownsRow lo 65 2 (.slice aa xs.length ca) xs.length (andV xs)) (h3 : V.ownsRow lo 3 1 (.slice ab bs.length cb) bs.length (intV bs)) : Own3 V lo V.heap.size al aa ab cl ca cb ls xs bs :=
  ⟨h1, h2, h3, fun k e => (World.ownsRow.lt h1 k e).2, fun k e => (World.ownsRow.lt h2 k e).2, fun k e => (World.ownsRow.lt h3 k e).2⟩
theorem Own3.below (h : Own3 V lo hi al aa ab cl ca cb ls xs bs) (hb : Below V.heap.size V V') : Own3 V' lo hi al aa ab cl ca cb ls xs bs := ⟨row_below h.l hb, row_below h.a hb, row_below h.b hb, h.hl, h.ha, h.hb⟩
theorem Own3.chg (h : Own3 V lo hi al aa ab cl ca cb ls xs bs) {p : Nat → Prop} (hc : Chg p V V') (hp : ∀ k, lo ≤ k → k < hi → ¬ p k) : Own3 V' lo hi al aa ab cl ca cb ls xs bs :=
  ⟨row_of_block h.l (fun k e => hc.block k (World.ownsRow.lt h.l k e).2 (hp k (World.ownsRow.lt h.l k e).1 (h.hl k e))), row_of_block h.a (fun k e => hc.block k (World.ownsRow.lt h.a k e).2 (hp k (World.ownsRow.lt h.a k e).1 (h.ha k e))), row_of_block h.b (fun k e => hc.block k (World.ownsRow.lt h.b k e).2 (hp k (World.ownsRow.lt h.b k e).1 (h.hb k e))), h.hl, h.ha, h.hb⟩
theorem Own3.isCir (h : Own3 V lo hi al aa ab cl ca cb ls xs bs) (hl : ls.length ≤ maxLen) (hx : xs.length ≤ maxLen) (hb : bs.length ≤ maxLen) : IsCir V al aa ab cl ca cb ls xs bs := ⟨isLatches_row h.l, isAnds_row h.a, isInts_row h.b, row_in h.l, row_in h.a, row_in h.b, hl, hx, hb⟩
end

/-- A circuit of marks. -/
structure Marked (V : World) (al aa ab : Option Addr) (cl ca cb nl na nb : Nat) : Prop where
  l : IsLatches V (.slice al nl cl) (markLat 1 nl)
  a : IsAnds V (.slice aa na ca) (markAnd (1 + 2 * nl) na)
  b : IsInts V (.slice ab nb cb) (markN (1 + 2 * nl + 2 * na) nb)

theorem Marked.below {V V' : World} {al aa ab : Option Addr} {cl ca cb nl na nb : Nat} (h : Marked V al aa ab cl ca cb nl na nb) (hb : Below V.heap.size V V') : Marked V' al aa ab cl ca cb nl na nb := ⟨h.l.below hb, h.a.below hb, h.b.below hb⟩

theorem isLatches_chg {p : Nat → Prop} {V V' : World} {ao : Option Addr} {n cap : Nat} {ls : List (Int × Bool)} (h : IsLatches V (.slice ao n cap) ls) (hc : Chg p V V') (hp : ∀ k off, ao = some ⟨k, off, none⟩ → ¬ p k) : IsLatches V' (.slice ao n cap) ls := by
  obtain ⟨ao', cap', he, h⟩ := h
  refine ⟨ao', cap', he, fun hne => ?_⟩
  obtain ⟨b, off, ha, hcs⟩ := h hne
  injection he with e1 e2 e3
  refine ⟨b, off, ha, fun i hi => ?_⟩
  obtain ⟨c1, c2⟩ := hcs i hi
  have hb := hc.block b (cell_lt c1) (hp b off (e1.trans ha))
  exact ⟨(World.cell?_of_block (a := ⟨b, off + i * 2, none⟩) hb).trans c1, (World.cell?_of_block (a := ⟨b, off + i * 2 + 1, none⟩) hb).trans c2⟩

theorem isAnds_chg {p : Nat → Prop} {V V' : World} {ao : Option Addr} {n cap : Nat} {xs : List (Int × Int)} (h : IsAnds V (.slice ao n cap) xs) (hc : Chg p V V') (hp : ∀ k off, ao = some ⟨k, off, none⟩ → ¬ p k) : IsAnds V' (.slice ao n cap) xs := by
  obtain ⟨ao', cap', he, h⟩ := h
  refine ⟨ao', cap', he, fun hne => ?_⟩
  obtain ⟨b, off, ha, hcs⟩ := h hne
  injection he with e1 e2 e3
  refine ⟨b, off, ha, fun i hi => ?_⟩
  obtain ⟨c1, c2⟩ := hcs i hi
  have hb := hc.block b (cell_lt c1) (hp b off (e1.trans ha))
  exact ⟨(World.cell?_of_block (a := ⟨b, off + i * 2, none⟩) hb).trans c1, (World.cell?_of_block (a := ⟨b, off + i * 2 + 1, none⟩) hb).trans c2⟩

theorem row_addr {w : World} {lo : Nat} {e : TypeId} {s n cap : Nat} {ao : Option Addr} {zs : List Value} (h : w.ownsRow lo e s (.slice ao n cap) n zs) {k off : Nat} (hk : ao = some ⟨k, off, none⟩) : (Value.slice ao n cap).ownBlock = some k ∧ ∃ cs, w.heap[k]? = some (.cells cs e (0, 0)) := by
  rcases h.2 with ⟨h3, _⟩ | ⟨g1, c1, cur1, h3, _, hh1, _⟩
  · cases h3; cases hk
  · cases h3; cases hk
    exact ⟨rfl, _, hh1⟩

set_option maxRecDepth 100000 in
set_option maxHeartbeats 2000000 in
theorem markLess_any (inp : Int) (lo hi : Nat) (al aa ab : Option Addr) (cl ca cb : Nat) (ls : List (Int × Bool)) (xs : List (Int × Int)) (bs : List Int) (w : World) (hC : Own3 w lo hi al aa ab cl ca cb ls xs bs) (hl : ls.length ≤ 1000) (ha : xs.length ≤ 1000) (hb : bs.length ≤ 1000) :
    Calls Try.prog 18 #[.agg #[.int .i64 inp, .slice al ls.length cl, .slice aa xs.length ca, .slice ab bs.length cb], .int .i64 1] w fun e w' => e = .returned (.int .i64 (1 + 2 * ls.length + 2 * xs.length + bs.length)) ∧ Marked w' al aa ab cl ca cb ls.length xs.length bs.length ∧ Chg (fun k => lo ≤ k ∧ k < hi) w w' := by
  obtain ⟨W1, hW1⟩ : ∃ W1, W1 = w.alloc (.cells #[.int .i64 inp, .slice al ls.length cl, .slice aa xs.length ca, .slice ab bs.length cb] 33) := ⟨_, rfl⟩
  have HC : Hid (Own3 W1 lo hi al aa ab cl ca cb ls xs bs) := by rw [hW1]; exact hC.below (belOne _ _)
  have HF0 : Hid (Own4 W1 w.heap.size 33 (.int .i64 inp) (.slice al ls.length cl) (.slice aa xs.length ca) (.slice ab bs.length cb)) := by rw [hW1]; exact Own4.new _ _ _ _ _ _
  have HW : Hid (Chg (fun k => lo ≤ k ∧ k < hi) w W1) := by rw [hW1]; exact Chg.of_below (belOne _ _)
  have HLA : Hid (∀ k off, al = some ⟨k, off, none⟩ → ¬ (Value.slice aa xs.length ca).ownBlock = some k) := fun k off e => by
    obtain ⟨_, cs, hcs⟩ := row_addr hC.l e
    exact row_ne hC.a hcs (by decide)
  have HLB : Hid (∀ k off, al = some ⟨k, off, none⟩ → ¬ (Value.slice ab bs.length cb).ownBlock = some k) := fun k off e => by
    obtain ⟨_, cs, hcs⟩ := row_addr hC.l e
    exact row_ne hC.b hcs (by decide)
  have HAB : Hid (∀ k off, aa = some ⟨k, off, none⟩ → ¬ (Value.slice ab bs.length cb).ownBlock = some k) := fun k off e => by
    obtain ⟨_, cs, hcs⟩ := row_addr hC.a e
    exact row_ne hC.b hcs (by decide)
  have HW1 := hideN hW1
  clear hC hW1
  go_enter Try.func18, Try.ntmps18
  go_wp2_with fail
  rw [← HW1.out]
  refine (mark_ownL W1 lo al cl ls 1 HC.out.l hl (by omega) (by omega)).mono ?_
  rintro e w1 ⟨rfl, hm1, hc1⟩
  have hm : ∀ k, (Value.slice al ls.length cl).ownBlock = some k → lo ≤ k ∧ k < hi := fun k e => ⟨(World.ownsRow.lt HC.out.l k e).1, HC.out.hl k e⟩
  have HF1 : Hid (Own4 w1 w.heap.size 33 (.int .i64 inp) (.slice al ls.length cl) (.slice aa xs.length ca) (.slice ab bs.length cb)) := HF0.out.chg hc1 (row_ne HC.out.l HF0.out (by decide))
  have HA1 : Hid (w1.ownsRow lo 65 2 (.slice aa xs.length ca) xs.length (andV xs)) := row_of_block HC.out.a (fun k e => by
    obtain ⟨cs, hcs⟩ := row_cells HC.out.a e
    exact hc1.block k (Array.getElem?_eq_some_iff.1 hcs).1 (row_ne HC.out.l hcs (by decide)))
  have HI1 : Hid (w1.ownsRow lo 3 1 (.slice ab bs.length cb) bs.length (intV bs)) := row_of_block HC.out.b (fun k e => by
    obtain ⟨cs, hcs⟩ := row_cells HC.out.b e
    exact hc1.block k (Array.getElem?_eq_some_iff.1 hcs).1 (row_ne HC.out.l hcs (by decide)))
  have HWa : Hid (Chg (fun k => lo ≤ k ∧ k < hi) w w1) := HW.out.trans (hc1.mono hm)
  have HM1 := hideN hm1
  clear hc1 hm hm1
  have d0 := HF1.out.four.c0
  have d1 := HF1.out.four.c1
  have d2 := HF1.out.four.c2
  have d3 := HF1.out.four.c3
  go_wp2_with fail
  refine (mark_ownA w1 lo aa ca xs (1 + 2 * (ls.length : Int)) HA1.out ha (by omega) (by omega)).mono ?_
  rintro e w2 ⟨rfl, hm2, hc2⟩
  have hm : ∀ k, (Value.slice aa xs.length ca).ownBlock = some k → lo ≤ k ∧ k < hi := fun k e => ⟨(World.ownsRow.lt HC.out.a k e).1, HC.out.ha k e⟩
  have HF2 : Hid (Own4 w2 w.heap.size 33 (.int .i64 inp) (.slice al ls.length cl) (.slice aa xs.length ca) (.slice ab bs.length cb)) := HF1.out.chg hc2 (row_ne HA1.out HF1.out (by decide))
  have HI2 : Hid (w2.ownsRow lo 3 1 (.slice ab bs.length cb) bs.length (intV bs)) := row_of_block HI1.out (fun k e => by
    obtain ⟨cs, hcs⟩ := row_cells HI1.out e
    exact hc2.block k (Array.getElem?_eq_some_iff.1 hcs).1 (row_ne HA1.out hcs (by decide)))
  have HWb : Hid (Chg (fun k => lo ≤ k ∧ k < hi) w w2) := HWa.out.trans (hc2.mono hm)
  have HM1b := hideN (isLatches_chg HM1.out hc2 HLA.out)
  have HM2 := hideN hm2
  clear hc2 hm hm2 d0 d1 d2 d3
  have d0 := HF2.out.four.c0
  have d1 := HF2.out.four.c1
  have d2 := HF2.out.four.c2
  have d3 := HF2.out.four.c3
  go_wp2_with fail
  refine (mark_ownI w2 lo ab cb bs (1 + 2 * (ls.length : Int) + 2 * (xs.length : Int)) HI2.out hb (by omega) (by omega)).mono ?_
  rintro e w3 ⟨rfl, hm3, hc3⟩
  have hm : ∀ k, (Value.slice ab bs.length cb).ownBlock = some k → lo ≤ k ∧ k < hi := fun k e => ⟨(World.ownsRow.lt HC.out.b k e).1, HC.out.hb k e⟩
  have HWc : Hid (Chg (fun k => lo ≤ k ∧ k < hi) w w3) := HWb.out.trans (hc3.mono hm)
  have HMK : Hid (Marked w3 al aa ab cl ca cb ls.length xs.length bs.length) := ⟨isLatches_chg HM1b.out hc3 HLB.out, isAnds_chg HM2.out hc3 HAB.out, hm3⟩
  clear hc3 hm hm3
  go_wp2
  go_ret
  exact ⟨rfl, HMK.out, HWc.out⟩

set_option maxRecDepth 100000 in
set_option maxHeartbeats 2000000 in
theorem heldLess_any (inp : Int) (al aa ab : Option Addr) (cl ca cb nl na nb : Nat) (w : World) (hM : Marked w al aa ab cl ca cb nl na nb) (hl : nl ≤ 1000) (ha : na ≤ 1000) (hb : nb ≤ 1000) :
    Calls Try.prog 40 #[.agg #[.int .i64 inp, .slice al nl cl, .slice aa na ca, .slice ab nb cb], .int .i64 1] w fun e w' => e = .returned (.int .i64 (1 + 2 * nl + 2 * na + nb)) ∧ Below w.heap.size w w' := by
  obtain ⟨W1, hW1⟩ : ∃ W1, W1 = w.alloc (.cells #[.int .i64 inp, .slice al nl cl, .slice aa na ca, .slice ab nb cb] 33) := ⟨_, rfl⟩
  have HM : Hid (Marked W1 al aa ab cl ca cb nl na nb) := by rw [hW1]; exact hM.below (belOne _ _)
  have HF0 : Hid (Own4 W1 w.heap.size 33 (.int .i64 inp) (.slice al nl cl) (.slice aa na ca) (.slice ab nb cb)) := by rw [hW1]; exact Own4.new _ _ _ _ _ _
  have HB : Hid (Below w.heap.size w W1) := by rw [hW1]; exact belOne _ _
  have HW1 := hideN hW1
  clear hM hW1
  have d0 := HF0.out.four.c0
  have d1 := HF0.out.four.c1
  have d2 := HF0.out.four.c2
  have d3 := HF0.out.four.c3
  have k1 : decide ((1 : Int) + 2 * nl < 0) = false := by simp; omega
  have k2 : decide ((1 : Int) + 2 * nl + 2 * na < 0) = false := by simp; omega
  have k3 : decide ((1 : Int) + 2 * nl + 2 * na + nb < 0) = false := by simp; omega
  go_enter Try.func40, Try.ntmps40
  go_wp2_with fail
  rw [← HW1.out]
  refine (heldLatchS_any _ nl 1 _ HM.out.l (by omega) (by omega) (by omega)).mono ?_
  rintro e w' ⟨rfl, hw'⟩
  obtain rfl := hw'.symm
  go_wp2_with fail
  refine (heldAndS_any _ na (1 + 2 * (nl : Int)) _ HM.out.a (by omega) (by omega) (by omega)).mono ?_
  rintro e w' ⟨rfl, hw'⟩
  obtain rfl := hw'.symm
  go_wp2_with fail
  refine (heldIntS_any _ nb (1 + 2 * (nl : Int) + 2 * (na : Int)) _ HM.out.b (by omega) (by omega) (by omega)).mono ?_
  rintro e w' ⟨rfl, hw'⟩
  obtain rfl := hw'.symm
  go_wp2_with fail
  go_ret
  exact ⟨rfl, HB.out⟩

end Go.Proofs.Ytlahnihpdidanaa

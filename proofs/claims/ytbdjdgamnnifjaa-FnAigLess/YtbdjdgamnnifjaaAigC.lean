/-
  Whether a circuit is ok: the program's AigOk.
-/
import Derived.Test.YtbdjdgamnnifjaaAigB
namespace Go.Proofs.Ytbdjdgamnnifjaa
open Go.RowKit Go.Deep Go.Shelf
set_option linter.unusedVariables false

attribute [local go_sem] Oper.semAt_some

theorem IsAnds.blk {w : World} {ao : Option Addr} {cap : Nat} {xs : List (Int × Int)} (h : IsAnds w (.slice ao xs.length cap) xs) (hne : xs ≠ []) : ∃ b off, ao = some ⟨b, off, none⟩ ∧ b < w.heap.size := by
  obtain ⟨ao', cap', he, h⟩ := h
  obtain ⟨b, off, ha, hc⟩ := h hne
  injection he with e1 e2 e3
  have hl : 0 < xs.length := by rcases xs with _ | ⟨x, xs⟩ <;> simp_all
  exact ⟨b, off, e1.trans ha, cell_lt (hc 0 hl).1⟩

/-- The iterator over ands, for whoever ranges over it. -/
theorem andNodes_stops (n : Nat) (hn : 1 ≤ n) (Ba n₀ : Nat) (inp : Int) (al aa ab : Option Addr) (nl cl ca nb cb : Nat) (xs : List (Int × Int)) (h0 : 0 ≤ inp) (h1 : inp ≤ 8) (h2 : nl ≤ 8) (h3 : xs.length ≤ 40) (w : World)
    (hn₀ : n₀ ≤ w.heap.size) (hBa : Ba < n₀) (hF : Four w Ba (.int .i64 inp) (.slice al nl cl) (.slice aa xs.length ca) (.slice ab nb cb)) (hA : IsAnds w (.slice aa xs.length ca) xs) (hAb : ∀ b off, aa = some ⟨b, off, none⟩ → b < n₀) :
    SeqStopsK Fence.wide n Try.prog 96 #[.pointer (some ⟨Ba, 0, none⟩)] (fun x : Int × Int × Int => #[Value.int .i64 x.1, .agg #[.int .i64 x.2.1, .int .i64 x.2.2]]) (Below n₀) (fun ys => ys = nodesFrom (1 + inp + nl) xs xs.length)
      (fun pre => ∃ k, k ≤ xs.length ∧ pre = nodesFrom (1 + inp + nl) xs k) xs.length w := fun l J Jx W hW hJ _ hY h0' =>
  andNodes1_in n hn l Ba n₀ inp al aa ab nl cl ca nb cb xs h0 h1 h2 h3 J Jx W hJ hY (Nat.le_trans hn₀ hW.size) hBa (hF.below hW) (hA.below hW) hAb h0'

/-- The iterator over what a circuit is for. -/
theorem ends_stops (n : Nat) (hn : 1 ≤ n) (Ba n₀ : Nat) (inp : Int) (al aa ab : Option Addr) (cl na ca cb : Nat) (ls : List (Int × Bool)) (bs : List Int) (h2 : ls.length ≤ 8) (h3 : bs.length ≤ 4) (w : World)
    (hn₀ : n₀ ≤ w.heap.size) (hBa : Ba < n₀) (hF : Four w Ba (.int .i64 inp) (.slice al ls.length cl) (.slice aa na ca) (.slice ab bs.length cb)) (hL : IsLatches w (.slice al ls.length cl) ls) (hB : IsInts w (.slice ab bs.length cb) bs)
    (hLb : ∀ b off, al = some ⟨b, off, none⟩ → b < n₀) (hBb : ∀ b off, ab = some ⟨b, off, none⟩ → b < n₀) :
    SeqStopsK Fence.wide n Try.prog 115 #[.pointer (some ⟨Ba, 0, none⟩)] (fun x : Int => #[Value.int .i64 x]) (Below n₀) (fun ys => ys = endsOf ls bs) (fun pre => pre <+: endsOf ls bs) (ls.length + bs.length) w := fun l J Jx W hW hJ _ hY h0' =>
  ends1_in n hn l Ba n₀ inp al aa ab cl na ca cb ls bs h2 h3 J Jx W hJ hY (Nat.le_trans hn₀ hW.size) hBa (hF.below hW) (hL.below hW) (hB.below hW) hLb hBb h0'

theorem all_of_prefix {α : Type} {f : α → Bool} {xs ys : List α} (h : xs <+: ys) (hx : xs.all f = false) : ys.all f = false := by
  obtain ⟨zs, rfl⟩ := h
  rw [List.all_append, hx]; rfl

theorem keeps_of_below {V w1 : World} (h : Below V.heap.size V w1) : KeepsOthers V w1 := ⟨h.size, fun k o hk _ => (h.block k (Array.getElem?_eq_some_iff.1 hk).1).trans hk⟩

theorem nodesFrom_prefix (f : Int) (xs : List (Int × Int)) {k : Nat} (h : k ≤ xs.length) : nodesFrom f xs k <+: nodesFrom f xs xs.length := by
  unfold nodesFrom
  refine List.IsPrefix.map _ ?_
  obtain ⟨m, hm⟩ : ∃ m, xs.length = k + m := ⟨xs.length - k, by omega⟩
  rw [hm, List.range_add]
  exact List.prefix_append _ _

def pairG (p : Int × Int × Int) : Bool := aheadG p.2.1 p.1 && aheadG p.2.2 p.1

/-- The sizes of a circuit. -/
def sizesB (inp : Int) (nl na nb : Nat) : Bool := decide (0 ≤ inp ∧ inp ≤ 8 ∧ nl ≤ 8 ∧ na ≤ 40 ∧ nb ≤ 4)

/-- What AigOk answers. -/
def okC (inp : Int) (ls : List (Int × Bool)) (xs : List (Int × Int)) (bs : List Int) : Bool :=
  sizesB inp ls.length xs.length bs.length && ((nodesFrom (1 + inp + ls.length) xs xs.length).all pairG && (endsOf ls bs).all (fun x => aheadG x (1 + inp + ls.length + xs.length)))

set_option maxRecDepth 100000 in
set_option maxHeartbeats 4000000 in
theorem implAigOk_fit (inp : Int) (al aa ab : Option Addr) (cl ca cb : Nat) (ls : List (Int × Bool)) (xs : List (Int × Int)) (bs : List Int) (w : World) (h0 : 0 ≤ inp) (h1 : inp ≤ 8) (h2 : ls.length ≤ 8) (h3 : xs.length ≤ 40) (h4 : bs.length ≤ 4)
    (hL : IsLatches w (.slice al ls.length cl) ls) (hA : IsAnds w (.slice aa xs.length ca) xs) (hB : IsInts w (.slice ab bs.length cb) bs)
    (hLb : ∀ b off, al = some ⟨b, off, none⟩ → b < w.heap.size) (hAb : ∀ b off, aa = some ⟨b, off, none⟩ → b < w.heap.size) (hBb : ∀ b off, ab = some ⟨b, off, none⟩ → b < w.heap.size) :
    Calls Try.prog 44 #[.agg #[.int .i64 inp, .slice al ls.length cl, .slice aa xs.length ca, .slice ab bs.length cb]] w fun e w' =>
      e = .returned (.bool ((nodesFrom (1 + inp + ls.length) xs xs.length).all pairG && (endsOf ls bs).all (fun x => aheadG x (1 + inp + ls.length + xs.length)))) ∧ Below w.heap.size w w' := by
  have b0 : decide (inp < 0) = false := by simp; omega
  have b1 : decide (8 < inp) = false := by simp; omega
  have b2 : decide ((8 : Int) < ls.length) = false := by simp; omega
  have b3 : decide ((40 : Int) < xs.length) = false := by simp; omega
  have b4 : decide ((4 : Int) < bs.length) = false := by simp; omega
  have HL : Hid (IsLatches w (.slice al ls.length cl) ls) := hL
  have HA : Hid (IsAnds w (.slice aa xs.length ca) xs) := hA
  have HB : Hid (IsInts w (.slice ab bs.length cb) bs) := hB
  have HLb : Hid (∀ b off, al = some ⟨b, off, none⟩ → b < w.heap.size) := hLb
  have HAb : Hid (∀ b off, aa = some ⟨b, off, none⟩ → b < w.heap.size) := hAb
  have HBb : Hid (∀ b off, ab = some ⟨b, off, none⟩ → b < w.heap.size) := hBb
  clear hL hA hB hLb hAb hBb
  refine (callsIn_wide (n := 8)).1 ?_
  refine callsIn_of_wp_marks Try.func44 rfl trivial ?_ rfl
  simp only [Try.ntmps44, List.size_toArray, List.length_cons, List.length_nil, Nat.reduceAdd, Nat.reduceSub, Array.replicate_succ, Array.replicate_zero, List.push_toArray, List.append_toArray, List.nil_append, List.cons_append]
  gi_wp2_with (refine ⟨trivial, ?_⟩; gi_at_call 55; refine (callsIn_wide.2 (andNodes_any _ _ _ _ _ _ _ _ _ _ _)).mono ?_; rintro e w' ⟨rfl, rfl⟩)
  have f0 := ((Four.new w (.int .i64 inp) (.slice al ls.length cl) (.slice aa xs.length ca) (.slice ab bs.length cb) 33).below (belOne _ (.cells #[.bool false] 4))).below (belOne _ (.cells #[.int .i64 inp, .slice al ls.length cl, .slice aa xs.length ca, .slice ab bs.length cb] 33))
  have f1 := Four.new ((w.alloc (.cells #[.int .i64 inp, .slice al ls.length cl, .slice aa xs.length ca, .slice ab bs.length cb] 33)).alloc (.cells #[.bool false] 4)) (.int .i64 inp) (.slice al ls.length cl) (.slice aa xs.length ca) (.slice ab bs.length cb) 33
  have f2 := (Boxed.new (w.alloc (.cells #[.int .i64 inp, .slice al ls.length cl, .slice aa xs.length ca, .slice ab bs.length cb] 33)) 4 (.bool false)).alloc (.cells #[.int .i64 inp, .slice al ls.length cl, .slice aa xs.length ca, .slice ab bs.length cb] 33)
  have hBw : Below w.heap.size w (((w.alloc (.cells #[.int .i64 inp, .slice al ls.length cl, .slice aa xs.length ca, .slice ab bs.length cb] 33)).alloc (.cells #[.bool false] 4)).alloc (.cells #[.int .i64 inp, .slice al ls.length cl, .slice aa xs.length ca, .slice ab bs.length cb] 33)) := belNext (belNext (belOne _ _) (belOne _ _)) (belOne _ _)
  have hsz : (((w.alloc (.cells #[.int .i64 inp, .slice al ls.length cl, .slice aa xs.length ca, .slice ab bs.length cb] 33)).alloc (.cells #[.bool false] 4)).alloc (.cells #[.int .i64 inp, .slice al ls.length cl, .slice aa xs.length ca, .slice ab bs.length cb] 33)).heap.size = w.heap.size + 3 := by simp
  rw [World.size_alloc, World.size_alloc] at f1
  rw [World.size_alloc] at f2
  generalize (((w.alloc (.cells #[.int .i64 inp, .slice al ls.length cl, .slice aa xs.length ca, .slice ab bs.length cb] 33)).alloc (.cells #[.bool false] 4)).alloc (.cells #[.int .i64 inp, .slice al ls.length cl, .slice aa xs.length ca, .slice ab bs.length cb] 33)) = W0 at *
  refine wpIn_rangeFunc_ownH rfl (by omega) (gf := 96) (lb := #[.pointer (some ⟨w.heap.size + 1 + 1, 0, none⟩)]) rfl trivial (enters_of Try.func96 (by kernel_rfl) rfl)
    (andNodes_stops 7 (by omega) (w.heap.size + 1 + 1) W0.heap.size inp al aa ab ls.length cl ca bs.length cb xs h0 h1 h2 h3 W0 (Nat.le_refl _) (by omega) f1 (HA.out.below hBw) (fun b off e => Nat.lt_of_lt_of_le (HAb.out b off e) hBw.size)) belowK_t (belowK_b (Nat.le_refl _)) (Below.refl _ _) (fun _ => rfl)
    (fun pre W => (pre.all pairG = true) ∧ Below W0.heap.size W0 W)
    (fun c pre W => ((c = .ret ∧ pre.all pairG = false) ∧ W.cell? ⟨w.heap.size + 1, 0, none⟩ = some (.bool false)) ∧ Below w.heap.size w W)
    (OwnFrom.and (ownFrom_pure _ _) (ownFrom_below (Nat.le_refl _) (Nat.le_refl _)))
    (fun c => OwnFrom.and (OwnFrom.and (ownFrom_pure _ _) (Own.from (fun s A B row hs hg hr => cell_kept hs hg hr) _)) (ownFrom_below (Nat.le_refl _) hBw.size))
    ⟨rfl, Below.refl _ _⟩
    (fun x a' W => ∃ Bx, W0.heap.size ≤ Bx ∧ Two W Bx (.int .i64 x.2.1) (.int .i64 x.2.2) ∧ a' = { tmps := #[.agg #[.int .i64 inp, .slice al ls.length cl, .slice aa xs.length ca, .slice ab bs.length cb], .pointer (some ⟨w.heap.size, 0, none⟩), .pointer (some ⟨w.heap.size + 1, 0, none⟩), .int .i64 x.1, .pointer (some ⟨Bx, 0, none⟩), undef, .pointer (some ⟨w.heap.size, 0, none⟩), .int .i64 inp, .bool false, .bool false, .pointer (some ⟨w.heap.size, 0, none⟩), .int .i64 inp, .bool false, .bool false, .bool false, .pointer (some ⟨w.heap.size, 1, none⟩), .slice al ls.length cl, .int .i64 ls.length, .bool false, .bool false, .bool false, .pointer (some ⟨w.heap.size, 2, none⟩), .slice aa xs.length ca, .int .i64 xs.length, .bool false, .bool false, .bool false, .pointer (some ⟨w.heap.size, 3, none⟩), .slice ab bs.length cb, .int .i64 bs.length, .bool false, .bool false, .agg #[.int .i64 inp, .slice al ls.length cl, .slice aa xs.length ca, .slice ab bs.length cb], .func (.func 96) #[] #[.pointer (some ⟨w.heap.size + 1 + 1, 0, none⟩)], .int .i64 x.1, .agg #[.int .i64 x.2.1, .int .i64 x.2.2], undef, undef, undef, undef, undef, undef, undef, undef, undef, undef, undef, undef, undef, undef, undef, undef, undef, undef, undef, undef], defers := [] })
    ?hAx ?assign ?body ?done ?stop
  case hAx =>
    rintro x a' s A B row ⟨Bx, hBx, hT, he⟩ hg hr
    exact ⟨Bx, hBx, ⟨Nat.lt_of_lt_of_le hT.lt hg.size, cell_kept hT.c0 hg (fun r e => (hr r e).2), cell_kept hT.c1 hg (fun r e => (hr r e).2)⟩, he⟩
  case assign =>
    rintro l pre x W K ⟨hp, hB⟩ hK
    gi_wp2
    exact hK _ _ ((KeepsOthers.alloc _ _).from _) ((Below.refl _ W).alloc hB.size _) ⟨hp, hB.alloc hB.size _⟩ ⟨W.heap.size, hB.size, Two.new W _ _ _, rfl⟩
  case body =>
    rintro l pre x a' W hl ⟨r, hr⟩ ⟨hp, hB⟩ ⟨Bx, hBx, hT, rfl⟩ hlen
    obtain ⟨x0, x1, x2⟩ := x
    have e0 := hT.c0
    have e1 := hT.c1
    have e2 := hT.lt
    have hall : (pre ++ [(x0, x1, x2)]).all pairG = (aheadG x1 x0 && aheadG x2 x0) := by rw [List.all_append, hp]; simp [pairG]
    have HALL : Hid ((pre ++ [(x0, x1, x2)]).all pairG = (aheadG x1 x0 && aheadG x2 x0)) := hall
    have hr0 : W.cell? ⟨w.heap.size + 1, 0, none⟩ = some (.bool false) := (hB.cell (p := ⟨w.heap.size + 1, 0, none⟩) (by show w.heap.size + 1 < W0.heap.size; omega)).trans f2.cell
    have hr1 : W.frozen? ⟨w.heap.size + 1, 0, none⟩ = false := (hB.frozen (p := ⟨w.heap.size + 1, 0, none⟩) (by show w.heap.size + 1 < W0.heap.size; omega)).trans f2.frozen
    have HP : Hid (pre.all pairG = true) := hp
    clear hall hp
    obtain ⟨g1, hg1⟩ : ∃ g, aheadG x1 x0 = g := ⟨_, rfl⟩
    obtain ⟨g2, hg2⟩ : ∃ g, aheadG x2 x0 = g := ⟨_, rfl⟩
    have HG1 : Hid (aheadG x1 x0 = g1) := hg1
    have HG2 : Hid (aheadG x2 x0 = g2) := hg2
    clear hg1 hg2
    have hd : 1 ≤ 8 - 1 - 1 := by omega
    cases g1 with
    | false =>
      gi_wp2_with (refine ⟨trivial, ?_⟩; gi_at_call 70; refine (CallsIn.inRound l (callsIn_wide.2 (isAhead_any _ _ _))).mono ?_; rintro e w' ⟨rfl, rfl⟩; rw [HG1.out])
      refine ⟨trivial, ?_⟩
      gi_wp2
      exact ⟨(KeepsOthers.setCell _ _ _).from _, ⟨⟨rfl, by rw [HALL.out, HG1.out]; rfl⟩, World.cell?_setCell_same' _ _ _ (by rw [hr0]; rfl)⟩, (belNext hBw hB).setCell (p := ⟨w.heap.size + 1, 0, none⟩) (by show w.heap.size ≤ w.heap.size + 1; omega) _⟩
    | true =>
      cases g2 with
      | false =>
        gi_wp2_with (refine ⟨trivial, ?_⟩; gi_at_call 70; refine (CallsIn.inRound l (callsIn_wide.2 (isAhead_any _ _ _))).mono ?_; rintro e w' ⟨rfl, rfl⟩; first | rw [HG1.out] | rw [HG2.out])
        exact ⟨(KeepsOthers.setCell _ _ _).from _, ⟨⟨rfl, by rw [HALL.out, HG1.out, HG2.out]; rfl⟩, World.cell?_setCell_same' _ _ _ (by rw [hr0]; rfl)⟩, (belNext hBw hB).setCell (p := ⟨w.heap.size + 1, 0, none⟩) (by show w.heap.size ≤ w.heap.size + 1; omega) _⟩
      | true =>
        gi_wp2_with (refine ⟨trivial, ?_⟩; gi_at_call 70; refine (CallsIn.inRound l (callsIn_wide.2 (isAhead_any _ _ _))).mono ?_; rintro e w' ⟨rfl, rfl⟩; first | rw [HG1.out] | rw [HG2.out])
        exact ⟨KeepsFrom.refl _ _, Below.refl _ _, by rw [HALL.out, HG1.out, HG2.out]; rfl, hB⟩
  case done =>
    rintro D ys W hD rfl ⟨hall, hB⟩ hK
    have fW := f0.below hB
    have e0 := fW.c0
    have e1 := fW.c1
    have e2 := fW.c2
    have e3 := fW.c3
    have e4 := fW.lt
    have hBW : Hid (Below w.heap.size w W) := belNext hBw hB
    have HALL : Hid ((nodesFrom (1 + inp + (ls.length : Int)) xs xs.length).all pairG = true) := hall
    have hr0 : W.cell? ⟨w.heap.size + 1, 0, none⟩ = some (.bool false) := (hB.cell (p := ⟨w.heap.size + 1, 0, none⟩) (by show w.heap.size + 1 < W0.heap.size; omega)).trans f2.cell
    have hr1 : W.frozen? ⟨w.heap.size + 1, 0, none⟩ = false := (hB.frozen (p := ⟨w.heap.size + 1, 0, none⟩) (by show w.heap.size + 1 < W0.heap.size; omega)).trans f2.frozen
    have hws : w.heap.size + 3 ≤ W.heap.size := by have := hB.size; omega
    have HK : Hid (W.heap[D]? = some (.deferred (some []))) := hK
    have HD : Hid (W0.heap.size ≤ D) := hD
    clear hall hK hD
    gi_wp2_with (refine ⟨trivial, ?_⟩; gi_at_call 91; refine (callsIn_wide.2 (ends_any _ _ _ _ _ _ _ _ _ _ _)).mono ?_; rintro e w' ⟨rfl, rfl⟩)
    have g1 := Four.new W (.int .i64 inp) (.slice al ls.length cl) (.slice aa xs.length ca) (.slice ab bs.length cb) 33
    have g0 := fW.below (belOne W (.cells #[.int .i64 inp, .slice al ls.length cl, .slice aa xs.length ca, .slice ab bs.length cb] 33))
    have hB5 : Below w.heap.size w (W.alloc (.cells #[.int .i64 inp, .slice al ls.length cl, .slice aa xs.length ca, .slice ab bs.length cb] 33)) := belNext hBW.out (belOne _ _)
    have hs5 : (W.alloc (.cells #[.int .i64 inp, .slice al ls.length cl, .slice aa xs.length ca, .slice ab bs.length cb] 33)).heap.size = W.heap.size + 1 := by simp
    have q0 : (W.alloc (.cells #[.int .i64 inp, .slice al ls.length cl, .slice aa xs.length ca, .slice ab bs.length cb] 33)).cell? ⟨w.heap.size + 1, 0, none⟩ = some (.bool false) := ((belOne W _).cell (p := ⟨w.heap.size + 1, 0, none⟩) (by show w.heap.size + 1 < W.heap.size; omega)).trans hr0
    have q1 : (W.alloc (.cells #[.int .i64 inp, .slice al ls.length cl, .slice aa xs.length ca, .slice ab bs.length cb] 33)).frozen? ⟨w.heap.size + 1, 0, none⟩ = false := ((belOne W _).frozen (p := ⟨w.heap.size + 1, 0, none⟩) (by show w.heap.size + 1 < W.heap.size; omega)).trans hr1
    have hK5 : (W.alloc (.cells #[.int .i64 inp, .slice al ls.length cl, .slice aa xs.length ca, .slice ab bs.length cb] 33)).heap[D]? = some (.deferred (some [])) := (Below.heap_alloc _ _ _ (Array.getElem?_eq_some_iff.1 HK.out).1).trans HK.out
    generalize W.alloc (.cells #[.int .i64 inp, .slice al ls.length cl, .slice aa xs.length ca, .slice ab bs.length cb] 33) = W5 at *
    refine wpIn_rangeFunc_ownG rfl (by omega) (gf := 115) (lb := #[.pointer (some ⟨W.heap.size, 0, none⟩)]) rfl trivial (enters_of Try.func115 (by kernel_rfl) rfl)
      (ends_stops 7 (by omega) W.heap.size W5.heap.size inp al aa ab cl xs.length ca cb ls bs h2 h4 W5 (Nat.le_refl _) (by omega) g1 (HL.out.below hB5) (HB.out.below hB5) (fun b off e => Nat.lt_of_lt_of_le (HLb.out b off e) hB5.size) (fun b off e => Nat.lt_of_lt_of_le (HBb.out b off e) hB5.size)) belowK_t (belowK_b (Nat.le_refl _)) (Below.refl _ _) (fun _ => rfl)
      (fun pre V => (pre.all (fun x => aheadG x (1 + inp + (ls.length : Int) + (xs.length : Int))) = true ∧ V.heap[D]? = some (.deferred (some []))) ∧ Below W5.heap.size W5 V)
      (fun c pre V => ((c = .ret ∧ pre.all (fun x => aheadG x (1 + inp + (ls.length : Int) + (xs.length : Int))) = false) ∧ V.heap[D]? = some (.deferred (some [])) ∧ V.cell? ⟨w.heap.size + 1, 0, none⟩ = some (.bool false)) ∧ Below w.heap.size w V)
      (OwnFrom.and (OwnFrom.and (ownFrom_pure _ _) (fun s A B row hs hg hr => (hg.block D (Array.getElem?_eq_some_iff.1 hs).1 (fun e => by have h5 := (hr D e.symm).1; have h6 := (Array.getElem?_eq_some_iff.1 hK5).1; omega)).trans hs)) (ownFrom_below (Nat.le_refl _) (Nat.le_refl _)))
      (fun c => OwnFrom.and (OwnFrom.and (ownFrom_pure _ _) (OwnFrom.and (fun s A B row hs hg hr => (hg.block D (Array.getElem?_eq_some_iff.1 hs).1 (fun e => by have h5 := (hr D e.symm).1; have h6 := (Array.getElem?_eq_some_iff.1 hK5).1; omega)).trans hs) (Own.from (fun s A B row hs hg hr => cell_kept hs hg hr) _))) (ownFrom_below (Nat.le_refl _) hB5.size))
      ⟨⟨rfl, hK5⟩, Below.refl _ _⟩
      (fun x => { tmps := #[.agg #[.int .i64 inp, .slice al ls.length cl, .slice aa xs.length ca, .slice ab bs.length cb], .pointer (some ⟨w.heap.size, 0, none⟩), .pointer (some ⟨w.heap.size + 1, 0, none⟩), undef, undef, .int .i64 x, .pointer (some ⟨w.heap.size, 0, none⟩), .int .i64 inp, .bool false, .bool false, .pointer (some ⟨w.heap.size, 0, none⟩), .int .i64 inp, .bool false, .bool false, .bool false, .pointer (some ⟨w.heap.size, 1, none⟩), .slice al ls.length cl, .int .i64 ls.length, .bool false, .bool false, .bool false, .pointer (some ⟨w.heap.size, 2, none⟩), .slice aa xs.length ca, .int .i64 xs.length, .bool false, .bool false, .bool false, .pointer (some ⟨w.heap.size, 3, none⟩), .slice ab bs.length cb, .int .i64 bs.length, .bool false, .bool false, .agg #[.int .i64 inp, .slice al ls.length cl, .slice aa xs.length ca, .slice ab bs.length cb], .func (.func 96) #[] #[.pointer (some ⟨w.heap.size + 1 + 1, 0, none⟩)], undef, undef, undef, undef, undef, undef, undef, undef, undef, undef, undef, undef, undef, undef, .agg #[.int .i64 inp, .slice al ls.length cl, .slice aa xs.length ca, .slice ab bs.length cb], .func (.func 115) #[] #[.pointer (some ⟨W.heap.size, 0, none⟩)], .int .i64 x, undef, undef, undef, undef, undef], defers := [] })
      ?assign2 ?body2 ?done2 ?stop2
    case assign2 =>
      intro l x V K hK
      gi_wp2
      exact hK
    case body2 =>
      rintro l pre x V ⟨⟨hp, hKV⟩, hBV⟩ hlen
      have gV := g0.below hBV
      have d0 := gV.c0
      have d1 := gV.c1
      have d2 := gV.c2
      have d3 := gV.c3
      have d4 := gV.lt
      have hv0 : Hid (V.cell? ⟨w.heap.size + 1, 0, none⟩ = some (.bool false)) := (hBV.cell (p := ⟨w.heap.size + 1, 0, none⟩) (by show w.heap.size + 1 < W5.heap.size; omega)).trans q0
      have hv1 : Hid (V.frozen? ⟨w.heap.size + 1, 0, none⟩ = false) := (hBV.frozen (p := ⟨w.heap.size + 1, 0, none⟩) (by show w.heap.size + 1 < W5.heap.size; omega)).trans q1
      have hall : (pre ++ [x]).all (fun x => aheadG x (1 + inp + (ls.length : Int) + (xs.length : Int))) = aheadG x (1 + inp + (ls.length : Int) + (xs.length : Int)) := by rw [List.all_append, hp]; simp
      have HX : Hid ((pre ++ [x]).all (fun x => aheadG x (1 + inp + (ls.length : Int) + (xs.length : Int))) = aheadG x (1 + inp + (ls.length : Int) + (xs.length : Int))) := hall
      have HP : Hid (pre.all (fun x => aheadG x (1 + inp + (ls.length : Int) + (xs.length : Int))) = true) := hp
      have HKV : Hid (V.heap[D]? = some (.deferred (some []))) := hKV
      obtain ⟨g, hg⟩ : ∃ g, aheadG x (1 + inp + (ls.length : Int) + (xs.length : Int)) = g := ⟨_, rfl⟩
      have HG : Hid (aheadG x (1 + inp + (ls.length : Int) + (xs.length : Int)) = g) := hg
      have hlv : w.heap.size + 1 < V.heap.size := by have := hBV.size; omega
      clear hall hp hg hKV hr0 hr1 q0 q1 e0 e1 e2 e3
      have hd : 1 ≤ 8 - 1 - 1 := by omega
      cases g with
      | false =>
        gi_wp2_with (first
          | (refine ⟨trivial, ?_⟩; gi_at_call 71; refine (CallsIn.inRound l (callsIn_wide.2 (nodesOf_any _ _ _ _ _ _ _ _ _ _ _ h0 h1 h2 h3))).mono ?_; rintro e w1 ⟨rfl, hb1⟩; have k0 := (hb1.cell (p := ⟨w.heap.size + 1, 0, none⟩) hlv).trans hv0.out; have k1 := (hb1.frozen (p := ⟨w.heap.size + 1, 0, none⟩) hlv).trans hv1.out; have HB1 : Hid (Below V.heap.size V w1) := hb1; clear hb1)
          | (refine ⟨trivial, ?_⟩; gi_at_call 70; refine (CallsIn.inRound l (callsIn_wide.2 (isAhead_any _ _ _))).mono ?_; rintro e w' ⟨rfl, rfl⟩; rw [HG.out]))
        have hk1 := (keeps_of_below HB1.out).trans (KeepsOthers.setCell _ ⟨w.heap.size + 1, 0, none⟩ (.bool false))
        exact ⟨hk1.from _, ⟨⟨rfl, by rw [HX.out, HG.out]⟩, hk1.same D _ HKV.out rfl, World.cell?_setCell_same' _ _ _ (by rw [k0]; rfl)⟩, (belNext (belNext hB5 hBV) HB1.out).setCell (p := ⟨w.heap.size + 1, 0, none⟩) (by show w.heap.size ≤ w.heap.size + 1; omega) _⟩
      | true =>
        gi_wp2_with (first
          | (refine ⟨trivial, ?_⟩; gi_at_call 71; refine (CallsIn.inRound l (callsIn_wide.2 (nodesOf_any _ _ _ _ _ _ _ _ _ _ _ h0 h1 h2 h3))).mono ?_; rintro e w1 ⟨rfl, hb1⟩; have k0 := (hb1.cell (p := ⟨w.heap.size + 1, 0, none⟩) hlv).trans hv0.out; have k1 := (hb1.frozen (p := ⟨w.heap.size + 1, 0, none⟩) hlv).trans hv1.out; have HB1 : Hid (Below V.heap.size V w1) := hb1; clear hb1)
          | (refine ⟨trivial, ?_⟩; gi_at_call 70; refine (CallsIn.inRound l (callsIn_wide.2 (isAhead_any _ _ _))).mono ?_; rintro e w' ⟨rfl, rfl⟩; rw [HG.out]))
        have hk1 := keeps_of_below HB1.out
        exact ⟨hk1.from _, HB1.out.mono hBV.size, ⟨by rw [HX.out, HG.out], hk1.same D _ HKV.out rfl⟩, belNext hBV HB1.out⟩
    case done2 =>
      rintro D2 ys V hD2 rfl ⟨⟨hp, hKV⟩, hBV⟩ hK2
      have hv0 : V.cell? ⟨w.heap.size + 1, 0, none⟩ = some (.bool false) := (hBV.cell (p := ⟨w.heap.size + 1, 0, none⟩) (by show w.heap.size + 1 < W5.heap.size; omega)).trans q0
      have hv1 : V.frozen? ⟨w.heap.size + 1, 0, none⟩ = false := (hBV.frozen (p := ⟨w.heap.size + 1, 0, none⟩) (by show w.heap.size + 1 < W5.heap.size; omega)).trans q1
      gi_wp2
      have hK2' := (KeepsOthers.setCell V ⟨w.heap.size + 1, 0, none⟩ (.bool true)).same D2 _ hK2 rfl
      have hKV' := (KeepsOthers.setCell V ⟨w.heap.size + 1, 0, none⟩ (.bool true)).same D _ hKV rfl
      have hDl := (Array.getElem?_eq_some_iff.1 hK5).1
      have hKV2 : ((V.setCell ⟨w.heap.size + 1, 0, none⟩ (.bool true)).putObj D2 (.deferred none)).heap[D]? = some (.deferred (some [])) := (World.putObj_heap_other (by omega)).trans hKV'
      have c5 := cell_kept (World.cell?_setCell_same' V ⟨w.heap.size + 1, 0, none⟩ (.bool true) (by rw [hv0]; rfl)) (grownBy_putObj' _ D2 (.deferred none)) (fun r e => by cases e; exact ⟨_, hK2', rfl⟩)
      have c6 := cell_kept c5 (grownBy_putObj' _ D (.deferred none)) (fun r e => by cases e; exact ⟨_, hKV2, rfl⟩)
      refine ⟨by simp, .inl ⟨_, _, rfl, run_takeDeferred hK2', ?_⟩⟩
      refine ⟨by simp, .inl ⟨_, _, rfl, run_takeDeferred hKV2, ?_⟩⟩
      have hD0 := HD.out
      refine ⟨.bool true, ?_, ?_, ?_⟩
      · simp [results, Try.f44, go_sem, c6]
      · rw [HALL.out, hp]; rfl
      · exact (((belNext hB5 hBV).setCell (p := ⟨w.heap.size + 1, 0, none⟩) (by show w.heap.size ≤ w.heap.size + 1; omega) _).trans (belowK_b (w := w) (Nat.le_refl _) _ D2 _ _ (by omega) hK2' rfl rfl)).trans (belowK_b (w := w) (Nat.le_refl _) _ D _ _ (by omega) hKV2 rfl rfl)
    case stop2 =>
      rintro D2 c pre V hD2 hk ⟨⟨⟨rfl, hall⟩, hKV, hc⟩, hBV⟩ hK2
      gi_wp2
      have hDl := (Array.getElem?_eq_some_iff.1 hK5).1
      have hKV2 : (V.putObj D2 (.deferred none)).heap[D]? = some (.deferred (some [])) := (World.putObj_heap_other (by omega)).trans hKV
      have c5 := cell_kept hc (grownBy_putObj' _ D2 (.deferred none)) (fun r e => by cases e; exact ⟨_, hK2, rfl⟩)
      have c6 := cell_kept c5 (grownBy_putObj' _ D (.deferred none)) (fun r e => by cases e; exact ⟨_, hKV2, rfl⟩)
      refine ⟨by simp, .inl ⟨_, _, rfl, run_takeDeferred hK2, ?_⟩⟩
      refine ⟨by simp, .inl ⟨_, _, rfl, run_takeDeferred hKV2, ?_⟩⟩
      have hD0 := HD.out
      refine ⟨.bool false, ?_, ?_, ?_⟩
      · simp [results, Try.f44, go_sem, c6]
      · rw [HALL.out, all_of_prefix hk hall]; rfl
      · exact (hBV.trans (belowK_b (w := w) (Nat.le_refl _) _ D2 _ _ (by omega) hK2 rfl rfl)).trans (belowK_b (w := w) (Nat.le_refl _) _ D _ _ (by omega) hKV2 rfl rfl)
  case stop =>
    rintro D c pre W hD ⟨k, hk, rfl⟩ ⟨⟨⟨rfl, hall⟩, hc⟩, hB⟩ hK
    gi_wp2
    have c5 := cell_kept hc (grownBy_putObj' _ D (.deferred none)) (fun r e => by cases e; exact ⟨_, hK, rfl⟩)
    refine ⟨by simp, .inl ⟨_, _, rfl, run_takeDeferred hK, ?_⟩⟩
    refine ⟨.bool false, ?_, ?_, ?_⟩
    · simp [results, Try.f44, go_sem, c5]
    · rw [all_of_prefix (nodesFrom_prefix _ xs hk) hall]; rfl
    · exact hB.trans (belowK_b (w := w) (Nat.le_refl _) _ D _ _ (by omega) hK rfl rfl)

/-- What is needed of the three slices of a circuit. -/
structure IsCir (w : World) (al aa ab : Option Addr) (cl ca cb : Nat) (ls : List (Int × Bool)) (xs : List (Int × Int)) (bs : List Int) : Prop where
  isL : IsLatches w (.slice al ls.length cl) ls
  isA : IsAnds w (.slice aa xs.length ca) xs
  isB : IsInts w (.slice ab bs.length cb) bs
  inL : ∀ b off, al = some ⟨b, off, none⟩ → b < w.heap.size
  inA : ∀ b off, aa = some ⟨b, off, none⟩ → b < w.heap.size
  inB : ∀ b off, ab = some ⟨b, off, none⟩ → b < w.heap.size
  lenL : ls.length ≤ maxLen
  lenA : xs.length ≤ maxLen
  lenB : bs.length ≤ maxLen

theorem IsCir.below {w w' : World} {al aa ab : Option Addr} {cl ca cb : Nat} {ls : List (Int × Bool)} {xs : List (Int × Int)} {bs : List Int} (h : IsCir w al aa ab cl ca cb ls xs bs) (hb : Below w.heap.size w w') : IsCir w' al aa ab cl ca cb ls xs bs :=
  ⟨h.isL.below hb, h.isA.below hb, h.isB.below hb, fun b off e => Nat.lt_of_lt_of_le (h.inL b off e) hb.size, fun b off e => Nat.lt_of_lt_of_le (h.inA b off e) hb.size, fun b off e => Nat.lt_of_lt_of_le (h.inB b off e) hb.size, h.lenL, h.lenA, h.lenB⟩

set_option maxRecDepth 100000 in
set_option maxHeartbeats 2000000 in
theorem implAigOk_any (inp : Int) (al aa ab : Option Addr) (cl ca cb : Nat) (ls : List (Int × Bool)) (xs : List (Int × Int)) (bs : List Int) (w : World) (hC : IsCir w al aa ab cl ca cb ls xs bs) :
    Calls Try.prog 44 #[.agg #[.int .i64 inp, .slice al ls.length cl, .slice aa xs.length ca, .slice ab bs.length cb]] w fun e w' => e = .returned (.bool (okC inp ls xs bs)) ∧ Below w.heap.size w w' := by
  by_cases hs : 0 ≤ inp ∧ inp ≤ 8 ∧ ls.length ≤ 8 ∧ xs.length ≤ 40 ∧ bs.length ≤ 4
  · have e : okC inp ls xs bs = ((nodesFrom (1 + inp + ls.length) xs xs.length).all pairG && (endsOf ls bs).all (fun x => aheadG x (1 + inp + ls.length + xs.length))) := by
      unfold okC sizesB; rw [decide_eq_true hs]; rfl
    rw [e]
    exact implAigOk_fit inp al aa ab cl ca cb ls xs bs w hs.1 hs.2.1 hs.2.2.1 hs.2.2.2.1 hs.2.2.2.2 hC.isL hC.isA hC.isB hC.inL hC.inA hC.inB
  · have e : okC inp ls xs bs = false := by unfold okC sizesB; rw [decide_eq_false hs]; rfl
    rw [e]
    have HL : Hid (¬ (0 ≤ inp ∧ inp ≤ 8 ∧ ls.length ≤ 8 ∧ xs.length ≤ 40 ∧ bs.length ≤ 4)) := hs
    have ml := hC.lenL
    have ma := hC.lenA
    have mb := hC.lenB
    unfold maxLen at ml ma mb
    clear hC hs e
    generalize ls.length = nl at *
    generalize xs.length = na at *
    generalize bs.length = nb at *
    refine (callsIn_wide (n := 8)).1 ?_
    refine callsIn_of_wp_marks Try.func44 rfl trivial ?_ rfl
    simp only [Try.ntmps44, List.size_toArray, List.length_cons, List.length_nil, Nat.reduceAdd, Nat.reduceSub, Array.replicate_succ, Array.replicate_zero, List.push_toArray, List.append_toArray, List.nil_append, List.cons_append]
    by_cases c0 : inp < 0
    · have b0 : decide (inp < 0) = true := by simp; omega
      gi_wp2
      refine ⟨.bool false, ?_, rfl, belNext (belOne _ _) (belOne _ _)⟩
      simp [results, Try.f44, go_sem]
    have b0 : decide (inp < 0) = false := by simp; omega
    by_cases c1 : 8 < inp
    · have b1 : decide ((8 : Int) < inp) = true := by simp; omega
      gi_wp2
      refine ⟨.bool false, ?_, rfl, belNext (belOne _ _) (belOne _ _)⟩
      simp [results, Try.f44, go_sem]
    have b1 : decide ((8 : Int) < inp) = false := by simp; omega
    by_cases c2 : 8 < nl
    · have b2 : decide ((8 : Int) < (nl : Int)) = true := by simp; omega
      gi_wp2
      refine ⟨.bool false, ?_, rfl, belNext (belOne _ _) (belOne _ _)⟩
      simp [results, Try.f44, go_sem]
    have b2 : decide ((8 : Int) < (nl : Int)) = false := by simp; omega
    by_cases c3 : 40 < na
    · have b3 : decide ((40 : Int) < (na : Int)) = true := by simp; omega
      gi_wp2
      refine ⟨.bool false, ?_, rfl, belNext (belOne _ _) (belOne _ _)⟩
      simp [results, Try.f44, go_sem]
    have b3 : decide ((40 : Int) < (na : Int)) = false := by simp; omega
    by_cases c4 : 4 < nb
    · have b4 : decide ((4 : Int) < (nb : Int)) = true := by simp; omega
      gi_wp2
      refine ⟨.bool false, ?_, rfl, belNext (belOne _ _) (belOne _ _)⟩
      simp [results, Try.f44, go_sem]
    exact absurd ⟨by omega, by omega, by omega, by omega, by omega⟩ HL.out

end Go.Proofs.Ytbdjdgamnnifjaa

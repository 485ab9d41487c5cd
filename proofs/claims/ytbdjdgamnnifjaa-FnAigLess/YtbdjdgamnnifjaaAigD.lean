/-
  Whether a circuit is ok: the model's AigOk; both answer the same.
-/
import Derived.Test.YtbdjdgamnnifjaaAigC
namespace Go.Proofs.Ytbdjdgamnnifjaa
open Go.RowKit Go.Deep
set_option linter.unusedVariables false

def inB (x low high : Int) : Bool := decide (low ≤ x) && decide (x ≤ high)
theorem inB_ahead (x n : Int) : inB x 0 (2 * n - 1) = aheadB x n := by
  unfold inB aheadB
  have : (x ≤ 2 * n - 1) ↔ (x < 2 * n) := by omega
  simp [this]

set_option maxHeartbeats 400000 in
theorem l1In_any (x low high : Int) (w : World) :
    Calls Try.prog 67 #[.int .i64 x, .int .i64 low, .int .i64 high] w fun e w' => e = .returned (.bool (inB x low high)) ∧ w' = w := by
  by_cases h : low ≤ x
  · have hr : inB x low high = decide (x ≤ high) := by unfold inB; simp [h]
    rw [hr]
    go_enter Try.func67, Try.ntmps67
    go_wp2
    go_ret
    exact ⟨rfl, rfl⟩
  · have hr : inB x low high = false := by unfold inB; simp [h]
    rw [hr]
    go_enter Try.func67, Try.ntmps67
    go_wp2
    go_ret
    exact ⟨rfl, rfl⟩

set_option maxHeartbeats 400000 in
theorem l3First_any (inp : Int) (al aa ab : Option Addr) (nl cl na ca nb cb : Nat) (w : World) (h0 : 0 ≤ inp) (h1 : inp ≤ 8) (h2 : nl ≤ 8) :
    Calls Try.prog 74 #[.agg #[.int .i64 inp, .slice al nl cl, .slice aa na ca, .slice ab nb cb]] w fun e w' => e = .returned (.int .i64 (1 + inp + nl)) ∧ Below w.heap.size w w' := by
  go_enter Try.func74, Try.ntmps74
  go_wp2
  go_ret
  exact ⟨rfl, belOne _ _⟩

set_option maxHeartbeats 400000 in
theorem l3Nodes_any (inp : Int) (al aa ab : Option Addr) (nl cl na ca nb cb : Nat) (w : World) (h0 : 0 ≤ inp) (h1 : inp ≤ 8) (h2 : nl ≤ 8) (h3 : na ≤ 40) :
    Calls Try.prog 68 #[.agg #[.int .i64 inp, .slice al nl cl, .slice aa na ca, .slice ab nb cb]] w fun e w' => e = .returned (.int .i64 (inp + nl + na)) ∧ Below w.heap.size w w' := by
  go_enter Try.func68, Try.ntmps68
  go_wp2
  go_ret
  exact ⟨rfl, belOne _ _⟩

theorem inB_end (x inp : Int) (a b : Nat) : inB x 0 (2 * (inp + (a : Int) + (b : Int)) + 1) = aheadB x (1 + inp + (a : Int) + (b : Int)) := by
  rw [← inB_ahead]
  congr 1
  omega

def pairB (p : Int × Int × Int) : Bool := aheadB p.2.1 p.1 && aheadB p.2.2 p.1

/-- What the model's AigOk answers, where the sizes fit. -/
def okF (inp : Int) (ls : List (Int × Bool)) (xs : List (Int × Int)) (bs : List Int) : Bool :=
  (nodesFrom (1 + inp + ls.length) xs xs.length).all pairB && ((ls.map (·.1)).all (fun x => aheadB x (1 + inp + ls.length + xs.length)) && bs.all (fun x => aheadB x (1 + inp + ls.length + xs.length)))

def okS (inp : Int) (ls : List (Int × Bool)) (xs : List (Int × Int)) (bs : List Int) : Bool := sizesB inp ls.length xs.length bs.length && okF inp ls xs bs

theorem okC_eq {inp : Int} {ls : List (Int × Bool)} {xs : List (Int × Int)} {bs : List Int} (hl : ∀ p ∈ ls, I64 p.1) (hx : ∀ p ∈ xs, I64 p.1 ∧ I64 p.2) (hb : ∀ x ∈ bs, I64 x) : okC inp ls xs bs = okS inp ls xs bs := by
  unfold okC okS okF
  have h1 : (nodesFrom (1 + inp + (ls.length : Int)) xs xs.length).all pairG = (nodesFrom (1 + inp + (ls.length : Int)) xs xs.length).all pairB := by
    rw [Bool.eq_iff_iff, List.all_eq_true, List.all_eq_true]
    refine forall_congr' fun p => forall_congr' fun hp => ?_
    simp only [nodesFrom, List.mem_map, List.mem_range] at hp
    obtain ⟨i, hi, rfl⟩ := hp
    have hm : xs.getD i (0, 0) ∈ xs := by rw [List.getD, List.getElem?_eq_getElem hi]; simp
    have hh := hx _ hm
    simp only [pairG, pairB, aheadG_eq hh.1, aheadG_eq hh.2]
  have h2 : (endsOf ls bs).all (fun x => aheadG x (1 + inp + (ls.length : Int) + (xs.length : Int))) = (endsOf ls bs).all (fun x => aheadB x (1 + inp + (ls.length : Int) + (xs.length : Int))) := by
    rw [Bool.eq_iff_iff, List.all_eq_true, List.all_eq_true]
    refine forall_congr' fun x => forall_congr' fun hx' => ?_
    have : I64 x := by
      simp only [endsOf, List.mem_append, List.mem_map] at hx'
      rcases hx' with ⟨p, hp, rfl⟩ | hb'
      · exact hl p hp
      · exact hb x hb'
    rw [aheadG_eq this]
  rw [h1, h2]
  unfold endsOf
  rw [List.all_append]

theorem all_snoc {α : Type} (f : α → Bool) (xs : List α) (x : α) : (xs ++ [x]).all f = (xs.all f && f x) := by rw [List.all_append]; simp
theorem all_snoc_false {α : Type} {f : α → Bool} (xs : List α) {x : α} (h : f x = false) : (xs ++ [x]).all f = false := by rw [all_snoc, h, Bool.and_false]

theorem okF_pair {inp : Int} {ls : List (Int × Bool)} {xs : List (Int × Int)} {bs : List Int} {k : Nat} (hk : k < xs.length) (h : pairB (1 + inp + (ls.length : Int) + (k : Int), xs.getD k (0, 0)) = false) : okF inp ls xs bs = false := by
  unfold okF
  rw [all_of_prefix (nodesFrom_prefix _ xs (show k + 1 ≤ xs.length from hk)) (by rw [nodesFrom_succ]; exact all_snoc_false _ h)]
  rfl
theorem okF_next {inp : Int} {ls : List (Int × Bool)} {xs : List (Int × Int)} {bs : List Int} {k : Nat} (hk : k < ls.length) (h : aheadB (ls.getD k (0, false)).1 (1 + inp + ls.length + xs.length) = false) : okF inp ls xs bs = false := by
  unfold okF
  have : (ls.map (·.1)).all (fun x => aheadB x (1 + inp + ls.length + xs.length)) = false := by
    refine all_of_prefix (xs := (ls.take (k + 1)).map (·.1)) ((List.take_prefix _ _).map _) ?_
    rw [map_take_succ ls k hk]; exact all_snoc_false _ h
  rw [this]
  simp
theorem okF_bad {inp : Int} {ls : List (Int × Bool)} {xs : List (Int × Int)} {bs : List Int} {k : Nat} (hk : k < bs.length) (h : aheadB (bs.getD k 0) (1 + inp + ls.length + xs.length) = false) : okF inp ls xs bs = false := by
  unfold okF
  have : bs.all (fun x => aheadB x (1 + inp + ls.length + xs.length)) = false := by
    refine all_of_prefix (xs := bs.take (k + 1)) (List.take_prefix _ _) ?_
    rw [take_snoc' bs k hk]; exact all_snoc_false _ h
  rw [this]
  simp

set_option maxRecDepth 100000 in
set_option maxHeartbeats 4000000 in
theorem specAigOk_fit (inp : Int) (al aa ab : Option Addr) (cl ca cb : Nat) (ls : List (Int × Bool)) (xs : List (Int × Int)) (bs : List Int) (w : World) (h0 : 0 ≤ inp) (h1 : inp ≤ 8) (h2 : ls.length ≤ 8) (h3 : xs.length ≤ 40) (h4 : bs.length ≤ 4)
    (hC : IsCir w al aa ab cl ca cb ls xs bs) :
    Calls Try.prog 43 #[.agg #[.int .i64 inp, .slice al ls.length cl, .slice aa xs.length ca, .slice ab bs.length cb]] w fun e w' => e = .returned (.bool (okF inp ls xs bs)) ∧ Below w.heap.size w w' := by
  have b1 : inB inp 0 8 = true := by unfold inB; simp [h0, h1]
  have B1 : Hid (inB inp 0 8 = true) := b1
  have b2 : decide ((8 : Int) < ls.length) = false := by simp; omega
  have b3 : decide ((40 : Int) < xs.length) = false := by simp; omega
  have b4 : decide ((4 : Int) < bs.length) = false := by simp; omega
  have HC : Hid (IsCir w al aa ab cl ca cb ls xs bs) := hC
  obtain ⟨r, hr⟩ : ∃ r, okF inp ls xs bs = r := ⟨_, rfl⟩
  rw [hr]
  have HR : Hid (okF inp ls xs bs = r) := hr
  have HF1 : Hid (∀ k, k < xs.length → pairB (1 + inp + (ls.length : Int) + (k : Int), xs.getD k (0, 0)) = false → r = false) := fun k hk h => hr ▸ okF_pair hk h
  have HF2 : Hid (∀ k, k < ls.length → aheadB (ls.getD k (0, false)).1 (1 + inp + ls.length + xs.length) = false → r = false) := fun k hk h => hr ▸ okF_next hk h
  have HF3 : Hid (∀ k, k < bs.length → aheadB (bs.getD k 0) (1 + inp + ls.length + xs.length) = false → r = false) := fun k hk h => hr ▸ okF_bad hk h
  clear hC b1 hr
  go_enter Try.func43, Try.ntmps43
  go_wp2_with (go_at_call 67; refine (l1In_any _ _ _ _).mono ?_; rintro e w' ⟨rfl, rfl⟩; rw [B1.out])
  go_loopw [3, 4] (fun i m wr => ∃ k : Nat, k ≤ xs.length ∧ i = .int .i64 k ∧ Hid ((nodesFrom (1 + inp + (ls.length : Int)) xs k).all pairB = true) ∧ Below w.heap.size w wr ∧ Four wr w.heap.size (.int .i64 inp) (.slice al ls.length cl) (.slice aa xs.length ca) (.slice ab bs.length cb)) (fun i _ _ => xs.length - (intOf i).toNat)
  case atStart => exact ⟨0, Nat.zero_le _, rfl, rfl, belOne _ _, Four.new _ _ _ _ _ _⟩
  case round =>
    obtain ⟨k, hk, rfl, hall, hb, hf⟩ := hrel
    have c0 := hf.c0
    have c1 := hf.c1
    have c2 := hf.c2
    have c3 := hf.c3
    have c4 := hf.lt
    have HBr : Hid (Below w.heap.size w wr) := hb
    have HFr : Hid (Four wr w.heap.size (.int .i64 inp) (.slice al ls.length cl) (.slice aa xs.length ca) (.slice ab bs.length cb)) := hf
    have hCr := HC.out.below hb
    clear hb hf
    by_cases hlt : k < xs.length
    · obtain ⟨b, off, rfl, hbl, hx1, hx2⟩ : ∃ b off, aa = some ⟨b, off, none⟩ ∧ b < wr.heap.size ∧ wr.cell? ⟨b, off + k * 2, none⟩ = some (.int .i64 (xs.getD k (0, 0)).1) ∧ wr.cell? ⟨b, off + k * 2 + 1, none⟩ = some (.int .i64 (xs.getD k (0, 0)).2) := by
        obtain ⟨ao', cap', he, h⟩ := hCr.isA
        obtain ⟨b, off, ha, hc⟩ := h (by intro e; subst e; simp at hlt)
        injection he with e1 e2 e3
        exact ⟨b, off, e1.trans ha, cell_lt (hc k hlt).1, hc k hlt⟩
      have hfl := HF1.out k hlt
      have hsn := nodesFrom_succ (1 + inp + (ls.length : Int)) xs k
      have HS : Hid ((nodesFrom (1 + inp + (ls.length : Int)) xs (k + 1)).all pairB = pairB (1 + inp + (ls.length : Int) + (k : Int), xs.getD k (0, 0))) := by
        show (nodesFrom (1 + inp + (ls.length : Int)) xs (k + 1)).all pairB = pairB (1 + inp + (ls.length : Int) + (k : Int), xs.getD k (0, 0))
        rw [hsn, all_snoc, hall.out, Bool.true_and]
      have HFL : Hid (pairB (1 + inp + (ls.length : Int) + (k : Int), xs.getD k (0, 0)) = false → r = false) := hfl
      clear hfl hsn hCr
      generalize xs.getD k (0, 0) = q at *
      obtain ⟨q1, q2⟩ := q
      have hx1' : wr.cell? ⟨b, off + k * 2, none⟩ = some (.int .i64 q1) := hx1
      have hx2' : wr.cell? ⟨b, off + k * 2 + 1, none⟩ = some (.int .i64 q2) := hx2
      have HX1 : Hid (wr.cell? ⟨b, off + k * 2, none⟩ = some (.int .i64 q1)) := hx1'
      have HX2 : Hid (wr.cell? ⟨b, off + k * 2 + 1, none⟩ = some (.int .i64 q2)) := hx2'
      clear hx1 hx2 hx1' hx2'
      have hp : pairB (1 + inp + (ls.length : Int) + (k : Int), (q1, q2)) = (inB q1 0 (2 * (1 + inp + (ls.length : Int) + (k : Int)) - 1) && inB q2 0 (2 * (1 + inp + (ls.length : Int) + (k : Int)) - 1)) := by rw [inB_ahead, inB_ahead]; rfl
      obtain ⟨g1, hg1⟩ : ∃ g, inB q1 0 (2 * (1 + inp + (ls.length : Int) + (k : Int)) - 1) = g := ⟨_, rfl⟩
      obtain ⟨g2, hg2⟩ : ∃ g, inB q2 0 (2 * (1 + inp + (ls.length : Int) + (k : Int)) - 1) = g := ⟨_, rfl⟩
      rw [hg1, hg2] at hp
      have HP : Hid (pairB (1 + inp + (ls.length : Int) + (k : Int), (q1, q2)) = (g1 && g2)) := hp
      have HG1 : Hid (inB q1 0 (2 * (1 + inp + (ls.length : Int) + (k : Int)) - 1) = g1) := hg1
      have HG2 : Hid (inB q2 0 (2 * (1 + inp + (ls.length : Int) + (k : Int)) - 1) = g2) := hg2
      clear hp hg1 hg2
      go_wp2_with fail
      refine (l3First_any _ _ _ _ _ _ _ _ _ _ _ h0 h1 h2).mono ?_
      rintro e w1 ⟨rfl, hb1⟩
      have HB1 : Hid (Below w.heap.size w w1) := belNext HBr.out hb1
      have HF1' : Hid (Four w1 w.heap.size (.int .i64 inp) (.slice al ls.length cl) (.slice (some ⟨b, off, none⟩) xs.length ca) (.slice ab bs.length cb)) := HFr.out.below hb1
      have d0 := HF1'.out.c0
      have d1 := HF1'.out.c1
      have d2 := HF1'.out.c2
      have d3 := HF1'.out.c3
      have hy1 := (hb1.cell (p := ⟨b, off + k * 2, none⟩) hbl).trans HX1.out
      have hy2 := (hb1.cell (p := ⟨b, off + k * 2 + 1, none⟩) hbl).trans HX2.out
      clear hb1 c0 c1 c2 c3
      cases g1 with
      | false =>
        go_wp2_with (go_at_call 67; refine (l1In_any _ _ _ _).mono ?_; rintro e w' ⟨rfl, rfl⟩; rw [HG1.out])
        go_ret
        exact ⟨ret_b (HFL.out (by rw [HP.out]; rfl)).symm, HB1.out⟩
      | true =>
        cases g2 with
        | false =>
          go_wp2_with (go_at_call 67; refine (l1In_any _ _ _ _).mono ?_; rintro e w' ⟨rfl, rfl⟩; first | rw [HG1.out] | rw [HG2.out])
          go_ret
          exact ⟨ret_b (HFL.out (by rw [HP.out]; rfl)).symm, HB1.out⟩
        | true =>
          go_wp2_with (go_at_call 67; refine (l1In_any _ _ _ _).mono ?_; rintro e w' ⟨rfl, rfl⟩; first | rw [HG1.out] | rw [HG2.out])
          go_roundw
          case rel => exact ⟨k + 1, by omega, by go_num, HS.out.trans HP.out, HB1.out, HF1'.out⟩
          case measure => simp [intOf]; omega
    · obtain rfl : k = xs.length := by omega
      have HA1 : Hid ((nodesFrom (1 + inp + (ls.length : Int)) xs xs.length).all pairB = true) := hall
      clear hall
      go_wp2_with fail
      go_loopw [5] (fun i wq => ∃ k : Nat, k ≤ ls.length ∧ i = .int .i64 k ∧ Hid (((ls.take k).map (·.1)).all (fun x => aheadB x (1 + inp + ls.length + xs.length)) = true) ∧ Below w.heap.size w wq ∧ Four wq w.heap.size (.int .i64 inp) (.slice al ls.length cl) (.slice aa xs.length ca) (.slice ab bs.length cb)) (fun i _ => ls.length - (intOf i).toNat)
      case atStart => exact ⟨0, Nat.zero_le _, rfl, rfl, HBr.out, HFr.out⟩
      case round =>
        rename World => wq
        obtain ⟨k, hk, rfl, hall, hb, hf⟩ := hrel
        have c0 := hf.c0
        have c1 := hf.c1
        have c2 := hf.c2
        have c3 := hf.c3
        have c4 := hf.lt
        have HBq : Hid (Below w.heap.size w wq) := hb
        have HFq : Hid (Four wq w.heap.size (.int .i64 inp) (.slice al ls.length cl) (.slice aa xs.length ca) (.slice ab bs.length cb)) := hf
        have hCq := HC.out.below hb
        clear hb hf
        by_cases hlt : k < ls.length
        · obtain ⟨b, off, rfl, hbl, hx1⟩ : ∃ b off, al = some ⟨b, off, none⟩ ∧ b < wq.heap.size ∧ wq.cell? ⟨b, off + k * 2, none⟩ = some (.int .i64 (ls.getD k (0, false)).1) := by
            obtain ⟨ao', cap', he, h⟩ := hCq.isL
            obtain ⟨b, off, ha, hc⟩ := h (by intro e; subst e; simp at hlt)
            injection he with e1 e2 e3
            exact ⟨b, off, e1.trans ha, cell_lt (hc k hlt).1, (hc k hlt).1⟩
          have HFL : Hid (aheadB (ls.getD k (0, false)).1 (1 + inp + ls.length + xs.length) = false → r = false) := HF2.out k hlt
          have HS : Hid (((ls.take (k + 1)).map (·.1)).all (fun x => aheadB x (1 + inp + ls.length + xs.length)) = aheadB (ls.getD k (0, false)).1 (1 + inp + ls.length + xs.length)) := by
            show ((ls.take (k + 1)).map (·.1)).all (fun x => aheadB x (1 + inp + ls.length + xs.length)) = aheadB (ls.getD k (0, false)).1 (1 + inp + ls.length + xs.length)
            rw [map_take_succ ls k hlt, all_snoc, hall.out, Bool.true_and]
          generalize (ls.getD k (0, false)).1 = q at *
          have hg := inB_end q inp ls.length xs.length
          obtain ⟨g, hg1⟩ : ∃ g, aheadB q (1 + inp + ls.length + xs.length) = g := ⟨_, rfl⟩
          rw [hg1] at hg
          have HG : Hid (inB q 0 (2 * (inp + (ls.length : Int) + (xs.length : Int)) + 1) = g) := hg
          have HP : Hid (aheadB q (1 + inp + ls.length + xs.length) = g) := hg1
          have hw1 : IntKind.i64.wrap (2 * (inp + (ls.length : Int) + (xs.length : Int))) = 2 * (inp + (ls.length : Int) + (xs.length : Int)) := IntWalk.i64_in _ ⟨by omega, by omega⟩
          have hw2 : IntKind.i64.wrap (2 * (inp + (ls.length : Int) + (xs.length : Int)) + 1) = 2 * (inp + (ls.length : Int) + (xs.length : Int)) + 1 := IntWalk.i64_in _ ⟨by omega, by omega⟩
          clear hg hg1 hCq hall
          cases g with
          | false =>
            go_wp2_with fail
            go_region_held3 (fun w' => w'.cell? ⟨w.heap.size, 0, none⟩ = some (.int .i64 inp) ∧ w'.cell? ⟨w.heap.size, 1, none⟩ = some (.slice (some ⟨b, off, none⟩) ls.length cl) ∧ w'.cell? ⟨w.heap.size, 2, none⟩ = some (.slice aa xs.length ca) ∧ w'.cell? ⟨w.heap.size, 3, none⟩ = some (.slice ab bs.length cb) ∧ w'.cell? ⟨b, off + k * 2, none⟩ = some (.int .i64 q))
              (first | exact ⟨by assumption, by assumption, by assumption, by assumption, by assumption⟩ | (go_keep; done))
              (first
                | (go_simp; go_at_call 68; refine (l3Nodes_any _ _ _ _ _ _ _ _ _ _ _ h0 h1 h2 h3).mono ?_; rintro e w1 ⟨rfl, hbz⟩; have hb1 : Below wq.heap.size wq w1 := (by first | exact hbz | exact undrew hbz); have HB1 : Hid (Below w.heap.size w w1) := belNext HBq.out hb1; have HQ1 : Hid (Four w1 w.heap.size (.int .i64 inp) (.slice (some ⟨b, off, none⟩) ls.length cl) (.slice aa xs.length ca) (.slice ab bs.length cb)) := HFq.out.below hb1; have d0 := HQ1.out.c0; have d1 := HQ1.out.c1; have d2 := HQ1.out.c2; have d3 := HQ1.out.c3; have hy1 := (hb1.cell (p := ⟨b, off + k * 2, none⟩) hbl).trans hx1; clear hb1 hbz)
                | (go_simp; go_at_call 67; refine (l1In_any _ _ _ _).mono ?_; rintro e w' ⟨rfl, rfl⟩; rw [HG.out]))
            all_goals go_wp2
            all_goals go_ret
            all_goals exact ⟨ret_b (HFL.out HP.out).symm, HB1.out⟩
          | true =>
            go_wp2_with fail
            go_region_held3 (fun w' => w'.cell? ⟨w.heap.size, 0, none⟩ = some (.int .i64 inp) ∧ w'.cell? ⟨w.heap.size, 1, none⟩ = some (.slice (some ⟨b, off, none⟩) ls.length cl) ∧ w'.cell? ⟨w.heap.size, 2, none⟩ = some (.slice aa xs.length ca) ∧ w'.cell? ⟨w.heap.size, 3, none⟩ = some (.slice ab bs.length cb) ∧ w'.cell? ⟨b, off + k * 2, none⟩ = some (.int .i64 q))
              (first | exact ⟨by assumption, by assumption, by assumption, by assumption, by assumption⟩ | (go_keep; done))
              (first
                | (go_simp; go_at_call 68; refine (l3Nodes_any _ _ _ _ _ _ _ _ _ _ _ h0 h1 h2 h3).mono ?_; rintro e w1 ⟨rfl, hbz⟩; have hb1 : Below wq.heap.size wq w1 := (by first | exact hbz | exact undrew hbz); have HB1 : Hid (Below w.heap.size w w1) := belNext HBq.out hb1; have HQ1 : Hid (Four w1 w.heap.size (.int .i64 inp) (.slice (some ⟨b, off, none⟩) ls.length cl) (.slice aa xs.length ca) (.slice ab bs.length cb)) := HFq.out.below hb1; have d0 := HQ1.out.c0; have d1 := HQ1.out.c1; have d2 := HQ1.out.c2; have d3 := HQ1.out.c3; have hy1 := (hb1.cell (p := ⟨b, off + k * 2, none⟩) hbl).trans hx1; clear hb1 hbz)
                | (go_simp; go_at_call 67; refine (l1In_any _ _ _ _).mono ?_; rintro e w' ⟨rfl, rfl⟩; rw [HG.out]))
            all_goals
              go_wp2
              go_roundw
              case rel => exact ⟨k + 1, by omega, by go_num, HS.out.trans HP.out, HB1.out, HQ1.out⟩
              case measure => simp [intOf]; omega
        · obtain rfl : k = ls.length := by omega
          have HA2 : Hid ((ls.map (·.1)).all (fun x => aheadB x (1 + inp + ls.length + xs.length)) = true) := by have h := hall.out; rw [List.take_length] at h; exact h
          clear hall hCq
          go_wp2_with fail
          go_loopw [6] (fun i wp => ∃ k : Nat, k ≤ bs.length ∧ i = .int .i64 k ∧ Hid ((bs.take k).all (fun x => aheadB x (1 + inp + ls.length + xs.length)) = true) ∧ Below w.heap.size w wp ∧ Four wp w.heap.size (.int .i64 inp) (.slice al ls.length cl) (.slice aa xs.length ca) (.slice ab bs.length cb)) (fun i _ => bs.length - (intOf i).toNat)
          case atStart => exact ⟨0, Nat.zero_le _, rfl, rfl, HBq.out, HFq.out⟩
          case round =>
            rename World => wp
            obtain ⟨k, hk, rfl, hall, hb, hf⟩ := hrel
            have c0 := hf.c0
            have c1 := hf.c1
            have c2 := hf.c2
            have c3 := hf.c3
            have c4 := hf.lt
            have HBp : Hid (Below w.heap.size w wp) := hb
            have HFp : Hid (Four wp w.heap.size (.int .i64 inp) (.slice al ls.length cl) (.slice aa xs.length ca) (.slice ab bs.length cb)) := hf
            have hCp := HC.out.below hb
            clear hb hf
            by_cases hlt : k < bs.length
            · obtain ⟨b, off, rfl, hbl, hx1⟩ : ∃ b off, ab = some ⟨b, off, none⟩ ∧ b < wp.heap.size ∧ wp.cell? ⟨b, off + k, none⟩ = some (.int .i64 (bs.getD k 0)) := by
                obtain ⟨ao', cap', he, h⟩ := hCp.isB
                obtain ⟨b, off, ha, hc⟩ := h (by intro e; subst e; simp at hlt)
                injection he with e1 e2 e3
                exact ⟨b, off, e1.trans ha, cell_lt (hc k hlt), hc k hlt⟩
              have HFL : Hid (aheadB (bs.getD k 0) (1 + inp + ls.length + xs.length) = false → r = false) := HF3.out k hlt
              have HS : Hid ((bs.take (k + 1)).all (fun x => aheadB x (1 + inp + ls.length + xs.length)) = aheadB (bs.getD k 0) (1 + inp + ls.length + xs.length)) := by
                show (bs.take (k + 1)).all (fun x => aheadB x (1 + inp + ls.length + xs.length)) = aheadB (bs.getD k 0) (1 + inp + ls.length + xs.length)
                rw [take_snoc' bs k hlt, all_snoc, hall.out, Bool.true_and]
              generalize (bs.getD k 0) = q at *
              have hg := inB_end q inp ls.length xs.length
              obtain ⟨g, hg1⟩ : ∃ g, aheadB q (1 + inp + ls.length + xs.length) = g := ⟨_, rfl⟩
              rw [hg1] at hg
              have HG : Hid (inB q 0 (2 * (inp + (ls.length : Int) + (xs.length : Int)) + 1) = g) := hg
              have HP : Hid (aheadB q (1 + inp + ls.length + xs.length) = g) := hg1
              have hw1 : IntKind.i64.wrap (2 * (inp + (ls.length : Int) + (xs.length : Int))) = 2 * (inp + (ls.length : Int) + (xs.length : Int)) := IntWalk.i64_in _ ⟨by omega, by omega⟩
              have hw2 : IntKind.i64.wrap (2 * (inp + (ls.length : Int) + (xs.length : Int)) + 1) = 2 * (inp + (ls.length : Int) + (xs.length : Int)) + 1 := IntWalk.i64_in _ ⟨by omega, by omega⟩
              clear hg hg1 hCp hall
              cases g with
              | false =>
                go_wp2_with fail
                go_region_held3 (fun w' => w'.cell? ⟨w.heap.size, 0, none⟩ = some (.int .i64 inp) ∧ w'.cell? ⟨w.heap.size, 1, none⟩ = some (.slice al ls.length cl) ∧ w'.cell? ⟨w.heap.size, 2, none⟩ = some (.slice aa xs.length ca) ∧ w'.cell? ⟨w.heap.size, 3, none⟩ = some (.slice (some ⟨b, off, none⟩) bs.length cb) ∧ w'.cell? ⟨b, off + k, none⟩ = some (.int .i64 q))
                  (first | exact ⟨by assumption, by assumption, by assumption, by assumption, by assumption⟩ | (go_keep; done))
                  (first
                    | (go_simp; go_at_call 68; refine (l3Nodes_any _ _ _ _ _ _ _ _ _ _ _ h0 h1 h2 h3).mono ?_; rintro e w1 ⟨rfl, hbz⟩; have hb1 : Below wp.heap.size wp w1 := (by first | exact hbz | exact undrew hbz); have HB1 : Hid (Below w.heap.size w w1) := belNext HBp.out hb1; have HQ1 : Hid (Four w1 w.heap.size (.int .i64 inp) (.slice al ls.length cl) (.slice aa xs.length ca) (.slice (some ⟨b, off, none⟩) bs.length cb)) := HFp.out.below hb1; have d0 := HQ1.out.c0; have d1 := HQ1.out.c1; have d2 := HQ1.out.c2; have d3 := HQ1.out.c3; have hy1 := (hb1.cell (p := ⟨b, off + k, none⟩) hbl).trans hx1; clear hb1 hbz)
                    | (go_simp; go_at_call 67; refine (l1In_any _ _ _ _).mono ?_; rintro e w' ⟨rfl, rfl⟩; rw [HG.out]))
                all_goals go_wp2
                all_goals go_ret
                all_goals exact ⟨ret_b (HFL.out HP.out).symm, HB1.out⟩
              | true =>
                go_wp2_with fail
                go_region_held3 (fun w' => w'.cell? ⟨w.heap.size, 0, none⟩ = some (.int .i64 inp) ∧ w'.cell? ⟨w.heap.size, 1, none⟩ = some (.slice al ls.length cl) ∧ w'.cell? ⟨w.heap.size, 2, none⟩ = some (.slice aa xs.length ca) ∧ w'.cell? ⟨w.heap.size, 3, none⟩ = some (.slice (some ⟨b, off, none⟩) bs.length cb) ∧ w'.cell? ⟨b, off + k, none⟩ = some (.int .i64 q))
                  (first | exact ⟨by assumption, by assumption, by assumption, by assumption, by assumption⟩ | (go_keep; done))
                  (first
                    | (go_simp; go_at_call 68; refine (l3Nodes_any _ _ _ _ _ _ _ _ _ _ _ h0 h1 h2 h3).mono ?_; rintro e w1 ⟨rfl, hbz⟩; have hb1 : Below wp.heap.size wp w1 := (by first | exact hbz | exact undrew hbz); have HB1 : Hid (Below w.heap.size w w1) := belNext HBp.out hb1; have HQ1 : Hid (Four w1 w.heap.size (.int .i64 inp) (.slice al ls.length cl) (.slice aa xs.length ca) (.slice (some ⟨b, off, none⟩) bs.length cb)) := HFp.out.below hb1; have d0 := HQ1.out.c0; have d1 := HQ1.out.c1; have d2 := HQ1.out.c2; have d3 := HQ1.out.c3; have hy1 := (hb1.cell (p := ⟨b, off + k, none⟩) hbl).trans hx1; clear hb1 hbz)
                    | (go_simp; go_at_call 67; refine (l1In_any _ _ _ _).mono ?_; rintro e w' ⟨rfl, rfl⟩; rw [HG.out]))
                all_goals
                  go_wp2
                  go_roundw
                  case rel => exact ⟨k + 1, by omega, by go_num, HS.out.trans HP.out, HB1.out, HQ1.out⟩
                  case measure => simp [intOf]; omega
            · obtain rfl : k = bs.length := by omega
              have hrt : r = true := by
                have h := hall.out
                rw [List.take_length] at h
                rw [← HR.out]
                unfold okF
                rw [HA1.out, HA2.out, h]; rfl
              clear hall hCp
              have HRT : Hid (r = true) := hrt
              clear hrt
              go_wp2
              go_ret
              exact ⟨ret_b HRT.out.symm, HBp.out⟩

end Go.Proofs.Ytbdjdgamnnifjaa

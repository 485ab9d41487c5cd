/-
  The law FnBddOf: of drawn variables and a drawn table, the diagram's table is it; no node goes to the same twice, no two are the same, each asks ahead of those that it goes to. No condition: every argument that can be read.
-/
import Derived.Test.YtmkbcfiechoebaaBdOx
import Derived.Test.YtmkbcfiechoebaaBdDs
import Derived.Test.YtmkbcfiechoebaaBdPa
import Derived.Test.YtmkbcfiechoebaaBdPe
import Derived.Test.YtmkbcfiechoebaaBdRg
import Derived.Test.YtmkbcfiechoebaaRgB
import Derived.Test.YtmkbcfiechoebaaBdJ
import Derived.Test.YtmkbcfiechoebaaOpenB
namespace Go.Proofs.Ytmkbcfiechoebaa
open Go.ChangeShapes Go.WideShapes Go.ChangeAt Go.RowKit Go.Deep Go.Joins
set_option linter.unusedVariables false

attribute [local go_sem] Oper.semAt_some

set_option maxRecDepth 100000 in
theorem nd_eql_diff {p q : Nd} (hp : FitN p) (hq : FitN q) (h : p ≠ q) (w : World) : (binOp .eql 33 (ndOf p) (ndOf q)).run Try.prog w = .ok (.bool false) w := by
  obtain ⟨r, hr, hiff⟩ := run_equal_deep (P := Try.prog) w (m := 3) (by decide) (k := 33) (by kernel_rfl) ndWide (keyOf_nd p hp) (keyOf_nd q hq)
  have hrf : r = false := by
    cases r with
    | false => rfl
    | true => exact absurd (keyN_inj hp hq (hiff.1 rfl)) h
  subst hrf
  simp only [ndOf] at hr ⊢
  simp only [binOp]
  simp [hr]

/-- What each node of a drawn diagram keeps. -/
structure NodeF (ns : List Nd) (i : Nat) (x lo hi : Int) : Prop where
  ne : lo ≠ hi
  lo0 : 0 ≤ lo
  lo1 : lo ≤ (i : Int) + 1
  hi0 : 0 ≤ hi
  hi1 : hi ≤ (i : Int) + 1
  los : lo < 2 ∨ ∃ q : Nat, lo = (q : Int) + 2 ∧ q < i ∧ x < (ns.getD q (0, 0, 0)).1
  his : hi < 2 ∨ ∃ q : Nat, hi = (q : Int) + 2 ∧ q < i ∧ x < (ns.getD q (0, 0, 0)).1

theorem below_split {ns : List Nd} {i : Nat} {x p : Int} (h : belowB ns i x p = true) : 0 ≤ p ∧ p ≤ (i : Int) + 1 ∧ (p < 2 ∨ ∃ q : Nat, p = (q : Int) + 2 ∧ q < i ∧ x < (ns.getD q (0, 0, 0)).1) := by
  unfold belowB at h
  simp only [Bool.and_eq_true, Bool.or_eq_true, decide_eq_true_eq] at h
  obtain ⟨h0, h1, h2⟩ := h
  refine ⟨h0, by omega, ?_⟩
  by_cases h3 : p < 2
  · exact .inl h3
  · exact .inr ⟨(p - 2).toNat, by omega, by omega, h2.resolve_left h3⟩

theorem wf_node {V : Nat} {ns : List Nd} (h : Wf V ns) {i : Nat} (hi : i < ns.length) : NodeF ns i (ns.getD i (0, 0, 0)).1 (ns.getD i (0, 0, 0)).2.1 (ns.getD i (0, 0, 0)).2.2 ∧ ∀ j, j < i → ns.getD j (0, 0, 0) ≠ ns.getD i (0, 0, 0) := by
  obtain ⟨h1, h2, h3⟩ := h i hi
  unfold nodeB at h1
  simp only [Bool.and_eq_true] at h1
  obtain ⟨a0, a1, a2⟩ := below_split h1.2.1
  obtain ⟨b0, b1, b2⟩ := below_split h1.2.2
  exact ⟨⟨h2, a0, a1, b0, b1, a2, b2⟩, h3⟩


/-- A node's block. -/
structure BlkD3 (W : World) (b : Nat) (x y z : Int) : Prop where
  c0 : W.cell? ⟨b, 0, none⟩ = some (.int .i64 x)
  c1 : W.cell? ⟨b, 1, none⟩ = some (.int .i64 y)
  c2 : W.cell? ⟨b, 2, none⟩ = some (.int .i64 z)
theorem blkD3_new (w : World) (x y z : Int) : BlkD3 (w.alloc (.cells #[.int .i64 x, .int .i64 y, .int .i64 z] 33)) w.heap.size x y z := by
  refine ⟨?_, ?_, ?_⟩ <;> rw [World.cell?_alloc_new] <;> simp
theorem BlkD3.cells {W V : World} {b : Nat} {x y z : Int} (h : BlkD3 W b x y z) (hb : Below W.heap.size W V) : V.cell? ⟨b, 0, none⟩ = some (.int .i64 x) ∧ V.cell? ⟨b, 1, none⟩ = some (.int .i64 y) ∧ V.cell? ⟨b, 2, none⟩ = some (.int .i64 z) := ⟨(hb.cell (cell_lt h.c0)).trans h.c0, (hb.cell (cell_lt h.c1)).trans h.c1, (hb.cell (cell_lt h.c2)).trans h.c2⟩
theorem ofA_fits {X : Nat} {t : List Bool} : (∀ p ∈ ofNodes (X : Int) t, FitN p) ∧ (ofNodes (X : Int) t).length ≤ 64 := by
  unfold ofNodes
  split
  · rename_i h
    unfold bddFits at h
    simp only [Bool.and_eq_true, decide_eq_true_eq] at h
    have hd := draw_fit (V := X) (t := t) (by omega)
    rw [Int.toNat_natCast]
    exact ⟨hd.1, hd.2.1⟩
  · simp

set_option maxRecDepth 100000 in
set_option maxHeartbeats 16000000 in
theorem fnBddOf_walk (v : Value) (bs : List Int) (w : World) (hv : IsBytes w v bs) (hal : ∀ ao n cap b off, v = .slice ao n cap → ao = some ⟨b, off, none⟩ → b < w.heap.size) (hml : bs.length ≤ maxLen) :
    Calls Try.prog 3 #[v] w fun e w' => e = .returned (.bool true) ∧ Below w.heap.size w w' := by
  unfold maxLen at hml
  have HDR := hideN (fun (h : bs.length ≤ 1048576) => drawBddOf_any v bs w hv h hal)
  obtain ⟨aoc, capc, rfl, _⟩ := hv
  clear hal
  by_cases hbig : bs.length ≤ 1048576
  case neg =>
    have d1 : decide ((1048576 : Int) < (bs.length : Int)) = true := by simp; omega
    go_enter Try.func3, Try.ntmps3
    go_wp2_with fail
    go_ret
    exact ⟨rfl, Below.refl _ _⟩
  have d1 : decide ((1048576 : Int) < (bs.length : Int)) = false := by simp; omega
  have HDW := hideN (HDR.out hbig)
  clear HDR
  go_enter Try.func3, Try.ntmps3
  go_wp2_with fail
  refine HDW.out.mono ?_
  rintro e w0 ⟨X, gt, ot, m, ct, t, rfl, hX, htl, hm128, hT0, hgl0, hb0⟩
  have HTB := hideN (fun V' (hV : Below w0.heap.size w0 V') => hT0.below hgl0 hV)
  have HIO := hideN (implBddOf_any (X : Int) gt ot ct m t w0 htl (by omega) hT0 hgl0)
  have HSO := hideN (fun V' (hV : Below w0.heap.size w0 V') => specBddOf_any (X : Int) gt ot ct m t V' htl (by omega) (HTB.out V' hV) (by have := hV.size; omega))
  have HFI := hideN (ofA_fits (X := X) (t := t))
  have HP : Hid (bddFits (X : Int) t.length = true → ofVars (X : Int) t = (X : Int) ∧ ofNodes (X : Int) t = (drawB X 0 t []).1 ∧ ofRoot (X : Int) t = (drawB X 0 t []).2 ∧ X ≤ 6 ∧ t.length = 2 ^ X) := fun hf => by
    refine ⟨?_, ?_, ?_, ?_⟩
    · unfold ofVars; rw [if_pos hf]
    · unfold ofNodes; rw [if_pos hf, Int.toNat_natCast]
    · unfold ofRoot; rw [if_pos hf, Int.toNat_natCast]
    · unfold bddFits at hf
      simp only [Bool.and_eq_true, decide_eq_true_eq, Int.toNat_natCast] at hf
      exact ⟨by omega, hf.2.2⟩
  unfold OfPost at HIO HSO
  obtain ⟨f, hf⟩ : ∃ f, bddFits (X : Int) t.length = f := ⟨_, rfl⟩
  rw [hf] at HIO HSO HP
  obtain ⟨fv, hfv⟩ : ∃ fv, ofVars (X : Int) t = fv := ⟨_, rfl⟩
  obtain ⟨l, hl⟩ : ∃ l, ofNodes (X : Int) t = l := ⟨_, rfl⟩
  obtain ⟨fr, hfr⟩ : ∃ fr, ofRoot (X : Int) t = fr := ⟨_, rfl⟩
  rw [hfv, hl, hfr] at HIO HSO HP
  rw [hl] at HFI
  have HTL := hideN htl
  have HBW0 := hideN hb0
  clear hf hfv hl hfr hT0 htl hb0 HDW
  go_wp2_with fail
  refine (HIO.out).mono ?_
  rintro e w2 ⟨s2, n2, d2, rfl, hn2, hr2, hb2⟩
  have hn64 : n2 ≤ 64 := by have := HFI.out.2; omega
  have HNL2 := hideN hn2
  obtain ⟨V2, hV2⟩ : ∃ V2, V2 = w2.alloc (.cells #[.int .i64 fv, .slice s2 n2 d2, .int .i64 fr] 28) := ⟨_, rfl⟩
  have hb2' : Below w2.heap.size w2 V2 := by rw [hV2]; exact belOne _ _
  have HQ2 : Hid (BlkD V2 w2.heap.size (.int .i64 fv) (.slice s2 n2 d2) (.int .i64 fr)) := by rw [hV2]; exact BlkD.new _ _ _ _
  have HBV2 := hideN (belNext hb2 hb2')
  have HN20 := hideN (nds_of_own (row_below hr2 hb2') HNL2.out)
  have HN2 := hideN (fun V' (hV : Below V2.heap.size V2 V') => HN20.out.below hV)
  have HV2 := hideN hV2
  have HB02 := hideN (belNext hb2 hb2')
  clear hb2 hn2
  clear hb2' hr2 hV2 HN20
  go_wp2_with fail
  try rw [← HV2.out]

  obtain ⟨A, hA⟩ : ∃ A, w2.heap.size = A := ⟨_, rfl⟩
  rw [hA] at HQ2
  try rw [hA]
  clear hA
  have HCA : Hid (∀ V', Below V2.heap.size V2 V' → V'.cell? ⟨A, 0, none⟩ = some (.int .i64 fv) ∧ V'.cell? ⟨A, 1, none⟩ = some (.slice s2 n2 d2) ∧ V'.cell? ⟨A, 2, none⟩ = some (.int .i64 fr)) := fun V' hV => ⟨(HQ2.out.below hV).c0, (HQ2.out.below hV).c1, (HQ2.out.below hV).c2⟩
  refine (HSO.out V2 HB02.out).mono ?_
  rintro e w3 ⟨s3, n3, d3, rfl, hn3, hr3, hb3⟩
  have hn3m : n2 = n3 := by rw [← hn3, HNL2.out]
  subst hn3m
  have HNL3 := hideN hn3
  obtain ⟨V3, hV3⟩ : ∃ V3, V3 = w3.alloc (.cells #[.int .i64 fv, .slice s3 n2 d3, .int .i64 fr] 28) := ⟨_, rfl⟩
  have hb3' : Below w3.heap.size w3 V3 := by rw [hV3]; exact belOne _ _
  have HQ3 : Hid (BlkD V3 w3.heap.size (.int .i64 fv) (.slice s3 n2 d3) (.int .i64 fr)) := by rw [hV3]; exact BlkD.new _ _ _ _
  have HBV3 := hideN (belNext hb3 hb3')
  have HN30 := hideN (nds_of_own (row_below hr3 hb3') HNL3.out)
  have HN3 := hideN (fun V' (hV : Below V3.heap.size V3 V') => HN30.out.below hV)
  have HV3 := hideN hV3
  obtain ⟨a0, a1, a2⟩ := HCA.out w3 hb3
  have ltA : A < w3.heap.size := cell_lt a0
  clear hb3 hn3
  clear hb3' hr3 hV3 HN30
  go_wp2_with fail
  try rw [← HV3.out]
  clear a0 a1 a2 ltA
  obtain ⟨E, hE⟩ : ∃ E, w3.heap.size = E := ⟨_, rfl⟩
  rw [hE] at HQ3
  try rw [hE]
  clear hE
  have HB03 := hideN (belNext HB02.out HBV3.out)
  have HRG := hideN (fun V' (hV : Below V3.heap.size V3 V') => rgBdd_any fv fr fr s2 s3 n2 n2 d2 d3 l l V' (HN2.out V' (belNext HBV3.out hV)) (HN3.out V' hV) HFI.out.1 HFI.out.1 (by omega) (by omega))
  have hdec : (decide (fr = fr) && decide (l = l)) = true := by simp
  rw [hdec] at HRG
  clear hdec
  have HC3 : Hid (∀ V', Below V3.heap.size V3 V' → (V'.cell? ⟨A, 0, none⟩ = some (.int .i64 fv) ∧ V'.cell? ⟨A, 1, none⟩ = some (.slice s2 n2 d2) ∧ V'.cell? ⟨A, 2, none⟩ = some (.int .i64 fr)) ∧ V'.cell? ⟨E, 0, none⟩ = some (.int .i64 fv) ∧ V'.cell? ⟨E, 1, none⟩ = some (.slice s3 n2 d3) ∧ V'.cell? ⟨E, 2, none⟩ = some (.int .i64 fr)) := fun V' hV => ⟨HCA.out V' (belNext HBV3.out hV), (HQ3.out.below hV).c0, (HQ3.out.below hV).c1, (HQ3.out.below hV).c2⟩
  obtain ⟨⟨a0, a1, a2⟩, e0, e1, e2⟩ := HC3.out V3 (Below.refl _ _)
  go_wp2_with fail
  refine (HRG.out V3 (Below.refl _ _)).mono ?_
  rintro e w4 ⟨rfl, hb4⟩
  have HB34 := hideN hb4
  clear hb4 a0 a1 a2 e0 e1 e2
  obtain ⟨⟨a0, a1, a2⟩, e0, e1, e2⟩ := HC3.out w4 HB34.out
  cases f with
  | false =>
    go_wp2_with fail
    refine (HRG.out w4 HB34.out).mono ?_
    rintro e w5 ⟨rfl, hb5⟩
    have HBE := hideN (belNext HBW0.out (belNext HB03.out (belNext HB34.out hb5)))
    clear hb5
    go_wp2_with fail
    go_ret
    exact ⟨rfl, HBE.out⟩
  | true =>
    obtain ⟨e1', e2', e3', h6, htX⟩ := HP.out rfl
    subst e1'
    have hWF : Wf X l := by rw [e2']; exact (draw_good X X 0 t [] (by omega) (wf_nil X)).wf
    have hbd : bddB (X : Int) l fr = true := by rw [e2', e3']; exact bdd_draw X t h6 htX
    have hTT : tabN X l fr = t := by rw [e2', e3']; exact tab_draw X t htX
    have hlen : l.length = n2 := HNL2.out
    have HNF := hideN (fun i (hi : i < n2) => wf_node hWF (i := i) (by omega))
    have HFN := hideN (fun i (hi : i < n2) => HFI.out.1 _ (getD_mem_nd2 (l := l) (i := i) (by omega)))
    have HB04 := hideN (belNext HB03.out HB34.out)
    have h64 : ∀ q ∈ l, I64N q := fun q hq => fit64n (HFI.out.1 q hq)
    have hfr64 : I64 fr := by
      obtain ⟨V', hVV, _, hnn, _, h0, h1⟩ := bdd_split hbd
      unfold I64
      omega
    have HNW := hideN (fun V' (hV : Below w4.heap.size w4 V') => HN2.out V' (belNext HBV3.out (belNext HB34.out hV)))
    have HOKW := hideN (fun V' (hV : Below w4.heap.size w4 V') => implBddOk_any (X : Int) fr s2 n2 d2 l V' (HNW.out V' hV) h64 hfr64)
    have HTBW := hideN (fun V' (hV : Below w4.heap.size w4 V') => implBddTable_any (X : Int) fr s2 n2 d2 l V' (HNW.out V' hV) h64 hfr64)
    have htS : tabS (X : Int) l fr = t := by unfold tabS; rw [hbd, if_pos rfl, Int.toNat_natCast]; exact hTT
    rw [hbd] at HOKW
    rw [htS] at HTBW
    have HTW := hideN (fun V' (hV : Below w4.heap.size w4 V') => HTB.out V' (belNext HB04.out hV))
    have HCW := hideN (fun V' (hV : Below w4.heap.size w4 V') => (HC3.out V' (belNext HB34.out hV)).1)
    have HBW4 := hideN (belNext HBW0.out HB04.out)
    clear e2' e3' hWF hbd hTT hlen h64 hfr64 htS HP HIO HSO HRG HN2 HN3 HC3 HCA HQ2 HQ3 HV2 HV3 HB02 HB03 HB34 HB04 HBW0 HBV2 HBV3 HTB e0 e1 e2
    go_wp2_with fail
    go_loopw [9] (fun i wr => ∃ j : Nat, j ≤ n2 ∧ i = .int .i64 (j : Int) ∧ Hid (Below w4.heap.size w4 wr)) (fun i _ => n2 - (intOf i).toNat)
    case atStart => exact ⟨0, Nat.zero_le _, rfl, Below.refl _ _⟩
    case round =>
      obtain ⟨j, hj, rfl, HBR⟩ := hrel
      clear a0 a1 a2
      obtain ⟨a0, a1, a2⟩ := HCW.out wr HBR.out
      by_cases hlt : j < n2
      · obtain ⟨bn, on, hsn, hcn⟩ := (HNW.out wr HBR.out).cells (by omega)
        subst hsn
        have HCN := hideN hcn
        have hnf := HNF.out j hlt
        have HEQ : Hid (∀ q, q < j → ∀ W, (binOp .eql 33 (ndOf (l.getD q (0, 0, 0))) (ndOf (l.getD j (0, 0, 0)))).run Try.prog W = .ok (.bool false) W) := fun q hq W => nd_eql_diff (HFN.out q (by omega)) (HFN.out j hlt) (hnf.2 q hq) W
        have hnd := hnf.1
        obtain ⟨u0, u1, u2⟩ := hcn j hlt
        clear hcn hnf
        simp only [ndOf] at HEQ
        generalize (l.getD j (0, 0, 0)).1 = x at *
        generalize (l.getD j (0, 0, 0)).2.1 = lo at *
        generalize (l.getD j (0, 0, 0)).2.2 = hi at *
        obtain ⟨G, hG⟩ : ∃ G, G = wr.alloc (.cells #[.int .i64 x, .int .i64 lo, .int .i64 hi] 33) := ⟨_, rfl⟩
        have hbG : Below wr.heap.size wr G := by rw [hG]; exact belOne _ _
        have hNb : BlkD3 G wr.heap.size x lo hi := by rw [hG]; exact blkD3_new _ _ _ _
        have HBG := hideN (belNext HBR.out hbG)
        have HNB := hideN hNb
        have HG := hideN hG
        have hltA : A < wr.heap.size := cell_lt a0
        have hlbn : bn < wr.heap.size := cell_lt u0
        clear hbG hNb hG
        go_wp2_with fail
        try rw [← HG.out]
        obtain ⟨N, hN⟩ : ∃ N, wr.heap.size = N := ⟨_, rfl⟩
        rw [hN] at HNB
        try rw [hN]
        clear hN a0 a1 a2 u0 u1 u2 hltA hlbn
        obtain ⟨a0, a1, a2⟩ := HCW.out G HBG.out
        obtain ⟨v0, v1, v2⟩ := HNB.out.cells (Below.refl _ _)
        have HCG : Hid (∀ V', Below G.heap.size G V' → ∀ i, i < n2 → V'.cell? ⟨bn, on + i * 3, none⟩ = some (.int .i64 (l.getD i (0, 0, 0)).1) ∧ V'.cell? ⟨bn, on + i * 3 + 1, none⟩ = some (.int .i64 (l.getD i (0, 0, 0)).2.1) ∧ V'.cell? ⟨bn, on + i * 3 + 2, none⟩ = some (.int .i64 (l.getD i (0, 0, 0)).2.2)) := fun V' hV i hi => by
          obtain ⟨b', o', he, hc⟩ := (HNW.out V' (belNext HBG.out hV)).cells (by omega)
          injection he with he
          injection he with he1 he2 _
          subst he1
          subst he2
          exact hc i hi
        have dne : (lo == hi) = false := by simpa using hnd.ne
        have dne2 : ¬ lo = hi := hnd.ne
        have dl : decide ((j : Int) + 1 < lo) = false := by simpa using hnd.lo1
        have dh : decide ((j : Int) + 1 < hi) = false := by simpa using hnd.hi1
        have l0 := hnd.lo0
        have l1 := hnd.lo1
        have g0 := hnd.hi0
        have g1 := hnd.hi1
        rcases hnd.los with hls | ⟨ql, rfl, hql, hul⟩
        · have dl' : decide ((1 : Int) < lo) = false := by simp; omega
          rcases hnd.his with hhs | ⟨qh, rfl, hqh, huh⟩
          · have dh' : decide ((1 : Int) < hi) = false := by simp; omega
            clear hnd
            go_quiet (fail)
            go_wp2_with fail
            go_loopw [11] (fun k ws => ∃ q : Nat, q ≤ j ∧ k = .int .i64 (q : Int) ∧ Hid (Below G.heap.size G ws)) (fun k _ => j - (intOf k).toNat)
            case atStart => exact ⟨0, Nat.zero_le _, rfl, below_drewN (Below.refl _ _) _⟩
            case round =>
              obtain ⟨q, hq, rfl, HBS⟩ := hrel
              clear a0 a1 a2 v0 v1 v2
              obtain ⟨a0, a1, a2⟩ := HCW.out wr (belNext HBG.out HBS.out)
              obtain ⟨v0, v1, v2⟩ := HNB.out.cells HBS.out
              by_cases hqj : q < j
              · obtain ⟨y0, y1, y2⟩ := HCG.out wr HBS.out q (by omega)
                have heq := HEQ.out q hqj
                generalize (l.getD q (0, 0, 0)).1 = p0 at *
                generalize (l.getD q (0, 0, 0)).2.1 = p1 at *
                generalize (l.getD q (0, 0, 0)).2.2 = p2 at *
                go_wp2_with fail
                go_quiet (fail)
                go_wp2_with fail
                go_roundw
                case rel => exact ⟨q + 1, by omega, by go_num, belNext HBS.out (below_drewN (Below.refl _ _) _)⟩
                case measure => simp [intOf]; omega
              · obtain rfl : q = j := by omega
                go_wp2_with fail
                go_roundw
                case rel => exact ⟨q + 1, by omega, by go_num, belNext HBG.out HBS.out⟩
                case measure => simp [intOf]; omega
          · clear hnd
            have dh' : decide ((1 : Int) < (qh : Int) + 2) = true := by simp; omega
            have wh' : (qh : Int) + 2 - 2 = (qh : Int) := by omega
            have th' := (HCG.out G (Below.refl _ _) qh (by omega)).1
            generalize (l.getD qh (0, 0, 0)).1 = uh at *
            have ch' : decide (uh ≤ x) = false := by simp; omega
            go_quiet (fail)
            go_wp2_with fail
            go_loopw [11] (fun k ws => ∃ q : Nat, q ≤ j ∧ k = .int .i64 (q : Int) ∧ Hid (Below G.heap.size G ws)) (fun k _ => j - (intOf k).toNat)
            case atStart => exact ⟨0, Nat.zero_le _, rfl, below_drewN (Below.refl _ _) _⟩
            case round =>
              obtain ⟨q, hq, rfl, HBS⟩ := hrel
              clear a0 a1 a2 v0 v1 v2
              obtain ⟨a0, a1, a2⟩ := HCW.out wr (belNext HBG.out HBS.out)
              obtain ⟨v0, v1, v2⟩ := HNB.out.cells HBS.out
              by_cases hqj : q < j
              · obtain ⟨y0, y1, y2⟩ := HCG.out wr HBS.out q (by omega)
                have heq := HEQ.out q hqj
                generalize (l.getD q (0, 0, 0)).1 = p0 at *
                generalize (l.getD q (0, 0, 0)).2.1 = p1 at *
                generalize (l.getD q (0, 0, 0)).2.2 = p2 at *
                go_wp2_with fail
                go_quiet (fail)
                go_wp2_with fail
                go_roundw
                case rel => exact ⟨q + 1, by omega, by go_num, belNext HBS.out (below_drewN (Below.refl _ _) _)⟩
                case measure => simp [intOf]; omega
              · obtain rfl : q = j := by omega
                go_wp2_with fail
                go_roundw
                case rel => exact ⟨q + 1, by omega, by go_num, belNext HBG.out HBS.out⟩
                case measure => simp [intOf]; omega
        · skip
          rcases hnd.his with hhs | ⟨qh, rfl, hqh, huh⟩
          · have dh' : decide ((1 : Int) < hi) = false := by simp; omega
            clear hnd
            have dl' : decide ((1 : Int) < (ql : Int) + 2) = true := by simp; omega
            have wl' : (ql : Int) + 2 - 2 = (ql : Int) := by omega
            have tl' := (HCG.out G (Below.refl _ _) ql (by omega)).1
            generalize (l.getD ql (0, 0, 0)).1 = ul at *
            have cl' : decide (ul ≤ x) = false := by simp; omega
            go_quiet (fail)
            go_wp2_with fail
            go_loopw [11] (fun k ws => ∃ q : Nat, q ≤ j ∧ k = .int .i64 (q : Int) ∧ Hid (Below G.heap.size G ws)) (fun k _ => j - (intOf k).toNat)
            case atStart => exact ⟨0, Nat.zero_le _, rfl, below_drewN (Below.refl _ _) _⟩
            case round =>
              obtain ⟨q, hq, rfl, HBS⟩ := hrel
              clear a0 a1 a2 v0 v1 v2
              obtain ⟨a0, a1, a2⟩ := HCW.out wr (belNext HBG.out HBS.out)
              obtain ⟨v0, v1, v2⟩ := HNB.out.cells HBS.out
              by_cases hqj : q < j
              · obtain ⟨y0, y1, y2⟩ := HCG.out wr HBS.out q (by omega)
                have heq := HEQ.out q hqj
                generalize (l.getD q (0, 0, 0)).1 = p0 at *
                generalize (l.getD q (0, 0, 0)).2.1 = p1 at *
                generalize (l.getD q (0, 0, 0)).2.2 = p2 at *
                go_wp2_with fail
                go_quiet (fail)
                go_wp2_with fail
                go_roundw
                case rel => exact ⟨q + 1, by omega, by go_num, belNext HBS.out (below_drewN (Below.refl _ _) _)⟩
                case measure => simp [intOf]; omega
              · obtain rfl : q = j := by omega
                go_wp2_with fail
                go_roundw
                case rel => exact ⟨q + 1, by omega, by go_num, belNext HBG.out HBS.out⟩
                case measure => simp [intOf]; omega
          · have dlh : ¬ (ql : Int) = (qh : Int) := by have := hnd.ne; omega
            clear hnd
            have dl' : decide ((1 : Int) < (ql : Int) + 2) = true := by simp; omega
            have wl' : (ql : Int) + 2 - 2 = (ql : Int) := by omega
            have tl' := (HCG.out G (Below.refl _ _) ql (by omega)).1
            generalize (l.getD ql (0, 0, 0)).1 = ul at *
            have cl' : decide (ul ≤ x) = false := by simp; omega
            have dh' : decide ((1 : Int) < (qh : Int) + 2) = true := by simp; omega
            have wh' : (qh : Int) + 2 - 2 = (qh : Int) := by omega
            have th' := (HCG.out G (Below.refl _ _) qh (by omega)).1
            generalize (l.getD qh (0, 0, 0)).1 = uh at *
            have ch' : decide (uh ≤ x) = false := by simp; omega
            go_quiet (fail)
            go_wp2_with fail
            go_loopw [11] (fun k ws => ∃ q : Nat, q ≤ j ∧ k = .int .i64 (q : Int) ∧ Hid (Below G.heap.size G ws)) (fun k _ => j - (intOf k).toNat)
            case atStart => exact ⟨0, Nat.zero_le _, rfl, below_drewN (Below.refl _ _) _⟩
            case round =>
              obtain ⟨q, hq, rfl, HBS⟩ := hrel
              clear a0 a1 a2 v0 v1 v2
              obtain ⟨a0, a1, a2⟩ := HCW.out wr (belNext HBG.out HBS.out)
              obtain ⟨v0, v1, v2⟩ := HNB.out.cells HBS.out
              by_cases hqj : q < j
              · obtain ⟨y0, y1, y2⟩ := HCG.out wr HBS.out q (by omega)
                have heq := HEQ.out q hqj
                generalize (l.getD q (0, 0, 0)).1 = p0 at *
                generalize (l.getD q (0, 0, 0)).2.1 = p1 at *
                generalize (l.getD q (0, 0, 0)).2.2 = p2 at *
                go_wp2_with fail
                go_quiet (fail)
                go_wp2_with fail
                go_roundw
                case rel => exact ⟨q + 1, by omega, by go_num, belNext HBS.out (below_drewN (Below.refl _ _) _)⟩
                case measure => simp [intOf]; omega
              · obtain rfl : q = j := by omega
                go_wp2_with fail
                go_roundw
                case rel => exact ⟨q + 1, by omega, by go_num, belNext HBG.out HBS.out⟩
                case measure => simp [intOf]; omega
      · obtain rfl : j = n2 := by omega
        go_wp2_with fail
        refine (HOKW.out wr HBR.out).mono ?_
        rintro e w6 ⟨rfl, hb6⟩
        have HB6 := hideN (belNext HBR.out hb6)
        clear hb6 a0 a1 a2
        obtain ⟨a0, a1, a2⟩ := HCW.out w6 HB6.out
        go_wp2_with fail
        refine (HTBW.out w6 HB6.out).mono ?_
        rintro e w7 ⟨at7, ct7, rfl, ho7, hb7⟩
        have HB7 := hideN (belNext HB6.out hb7)
        have hbt : IsBits w7 (.slice at7 t.length ct7) t := ho7.isBits
        have hbs : IsBits w7 (.slice (some ⟨gt, ot, none⟩) t.length ct) t := ⟨_, _, rfl, fun _ => ⟨gt, ot, rfl, fun i hi => (HTW.out w7 HB7.out).cell i hi⟩⟩
        have HRB := hideN (rgBools_same _ _ t w7 hbt hbs (by have := HTL.out; unfold maxLen; omega))
        rw [HTL.out] at HRB
        try rw [HTL.out]
        clear hb7 ho7 hbt hbs
        go_wp2_with fail
        refine HRB.out.mono ?_
        rintro e w8 ⟨rfl, q8, rfl⟩
        have HBE := hideN (belNext HBW4.out (belNext HB7.out (below_drewN (Below.refl w7.heap.size w7) q8)))
        go_wp2_with fail
        go_ret
        exact ⟨rfl, HBE.out⟩

set_option maxRecDepth 100000 in
theorem fnBddOf_lifted (os : Os) (started : os.Started) (H : Type) (enc : TypeId × Value → H) :
    ReturnsInHanded {} Try.checked os 3 .any (Rows.fnBddOfSpec.pre6 enc Try.prog Try.f3 Rows.fnBddOfRow.domain false) (Rows.fnBddOfSpec.post enc Try.prog Try.f3 false true false false) := by
  refine returnsInHanded_of_change (C := Try.checked) own started (by kernel_rfl) Try.func3
    (ChangeSpec.witness6 (enc := enc) (C := Try.checked) false ⟨#[], #[.slice none 0 0], []⟩ 8 (by kernel_rfl) (by kernel_rfl) (by kernel_rfl) (by kernel_rfl)) ?_
  intro W base args ds gs before hval0 hW hcnd _
  have hval : ∀ (j : Nat) t v, Try.f3.params[j]? = some t → args[j]? = some v → Value.okWide Try.prog W .any base t v := hval0
  have hW' := hW
  obtain ⟨p, q, hA0, hV, rfl, hfz, hnd⟩ := hW
  have hA : DataW.TrodAll enc Try.prog W 0 (fun _ => true) true Try.f3.params.toList args.toList ds p := hA0
  rw [Try.params3] at hA hval
  obtain ⟨v0, vs0, d0, ds0, p0, q0, hargs, rfl, rfl, h0, r0⟩ := trodAll_cons hA
  obtain ⟨rfl, rfl, rfl⟩ := trodAll_nil r0
  obtain rfl : args = #[v0] := by cases args; simp_all
  obtain ⟨rfl, rfl⟩ := trodVars_none hV
  have k0 := h0
  have lt0 : ∀ x ∈ p0, x.block < W.heap.size := by obtain ⟨m, hm⟩ := k0; exact DataW.trod_lt m _ _ _ hm
  have hv0 := hval 0 22 v0 rfl rfl
  obtain ⟨ao, len, cap, rfl⟩ := okWide_slice Try.underlying22 hv0
  obtain ⟨fuel, hf⟩ := h0
  obtain ⟨bs, hbs, hml⟩ := isBytes_of_trod (by simpa [Value.cells] using hf)
  clear hA0 hval0
  refine (fnBddOf_walk _ bs W hbs (fun ao' n' cap' b off h1 h2 => by cases h1; subst h2; exact okWide_slice_lt Try.underlying22 hv0) hml).mono fun e W' ⟨he, bel⟩ => ?_
  subst he
  exact ⟨_, rfl, _, _, _, [], _, [], hW', trodAll_mk1 (shut_bool Try.underlying4 _), (trodAll_cons_mk (Below.trod laidOutN (by kernel_rfl) (of_decide_eq_true (by kernel_rfl)) k0 bel lt0) trodAll_mk0), rfl, bel.frame _, fun h => by cases h⟩

theorem fnBddOf_holds : Rows.FnBddOfSaid :=
  OpenClaim.holds_of_wide 3 Try.f3 rfl rfl rfl rfl rfl rfl rfl ⟨rfl, rfl, rfl, rfl, rfl⟩ rfl rfl rfl rfl rfl (by kernel_rfl) Try.func3 (by kernel_rfl)
    (of_decide_eq_true (by kernel_rfl)) (by unfold Func.isWrapper; first | (rw [if_pos (by decide +kernel)]; kernel_rfl) | (rw [if_neg (by decide +kernel)]; exact ⟨rfl, rfl⟩))
    (fun os started H enc _ => fnBddOf_lifted os started H enc)

end Go.Proofs.Ytmkbcfiechoebaa

/-
  Diagrams: the model draws the diagram of a table.
-/
import Derived.Test.YtknpifjkllcdeaaBdE
namespace Go.Proofs.Ytknpifjkllcdeaa
open Go.RowKit Go.Deep
set_option linter.unusedVariables false

attribute [local go_sem] Oper.semAt_some

/-- Whether the first so many are as the first of all. -/
def sameB (t : List Bool) (i : Nat) : Bool := (List.range i).all fun j => t.getD j false == t.getD 0 false
theorem sameB_succ (t : List Bool) (i : Nat) : sameB t (i + 1) = (sameB t i && (t.getD i false == t.getD 0 false)) := by
  unfold sameB
  rw [List.range_succ, List.all_append]
  simp
theorem sameB_all {t : List Bool} {i : Nat} (h : sameB t i = true) : ∀ j, j < i → t.getD j false = t.getD 0 false := fun j hj => by
  unfold sameB at h
  rw [List.all_eq_true] at h
  simpa using h j (List.mem_range.2 hj)
theorem sameB_one (t : List Bool) : sameB t 1 = true := by simp [sameB]

set_option maxRecDepth 100000 in
theorem nd_differs {p q : Nd} (hp : FitN p) (hq : FitN q) (h : p ≠ q) (w : World) : (binOp .eql 50 (ndOf p) (ndOf q)).run Try.prog w = .ok (.bool false) w := by
  obtain ⟨r, hr, hiff⟩ := run_equal_deep (P := Try.prog) w (m := 3) (by decide) (k := 50) (by kernel_rfl) ndWide (keyOf_nd p hp) (keyOf_nd q hq)
  have hrf : r = false := by
    cases r with
    | false => rfl
    | true => exact absurd (keyN_inj hp hq (hiff.1 rfl)) h
  subst hrf
  simp only [ndOf] at hr ⊢
  simp only [binOp]
  simp [hr]

set_option maxRecDepth 100000 in
theorem nd_same (p : Nd) (hp : FitN p) (w : World) : (binOp .eql 50 (ndOf p) (ndOf p)).run Try.prog w = .ok (.bool true) w := by
  obtain ⟨r, hr, hiff⟩ := run_equal_deep (P := Try.prog) w (m := 3) (by decide) (k := 50) (by kernel_rfl) ndWide (keyOf_nd p hp) (keyOf_nd p hp)
  have hrf : r = true := hiff.2 rfl
  subst hrf
  simp only [ndOf] at hr ⊢
  simp only [binOp]
  simp [hr]

set_option maxHeartbeats 400000 in
theorem l7Flag_any (b : Bool) (w : World) :
    Calls Try.prog 95 #[.bool b] w fun e w' => e = .returned (.int .i64 (numB b)) ∧ w' = w := by
  cases b
  all_goals
    go_enter Try.func95, Try.ntmps95
    go_wp2
    go_ret
    exact ⟨rfl, rfl⟩

/-- What building leaves. -/
def BuildPost (lo : Nat) (l : List Nd) (x : Int) (w : World) (e : Ending) (w' : World) : Prop :=
  ∃ aa n ca, e = .returned (.tuple #[.slice aa n ca, .int .i64 x]) ∧ l.length = n ∧ w'.ownsRow lo 50 3 (.slice aa n ca) n (ndV l) ∧ Below lo w w' ∧ ∀ p ∈ l, FitN p

theorem putB_fits {ns : List Nd} {p : Nd} (h : ∀ q ∈ ns, FitN q) (hp : FitN p) : ∀ q ∈ (putB ns p).1, FitN q := by
  unfold putB
  split
  · exact h
  · intro q hq
    rcases List.mem_append.1 hq with h1 | h1
    · exact h q h1
    · rw [List.mem_singleton] at h1; subst h1; exact hp

theorem getD_mem_nd {l : List Nd} {i : Nat} (h : i < l.length) : l.getD i (0, 0, 0) ∈ l := by rw [List.getD, List.getElem?_eq_getElem h]; simp

set_option maxRecDepth 100000 in
set_option maxHeartbeats 8000000 in
theorem l11Build_any (lo Bt : Nat) (hBt : Bt < lo) : ∀ (k v off cap m na ca : Nat) (t : List Bool) (aa : Option Addr) (ns : List Nd) (w : World) (vi : Int), vi = (v : Int) → v + k ≤ 6 → t.length = m → m = 2 ^ k → Tab w Bt off cap t → ns.length = na → w.ownsRow lo 50 3 (.slice aa na ca) na (ndV ns) → (∀ p ∈ ns, FitN p) → na + 2 ^ k ≤ 65 → lo ≤ w.heap.size →
    Calls Try.prog 99 #[.slice aa na ca, .int .i64 vi, .slice (some ⟨Bt, off, none⟩) m cap] w (BuildPost lo (drawB k v t ns).1 (drawB k v t ns).2 w) := by
  intro k
  induction k using Nat.strongRecOn with
  | ind k ih =>
  intro v off cap m na ca t aa ns w vi hvi hv ht hm hT hna hR hF hle hlo
  subst hvi
  have HIH := hideN ih
  have HT := hideN hT
  have HT2 := hideN ht
  have HM := hideN hm
  have HNA := hideN hna
  have HR := hideN hR
  have HF := hideN hF
  have hcap := hT.le
  rw [ht] at hcap
  have hm1 : 1 ≤ m := by rw [hm]; exact Nat.one_le_two_pow
  have hm64 : m ≤ 65 := by omega
  have hp0 : Hid (w.cell? ⟨Bt, off, none⟩ = some (.bool (t.getD 0 false))) := by have h := hT.cell 0 (by omega); rwa [Nat.add_zero] at h
  have HS0 : Hid (sameB t 0 = true) := rfl
  clear ih hT ht hm hna hR hF
  go_enter Try.func99, Try.ntmps99
  go_wp2_with fail
  go_loopw [8, 9] (fun s i wr => ∃ j : Nat, j ≤ m ∧ i = .int .i64 j ∧ s = .bool (sameB t j) ∧ ∃ q, wr = w.drewN q) (fun _ i _ => m - (intOf i).toNat)
  case atStart => exact ⟨0, Nat.zero_le _, rfl, by rw [HS0.out], 0, rfl⟩
  case round =>
    obtain ⟨j, hj, rfl, rfl, q, rfl⟩ := hrel
    by_cases hlt : j < m
    · have hs := sameB_succ t j
      have d0 : w.cell? ⟨Bt, off, none⟩ = some (.bool (t.getD 0 false)) := hp0.out
      have d1 : w.cell? ⟨Bt, off + j, none⟩ = some (.bool (t.getD j false)) := HT.out.cell j (by have := HT2.out; omega)
      generalize t.getD 0 false = x0 at *
      generalize t.getD j false = xj at *
      have HS := hideN hs
      clear hs
      cases hsb : sameB t j with
      | true =>
        have HS2 : Hid (sameB t (j + 1) = (xj == x0)) := by show _ = _; rw [HS.out, hsb]; simp
        clear hsb
        go_wp2_with fail
        go_quiet (fail)
        go_wp2_with fail
        go_roundw
        case rel => exact ⟨j + 1, by omega, by go_num, by rw [HS2.out], _, rfl⟩
        case measure => simp [intOf]; omega
      | false =>
        have HS2 : Hid (sameB t (j + 1) = false) := by show _ = _; rw [HS.out, hsb]; simp
        clear hsb
        go_wp2_with fail
        go_quiet (fail)
        go_wp2_with fail
        go_roundw
        case rel => exact ⟨j + 1, by omega, by go_num, by rw [HS2.out], _, rfl⟩
        case measure => simp [intOf]; omega
    · obtain rfl : j = m := by omega
      cases hsb : sameB t j with
      | true =>
        have hall := sameB_all hsb
        have hds := drawB_same k v t ns (t.getD 0 false) (by rw [HT2.out]; exact HM.out) (fun i hi => hall i (by have := HT2.out; omega))
        have d0 : w.cell? ⟨Bt, off, none⟩ = some (.bool (t.getD 0 false)) := hp0.out
        have HRR : Hid (∀ n, BuildPost lo (drawB k v t ns).1 (drawB k v t ns).2 w (.returned (.tuple #[.slice aa na ca, .int .i64 (numB (t.getD 0 false))])) (w.drewN n)) := fun n => by
          rw [hds]
          exact ⟨aa, na, ca, rfl, HNA.out, HR.out, (below_drewN (Below.refl _ _) n).mono hlo, HF.out⟩
        generalize t.getD 0 false = x0 at *
        clear hall hds hsb
        go_wp2_with fail
        refine (l7Flag_any _ _).mono ?_
        rintro e w' ⟨rfl, hw'⟩
        obtain rfl := hw'.symm
        go_wp2
        refine bodyPost_ret (v := .tuple #[.slice aa na ca, .int .i64 (numB x0)]) (by simp [results, Try.results99, go_sem]) rfl (HRR.out _)
      | false =>
        obtain ⟨k', rfl⟩ : ∃ k', k = k' + 1 := by
          cases k with
          | zero =>
            have h1 := HM.out
            have h2 : j = 1 := by simpa using h1
            subst h2
            rw [sameB_one] at hsb
            cases hsb
          | succ k' => exact ⟨k', rfl⟩
        obtain ⟨h, hh⟩ : ∃ h, 2 ^ k' = h := ⟨_, rfl⟩
        have hmh : j = h + h := by have h1 := HM.out; rw [h1, Nat.pow_succ, hh]; omega
        have hh1 : 1 ≤ h := by rw [← hh]; exact Nat.one_le_two_pow
        have hle2 : na + (h + h) ≤ 65 := by rw [← hmh, HM.out]; exact hle
        have HD := hideN (drawB_succ k' v t ns h hh)
        have HH := hideN hh
        have HV := hideN hv
        have hvn : v ≤ 6 := by omega
        have w1 : IntKind.i64.wrap ((v : Int) + 1) = (v : Int) + 1 := by rw [IntKind.wrap_i64]; omega
        have w2 : ((j : Int)).tdiv 2 = (h : Int) := by rw [Int.tdiv_eq_ediv_of_nonneg (by omega)]; omega
        have HMH := hideN hmh
        have hhm : h < j := by omega
        have hhc : h < cap := by omega
        have HTW : Hid (∀ n, Tab (w.drewN n) Bt off cap t) := fun n => ⟨HT.out.le, HT.out.cell⟩
        have HBW : Hid (∀ n, Below lo w (w.drewN n)) := fun n => (below_drewN (Below.refl _ _) n).mono hlo
        have HRW : Hid (∀ n, (w.drewN n).ownsRow lo 50 3 (.slice aa na ca) na (ndV ns)) := fun n => row_below HR.out (below_drewN (Below.refl _ _) n)
        have HLW : Hid (∀ n, lo ≤ (w.drewN n).heap.size) := fun n => hlo
        clear hh hv hle hmh hsb
        go_wp2_with fail
        refine (HIH.out k' (by omega) (v + 1) off cap h na ca (t.take h) aa ns _ ((v : Int) + 1) (by push_cast; rfl) (by have := HV.out; omega) (by have := HT2.out; rw [List.length_take]; omega) HH.out.symm ((HTW.out _).take h) HNA.out (HRW.out _) HF.out (by rw [HH.out]; omega) (HLW.out _)).mono ?_
        rintro e wa ⟨aa1, n1, ca1, rfl, hn1, hR1, hb1, hF1⟩
        obtain ⟨b1, b2, b3, b4⟩ := drawB_len k' (v + 1) (t.take h) ns
        rw [HH.out] at b2
        generalize (drawB k' (v + 1) (t.take h) ns).2 = x1 at *
        generalize (drawB k' (v + 1) (t.take h) ns).1 = l1 at *
        rw [hn1, HNA.out] at b1 b2
        rw [hn1] at b4
        have HN1 := hideN hn1
        have HR1 := hideN hR1
        have HF1 := hideN hF1
        have HBe1 : Hid (Below lo w wa) := (HBW.out _).trans hb1
        have hlo1 : lo ≤ wa.heap.size := Nat.le_trans hlo HBe1.out.size
        have HML : Hid (j - h = h) := by show _ = _; have := HMH.out; omega
        have w3 : IntKind.i64.wrap ((v : Int) + 1) = (v : Int) + 1 := w1
        clear hn1 hR1 hb1 hF1 w1
        go_wp2_with fail
        refine (HIH.out k' (by omega) (v + 1) (off + h) (cap - h) (j - h) n1 ca1 (t.drop h) aa1 l1 wa ((v : Int) + 1) (by push_cast; rfl) (by have := HV.out; omega) (by have := HT2.out; rw [List.length_drop]; omega) (by rw [HML.out, HH.out]) ((HT.out.below hBt HBe1.out).drop h) HN1.out HR1.out HF1.out (by rw [HH.out]; omega) hlo1).mono ?_
        rintro e wb ⟨aa2, n2, ca2, rfl, hn2, hR2, hb2, hF2⟩
        obtain ⟨d1, d2, d3, d4⟩ := drawB_len k' (v + 1) (t.drop h) l1
        rw [HH.out] at d2
        generalize (drawB k' (v + 1) (t.drop h) l1).2 = x2 at *
        generalize (drawB k' (v + 1) (t.drop h) l1).1 = l2 at *
        rw [hn2, HN1.out] at d1 d2
        rw [hn2] at d4
        have HN2 := hideN hn2
        have HR2 := hideN hR2
        have HF2 := hideN hF2
        have HBe2 : Hid (Below lo w wb) := HBe1.out.trans hb2
        have hlo2 : lo ≤ wb.heap.size := Nat.le_trans hlo1 hb2.size
        clear hn2 hR2 hb2 hF2 w3
        by_cases hx : x1 = x2
        · subst hx
          have HRR : Hid (BuildPost lo (drawB (k' + 1) v t ns).1 (drawB (k' + 1) v t ns).2 w (.returned (.tuple #[.slice aa2 n2 ca2, .int .i64 x1])) wb) := by
            show BuildPost _ _ _ _ _ _
            rw [HD.out, if_pos rfl]
            exact ⟨aa2, n2, ca2, rfl, HN2.out, HR2.out, HBe2.out, HF2.out⟩
          go_wp2
          refine bodyPost_ret (v := .tuple #[.slice aa2 n2 ca2, .int .i64 x1]) (by simp [results, Try.results99, go_sem]) rfl HRR.out
        · have e2 : (x1 == x2) = false := by simpa using hx
          have HFP : Hid (FitN ((v : Int), x1, x2)) := ⟨⟨by omega, by show (v : Int) ≤ 100; omega⟩, ⟨b3, by show x1 ≤ 1000; omega⟩, d3, by show x2 ≤ 1000; omega⟩
          have HD2 : Hid (drawB (k' + 1) v t ns = putB l2 ((v : Int), x1, x2)) := by show _ = _; rw [HD.out, if_neg hx]
          clear HD hx
          go_wp2_with fail
          go_loopw [15] (fun i wr => ∃ q : Nat, q ≤ n2 ∧ i = .int .i64 q ∧ Hid (∀ p, p < q → l2.getD p (0, 0, 0) ≠ ((v : Int), x1, x2)) ∧ ∃ z, wr = wb.drewN z) (fun i _ => n2 - (intOf i).toNat)
          case atStart => exact ⟨0, Nat.zero_le _, rfl, fun p hp => by omega, 0, rfl⟩
          case round =>
            obtain ⟨q, hq, rfl, hno, z, rfl⟩ := hrel
            by_cases hlt2 : q < n2
            · obtain ⟨g, hg, y0, y1, y2⟩ : ∃ g, aa2 = some ⟨g, 0, none⟩ ∧ wb.cell? ⟨g, q * 3, none⟩ = some (.int .i64 (l2.getD q (0, 0, 0)).1) ∧ wb.cell? ⟨g, q * 3 + 1, none⟩ = some (.int .i64 (l2.getD q (0, 0, 0)).2.1) ∧ wb.cell? ⟨g, q * 3 + 2, none⟩ = some (.int .i64 (l2.getD q (0, 0, 0)).2.2) := by
                obtain ⟨g, c', h1, h2, h3⟩ := World.ownsRow.form HR2.out (by omega)
                injection h1 with e1 _ _
                subst e1
                have hl2 := HN2.out
                obtain ⟨q0, q1, q2⟩ := ndV_get l2 q (by omega)
                exact ⟨g, rfl, (World.ownsRow.cellAt HR2.out (q * 3) (by omega)).trans q0, (World.ownsRow.cellAt HR2.out (q * 3 + 1) (by omega)).trans q1, (World.ownsRow.cellAt HR2.out (q * 3 + 2) (by omega)).trans q2⟩
              subst hg
              have hqf := HF2.out _ (getD_mem_nd (l := l2) (i := q) (by have := HN2.out; omega))
              by_cases hqe : l2.getD q (0, 0, 0) = ((v : Int), x1, x2)
              · have HPL := hideN (placeB_first l2 ((v : Int), x1, x2) q (by have := HN2.out; omega) hqe hno.out)
                have heq := fun W => nd_same ((v : Int), x1, x2) HFP.out W
                simp only [ndOf] at heq
                rw [hqe] at y0 y1 y2
                have y0 : wb.cell? ⟨g, q * 3, none⟩ = some (.int .i64 (v : Int)) := y0
                have y1 : wb.cell? ⟨g, q * 3 + 1, none⟩ = some (.int .i64 x1) := y1
                have y2 : wb.cell? ⟨g, q * 3 + 2, none⟩ = some (.int .i64 x2) := y2
                clear hqe hqf hno
                have HRR : Hid (∀ n, BuildPost lo (drawB (k' + 1) v t ns).1 (drawB (k' + 1) v t ns).2 w (.returned (.tuple #[.slice (some ⟨g, 0, none⟩) n2 ca2, .int .i64 ((q : Int) + 2)])) (wb.drewN n)) := fun n => by
                  have hq2 : putB l2 ((v : Int), x1, x2) = (l2, (q : Int) + 2) := by unfold putB; rw [HPL.out, if_pos (by have := HN2.out; omega), Int.add_comm]
                  rw [HD2.out, hq2]
                  exact ⟨_, n2, ca2, rfl, HN2.out, row_below HR2.out (below_drewN (Below.refl _ _) n), HBe2.out.trans ((below_drewN (Below.refl _ _) n).mono hlo2), HF2.out⟩
                go_wp2_with fail
                refine bodyPost_ret (v := .tuple #[.slice (some ⟨g, 0, none⟩) n2 ca2, .int .i64 ((q : Int) + 2)]) (by simp [results, Try.results99, go_sem]) rfl (HRR.out _)
              · have heq := fun W => nd_differs hqf HFP.out hqe W
                simp only [ndOf] at heq
                generalize (l2.getD q (0, 0, 0)).1 = p0 at *
                generalize (l2.getD q (0, 0, 0)).2.1 = p1 at *
                generalize (l2.getD q (0, 0, 0)).2.2 = p2 at *
                have HQE := hideN hqe
                clear hqe hqf
                go_wp2_with fail
                go_roundw
                case rel =>
                  refine ⟨q + 1, by omega, by go_num, fun p hp => ?_, _, rfl⟩
                  by_cases e : p = q
                  · subst e; exact HQE.out
                  · exact hno.out p (by omega)
                case measure => simp [intOf]; omega
            · obtain rfl : q = n2 := by omega
              have HPL := hideN (placeB_none l2 ((v : Int), x1, x2) (fun i hi => hno.out i (by have := HN2.out; omega)))
              clear hno
              have HRU := hideN (row_below HR2.out (below_drewN (Below.refl _ _) z))
              have HBU : Hid (Below lo w (wb.drewN z)) := HBe2.out.trans ((below_drewN (Below.refl _ _) z).mono hlo2)
              have hloU : lo ≤ (wb.drewN z).heap.size := hlo2
              generalize wb.drewN z = U at *
              obtain ⟨ia, hia, hza0, hza1, hza2⟩ := info_parts info_nd
              have HRV : Hid ((U.alloc (.cells #[.int .i64 (v : Int), .int .i64 x1, .int .i64 x2] 50)).ownsRow lo 50 3 (.slice aa2 q ca2) q (ndV l2)) := row_below HRU.out (belOne _ _)
              go_wp2_with (at_builtin; refine wpList_append_lies _ rfl _ _ 23 rfl lo 50 ia (.agg #[.int .i64 0, .int .i64 0, .int .i64 0]) 3 24 Try.underlying23 hia hza0 hza1 hza2 rfl (by decide) _ q (ndV l2) rfl HRV.out ⟨U.heap.size, 0, none⟩ 1 1 [.int .i64 (v : Int), .int .i64 x1, .int .i64 x2] rfl rfl (by exact news3 U _ _ _ _) (nd_oneCell _ _ _) (by decide) (by unfold maxLen; omega) (by omega) (by simp; omega) _ rfl ?_; intro g gcap w8 hown8 hgrow8 hat8 hlt8)
              have HRR : Hid (BuildPost lo (drawB (k' + 1) v t ns).1 (drawB (k' + 1) v t ns).2 w (.returned (.tuple #[.slice (some ⟨g, 0, none⟩) (q + 1) gcap, .int .i64 ((q : Int) + 2)])) w8) := by
                have hq2 : putB l2 ((v : Int), x1, x2) = (l2 ++ [((v : Int), x1, x2)], (q : Int) + 2) := by unfold putB; rw [if_neg HPL.out, HN2.out, Int.add_comm]
                show BuildPost _ _ _ _ _ _
                rw [HD2.out, hq2]
                refine ⟨_, q + 1, gcap, rfl, by rw [List.length_append, HN2.out]; rfl, by rw [ndV_snoc]; exact hown8, Chg.below HBU.out hloU ((Chg.of_below (belOne U (.cells #[.int .i64 (v : Int), .int .i64 x1, .int .i64 x2] 50))).trans (chg_of_grown hgrow8)) (fun k e => (World.ownsRow.lt HRU.out k e).1), fun p hp => ?_⟩
                rcases List.mem_append.1 hp with h1 | h1
                · exact HF2.out p h1
                · rw [List.mem_singleton] at h1; subst h1; exact HFP.out
              clear hown8 hgrow8 hat8 hlt8
              go_wp2_with fail
              refine bodyPost_ret (v := .tuple #[.slice (some ⟨g, 0, none⟩) (q + 1) gcap, .int .i64 ((q : Int) + 2)]) (by simp [results, Try.results99, go_sem]) rfl HRR.out

end Go.Proofs.Ytknpifjkllcdeaa

/-
  A drawn circuit with something that is meant: DrawAigNeeds. Numbers compared and looked for: rgInts, rgHas. What is needed decides.
-/
import Derived.Test.YtdkpgbmcnjkjkaaAigV1
import Derived.Test.YtdkpgbmcnjkjkaaNeed8
namespace Go.Proofs.Ytdkpgbmcnjkjkaa
open Go.RowKit Go.Deep Go.Shelf
set_option linter.unusedVariables false

set_option maxHeartbeats 400000 in
theorem l3Nodes_wide (inp : Int) (al aa ab : Option Addr) (nl cl na ca nb cb : Nat) (w : World) (h0 : -1 ≤ inp) (h1 : inp ≤ 9) (h2 : nl ≤ 8) (h3 : na ≤ 50) :
    Calls Try.prog 63 #[.agg #[.int .i64 inp, .slice al nl cl, .slice aa na ca, .slice ab nb cb]] w fun e w' => e = .returned (.int .i64 (inp + nl + na)) ∧ Below w.heap.size w w' := by
  go_enter Try.func63, Try.ntmps63
  go_wp2
  go_ret
  exact ⟨rfl, belOne _ _⟩

def DrawNPost (w : World) (e : Ending) (w' : World) : Prop :=
  ∃ (inp : Int) (al aa ab : Option Addr) (cl ca cb : Nat) (ls : List (Int × Bool)) (xs : List (Int × Int)) (cs : List Int) (lit : Int),
    e = .returned (.tuple #[.agg #[.int .i64 inp, .slice al ls.length cl, .slice aa xs.length ca, .slice ab cs.length cb], .int .i64 lit]) ∧ Drawn w w' inp al aa ab cl ca cb ls xs cs ∧ -1 ≤ lit ∧ lit ≤ 1000

theorem StV.below {w w1 wr w2 : World} {Q C R : Nat} {v : Value} {bs : List Int} {p : Nat} {inp : Int} {vl va vb : Value} {ls : List (Int × Bool)} {xs : List (Int × Int)} {cs : List Int} (h : StV w w1 wr Q C R v bs p inp vl va vb ls xs cs) (hb : Below wr.heap.size wr w2) : StV w w1 w2 Q C R v bs p inp vl va vb ls xs cs :=
  ⟨h.q.of_block (hb.block _ h.q.lt), h.c.of_block (hb.block _ h.c.lt), h.g.below hb, belNext h.bel hb, h.qr, h.cr, h.hR, h.hQ, h.rw1, h.qw1, h.cw1⟩

set_option maxRecDepth 100000 in
set_option maxHeartbeats 8000000 in
theorem drawAigNeeds_any (v : Value) (bs : List Int) (w : World) (hv : IsBytes w v bs) (hn : bs.length ≤ 1048576) (hal : ∀ ao n cap b off, v = .slice ao n cap → ao = some ⟨b, off, none⟩ → b < w.heap.size) :
    Calls Try.prog 39 #[v] w (DrawNPost w) := by
  have HV : Hid (IsBytes (w.alloc (.cells #[.int .i64 0, .slice none 0 0, .slice none 0 0, .slice none 0 0] 33)) v bs) := by
    obtain ⟨ao, cap, h1, h2, h3, h4⟩ := hv
    refine ⟨ao, cap, h1, h2, fun hne => ?_, h4⟩
    obtain ⟨b, off, ha, hc⟩ := h3 hne
    exact ⟨b, off, ha, fun i hi => by rw [World.cell?_alloc_lt w _ _ (cell_lt (a := ⟨b, off + i, none⟩) (hc i hi))]; exact hc i hi⟩
  have HAL : Hid (∀ ao n cap b off, v = .slice ao n cap → ao = some ⟨b, off, none⟩ → b < w.heap.size) := hal
  obtain ⟨ao0, cap0, rfl, _⟩ := hv
  clear hal
  go_enter Try.func39, Try.ntmps39
  go_wp2_with fail
  refine (l1Open_any w.heap.size _ bs _ HV.out hn HAL.out).mono ?_
  rintro e w1 ⟨v', bs', rfl, hrd1, hb1, hs1, hvb1⟩
  have hs1' : w1.heap.size = w.heap.size + 2 := by simpa using hs1
  have hrd1' : Rd w1 (w.heap.size + 1) v' bs' 0 := by simpa using hrd1
  have HRD1 : Hid (Rd w1 (w.heap.size + 1) v' bs' 0) := hrd1'
  have HQ1 : Hid (Blk4 w1 w.heap.size (.int .i64 0) (.slice none 0 0) (.slice none 0 0) (.slice none 0 0)) := (Blk4.new w _ _ _ _).of_block (hb1.block _ (by simp))
  have HB1 : Hid (Below w.heap.size w w1) := belNext (belOne _ _) hb1
  have HVB : Hid (∀ ao n cap b off, v' = .slice ao n cap → ao = some ⟨b, off, none⟩ → b < w.heap.size) := hvb1
  have HS1 : Hid (w1.heap.size = w.heap.size + 2) := hs1'
  clear hrd1 hrd1' hb1 hs1 hvb1 hs1'
  go_wp2_with fail
  refine (l13AnyAig_any (w.heap.size + 1) v' bs' 0 _ HRD1.out (fun ao n cap b off h1 h2 => by have := HVB.out ao n cap b off h1 h2; have := HS1.out; omega) (by omega)).mono ?_
  rintro e w2 ⟨inp, al, aa, ab, cl, ca, cb, ls, xs, cs, p2, rfl, hi0, hi1, hll, hla, hlb, hp2, hgot⟩
  have HS2 : Hid (StV w w1 (w2.alloc (.cells #[.int .i64 inp, .slice al ls.length cl, .slice aa xs.length ca, .slice ab cs.length cb] 33)) w.heap.size w2.heap.size (w.heap.size + 1) v' bs' p2 inp (.slice al ls.length cl) (.slice aa xs.length ca) (.slice ab cs.length cb) ls xs cs) := by
    have h1 := HS1.out
    have h2 := hgot.old.size
    have hb := belOne w2 (.cells #[.int .i64 inp, .slice al ls.length cl, .slice aa xs.length ca, .slice ab cs.length cb] 33)
    exact ⟨(HQ1.out.of_block (hgot.old.2.2.2.2 _ (by omega) (by omega))).of_block (hb.block _ (by omega)), Blk4.new w2 _ _ _ _, hgot.below hb,
      belNext ⟨hgot.old.1.trans HB1.out.os, hgot.old.2.1.trans HB1.out.tape, hgot.old.2.2.1.trans HB1.out.output, by omega, fun k hk => (hgot.old.2.2.2.2 k (by omega) (by omega)).trans (HB1.out.block k hk)⟩ hb,
      by omega, by omega, by omega, Nat.le_refl _, by omega, by omega, by omega⟩
  clear hgot
  have c0 := HS2.out.c.c0
  have c1 := HS2.out.c.c1
  have c2 := HS2.out.c.c2
  have c3 := HS2.out.c.c3
  have c4 := HS2.out.c.lt
  go_wp2_with fail
  refine (pick_any (w.heap.size + 1) v' bs' p2 _ _ HS2.out.g.rd (by omega) (by omega)).mono ?_
  rintro e w3 ⟨z, rfl, hz0, hz1, hz2, hrd3, hg3, hs3⟩
  have HS3 : Hid (StV w w1 w3 w.heap.size w2.heap.size (w.heap.size + 1) v' bs' (p2 + 1) inp (.slice al ls.length cl) (.slice aa xs.length ca) (.slice ab cs.length cb) ls xs cs) := HS2.out.pick hrd3 hg3
  clear hrd3 hg3 hs3 hz1 hz2 c0 c1 c2 c3 c4
  have c0 := HS3.out.c.c0
  have c1 := HS3.out.c.c1
  have c2 := HS3.out.c.c2
  have c3 := HS3.out.c.c3
  have c4 := HS3.out.c.lt
  cases hzb : (z == 0)
  · go_wp2_with fail
    refine (l3Nodes_wide _ _ _ _ _ _ _ _ _ _ _ hi0 hi1 (by omega) (by omega)).mono ?_
    rintro e w4 ⟨rfl, hb4⟩
    have HS4 : Hid (StV w w1 w4 w.heap.size w2.heap.size (w.heap.size + 1) v' bs' (p2 + 1) inp (.slice al ls.length cl) (.slice aa xs.length ca) (.slice ab cs.length cb) ls xs cs) := HS3.out.below hb4
    clear hb4 c0 c1 c2 c3 c4
    obtain ⟨n, hnn⟩ : ∃ n, inp + (ls.length : Int) + (xs.length : Int) = n := ⟨_, rfl⟩
    have hn60 : n ≤ 60 := by omega
    have hn0 : -1 ≤ n := by omega
    rw [hnn]
    clear hnn
    have c0 := HS4.out.c.c0
    have c1 := HS4.out.c.c1
    have c2 := HS4.out.c.c2
    have c3 := HS4.out.c.c3
    have c4 := HS4.out.c.lt
    by_cases hneg : n < 0
    all_goals
      go_wp2_with fail
      go_region_law (first
        | (go_simp; go_at_call 71; refine (pick_any (w.heap.size + 1) v' bs' (p2 + 1) _ _ (by first | exact HS4.out.drew.g.rd | exact HS4.out.g.rd) (by omega) (by first | omega | (simp only [IntKind.wrap_i64]; omega))).mono ?_; rintro e w5 ⟨y, rfl, hy0, hy1, hy2, hrd5, hg5, hs5⟩; have HS5 : Hid (StV w w1 w5 w.heap.size w2.heap.size (w.heap.size + 1) v' bs' (p2 + 1 + 1) inp (.slice al ls.length cl) (.slice aa xs.length ca) (.slice ab cs.length cb) ls xs cs) := (by first | exact HS4.out.drew.pick hrd5 hg5 | exact HS4.out.pick hrd5 hg5); have q0 := HS5.out.c.c0; have q1 := HS5.out.c.c1; have q2 := HS5.out.c.c2; have q3 := HS5.out.c.c3; have q4 := HS5.out.c.lt; have m3 := HS5.out.q.c0; have m4 := HS5.out.q.c1; have m5 := HS5.out.q.c2; have m6 := HS5.out.q.c3; have m7 := HS5.out.q.lt; have m8 := HS5.out.q.f 0; have m9 := HS5.out.q.f 1; have m10 := HS5.out.q.f 2; have m11 := HS5.out.q.f 3; have hyl : y ≤ 1000 := (by have h := hy1 (by first | omega | (simp only [IntKind.wrap_i64]; omega)); first | omega | (simp only [IntKind.wrap_i64] at h; omega)); clear hrd5 hg5 hs5 hy1 hy2))
      all_goals
        have hqq := (((HS5.out.q.set0 (.int .i64 inp)).set1 (.slice al ls.length cl)).set2 (.slice aa xs.length ca)).set3 (.slice ab cs.length cb)
        have u0 := hqq.c0
        have u1 := hqq.c1
        have u2 := hqq.c2
        have u3 := hqq.c3
        have HDN := hideD (drawn_of HS5.out hi0 hi1 hll hla hlb (.int .i64 inp) (.slice al ls.length cl) (.slice aa xs.length ca) (.slice ab cs.length cb))
        clear hqq
        go_wp2
        exact bodyPost_ret (v := .tuple #[.agg #[.int .i64 inp, .slice al ls.length cl, .slice aa xs.length ca, .slice ab cs.length cb], .int .i64 y]) (by simp [results, Try.results39, go_sem, u0, u1, u2, u3]) rfl ⟨inp, al, aa, ab, cl, ca, cb, ls, xs, cs, y, rfl, HDN.out, by omega, hyl⟩
  · have m3 := HS3.out.q.c0
    have m4 := HS3.out.q.c1
    have m5 := HS3.out.q.c2
    have m6 := HS3.out.q.c3
    have m7 := HS3.out.q.lt
    have m8 := HS3.out.q.f 0
    have m9 := HS3.out.q.f 1
    have m10 := HS3.out.q.f 2
    have m11 := HS3.out.q.f 3
    have hqq := (((HS3.out.q.set0 (.int .i64 inp)).set1 (.slice al ls.length cl)).set2 (.slice aa xs.length ca)).set3 (.slice ab cs.length cb)
    have u0 := hqq.c0
    have u1 := hqq.c1
    have u2 := hqq.c2
    have u3 := hqq.c3
    have HDN := hideD (drawn_of HS3.out hi0 hi1 hll hla hlb (.int .i64 inp) (.slice al ls.length cl) (.slice aa xs.length ca) (.slice ab cs.length cb))
    clear hqq
    go_wp2
    exact bodyPost_ret (v := .tuple #[.agg #[.int .i64 inp, .slice al ls.length cl, .slice aa xs.length ca, .slice ab cs.length cb], .int .i64 (-1)]) (by simp [results, Try.results39, go_sem, u0, u1, u2, u3]) rfl ⟨inp, al, aa, ab, cl, ca, cb, ls, xs, cs, -1, rfl, HDN.out, by omega, by omega⟩

set_option maxHeartbeats 1000000 in
theorem rgInts_same (v1 v2 : Value) (xs : List Int) (w : World) (h1 : IsInts w v1 xs) (h2 : IsInts w v2 xs) (hn : xs.length ≤ maxLen) :
    Calls Try.prog 40 #[v1, v2] w fun e w' => e = .returned (.bool true) ∧ ∃ n, w' = w.drewN n := by
  obtain ⟨ao1, cap1, rfl, h1⟩ := h1
  obtain ⟨ao2, cap2, rfl, h2⟩ := h2
  generalize hN : xs.length = n at *
  unfold maxLen at hn
  have HN : Hid (xs.length = n) := hN
  clear hN
  by_cases hne : 0 < n
  · have hx : xs ≠ [] := by intro e; have := HN.out; subst e; simp at this; omega
    obtain ⟨b1, off1, rfl, hc1⟩ := h1 hx
    obtain ⟨b2, off2, rfl, hc2⟩ := h2 hx
    have HC1 : Hid (∀ i, i < n → w.cell? ⟨b1, off1 + i, none⟩ = some (.int .i64 (xs.getD i 0))) := hc1
    have HC2 : Hid (∀ i, i < n → w.cell? ⟨b2, off2 + i, none⟩ = some (.int .i64 (xs.getD i 0))) := hc2
    clear hc1 hc2 h1 h2 hx
    go_enter Try.func40, Try.ntmps40
    go_wp2
    go_loopw [5] (fun i wr => ∃ k : Nat, k ≤ n ∧ i = .int .i64 k ∧ ∃ m, wr = w.drewN m) (fun i _ => n - (intOf i).toNat)
    case atStart => exact ⟨0, Nat.zero_le _, rfl, 0, rfl⟩
    case round =>
      obtain ⟨k, hk, rfl, m, rfl⟩ := hrel
      by_cases hlt : k < n
      · have hd1 := HC1.out k hlt
        have hd2 := HC2.out k hlt
        generalize xs.getD k 0 = x at *
        go_wp2
        go_quiet (fail)
        go_wp2
        go_roundw
        case rel => exact ⟨k + 1, by omega, by go_num, _, rfl⟩
        case measure => simp [intOf]; omega
      · go_wp2
        go_ret
        exact ⟨rfl, _, rfl⟩
  · clear h1 h2
    go_enter Try.func40, Try.ntmps40
    go_wp2
    go_rounds 1
    go_ret
    exact ⟨rfl, 0, rfl⟩

theorem rgInts_below (v1 v2 : Value) (ms : List Int) (w : World) (h1 : IsInts w v1 ms) (h2 : IsInts w v2 ms) (hn : ms.length ≤ 100) :
    Calls Try.prog 40 #[v1, v2] w fun e w' => e = .returned (.bool true) ∧ Below w.heap.size w w' := by
  refine (rgInts_same v1 v2 ms w h1 h2 (by unfold maxLen; omega)).mono ?_
  rintro e w' ⟨rfl, n, rfl⟩
  exact ⟨rfl, below_drewN (Below.refl _ _) _⟩

/-- Whether a number is there. -/
def hasB (vs : List Int) (x : Int) : Bool := decide (∃ i, i < vs.length ∧ vs.getD i 0 = x)
theorem hasB_yes {vs : List Int} {x : Int} {k : Nat} (hk : k < vs.length) (h : vs.getD k 0 = x) : hasB vs x = true := by unfold hasB; simp only [decide_eq_true_eq]; exact ⟨k, hk, h⟩
theorem hasB_no {vs : List Int} {x : Int} (h : ∀ i, i < vs.length → vs.getD i 0 ≠ x) : hasB vs x = false := by unfold hasB; simp only [decide_eq_false_iff_not]; rintro ⟨i, hi, e⟩; exact h i hi e
theorem hasB_mem {vs : List Int} {x : Int} : hasB vs x = true ↔ x ∈ vs := by
  unfold hasB
  simp only [decide_eq_true_eq]
  constructor
  · rintro ⟨i, hi, rfl⟩
    rw [List.getD, List.getElem?_eq_getElem hi]; simp
  · intro h
    obtain ⟨i, hi, rfl⟩ := List.mem_iff_getElem.1 h
    exact ⟨i, hi, by simp [List.getD, hi]⟩

set_option maxHeartbeats 1000000 in
theorem rgHas_any (v : Value) (vs : List Int) (x : Int) (w : World) (hv : IsInts w v vs) (hn : vs.length ≤ 1000) :
    Calls Try.prog 41 #[v, .int .i64 x] w fun e w' => e = .returned (.bool (hasB vs x)) ∧ w' = w := by
  obtain ⟨ao, cap, rfl, hv⟩ := hv
  generalize hN : vs.length = n at *
  have HN : Hid (vs.length = n) := hN
  by_cases hne : 0 < n
  · have hx : vs ≠ [] := by intro e; subst e; simp at hN; omega
    obtain ⟨b, off, rfl, hc⟩ := hv hx
    have HC : Hid (∀ i, i < n → w.cell? ⟨b, off + i, none⟩ = some (.int .i64 (vs.getD i 0))) := hc
    clear hc hv hx hN
    go_enter Try.func41, Try.ntmps41
    go_wp2
    go_loop [5] (fun i => ∃ k : Nat, k ≤ n ∧ i = .int .i64 k ∧ Hid (∀ i, i < k → vs.getD i 0 ≠ x)) (fun i => n - (intOf i).toNat)
    case atStart => exact ⟨0, Nat.zero_le _, rfl, fun i hi => by omega⟩
    case round =>
      obtain ⟨k, hk, rfl, hno⟩ := hrel
      by_cases hlt : k < n
      · have hd := HC.out k hlt
        by_cases he : vs.getD k 0 = x
        · have HY : Hid (hasB vs x = true) := hasB_yes (by rw [HN.out]; exact hlt) he
          have hb : (vs.getD k 0 == x) = true := beq_iff_eq.2 he
          clear he
          generalize vs.getD k 0 = y at *
          go_wp2
          go_ret
          exact ⟨ret_b HY.out.symm, rfl⟩
        · have HNO : Hid (∀ i, i < k + 1 → vs.getD i 0 ≠ x) := fun i hi => by
            by_cases e : i = k
            · subst e; exact he
            · exact hno.out i (by omega)
          have hb : (vs.getD k 0 == x) = false := beq_eq_false_iff_ne.2 he
          clear he hno
          generalize vs.getD k 0 = y at *
          go_wp2
          go_round
          case rel => exact ⟨k + 1, by omega, by go_num, HNO⟩
          case measure => simp [intOf]; omega
      · obtain rfl : k = n := by omega
        have HZ : Hid (hasB vs x = false) := hasB_no (by rw [HN.out]; exact hno.out)
        clear hno
        go_wp2
        go_ret
        exact ⟨ret_b HZ.out.symm, rfl⟩
  · obtain rfl : n = 0 := by omega
    have HZ : Hid (hasB vs x = false) := hasB_no (fun i hi => by omega)
    clear hv hN
    go_enter Try.func41, Try.ntmps41
    go_wp2
    go_rounds 1
    go_ret
    exact ⟨ret_b HZ.out.symm, rfl⟩

theorem pickN_has (S : Nat → Bool) (k i : Nat) (h : i < k) (h0 : 0 < i) : hasB (pickN S k) (i : Int) = S i := by
  rw [Bool.eq_iff_iff, hasB_mem]
  unfold pickN
  simp only [List.mem_map, List.mem_filter, List.mem_range, Bool.and_eq_true, decide_eq_true_eq]
  constructor
  · rintro ⟨j, ⟨_, _, h2⟩, h3⟩
    obtain rfl : j = i := by omega
    exact h2
  · intro hs
    exact ⟨i, ⟨h, h0, hs⟩, rfl⟩

/-- What is needed decides. -/
theorem agree {F : Nat} {xs : List (Int × Int)} {S : Nat → Bool} (hcl : Closed F xs S) (hah : Ahead F xs) (s1 s2 : List Bool) (h1 : s1.length = F) (h2 : s2.length = F) (hs : ∀ j, j < F → S j = true → s1.getD j false = s2.getD j false) :
    ∀ m, m < F + xs.length → S m = true → (valF s1 xs xs.length).getD m false = (valF s2 xs xs.length).getD m false := by
  intro m
  induction m using Nat.strongRecOn with
  | ind m ih =>
    intro hm hS
    by_cases hF : m < F
    · rw [valF_start s1 xs m (by omega), valF_start s2 xs m (by omega)]
      exact hs m hF hS
    · obtain ⟨k, rfl⟩ : ∃ k, m = F + k := ⟨m - F, by omega⟩
      have hk : k < xs.length := by omega
      obtain ⟨ka, kb⟩ := hah (F + k) (by omega) hm
      obtain ⟨ca, cb⟩ := hcl (F + k) (by omega) hm hS
      have ia := ih _ ka (by omega) ca
      have ib := ih _ kb (by omega) cb
      unfold kidA at ka ia
      unfold kidB at kb ib
      rw [show F + k - F = k by omega] at ka kb ia ib
      have e1 := valF_and s1 xs k hk (by omega) (by omega)
      have e2 := valF_and s2 xs k hk (by omega) (by omega)
      rw [h1] at e1
      rw [h2] at e2
      rw [e1, e2, litV_congr ia, litV_congr ib]

end Go.Proofs.Ytdkpgbmcnjkjkaa

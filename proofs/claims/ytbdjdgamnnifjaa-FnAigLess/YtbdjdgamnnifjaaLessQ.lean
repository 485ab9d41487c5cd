/-
  A circuit without what is needless runs as the circuit does; comparing two circuits that are the same.
-/
import Derived.Test.YtbdjdgamnnifjaaLessP
import Derived.Test.YtbdjdgamnnifjaaAigP
import Derived.Test.YtbdjdgamnnifjaaRgI
namespace Go.Proofs.Ytbdjdgamnnifjaa
open Go.RowKit Go.Deep Go.Shelf
set_option linter.unusedVariables false

theorem run_same {inp : Int} {ls : List (Int × Bool)} {xs : List (Int × Int)} {bs : List Int} {ls' : List (Int × Bool)} {xs' : List (Int × Int)} {bs' : List Int} (o : okC inp ls xs bs = true) (hs : ∀ lats ins : List Bool, lats.length = ls.length → (ins.length : Int) = inp → nextOf inp ls' xs' bs' lats ins = nextOf inp ls xs bs lats ins ∧ badOf inp ls' xs' bs' lats ins = badOf inp ls xs bs lats ins) (rows : List (List Bool)) :
    ∀ (lats : List Bool) (k : Nat), lats.length = ls.length → runF inp ls' xs' bs' rows lats k = runF inp ls xs bs rows lats k := by
  induction rows with
  | nil => intro lats k _; rfl
  | cons r rest ih =>
    intro lats k hl
    rw [runF, runF]
    by_cases e : (r.length : Int) = inp
    · rw [if_pos e, if_pos e]
      obtain ⟨h1, h2⟩ := hs lats r hl e
      rw [h1, h2]
      by_cases e2 : anyOf (badOf inp ls xs bs lats r) = true
      · rw [if_pos e2, if_pos e2]
      · rw [if_neg e2, if_neg e2]
        exact ih _ _ (nextOf_len (fitsB_iff.2 ⟨o, hl, e⟩))
    · rw [if_neg e, if_neg e]

theorem less_run {inp : Int} {ls : List (Int × Bool)} {xs : List (Int × Int)} {bs : List Int} {i' : Int} {ls' : List (Int × Bool)} {xs' : List (Int × Int)} {bs' : List Int} (o : okC inp ls xs bs = true) (hl64 : ∀ p ∈ ls, I64 p.1) (h64 : ∀ p ∈ xs, I64 p.1 ∧ I64 p.2) (hb64 : ∀ x ∈ bs, I64 x) (h : IsLess inp ls xs bs i' ls' xs' bs') (rows : List (List Bool)) : runOf inp ls' xs' bs' rows = runOf inp ls xs bs rows := by
  obtain ⟨_, ok', _, _, _, _, hsnd, hs⟩ := less_sem o hl64 h64 hb64 h
  unfold runOf
  by_cases e : rows.length ≤ 40
  · rw [if_pos ⟨ok', e⟩, if_pos ⟨o, e⟩, hsnd]
    exact run_same o hs rows _ _ (by simp)
  · rw [if_neg (fun h => e h.2), if_neg (fun h => e h.2)]

set_option maxRecDepth 100000 in
set_option maxHeartbeats 4000000 in
theorem rgAig_same (inp : Int) (al aa ab al' aa' ab' : Option Addr) (cl ca cb cl' ca' cb' : Nat) (ls : List (Int × Bool)) (xs : List (Int × Int)) (bs : List Int) (w : World) (h1 : IsCir w al aa ab cl ca cb ls xs bs) (h2 : IsCir w al' aa' ab' cl' ca' cb' ls xs bs) (hl : ls.length ≤ 100) (ha : xs.length ≤ 100) (hb : bs.length ≤ 100) :
    Calls Try.prog 42 #[.agg #[.int .i64 inp, .slice al ls.length cl, .slice aa xs.length ca, .slice ab bs.length cb], .agg #[.int .i64 inp, .slice al' ls.length cl', .slice aa' xs.length ca', .slice ab' bs.length cb']] w fun e w' => e = .returned (.bool true) ∧ Below w.heap.size w w' := by
  have H1 : Hid (∀ w', Below w.heap.size w w' → IsCir w' al aa ab cl ca cb ls xs bs) := fun w' h => h1.below h
  have H2 : Hid (∀ w', Below w.heap.size w w' → IsCir w' al' aa' ab' cl' ca' cb' ls xs bs) := fun w' h => h2.below h
  obtain ⟨W1, hW1⟩ : ∃ W1, W1 = (w.alloc (.cells #[.int .i64 inp, .slice al ls.length cl, .slice aa xs.length ca, .slice ab bs.length cb] 33)).alloc (.cells #[.int .i64 inp, .slice al' ls.length cl', .slice aa' xs.length ca', .slice ab' bs.length cb'] 33) := ⟨_, rfl⟩
  have HA1 : Hid (Own4 W1 w.heap.size 33 (.int .i64 inp) (.slice al ls.length cl) (.slice aa xs.length ca) (.slice ab bs.length cb)) := by rw [hW1]; exact (Own4.new _ _ _ _ _ _).below (belOne _ _)
  have HA2 : Hid (Own4 W1 (w.heap.size + 1) 33 (.int .i64 inp) (.slice al' ls.length cl') (.slice aa' xs.length ca') (.slice ab' bs.length cb')) := by
    rw [hW1]
    have h := Own4.new (w.alloc (.cells #[.int .i64 inp, .slice al ls.length cl, .slice aa xs.length ca, .slice ab bs.length cb] 33)) 33 (.int .i64 inp) (.slice al' ls.length cl') (.slice aa' xs.length ca') (.slice ab' bs.length cb')
    rw [World.size_alloc] at h
    exact h
  have HB1 : Hid (Below w.heap.size w W1) := by rw [hW1]; exact belNext (belOne _ _) (belOne _ _)
  have HW1 := hideN hW1
  clear h1 h2 hW1
  go_enter Try.func42, Try.ntmps42
  go_wp2_with fail
  rw [← HW1.out]
  refine (rgInts_below _ _ bs _ (H1.out _ HB1.out).isB (H2.out _ HB1.out).isB hb).mono ?_
  rintro e w2 ⟨rfl, hb2⟩
  have HB2 : Hid (Below w.heap.size w w2) := belNext HB1.out hb2
  have HC1 := hideN (HA1.out.below hb2)
  have HC2 := hideN (HA2.out.below hb2)
  clear hb2 HA1 HA2
  have HF : Hid (∀ V, Below w2.heap.size w2 V → Below w.heap.size w V ∧ Own4 V w.heap.size 33 (.int .i64 inp) (.slice al ls.length cl) (.slice aa xs.length ca) (.slice ab bs.length cb) ∧ Own4 V (w.heap.size + 1) 33 (.int .i64 inp) (.slice al' ls.length cl') (.slice aa' xs.length ca') (.slice ab' bs.length cb')) := fun V hV => ⟨belNext HB2.out hV, HC1.out.below hV, HC2.out.below hV⟩
  go_wp2_with fail
  go_loopw [5] (fun i wr => ∃ k : Nat, k ≤ ls.length ∧ i = .int .i64 k ∧ Hid (Below w2.heap.size w2 wr)) (fun i _ => ls.length - (intOf i).toNat)
  case atStart => exact ⟨0, Nat.zero_le _, rfl, Below.refl _ _⟩
  case round =>
    rename World => V
    obtain ⟨k, hk, rfl, hV⟩ := hrel
    obtain ⟨hbw, hO1, hO2⟩ := HF.out V hV.out
    have c1 := hO1.four.c1
    have d1 := hO2.four.c1
    have c4 := hO1.lt
    have d4 := hO2.lt
    have HI1 := hideN (H1.out V hbw)
    have HI2 := hideN (H2.out V hbw)
    clear hbw hO1 hO2
    by_cases hlt : k < ls.length
    · obtain ⟨b, off, hao, hcs⟩ : ∃ b off, al = some ⟨b, off, none⟩ ∧ V.cell? ⟨b, off + k * 2, none⟩ = some (.int .i64 (ls.getD k (0, false)).1) ∧ V.cell? ⟨b, off + k * 2 + 1, none⟩ = some (.bool (ls.getD k (0, false)).2) := by
        obtain ⟨ao', cap', he, h⟩ := HI1.out.isL
        obtain ⟨b, off, ha, hc⟩ := h (by intro e; subst e; simp at hlt)
        injection he with e1 e2 e3
        exact ⟨b, off, e1.trans ha, hc k hlt⟩
      obtain ⟨b', off', hao', hcs'⟩ : ∃ b off, al' = some ⟨b, off, none⟩ ∧ V.cell? ⟨b, off + k * 2, none⟩ = some (.int .i64 (ls.getD k (0, false)).1) ∧ V.cell? ⟨b, off + k * 2 + 1, none⟩ = some (.bool (ls.getD k (0, false)).2) := by
        obtain ⟨ao', cap', he, h⟩ := HI2.out.isL
        obtain ⟨b, off, ha, hc⟩ := h (by intro e; subst e; simp at hlt)
        injection he with e1 e2 e3
        exact ⟨b, off, e1.trans ha, hc k hlt⟩
      subst hao
      subst hao'
      obtain ⟨e1, e2⟩ := hcs
      obtain ⟨e3, e4⟩ := hcs'
      generalize (ls.getD k (0, false)).1 = x at *
      generalize (ls.getD k (0, false)).2 = y at *
      go_wp2_with fail
      go_quiet (fail)
      go_wp2_with fail
      go_roundw
      case rel => exact ⟨k + 1, by omega, by go_num, below_drewN hV.out _⟩
      case measure => simp [intOf]; omega
    · obtain rfl : k = ls.length := by omega
      go_wp2_with fail
      clear c1 d1 c4 d4 HI1 HI2
      go_loopw [6] (fun i wr => ∃ k : Nat, k ≤ xs.length ∧ i = .int .i64 k ∧ Hid (Below w2.heap.size w2 wr)) (fun i _ => xs.length - (intOf i).toNat)
      case atStart => exact ⟨0, Nat.zero_le _, rfl, hV⟩
      case round =>
        rename World => U
        obtain ⟨k, hk, rfl, hU⟩ := hrel
        obtain ⟨hbw, hO1, hO2⟩ := HF.out U hU.out
        have c1 := hO1.four.c2
        have d1 := hO2.four.c2
        have c4 := hO1.lt
        have d4 := hO2.lt
        have HI1 := hideN (H1.out U hbw)
        have HI2 := hideN (H2.out U hbw)
        have HBU := hideN hbw
        clear hbw hO1 hO2
        by_cases hlt : k < xs.length
        · obtain ⟨b, off, hao, hcs⟩ : ∃ b off, aa = some ⟨b, off, none⟩ ∧ U.cell? ⟨b, off + k * 2, none⟩ = some (.int .i64 (xs.getD k (0, 0)).1) ∧ U.cell? ⟨b, off + k * 2 + 1, none⟩ = some (.int .i64 (xs.getD k (0, 0)).2) := by
            obtain ⟨ao', cap', he, h⟩ := HI1.out.isA
            obtain ⟨b, off, ha, hc⟩ := h (by intro e; subst e; simp at hlt)
            injection he with e1 e2 e3
            exact ⟨b, off, e1.trans ha, hc k hlt⟩
          obtain ⟨b', off', hao', hcs'⟩ : ∃ b off, aa' = some ⟨b, off, none⟩ ∧ U.cell? ⟨b, off + k * 2, none⟩ = some (.int .i64 (xs.getD k (0, 0)).1) ∧ U.cell? ⟨b, off + k * 2 + 1, none⟩ = some (.int .i64 (xs.getD k (0, 0)).2) := by
            obtain ⟨ao', cap', he, h⟩ := HI2.out.isA
            obtain ⟨b, off, ha, hc⟩ := h (by intro e; subst e; simp at hlt)
            injection he with e1 e2 e3
            exact ⟨b, off, e1.trans ha, hc k hlt⟩
          subst hao
          subst hao'
          obtain ⟨e1, e2⟩ := hcs
          obtain ⟨e3, e4⟩ := hcs'
          generalize (xs.getD k (0, 0)).1 = x at *
          generalize (xs.getD k (0, 0)).2 = y at *
          go_wp2_with fail
          go_quiet (fail)
          go_wp2_with fail
          go_roundw
          case rel => exact ⟨k + 1, by omega, by go_num, below_drewN hU.out _⟩
          case measure => simp [intOf]; omega
        · obtain rfl : k = xs.length := by omega
          go_wp2_with fail
          go_ret
          exact ⟨rfl, HBU.out⟩

end Go.Proofs.Ytbdjdgamnnifjaa

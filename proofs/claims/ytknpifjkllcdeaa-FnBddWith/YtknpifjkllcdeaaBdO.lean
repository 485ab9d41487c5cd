/-
  Diagrams: BddOf of the program and of the model, at every argument.
-/
import Derived.Test.YtknpifjkllcdeaaBdS
import Derived.Test.YtknpifjkllcdeaaBitsG
import Derived.Deep.QuietTactic
import Derived.BigQuiet
namespace Go.Proofs.Ytknpifjkllcdeaa
open Go.RowKit Go.Deep
set_option linter.unusedVariables false

attribute [local go_sem] Oper.semAt_some

/-- Whether there is a diagram: of so many variables, and as long a table. -/
def bddFits (vars : Int) (m : Nat) : Bool := decide (0 ≤ vars) && (decide (vars ≤ 6) && decide (m = 2 ^ vars.toNat))

/-- The answer's parts. -/
def ofVars (vars : Int) (t : List Bool) : Int := if bddFits vars t.length = true then vars else 0
def ofNodes (vars : Int) (t : List Bool) : List Nd := if bddFits vars t.length = true then (drawB vars.toNat 0 t []).1 else []
def ofRoot (vars : Int) (t : List Bool) : Int := if bddFits vars t.length = true then (drawB vars.toNat 0 t []).2 else 0

def OfPost (vars : Int) (t : List Bool) (w : World) (e : Ending) (w' : World) : Prop :=
  ∃ aa n ca, e = .returned (.tuple #[.agg #[.int .i64 (ofVars vars t), .slice aa n ca, .int .i64 (ofRoot vars t)], .bool (bddFits vars t.length)]) ∧ (ofNodes vars t).length = n ∧ w'.ownsRow w.heap.size 50 3 (.slice aa n ca) n (ndV (ofNodes vars t)) ∧ Below w.heap.size w w'

theorem ofPost_no {vars : Int} {t : List Bool} (h : bddFits vars t.length = false) : ofVars vars t = 0 ∧ ofNodes vars t = [] ∧ ofRoot vars t = 0 := by
  unfold ofVars ofNodes ofRoot
  simp [h]

set_option maxHeartbeats 400000 in
theorem l1In_any (x lo hi : Int) (w : World) : Calls Try.prog 60 #[.int .i64 x, .int .i64 lo, .int .i64 hi] w fun e w' => e = .returned (.bool (decide (lo ≤ x) && decide (x ≤ hi))) ∧ w' = w := by
  by_cases h1 : lo ≤ x
  · have d1 : decide (lo ≤ x) = true := by simpa using h1
    go_enter Try.func60, Try.ntmps60
    go_wp2
    go_ret
    exact ⟨by rw [d1]; rfl, rfl⟩
  · have d1 : decide (lo ≤ x) = false := by simpa using h1
    go_enter Try.func60, Try.ntmps60
    go_wp2
    go_ret
    exact ⟨rfl, rfl⟩

set_option maxHeartbeats 1000000 in
theorem l11Size_any (n : Nat) (w : World) (h : n ≤ 6) : Calls Try.prog 61 #[.int .i64 (n : Int)] w fun e w' => e = .returned (.int .i64 ((2 ^ n : Nat) : Int)) ∧ w' = w := by
  have HN : Hid (2 ^ n ≤ 64) := by show _ ≤ 2 ^ 6; exact Nat.pow_le_pow_right (by decide) h
  obtain ⟨N, hN⟩ : ∃ N, 2 ^ n = N := ⟨_, rfl⟩
  rw [hN] at HN ⊢
  have HNN := hideN hN
  clear hN
  go_enter Try.func61, Try.ntmps61
  go_wp2
  go_loop [0, 3] (fun v p => ∃ a q : Nat, a ≤ 6 ∧ v = .int .i64 (a : Int) ∧ p = .int .i64 (q : Int) ∧ Hid (q * 2 ^ a = N)) (fun v _ => (intOf v).toNat)
  case atStart => exact ⟨n, 1, h, rfl, rfl, by show 1 * 2 ^ n = N; rw [Nat.one_mul]; exact HNN.out⟩
  case round =>
    obtain ⟨a, q, ha, rfl, rfl, hq⟩ := hrel
    by_cases hlt : 0 < a
    · obtain ⟨a, rfl⟩ : ∃ a', a = a' + 1 := ⟨a - 1, by omega⟩
      have hq2 : Hid ((q * 2) * 2 ^ a = N) := by show _ = _; rw [← hq.out, Nat.pow_succ, Nat.mul_assoc, Nat.mul_comm 2]
      have hq64 : q * 2 ≤ 64 := by
        have h1 := hq2.out
        have h2 : 1 ≤ 2 ^ a := Nat.one_le_two_pow
        have h3 : q * 2 * 1 ≤ q * 2 * 2 ^ a := Nat.mul_le_mul_left _ h2
        have h4 := HN.out
        omega
      clear hq
      go_wp2
      go_round
      case rel => exact ⟨a, q * 2, by omega, by go_num, by go_num, hq2⟩
      case measure => simp [intOf]
    · obtain rfl : a = 0 := by omega
      have hqN : q = N := by have h1 := hq.out; simpa using h1
      subst hqN
      clear hq HNN
      go_wp2
      go_ret
      exact ⟨rfl, rfl⟩

/-- The model's diagram of a table. -/
theorem l11Of_any (n Bt off cap m : Nat) (t : List Bool) (w : World) (hn6 : n ≤ 6) (ht : t.length = m) (hm : m = 2 ^ n) (hT : Tab w Bt off cap t) (hBt : Bt < w.heap.size) :
    Calls Try.prog 62 #[.int .i64 (n : Int), .slice (some ⟨Bt, off, none⟩) m cap] w (BddPost n (drawB n 0 t []).1 (drawB n 0 t []).2 w) := by
  have HT := hideN hT
  have HT2 := hideN ht
  have HM := hideN hm
  clear hT ht hm
  go_enter Try.func62, Try.ntmps62
  go_wp2_with fail
  have hQ : BlkD ((w.alloc (.cells #[.int .i64 0, .slice none 0 0, .int .i64 0] 25)).alloc (.cells #[] 50)) w.heap.size (.int .i64 0) (.slice none 0 0) (.int .i64 0) := (BlkD.new _ _ _ _).below (belOne _ _)
  have hbl : Below w.heap.size w ((w.alloc (.cells #[.int .i64 0, .slice none 0 0, .int .i64 0] 25)).alloc (.cells #[] 50)) := belNext (belOne _ _) (belOne _ _)
  have hsz : ((w.alloc (.cells #[.int .i64 0, .slice none 0 0, .int .i64 0] 25)).alloc (.cells #[] 50)).heap.size = w.heap.size + 2 := by simp
  have hrw : ((w.alloc (.cells #[.int .i64 0, .slice none 0 0, .int .i64 0] 25)).alloc (.cells #[] 50)).ownsRow (w.heap.size + 1) 50 3 (.slice (some ⟨w.heap.size + 1, 0, none⟩) 0 0) 0 (ndV []) := by
    have h := World.alloc_heap_new (w.alloc (.cells #[.int .i64 0, .slice none 0 0, .int .i64 0] 25)) (.cells #[] 50)
    rw [World.size_alloc] at h
    exact ⟨rfl, .inr ⟨w.heap.size + 1, 0, #[], rfl, Nat.le_refl _, h, Nat.le_refl _, by simp, by simp, by simp [ndV]⟩⟩
  generalize ((w.alloc (.cells #[.int .i64 0, .slice none 0 0, .int .i64 0] 25)).alloc (.cells #[] 50)) = W3 at *
  refine (l11Build_any (w.heap.size + 1) Bt (by omega) n 0 off cap m 0 0 t (some ⟨w.heap.size + 1, 0, none⟩) [] W3 0 rfl (by omega) HT2.out HM.out (HT.out.below hBt hbl) rfl hrw (fun p hp => by simp at hp) (by have : 2 ^ n ≤ 2 ^ 6 := Nat.pow_le_pow_right (by decide) hn6; omega) (by omega)).mono ?_
  rintro e w1 ⟨aa1, n1, ca1, rfl, hn1, hR1, hb1, hF1⟩
  generalize (drawB n 0 t []).2 = x at *
  generalize (drawB n 0 t []).1 = l at *
  have hQ1 : BlkD w1 w.heap.size (.int .i64 0) (.slice none 0 0) (.int .i64 0) := (hb1.block _ (by omega)).trans hQ
  have m0 := hQ1.c0
  have m1 := hQ1.c1
  have m2 := hQ1.c2
  have m3 := hQ1.f 0
  have m4 := hQ1.f 1
  have m5 := hQ1.f 2
  have m6 := hQ1.lt
  have HQ2 := hideN (hQ1.set (.int .i64 (n : Int)) (.slice aa1 n1 ca1) (.int .i64 x))
  have HN1 := hideN hn1
  have HR : Hid ((set3 w1 w.heap.size (.int .i64 (n : Int)) (.slice aa1 n1 ca1) (.int .i64 x)).ownsRow w.heap.size 50 3 (.slice aa1 n1 ca1) n1 (ndV l)) :=
    row_base (row_of_block hR1 (fun k e => set3_other _ _ _ (by have := (World.ownsRow.lt hR1 k e).1; omega))) (by omega)
  have HBE : Hid (Below w.heap.size w (set3 w1 w.heap.size (.int .i64 (n : Int)) (.slice aa1 n1 ca1) (.int .i64 x))) := set3_below (hbl.trans (hb1.mono (by omega))) (Nat.le_refl _) _ _ _
  clear hR1 hb1 hQ1 hQ hbl hrw hn1 hsz hF1
  go_wp2
  have q := HQ2.out
  have u0 := q.c0
  have u1 := q.c1
  have u2 := q.c2
  unfold set3 at u0 u1 u2
  refine bodyPost_ret (v := .agg #[.int .i64 (n : Int), .slice aa1 n1 ca1, .int .i64 x]) (by simp [results, Try.results62, go_sem, u0, u1, u2]) rfl ⟨aa1, n1, ca1, rfl, HN1.out, HR.out, HBE.out⟩

theorem fits_split (vars : Int) (m : Nat) : vars < 0 ∨ 6 < vars ∨ ∃ n : Nat, n ≤ 6 ∧ vars = (n : Int) := by
  by_cases h0 : vars < 0
  · exact .inl h0
  · by_cases h1 : 6 < vars
    · exact .inr (.inl h1)
    · exact .inr (.inr ⟨vars.toNat, by omega, by omega⟩)

theorem two_wrap : ∀ n : Nat, n ≤ 6 → wrap64 ((2 : Int) ^ n) = ((2 ^ n : Nat) : Int) := by
  intro n hn
  have h : ∀ m : Fin 7, wrap64 ((2 : Int) ^ m.val) = ((2 ^ m.val : Nat) : Int) := by decide +kernel
  exact h ⟨n, by omega⟩

set_option maxRecDepth 100000 in
set_option maxHeartbeats 4000000 in
theorem implBddOf_any (vars : Int) (Bt off cap m : Nat) (t : List Bool) (w : World) (ht : t.length = m) (hm : m ≤ 1048576) (hT : Tab w Bt off cap t) (hBt : Bt < w.heap.size) :
    Calls Try.prog 17 #[.int .i64 vars, .slice (some ⟨Bt, off, none⟩) m cap] w (OfPost vars t w) := by
  have HT := hideN hT
  have HT2 := hideN ht
  have hQ : BlkD (w.alloc (.cells #[.int .i64 0, .slice none 0 0, .int .i64 0] 25)) w.heap.size (.int .i64 0) (.slice none 0 0) (.int .i64 0) := BlkD.new _ _ _ _
  have HQ := hideN hQ
  have HBL : Hid (Below w.heap.size w (w.alloc (.cells #[.int .i64 0, .slice none 0 0, .int .i64 0] 25))) := belOne _ _
  have HNO : Hid (bddFits vars m = false → OfPost vars t w (.returned (.tuple #[.agg #[.int .i64 0, .slice none 0 0, .int .i64 0], .bool false])) (w.alloc (.cells #[.int .i64 0, .slice none 0 0, .int .i64 0] 25))) := fun h => by
    rw [← ht] at h
    obtain ⟨e1, e2, e3⟩ := ofPost_no h
    refine ⟨none, 0, 0, by rw [e1, e3, h], by rw [e2]; rfl, ?_, belOne _ _⟩
    rw [e2]
    exact World.ownsRow_nil _ _ _ _
  clear hT ht hQ
  rcases fits_split vars m with h | h | ⟨n, hn6, rfl⟩
  · have d0 : decide (vars < 0) = true := by simpa using h
    have hf : bddFits vars m = false := by unfold bddFits; simp; omega
    go_enter Try.func17, Try.ntmps17
    go_wp2_with fail
    refine bodyPost_ret (v := .tuple #[.agg #[.int .i64 0, .slice none 0 0, .int .i64 0], .bool false]) (by simp [results, Try.results17, go_sem]) rfl (HNO.out hf)
  · have d0 : decide (vars < 0) = false := by simp; omega
    have d1 : decide (6 < vars) = true := by simpa using h
    have hf : bddFits vars m = false := by unfold bddFits; simp; omega
    go_enter Try.func17, Try.ntmps17
    go_wp2_with fail
    refine bodyPost_ret (v := .tuple #[.agg #[.int .i64 0, .slice none 0 0, .int .i64 0], .bool false]) (by simp [results, Try.results17, go_sem]) rfl (HNO.out hf)
  · have d0 : decide ((n : Int) < 0) = false := by simp
    have d1 : decide (6 < (n : Int)) = false := by simp; omega
    have hw := two_wrap n hn6
    obtain ⟨N, hN⟩ : ∃ N, 2 ^ n = N := ⟨_, rfl⟩
    rw [hN] at hw
    have HNN := hideN hN
    clear hN
    by_cases hmN : m = N
    · subst hmN
      go_enter Try.func17, Try.ntmps17
      go_wp2_with fail
      refine (drawnOf_any n Bt off cap m t _ hn6 HT2.out HNN.out.symm (HT.out.below hBt HBL.out) (by simp; omega)).mono ?_
      rintro e w1 ⟨aa, m1, ca, rfl, hm1, hr1, hb1⟩
      have hq1 : BlkD w1 w.heap.size (.int .i64 0) (.slice none 0 0) (.int .i64 0) := HQ.out.below hb1
      have m0 := hq1.c0
      have m1' := hq1.c1
      have m2 := hq1.c2
      have m3 := hq1.f 0
      have m4 := hq1.f 1
      have m5 := hq1.f 2
      have m6 := hq1.lt
      have q := hq1.set (.int .i64 (n : Int)) (.slice aa m1 ca) (.int .i64 (drawB n 0 t []).2)
      have HQ2 := hideN q
      have HFI : Hid (OfPost (n : Int) t w (.returned (.tuple #[.agg #[.int .i64 (n : Int), .slice aa m1 ca, .int .i64 (drawB n 0 t []).2], .bool true])) (set3 w1 w.heap.size (.int .i64 (n : Int)) (.slice aa m1 ca) (.int .i64 (drawB n 0 t []).2))) := by
        have hf : bddFits (n : Int) t.length = true := by unfold bddFits; simp [HT2.out, HNN.out]; omega
        refine ⟨aa, m1, ca, ?_, ?_, ?_, set3_below (belNext HBL.out hb1) (Nat.le_refl _) _ _ _⟩
        · unfold ofVars ofRoot; rw [hf, if_pos rfl, if_pos rfl, Int.toNat_natCast]
        · unfold ofNodes; rw [if_pos hf, Int.toNat_natCast]; exact hm1
        · unfold ofNodes; rw [if_pos hf, Int.toNat_natCast]
          exact row_base (row_of_block hr1 (fun k e => set3_other _ _ _ (by have := (World.ownsRow.lt hr1 k e).1; rw [World.size_alloc] at this; omega))) (by simp)
      generalize (drawB n 0 t []).2 = x at *
      clear hr1 hb1 hq1 q hm1
      go_wp2_with fail
      have q := HQ2.out
      have u0 := q.c0
      have u1 := q.c1
      have u2 := q.c2
      unfold set3 at u0 u1 u2
      refine bodyPost_ret (v := .tuple #[.agg #[.int .i64 (n : Int), .slice aa m1 ca, .int .i64 x], .bool true]) (by simp [results, Try.results17, go_sem, u0, u1, u2]) rfl HFI.out
    · have hE : ((m : Int) == (N : Int)) = false := by simp; omega
      have hf : bddFits (n : Int) m = false := by unfold bddFits; simp [HNN.out, hmN]
      go_enter Try.func17, Try.ntmps17
      go_wp2_with fail
      refine bodyPost_ret (v := .tuple #[.agg #[.int .i64 0, .slice none 0 0, .int .i64 0], .bool false]) (by simp [results, Try.results17, go_sem]) rfl (HNO.out hf)

set_option maxRecDepth 100000 in
set_option maxHeartbeats 4000000 in
theorem specBddOf_any (vars : Int) (Bt off cap m : Nat) (t : List Bool) (w : World) (ht : t.length = m) (hm : m ≤ 1048576) (hT : Tab w Bt off cap t) (hBt : Bt < w.heap.size) :
    Calls Try.prog 15 #[.int .i64 vars, .slice (some ⟨Bt, off, none⟩) m cap] w (OfPost vars t w) := by
  have HT := hideN hT
  have HT2 := hideN ht
  have hQ : BlkD (w.alloc (.cells #[.int .i64 0, .slice none 0 0, .int .i64 0] 25)) w.heap.size (.int .i64 0) (.slice none 0 0) (.int .i64 0) := BlkD.new _ _ _ _
  have HQ := hideN hQ
  have HBL : Hid (Below w.heap.size w (w.alloc (.cells #[.int .i64 0, .slice none 0 0, .int .i64 0] 25))) := belOne _ _
  have HNO : Hid (bddFits vars m = false → OfPost vars t w (.returned (.tuple #[.agg #[.int .i64 0, .slice none 0 0, .int .i64 0], .bool false])) (w.alloc (.cells #[.int .i64 0, .slice none 0 0, .int .i64 0] 25))) := fun h => by
    rw [← ht] at h
    obtain ⟨e1, e2, e3⟩ := ofPost_no h
    refine ⟨none, 0, 0, by rw [e1, e3, h], by rw [e2]; rfl, ?_, belOne _ _⟩
    rw [e2]
    exact World.ownsRow_nil _ _ _ _
  clear hT ht hQ
  by_cases hin : 0 ≤ vars ∧ vars ≤ 6
  case neg =>
    have hd : (decide ((0 : Int) ≤ vars) && decide (vars ≤ 6)) = false := by simp; omega
    have hf : bddFits vars m = false := by unfold bddFits; simp; omega
    go_enter Try.func15, Try.ntmps15
    go_wp2_with fail
    refine (l1In_any vars 0 6 _).mono ?_
    rintro e w' ⟨he, hw'⟩
    rw [hd] at he
    subst he
    obtain rfl := hw'.symm
    go_wp2_with fail
    refine bodyPost_ret (v := .tuple #[.agg #[.int .i64 0, .slice none 0 0, .int .i64 0], .bool false]) (by simp [results, Try.results15, go_sem]) rfl (HNO.out hf)
  case pos =>
    obtain ⟨n, rfl⟩ : ∃ n : Nat, vars = (n : Int) := ⟨vars.toNat, by omega⟩
    have hn6 : n ≤ 6 := by omega
    have hd : (decide ((0 : Int) ≤ (n : Int)) && decide ((n : Int) ≤ 6)) = true := by simp; omega
    have HSZ := hideN (fun W => l11Size_any n W hn6)
    obtain ⟨N, hN⟩ : ∃ N, 2 ^ n = N := ⟨_, rfl⟩
    rw [hN] at HSZ
    have HNN := hideN hN
    clear hN hin
    by_cases hmN : m = N
    · subst hmN
      go_enter Try.func15, Try.ntmps15
      go_wp2_with fail
      refine (l1In_any (n : Int) 0 6 _).mono ?_
      rintro e w' ⟨he, hw'⟩
      rw [hd] at he
      subst he
      obtain rfl := hw'.symm
      go_wp2_with fail
      refine (HSZ.out _).mono ?_
      rintro e w' ⟨rfl, hw'⟩
      obtain rfl := hw'.symm
      go_wp2_with fail
      refine (l11Of_any n Bt off cap m t _ hn6 HT2.out HNN.out.symm (HT.out.below hBt HBL.out) (by simp; omega)).mono ?_
      rintro e w1 ⟨aa, m1, ca, rfl, hm1, hr1, hb1⟩
      have hq1 : BlkD w1 w.heap.size (.int .i64 0) (.slice none 0 0) (.int .i64 0) := HQ.out.below hb1
      have m0 := hq1.c0
      have m1' := hq1.c1
      have m2 := hq1.c2
      have m3 := hq1.f 0
      have m4 := hq1.f 1
      have m5 := hq1.f 2
      have m6 := hq1.lt
      have q := hq1.set (.int .i64 (n : Int)) (.slice aa m1 ca) (.int .i64 (drawB n 0 t []).2)
      have HQ2 := hideN q
      have HFI : Hid (OfPost (n : Int) t w (.returned (.tuple #[.agg #[.int .i64 (n : Int), .slice aa m1 ca, .int .i64 (drawB n 0 t []).2], .bool true])) (set3 w1 w.heap.size (.int .i64 (n : Int)) (.slice aa m1 ca) (.int .i64 (drawB n 0 t []).2))) := by
        have hf : bddFits (n : Int) t.length = true := by unfold bddFits; simp [HT2.out, HNN.out]; omega
        refine ⟨aa, m1, ca, ?_, ?_, ?_, set3_below (belNext HBL.out hb1) (Nat.le_refl _) _ _ _⟩
        · unfold ofVars ofRoot; rw [hf, if_pos rfl, if_pos rfl, Int.toNat_natCast]
        · unfold ofNodes; rw [if_pos hf, Int.toNat_natCast]; exact hm1
        · unfold ofNodes; rw [if_pos hf, Int.toNat_natCast]
          exact row_base (row_of_block hr1 (fun k e => set3_other _ _ _ (by have := (World.ownsRow.lt hr1 k e).1; rw [World.size_alloc] at this; omega))) (by simp)
      generalize (drawB n 0 t []).2 = x at *
      clear hr1 hb1 hq1 q hm1
      go_wp2_with fail
      have q := HQ2.out
      have u0 := q.c0
      have u1 := q.c1
      have u2 := q.c2
      unfold set3 at u0 u1 u2
      refine bodyPost_ret (v := .tuple #[.agg #[.int .i64 (n : Int), .slice aa m1 ca, .int .i64 x], .bool true]) (by simp [results, Try.results15, go_sem, u0, u1, u2]) rfl HFI.out
    · have hE : ((m : Int) == (N : Int)) = false := by simp; omega
      have hf : bddFits (n : Int) m = false := by unfold bddFits; simp [HNN.out, hmN]
      go_enter Try.func15, Try.ntmps15
      go_wp2_with fail
      refine (l1In_any (n : Int) 0 6 _).mono ?_
      rintro e w' ⟨he, hw'⟩
      rw [hd] at he
      subst he
      obtain rfl := hw'.symm
      go_wp2_with fail
      refine (HSZ.out _).mono ?_
      rintro e w' ⟨rfl, hw'⟩
      obtain rfl := hw'.symm
      go_wp2_with fail
      refine bodyPost_ret (v := .tuple #[.agg #[.int .i64 0, .slice none 0 0, .int .i64 0], .bool false]) (by simp [results, Try.results15, go_sem]) rfl (HNO.out hf)

end Go.Proofs.Ytknpifjkllcdeaa

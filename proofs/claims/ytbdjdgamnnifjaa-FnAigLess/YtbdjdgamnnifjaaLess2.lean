/-
  A circuit without what is needless: the model's l3Map and l3And.
-/
import Derived.Test.YtbdjdgamnnifjaaLess1
import Derived.Test.YtbdjdgamnnifjaaRow2
import Derived.Test.YtbdjdgamnnifjaaRowI
import Derived.Test.YtbdjdgamnnifjaaAigF
namespace Go.Proofs.Ytbdjdgamnnifjaa
open Go.RowKit Go.Deep
set_option linter.unusedVariables false

set_option maxHeartbeats 1000000 in
theorem l3Map_any (v : Value) (to : List Int) (x : Int) (n m : Nat) (w : World) (hv : IsInts w v to) (ht : ToOk to n m) (h0 : 0 ≤ x) (h1 : x < 2 * (n : Int)) (hn : n ≤ 100) (hm : m ≤ 200) :
    Calls Try.prog 106 #[v, .int .i64 x] w fun e w' => e = .returned (.int .i64 (mapL to x)) ∧ w' = w := by
  obtain ⟨ao, cap, rfl, hv⟩ := hv
  obtain ⟨b, off, rfl, hc⟩ := hv (by intro e; subst e; have := ht.len; simp at this; omega)
  obtain ⟨k, r, hx, hr0, hr1⟩ : ∃ (k : Nat) (r : Int), x = 2 * (k : Int) + r ∧ 0 ≤ r ∧ r ≤ 1 := ⟨(x / 2).toNat, x % 2, by omega, by omega, by omega⟩
  have hkn : k < n := by omega
  have hd := hc k (by rw [ht.len]; exact hkn)
  have hval := ht.val k hkn
  have hlen := ht.len
  have e1 : x / 2 = (k : Int) := by omega
  have e2 : x % 2 = r := by omega
  have hml : mapL to x = if r = 1 then opp (to.getD k 0) else to.getD k 0 := by unfold mapL; rw [e1, e2, Int.toNat_natCast]
  have et : x.tdiv 2 = (k : Int) := by rw [Int.tdiv_eq_ediv_of_nonneg h0]; exact e1
  have er : x.tmod 2 = r := by rw [Int.tmod_eq_emod_of_nonneg h0]; exact e2
  clear hc hv hx
  generalize to.getD k 0 = y at *
  rw [hlen]
  obtain ⟨hy0, hy1⟩ := hval
  rcases (show r = 0 ∨ r = 1 by omega) with e | e
  · subst e
    rw [if_neg (by omega)] at hml
    rw [hml]
    clear hml hlen
    go_enter Try.func106, Try.ntmps106
    go_wp2
    go_ret
    exact ⟨rfl, rfl⟩
  · subst e
    rw [if_pos rfl] at hml
    rw [hml]
    obtain ⟨s, hs, hs0, hs1⟩ : ∃ s : Int, y % 2 = s ∧ 0 ≤ s ∧ s ≤ 1 := ⟨y % 2, rfl, by omega, by omega⟩
    rcases (show s = 0 ∨ s = 1 by omega) with e | e
    · subst e
      have ho : opp y = y + 1 := by unfold opp; rw [if_pos hs]
      rw [ho]
      clear hml hlen ho
      go_enter Try.func106, Try.ntmps106
      go_wp2
      go_ret
      exact ⟨rfl, rfl⟩
    · subst e
      have ho : opp y = y - 1 := by unfold opp; rw [if_neg (by omega)]
      have hy2 : 1 ≤ y := by omega
      rw [ho]
      clear hml hlen ho
      go_enter Try.func106, Try.ntmps106
      go_wp2
      go_ret
      exact ⟨rfl, rfl⟩

theorem whereA_hit {ands : List (Int × Int)} {p : Int × Int} {k : Nat} (hk : k < ands.length) (h : ands.getD k (0, 0) = p) (hno : ∀ i, i < k → ands.getD i (0, 0) ≠ p) : whereA ands p = k := by
  unfold whereA
  have e : ands[k] = p := by rw [← h]; simp [List.getD, hk]
  refine (List.findIdx_eq hk).2 ⟨by simpa using e, fun j hj => ?_⟩
  have := hno j hj
  have hj' : j < ands.length := by omega
  simpa [List.getD, hj'] using this

theorem whereA_miss {ands : List (Int × Int)} {p : Int × Int} (hno : ∀ i, i < ands.length → ands.getD i (0, 0) ≠ p) : whereA ands p = ands.length := by
  unfold whereA
  refine List.findIdx_eq_length.2 fun x hx => ?_
  obtain ⟨i, hi, rfl⟩ := List.mem_iff_getElem.1 hx
  have := hno i hi
  simpa [List.getD, hi] using this

set_option maxRecDepth 100000 in
set_option maxHeartbeats 2000000 in
/-- The two in order. -/
theorem l3And_le (v : Value) (ands : List (Int × Int)) (F : Nat) (p q a b : Int) (w : World) (hv : IsAnds w v ands) (hl : ands.length ≤ 100) (hF : F ≤ 100) (hpq : (p = a ∧ q = b ∧ a ≤ b) ∨ (p = b ∧ q = a ∧ a < b)) (ha : 0 ≤ a) (hb : b ≤ 1000) :
    Calls Try.prog 107 #[v, .int .i64 (F : Int), .int .i64 p, .int .i64 q] w fun e w' => e = .returned (.int .i64 (andL F ands a b)) ∧ w' = w := by
  have HA : Hid (IsAnds w v ands) := hv
  obtain ⟨ao, cap, rfl, -⟩ := hv
  have hab : a ≤ b := by omega
  have ham : a.tmod 2 = a % 2 := Int.tmod_eq_emod_of_nonneg ha
  obtain ⟨r, hr⟩ : ∃ r, a % 2 = r := ⟨_, rfl⟩
  have hr0 : 0 ≤ r := by omega
  have hr1 : r ≤ 1 := by omega
  rw [hr] at ham
  have HR : Hid (andL F ands a b = if a = 0 ∨ (a + 1 = b ∧ r = 0) then 0 else if a = 1 ∨ a = b then b else if whereA ands (a, b) < ands.length then 2 * ((F : Int) + (whereA ands (a, b) : Int)) else -1) := by show _ = _; unfold andL; rw [hr]
  have hgo : (a = p ∧ b = q ∧ decide (b < a) = false) ∨ (b = p ∧ a = q ∧ decide (a < b) = true) := by
    rcases hpq with ⟨h1, h2, h3⟩ | ⟨h1, h2, h3⟩
    · exact .inl ⟨h1.symm, h2.symm, by simp; omega⟩
    · exact .inr ⟨h1.symm, h2.symm, by simp; omega⟩
  clear hpq
  by_cases c0 : a = 0 ∨ (a + 1 = b ∧ r = 0)
  · have HZ : Hid (andL F ands a b = 0) := by show _ = _; rw [HR.out, if_pos c0]
    by_cases d0 : a = 0
    · have e0 : (a == 0) = true := by simpa using d0
      clear c0 d0 HR
      rcases hgo with ⟨rfl, rfl, g⟩ | ⟨rfl, rfl, g⟩
      all_goals
        go_enter Try.func107, Try.ntmps107
        go_wp2
        go_ret
        exact ⟨ret_int HZ.out.symm, rfl⟩
    · obtain ⟨d1, d2⟩ : a + 1 = b ∧ r = 0 := by
        rcases c0 with h | h
        · exact absurd h d0
        · exact h
      have e0 : (a == 0) = false := by simpa using d0
      have e1 : (a + 1 == b) = true := by simpa using d1
      subst d2
      clear c0 d0 d1 HR
      rcases hgo with ⟨rfl, rfl, g⟩ | ⟨rfl, rfl, g⟩
      all_goals
        go_enter Try.func107, Try.ntmps107
        go_wp2
        go_ret
        exact ⟨ret_int HZ.out.symm, rfl⟩
  · have HR1 : Hid (andL F ands a b = if a = 1 ∨ a = b then b else if whereA ands (a, b) < ands.length then 2 * ((F : Int) + (whereA ands (a, b) : Int)) else -1) := by show _ = _; rw [HR.out, if_neg c0]
    have e0 : (a == 0) = false := by
      have : ¬ a = 0 := fun h => c0 (.inl h)
      simpa using this
    have e1 : ((a + 1 == b) && (r == 0)) = false := by
      cases h1 : (a + 1 == b)
      · rfl
      · cases h2 : (r == 0)
        · rfl
        · exact absurd (.inr ⟨by simpa using h1, by simpa using h2⟩) c0
    obtain ⟨t1, ht1⟩ : ∃ t, (a + 1 == b) = t := ⟨_, rfl⟩
    obtain ⟨t2, ht2⟩ : ∃ t, (r == 0) = t := ⟨_, rfl⟩
    rw [ht1, ht2] at e1
    have ht12 : t1 = false ∨ (t1 = true ∧ t2 = false) := by cases t1 <;> cases t2 <;> simp_all
    clear c0 HR e1
    by_cases c1 : a = 1 ∨ a = b
    · have HZ : Hid (andL F ands a b = b) := by show _ = _; rw [HR1.out, if_pos c1]
      have ho : (a == 1) = true ∨ ((a == 1) = false ∧ (a == b) = true) := by
        cases h1 : (a == 1)
        · refine .inr ⟨rfl, ?_⟩
          rcases c1 with h | h
          · subst h; simp at h1
          · simpa using h
        · exact .inl rfl
      clear c1 HR1
      rcases ht12 with rfl | ⟨rfl, rfl⟩ <;> rcases ho with e2 | ⟨e2, e3⟩ <;> rcases hgo with ⟨rfl, rfl, g⟩ | ⟨rfl, rfl, g⟩
      all_goals
        go_enter Try.func107, Try.ntmps107
        go_wp2
        go_ret
        exact ⟨ret_int HZ.out.symm, rfl⟩
    · have HR2 : Hid (andL F ands a b = if whereA ands (a, b) < ands.length then 2 * ((F : Int) + (whereA ands (a, b) : Int)) else -1) := by show _ = _; rw [HR1.out, if_neg c1]
      have e2 : (a == 1) = false := by
        have : ¬ a = 1 := fun h => c1 (.inl h)
        simpa using this
      have e3 : (a == b) = false := by
        have : ¬ a = b := fun h => c1 (.inr h)
        simpa using this
      clear c1 HR1
      rcases ht12 with rfl | ⟨rfl, rfl⟩ <;> rcases hgo with ⟨rfl, rfl, g⟩ | ⟨rfl, rfl, g⟩
      all_goals
        go_enter Try.func107, Try.ntmps107
        go_wp2
        go_loop [10] (fun i => ∃ k : Nat, k ≤ ands.length ∧ i = .int .i64 k ∧ Hid (∀ i, i < k → ands.getD i (0, 0) ≠ (a, b))) (fun i => ands.length - (intOf i).toNat)
        case atStart => exact ⟨0, Nat.zero_le _, rfl, fun i hi => by omega⟩
        case round =>
          obtain ⟨k, hk, rfl, hno⟩ := hrel
          by_cases hlt : k < ands.length
          · obtain ⟨bb, off, hao, hc1, hc2⟩ : ∃ bb off, ao = some ⟨bb, off, none⟩ ∧ w.cell? ⟨bb, off + k * 2, none⟩ = some (.int .i64 (ands.getD k (0, 0)).1) ∧ w.cell? ⟨bb, off + k * 2 + 1, none⟩ = some (.int .i64 (ands.getD k (0, 0)).2) := by
              obtain ⟨ao', cap', he, h⟩ := HA.out
              obtain ⟨bb, off, ha', hc⟩ := h (by intro e; subst e; simp at hlt)
              injection he with e1 e2 e3
              exact ⟨bb, off, e1.trans ha', hc k hlt⟩
            subst hao
            have HNX : Hid (ands.getD k (0, 0) ≠ (a, b) → ∀ i, i < k + 1 → ands.getD i (0, 0) ≠ (a, b)) := fun h i hi => by
              by_cases e : i = k
              · subst e; exact h
              · exact hno.out i (by omega)
            have HHT : Hid (ands.getD k (0, 0) = (a, b) → andL F ands a b = 2 * ((F : Int) + (k : Int))) := fun h => by rw [HR2.out, whereA_hit hlt h hno.out, if_pos hlt]
            generalize ands.getD k (0, 0) = pq at *
            obtain ⟨x, y⟩ := pq
            have hc1 : w.cell? ⟨bb, off + k * 2, none⟩ = some (.int .i64 x) := hc1
            have hc2 : w.cell? ⟨bb, off + k * 2 + 1, none⟩ = some (.int .i64 y) := hc2
            clear hno
            by_cases hxa : x = a
            · have f1 : (x == a) = true := by simpa using hxa
              by_cases hyb : y = b
              · have f2 : (y == b) = true := by simpa using hyb
                have HZ : Hid (andL F ands a b = 2 * ((F : Int) + (k : Int))) := HHT.out (by rw [hxa, hyb])
                clear hxa hyb
                go_wp2
                go_ret
                exact ⟨ret_int HZ.out.symm, rfl⟩
              · have f2 : (y == b) = false := by simpa using hyb
                have HN := hideN (HNX.out (fun h => hyb (congrArg Prod.snd h)))
                clear hxa hyb
                go_wp2
                go_round
                case rel => exact ⟨k + 1, by omega, by go_num, HN⟩
                case measure => simp [intOf]; omega
            · have f1 : (x == a) = false := by simpa using hxa
              have HN := hideN (HNX.out (fun h => hxa (congrArg Prod.fst h)))
              clear hxa
              go_wp2
              go_round
              case rel => exact ⟨k + 1, by omega, by go_num, HN⟩
              case measure => simp [intOf]; omega
          · obtain rfl : k = ands.length := by omega
            have HZ : Hid (andL F ands a b = -1) := by show _ = _; rw [HR2.out, whereA_miss hno.out, if_neg (by omega)]
            go_wp2
            go_ret
            exact ⟨ret_int HZ.out.symm, rfl⟩

theorem l3And_any (v : Value) (ands : List (Int × Int)) (F : Nat) (p q : Int) (w : World) (hv : IsAnds w v ands) (hl : ands.length ≤ 100) (hF : F ≤ 100) (hp : 0 ≤ p ∧ p ≤ 1000) (hq : 0 ≤ q ∧ q ≤ 1000) :
    Calls Try.prog 107 #[v, .int .i64 (F : Int), .int .i64 p, .int .i64 q] w fun e w' => e = .returned (.int .i64 (andL F ands (lo2 p q) (hi2 p q))) ∧ w' = w := by
  rcases lo_hi p q with ⟨e1, e2, e3⟩ | ⟨e1, e2, e3⟩
  · rw [e1, e2]; exact l3And_le v ands F p q p q w hv hl hF (.inl ⟨rfl, rfl, e3⟩) hp.1 hq.2
  · rw [e1, e2]; exact l3And_le v ands F p q q p w hv hl hF (.inr ⟨rfl, rfl, e3⟩) hq.1 hp.2

end Go.Proofs.Ytbdjdgamnnifjaa

/-
  Diagrams in their form: what the calls answer of them, and plain facts of two put together.
  Two diagrams and their opposites, plain facts.
-/
import Derived.Test.YtmkbcfiechoebaaBdPd
import Derived.Test.YtmkbcfiechoebaaBdTv
import Derived.Test.YtmkbcfiechoebaaBdRg
namespace Go.Proofs.Ytmkbcfiechoebaa
open Go.RowKit Go.Deep
set_option linter.unusedVariables false

theorem bdd_fits {V : Nat} {ns : List Nd} {root : Int} (h : bddB (V : Int) ns root = true) : V ≤ 6 ∧ (∀ p ∈ ns, FitN p) ∧ ns.length ≤ 64 ∧ 0 ≤ root ∧ root ≤ 65 := by
  obtain ⟨V', hVV, h6, hnn, hok, h0, h1⟩ := bdd_split h
  obtain rfl : V' = V := by omega
  exact ⟨h6, nodes_fit h6 hnn hok, hnn, h0, by omega⟩

theorem bdd_i64 {V : Nat} {ns : List Nd} {root : Int} (h : bddB (V : Int) ns root = true) : (∀ q ∈ ns, I64N q) ∧ I64 root := by
  obtain ⟨_, hf, _, h0, h1⟩ := bdd_fits h
  exact ⟨fun q hq => fit64n (hf q hq), by unfold I64; omega⟩

theorem twoB_ok {sg : ByteArray} {op : Bool → Bool → Bool} {V : Nat} {na nb : List Nd} {ra rb : Int} (ho : opOf sg = some op) (ha : bddB (V : Int) na ra = true) (hb : bddB (V : Int) nb rb = true) : twoB sg (V : Int) na ra (V : Int) nb rb = true := by
  unfold twoB; rw [ha, hb, ho]; simp

theorem twoB_split {sg : ByteArray} {va ra vb rb : Int} {na nb : List Nd} (h : twoB sg va na ra vb nb rb = true) : ∃ (V : Nat) (op : Bool → Bool → Bool), va = (V : Int) ∧ vb = (V : Int) ∧ opOf sg = some op ∧ bddB (V : Int) na ra = true ∧ bddB (V : Int) nb rb = true := by
  unfold twoB at h
  simp only [Bool.and_eq_true, decide_eq_true_eq] at h
  obtain ⟨h1, h2, h3, h4⟩ := h
  obtain ⟨V, rfl, h6, -⟩ := bdd_split h1
  obtain ⟨op, ho⟩ := Option.isSome_iff_exists.1 h4
  exact ⟨V, op, rfl, h3.symm, ho, h1, h3 ▸ h2⟩

theorem op_three {sg : ByteArray} {op : Bool → Bool → Bool} (ho : opOf sg = some op) : (sg = { data := #[38] } ∧ op = fun a b => a && b) ∨ (sg = { data := #[124] } ∧ op = fun a b => a || b) ∨ (sg = { data := #[61] } ∧ op = fun a b => a == b) := by
  unfold opOf at ho
  by_cases h1 : (sg.toList == [38]) = true
  · rw [if_pos h1] at ho
    injection ho with ho
    exact .inl ⟨sign_eq h1, ho.symm⟩
  · rw [if_neg h1] at ho
    by_cases h2 : (sg.toList == [124]) = true
    · rw [if_pos h2] at ho
      injection ho with ho
      exact .inr (.inl ⟨sign_eq h2, ho.symm⟩)
    · rw [if_neg h2] at ho
      by_cases h3 : (sg.toList == [61]) = true
      · rw [if_pos h3] at ho
        injection ho with ho
        exact .inr (.inr ⟨sign_eq h3, ho.symm⟩)
      · rw [if_neg h3] at ho
        cases ho
theorem op_facts {sg : ByteArray} {op : Bool → Bool → Bool} (ho : opOf sg = some op) : ((sg.toList == [38]) = true ∧ (sg.toList == [124]) = false ∧ (sg.toList == [61]) = false ∧ op = fun a b => a && b) ∨ ((sg.toList == [38]) = false ∧ (sg.toList == [124]) = true ∧ (sg.toList == [61]) = false ∧ op = fun a b => a || b) ∨ ((sg.toList == [38]) = false ∧ (sg.toList == [124]) = false ∧ (sg.toList == [61]) = true ∧ op = fun a b => a == b) := by
  unfold opOf at ho
  by_cases h1 : (sg.toList == [38]) = true
  · rw [if_pos h1] at ho
    injection ho with ho
    have e := eq_of_beq h1
    exact .inl ⟨h1, by rw [e]; decide, by rw [e]; decide, ho.symm⟩
  · rw [if_neg h1] at ho
    rw [Bool.not_eq_true] at h1
    by_cases h2 : (sg.toList == [124]) = true
    · rw [if_pos h2] at ho
      injection ho with ho
      have e := eq_of_beq h2
      exact .inr (.inl ⟨h1, h2, by rw [e]; decide, ho.symm⟩)
    · rw [if_neg h2] at ho
      rw [Bool.not_eq_true] at h2
      by_cases h3 : (sg.toList == [61]) = true
      · rw [if_pos h3] at ho
        injection ho with ho
        exact .inr (.inr ⟨h1, h2, h3, ho.symm⟩)
      · rw [if_neg h3] at ho
        cases ho
theorem op_swap {sg : ByteArray} {op : Bool → Bool → Bool} (ho : opOf sg = some op) : ∀ x y, op x y = op y x := by
  rcases op_three ho with ⟨_, rfl⟩ | ⟨_, rfl⟩ | ⟨_, rfl⟩
  · exact Bool.and_comm
  · exact Bool.or_comm
  · intro x y; cases x <;> cases y <;> rfl

section
variable {V : Nat} {na nb : List Nd} {ra rb : Int} {op : Bool → Bool → Bool}

theorem twoT_len : (twoT op (V : Int) na ra nb rb).length = 2 ^ V := by rw [twoT_eq, tabF_length]
theorem two_ok (ha : bddB (V : Int) na ra = true) : bddB (V : Int) (drawB V 0 (twoT op (V : Int) na ra nb rb) []).1 (drawB V 0 (twoT op (V : Int) na ra nb rb) []).2 = true := bdd_draw V _ (bdd_fits ha).1 twoT_len
theorem two_swap (hc : ∀ x y, op x y = op y x) : twoT op (V : Int) nb rb na ra = twoT op (V : Int) na ra nb rb := by
  rw [twoT_eq, twoT_eq]
  exact tabF_congr (fun p hp => hc _ _)
theorem two_get {p : Nat} (hp : p < 2 ^ V) : (tabN V (drawB V 0 (twoT op (V : Int) na ra nb rb) []).1 (drawB V 0 (twoT op (V : Int) na ra nb rb) []).2).getD p false = op ((tabN V na ra).getD p false) ((tabN V nb rb).getD p false) := by
  rw [tab_draw V _ twoT_len, tabN_get V na ra p hp, tabN_get V nb rb p hp, twoT_eq, tabF_at hp]
theorem two_id (ha : bddB (V : Int) na ra = true) (hi : ∀ x, op x x = x) : drawB V 0 (twoT op (V : Int) na ra na ra) [] = (na, ra) := by
  have e : twoT op (V : Int) na ra na ra = tabN V na ra := by
    rw [twoT_eq, tabN_tabF']
    exact tabF_congr (fun p hp => hi _)
  rw [e, bdd_form ha]
theorem two_all (hi : ∀ x, op x x = true) : drawB V 0 (twoT op (V : Int) na ra na ra) [] = ([], 1) := by
  refine drawB_same V 0 _ [] true twoT_len (fun i hi2 => ?_)
  rw [twoT_len] at hi2
  rw [twoT_eq, tabF_at hi2]
  exact hi _
end

section
variable {V : Nat} {na nb : List Nd} {ra rb : Int} {op : Bool → Bool → Bool} {sg : ByteArray} {ao bo : Option Addr} {n cap n2 cap2 : Nat} {w : World}

theorem implTwo_ok (ho : opOf sg = some op) (hN : Nds w ao n cap na) (hN2 : Nds w bo n2 cap2 nb) (ha : bddB (V : Int) na ra = true) (hb : bddB (V : Int) nb rb = true) :
    Calls Try.prog 23 #[.string sg, .agg #[.int .i64 (V : Int), .slice ao n cap, .int .i64 ra], .agg #[.int .i64 (V : Int), .slice bo n2 cap2, .int .i64 rb]] w (TwoPost ((V : Int), (drawB V 0 (twoT op (V : Int) na ra nb rb) []).1, (drawB V 0 (twoT op (V : Int) na ra nb rb) []).2) true w) := by
  have h := implBddTwo_any sg (V : Int) ra (V : Int) rb ao bo n cap n2 cap2 na nb w hN (bdd_i64 ha).1 (bdd_i64 ha).2 hN2 (bdd_i64 hb).1 (bdd_i64 hb).2
  rw [twoB_ok ho ha hb] at h
  unfold ansOf twoOp at h
  rw [ho, if_pos rfl, Int.toNat_natCast, Option.getD_some] at h
  exact h
theorem specTwo_ok (ho : opOf sg = some op) (hN : Nds w ao n cap na) (hN2 : Nds w bo n2 cap2 nb) (ha : bddB (V : Int) na ra = true) (hb : bddB (V : Int) nb rb = true) (hnl : n ≤ 4194304) (hnl2 : n2 ≤ 4194304) :
    Calls Try.prog 24 #[.string sg, .agg #[.int .i64 (V : Int), .slice ao n cap, .int .i64 ra], .agg #[.int .i64 (V : Int), .slice bo n2 cap2, .int .i64 rb]] w (TwoPost ((V : Int), (drawB V 0 (twoT op (V : Int) na ra nb rb) []).1, (drawB V 0 (twoT op (V : Int) na ra nb rb) []).2) true w) := by
  have h := specBddTwo_any sg (V : Int) ra (V : Int) rb ao bo n cap n2 cap2 na nb w hN (bdd_i64 ha).1 (bdd_i64 ha).2 hN2 (bdd_i64 hb).1 (bdd_i64 hb).2 hnl hnl2
  rw [twoB_ok ho ha hb] at h
  unfold ansOf twoOp at h
  rw [ho, if_pos rfl, Int.toNat_natCast, Option.getD_some] at h
  exact h
theorem implTable_ok (hN : Nds w ao n cap na) (ha : bddB (V : Int) na ra = true) :
    Calls Try.prog 17 #[.agg #[.int .i64 (V : Int), .slice ao n cap, .int .i64 ra]] w (TruthsPost (tabN V na ra) w) := by
  have h := implBddTable_any (V : Int) ra ao n cap na w hN (bdd_i64 ha).1 (bdd_i64 ha).2
  unfold tabS at h
  rw [ha, if_pos rfl, Int.toNat_natCast] at h
  exact h
theorem implNot_ok (hN : Nds w ao n cap na) (ha : bddB (V : Int) na ra = true) :
    Calls Try.prog 25 #[.agg #[.int .i64 (V : Int), .slice ao n cap, .int .i64 ra]] w (BddPost (V : Int) (drawB V 0 (notT (V : Int) na ra) []).1 (drawB V 0 (notT (V : Int) na ra) []).2 w) := by
  have h := implBddNot_any (V : Int) ra ao n cap na w hN (bdd_i64 ha).1 (bdd_i64 ha).2
  rw [ha] at h
  unfold AnsPost ansOf at h
  rw [if_pos rfl, Int.toNat_natCast] at h
  exact h
theorem implCount_ok (hN : Nds w ao n cap na) (ha : bddB (V : Int) na ra = true) :
    Calls Try.prog 26 #[.agg #[.int .i64 (V : Int), .slice ao n cap, .int .i64 ra]] w fun e w' => e = .returned (.int .i64 (countZ (V : Int) na ra)) ∧ Below w.heap.size w w' :=
  implBddCount_any (V : Int) ra ao n cap na w hN (bdd_i64 ha).1 (bdd_i64 ha).2
theorem rgBdd_ok {va : Int} (hN : Nds w ao n cap na) (hN2 : Nds w bo n2 cap2 na) (ha : (∀ p ∈ na, FitN p) ∧ na.length ≤ 64) :
    Calls Try.prog 14 #[.agg #[.int .i64 va, .slice ao n cap, .int .i64 ra], .agg #[.int .i64 va, .slice bo n2 cap2, .int .i64 ra]] w fun e w' => e = .returned (.bool true) ∧ Below w.heap.size w w' := by
  have h1 := hN.len
  have h2 := hN2.len
  have h := rgBdd_any va ra ra ao bo n n2 cap cap2 na na w hN hN2 ha.1 ha.1 (by omega) (by omega)
  have hdec : (decide (ra = ra) && decide (na = na)) = true := by simp
  rw [hdec] at h
  exact h
end

end Go.Proofs.Ytmkbcfiechoebaa

namespace Go.Proofs.Ytmkbcfiechoebaa
set_option linter.unusedVariables false

theorem count_parts {α : Type} (g h : α → Bool) (l : List α) : (l.map fun x => g x || h x).count true + (l.map fun x => g x && h x).count true = (l.map g).count true + (l.map h).count true := by
  induction l with
  | nil => rfl
  | cons a r ih =>
    simp only [List.map_cons, List.count_cons]
    cases g a <;> cases h a <;> simp <;> omega

theorem notT_eq (V : Nat) (ns : List Nd) (root : Int) : notT (V : Int) ns root = tabF V (fun ws => !(isN ns root ws)) (2 ^ V) := by unfold notT; rw [Int.toNat_natCast]
theorem notT_len2 (V : Nat) (ns : List Nd) (root : Int) : (notT (V : Int) ns root).length = 2 ^ V := by rw [notT_eq, tabF_length]

structure PartsF (V : Nat) (na : List Nd) (ra : Int) (nb : List Nd) (rb : Int) (lE : List Nd) (rE : Int) (lB : List Nd) (rB : Int) (lP : List Nd) (rP : Int) (lQ : List Nd) (rQ : Int) (lN : List Nd) (rN : Int) : Prop where
  okE : bddB (V : Int) lE rE = true
  okB : bddB (V : Int) lB rB = true
  okP : bddB (V : Int) lP rP = true
  okQ : bddB (V : Int) lQ rQ = true
  okN : bddB (V : Int) lN rN = true
  both : drawB V 0 (twoT (fun a b => a && b) (V : Int) lP rP lQ rQ) [] = (lN, rN)
  nots : drawB V 0 (notT (V : Int) lE rE) [] = (lN, rN)
  count : countZ (V : Int) lE rE + countZ (V : Int) lB rB = countZ (V : Int) na ra + countZ (V : Int) nb rb

theorem parts_facts {V : Nat} {na nb : List Nd} {ra rb : Int} (ha : bddB (V : Int) na ra = true) (hb : bddB (V : Int) nb rb = true) :
    PartsF V na ra nb rb (drawB V 0 (twoT (fun a b => a || b) (V : Int) na ra nb rb) []).1 (drawB V 0 (twoT (fun a b => a || b) (V : Int) na ra nb rb) []).2 (drawB V 0 (twoT (fun a b => a && b) (V : Int) na ra nb rb) []).1 (drawB V 0 (twoT (fun a b => a && b) (V : Int) na ra nb rb) []).2 (drawB V 0 (notT (V : Int) na ra) []).1 (drawB V 0 (notT (V : Int) na ra) []).2 (drawB V 0 (notT (V : Int) nb rb) []).1 (drawB V 0 (notT (V : Int) nb rb) []).2 (drawB V 0 (twoT (fun a b => a && b) (V : Int) (drawB V 0 (notT (V : Int) na ra) []).1 (drawB V 0 (notT (V : Int) na ra) []).2 (drawB V 0 (notT (V : Int) nb rb) []).1 (drawB V 0 (notT (V : Int) nb rb) []).2) []).1 (drawB V 0 (twoT (fun a b => a && b) (V : Int) (drawB V 0 (notT (V : Int) na ra) []).1 (drawB V 0 (notT (V : Int) na ra) []).2 (drawB V 0 (notT (V : Int) nb rb) []).1 (drawB V 0 (notT (V : Int) nb rb) []).2) []).2 := by
  have h6 := (bdd_fits ha).1
  have oE : bddB (V : Int) (drawB V 0 (twoT (fun a b => a || b) (V : Int) na ra nb rb) []).1 (drawB V 0 (twoT (fun a b => a || b) (V : Int) na ra nb rb) []).2 = true := two_ok ha
  have oB : bddB (V : Int) (drawB V 0 (twoT (fun a b => a && b) (V : Int) na ra nb rb) []).1 (drawB V 0 (twoT (fun a b => a && b) (V : Int) na ra nb rb) []).2 = true := two_ok ha
  have oP : bddB (V : Int) (drawB V 0 (notT (V : Int) na ra) []).1 (drawB V 0 (notT (V : Int) na ra) []).2 = true := bdd_draw V _ h6 (notT_len2 _ _ _)
  have oQ : bddB (V : Int) (drawB V 0 (notT (V : Int) nb rb) []).1 (drawB V 0 (notT (V : Int) nb rb) []).2 = true := bdd_draw V _ h6 (notT_len2 _ _ _)
  refine ⟨oE, oB, oP, oQ, two_ok oP, rfl, ?_, ?_⟩
  · have e : notT (V : Int) (drawB V 0 (twoT (fun a b => a || b) (V : Int) na ra nb rb) []).1 (drawB V 0 (twoT (fun a b => a || b) (V : Int) na ra nb rb) []).2 = twoT (fun a b => a && b) (V : Int) (drawB V 0 (notT (V : Int) na ra) []).1 (drawB V 0 (notT (V : Int) na ra) []).2 (drawB V 0 (notT (V : Int) nb rb) []).1 (drawB V 0 (notT (V : Int) nb rb) []).2 := by
      rw [notT_eq, twoT_eq _ V (drawB V 0 (notT (V : Int) na ra) []).1]
      refine tabF_congr (fun p hp => ?_)
      rw [twoT_eq, notT_eq, notT_eq]
      rw [drawn_is V (fun ws => isN na ra ws || isN nb rb ws) _ (wayL_length _ _), drawn_is V (fun ws => !(isN na ra ws)) _ (wayL_length _ _), drawn_is V (fun ws => !(isN nb rb ws)) _ (wayL_length _ _)]
      exact Bool.not_or _ _
    rw [e]
  · rw [countZ_tab oE, countZ_tab oB, countZ_tab ha, countZ_tab hb, tab_draw V _ twoT_len, tab_draw V _ twoT_len, twoT_eq, twoT_eq, tabN_tabF', tabN_tabF']
    have h := count_parts (fun p => isN na ra (wayL V p)) (fun p => isN nb rb (wayL V p)) (List.range (2 ^ V))
    have h2 := congrArg (fun n : Nat => (n : Int)) h
    simp only [Int.natCast_add] at h2
    exact h2

end Go.Proofs.Ytmkbcfiechoebaa

/-
  A variable matters just if some node asks it, plain facts.
-/
import Derived.Test.YtknpifjkllcdeaaBdPb
import Derived.Test.YtknpifjkllcdeaaBdNb
import Derived.Test.YtknpifjkllcdeaaBdWi
namespace Go.Proofs.Ytknpifjkllcdeaa
set_option linter.unusedVariables false

theorem placeB_app {xs ys : List Nd} {n : Nd} (h : placeB xs n < xs.length) : placeB (xs ++ ys) n = placeB xs n := by
  unfold placeB at *
  rw [List.findIdx_append, if_pos h]

theorem putB_more (ns : List Nd) (n : Nd) : ∃ l, (putB ns n).1 = ns ++ l := by
  unfold putB
  split
  · exact ⟨[], by simp⟩
  · exact ⟨[n], rfl⟩
theorem draw_over : ∀ (k v : Nat) (t : List Bool) (ns : List Nd), ∃ l, (drawB k v t ns).1 = ns ++ l ∧ ∀ q ∈ l, (v : Int) ≤ q.1 := by
  intro k
  induction k with
  | zero => intro v t ns; exact ⟨[], by simp [drawB], by simp⟩
  | succ k ih =>
    intro v t ns
    obtain ⟨l1, e1, b1⟩ := ih (v + 1) (t.take (2 ^ k)) ns
    obtain ⟨l2, e2, b2⟩ := ih (v + 1) (t.drop (2 ^ k)) (drawB k (v + 1) (t.take (2 ^ k)) ns).1
    have hm : ∀ q ∈ l1 ++ l2, (v : Int) ≤ q.1 := fun q hq => by
      rcases List.mem_append.1 hq with h | h
      · have := b1 q h; omega
      · have := b2 q h; omega
    rw [drawB]
    split
    · exact ⟨l1 ++ l2, by rw [e2, e1]; simp, hm⟩
    · unfold putB
      split
      · exact ⟨l1 ++ l2, by rw [e2, e1]; simp, hm⟩
      · refine ⟨l1 ++ l2 ++ [((v : Int), (drawB k (v + 1) (t.take (2 ^ k)) ns).2, (drawB k (v + 1) (t.drop (2 ^ k)) (drawB k (v + 1) (t.take (2 ^ k)) ns).1).2)], by rw [e2, e1]; simp, fun q hq => ?_⟩
        rcases List.mem_append.1 hq with h | h
        · exact hm q h
        · rw [List.mem_singleton.1 h]; exact Int.le_refl _
theorem draw_more : ∀ (k v : Nat) (t : List Bool) (ns : List Nd), ∃ l, (drawB k v t ns).1 = ns ++ l := by
  intro k
  induction k with
  | zero => intro v t ns; exact ⟨[], by simp [drawB]⟩
  | succ k ih =>
    intro v t ns
    obtain ⟨l1, e1⟩ := ih (v + 1) (t.take (2 ^ k)) ns
    obtain ⟨l2, e2⟩ := ih (v + 1) (t.drop (2 ^ k)) (drawB k (v + 1) (t.take (2 ^ k)) ns).1
    rw [drawB]
    split
    · exact ⟨l1 ++ l2, by rw [e2, e1]; simp⟩
    · obtain ⟨l3, e3⟩ := putB_more (drawB k (v + 1) (t.drop (2 ^ k)) (drawB k (v + 1) (t.take (2 ^ k)) ns).1).1 ((v : Int), (drawB k (v + 1) (t.take (2 ^ k)) ns).2, (drawB k (v + 1) (t.drop (2 ^ k)) (drawB k (v + 1) (t.take (2 ^ k)) ns).1).2)
      exact ⟨l1 ++ l2 ++ l3, by rw [e3, e2, e1]; simp⟩

/-- A table once drawn is drawn again by finding what is there. -/
theorem draw_again : ∀ (k v : Nat) (t : List Bool) (ns l : List Nd), drawB k v t ((drawB k v t ns).1 ++ l) = ((drawB k v t ns).1 ++ l, (drawB k v t ns).2) := by
  intro k
  induction k with
  | zero => intro v t ns l; simp only [drawB]
  | succ k ih =>
    intro v t ns l
    have hm1 : ∃ l1, (drawB k (v + 1) (t.drop (2 ^ k)) (drawB k (v + 1) (t.take (2 ^ k)) ns).1).1 = (drawB k (v + 1) (t.take (2 ^ k)) ns).1 ++ l1 := draw_more k (v + 1) _ _
    obtain ⟨l1, e1⟩ := hm1
    have i1 := fun l => ih (v + 1) (t.take (2 ^ k)) ns l
    have i2 := fun l => ih (v + 1) (t.drop (2 ^ k)) (drawB k (v + 1) (t.take (2 ^ k)) ns).1 l
    generalize hA : drawB k (v + 1) (t.take (2 ^ k)) ns = A at *
    obtain ⟨n1, p1⟩ := A
    simp only at *
    generalize hB : drawB k (v + 1) (t.drop (2 ^ k)) n1 = B at *
    obtain ⟨n2, p2⟩ := B
    simp only at *
    subst e1
    have hd : drawB (k + 1) v t ns = if p1 = p2 then (n1 ++ l1, p1) else putB (n1 ++ l1) ((v : Int), p1, p2) := by rw [drawB, hA, hB]
    rw [hd]
    have hgen : ∀ m, drawB (k + 1) v t (n1 ++ l1 ++ m) = if p1 = p2 then (n1 ++ l1 ++ m, p1) else putB (n1 ++ l1 ++ m) ((v : Int), p1, p2) := fun m => by
      have j1 := i1 (l1 ++ m)
      rw [← List.append_assoc] at j1
      have j2 := i2 m
      rw [drawB, j1, j2]
    by_cases he : p1 = p2
    · rw [if_pos he, hgen, if_pos he]
    · rw [if_neg he]
      unfold putB
      by_cases hf : placeB (n1 ++ l1) ((v : Int), p1, p2) < (n1 ++ l1).length
      · rw [if_pos hf, hgen, if_neg he]
        unfold putB
        rw [placeB_app hf, if_pos (by simp at hf ⊢; omega)]
      · rw [if_neg hf]
        show drawB (k + 1) v t (n1 ++ l1 ++ [((v : Int), p1, p2)] ++ l) = _
        rw [show n1 ++ l1 ++ [((v : Int), p1, p2)] ++ l = n1 ++ l1 ++ ([((v : Int), p1, p2)] ++ l) by simp, hgen, if_neg he]
        unfold putB
        have hs : placeB (n1 ++ l1 ++ [((v : Int), p1, p2)]) ((v : Int), p1, p2) = (n1 ++ l1).length := by rw [placeB_snoc, if_neg hf, if_pos rfl]
        have ha : placeB (n1 ++ l1 ++ ([((v : Int), p1, p2)] ++ l)) ((v : Int), p1, p2) = (n1 ++ l1).length := by
          rw [← List.append_assoc, placeB_app (by rw [hs]; simp), hs]
        rw [ha, if_pos (by simp)]

/-- A table in which a variable makes no difference. -/
def Ind : Nat → Nat → Nat → List Bool → Prop
  | 0, _, _, _ => True
  | k + 1, u, v, t => if u = v then t.take (2 ^ k) = t.drop (2 ^ k) else Ind k (u + 1) v (t.take (2 ^ k)) ∧ Ind k (u + 1) v (t.drop (2 ^ k))

/-- Of it no node asks that variable. -/
theorem draw_ind : ∀ (k u v : Nat) (t : List Bool) (ns : List Nd), u ≤ v → Ind k u v t → ∃ l, (drawB k u t ns).1 = ns ++ l ∧ ∀ q ∈ l, q.1 ≠ (v : Int) := by
  intro k
  induction k with
  | zero => intro u v t ns _ _; exact ⟨[], by simp [drawB], by simp⟩
  | succ k ih =>
    intro u v t ns huv hi
    rw [Ind] at hi
    by_cases e : u = v
    · rw [if_pos e] at hi
      rw [drawB, ← hi]
      have ha := draw_again k (u + 1) (t.take (2 ^ k)) ns []
      rw [List.append_nil] at ha
      rw [ha, if_pos rfl]
      obtain ⟨l, e1, b1⟩ := draw_over k (u + 1) (t.take (2 ^ k)) ns
      exact ⟨l, e1, fun q hq => by have := b1 q hq; omega⟩
    · rw [if_neg e] at hi
      obtain ⟨l1, e1, b1⟩ := ih (u + 1) v (t.take (2 ^ k)) ns (by omega) hi.1
      obtain ⟨l2, e2, b2⟩ := ih (u + 1) v (t.drop (2 ^ k)) (drawB k (u + 1) (t.take (2 ^ k)) ns).1 (by omega) hi.2
      have hm : ∀ q ∈ l1 ++ l2, q.1 ≠ (v : Int) := fun q hq => by
        rcases List.mem_append.1 hq with h | h
        · exact b1 q h
        · exact b2 q h
      rw [drawB]
      split
      · exact ⟨l1 ++ l2, by rw [e2, e1]; simp, hm⟩
      · unfold putB
        split
        · exact ⟨l1 ++ l2, by rw [e2, e1]; simp, hm⟩
        · refine ⟨l1 ++ l2 ++ [((u : Int), (drawB k (u + 1) (t.take (2 ^ k)) ns).2, (drawB k (u + 1) (t.drop (2 ^ k)) (drawB k (u + 1) (t.take (2 ^ k)) ns).1).2)], by rw [e2, e1]; simp, fun q hq => ?_⟩
          rcases List.mem_append.1 hq with h | h
          · exact hm q h
          · rw [List.mem_singleton.1 h]
            show (u : Int) ≠ (v : Int)
            omega

theorem exists_way : ∀ (n : Nat) (ws : List Bool), ws.length = n → ∃ p, p < 2 ^ n ∧ ws = wayL n p := by
  intro n
  induction n with
  | zero => intro ws h; exact ⟨0, by simp, List.length_eq_zero_iff.1 h⟩
  | succ n ih =>
    intro ws h
    match ws, h with
    | b :: r, h =>
      obtain ⟨p, hp, e⟩ := ih r (by simpa using h)
      cases b with
      | false => exact ⟨p, by rw [Nat.pow_succ]; omega, by rw [wayL_low n p hp, e]⟩
      | true => exact ⟨2 ^ n + p, by rw [Nat.pow_succ]; omega, by rw [wayL_high n p hp, e]⟩

theorem atB_set : ∀ (k u v : Nat) (t ws : List Bool) (b : Bool), v < u → atB k u t (ws.set v b) = atB k u t ws := by
  intro k
  induction k with
  | zero => intros; rfl
  | succ k ih =>
    intro u v t ws b h
    have e : (ws.set v b).getD u false = ws.getD u false := by rw [List.getD, List.getD, List.getElem?_set_ne (by omega)]
    rw [atB, atB, e, ih _ _ _ _ _ (by omega), ih _ _ _ _ _ (by omega)]

theorem ind_of (V v : Nat) (hv : v < V) : ∀ (k u : Nat) (t : List Bool), u + k = V → u ≤ v → t.length = 2 ^ k → (∀ ws : List Bool, ws.length = V → atB k u t (ws.set v true) = atB k u t (ws.set v false)) → Ind k u v t := by
  intro k
  induction k with
  | zero => intro u t h1 h2 _ _; omega
  | succ k ih =>
    intro u t h1 h2 hl h
    have hp : 2 ^ (k + 1) = 2 ^ k + 2 ^ k := by rw [Nat.pow_succ]; omega
    have ht : (t.take (2 ^ k)).length = 2 ^ k := by rw [List.length_take]; omega
    have hd : (t.drop (2 ^ k)).length = 2 ^ k := by rw [List.length_drop]; omega
    rw [Ind]
    by_cases e : u = v
    · subst e
      rw [if_pos rfl]
      apply List.ext_getElem (by omega)
      intro i hi1 hi2
      have hi : i < 2 ^ k := by omega
      have hw := h (wayL V i) (wayL_length V i)
      have g : ∀ b, ((wayL V i).set u b).getD u false = b := fun b => by rw [List.getD, List.getElem?_set_self (by rw [wayL_length]; omega)]; rfl
      rw [atB, atB, g, g, if_pos rfl, if_neg (by decide), atB_set _ _ _ _ _ _ (Nat.lt_succ_self u), atB_set _ _ _ _ _ _ (Nat.lt_succ_self u), atB_way V i k (u + 1) _ (by omega), atB_way V i k (u + 1) _ (by omega), Nat.mod_eq_of_lt hi] at hw
      rw [List.getD, List.getD, List.getElem?_eq_getElem hi1, List.getElem?_eq_getElem hi2] at hw
      simpa using hw.symm
    · rw [if_neg e]
      have hs : ∀ (ws : List Bool) (b c : Bool), ws.length = V → (((ws.set u c).set v b).getD u false = c) := fun ws b c hwl => by
        rw [List.getD, List.getElem?_set_ne (by omega), List.getElem?_set_self (by omega)]; rfl
      have hc : ∀ (ws s : List Bool) (b c : Bool), atB k (u + 1) s ((ws.set u c).set v b) = atB k (u + 1) s (ws.set v b) := fun ws s b c => by
        rw [List.set_comm _ _ (by omega : u ≠ v), atB_set _ _ _ _ _ _ (Nat.lt_succ_self u)]
      constructor
      · refine ih (u + 1) _ (by omega) (by omega) ht (fun ws hwl => ?_)
        have hw := h (ws.set u false) (by rw [List.length_set]; exact hwl)
        rw [atB, atB, hs ws true false hwl, hs ws false false hwl, if_neg (by decide), if_neg (by decide), hc, hc] at hw
        exact hw
      · refine ih (u + 1) _ (by omega) (by omega) hd (fun ws hwl => ?_)
        have hw := h (ws.set u true) (by rw [List.length_set]; exact hwl)
        rw [atB, atB, hs ws true true hwl, hs ws false true hwl, if_pos rfl, if_pos rfl, hc, hc] at hw
        exact hw

theorem vals_not {ns : List Nd} {v : Nat} (h : ∀ i, i < ns.length → (ns.getD i (0, 0, 0)).1 ≠ (v : Int) ∧ 0 ≤ (ns.getD i (0, 0, 0)).1) (ws : List Bool) (b : Bool) : ∀ k, k ≤ ns.length → valsN ns (ws.set v b) k = valsN ns ws k := by
  intro k
  induction k with
  | zero => intro _; rfl
  | succ k ih =>
    intro hk
    have h1 := h k (by omega)
    have e : (ws.set v b).getD (ns.getD k (0, 0, 0)).1.toNat false = ws.getD (ns.getD k (0, 0, 0)).1.toNat false := by
      generalize ns.getD k (0, 0, 0) = q at *
      rw [List.getD, List.getD, List.getElem?_set_ne (by omega)]
    rw [valsN, valsN, ih (by omega), e]

theorem withT_eq (V : Nat) (ns : List Nd) (root : Int) (v : Nat) (so : Bool) : withT (V : Int) ns root (v : Int) so = tabF V (fun ws => isN ns root (ws.set v so)) (2 ^ V) := by
  unfold withT
  rw [Int.toNat_natCast, Int.toNat_natCast]

/-- Told so and not so it is the same just if no node asks the variable. -/
theorem with_same {V v : Nat} {ns : List Nd} {root : Int} (h : bddB (V : Int) ns root = true) (hv : v < V) : (withT (V : Int) ns root (v : Int) true = withT (V : Int) ns root (v : Int) false) ↔ ¬ ((v : Int) ∈ needsL V ns) := by
  obtain ⟨V', hVV, h6, -, hok, -, -⟩ := bdd_split h
  obtain rfl : V' = V := by omega
  have hform := bdd_form h
  have hmem : (v : Int) ∈ needsL V' ns ↔ ∃ i, i < ns.length ∧ (ns.getD i (0, 0, 0)).1 = (v : Int) := by
    unfold needsL
    simp only [List.mem_map, List.mem_filter, List.mem_range, List.any_eq_true, decide_eq_true_eq]
    constructor
    · rintro ⟨x, ⟨_, q, hq, e⟩, e2⟩
      obtain ⟨i, hi, e3⟩ := List.mem_iff_getElem.1 hq
      exact ⟨i, hi, by rw [List.getD, List.getElem?_eq_getElem hi, e3]; show q.1 = _; omega⟩
    · rintro ⟨i, hi, e⟩
      exact ⟨v, ⟨hv, ns.getD i (0, 0, 0), getD_mem_nd2 hi, e⟩, rfl⟩
  rw [hmem, withT_eq, withT_eq]
  constructor
  · rintro heq ⟨i, hi, e⟩
    have hget : ∀ p, p < 2 ^ V' → isN ns root ((wayL V' p).set v true) = isN ns root ((wayL V' p).set v false) := fun p hp => by
      have h1 := congrArg (fun l : List Bool => l.getD p false) heq
      simpa [tabF, List.getD, hp] using h1
    have hd := draw_good V' V' 0 (tabN V' ns root) [] (by omega) (wf_nil V')
    have hev : ∀ ws, isN ns root ws = atB V' 0 (tabN V' ns root) ws := fun ws => by
      have := hd.ev ws
      rw [hform] at this
      exact this
    have hind : Ind V' 0 v (tabN V' ns root) := ind_of V' v hv V' 0 _ (by omega) (Nat.zero_le _) (tabN_length _ _ _) (fun ws hwl => by
      obtain ⟨p, hp, rfl⟩ := exists_way V' ws hwl
      rw [← hev, ← hev]
      exact hget p hp)
    obtain ⟨l, e1, b1⟩ := draw_ind V' 0 v (tabN V' ns root) [] (Nat.zero_le _) hind
    rw [hform] at e1
    have e2 : ns = l := by simpa using e1
    exact b1 _ (by rw [← e2]; exact getD_mem_nd2 hi) e
  · intro hno
    have hf : ∀ (b : Bool) (ws : List Bool), isN ns root (ws.set v b) = isN ns root ws := fun b ws => by
      unfold isN
      rw [vals_not (fun i hi => ⟨fun e => hno ⟨i, hi, e⟩, (node_parts (hok i hi)).1⟩) ws b _ (Nat.le_refl _)]
    have : (fun ws : List Bool => isN ns root (ws.set v true)) = fun ws : List Bool => isN ns root (ws.set v false) := funext fun ws => by rw [hf, hf]
    rw [this]

/-- So are the diagrams drawn of both. -/
theorem with_drawn {V v : Nat} {ns : List Nd} {root : Int} (h : bddB (V : Int) ns root = true) (hv : v < V) :
    (decide ((drawB V 0 (withT (V : Int) ns root (v : Int) true) []).2 = (drawB V 0 (withT (V : Int) ns root (v : Int) false) []).2) && decide ((drawB V 0 (withT (V : Int) ns root (v : Int) true) []).1 = (drawB V 0 (withT (V : Int) ns root (v : Int) false) []).1)) = !(decide ((v : Int) ∈ needsL V ns)) := by
  have hw := with_same h hv
  have hl : ∀ so, (withT (V : Int) ns root (v : Int) so).length = 2 ^ V := fun so => by rw [withT_eq, tabF_length]
  by_cases hm : (v : Int) ∈ needsL V ns
  · have hne : withT (V : Int) ns root (v : Int) true ≠ withT (V : Int) ns root (v : Int) false := fun e => hw.1 e hm
    rw [decide_eq_true hm]
    cases hb : (decide ((drawB V 0 (withT (V : Int) ns root (v : Int) true) []).2 = (drawB V 0 (withT (V : Int) ns root (v : Int) false) []).2) && decide ((drawB V 0 (withT (V : Int) ns root (v : Int) true) []).1 = (drawB V 0 (withT (V : Int) ns root (v : Int) false) []).1)) with
    | false => rfl
    | true =>
      rw [Bool.and_eq_true, decide_eq_true_eq, decide_eq_true_eq] at hb
      exfalso
      apply hne
      rw [← tab_draw V _ (hl true), ← tab_draw V _ (hl false), hb.1, hb.2]
  · rw [decide_eq_false hm, hw.2 hm]
    simp

end Go.Proofs.Ytknpifjkllcdeaa

/-
  The opposite of a diagram, plain facts.
  A diagram with some value of a variable: plain facts.
-/
import Derived.Test.YtknpifjkllcdeaaBdPe
import Derived.Test.YtknpifjkllcdeaaBdTu
import Derived.Test.YtknpifjkllcdeaaBdNp
namespace Go.Proofs.Ytknpifjkllcdeaa
set_option linter.unusedVariables false

def swp (p : Int) : Int := if p = 0 then 1 else if p = 1 then 0 else p
def swN (q : Nd) : Nd := (q.1, swp q.2.1, swp q.2.2)
theorem swp_inj {a b : Int} (h : swp a = swp b) : a = b := by
  unfold swp at h
  split at h <;> split at h <;> (try split at h) <;> (try split at h) <;> omega
theorem swN_inj {a b : Nd} (h : swN a = swN b) : a = b := by
  obtain ⟨a1, a2, a3⟩ := a
  obtain ⟨b1, b2, b3⟩ := b
  unfold swN at h
  simp only [Prod.mk.injEq] at h
  rw [h.1, swp_inj h.2.1, swp_inj h.2.2]
theorem placeB_swap (ns : List Nd) (q : Nd) : placeB (ns.map swN) (swN q) = placeB ns q := by
  unfold placeB
  induction ns with
  | nil => rfl
  | cons a l ih =>
    rw [List.map_cons, List.findIdx_cons, List.findIdx_cons, ih]
    by_cases e : a = q
    · subst e; simp
    · have : ¬ swN a = swN q := fun h => e (swN_inj h)
      simp [e, this]

/-- The diagram of the opposite table: never and always change places. -/
theorem draw_swap : ∀ (k v : Nat) (t : List Bool) (ns : List Nd), t.length = 2 ^ k → drawB k v (t.map (fun x => !x)) (ns.map swN) = ((drawB k v t ns).1.map swN, swp (drawB k v t ns).2) := by
  intro k
  induction k with
  | zero =>
    intro v t ns hl
    have e : (t.map (fun x => !x)).getD 0 false = !(t.getD 0 false) := by
      match t, hl with
      | b :: r, _ => rfl
    rw [drawB, drawB, e]
    cases t.getD 0 false <;> rfl
  | succ k ih =>
    intro v t ns hl
    have hp : 2 ^ (k + 1) = 2 ^ k + 2 ^ k := by rw [Nat.pow_succ]; omega
    have h1 : (t.take (2 ^ k)).length = 2 ^ k := by rw [List.length_take]; omega
    have h2 : (t.drop (2 ^ k)).length = 2 ^ k := by rw [List.length_drop]; omega
    rw [drawB, drawB, ← List.map_take, ← List.map_drop, ih (v + 1) _ ns h1, ih (v + 1) _ _ h2]
    generalize drawB k (v + 1) (t.take (2 ^ k)) ns = A
    generalize drawB k (v + 1) (t.drop (2 ^ k)) A.1 = B
    simp only
    by_cases he : A.2 = B.2
    · rw [if_pos he, if_pos (by rw [he])]
    · rw [if_neg he, if_neg (fun h => he (swp_inj h))]
      have hn : (((v : Int), swp A.2, swp B.2) : Nd) = swN ((v : Int), A.2, B.2) := rfl
      rw [hn]
      unfold putB
      rw [placeB_swap, List.length_map]
      split
      · refine Prod.ext rfl ?_
        show (2 : Int) + _ = swp (2 + _)
        unfold swp
        rw [if_neg (by omega), if_neg (by omega)]
      · refine Prod.ext (by simp) ?_
        show (2 : Int) + _ = swp (2 + _)
        unfold swp
        rw [if_neg (by omega), if_neg (by omega)]

theorem count_not (t : List Bool) : t.count true + (t.map (fun x => !x)).count true = t.length := by
  induction t with
  | nil => rfl
  | cons b r ih =>
    cases b <;> simp only [List.map_cons, List.count_cons, List.length_cons] <;> simp <;> omega

theorem notT_len (V : Nat) (ns : List Nd) (root : Int) : (notT (V : Int) ns root).length = 2 ^ V := by rw [notT_map, List.length_map, tabN_length]

theorem opOf_and : opOf { data := #[38] } = some (fun a b => a && b) := by
  unfold opOf
  rw [if_pos (by simp [ByteArray.toList_eq])]
theorem opOf_or : opOf { data := #[124] } = some (fun a b => a || b) := by
  unfold opOf
  rw [if_neg (by simp [ByteArray.toList_eq]), if_pos (by simp [ByteArray.toList_eq])]

structure NotF (V : Nat) (ns : List Nd) (root : Int) (lX : List Nd) (rX : Int) : Prop where
  ok : bddB (V : Int) lX rX = true
  back : drawB V 0 (notT (V : Int) lX rX) [] = (ns, root)
  len : lX.length = ns.length
  both : drawB V 0 (twoT (fun a b => a && b) (V : Int) ns root lX rX) [] = ([], 0)
  either : drawB V 0 (twoT (fun a b => a || b) (V : Int) ns root lX rX) [] = ([], 1)
  count : countZ (V : Int) ns root + countZ (V : Int) lX rX = countZ (V : Int) [] 1

theorem not_facts {V : Nat} {ns : List Nd} {root : Int} (h6 : V ≤ 6) (h : bddB (V : Int) ns root = true) : NotF V ns root (drawB V 0 (notT (V : Int) ns root) []).1 (drawB V 0 (notT (V : Int) ns root) []).2 := by
  have hform := bdd_form h
  have hok := bdd_draw V _ h6 (notT_len V ns root)
  have htab := tab_draw V _ (notT_len V ns root)
  have hlen : (drawB V 0 (notT (V : Int) ns root) []).1.length = ns.length := by
    have hs := draw_swap V 0 (tabN V ns root) [] (tabN_length V ns root)
    rw [List.map_nil, ← notT_map, hform] at hs
    rw [hs]
    simp
  generalize drawB V 0 (notT (V : Int) ns root) [] = D at *
  obtain ⟨lX, rX⟩ := D
  simp only at *
  have hX : ∀ p, p < 2 ^ V → isN lX rX (wayL V p) = !(isN ns root (wayL V p)) := fun p hp => by
    rw [← tabN_get V lX rX p hp, htab, notT_map, ← tabN_get V ns root p hp]
    simp [List.getD, tabN_length, hp]
  have hT : ∀ op : Bool → Bool → Bool, ∀ c, (∀ b, op b (!b) = c) → drawB V 0 (twoT op (V : Int) ns root lX rX) [] = ([], numB c) := fun op c hc => by
    refine drawB_same V 0 _ [] c (by unfold twoT; rw [tabF_length, Int.toNat_natCast]) (fun i hi => ?_)
    have hi : i < 2 ^ V := by unfold twoT at hi; rw [tabF_length, Int.toNat_natCast] at hi; exact hi
    unfold twoT
    rw [Int.toNat_natCast]
    have : (tabF V (fun ws => op (isN ns root ws) (isN lX rX ws)) (2 ^ V)).getD i false = op (isN ns root (wayL V i)) (isN lX rX (wayL V i)) := by simp [tabF, List.getD, hi]
    rw [this, hX i hi, hc]
  have hE := hT (fun a b => a || b) true (by intro b; cases b <;> rfl)
  refine ⟨hok, ?_, hlen, hT (fun a b => a && b) false (by intro b; cases b <;> rfl), hE, ?_⟩
  · have : notT (V : Int) lX rX = tabN V ns root := by
      rw [notT_map, htab, notT_map, List.map_map]
      have : ((fun x : Bool => !x) ∘ fun x => !x) = id := by funext x; cases x <;> rfl
      rw [this, List.map_id]
    rw [this, hform]
  · have hall := bdd_draw V (twoT (fun a b => a || b) (V : Int) ns root lX rX) h6 (by unfold twoT; rw [tabF_length, Int.toNat_natCast])
    have htall := tab_draw V (twoT (fun a b => a || b) (V : Int) ns root lX rX) (by unfold twoT; rw [tabF_length, Int.toNat_natCast])
    rw [hE] at hall htall
    unfold countZ
    rw [if_pos h, if_pos hok, if_pos (by exact hall), Int.toNat_natCast, cnt_tab, cnt_tab, cnt_tab, htab]
    have h1 : tabN V [] 1 = twoT (fun a b => a || b) (V : Int) ns root lX rX := htall
    have h2 : twoT (fun a b => a || b) (V : Int) ns root lX rX = List.replicate (2 ^ V) true := by
      apply List.ext_getElem (by unfold twoT; rw [tabF_length, Int.toNat_natCast]; simp)
      intro i hi1 hi2
      have hi : i < 2 ^ V := by simpa using hi2
      have e := hX i hi
      simp [twoT, tabF, e]
    rw [h1, h2, notT_map, List.count_replicate_self]
    have hc := count_not (tabN V ns root)
    rw [tabN_length] at hc
    omega

end Go.Proofs.Ytknpifjkllcdeaa

namespace Go.Proofs.Ytknpifjkllcdeaa
set_option linter.unusedVariables false

theorem tabF_congr {V n : Nat} {g h : List Bool → Bool} (hp : ∀ p, p < n → g (wayL V p) = h (wayL V p)) : tabF V g n = tabF V h n := List.map_congr_left fun p hm => hp p (List.mem_range.1 hm)
theorem tabF_at {V n : Nat} {g : List Bool → Bool} {p : Nat} (hp : p < n) : (tabF V g n).getD p false = g (wayL V p) := by simp [tabF, List.getD, hp]

/-- The diagram of a table says of each way what the table does. -/
theorem drawn_is (V : Nat) (g : List Bool → Bool) (ws : List Bool) (h : ws.length = V) : isN (drawB V 0 (tabF V g (2 ^ V)) []).1 (drawB V 0 (tabF V g (2 ^ V)) []).2 ws = g ws := by
  obtain ⟨p, hp, rfl⟩ := exists_way V ws h
  rw [← tabN_get V _ _ p hp, tab_draw V _ (tabF_length _ _ _), tabF_at hp]

theorem isN_zero (ns : List Nd) (ws : List Bool) : isN ns 0 ws = false := evN_end ns false ws
theorem isN_one (ns : List Nd) (ws : List Bool) : isN ns 1 ws = true := evN_end ns true ws

theorem root_zero {V : Nat} {ns : List Nd} {root : Int} (h : bddB (V : Int) ns root = true) : root = 0 ↔ ∀ p, p < 2 ^ V → isN ns root (wayL V p) = false := by
  constructor
  · rintro rfl p _; exact isN_zero ns _
  · intro hz
    have h4 := bdd_form h
    rw [drawB_same V 0 _ [] false (tabN_length _ _ _) (fun i hi => by rw [tabN_length] at hi; rw [tabN_get V ns root i hi]; exact hz i hi)] at h4
    injection h4 with h5 h6
    exact h6.symm

theorem twoT_eq (op : Bool → Bool → Bool) (V : Nat) (na : List Nd) (ra : Int) (nb : List Nd) (rb : Int) : twoT op (V : Int) na ra nb rb = tabF V (fun ws => op (isN na ra ws) (isN nb rb ws)) (2 ^ V) := by unfold twoT; rw [Int.toNat_natCast]
theorem someT_eq (V : Nat) (ns : List Nd) (root : Int) (v : Nat) : someT (V : Int) ns root (v : Int) = tabF V (fun ws => isN ns root (ws.set v false) || isN ns root (ws.set v true)) (2 ^ V) := by unfold someT; rw [Int.toNat_natCast, Int.toNat_natCast]
theorem someT_len (V : Nat) (ns : List Nd) (root : Int) (v : Nat) : (someT (V : Int) ns root (v : Int)).length = 2 ^ V := by rw [someT_eq, tabF_length]

theorem tabN_tabF' (V : Nat) (ns : List Nd) (root : Int) : tabN V ns root = tabF V (isN ns root) (2 ^ V) := rfl

structure SomeF (V v : Nat) (ns : List Nd) (root : Int) (lT : List Nd) (rT : Int) (lF : List Nd) (rF : Int) (lX : List Nd) (rX : Int) : Prop where
  ok : bddB (V : Int) lX rX = true
  okT : bddB (V : Int) lT rT = true
  okF : bddB (V : Int) lF rF = true
  either : drawB V 0 (twoT (fun a b => a || b) (V : Int) lT rT lF rF) [] = (lX, rX)
  both : drawB V 0 (twoT (fun a b => a && b) (V : Int) lX rX ns root) [] = (ns, root)
  zero : decide (rX = 0) = decide (root = 0)
  needs : decide ((v : Int) ∈ needsL V lX) = false

theorem some_facts {V v : Nat} {ns : List Nd} {root : Int} (h6 : V ≤ 6) (h : bddB (V : Int) ns root = true) (hv : v < V) :
    SomeF V v ns root (drawB V 0 (withT (V : Int) ns root (v : Int) true) []).1 (drawB V 0 (withT (V : Int) ns root (v : Int) true) []).2 (drawB V 0 (withT (V : Int) ns root (v : Int) false) []).1 (drawB V 0 (withT (V : Int) ns root (v : Int) false) []).2 (drawB V 0 (someT (V : Int) ns root (v : Int)) []).1 (drawB V 0 (someT (V : Int) ns root (v : Int)) []).2 := by
  have hform := bdd_form h
  have hX : ∀ ws : List Bool, ws.length = V → isN (drawB V 0 (someT (V : Int) ns root (v : Int)) []).1 (drawB V 0 (someT (V : Int) ns root (v : Int)) []).2 ws = (isN ns root (ws.set v false) || isN ns root (ws.set v true)) := fun ws hw => by
    rw [someT_eq]
    exact drawn_is V (fun ws => isN ns root (ws.set v false) || isN ns root (ws.set v true)) ws hw
  have hW : ∀ (so : Bool) (ws : List Bool), ws.length = V → isN (drawB V 0 (withT (V : Int) ns root (v : Int) so) []).1 (drawB V 0 (withT (V : Int) ns root (v : Int) so) []).2 ws = isN ns root (ws.set v so) := fun so ws hw => by
    rw [withT_eq]
    exact drawn_is V (fun ws => isN ns root (ws.set v so)) ws hw
  have hok := bdd_draw V (someT (V : Int) ns root (v : Int)) h6 (someT_len _ _ _ _)
  have hle : ∀ ws : List Bool, ws.length = V → isN ns root ws = true → (isN ns root (ws.set v false) || isN ns root (ws.set v true)) = true := fun ws hw hi => by
    have hs : ∀ b, ws.getD v false = b → ws.set v b = ws := fun b hb => by
      apply List.ext_getElem?
      intro i
      by_cases e : v = i
      · subst e
        rw [List.getElem?_set_self (by omega), ← hb, List.getD, List.getElem?_eq_getElem (by omega)]
        rfl
      · rw [List.getElem?_set_ne e]
    cases hb : ws.getD v false with
    | false => rw [hs false hb, hi]; rfl
    | true => rw [hs true hb, hi, Bool.or_true]
  refine ⟨hok, bdd_draw V _ h6 (withT_len _ _ _ _ _), bdd_draw V _ h6 (withT_len _ _ _ _ _), ?_, ?_, ?_, ?_⟩
  · rw [twoT_eq]
    have e : tabF V (fun ws => isN (drawB V 0 (withT (V : Int) ns root (v : Int) true) []).1 (drawB V 0 (withT (V : Int) ns root (v : Int) true) []).2 ws || isN (drawB V 0 (withT (V : Int) ns root (v : Int) false) []).1 (drawB V 0 (withT (V : Int) ns root (v : Int) false) []).2 ws) (2 ^ V) = someT (V : Int) ns root (v : Int) := by
      rw [someT_eq]
      refine tabF_congr (fun p hp => ?_)
      rw [hW true _ (wayL_length _ _), hW false _ (wayL_length _ _), Bool.or_comm]
    rw [e]
  · have e : twoT (fun a b => a && b) (V : Int) (drawB V 0 (someT (V : Int) ns root (v : Int)) []).1 (drawB V 0 (someT (V : Int) ns root (v : Int)) []).2 ns root = tabN V ns root := by
      rw [twoT_eq, tabN_tabF']
      refine tabF_congr (fun p hp => ?_)
      rw [hX _ (wayL_length _ _)]
      cases hi : isN ns root (wayL V p) with
      | false => rw [Bool.and_false]
      | true => rw [Bool.and_true]; exact hle _ (wayL_length _ _) hi
    rw [e, hform]
  · have h1 := root_zero hok
    have h2 := root_zero h
    have h3 : (∀ p, p < 2 ^ V → isN (drawB V 0 (someT (V : Int) ns root (v : Int)) []).1 (drawB V 0 (someT (V : Int) ns root (v : Int)) []).2 (wayL V p) = false) ↔ ∀ p, p < 2 ^ V → isN ns root (wayL V p) = false := by
      constructor
      · intro hz p hp
        cases hi : isN ns root (wayL V p) with
        | false => rfl
        | true =>
          have := hz p hp
          rw [hX _ (wayL_length _ _), hle _ (wayL_length _ _) hi] at this
          cases this
      · intro hz p hp
        rw [hX _ (wayL_length _ _)]
        have hq : ∀ b, isN ns root ((wayL V p).set v b) = false := fun b => by
          obtain ⟨q, hq, e⟩ := exists_way V ((wayL V p).set v b) (by rw [List.length_set, wayL_length])
          rw [e]; exact hz q hq
        rw [hq, hq]
        rfl
    rw [decide_eq_decide, h1, h2]
    exact h3
  · rw [decide_eq_false_iff_not]
    rw [← with_same hok hv, withT_eq, withT_eq]
    refine tabF_congr (fun p hp => ?_)
    rw [hX _ (by rw [List.length_set, wayL_length]), hX _ (by rw [List.length_set, wayL_length]), List.set_set, List.set_set, List.set_set, List.set_set]

end Go.Proofs.Ytknpifjkllcdeaa

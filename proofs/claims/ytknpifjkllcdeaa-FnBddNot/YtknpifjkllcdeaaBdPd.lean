/-
  The opposite of a diagram, plain facts.
-/
import Derived.Test.YtknpifjkllcdeaaBdPb
import Derived.Test.YtknpifjkllcdeaaBdTu
import Derived.Test.YtknpifjkllcdeaaBdNp
namespace Go.Proofs.Ytknpifjkllcdeaa
set_option linter.unusedVariables false

def swp (p : Int) : Int := if p = 0 then 1 else if p = 1 then 0 else p
def swN (q : Nd) : Nd := (q.1, swp q.2.1, swp q.2.2)
theorem swp_inj {a b : Int} (h : swp a = swp b) : a = b := by
  unfold swp at h
  split at h <;> split at h <;> (try split at h) <;> (try split at h) <;> omega
theorem swN_inj {a b : Nd} (h : swN a = swN b) : a = b := by
  obtain ⟨a1, a2, a3⟩ := a
  obtain ⟨b1, b2, b3⟩ := b
  unfold swN at h
  simp only [Prod.mk.injEq] at h
  rw [h.1, swp_inj h.2.1, swp_inj h.2.2]
theorem placeB_swap (ns : List Nd) (q : Nd) : placeB (ns.map swN) (swN q) = placeB ns q := by
  unfold placeB
  induction ns with
  | nil => rfl
  | cons a l ih =>
    rw [List.map_cons, List.findIdx_cons, List.findIdx_cons, ih]
    by_cases e : a = q
    · subst e; simp
    · have : ¬ swN a = swN q := fun h => e (swN_inj h)
      simp [e, this]

/-- The diagram of the opposite table: never and always change places. -/
theorem draw_swap : ∀ (k v : Nat) (t : List Bool) (ns : List Nd), t.length = 2 ^ k → drawB k v (t.map (fun x => !x)) (ns.map swN) = ((drawB k v t ns).1.map swN, swp (drawB k v t ns).2) := by
  intro k
  induction k with
  | zero =>
    intro v t ns hl
    have e : (t.map (fun x => !x)).getD 0 false = !(t.getD 0 false) := by
      match t, hl with
      | b :: r, _ => rfl
    rw [drawB, drawB, e]
    cases t.getD 0 false <;> rfl
  | succ k ih =>
    intro v t ns hl
    have hp : 2 ^ (k + 1) = 2 ^ k + 2 ^ k := by rw [Nat.pow_succ]; omega
    have h1 : (t.take (2 ^ k)).length = 2 ^ k := by rw [List.length_take]; omega
    have h2 : (t.drop (2 ^ k)).length = 2 ^ k := by rw [List.length_drop]; omega
    rw [drawB, drawB, ← List.map_take, ← List.map_drop, ih (v + 1) _ ns h1, ih (v + 1) _ _ h2]
    generalize drawB k (v + 1) (t.take (2 ^ k)) ns = A
    generalize drawB k (v + 1) (t.drop (2 ^ k)) A.1 = B
    simp only
    by_cases he : A.2 = B.2
    · rw [if_pos he, if_pos (by rw [he])]
    · rw [if_neg he, if_neg (fun h => he (swp_inj h))]
      have hn : (((v : Int), swp A.2, swp B.2) : Nd) = swN ((v : Int), A.2, B.2) := rfl
      rw [hn]
      unfold putB
      rw [placeB_swap, List.length_map]
      split
      · refine Prod.ext rfl ?_
        show (2 : Int) + _ = swp (2 + _)
        unfold swp
        rw [if_neg (by omega), if_neg (by omega)]
      · refine Prod.ext (by simp) ?_
        show (2 : Int) + _ = swp (2 + _)
        unfold swp
        rw [if_neg (by omega), if_neg (by omega)]

theorem count_not (t : List Bool) : t.count true + (t.map (fun x => !x)).count true = t.length := by
  induction t with
  | nil => rfl
  | cons b r ih =>
    cases b <;> simp only [List.map_cons, List.count_cons, List.length_cons] <;> simp <;> omega

theorem notT_len (V : Nat) (ns : List Nd) (root : Int) : (notT (V : Int) ns root).length = 2 ^ V := by rw [notT_map, List.length_map, tabN_length]

theorem opOf_and : opOf { data := #[38] } = some (fun a b => a && b) := by
  unfold opOf
  rw [if_pos (by simp [ByteArray.toList_eq])]
theorem opOf_or : opOf { data := #[124] } = some (fun a b => a || b) := by
  unfold opOf
  rw [if_neg (by simp [ByteArray.toList_eq]), if_pos (by simp [ByteArray.toList_eq])]

theorem count_small {V : Nat} {ns : List Nd} {root : Int} (h6 : V ≤ 6) (h : bddB (V : Int) ns root = true) : 0 ≤ countZ (V : Int) ns root ∧ countZ (V : Int) ns root ≤ 64 := by
  have hp : 2 ^ V ≤ 64 := by show _ ≤ 2 ^ 6; exact Nat.pow_le_pow_right (by decide) h6
  have := cnt_le V (isN ns root)
  unfold countZ
  rw [if_pos h, Int.toNat_natCast]
  omega

structure NotF (V : Nat) (ns : List Nd) (root : Int) (lX : List Nd) (rX : Int) : Prop where
  ok : bddB (V : Int) lX rX = true
  back : drawB V 0 (notT (V : Int) lX rX) [] = (ns, root)
  len : lX.length = ns.length
  both : drawB V 0 (twoT (fun a b => a && b) (V : Int) ns root lX rX) [] = ([], 0)
  either : drawB V 0 (twoT (fun a b => a || b) (V : Int) ns root lX rX) [] = ([], 1)
  count : countZ (V : Int) ns root + countZ (V : Int) lX rX = countZ (V : Int) [] 1

theorem not_facts {V : Nat} {ns : List Nd} {root : Int} (h6 : V ≤ 6) (h : bddB (V : Int) ns root = true) : NotF V ns root (drawB V 0 (notT (V : Int) ns root) []).1 (drawB V 0 (notT (V : Int) ns root) []).2 := by
  have hform := bdd_form h
  have hok := bdd_draw V _ h6 (notT_len V ns root)
  have htab := tab_draw V _ (notT_len V ns root)
  have hlen : (drawB V 0 (notT (V : Int) ns root) []).1.length = ns.length := by
    have hs := draw_swap V 0 (tabN V ns root) [] (tabN_length V ns root)
    rw [List.map_nil, ← notT_map, hform] at hs
    rw [hs]
    simp
  generalize drawB V 0 (notT (V : Int) ns root) [] = D at *
  obtain ⟨lX, rX⟩ := D
  simp only at *
  have hX : ∀ p, p < 2 ^ V → isN lX rX (wayL V p) = !(isN ns root (wayL V p)) := fun p hp => by
    rw [← tabN_get V lX rX p hp, htab, notT_map, ← tabN_get V ns root p hp]
    simp [List.getD, tabN_length, hp]
  have hT : ∀ op : Bool → Bool → Bool, ∀ c, (∀ b, op b (!b) = c) → drawB V 0 (twoT op (V : Int) ns root lX rX) [] = ([], numB c) := fun op c hc => by
    refine drawB_same V 0 _ [] c (by unfold twoT; rw [tabF_length, Int.toNat_natCast]) (fun i hi => ?_)
    have hi : i < 2 ^ V := by unfold twoT at hi; rw [tabF_length, Int.toNat_natCast] at hi; exact hi
    unfold twoT
    rw [Int.toNat_natCast]
    have : (tabF V (fun ws => op (isN ns root ws) (isN lX rX ws)) (2 ^ V)).getD i false = op (isN ns root (wayL V i)) (isN lX rX (wayL V i)) := by simp [tabF, List.getD, hi]
    rw [this, hX i hi, hc]
  have hE := hT (fun a b => a || b) true (by intro b; cases b <;> rfl)
  refine ⟨hok, ?_, hlen, hT (fun a b => a && b) false (by intro b; cases b <;> rfl), hE, ?_⟩
  · have : notT (V : Int) lX rX = tabN V ns root := by
      rw [notT_map, htab, notT_map, List.map_map]
      have : ((fun x : Bool => !x) ∘ fun x => !x) = id := by funext x; cases x <;> rfl
      rw [this, List.map_id]
    rw [this, hform]
  · have hall := bdd_draw V (twoT (fun a b => a || b) (V : Int) ns root lX rX) h6 (by unfold twoT; rw [tabF_length, Int.toNat_natCast])
    have htall := tab_draw V (twoT (fun a b => a || b) (V : Int) ns root lX rX) (by unfold twoT; rw [tabF_length, Int.toNat_natCast])
    rw [hE] at hall htall
    unfold countZ
    rw [if_pos h, if_pos hok, if_pos (by exact hall), Int.toNat_natCast, cnt_tab, cnt_tab, cnt_tab, htab]
    have h1 : tabN V [] 1 = twoT (fun a b => a || b) (V : Int) ns root lX rX := htall
    have h2 : twoT (fun a b => a || b) (V : Int) ns root lX rX = List.replicate (2 ^ V) true := by
      apply List.ext_getElem (by unfold twoT; rw [tabF_length, Int.toNat_natCast]; simp)
      intro i hi1 hi2
      have hi : i < 2 ^ V := by simpa using hi2
      have e := hX i hi
      simp [twoT, tabF, e]
    rw [h1, h2, notT_map, List.count_replicate_self]
    have hc := count_not (tabN V ns root)
    rw [tabN_length] at hc
    omega

end Go.Proofs.Ytknpifjkllcdeaa

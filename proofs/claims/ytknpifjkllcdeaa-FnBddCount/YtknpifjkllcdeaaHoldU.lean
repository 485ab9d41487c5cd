/-
  A region that draws its order, some cells being held up to one of its operations, number 'fin', which may write them; others may follow it.
-/
import Derived.Test.YtknpifjkllcdeaaHold
namespace Go.Proofs.Ytknpifjkllcdeaa
open Go.RowKit Go.Deep
set_option linter.unusedVariables false

section
variable {P : Program} {md : Region.Mode} {ops : Array Oper} {Q : Exit → Act → World → Prop} {S : World → Prop}

/-- Whatever comes up next; S holds behind each operation but the last, number 'fin'. -/
def wpAnyU (P : Program) (md : Region.Mode) (ops : Array Oper) (Q : Exit → Act → World → Prop) (S : World → Prop) (fin : Nat) : Nat → Array Bool → Act → World → Prop
  | 0, listed, a, w => Region.ready md ops listed = [] ∧ Q .normal a w
  | fuel + 1, listed, a, w => (Region.ready md ops listed = [] → Q .normal a w) ∧
      ∀ i ∈ Region.ready md ops listed, wpOp P ops Q i (fun a' w' => ((listed.setIfInBounds i true).getD fin true = false → S w') ∧ wpAnyU P md ops Q S fin fuel (listed.setIfInBounds i true) a' w') a w

theorem any_of_U {fin : Nat} : ∀ (fuel : Nat) (listed : Array Bool) (a : Act) (w : World), wpAnyU P md ops Q S fin fuel listed a w → wpAny P md ops Q fuel listed a w
  | 0, _, _, _, h => h
  | fuel + 1, _, _, _, h => ⟨h.1, fun i hi => wpOp_mono (fun a' w' k => any_of_U fuel _ a' w' k.2) (h.2 i hi)⟩

/-- Whether number 'k' waits for number 'i', itself or through others. -/
def reachB (md : Region.Mode) (ops : Array Oper) : Nat → Nat → Nat → Bool
  | 0, _, _ => false
  | f + 1, k, i => ((ops[k]?).map fun o => o.after.any fun e => Region.binds md e && (e.on == i || reachB md ops f e.on i)).getD false

/-- What is done has done ahead of it all that it waits for. -/
def Closed (md : Region.Mode) (ops : Array Oper) (listed : Array Bool) : Prop :=
  ∀ (k : Nat) (o : Oper), ops[k]? = some o → listed.getD k false = true → ∀ e ∈ o.after, Region.binds md e = true → listed.getD e.on false = true
def closedB (md : Region.Mode) (ops : Array Oper) (listed : Array Bool) : Bool :=
  (List.range ops.size).all fun k => !(listed.getD k false) || ((ops[k]?).map fun o => o.after.all fun e => !(Region.binds md e) || listed.getD e.on false).getD true

theorem closed_of {listed : Array Bool} (h : closedB md ops listed = true) : Closed md ops listed := by
  intro k o ho hk e he hb
  have hlt : k < ops.size := (Array.getElem?_eq_some_iff.1 ho).1
  unfold closedB at h
  rw [List.all_eq_true] at h
  have h1 := h k (List.mem_range.2 hlt)
  rw [hk, ho] at h1
  simp only [Bool.not_true, Bool.false_or, Option.map_some, Option.getD_some, Array.all_eq_true_iff_forall_mem, Bool.or_eq_true] at h1
  exact (h1 e he).resolve_left (by simp [hb])

theorem reach_listed {listed : Array Bool} (hc : Closed md ops listed) {i : Nat} : ∀ (f k : Nat) (o : Oper), ops[k]? = some o → (∀ e ∈ o.after, Region.binds md e = true → listed.getD e.on false = true) → reachB md ops f k i = true → listed.getD i false = true := by
  intro f
  induction f with
  | zero => intro k o _ _ h; simp [reachB] at h
  | succ f ih =>
    intro k o ho hall h
    simp only [reachB, ho, Option.map_some, Option.getD_some, Array.any_eq_true'] at h
    obtain ⟨e, he, h⟩ := h
    simp only [Bool.and_eq_true, Bool.or_eq_true, beq_iff_eq] at h
    obtain ⟨hb, h⟩ := h
    have hl := hall e he hb
    rcases h with h | h
    · rw [← h]; exact hl
    · cases f with
      | zero => simp [reachB] at h
      | succ f =>
        cases ho2 : ops[e.on]? with
        | none => simp [reachB, ho2] at h
        | some o2 => exact ih e.on o2 ho2 (hc e.on o2 ho2 hl) h

theorem not_listed {listed : Array Bool} {i : Nat} (h0 : listed.getD i true = false) (h1 : listed.getD i false = true) : False := by
  rcases Nat.lt_or_ge i listed.size with h' | h'
  · simp [h'] at h0 h1; rw [h0] at h1; cases h1
  · simp [Array.getElem?_eq_none h'] at h1

/-- What yields in every world in which S holds, and is waited for by number 'fin', may be taken ahead of all others. -/
theorem takeU_all {fin i : Nat} {oi : Oper} {v : Value} (hi : ops[i]? = some oi) (hs : Region.noSelect ops = true) (hw : reachB md ops 20 fin i = true) (hQ : ∀ c a w, Q (.panic c) (a.put oi.dst v) w → Q (.panic c) a w) :
    ∀ (fuel : Nat) (listed : Array Bool) (a : Act) (w : World), listed.getD fin true = false → Closed md ops listed → (∀ (j : Nat) (oj : Oper), ops[j]? = some oj → j ≠ i → listed.getD j true = false → (∀ e ∈ oj.after, Region.binds md e = true → e.on ≠ i) → oi.apart ops oj = true) →
      i ∈ Region.ready md ops listed → YieldsIf P ops S oi v a → S w → wpAnyU P md ops Q S fin fuel (listed.setIfInBounds i true) (a.put oi.dst v) w → wpAnyU P md ops Q S fin (fuel + 1) listed a w := by
  have hsel := Region.noSelect_spec hs
  intro fuel
  induction fuel with
  | zero =>
    intro listed a w _ _ _ hr hy hS H
    refine ⟨fun e => absurd (e ▸ hr) (by simp), fun j hj => ?_⟩
    by_cases hji : j = i
    · subst hji
      exact hy.wpOp hi hS ⟨fun _ => hS, H⟩
    · exact absurd (H.1 ▸ ready_mono hj hji) (by simp)
  | succ fuel ih =>
    intro listed a w hfn hcl hfree hr hy hS H
    refine ⟨fun e => absurd (e ▸ hr) (by simp), fun j hj => ?_⟩
    by_cases hji : j = i
    · subst hji
      exact hy.wpOp hi hS ⟨fun _ => hS, H⟩
    · obtain ⟨hjun, oj, hoj, hall⟩ := mem_ready.1 hj
      obtain ⟨hiun, oi', hoi', halli⟩ := mem_ready.1 hr
      have hwait : ∀ e ∈ oj.after, Region.binds md e = true → e.on ≠ i := by
        intro e he hb heq
        have h1 := hall e he hb
        rw [heq] at h1
        exact not_listed hiun h1
      have hjf : j ≠ fin := by
        intro e
        subst e
        exact not_listed hiun (reach_listed hcl 20 j oj hoj hall hw)
      have hif : i ≠ fin := by
        intro e
        subst e
        exact not_listed hiun (reach_listed hcl 20 i oi' hoi' halli hw)
      have hstep := wpOp_putIf hoj (hfree j oj hoj hji hjun hwait) (fun cs b => hsel i oi cs b hi) (fun cs b => hsel j oj cs b hoj) hQ hy (H.2 j (ready_mono hj hji))
      have hri : i ∈ Region.ready md ops (listed.setIfInBounds j true) := ready_mono hr (Ne.symm hji)
      have hcl' : Closed md ops (listed.setIfInBounds j true) := by
        intro k ok hok hk e he hb
        refine getD_set_true ?_
        by_cases hjk : j = k
        · subst hjk
          rw [hoj] at hok
          cases hok
          exact hall e he hb
        · rw [getD_set_ne false hjk] at hk
          exact hcl k ok hok hk e he hb
      refine wpOp_mono (fun a' w' h3 => ?_) hstep
      obtain ⟨hy', hS', hrest⟩ := h3
      have hfn' : (listed.setIfInBounds j true).getD fin true = false := by rw [getD_set_ne true hjf]; exact hfn
      have hSw : S w' := hS' (by rw [getD_set_ne true hjf, getD_set_ne true hif]; exact hfn)
      refine ⟨fun _ => hSw, ih (listed.setIfInBounds j true) a' w' hfn' hcl' ?_ hri hy' hSw ?_⟩
      · intro k ok hk hki hun hno
        refine hfree k ok hk hki ?_ hno
        by_cases hjk : j = k
        · subst hjk; exact hjun
        · rw [getD_set_ne true hjk] at hun; exact hun
      · rw [Array.setIfInBounds_comm _ _ hji]
        exact hrest

/-- One step of a walk: number i is taken. -/
theorem takeU {fin i : Nat} {oi : Oper} {v : Value} {fuel : Nat} {listed : Array Bool} {a : Act} {w : World} (hi : ops[i]? = some oi) (hn : listed.getD fin true = false) (hcl : closedB md ops listed = true) (hs : Region.noSelect ops = true) (hw : reachB md ops 20 fin i = true) (hf : Region.free md ops listed i = true)
    (hr : (Region.ready md ops listed).contains i = true) (hQ : ∀ c a w, Q (.panic c) (a.put oi.dst v) w → Q (.panic c) a w) (hy : YieldsIf P ops S oi v a) (hS : S w)
    (h : wpAnyU P md ops Q S fin fuel (listed.setIfInBounds i true) (a.put oi.dst v) w) : wpAnyU P md ops Q S fin (fuel + 1) listed a w :=
  takeU_all hi hs hw hQ fuel listed a w hn (closed_of hcl) (Region.free_spec hi hf) (by simpa using hr) hy hS h

/-- One step of a walk: number i alone can come up. -/
theorem oneU {fin i : Nat} {oi : Oper} {fuel : Nat} {listed : Array Bool} {a : Act} {w : World} (hr : Region.ready md ops listed = [i]) (hi : ops[i]? = some oi) (hwt : Region.wanted oi (yielded ops a.tmps) = true)
    (h : oi.wp P a w (fun a' w' => ((listed.setIfInBounds i true).getD fin true = false → S w') ∧ wpAnyU P md ops Q S fin fuel (listed.setIfInBounds i true) a' w') Q) : wpAnyU P md ops Q S fin (fuel + 1) listed a w := by
  refine ⟨fun e => absurd (hr ▸ e) (by simp), fun j hj => ?_⟩
  rw [hr] at hj
  obtain rfl : j = i := by simpa using hj
  unfold wpOp
  simp only [hi, hwt, if_true]
  exact .inl h

/-- One step of a walk: two may come up. -/
theorem twoU {fin i j : Nat} {oi oj : Oper} {fuel : Nat} {listed : Array Bool} {a : Act} {w : World} (hr : Region.ready md ops listed = [i, j]) (hi : ops[i]? = some oi) (hj : ops[j]? = some oj) (hwi : Region.wanted oi (yielded ops a.tmps) = true) (hwj : Region.wanted oj (yielded ops a.tmps) = true)
    (h1 : oi.wp P a w (fun a' w' => ((listed.setIfInBounds i true).getD fin true = false → S w') ∧ wpAnyU P md ops Q S fin fuel (listed.setIfInBounds i true) a' w') Q)
    (h2 : oj.wp P a w (fun a' w' => ((listed.setIfInBounds j true).getD fin true = false → S w') ∧ wpAnyU P md ops Q S fin fuel (listed.setIfInBounds j true) a' w') Q) : wpAnyU P md ops Q S fin (fuel + 1) listed a w := by
  refine ⟨fun e => absurd (hr ▸ e) (by simp), fun k hk => ?_⟩
  rw [hr] at hk
  unfold wpOp
  rcases List.mem_cons.1 hk with rfl | hk
  · simp only [hi, hwi, if_true]
    exact .inl h1
  · obtain rfl : k = j := by simpa using hk
    simp only [hj, hwj, if_true]
    exact .inl h2

theorem doneU {fin : Nat} {listed : Array Bool} {a : Act} {w : World} (hr : Region.ready md ops listed = []) (h : Q .normal a w) : ∀ fuel, wpAnyU P md ops Q S fin fuel listed a w
  | 0 => ⟨hr, h⟩
  | _ + 1 => ⟨fun _ => h, by rw [hr]; simp⟩

/-- A region of a round that draws its order, some cells being held up to its last operation. -/
theorem region_roundU {l n id fin : Nat} {a : Act} {w : World} (hm : P.follows .mixedOrders = true) (hd : noDefer ops = true) (hq : ¬ LetsOut Q) (hS : S w.drew)
    (h : S w.drew → wpAnyU P .any ops Q S fin ops.size (Array.replicate ops.size false) a w.drew) : (Code.region id ops true).wpIn (Fence.wide.inRound l) n P Q a w :=
  wpIn_region_any hm (anyIn_of_any (noDefer_spec hd) hq _ _ _ _ (any_of_U _ _ _ _ (h hS)))

/-- The same, of a region that stands in no round. -/
theorem region_U {id fin : Nat} {a : Act} {w : World} (hm : P.follows .mixedOrders = true) (hS : S w.drew)
    (h : S w.drew → wpAnyU P .any ops Q S fin ops.size (Array.replicate ops.size false) a w.drew) : (Code.region id ops true).wp P Q a w :=
  wp_region_any hm (any_of_U _ _ _ _ (h hS))
end

end Go.Proofs.Ytknpifjkllcdeaa

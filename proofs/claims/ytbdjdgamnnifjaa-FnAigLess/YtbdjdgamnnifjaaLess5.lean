/-
  A circuit without what is needless: the least set of nodes that holds all roots; memory while it is marked.
-/
import Derived.Test.YtbdjdgamnnifjaaLess3
import Derived.Test.YtbdjdgamnnifjaaNeed2X
namespace Go.Proofs.Ytbdjdgamnnifjaa
open Go.RowKit Go.Deep Go.Shelf
set_option linter.unusedVariables false

/-- The least closed set that holds all of a list. -/
structure LeastR (F : Nat) (xs : List (Int × Int)) (R : List Nat) (S : Nat → Bool) : Prop where
  has : ∀ n ∈ R, S n = true
  cl : Closed F xs S
  least : ∀ T : Nat → Bool, (∀ n ∈ R, T n = true) → Closed F xs T → ∀ k, S k = true → T k = true

theorem LeastR.uniq {F : Nat} {xs : List (Int × Int)} {R : List Nat} {S S' : Nat → Bool} (h : LeastR F xs R S) (h' : LeastR F xs R S') : S = S' := by
  funext k
  rw [Bool.eq_iff_iff]
  exact ⟨h.least S' h'.has h'.cl k, h'.least S h.has h.cl k⟩

theorem LeastR.nil (F : Nat) (xs : List (Int × Int)) : LeastR F xs [] (fun _ => false) := by
  refine ⟨fun n h => ?_, fun m _ _ h => ?_, fun T _ _ k h => ?_⟩
  · cases h
  · cases h
  · cases h

theorem LeastR.more {F : Nat} {xs : List (Int × Int)} {R : List Nat} {n N : Nat} {S S' : Nat → Bool} (h : LeastR F xs R S) (hp : MarkPost F xs S n N S') (hN : F + xs.length ≤ N) : LeastR F xs (R ++ [n]) S' := by
  refine ⟨fun k hk => ?_, fun m h1 h2 h3 => hp.cb m h1 h2 (by omega) h3, fun T hT hc k hk => ?_⟩
  · rcases List.mem_append.1 hk with hk | hk
    · exact hp.sub k (h.has k hk)
    · obtain rfl : k = n := by simpa using hk
      exact hp.has
  · exact hp.least T (h.least T (fun n hn => hT n (List.mem_append.2 (.inl hn))) hc) (hT n (List.mem_append.2 (.inr (by simp)))) hc k hk

theorem LeastR.cb {F : Nat} {xs : List (Int × Int)} {R : List Nat} {S : Nat → Bool} (h : LeastR F xs R S) (N : Nat) : ClosedB F xs N S := fun m h1 h2 _ h4 => h.cl m h1 h2 h4

/-- The nodes of a list of literals. -/
def nodesL (zs : List Int) : List Nat := zs.map fun x => (x / 2).toNat
/-- The nodes that a circuit is for. -/
def rootsOf (ls : List (Int × Bool)) (bs : List Int) : List Nat := nodesL (ls.map Prod.fst) ++ nodesL bs

theorem nodesL_take_succ (zs : List Int) (j : Nat) (h : j < zs.length) : nodesL (zs.take (j + 1)) = nodesL (zs.take j) ++ [(zs.getD j 0 / 2).toNat] := by
  rw [List.take_succ_eq_append_getElem h]
  have e : zs.getD j 0 = zs[j] := by simp [List.getD, h]
  rw [e]
  unfold nodesL
  rw [List.map_append]
  rfl

/-- While nodes are marked. -/
structure Pst (w wr : World) (B Q N M : Nat) (inp : Int) (c1 c2 c3 : Value) (S : Nat → Bool) : Prop where
  b : Own4 wr B 33 (.int .i64 inp) c1 c2 c3
  q : Own4 wr Q 33 (.int .i64 0) (.slice none 0 0) (.slice none 0 0) (.slice none 0 0)
  row : wr.rowIs N 4 M (setF S)
  bel : Below w.heap.size w wr
  wb : w.heap.size ≤ B
  wq : w.heap.size ≤ Q
  wn : w.heap.size ≤ N
  bq : B ≠ Q
  bn : B ≠ N
  qn : Q ≠ N

section
variable {w wr w' : World} {B Q N M : Nat} {inp : Int} {c1 c2 c3 : Value} {S S' : Nat → Bool}
theorem Pst.below (h : Pst w wr B Q N M inp c1 c2 c3 S) (hb : Below wr.heap.size wr w') : Pst w w' B Q N M inp c1 c2 c3 S :=
  ⟨h.b.below hb, h.q.below hb, h.row.of_block (hb.block _ h.row.lt), belNext h.bel hb, h.wb, h.wq, h.wn, h.bq, h.bn, h.qn⟩
theorem Pst.mark (h : Pst w wr B Q N M inp c1 c2 c3 S) (hr : w'.rowIs N 4 M (setF S')) (hc : Chg (· = N) wr w') : Pst w w' B Q N M inp c1 c2 c3 S' :=
  ⟨h.b.chg hc h.bn, h.q.chg hc h.qn, hr, Chg.below h.bel h.bel.size hc (fun k e => by have e' : k = N := e; have := h.wn; omega), h.wb, h.wq, h.wn, h.bq, h.bn, h.qn⟩
end

theorem aheadA {F : Nat} {xs : List (Int × Int)} (h : AndsOk F xs) : Ahead F xs := fun m h1 h2 => by
  obtain ⟨⟨a0, a1⟩, b0, b1⟩ := h (m - F) (by omega)
  unfold kidA kidB
  omega

theorem smallA {F : Nat} {xs : List (Int × Int)} (h : AndsOk F xs) (hs : F + xs.length ≤ 100) : ∀ p ∈ xs, (0 ≤ p.1 ∧ p.1 ≤ 1000) ∧ (0 ≤ p.2 ∧ p.2 ≤ 1000) := fun p hp => by
  obtain ⟨i, hi, rfl⟩ := List.getElem_of_mem hp
  have := h i hi
  rw [show xs.getD i (0, 0) = xs[i] by simp [List.getD, hi]] at this
  omega

/-- What l3Prune holds behind so many nodes. -/
def prS (F : Nat) (xs : List (Int × Int)) (S : Nat → Bool) (n : Nat) : List Int × List (Int × Int) := if n ≤ F then ((start2 F).take n, []) else pruneS F xs S (n - F)

theorem prS_zero (F : Nat) (xs : List (Int × Int)) (S : Nat → Bool) : prS F xs S 0 = ([], []) := by unfold prS; rw [if_pos (Nat.zero_le _)]; rfl
theorem prS_lo {F n : Nat} {xs : List (Int × Int)} {S : Nat → Bool} (h : n < F) : prS F xs S (n + 1) = ((prS F xs S n).1 ++ [2 * (n : Int)], (prS F xs S n).2) := by
  unfold prS
  rw [if_pos (by omega), if_pos (by omega), start2_take_succ F n h]
theorem prS_ge {F n : Nat} {xs : List (Int × Int)} {S : Nat → Bool} (h : F ≤ n) : prS F xs S n = pruneS F xs S (n - F) := by
  unfold prS
  by_cases e : n ≤ F
  · obtain rfl : n = F := by omega
    rw [if_pos e, Nat.sub_self, List.take_of_length_le (by rw [start2_length]; exact Nat.le_refl _)]
    rfl
  · rw [if_neg e]
theorem prS_hi {F n : Nat} {xs : List (Int × Int)} {S : Nat → Bool} (h : F ≤ n) : prS F xs S (n + 1) = pruneStep F S (n - F) (prS F xs S n) (xs.getD (n - F) (0, 0)) := by
  rw [prS_ge h, prS_ge (by omega), show n + 1 - F = (n - F) + 1 by omega]
  rfl

theorem prS_ok {F : Nat} (hF : 1 ≤ F) {xs : List (Int × Int)} (hx : AndsOk F xs) (S : Nat → Bool) {n : Nat} (hn : n ≤ F + xs.length) : (prS F xs S n).1.length = n ∧ (prS F xs S n).2.length ≤ n - F ∧ ∀ i, i < n → 0 ≤ (prS F xs S n).1.getD i 0 ∧ (prS F xs S n).1.getD i 0 ≤ 2 * ((F + (prS F xs S n).2.length : Nat) : Int) := by
  by_cases e : n ≤ F
  · unfold prS
    rw [if_pos e]
    refine ⟨by simp [start2_length]; omega, Nat.zero_le _, fun i hi => ?_⟩
    have h1 : ((start2 F).take n).getD i 0 = 2 * (i : Int) := by
      rw [List.getD, List.getElem?_take_of_lt hi, ← List.getD, start2_get F i (by omega)]
    rw [h1]
    simp only [List.length_nil]
    omega
  · obtain ⟨h1, h2, h3⟩ := pruneS_ok F hF xs hx S (n - F) (by omega)
    rw [prS_ge (by omega)]
    exact ⟨by omega, h3, fun i hi => h2 i (by omega)⟩

theorem rowIs_grown {w w' : World} {N M base : Nat} {t : TypeId} {f : Nat → Value} {e s n : Nat} {v : Value} {zs : List Value} (h : w.rowIs N t M f) (hg : w.grownBy w' v.ownBlock) (ho : w.ownsRow base e s v n zs) (hN : N < base) : w'.rowIs N t M f := h.of_block (hg.block _ h.lt (fun e => by have := (World.ownsRow.lt ho N e.symm).1; omega))
theorem rowIs_setC {w : World} {N M C i : Nat} {t : TypeId} {f : Nat → Value} (h : w.rowIs N t M f) (hN : N ≠ C) (u : Value) : (w.setCell ⟨C, i, none⟩ u).rowIs N t M f := h.of_block (blk_setCell_other _ _ _ _ hN)

theorem cellOfBlock {w w' : World} {b i : Nat} (e : w'.heap[b]? = w.heap[b]?) : w'.cell? ⟨b, i, none⟩ = w.cell? ⟨b, i, none⟩ := by simp [World.cell?, e]

/-- One step of a walk: two may come up. -/
theorem twoH {P : Program} {md : Region.Mode} {ops : Array Oper} {Q : Exit → Act → World → Prop} {S : World → Prop} {i j : Nat} {oi oj : Oper} {fuel : Nat} {listed : Array Bool} {a : Act} {w : World} (hr : Region.ready md ops listed = [i, j]) (hi : ops[i]? = some oi) (hj : ops[j]? = some oj) (hwi : Region.wanted oi (yielded ops a.tmps) = true) (hwj : Region.wanted oj (yielded ops a.tmps) = true)
    (h1 : oi.wp P a w (fun a' w' => S w' ∧ wpAnyH P md ops Q S fuel (listed.setIfInBounds i true) a' w') Q) (h2 : oj.wp P a w (fun a' w' => S w' ∧ wpAnyH P md ops Q S fuel (listed.setIfInBounds j true) a' w') Q) : wpAnyH P md ops Q S (fuel + 1) listed a w := by
  refine wpAnyH_all hr (by simp) fun k hk => ?_
  unfold wpOp
  rcases List.mem_cons.1 hk with rfl | hk
  · simp only [hi, hwi, if_true]
    exact .inl h1
  · obtain rfl : k = j := by simpa using hk
    simp only [hj, hwj, if_true]
    exact .inl h2

end Go.Proofs.Ytbdjdgamnnifjaa

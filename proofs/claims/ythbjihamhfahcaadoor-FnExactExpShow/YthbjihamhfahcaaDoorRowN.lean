/-
  Rows of a call's own in memory, whatever their elements: what keeps them, and what grows.
-/
import Derived.Test.YthbjihamhfahcaaDoorChg
import Derived.Test.YthbjihamhfahcaaDoorHoldU
import Derived.Deep.AppendLies
import Derived.OneCell
namespace Go.Proofs.YthbjihamhfahcaaDoor
open Go.RowKit Go.Deep
set_option linter.unusedVariables false

theorem row_of_block {w w' : World} {base : Nat} {e : TypeId} {size : Nat} {v : Value} {n : Nat} {xs : List Value} (h : w.ownsRow base e size v n xs) (hk : ∀ k, v.ownBlock = some k → w'.heap[k]? = w.heap[k]?) : w'.ownsRow base e size v n xs := by
  refine ⟨h.1, ?_⟩
  rcases h.2 with h2 | ⟨g, cap, cur, hv, hg, hh, r⟩
  · exact .inl h2
  · exact .inr ⟨g, cap, cur, hv, hg, (hk g (by rw [hv]; rfl)).trans hh, r⟩
/-- Rows of two kinds lie in two blocks. -/
theorem rows_apart {w : World} {b1 b2 : Nat} {e1 e2 : TypeId} {s1 s2 : Nat} {v1 v2 : Value} {n1 n2 : Nat} {x1 x2 : List Value} (h1 : w.ownsRow b1 e1 s1 v1 n1 x1) (h2 : w.ownsRow b2 e2 s2 v2 n2 x2) (hne : e1 ≠ e2) (k : Nat) (k1 : v1.ownBlock = some k) : v2.ownBlock ≠ some k := by
  intro k2
  rcases h1.2 with ⟨h3, _⟩ | ⟨g1, c1, cur1, h3, _, hh1, _⟩
  · rw [h3] at k1; cases k1
  rcases h2.2 with ⟨h4, _⟩ | ⟨g2, c2, cur2, h4, _, hh2, _⟩
  · rw [h4] at k2; cases k2
  rw [h3] at k1
  rw [h4] at k2
  have e1' : g1 = k := Option.some.inj k1
  have e2' : g2 = k := Option.some.inj k2
  subst e1'
  subst e2'
  rw [hh1] at hh2
  injection hh2 with h
  injection h with _ h
  exact hne h
theorem row_slice {w : World} {base : Nat} {e : TypeId} {size : Nat} {v : Value} {n : Nat} {xs : List Value} (h : w.ownsRow base e size v n xs) : ∃ ao cap, v = .slice ao n cap := by
  rcases h.2 with ⟨h2, h3⟩ | ⟨g, cap, cur, h2, _⟩
  · rw [h3]; exact ⟨_, _, h2⟩
  · exact ⟨_, _, h2⟩
theorem row_base {w : World} {b b' : Nat} {e : TypeId} {s : Nat} {v : Value} {n : Nat} {xs : List Value} (h : w.ownsRow b e s v n xs) (hb : b' ≤ b) : w.ownsRow b' e s v n xs := by
  refine ⟨h.1, ?_⟩
  rcases h.2 with h2 | ⟨g, cap, cur, hv, hg, r⟩
  · exact .inl h2
  · exact .inr ⟨g, cap, cur, hv, by omega, r⟩
theorem chg_of_grown {wr w' : World} {row : Option Nat} (hg : wr.grownBy w' row) : Chg (fun k => row = some k) wr w' := ⟨hg.os, hg.tape, hg.output, hg.size, fun k hk hp => hg.block k hk (fun e => hp e.symm)⟩
theorem row_below {w w' : World} {lo : Nat} {e s n : Nat} {v : Value} {zs : List Value} (h : w.ownsRow lo e s v n zs) (hb : Below w.heap.size w w') : w'.ownsRow lo e s v n zs := row_of_block h (fun k e => hb.block k (World.ownsRow.lt h k e).2)
theorem row_ne {w : World} {lo : Nat} {e : TypeId} {sz n : Nat} {v : Value} {zs : List Value} (h : w.ownsRow lo e sz v n zs) {k : Nat} {cs : Array Value} {t : TypeId} {fz : Nat × Nat} (hk : w.heap[k]? = some (.cells cs t fz)) (ht : t ≠ e) : v.ownBlock ≠ some k := fun e2 => by
  rcases h.2 with ⟨h5, _⟩ | ⟨g, cap, cur, h5, _, hh, _⟩
  · rw [h5] at e2; cases e2
  · rw [h5] at e2
    have e' : g = k := Option.some.inj e2
    subst e'
    rw [hh] at hk
    injection hk with hk
    injection hk with _ hk
    exact ht hk.symm
theorem row_cells {w : World} {lo : Nat} {e : TypeId} {sz n : Nat} {v : Value} {zs : List Value} (h : w.ownsRow lo e sz v n zs) {k : Nat} (hk : v.ownBlock = some k) : ∃ cs, w.heap[k]? = some (.cells cs e (0, 0)) := by
  rcases h.2 with ⟨h5, _⟩ | ⟨g, cap, cur, h5, _, hh, _⟩
  · rw [h5] at hk; cases hk
  · rw [h5] at hk
    have e' : g = k := Option.some.inj hk
    subst e'
    exact ⟨_, hh⟩
theorem row_addr {w : World} {lo : Nat} {e : TypeId} {s n cap : Nat} {ao : Option Addr} {zs : List Value} (h : w.ownsRow lo e s (.slice ao n cap) n zs) {k off : Nat} (hk : ao = some ⟨k, off, none⟩) : (Value.slice ao n cap).ownBlock = some k ∧ ∃ cs, w.heap[k]? = some (.cells cs e (0, 0)) := by
  rcases h.2 with ⟨h3, _⟩ | ⟨g1, c1, cur1, h3, _, hh1, _⟩
  · cases h3; cases hk
  · cases h3; cases hk
    exact ⟨rfl, _, hh1⟩
theorem cur_row {w : World} {g cap s n : Nat} {e : TypeId} {cur : Array Value} {fz : Nat × Nat} (d : Value) (hh : w.heap[g]? = some (.cells cur e (0, 0))) (hsz : cur.size = cap * s) : w.rowIs g e (cap * s) (fun i => cur.getD i d) :=
  ⟨cur, hh, hsz, fun i hi => by rw [Array.getElem?_eq_getElem (by omega)]; simp [Array.getD, show i < cur.size by omega]⟩
theorem cellOfBlock {w w' : World} {b i : Nat} (e : w'.heap[b]? = w.heap[b]?) : w'.cell? ⟨b, i, none⟩ = w.cell? ⟨b, i, none⟩ := by simp [World.cell?, e]
theorem chg_grown {w w1 w' : World} {v : Value} (hb : Below w.heap.size w w1) (hg : w1.grownBy w' v.ownBlock) : Chg (fun k => v.ownBlock = some k) w w' :=
  (Chg.of_below hb).trans ⟨hg.os, hg.tape, hg.output, hg.size, fun k hk hp => hg.block k hk (fun e => hp e.symm)⟩
theorem row_in {wr : World} {base e s n cap : Nat} {ao : Option Addr} {zs : List Value} (h : wr.ownsRow base e s (.slice ao n cap) n zs) : ∀ b off, ao = some ⟨b, off, none⟩ → b < wr.heap.size := by
  intro b off e1
  rcases h.2 with ⟨h3, _⟩ | ⟨g1, c1, cur1, h3, _, hh1, _⟩
  · cases h3; cases e1
  · cases h3; cases e1
    exact (Array.getElem?_eq_some_iff.1 hh1).1


end Go.Proofs.YthbjihamhfahcaaDoor

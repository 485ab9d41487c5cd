/-
  Memory of drawn clauses whose struct may lie behind their rows.
-/
import Derived.Test.YtepamfkbeccmaaaDraw4
namespace Go.Proofs.Ytepamfkbeccmaaa
open Go.RowKit Go.Deep
set_option linter.unusedVariables false

theorem ownsRow_type {w : World} {base : Nat} {e : TypeId} {size : Nat} {v : Value} {n : Nat} {xs : List Value} (h : w.ownsRow base e size v n xs) : ∀ k, v.ownBlock = some k → ∃ c f, w.heap[k]? = some (.cells c e f) := by
  intro k hk
  rcases h.2 with ⟨h2, _⟩ | ⟨g, cap, cur, hv, _, hh, _⟩
  · rw [h2] at hk; cases hk
  · rw [hv] at hk
    have e' : g = k := Option.some.inj hk
    subst e'
    exact ⟨_, _, hh⟩

theorem Grid.keepT {w w' : World} {base : Nat} {v : Value} {css : List (List Int)} (h : Grid w base v css) (hk : ∀ k c t f, base ≤ k → w.heap[k]? = some (.cells c t f) → t ≠ 25 → w'.heap[k]? = w.heap[k]?) : Grid w' base v css := by
  obtain ⟨vs, h1, h2⟩ := h
  refine ⟨vs, ownsRow_of_block h1 (fun k e => ?_), fun i hi => ?_⟩
  · obtain ⟨c, f, hc⟩ := ownsRow_type h1 k e
    exact hk k c _ f (World.ownsRow.lt h1 k e).1 hc (by decide)
  · obtain ⟨rv, h3, h4⟩ := h2 i hi
    refine ⟨rv, h3, h4.of_block (fun k e => ?_)⟩
    obtain ⟨c, f, hc⟩ := ownsRow_type h4 k e
    exact hk k c _ f (h4.blk_lt k e).1 hc (by decide)

theorem Grid.keepSet {w : World} {base : Nat} {v : Value} {css : List (List Int)} (h : Grid w base v css) {b : Nat} {a0 a1 : Value} (hb : Blk w b a0 a1) (i : Nat) (u : Value) : Grid (w.setCell ⟨b, i, none⟩ u) base v css :=
  h.keepT (fun k c t f _ hc ht => Below.heap_setCell w _ _ k (fun e => by
    have e' : k = b := e
    subst e'
    unfold Blk at hb
    rw [hb] at hc
    cases hc
    exact ht rfl))

structure Su (w wr : World) (R : Nat) (v : Value) (bs : List Int) (p : Nat) (Q C base : Nat) (vars : Int) (o : Value) (css : List (List Int)) : Prop where
  q : Blk wr Q (.int .i64 0) (.slice none 0 0)
  c : Blk wr C (.int .i64 vars) o
  grid : Grid wr base o css
  rd : Rd wr R v bs p
  old : Old R w.heap.size w wr
  size : base ≤ wr.heap.size
  qw : w.heap.size ≤ Q
  cw : w.heap.size ≤ C
  bw : w.heap.size ≤ base
  qc : Q ≠ C
  thin : ∀ i, i < css.length → (css.getD i []).length ≤ 9

section
variable {w wr w1 : World} {R : Nat} {v : Value} {bs : List Int} {p Q C base : Nat} {vars : Int} {o : Value} {css : List (List Int)}

theorem grown_set (w : World) (a : Addr) (u : Value) : w.grownBy (w.setCell a u) (some a.block) := ⟨rfl, rfl, rfl, by simp [World.setCell], fun k hk hne => Below.heap_setCell w _ _ k (fun e => hne (by rw [e]))⟩

theorem Su.pick (h : Su w wr R v bs p Q C base vars o css) (hR : R < w.heap.size) {p1 : Nat} (hrd : Rd w1 R v bs p1) (hg : wr.grownBy w1 (some R)) : Su w w1 R v bs p1 Q C base vars o css := by
  have h1 := h.qw
  have h2 := h.cw
  have h3 := h.bw
  exact ⟨h.q.grown hg (fun e => by have := Option.some.inj e; omega), h.c.grown hg (fun e => by have := Option.some.inj e; omega),
    h.grid.keep (fun k hk hlt => hg.block k hlt (fun e => by have := Option.some.inj e; omega)), hrd, h.old.grown hg (by have := h.size; omega) (fun q e => .inr (Option.some.inj e).symm), Nat.le_trans h.size hg.size, h1, h2, h3, h.qc, h.thin⟩

theorem Su.alloc (h : Su w wr R v bs p Q C base vars o css) (ob : Obj) : Su w (wr.alloc ob) R v bs p Q C base vars o css := by
  have hs := h.size
  have h3 := h.bw
  exact ⟨h.q.below (belOne _ _), h.c.below (belOne _ _), h.grid.keep (fun k hk hlt => (belOne wr ob).block k hlt), h.rd.grown (World.grownBy_alloc wr ob none) (by simp) (by simp), h.old.below (belOne _ _) (by omega), by simp; omega, h.qw, h.cw, h3, h.qc, h.thin⟩

theorem Su.drew (h : Su w wr R v bs p Q C base vars o css) : Su w wr.drew R v bs p Q C base vars o css :=
  ⟨h.q, h.c, h.grid, ⟨h.rd.lt, h.rd.c0, h.rd.c1, h.rd.f1, h.rd.small, h.rd.form, h.rd.byte⟩, h.old, h.size, h.qw, h.cw, h.bw, h.qc, h.thin⟩

theorem Su.revar (h : Su w wr R v bs p Q C base vars o css) (hR : R < w.heap.size) (hvb : ∀ ao n cap b off, v = .slice ao n cap → ao = some ⟨b, off, none⟩ → b < w.heap.size) (n : Int) : Su w (wr.setCell ⟨C, 0, none⟩ (.int .i64 n)) R v bs p Q C base n o css := by
  have hs := h.size
  have h2 := h.cw
  have h3 := h.bw
  have hg := grown_set wr ⟨C, 0, none⟩ (.int .i64 n)
  exact ⟨h.q.setOther h.qc _, h.c.set0 _, h.grid.keepSet h.c 0 _,
    h.rd.own hg hR hvb (fun k e => by have : C = k := Option.some.inj e; omega), h.old.grown hg (by omega) (fun k e => .inl (by have : C = k := Option.some.inj e; omega)), Nat.le_trans hs hg.size, h.qw, h2, h3, h.qc, h.thin⟩

theorem Su.push {wa w4 : World} {g cap : Nat} {rv : Value} {xs : List Int} {vs : List Value} (h : Su w wa R v bs p Q C base vars o css) (hR : R < w.heap.size) (hvb : ∀ ao n cap b off, v = .slice ao n cap → ao = some ⟨b, off, none⟩ → b < w.heap.size)
    (h1 : wa.ownsRow base 31 1 o css.length vs) (h2 : ∀ i, i < css.length → ∃ rv, vs[i]? = some rv ∧ Owns wa base rv (css.getD i [])) (hx : Owns wa base rv xs) (hxl : xs.length ≤ 9)
    (hg : wa.grownBy w4 o.ownBlock) (ho : w4.ownsRow base 31 1 (.slice (some ⟨g, 0, none⟩) (css.length + 1) cap) (css.length + 1) (vs ++ [rv])) :
    Su w (w4.setCell ⟨C, 1, none⟩ (.slice (some ⟨g, 0, none⟩) (css.length + 1) cap)) R v bs p Q C base vars (.slice (some ⟨g, 0, none⟩) (css.length + 1) cap) (css ++ [xs]) := by
  have hs := h.size
  have h4 := h.cw
  have h3 := h.bw
  have hob : ∀ k, o.ownBlock = some k → base ≤ k := fun k e => (World.ownsRow.lt h1 k e).1
  have hbne : ∀ b a0 a1, Blk wa b a0 a1 → some b ≠ o.ownBlock := fun b a0 a1 hb e => by
    obtain ⟨c, f, hc⟩ := ownsRow_type h1 b e.symm
    unfold Blk at hb
    rw [hb] at hc
    cases hc
  have hgr := Grid.snoc h1 h2 hx hg ho
  have hs4 : base ≤ w4.heap.size := Nat.le_trans hs hg.size
  have hc4 := h.c.grown hg (hbne _ _ _ h.c)
  have hg4 := grown_set w4 ⟨C, 1, none⟩ (.slice (some ⟨g, 0, none⟩) (css.length + 1) cap)
  refine ⟨(h.q.grown hg (hbne _ _ _ h.q)).setOther h.qc _, hc4.set1 _, hgr.keepSet hc4 1 _,
    (h.rd.own hg hR hvb (fun k e => by have := hob k e; omega)).own hg4 hR hvb (fun k e => by have : C = k := Option.some.inj e; omega),
    (h.old.grown hg (by omega) (fun k e => .inl (by have := hob k e; omega))).grown hg4 (by omega) (fun k e => .inl (by have : C = k := Option.some.inj e; omega)), Nat.le_trans hs4 hg4.size, h.qw, h4, h3, h.qc, fun i hi => ?_⟩
  rw [List.length_append] at hi
  by_cases e : i < css.length
  · have : (css ++ [xs]).getD i [] = css.getD i [] := by simp [List.getD, List.getElem?_append_left e]
    rw [this]; exact h.thin i e
  · have hi' : i = css.length := by simp at hi; omega
    subst hi'
    have : (css ++ [xs]).getD css.length [] = xs := by simp [List.getD]
    rw [this]; exact hxl

theorem Su.done (h : Su w wr R v bs p Q C base vars o css) (hR : R < w.heap.size) (hvb : ∀ ao n cap b off, v = .slice ao n cap → ao = some ⟨b, off, none⟩ → b < w.heap.size) (a b : Value) :
    Grid ((wr.setCell ⟨Q, 0, none⟩ a).setCell ⟨Q, 1, none⟩ b) base o css ∧ Rd ((wr.setCell ⟨Q, 0, none⟩ a).setCell ⟨Q, 1, none⟩ b) R v bs p ∧ Old R w.heap.size w ((wr.setCell ⟨Q, 0, none⟩ a).setCell ⟨Q, 1, none⟩ b) := by
  have hs := h.size
  have h1 := h.qw
  have h3 := h.bw
  have hg1 := grown_set wr ⟨Q, 0, none⟩ a
  have hg2 := grown_set (wr.setCell ⟨Q, 0, none⟩ a) ⟨Q, 1, none⟩ b
  have hs2 : base ≤ (wr.setCell ⟨Q, 0, none⟩ a).heap.size := Nat.le_trans hs hg1.size
  exact ⟨(h.grid.keepSet h.q 0 _).keepSet (h.q.set0 a) 1 _,
    (h.rd.own hg1 hR hvb (fun k e => by have : Q = k := Option.some.inj e; omega)).own hg2 hR hvb (fun k e => by have : Q = k := Option.some.inj e; omega),
    (h.old.grown hg1 (by omega) (fun k e => .inl (by have : Q = k := Option.some.inj e; omega))).grown hg2 (by omega) (fun k e => .inl (by have : Q = k := Option.some.inj e; omega))⟩
end

set_option maxHeartbeats 1000000 in
theorem one_any (R : Nat) (v : Value) (bs : List Int) (p : Nat) (b off n cap : Nat) (xs : List Int) (w : World) (hr : Rd w R v bs p) (hp : p ≤ 500000) (hn : xs.length = n) (h0 : 0 < n) (h9 : n ≤ 9) (hb : b ≠ R) (hc : ∀ i, i < n → w.cell? ⟨b, off + i, none⟩ = some (.int .i64 (xs.getD i 0))) :
    Calls Try.prog 20 #[.pointer (some ⟨R, 0, none⟩), .slice (some ⟨b, off, none⟩) n cap] w fun e w' => ∃ x : Int, e = .returned (.int .i64 x) ∧ x ∈ xs ∧ Rd w' R v bs (p + 1) ∧ w.grownBy w' (some R) ∧ w'.heap.size = w.heap.size := by
  have HC : Hid (∀ i, i < n → w.cell? ⟨b, off + i, none⟩ = some (.int .i64 (xs.getD i 0))) := hc
  have HN : Hid (xs.length = n) := hn
  clear hc hn
  go_enter Try.func20, Try.ntmps20
  go_wp2_with fail
  refine (pick_any R v bs p _ _ hr (by omega) (by omega)).mono ?_
  rintro e w1 ⟨x, rfl, hx0, hx1, hx2, hrd1, hg1, hs1⟩
  have hxn : x < n := hx1 (by omega)
  obtain ⟨i, rfl⟩ := Int.eq_ofNat_of_zero_le hx0
  have hi : i < n := by omega
  have hcell : w1.cell? ⟨b, off + i, none⟩ = some (.int .i64 (xs.getD i 0)) := hg1.cell (HC.out i hi) (fun e => hb (Option.some.inj e))
  have HMEM : Hid (xs.getD i 0 ∈ xs) := by
    have hi' : i < xs.length := by rw [HN.out]; exact hi
    show xs.getD i 0 ∈ xs
    rw [List.getD, List.getElem?_eq_getElem hi']; simp
  have HR1 : Hid (Rd w1 R v bs (p + 1)) := hrd1
  have HG1 : Hid (w.grownBy w1 (some R)) := hg1
  have HS1 : Hid (w1.heap.size = w.heap.size) := hs1
  clear hrd1 hg1 hs1 hx1 hx2
  generalize xs.getD i 0 = z at *
  go_wp2
  go_ret
  exact ⟨z, rfl, HMEM.out, HR1.out, HG1.out, HS1.out⟩

end Go.Proofs.Ytepamfkbeccmaaa

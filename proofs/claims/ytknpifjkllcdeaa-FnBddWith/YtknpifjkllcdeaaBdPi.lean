/-
  Two places of a diagram that say the same are the same; a diagram with a variable told has no more nodes, plain facts.
-/
import Derived.Test.YtknpifjkllcdeaaBdPc
namespace Go.Proofs.Ytknpifjkllcdeaa
set_option linter.unusedVariables false

/-- What a node of a fine diagram keeps, as places. -/
structure NodeU (V : Nat) (ns : List Nd) (j x : Nat) (lo hi : Int) : Prop where
  nd : ns.getD j (0, 0, 0) = ((x : Int), lo, hi)
  xV : x < V
  ne : lo ≠ hi
  lou : Up ns (x + 1) lo
  hiu : Up ns (x + 1) hi
  lol : lo < 2 + (j : Int)
  hil : hi < 2 + (j : Int)

theorem up_of_below {ns : List Nd} {j x : Nat} {p : Int} (hj : j < ns.length) (h : belowB ns j (x : Int) p = true) : Up ns (x + 1) p ∧ p < 2 + (j : Int) := by
  unfold belowB at h
  simp only [Bool.and_eq_true, Bool.or_eq_true, decide_eq_true_eq] at h
  obtain ⟨h0, h1, h2⟩ := h
  exact ⟨⟨h0, by omega, h2.imp id (fun h => by omega)⟩, h1⟩

theorem wf_nodeU {V : Nat} {ns : List Nd} (h : Wf V ns) {j : Nat} (hj : j < ns.length) : ∃ x lo hi, NodeU V ns j x lo hi := by
  obtain ⟨h1, h2, h3⟩ := h j hj
  unfold nodeB at h1
  simp only [Bool.and_eq_true, decide_eq_true_eq] at h1
  obtain ⟨⟨a0, a1⟩, b1, b2⟩ := h1
  have hx : ((ns.getD j (0, 0, 0)).1.toNat : Int) = (ns.getD j (0, 0, 0)).1 := by omega
  rw [← hx] at b1 b2
  obtain ⟨u1, l1⟩ := up_of_below hj b1
  obtain ⟨u2, l2⟩ := up_of_below hj b2
  exact ⟨_, _, _, ⟨by rw [hx], by omega, h2, u1, u2, l1, l2⟩⟩

theorem evN_at {V : Nat} {ns : List Nd} (h : Wf V ns) {j x : Nat} {lo hi : Int} (hj : j < ns.length) (hn : NodeU V ns j x lo hi) (ws : List Bool) : evN ns (2 + (j : Int)) ws = if ws.getD x false = true then evN ns hi ws else evN ns lo ws := by
  rw [evN_node h hj ws, hn.nd]
  simp only [Int.toNat_natCast]

theorem getD_set_ne' (ws : List Bool) (u x : Nat) (b : Bool) (h : x ≠ u) : (ws.set u b).getD x false = ws.getD x false := by
  rw [List.getD, List.getD, List.getElem?_set_ne (Ne.symm h)]
theorem getD_set_eq' (ws : List Bool) (u : Nat) (b : Bool) (h : u < ws.length) : (ws.set u b).getD u false = b := by
  rw [List.getD, List.getElem?_set_self h]; rfl

/-- What a place says does not turn with a variable ahead of it. -/
theorem evN_set {V : Nat} {ns : List Nd} (h : Wf V ns) (u : Nat) (b : Bool) : ∀ (n : Nat) (p : Int), p.toNat < n → Up ns (u + 1) p → ∀ ws : List Bool, evN ns p (ws.set u b) = evN ns p ws := by
  intro n
  induction n with
  | zero => intro p hp; omega
  | succ n ih =>
    intro p hp hu ws
    by_cases h2 : p < 2
    · have : p = 0 ∨ p = 1 := by have := hu.1; omega
      rcases this with rfl | rfl
      · exact (evN_end ns false _).trans (evN_end ns false _).symm
      · exact (evN_end ns true _).trans (evN_end ns true _).symm
    · obtain ⟨j, rfl⟩ : ∃ j : Nat, p = 2 + (j : Int) := ⟨(p - 2).toNat, by omega⟩
      have hj : j < ns.length := by have := hu.2.1; omega
      obtain ⟨x, lo, hi, hn⟩ := wf_nodeU h hj
      have hux : u < x := by
        rcases hu.2.2 with h3 | h3
        · omega
        · rw [show (2 + (j : Int) - 2).toNat = j by omega, hn.nd] at h3
          simp only at h3
          omega
      rw [evN_at h hj hn, evN_at h hj hn, getD_set_ne' ws u x b (by omega), ih lo (by have := hn.lol; have := hn.lou.1; omega) (hn.lou.less (by omega)) ws, ih hi (by have := hn.hil; have := hn.hiu.1; omega) (hn.hiu.less (by omega)) ws]

theorem evN_lo {V : Nat} {ns : List Nd} (h : Wf V ns) {j x : Nat} {lo hi : Int} (hj : j < ns.length) (hn : NodeU V ns j x lo hi) {ws : List Bool} (hw : ws.length = V) : evN ns lo ws = evN ns (2 + (j : Int)) (ws.set x false) := by
  rw [evN_at h hj hn, getD_set_eq' ws x false (by have := hn.xV; omega), if_neg (by simp), evN_set h x false _ lo (Nat.lt_succ_self _) hn.lou ws]
theorem evN_hi {V : Nat} {ns : List Nd} (h : Wf V ns) {j x : Nat} {lo hi : Int} (hj : j < ns.length) (hn : NodeU V ns j x lo hi) {ws : List Bool} (hw : ws.length = V) : evN ns hi ws = evN ns (2 + (j : Int)) (ws.set x true) := by
  rw [evN_at h hj hn, getD_set_eq' ws x true (by have := hn.xV; omega), if_pos rfl, evN_set h x true _ hi (Nat.lt_succ_self _) hn.hiu ws]

/-- Two places that say the same of each way are the same. -/
theorem same_place {V : Nat} {ns : List Nd} (h : Wf V ns) : ∀ (n : Nat) (p q : Int), p.toNat < n → q.toNat < n → Up ns 0 p → Up ns 0 q → (∀ ws : List Bool, ws.length = V → evN ns p ws = evN ns q ws) → p = q := by
  intro n
  induction n with
  | zero => intro p q hp; omega
  | succ n ih =>
    have one : ∀ (p : Int) (j : Nat) (q : Int), q = 2 + (j : Int) → q.toNat < n + 1 → j < ns.length → (∀ ws : List Bool, ws.length = V → evN ns p ws = evN ns q ws) → (∀ x lo hi, NodeU V ns j x lo hi → ∀ b, ∀ ws : List Bool, evN ns p (ws.set x b) = evN ns p ws) → False := by
      intro p j q hq hqn hj hs hc
      subst hq
      obtain ⟨x, lo, hi, hn⟩ := wf_nodeU h hj
      refine hn.ne (ih lo hi (by have := hn.lol; have := hn.lou.1; omega) (by have := hn.hil; have := hn.hiu.1; omega) (hn.lou.less (by omega)) (hn.hiu.less (by omega)) (fun ws hw => ?_))
      rw [evN_lo h hj hn hw, evN_hi h hj hn hw, ← hs _ (by rw [List.length_set]; exact hw), ← hs _ (by rw [List.length_set]; exact hw), hc x lo hi hn, hc x lo hi hn]
    intro p q hp hq up uq hs
    by_cases h2 : p < 2
    · by_cases h3 : q < 2
      · have e := hs (List.replicate V false) List.length_replicate
        have hp' : p = 0 ∨ p = 1 := by have := up.1; omega
        have hq' : q = 0 ∨ q = 1 := by have := uq.1; omega
        rcases hp' with rfl | rfl <;> rcases hq' with rfl | rfl
        · rfl
        · rw [show evN ns 0 _ = false from evN_end ns false _, show evN ns 1 _ = true from evN_end ns true _] at e; cases e
        · rw [show evN ns 0 _ = false from evN_end ns false _, show evN ns 1 _ = true from evN_end ns true _] at e; cases e
        · rfl
      · exfalso
        refine one p (q - 2).toNat q (by omega) hq (by have := uq.2.1; omega) hs (fun x lo hi hn b ws => ?_)
        have hp' : p = 0 ∨ p = 1 := by have := up.1; omega
        rcases hp' with rfl | rfl
        · exact (evN_end ns false _).trans (evN_end ns false _).symm
        · exact (evN_end ns true _).trans (evN_end ns true _).symm
    · by_cases h3 : q < 2
      · exfalso
        refine one q (p - 2).toNat p (by omega) hp (by have := up.2.1; omega) (fun ws hw => (hs ws hw).symm) (fun x lo hi hn b ws => ?_)
        have hq' : q = 0 ∨ q = 1 := by have := uq.1; omega
        rcases hq' with rfl | rfl
        · exact (evN_end ns false _).trans (evN_end ns false _).symm
        · exact (evN_end ns true _).trans (evN_end ns true _).symm
      · obtain ⟨i, rfl⟩ : ∃ i : Nat, p = 2 + (i : Int) := ⟨(p - 2).toNat, by omega⟩
        obtain ⟨j, rfl⟩ : ∃ j : Nat, q = 2 + (j : Int) := ⟨(q - 2).toNat, by omega⟩
        have hi : i < ns.length := by have := up.2.1; omega
        have hj : j < ns.length := by have := uq.2.1; omega
        obtain ⟨x, lo, hi', hn⟩ := wf_nodeU h hi
        obtain ⟨y, l2, h2', hm⟩ := wf_nodeU h hj
        have upx : ∀ z : Nat, z < x → Up ns (z + 1) (2 + (i : Int)) := fun z hz => ⟨by omega, up.2.1, .inr (by rw [show (2 + (i : Int) - 2).toNat = i by omega, hn.nd]; simp only; omega)⟩
        have upy : ∀ z : Nat, z < y → Up ns (z + 1) (2 + (j : Int)) := fun z hz => ⟨by omega, uq.2.1, .inr (by rw [show (2 + (j : Int) - 2).toNat = j by omega, hm.nd]; simp only; omega)⟩
        rcases Nat.lt_trichotomy x y with hxy | hxy | hxy
        · exfalso
          refine one (2 + (j : Int)) i _ rfl hp hi (fun ws hw => (hs ws hw).symm) (fun x' lo' hi'' hn' b ws => ?_)
          have e := hn'.nd.symm.trans hn.nd
          simp only [Prod.mk.injEq] at e
          obtain rfl : x' = x := by omega
          exact evN_set h x' b _ _ (Nat.lt_succ_self _) (upy x' hxy) ws
        · subst hxy
          have e1 : lo = l2 := ih lo l2 (by have := hn.lol; have := hn.lou.1; omega) (by have := hm.lol; have := hm.lou.1; omega) (hn.lou.less (by omega)) (hm.lou.less (by omega)) (fun ws hw => by
            rw [evN_lo h hi hn hw, evN_lo h hj hm hw]; exact hs _ (by rw [List.length_set]; exact hw))
          have e2 : hi' = h2' := ih hi' h2' (by have := hn.hil; have := hn.hiu.1; omega) (by have := hm.hil; have := hm.hiu.1; omega) (hn.hiu.less (by omega)) (hm.hiu.less (by omega)) (fun ws hw => by
            rw [evN_hi h hi hn hw, evN_hi h hj hm hw]; exact hs _ (by rw [List.length_set]; exact hw))
          subst e1
          subst e2
          have e : ns.getD i (0, 0, 0) = ns.getD j (0, 0, 0) := hn.nd.trans hm.nd.symm
          rcases Nat.lt_trichotomy i j with hij | hij | hij
          · exact absurd e ((h j hj).2.2 i hij)
          · rw [hij]
          · exact absurd e.symm ((h i hi).2.2 j hij)
        · exfalso
          refine one (2 + (i : Int)) j _ rfl hq hj hs (fun x' lo' hi'' hn' b ws => ?_)
          have e := hn'.nd.symm.trans hm.nd
          simp only [Prod.mk.injEq] at e
          obtain rfl : x' = y := by omega
          exact evN_set h x' b _ _ (Nat.lt_succ_self _) (upx x' hxy) ws

/-- A place further down, a variable being told. -/
theorem down_place {V : Nat} {ns : List Nd} (h : Wf V ns) {v : Nat} {p : Int} (hv : v < V) (hu : Up ns v p) (c : Bool) : ∃ q, Up ns (v + 1) q ∧ ∀ ws : List Bool, ws.length = V → evN ns q ws = evN ns p (ws.set v c) := by
  by_cases h2 : p < 2
  · have u : Up ns (v + 1) p := ⟨hu.1, hu.2.1, .inl h2⟩
    exact ⟨p, u, fun ws hw => (evN_set h v c _ p (Nat.lt_succ_self _) u ws).symm⟩
  · obtain ⟨j, rfl⟩ : ∃ j : Nat, p = 2 + (j : Int) := ⟨(p - 2).toNat, by omega⟩
    have hj : j < ns.length := by have := hu.2.1; omega
    obtain ⟨x, lo, hi, hn⟩ := wf_nodeU h hj
    have hvx : v ≤ x := by
      rcases hu.2.2 with h3 | h3
      · omega
      · rw [show (2 + (j : Int) - 2).toNat = j by omega, hn.nd] at h3
        simp only at h3
        omega
    by_cases e : v = x
    · subst e
      cases c with
      | false => exact ⟨lo, hn.lou, fun ws hw => evN_lo h hj hn hw⟩
      | true => exact ⟨hi, hn.hiu, fun ws hw => evN_hi h hj hn hw⟩
    · have u : Up ns (v + 1) (2 + (j : Int)) := ⟨hu.1, hu.2.1, .inr (by rw [show (2 + (j : Int) - 2).toNat = j by omega, hn.nd]; simp only; omega)⟩
      exact ⟨_, u, fun ws hw => (evN_set h v c _ _ (Nat.lt_succ_self _) u ws).symm⟩

theorem up_zero {V : Nat} {ns : List Nd} (h : Wf V ns) {p : Int} (h0 : 0 ≤ p) (h1 : p < 2 + (ns.length : Int)) : Up ns 0 p := by
  refine ⟨h0, h1, ?_⟩
  by_cases h2 : p < 2
  · exact .inl h2
  · obtain ⟨x, lo, hi, hn⟩ := wf_nodeU h (j := (p - 2).toNat) (by omega)
    exact .inr (by rw [hn.nd]; simp only; omega)

theorem atB_half {k v : Nat} {t ws : List Bool} (hw : v < ws.length) (c : Bool) : atB k (v + 1) (if c = true then t.drop (2 ^ k) else t.take (2 ^ k)) ws = atB (k + 1) v t (ws.set v c) := by
  rw [atB, getD_set_eq' ws v c hw]
  cases c with
  | false => rw [if_neg (by simp), if_neg (by simp), atB_set _ _ _ _ _ _ (Nat.lt_succ_self v)]
  | true => rw [if_pos rfl, if_pos rfl, atB_set _ _ _ _ _ _ (Nat.lt_succ_self v)]

/-- Each node that is drawn of a table with a variable told says what some node of the diagram says, that variable being told. -/
theorem draw_less {V : Nat} {N : List Nd} (hN : Wf V N) (v0 : Nat) (so : Bool) : ∀ (k v : Nat) (t : List Bool) (ns : List Nd) (p : Int), v + k = V → Wf V ns → Up N v p → (∀ ws : List Bool, ws.length = V → atB k v t ws = evN N p (ws.set v0 so)) →
    ∀ i, ns.length ≤ i → i < (drawB k v t ns).1.length → ∃ q, q < N.length ∧ ∀ ws : List Bool, ws.length = V → evN (drawB k v t ns).1 (2 + (i : Int)) ws = evN N (2 + (q : Int)) (ws.set v0 so) := by
  intro k
  induction k with
  | zero =>
    intro v t ns p hv hw hu hs i h1 h2
    rw [drawB] at h2
    simp only at h2
    omega
  | succ k ih =>
    intro v t ns p hv hw hu hs
    have half : ∀ c : Bool, ∃ q, Up N (v + 1) q ∧ ∀ ws : List Bool, ws.length = V → atB k (v + 1) (if c = true then t.drop (2 ^ k) else t.take (2 ^ k)) ws = evN N q (ws.set v0 so) := by
      intro c
      by_cases e : v = v0
      · subst e
        obtain ⟨q, uq, hq⟩ := down_place hN (by omega) hu so
        refine ⟨q, uq, fun ws hl => ?_⟩
        rw [atB_half (by omega) c, hs _ (by rw [List.length_set]; exact hl), hq _ (by rw [List.length_set]; exact hl), List.set_set, List.set_set]
      · obtain ⟨q, uq, hq⟩ := down_place hN (by omega) hu c
        refine ⟨q, uq, fun ws hl => ?_⟩
        rw [atB_half (by omega) c, hs _ (by rw [List.length_set]; exact hl), hq _ (by rw [List.length_set]; exact hl), List.set_comm _ _ e]
    obtain ⟨p1, u1, s1⟩ := half false
    obtain ⟨p2, u2, s2⟩ := half true
    simp only [Bool.false_eq_true, if_false, if_true] at s1 s2
    have hall := draw_good V (k + 1) v t ns hv hw
    have hA := draw_good V k (v + 1) (t.take (2 ^ k)) ns (by omega) hw
    have iA := ih (v + 1) (t.take (2 ^ k)) ns p1 (by omega) hw u1 s1
    rw [drawB] at hall ⊢
    generalize drawB k (v + 1) (t.take (2 ^ k)) ns = A at *
    obtain ⟨n1, r1⟩ := A
    have hB := draw_good V k (v + 1) (t.drop (2 ^ k)) n1 (by omega) hA.wf
    have iB := ih (v + 1) (t.drop (2 ^ k)) n1 p2 (by omega) hA.wf u2 s2
    simp only at hall iA ⊢
    generalize drawB k (v + 1) (t.drop (2 ^ k)) n1 = B at *
    obtain ⟨n2, r2⟩ := B
    simp only at hall iB ⊢
    obtain ⟨l2, e2, -⟩ := hB.more
    simp only at e2
    have old : ∀ (l : List Nd) (i : Nat), ns.length ≤ i → i < n2.length → ∃ q, q < N.length ∧ ∀ ws : List Bool, ws.length = V → evN (n2 ++ l) (2 + (i : Int)) ws = evN N (2 + (q : Int)) (ws.set v0 so) := by
      intro l i h1 h2
      by_cases h3 : i < n1.length
      · obtain ⟨q, hq, hqs⟩ := iA i h1 h3
        refine ⟨q, hq, fun ws hl => ?_⟩
        rw [evN_app n2 l _ _ (by omega) (by omega), e2, evN_app n1 l2 _ _ (by omega) (by omega)]
        exact hqs ws hl
      · obtain ⟨q, hq, hqs⟩ := iB i (by omega) h2
        refine ⟨q, hq, fun ws hl => ?_⟩
        rw [evN_app n2 l _ _ (by omega) (by omega)]
        exact hqs ws hl
    by_cases he : r1 = r2
    · rw [if_pos he]
      intro i h1 h2
      have := old [] i h1 h2
      rw [List.append_nil] at this
      exact this
    · rw [if_neg he] at hall ⊢
      unfold putB at hall ⊢
      by_cases hf : placeB n2 ((v : Int), r1, r2) < n2.length
      · rw [if_pos hf]
        intro i h1 h2
        have := old [] i h1 h2
        rw [List.append_nil] at this
        exact this
      · rw [if_neg hf] at hall ⊢
        intro i h1 h2
        simp only [List.length_append, List.length_singleton] at h2
        by_cases hi : i < n2.length
        · exact old _ i h1 hi
        · obtain rfl : i = n2.length := by omega
          have hev := hall.ev
          simp only at hev
          have hp2 : ¬ p < 2 := by
            intro hp
            apply he
            have u1' : Up n2 (v + 1) r1 := by rw [e2]; exact hA.up.app
            refine same_place hB.wf (r1.toNat + r2.toNat + 1) r1 r2 (by omega) (by omega) (u1'.less (by omega)) (hB.up.less (by omega)) (fun ws hl => ?_)
            have a1 : evN n2 r1 ws = atB k (v + 1) (t.take (2 ^ k)) ws := by rw [e2, evN_app _ _ _ _ hA.up.1 hA.up.2.1]; exact hA.ev ws
            have a2 : evN n2 r2 ws = atB k (v + 1) (t.drop (2 ^ k)) ws := hB.ev ws
            have b1 := atB_half (k := k) (v := v) (t := t) (ws := ws) (by omega) false
            have b2 := atB_half (k := k) (v := v) (t := t) (ws := ws) (by omega) true
            simp only [Bool.false_eq_true, if_false, if_true] at b1 b2
            rw [a1, a2, b1, b2, hs _ (by rw [List.length_set]; exact hl), hs _ (by rw [List.length_set]; exact hl)]
            have hp' : p = 0 ∨ p = 1 := by have := hu.1; omega
            rcases hp' with rfl | rfl
            · exact (evN_end N false _).trans (evN_end N false _).symm
            · exact (evN_end N true _).trans (evN_end N true _).symm
          refine ⟨(p - 2).toNat, by have := hu.2.1; omega, fun ws hl => ?_⟩
          rw [hev ws, hs ws hl, show (2 : Int) + ((p - 2).toNat : Int) = p by omega]

theorem pigeon : ∀ (n m : Nat) (f : Nat → Nat), (∀ i, i < m → f i < n) → (∀ i j, i < m → j < m → f i = f j → i = j) → m ≤ n := by
  intro n
  induction n with
  | zero =>
    intro m f h1 h2
    rcases Nat.eq_zero_or_pos m with h | h
    · omega
    · have := h1 0 h; omega
  | succ n ih =>
    intro m f h1 h2
    rcases Nat.eq_zero_or_pos m with h | h
    · omega
    · have hk := ih (m - 1) (fun i => if f i = n then f (m - 1) else f i) (fun i hi => by
        by_cases e : f i = n
        · simp only [e, if_true]
          have a := h1 (m - 1) (by omega)
          have b : f (m - 1) ≠ n := fun e2 => by have := h2 i (m - 1) (by omega) (by omega) (by rw [e, e2]); omega
          omega
        · simp only [e, if_false]
          have a := h1 i (by omega)
          omega) (fun i j hi hj e => by
        have e : (if f i = n then f (m - 1) else f i) = (if f j = n then f (m - 1) else f j) := e
        by_cases e1 : f i = n
        · by_cases e2 : f j = n
          · exact h2 i j (by omega) (by omega) (by rw [e1, e2])
          · rw [if_pos e1, if_neg e2] at e
            have := h2 (m - 1) j (by omega) (by omega) e
            omega
        · by_cases e2 : f j = n
          · rw [if_neg e1, if_pos e2] at e
            have := h2 i (m - 1) (by omega) (by omega) e
            omega
          · rw [if_neg e1, if_neg e2] at e
            exact h2 i j (by omega) (by omega) e)
      omega

/-- With a variable told, a diagram has no more nodes. -/
theorem with_less {V v : Nat} {ns : List Nd} {root : Int} {so : Bool} (h : bddB (V : Int) ns root = true) (hv : v < V) : (drawB V 0 (withT (V : Int) ns root (v : Int) so) []).1.length ≤ ns.length := by
  have hform := bdd_form h
  have hg := draw_good V V 0 (tabN V ns root) [] (by omega) (wf_nil V)
  rw [hform] at hg
  have hN : Wf V ns := hg.wf
  have ht := draw_good V V 0 (withT (V : Int) ns root (v : Int) so) [] (by omega) (wf_nil V)
  have hl := draw_less hN v so V 0 (withT (V : Int) ns root (v : Int) so) [] root (by omega) (wf_nil V) (up_zero hN hg.up.1 hg.up.2.1) (fun ws hw => by
    obtain ⟨P, hP, rfl⟩ := exists_way V ws hw
    rw [atB_way V P V 0 _ (by omega), Nat.mod_eq_of_lt hP, withT_eq]
    unfold tabF
    simp only [List.getD, List.getElem?_map, List.getElem?_range hP, Option.map_some, Option.getD_some]
    rfl)
  generalize drawB V 0 (withT (V : Int) ns root (v : Int) so) [] = D at *
  obtain ⟨l, r⟩ := D
  simp only [List.length_nil] at hl ht ⊢
  have hw : Wf V l := ht.wf
  refine pigeon ns.length l.length (fun i => if hi : i < l.length then Classical.choose (hl i (Nat.zero_le _) hi) else 0) (fun i hi => ?_) (fun i j hi hj e => ?_)
  · simp only [hi, dif_pos]
    exact (Classical.choose_spec (hl i (Nat.zero_le _) hi)).1
  · simp only [hi, hj, dif_pos] at e
    have a := (Classical.choose_spec (hl i (Nat.zero_le _) hi)).2
    have b := (Classical.choose_spec (hl j (Nat.zero_le _) hj)).2
    rw [e] at a
    have := same_place hw (2 + i + j + 1) (2 + (i : Int)) (2 + (j : Int)) (by omega) (by omega) (up_zero hw (by omega) (by omega)) (up_zero hw (by omega) (by omega)) (fun ws hl => by rw [a ws hl, b ws hl])
    omega

theorem set_same (ws : List Bool) (v : Nat) (b : Bool) (hv : v < ws.length) (h : ws.getD v false = b) : ws.set v b = ws := by
  apply List.ext_getElem?
  intro i
  by_cases e : v = i
  · subst e
    rw [List.getElem?_set_self hv, ← h, List.getD, List.getElem?_eq_getElem hv]
    rfl
  · rw [List.getElem?_set_ne e]

theorem withT_get {V v p : Nat} {ns : List Nd} {root : Int} {so : Bool} (hp : p < 2 ^ V) : (withT (V : Int) ns root (v : Int) so).getD p false = isN ns root ((wayL V p).set v so) := by
  rw [withT_eq]
  unfold tabF
  simp only [List.getD, List.getElem?_map, List.getElem?_range hp, Option.map_some, Option.getD_some]

/-- What holds of a diagram with a variable told so, and told not so. -/
structure WithF (V v : Nat) (so : Bool) (ns : List Nd) (root : Int) (lX : List Nd) (rX : Int) (lY : List Nd) (rY : Int) : Prop where
  okX : bddB (V : Int) lX rX = true
  okY : bddB (V : Int) lY rY = true
  again : drawB V 0 (withT (V : Int) lX rX (v : Int) (!so)) [] = (lX, rX)
  needs : decide ((v : Int) ∈ needsL V lX) = false
  less : lX.length ≤ ns.length
  relX : ∀ p, p < 2 ^ V → (p / 2 ^ (V - 1 - v) % 2 == 1) = so → (tabN V lX rX).getD p false = (tabN V ns root).getD p false
  relY : ∀ p, p < 2 ^ V → (p / 2 ^ (V - 1 - v) % 2 == 1) = (!so) → (tabN V lY rY).getD p false = (tabN V ns root).getD p false

theorem with_facts {V v : Nat} {so : Bool} {ns : List Nd} {root : Int} (h6 : V ≤ 6) (h : bddB (V : Int) ns root = true) (hv : v < V) :
    WithF V v so ns root (drawB V 0 (withT (V : Int) ns root (v : Int) so) []).1 (drawB V 0 (withT (V : Int) ns root (v : Int) so) []).2 (drawB V 0 (withT (V : Int) ns root (v : Int) (!so)) []).1 (drawB V 0 (withT (V : Int) ns root (v : Int) (!so)) []).2 := by
  have hlen : ∀ b, (withT (V : Int) ns root (v : Int) b).length = 2 ^ V := fun b => by rw [withT_eq, tabF_length]
  have hX : ∀ ws : List Bool, ws.length = V → isN (drawB V 0 (withT (V : Int) ns root (v : Int) so) []).1 (drawB V 0 (withT (V : Int) ns root (v : Int) so) []).2 ws = isN ns root (ws.set v so) := fun ws hw => by
    obtain ⟨p, hp, rfl⟩ := exists_way V ws hw
    rw [← tabN_get V _ _ p hp, tab_draw V _ (hlen _), withT_get hp]
  have hok := bdd_draw V (withT (V : Int) ns root (v : Int) so) h6 (hlen _)
  have rel : ∀ b p, p < 2 ^ V → (p / 2 ^ (V - 1 - v) % 2 == 1) = b → (tabN V (drawB V 0 (withT (V : Int) ns root (v : Int) b) []).1 (drawB V 0 (withT (V : Int) ns root (v : Int) b) []).2).getD p false = (tabN V ns root).getD p false := fun b p hp hb => by
    rw [tab_draw V _ (hlen _), withT_get hp, tabN_get V ns root p hp, set_same _ v b (by rw [wayL_length]; exact hv) (by rw [wayL_get V p v hv]; exact hb)]
  refine ⟨hok, bdd_draw V _ h6 (hlen _), ?_, ?_, with_less h hv, rel so, rel (!so)⟩
  · have e : withT (V : Int) (drawB V 0 (withT (V : Int) ns root (v : Int) so) []).1 (drawB V 0 (withT (V : Int) ns root (v : Int) so) []).2 (v : Int) (!so) = tabN V (drawB V 0 (withT (V : Int) ns root (v : Int) so) []).1 (drawB V 0 (withT (V : Int) ns root (v : Int) so) []).2 := by
      rw [withT_eq]
      unfold tabF tabN
      refine List.map_congr_left (fun p hp => (hX ((wayL V p).set v (!so)) (by rw [List.length_set, wayL_length])).trans ?_)
      rw [List.set_set]
      exact (hX _ (wayL_length _ _)).symm
    rw [e, bdd_form hok]
  · rw [decide_eq_false_iff_not, ← with_same hok hv, withT_eq, withT_eq]
    unfold tabF
    refine List.map_congr_left (fun p hp => (hX ((wayL V p).set v true) (by rw [List.length_set, wayL_length])).trans (Eq.trans ?_ (hX ((wayL V p).set v false) (by rw [List.length_set, wayL_length])).symm))
    rw [List.set_set, List.set_set]

end Go.Proofs.Ytknpifjkllcdeaa

/-
  Diagrams: what is told by numbers, node by node; how many ways, and the first of them, plain facts.
-/
import Derived.Test.YtknpifjkllcdeaaBdQ
import Derived.Test.YtknpifjkllcdeaaBdT
namespace Go.Proofs.Ytknpifjkllcdeaa
set_option linter.unusedVariables false

/-- What is told at each place, by what is told where it goes. -/
def toldF (f : Nd → Int → Int → Int) (a0 a1 : Int) (ns : List Nd) : Nat → List Int
  | 0 => [a0, a1]
  | k + 1 => toldF f a0 a1 ns k ++ [f (ns.getD k (0, 0, 0)) ((toldF f a0 a1 ns k).getD (ns.getD k (0, 0, 0)).2.1.toNat 0) ((toldF f a0 a1 ns k).getD (ns.getD k (0, 0, 0)).2.2.toNat 0)]

section
variable (f : Nd → Int → Int → Int) (a0 a1 : Int) (ns : List Nd)

theorem toldF_length (k : Nat) : (toldF f a0 a1 ns k).length = k + 2 := by
  induction k with
  | zero => rfl
  | succ k ih => rw [toldF, List.length_append, ih]; rfl

theorem toldF_old (k m j : Nat) (hk : k ≤ m) (hj : j < k + 2) : (toldF f a0 a1 ns m).getD j 0 = (toldF f a0 a1 ns k).getD j 0 := by
  induction m with
  | zero => obtain rfl : k = 0 := by omega
            rfl
  | succ m ih =>
    by_cases e : k = m + 1
    · subst e; rfl
    · rw [← ih (by omega), toldF]
      have hl := toldF_length f a0 a1 ns m
      rw [List.getD, List.getElem?_append_left (by omega)]
      rfl

theorem toldF_node (m j : Nat) (hj : j < m) (h1 : (ns.getD j (0, 0, 0)).2.1.toNat < j + 2) (h2 : (ns.getD j (0, 0, 0)).2.2.toNat < j + 2) :
    (toldF f a0 a1 ns m).getD (j + 2) 0 = f (ns.getD j (0, 0, 0)) ((toldF f a0 a1 ns m).getD (ns.getD j (0, 0, 0)).2.1.toNat 0) ((toldF f a0 a1 ns m).getD (ns.getD j (0, 0, 0)).2.2.toNat 0) := by
  rw [toldF_old f a0 a1 ns (j + 1) m (j + 2) (by omega) (by omega), toldF_old f a0 a1 ns j m _ (by omega) h1, toldF_old f a0 a1 ns j m _ (by omega) h2, toldF]
  have hl := toldF_length f a0 a1 ns j
  rw [List.getD, List.getElem?_append_right (by omega), hl]
  simp
end

/-- How many ways of so many variables there are. -/
def cntW : Nat → (List Bool → Bool) → Nat
  | 0, g => if g [] = true then 1 else 0
  | n + 1, g => cntW n (fun ws => g (false :: ws)) + cntW n (fun ws => g (true :: ws))
/-- Where the first way of so many variables is; behind all if there is none. -/
def firstW : Nat → (List Bool → Bool) → Nat
  | 0, g => if g [] = true then 0 else 1
  | n + 1, g => if firstW n (fun ws => g (false :: ws)) < 2 ^ n then firstW n (fun ws => g (false :: ws)) else 2 ^ n + firstW n (fun ws => g (true :: ws))

/-- It makes no difference what a variable is. -/
def Free (v : Nat) (g : List Bool → Bool) : Prop := ∀ ws b, g (ws.set v b) = g ws

theorem Free.zero {g : List Bool → Bool} (h : Free 0 g) : (fun ws => g (true :: ws)) = fun ws => g (false :: ws) := funext fun ws => h (false :: ws) true
theorem Free.succ {v : Nat} {g : List Bool → Bool} (h : Free (v + 1) g) (x : Bool) : Free v (fun ws => g (x :: ws)) := fun ws b => h (x :: ws) b

theorem cnt_node : ∀ (n v : Nat) (l h : List Bool → Bool), v < n → Free v l → Free v h → 2 * cntW n (fun ws => if ws.getD v false = true then h ws else l ws) = cntW n l + cntW n h := by
  intro n
  induction n with
  | zero => intro v l h hv; omega
  | succ n ih =>
    intro v l h hv hl hh
    match v with
    | 0 =>
      have e3 : cntW (n + 1) (fun ws => if ws.getD 0 false = true then h ws else l ws) = cntW n (fun ws => l (false :: ws)) + cntW n (fun ws => h (true :: ws)) := rfl
      rw [e3]
      simp only [cntW, hl.zero, hh.zero]
      omega
    | v + 1 =>
      have i1 := ih v _ _ (by omega) (hl.succ false) (hh.succ false)
      have i2 := ih v _ _ (by omega) (hl.succ true) (hh.succ true)
      simp only [cntW]
      simp only [List.getD_cons_succ]
      omega

theorem cnt_false (n : Nat) : cntW n (fun _ => false) = 0 := by
  induction n with
  | zero => rfl
  | succ n ih => simp only [cntW, ih]
theorem cnt_true (n : Nat) : cntW n (fun _ => true) = 2 ^ n := by
  induction n with
  | zero => rfl
  | succ n ih => simp only [cntW, ih]; omega
theorem cnt_le (n : Nat) (g : List Bool → Bool) : cntW n g ≤ 2 ^ n := by
  induction n generalizing g with
  | zero => simp only [cntW]; split <;> simp
  | succ n ih => simp only [cntW]; have := ih (fun ws => g (false :: ws)); have := ih (fun ws => g (true :: ws)); omega

theorem first_le (n : Nat) (g : List Bool → Bool) : firstW n g ≤ 2 ^ n := by
  induction n generalizing g with
  | zero => simp only [firstW]; split <;> simp
  | succ n ih => simp only [firstW]; have := ih (fun ws => g (false :: ws)); have := ih (fun ws => g (true :: ws)); split <;> omega
theorem first_false (n : Nat) : firstW n (fun _ => false) = 2 ^ n := by
  induction n with
  | zero => rfl
  | succ n ih => simp only [firstW, ih]; rw [if_neg (by omega)]; omega
theorem first_true (n : Nat) : firstW n (fun _ => true) = 0 := by
  induction n with
  | zero => rfl
  | succ n ih => simp only [firstW, ih]; rw [if_pos (Nat.pow_pos (by decide))]

theorem first_room : ∀ (n v : Nat) (h : List Bool → Bool), v < n → Free v h → firstW n h < 2 ^ n → firstW n h + 2 ^ (n - 1 - v) < 2 ^ n := by
  intro n
  induction n with
  | zero => intro v h hv; omega
  | succ n ih =>
    intro v h hv hh
    match v with
    | 0 =>
      simp only [firstW, hh.zero]
      have hw : 2 ^ (n + 1 - 1 - 0) = 2 ^ n := by congr 1
      rw [hw]
      have := first_le n (fun ws => h (false :: ws))
      split <;> omega
    | v + 1 =>
      have hw : n + 1 - 1 - (v + 1) = n - 1 - v := by omega
      have i1 := ih v _ (by omega) (hh.succ false)
      have i2 := ih v _ (by omega) (hh.succ true)
      simp only [firstW, hw]
      split <;> omega

theorem first_node : ∀ (n v : Nat) (l h : List Bool → Bool), v < n → Free v l → Free v h → firstW n (fun ws => if ws.getD v false = true then h ws else l ws) = min (firstW n l) (firstW n h + 2 ^ (n - 1 - v)) := by
  intro n
  induction n with
  | zero => intro v l h hv; omega
  | succ n ih =>
    intro v l h hv hl hh
    match v with
    | 0 =>
      have hw : 2 ^ (n + 1 - 1 - 0) = 2 ^ n := by congr 1
      rw [hw]
      have b1 := first_le n (fun ws => l (false :: ws))
      have b2 := first_le n (fun ws => h (false :: ws))
      have e3 : firstW (n + 1) (fun ws => if ws.getD 0 false = true then h ws else l ws) = if firstW n (fun ws => l (false :: ws)) < 2 ^ n then firstW n (fun ws => l (false :: ws)) else 2 ^ n + firstW n (fun ws => h (true :: ws)) := rfl
      rw [e3]
      simp only [firstW, hl.zero, hh.zero]
      generalize firstW n (fun ws => l (false :: ws)) = a at *
      generalize firstW n (fun ws => h (false :: ws)) = b at *
      by_cases h1 : a < 2 ^ n
      · rw [if_pos h1, if_pos h1]; omega
      · rw [if_neg h1, if_neg h1]
        by_cases h2 : b < 2 ^ n
        · rw [if_pos h2]; omega
        · rw [if_neg h2]; omega
    | v + 1 =>
      have hw : n + 1 - 1 - (v + 1) = n - 1 - v := by omega
      have i1 := ih v _ _ (by omega) (hl.succ false) (hh.succ false)
      have i2 := ih v _ _ (by omega) (hl.succ true) (hh.succ true)
      have r1 := first_room n v _ (by omega) (hh.succ false)
      have r2 := first_room n v _ (by omega) (hh.succ true)
      have b1 := first_le n (fun ws => l (false :: ws))
      have b2 := first_le n (fun ws => h (false :: ws))
      have e3 : firstW (n + 1) (fun ws => if ws.getD (v + 1) false = true then h ws else l ws) = if firstW n (fun ws => if ws.getD v false = true then h (false :: ws) else l (false :: ws)) < 2 ^ n then firstW n (fun ws => if ws.getD v false = true then h (false :: ws) else l (false :: ws)) else 2 ^ n + firstW n (fun ws => if ws.getD v false = true then h (true :: ws) else l (true :: ws)) := rfl
      rw [e3, i1, i2, hw]
      simp only [firstW]
      generalize firstW n (fun ws => l (false :: ws)) = a at *
      generalize firstW n (fun ws => h (false :: ws)) = b at *
      generalize firstW n (fun ws => l (true :: ws)) = c at *
      generalize firstW n (fun ws => h (true :: ws)) = d at *
      generalize 2 ^ (n - 1 - v) = e at *
      generalize 2 ^ n = M at *
      by_cases h1 : a < M
      · rw [if_pos h1, if_pos (by omega)]
        by_cases h2 : b < M
        · rw [if_pos h2]
        · rw [if_neg h2]; omega
      · rw [if_neg h1]
        by_cases h2 : b < M
        · have := r1 h2
          rw [if_pos h2, if_pos (by omega)]; omega
        · rw [if_neg h2, if_neg (by omega)]; omega

/-- Of what is said at a place, no variable ahead of it makes a difference. -/
theorem vals_free {vars : Nat} {ns : List Nd} {n : Nat} (hok : ∀ i, i < n → nodeB (vars : Int) ns i = true) : ∀ (q v : Nat), q < n + 2 → (q < 2 ∨ (v : Int) < (ns.getD (q - 2) (0, 0, 0)).1) → Free v (fun ws => (valsN ns ws n).getD q false) := by
  intro q
  induction q using Nat.strongRecOn with
  | _ q ih =>
    intro v hq hv ws b
    show (valsN ns (ws.set v b) n).getD q false = (valsN ns ws n).getD q false
    by_cases h2 : q < 2
    · rw [valsN_old ns (ws.set v b) 0 n q (Nat.zero_le _) h2, valsN_old ns ws 0 n q (Nat.zero_le _) h2]
      rfl
    · obtain ⟨j, rfl⟩ : ∃ j, q = j + 2 := ⟨q - 2, by omega⟩
      have hj : j < n := by omega
      have hv : (v : Int) < (ns.getD j (0, 0, 0)).1 := by rcases hv with h | h; omega; simpa using h
      have hp := node_parts (hok j hj)
      have hb := hok j hj
      unfold nodeB belowB at hb
      simp only [Bool.and_eq_true, Bool.or_eq_true, decide_eq_true_eq] at hb
      obtain ⟨-, ⟨-, -, hlo⟩, -, -, hhi⟩ := hb
      rw [valsN_node ns _ n j hj (by omega) (by omega), valsN_node ns ws n j hj (by omega) (by omega)]
      generalize hg : ns.getD j (0, 0, 0) = p at *
      have il := ih p.2.1.toNat (by omega) v (by omega) (by
        rcases hlo with h | h
        · left; omega
        · by_cases h3 : p.2.1.toNat < 2
          · exact .inl h3
          · right
            have e : (p.2.1 - 2).toNat = p.2.1.toNat - 2 := by omega
            rw [e] at h
            omega) ws b
      have ih2 := ih p.2.2.toNat (by omega) v (by omega) (by
        rcases hhi with h | h
        · left; omega
        · by_cases h3 : p.2.2.toNat < 2
          · exact .inl h3
          · right
            have e : (p.2.2 - 2).toNat = p.2.2.toNat - 2 := by omega
            rw [e] at h
            omega) ws b
      have e1 : (ws.set v b).getD p.1.toNat false = ws.getD p.1.toNat false := by
        rw [List.getD, List.getD, List.getElem?_set_ne (by omega)]
      rw [e1]
      have il' : (valsN ns (ws.set v b) n).getD p.2.1.toNat false = (valsN ns ws n).getD p.2.1.toNat false := il
      have ih' : (valsN ns (ws.set v b) n).getD p.2.2.toNat false = (valsN ns ws n).getD p.2.2.toNat false := ih2
      rw [il', ih']

/-- A node's two sides make no difference by its own variable. -/
theorem sides_free {vars : Nat} {ns : List Nd} {n : Nat} (hok : ∀ i, i < n → nodeB (vars : Int) ns i = true) {j : Nat} (hj : j < n) :
    Free (ns.getD j (0, 0, 0)).1.toNat (fun ws => (valsN ns ws n).getD (ns.getD j (0, 0, 0)).2.1.toNat false) ∧ Free (ns.getD j (0, 0, 0)).1.toNat (fun ws => (valsN ns ws n).getD (ns.getD j (0, 0, 0)).2.2.toNat false) := by
  have hp := node_parts (hok j hj)
  have hb := hok j hj
  unfold nodeB belowB at hb
  simp only [Bool.and_eq_true, Bool.or_eq_true, decide_eq_true_eq] at hb
  obtain ⟨-, ⟨-, -, hlo⟩, -, -, hhi⟩ := hb
  generalize ns.getD j (0, 0, 0) = p at *
  constructor
  · refine vals_free hok _ _ (by omega) ?_
    rcases hlo with h | h
    · left; omega
    · by_cases h3 : p.2.1.toNat < 2
      · exact .inl h3
      · right
        have e : (p.2.1 - 2).toNat = p.2.1.toNat - 2 := by omega
        rw [e] at h
        omega
  · refine vals_free hok _ _ (by omega) ?_
    rcases hhi with h | h
    · left; omega
    · by_cases h3 : p.2.2.toNat < 2
      · exact .inl h3
      · right
        have e : (p.2.2 - 2).toNat = p.2.2.toNat - 2 := by omega
        rw [e] at h
        omega

def halfF (_ : Nd) (a b : Int) : Int := (a + b) / 2
def nextF (vars : Nat) (p : Nd) (a b : Int) : Int := min a (b + ((2 ^ (vars - 1 - p.1.toNat) : Nat) : Int))

theorem told_count {vars : Nat} {ns : List Nd} {n : Nat} (hok : ∀ i, i < n → nodeB (vars : Int) ns i = true) : ∀ q, q < n + 2 → (toldF halfF 0 ((2 ^ vars : Nat) : Int) ns n).getD q 0 = (cntW vars (fun ws => (valsN ns ws n).getD q false) : Int) := by
  intro q
  induction q using Nat.strongRecOn with
  | _ q ih =>
    intro hq
    have hold : q < 2 → (fun ws => (valsN ns ws n).getD q false) = fun _ => [false, true].getD q false := fun h => funext fun ws => valsN_old ns ws 0 n q (Nat.zero_le _) h
    match q, hq, ih, hold with
    | 0, _, _, hold => rw [toldF_old _ _ _ ns 0 n 0 (Nat.zero_le _) (by omega), hold (by omega)]; show (0 : Int) = _; rw [show (fun _ : List Bool => [false, true].getD 0 false) = fun _ => false from rfl, cnt_false]; rfl
    | 1, _, _, hold => rw [toldF_old _ _ _ ns 0 n 1 (Nat.zero_le _) (by omega), hold (by omega)]; show ((2 ^ vars : Nat) : Int) = _; rw [show (fun _ : List Bool => [false, true].getD 1 false) = fun _ => true from rfl, cnt_true]
    | j + 2, hq, ih, _ =>
      have hj : j < n := by omega
      have hp := node_parts (hok j hj)
      obtain ⟨fl, fh⟩ := sides_free hok hj
      rw [toldF_node _ _ _ ns n j hj (by omega) (by omega)]
      have hfun : (fun ws => (valsN ns ws n).getD (j + 2) false) = fun ws => if ws.getD (ns.getD j (0, 0, 0)).1.toNat false = true then (valsN ns ws n).getD (ns.getD j (0, 0, 0)).2.2.toNat false else (valsN ns ws n).getD (ns.getD j (0, 0, 0)).2.1.toNat false := funext fun ws => valsN_node ns ws n j hj (by omega) (by omega)
      rw [hfun]
      have hc := cnt_node vars _ _ _ (by omega) fl fh
      rw [ih _ (by omega) (by omega), ih _ (by omega) (by omega)]
      unfold halfF
      omega

theorem told_first {vars : Nat} {ns : List Nd} {n : Nat} (hok : ∀ i, i < n → nodeB (vars : Int) ns i = true) : ∀ q, q < n + 2 → (toldF (nextF vars) ((2 ^ vars : Nat) : Int) 0 ns n).getD q 0 = (firstW vars (fun ws => (valsN ns ws n).getD q false) : Int) := by
  intro q
  induction q using Nat.strongRecOn with
  | _ q ih =>
    intro hq
    have hold : q < 2 → (fun ws => (valsN ns ws n).getD q false) = fun _ => [false, true].getD q false := fun h => funext fun ws => valsN_old ns ws 0 n q (Nat.zero_le _) h
    match q, hq, ih, hold with
    | 0, _, _, hold => rw [toldF_old _ _ _ ns 0 n 0 (Nat.zero_le _) (by omega), hold (by omega)]; show ((2 ^ vars : Nat) : Int) = _; rw [show (fun _ : List Bool => [false, true].getD 0 false) = fun _ => false from rfl, first_false]
    | 1, _, _, hold => rw [toldF_old _ _ _ ns 0 n 1 (Nat.zero_le _) (by omega), hold (by omega)]; show (0 : Int) = _; rw [show (fun _ : List Bool => [false, true].getD 1 false) = fun _ => true from rfl, first_true]; rfl
    | j + 2, hq, ih, _ =>
      have hj : j < n := by omega
      have hp := node_parts (hok j hj)
      obtain ⟨fl, fh⟩ := sides_free hok hj
      rw [toldF_node _ _ _ ns n j hj (by omega) (by omega)]
      have hfun : (fun ws => (valsN ns ws n).getD (j + 2) false) = fun ws => if ws.getD (ns.getD j (0, 0, 0)).1.toNat false = true then (valsN ns ws n).getD (ns.getD j (0, 0, 0)).2.2.toNat false else (valsN ns ws n).getD (ns.getD j (0, 0, 0)).2.1.toNat false := funext fun ws => valsN_node ns ws n j hj (by omega) (by omega)
      rw [hfun, first_node vars _ _ _ (by omega) fl fh, ih _ (by omega) (by omega), ih _ (by omega) (by omega)]
      unfold nextF
      omega

/-- The ways of one variable more: those with it not so, then those with it so. -/
theorem wayL_low (n p : Nat) (h : p < 2 ^ n) : wayL (n + 1) p = false :: wayL n p := by
  unfold wayL
  rw [List.range_succ_eq_map, List.map_cons, List.map_map]
  congr 1
  · have : p / 2 ^ (n + 1 - 1 - 0) = 0 := Nat.div_eq_of_lt (by simpa using h)
    rw [this]; rfl
  · refine List.map_congr_left fun v hv => ?_
    show (p / 2 ^ (n + 1 - 1 - (v + 1)) % 2 == 1) = _
    rw [show n + 1 - 1 - (v + 1) = n - 1 - v by omega]

theorem wayL_high (n p : Nat) (h : p < 2 ^ n) : wayL (n + 1) (2 ^ n + p) = true :: wayL n p := by
  unfold wayL
  rw [List.range_succ_eq_map, List.map_cons, List.map_map]
  congr 1
  · have : (2 ^ n + p) / 2 ^ (n + 1 - 1 - 0) = 1 := by
      show (2 ^ n + p) / 2 ^ n = 1
      rw [Nat.add_div_left _ (Nat.pow_pos (by decide)), Nat.div_eq_of_lt h]
    rw [this]; rfl
  · refine List.map_congr_left fun v hv => ?_
    have hv := List.mem_range.1 hv
    show ((2 ^ n + p) / 2 ^ (n + 1 - 1 - (v + 1)) % 2 == 1) = _
    rw [show n + 1 - 1 - (v + 1) = n - 1 - v by omega]
    have e : 2 ^ n = 2 ^ (n - 1 - v) * (2 * 2 ^ v) := by
      rw [← Nat.pow_succ', ← Nat.pow_add]
      congr 1
      omega
    rw [e, Nat.mul_add_div (Nat.pow_pos (by decide))]
    congr 1
    omega

/-- The table, and how many in it are so. -/
theorem count_cnt : ∀ (n : Nat) (g : List Bool → Bool), ((List.range (2 ^ n)).map (fun p => g (wayL n p))).count true = cntW n g := by
  intro n
  induction n with
  | zero =>
    intro g
    have e : wayL 0 0 = [] := rfl
    show [g (wayL 0 0)].count true = _
    rw [e, cntW]
    cases g [] <;> rfl
  | succ n ih =>
    intro g
    have e2 : 2 ^ (n + 1) = 2 ^ n + 2 ^ n := by omega
    rw [e2, List.range_add, List.map_append, List.count_append, List.map_map, cntW, ← ih (fun ws => g (false :: ws)), ← ih (fun ws => g (true :: ws))]
    congr 2
    · exact List.map_congr_left fun p hp => by rw [wayL_low n p (List.mem_range.1 hp)]
    · exact List.map_congr_left fun p hp => by show g (wayL (n + 1) (2 ^ n + p)) = _; rw [wayL_high n p (List.mem_range.1 hp)]

/-- Ahead of the first way is none, and it is one if there is any. -/
theorem first_spec : ∀ (n : Nat) (g : List Bool → Bool), (∀ p, p < firstW n g → g (wayL n p) = false) ∧ (firstW n g < 2 ^ n → g (wayL n (firstW n g)) = true) := by
  intro n
  induction n with
  | zero =>
    intro g
    have e : wayL 0 0 = [] := rfl
    simp only [firstW]
    by_cases h : g [] = true
    · rw [if_pos h]; exact ⟨fun p hp => by omega, fun _ => by rw [e]; exact h⟩
    · rw [if_neg h]
      refine ⟨fun p hp => ?_, fun hh => absurd hh (by decide)⟩
      obtain rfl : p = 0 := by omega
      rw [e]
      simpa using h
  | succ n ih =>
    intro g
    obtain ⟨a1, a2⟩ := ih (fun ws => g (false :: ws))
    obtain ⟨b1, b2⟩ := ih (fun ws => g (true :: ws))
    have l1 := first_le n (fun ws => g (false :: ws))
    have l2 := first_le n (fun ws => g (true :: ws))
    simp only [firstW]
    generalize firstW n (fun ws => g (false :: ws)) = a at *
    generalize firstW n (fun ws => g (true :: ws)) = b at *
    by_cases h : a < 2 ^ n
    · rw [if_pos h]
      exact ⟨fun p hp => by rw [wayL_low n p (by omega)]; exact a1 p hp, fun _ => by rw [wayL_low n a h]; exact a2 h⟩
    · rw [if_neg h]
      refine ⟨fun p hp => ?_, fun hh => ?_⟩
      · by_cases h2 : p < 2 ^ n
        · rw [wayL_low n p h2]; exact a1 p (by omega)
        · obtain ⟨r, rfl⟩ : ∃ r, p = 2 ^ n + r := ⟨p - 2 ^ n, by omega⟩
          rw [wayL_high n r (by omega)]; exact b1 r (by omega)
      · have hb : b < 2 ^ n := by omega
        rw [wayL_high n b hb]; exact b2 hb

end Go.Proofs.Ytknpifjkllcdeaa

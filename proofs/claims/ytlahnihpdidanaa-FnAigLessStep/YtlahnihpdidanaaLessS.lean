/-
  A circuit without what is needless: what it is, in each step, is what the circuit was. Plain facts.
-/
import Derived.Test.YtlahnihpdidanaaAigV1
import Derived.Test.YtlahnihpdidanaaLess7
import Derived.Test.YtlahnihpdidanaaAigL
namespace Go.Proofs.Ytlahnihpdidanaa
set_option linter.unusedVariables false

theorem valF_snoc (start : List Bool) (xs : List (Int × Int)) (p : Int × Int) : valF start (xs ++ [p]) (xs ++ [p]).length = valF start xs xs.length ++ [litV (valF start xs xs.length) p.1 && litV (valF start xs xs.length) p.2] := by
  unfold valF
  rw [List.take_length, List.take_length, List.foldl_append]
  rfl

theorem litV_app (us : List Bool) (b : Bool) (x : Int) (h : (x / 2).toNat < us.length) : litV (us ++ [b]) x = litV us x := by
  refine litV_congr ?_
  rw [List.getD, List.getElem?_append_left h]
  rfl

theorem litV_opp (us : List Bool) (y : Int) (h : 0 ≤ y) : litV us (opp y) = !litV us y := by
  unfold litV opp
  split
  · rename_i e
    have h1 : (y + 1) / 2 = y / 2 := by omega
    have h2 : (y + 1) % 2 = 1 := by omega
    have h3 : ¬ y % 2 = 1 := by omega
    rw [h1]
    simp [h2, h3]
  · rename_i e
    have h1 : (y - 1) / 2 = y / 2 := by omega
    have h2 : ¬ (y - 1) % 2 = 1 := by omega
    have h3 : y % 2 = 1 := by omega
    rw [h1]
    simp [h2, h3]

theorem litV_mapL {us vs : List Bool} {to : List Int} {x : Int} (h0 : 0 ≤ to.getD (x / 2).toNat 0) (h : vs.getD (x / 2).toNat false = litV us (to.getD (x / 2).toNat 0)) : litV us (mapL to x) = litV vs x := by
  unfold mapL
  split
  · rename_i e
    rw [litV_opp _ _ h0, ← h]
    unfold litV
    simp [e]
  · rename_i e
    rw [← h]
    unfold litV
    rw [decide_eq_false e, Bool.bne_false]

theorem litV_even (us : List Bool) (n : Nat) : litV us (2 * (n : Int)) = us.getD n false := by
  unfold litV
  have h1 : (2 * (n : Int)) / 2 = (n : Int) := by omega
  rw [h1, Int.toNat_natCast]
  simp

theorem litV_zero (start : List Bool) (xs : List (Int × Int)) (hs : 1 ≤ start.length) (hs0 : start.getD 0 false = false) : litV (valF start xs xs.length) 0 = false := by
  have := litV_even (valF start xs xs.length) 0
  rw [show (2 * ((0 : Nat) : Int)) = 0 by omega] at this
  rw [this, valF_start start xs 0 (by omega)]
  exact hs0

/-- What both are is what stands for both. -/
theorem andL_val (start : List Bool) (F : Nat) (hF : start.length = F) (h1 : 1 ≤ F) (hs0 : start.getD 0 false = false) (ands : List (Int × Int)) (hA : AndsOk F ands) {a b : Int} (h0 : 0 ≤ a) (hab : a ≤ b) (hr : 0 ≤ andL F ands a b) :
    litV (valF start ands ands.length) (andL F ands a b) = (litV (valF start ands ands.length) a && litV (valF start ands ands.length) b) := by
  have hz := litV_zero start ands (by omega) hs0
  unfold andL at *
  split
  · rename_i h
    rw [hz]
    rcases h with rfl | ⟨e1, e2⟩
    · rw [hz]; rfl
    · have e3 : b = opp a := by unfold opp; rw [if_pos e2]; omega
      rw [e3, litV_opp _ _ h0]
      cases litV (valF start ands ands.length) a <;> rfl
  · rename_i h
    rw [if_neg h] at hr
    split
    · rename_i h2
      rcases h2 with rfl | rfl
      · have e3 : (1 : Int) = opp 0 := rfl
        rw [e3, litV_opp _ _ (by omega), hz]
        simp
      · simp
    · rename_i h2
      rw [if_neg h2] at hr
      split
      · rename_i hw
        have hw2 : ands.getD (whereA ands (a, b)) (0, 0) = (a, b) := by
          unfold whereA at *
          have h3 := List.findIdx_getElem (xs := ands) (p := fun q => decide (q = (a, b))) (w := hw)
          simp only [decide_eq_true_eq] at h3
          rw [List.getD, List.getElem?_eq_getElem hw]
          exact h3
        have hb := hA _ hw
        rw [hw2] at hb
        have hv := valF_and start ands (whereA ands (a, b)) hw (by rw [hw2]; omega) (by rw [hw2]; omega)
        rw [hw2] at hv
        have e5 : 2 * ((F : Int) + (whereA ands (a, b) : Int)) = 2 * ((start.length + whereA ands (a, b) : Nat) : Int) := by rw [hF]; omega
        rw [e5, litV_even, hv]
      · rename_i h3
        rw [if_neg h3] at hr
        omega

theorem and_lohi (us : List Bool) (p q : Int) : (litV us (lo2 p q) && litV us (hi2 p q)) = (litV us p && litV us q) := by
  rcases lo_hi p q with ⟨e1, e2, _⟩ | ⟨e1, e2, _⟩
  · rw [e1, e2]
  · rw [e1, e2, Bool.and_comm]

theorem fold_val (start : List Bool) (F : Nat) (hF : start.length = F) (h1 : 1 ≤ F) (hs0 : start.getD 0 false = false) (xs : List (Int × Int)) (hA : AndsOk F xs) (k : Nat) (hk : k ≤ xs.length) :
    ∀ i, i < F + k → (valF start xs k).getD i false = litV (valF start (foldS F xs k).2 (foldS F xs k).2.length) ((foldS F xs k).1.getD i 0) := by
  induction k with
  | zero =>
    intro i hi
    show (valF start xs 0).getD i false = litV (valF start [] 0) ((start2 F).getD i 0)
    rw [start2_get F i (by omega), litV_even]
    rfl
  | succ k ih =>
    have hih := ih (by omega)
    have ho := foldS_ok F h1 xs hA k (by omega)
    have hlv := valF_length start xs k (by omega)
    obtain ⟨⟨x0, x1⟩, y0, y1⟩ := hA k (by omega)
    rw [valF_succ start xs k (by omega)]
    rw [show foldS F xs (k + 1) = foldStep F (foldS F xs k) (xs.getD k (0, 0)) from rfl]
    generalize foldS F xs k = st at *
    generalize xs.getD k (0, 0) = x at *
    generalize valF start xs k = vs at *
    have hul := valF_length start st.2 st.2.length (Nat.le_refl _)
    have hp := ho.to.map x0 (by omega)
    have hq := ho.to.map y0 (by omega)
    have ep : litV (valF start st.2 st.2.length) (mapL st.1 x.1) = litV vs x.1 := litV_mapL (ho.to.val _ (by omega)).1 (hih _ (by omega))
    have eq : litV (valF start st.2 st.2.length) (mapL st.1 x.2) = litV vs x.2 := litV_mapL (ho.to.val _ (by omega)).1 (hih _ (by omega))
    unfold foldStep
    generalize mapL st.1 x.1 = p at *
    generalize mapL st.1 x.2 = q at *
    have hlh := lo_hi p q
    have hL : 0 ≤ lo2 p q ∧ lo2 p q ≤ hi2 p q := by rcases hlh with ⟨e1, e2, _⟩ | ⟨e1, e2, _⟩ <;> rw [e1, e2] <;> omega
    simp only
    intro i hi
    have hlen := ho.to.len
    split
    · rename_i hr
      simp only
      rw [valF_snoc]
      by_cases e : i < F + k
      · rw [getD_snoc_lt _ _ _ _ (by omega), getD_snoc_lt _ _ _ _ (by omega), hih i e]
        have hv := ho.to.val i e
        rw [litV_app _ _ _ (by omega)]
      · obtain rfl : i = F + k := by omega
        have e1 : st.1.length = F + k := hlen
        have e2 : vs.length = F + k := by omega
        rw [← e2, getD_snoc_eq]
        rw [e2, ← e1, getD_snoc_eq]
        have e3 : 2 * ((F : Int) + (st.2.length : Int)) = 2 * (((valF start st.2 st.2.length).length : Nat) : Int) := by rw [hul, hF]; omega
        rw [e3, litV_even, getD_snoc_eq]
        simp only
        rw [and_lohi, ep, eq]
    · rename_i hr
      simp only
      by_cases e : i < F + k
      · rw [getD_snoc_lt _ _ _ _ (by omega), getD_snoc_lt _ _ _ _ (by omega), hih i e]
      · obtain rfl : i = F + k := by omega
        have e1 : st.1.length = F + k := hlen
        have e2 : vs.length = F + k := by omega
        rw [← e2, getD_snoc_eq]
        rw [e2, ← e1, getD_snoc_eq]
        rw [andL_val start F hF h1 hs0 st.2 ho.ands hL.1 hL.2 (by omega), and_lohi, ep, eq]

theorem prune_val (start : List Bool) (F : Nat) (hF : start.length = F) (h1 : 1 ≤ F) (xs : List (Int × Int)) (hA : AndsOk F xs) (S : Nat → Bool) (hc : Closed F xs S) (k : Nat) (hk : k ≤ xs.length) :
    ∀ i, i < F + k → (i < F ∨ S i = true) → (0 ≤ (pruneS F xs S k).1.getD i 0 ∧ (pruneS F xs S k).1.getD i 0 < 2 * ((F + (pruneS F xs S k).2.length : Nat) : Int)) ∧ (valF start xs k).getD i false = litV (valF start (pruneS F xs S k).2 (pruneS F xs S k).2.length) ((pruneS F xs S k).1.getD i 0) := by
  induction k with
  | zero =>
    intro i hi _
    show (0 ≤ (start2 F).getD i 0 ∧ (start2 F).getD i 0 < 2 * ((F + 0 : Nat) : Int)) ∧ (valF start xs 0).getD i false = litV (valF start [] 0) ((start2 F).getD i 0)
    rw [start2_get F i (by omega), litV_even]
    exact ⟨by omega, rfl⟩
  | succ k ih =>
    have hih := ih (by omega)
    have ho := pruneS_ok F h1 xs hA S k (by omega)
    have hlv := valF_length start xs k (by omega)
    obtain ⟨⟨x0, x1⟩, y0, y1⟩ := hA k (by omega)
    have hcl := hc (F + k) (by omega) (by omega)
    have kA : kidA F xs (F + k) = ((xs.getD k (0, 0)).1 / 2).toNat := by unfold kidA; rw [show F + k - F = k by omega]
    have kB : kidB F xs (F + k) = ((xs.getD k (0, 0)).2 / 2).toNat := by unfold kidB; rw [show F + k - F = k by omega]
    rw [kA, kB] at hcl
    rw [valF_succ start xs k (by omega)]
    rw [show pruneS F xs S (k + 1) = pruneStep F S k (pruneS F xs S k) (xs.getD k (0, 0)) from rfl]
    generalize pruneS F xs S k = st at *
    generalize xs.getD k (0, 0) = x at *
    generalize valF start xs k = vs at *
    have hul := valF_length start st.2 st.2.length (Nat.le_refl _)
    obtain ⟨ol, ov, oz⟩ := ho
    intro i hi hS
    have e1 : st.1.length = F + k := ol
    have e2 : vs.length = F + k := by omega
    unfold pruneStep
    simp only
    split
    · rename_i hSk
      simp only
      obtain ⟨sa, sb⟩ := hcl hSk
      have ga := hih _ (by omega) (.inr sa)
      have gb := hih _ (by omega) (.inr sb)
      have ta : (st.1 ++ [2 * ((F : Int) + (st.2.length : Int))]).getD (x.1 / 2).toNat 0 = st.1.getD (x.1 / 2).toNat 0 := getD_snoc_lt _ _ _ _ (by omega)
      have tb : (st.1 ++ [2 * ((F : Int) + (st.2.length : Int))]).getD (x.2 / 2).toNat 0 = st.1.getD (x.2 / 2).toNat 0 := getD_snoc_lt _ _ _ _ (by omega)
      have ep : litV (valF start st.2 st.2.length) (mapL (st.1 ++ [2 * ((F : Int) + (st.2.length : Int))]) x.1) = litV vs x.1 := litV_mapL (by rw [ta]; exact ga.1.1) (by rw [ta]; exact ga.2)
      have eq : litV (valF start st.2 st.2.length) (mapL (st.1 ++ [2 * ((F : Int) + (st.2.length : Int))]) x.2) = litV vs x.2 := litV_mapL (by rw [tb]; exact gb.1.1) (by rw [tb]; exact gb.2)
      rw [valF_snoc, List.length_append]
      simp only [List.length_cons, List.length_nil]
      by_cases e : i < F + k
      · obtain ⟨hr, hv⟩ := hih i e hS
        rw [getD_snoc_lt _ _ _ _ (by omega), getD_snoc_lt _ _ _ _ (by omega), hv]
        exact ⟨by omega, by rw [litV_app _ _ _ (by omega)]⟩
      · obtain rfl : i = F + k := by omega
        refine ⟨?_, ?_⟩
        · rw [← e1, getD_snoc_eq]; omega
        · rw [← e2, getD_snoc_eq]
          rw [e2, ← e1, getD_snoc_eq]
          have e3 : 2 * ((F : Int) + (st.2.length : Int)) = 2 * (((valF start st.2 st.2.length).length : Nat) : Int) := by rw [hul, hF]; omega
          rw [e3, litV_even, getD_snoc_eq, ← e3, ep, eq]
    · rename_i hSk
      simp only
      by_cases e : i < F + k
      · obtain ⟨hr, hv⟩ := hih i e hS
        rw [getD_snoc_lt _ _ _ _ (by omega), getD_snoc_lt _ _ _ _ (by omega), hv]
        exact ⟨hr, rfl⟩
      · obtain rfl : i = F + k := by omega
        rcases hS with h | h
        · omega
        · exact absurd h hSk

theorem mapL_range {to : List Int} {x : Int} {m : Nat} (h : 0 ≤ to.getD (x / 2).toNat 0 ∧ to.getD (x / 2).toNat 0 < 2 * (m : Int)) : 0 ≤ mapL to x ∧ mapL to x < 2 * (m : Int) := by
  unfold mapL opp
  split
  · split <;> omega
  · exact h

theorem prune_ands (start : List Bool) (F : Nat) (hF : start.length = F) (h1 : 1 ≤ F) (xs : List (Int × Int)) (hA : AndsOk F xs) (S : Nat → Bool) (hc : Closed F xs S) (k : Nat) (hk : k ≤ xs.length) : AndsOk F (pruneS F xs S k).2 := by
  induction k with
  | zero => exact fun i hi => by cases hi
  | succ k ih =>
    have hih := ih (by omega)
    have hv := prune_val start F hF h1 xs hA S hc k (by omega)
    have ho := pruneS_ok F h1 xs hA S k (by omega)
    obtain ⟨⟨x0, x1⟩, y0, y1⟩ := hA k (by omega)
    have hcl := hc (F + k) (by omega) (by omega)
    have kA : kidA F xs (F + k) = ((xs.getD k (0, 0)).1 / 2).toNat := by unfold kidA; rw [show F + k - F = k by omega]
    have kB : kidB F xs (F + k) = ((xs.getD k (0, 0)).2 / 2).toNat := by unfold kidB; rw [show F + k - F = k by omega]
    rw [kA, kB] at hcl
    rw [show pruneS F xs S (k + 1) = pruneStep F S k (pruneS F xs S k) (xs.getD k (0, 0)) from rfl]
    generalize pruneS F xs S k = st at *
    generalize xs.getD k (0, 0) = x at *
    obtain ⟨ol, ov, oz⟩ := ho
    unfold pruneStep
    simp only
    split
    · rename_i hSk
      obtain ⟨sa, sb⟩ := hcl hSk
      have ga := (hv _ (by omega) (.inr sa)).1
      have gb := (hv _ (by omega) (.inr sb)).1
      have ta : (st.1 ++ [2 * ((F : Int) + (st.2.length : Int))]).getD (x.1 / 2).toNat 0 = st.1.getD (x.1 / 2).toNat 0 := getD_snoc_lt _ _ _ _ (by omega)
      have tb : (st.1 ++ [2 * ((F : Int) + (st.2.length : Int))]).getD (x.2 / 2).toNat 0 = st.1.getD (x.2 / 2).toNat 0 := getD_snoc_lt _ _ _ _ (by omega)
      have ra := mapL_range (to := st.1 ++ [2 * ((F : Int) + (st.2.length : Int))]) (x := x.1) (m := F + st.2.length) (by rw [ta]; exact ga)
      have rb := mapL_range (to := st.1 ++ [2 * ((F : Int) + (st.2.length : Int))]) (x := x.2) (m := F + st.2.length) (by rw [tb]; exact gb)
      exact hih.snoc (by omega) (by omega)
    · exact hih

/-- A circuit whose parts mean what stands ahead is ok. -/
theorem ok_of {inp : Int} {ls : List (Int × Bool)} {xs : List (Int × Int)} {bs : List Int} {F : Nat} (h0 : 0 ≤ inp) (h8 : inp ≤ 8) (hl8 : ls.length ≤ 8) (hx40 : xs.length ≤ 40) (hb4 : bs.length ≤ 4) (hF : (F : Int) = 1 + inp + ls.length) (hA : AndsOk F xs) (hL : ∀ p ∈ ls, 0 ≤ p.1 ∧ p.1 < 2 * ((F : Int) + xs.length)) (hB : ∀ x ∈ bs, 0 ≤ x ∧ x < 2 * ((F : Int) + xs.length)) : okC inp ls xs bs = true ∧ (∀ p ∈ ls, I64 p.1) ∧ (∀ p ∈ xs, I64 p.1 ∧ I64 p.2) ∧ (∀ x ∈ bs, I64 x) := by
  have i1 : ∀ p ∈ ls, I64 p.1 := fun p hp => by have := hL p hp; unfold I64; omega
  have i2 : ∀ p ∈ xs, I64 p.1 ∧ I64 p.2 := fun p hp => by
    obtain ⟨i, hi, rfl⟩ := List.mem_iff_getElem.1 hp
    have h := hA i hi
    have e : xs.getD i (0, 0) = xs[i] := by simp [List.getD, hi]
    rw [e] at h
    unfold I64
    omega
  have i3 : ∀ x ∈ bs, I64 x := fun p hp => by have := hB p hp; unfold I64; omega
  refine ⟨?_, i1, i2, i3⟩
  rw [okC_eq i1 i2 i3]
  unfold okS okF sizesB
  simp only [Bool.and_eq_true, decide_eq_true_eq, List.all_eq_true, List.mem_map]
  refine ⟨⟨h0, h8, hl8, hx40, hb4⟩, fun p hp => ?_, ?_, fun x hx => ?_⟩
  · simp only [nodesFrom, List.mem_map, List.mem_range] at hp
    obtain ⟨i, hi, rfl⟩ := hp
    have h := hA i hi
    unfold pairB aheadB
    simp only [Bool.and_eq_true, decide_eq_true_eq]
    omega
  · rintro x ⟨p, hp, rfl⟩
    have := hL p hp
    unfold aheadB
    simp only [Bool.and_eq_true, decide_eq_true_eq]
    omega
  · have := hB x hx
    unfold aheadB
    simp only [Bool.and_eq_true, decide_eq_true_eq]
    omega

/-- What is left does what the circuit did. -/
theorem less_sem {inp : Int} {ls : List (Int × Bool)} {xs : List (Int × Int)} {bs : List Int} {i' : Int} {ls' : List (Int × Bool)} {xs' : List (Int × Int)} {bs' : List Int} (o : okC inp ls xs bs = true) (hl64 : ∀ p ∈ ls, I64 p.1) (h64 : ∀ p ∈ xs, I64 p.1 ∧ I64 p.2) (hb64 : ∀ x ∈ bs, I64 x) (h : IsLess inp ls xs bs i' ls' xs' bs') :
    i' = inp ∧ okC inp ls' xs' bs' = true ∧ ((∀ p ∈ ls', I64 p.1) ∧ (∀ p ∈ xs', I64 p.1 ∧ I64 p.2) ∧ (∀ x ∈ bs', I64 x)) ∧ ls'.length = ls.length ∧ bs'.length = bs.length ∧ xs'.length ≤ xs.length ∧ ls'.map Prod.snd = ls.map Prod.snd ∧
    ∀ lats ins, lats.length = ls.length → (ins.length : Int) = inp → nextOf inp ls' xs' bs' lats ins = nextOf inp ls xs bs lats ins ∧ badOf inp ls' xs' bs' lats ins = badOf inp ls xs bs lats ins := by
  obtain ⟨h0, h8, hl8, hx40, hb4⟩ := okC_sizes o
  obtain ⟨F, hF⟩ : ∃ F : Nat, (F : Int) = 1 + inp + ls.length := ⟨(1 + inp + ls.length).toNat, by omega⟩
  obtain ⟨hA, hL, hB⟩ := okS_ands o hl64 h64 hb64 hF
  obtain ⟨e1, st, hst, S, hS, e2, e3, e4⟩ := h.2 o F hF
  have h1 : 1 ≤ F := by omega
  have hfo := foldS_ok F h1 xs hA xs.length (Nat.le_refl _)
  rw [← hst] at hfo
  have hfv := fun start hs hs0 => fold_val start F hs h1 hs0 xs hA xs.length (Nat.le_refl _)
  rw [← hst] at hfv
  have hpo := pruneS_ok F h1 st.2 hfo.ands S st.2.length (Nat.le_refl _)
  have hpv := fun start hs => prune_val start F hs h1 st.2 hfo.ands S hS.cl st.2.length (Nat.le_refl _)
  have hpa := prune_ands (List.replicate F false) F (by simp) h1 st.2 hfo.ands S hS.cl st.2.length (Nat.le_refl _)
  clear hst
  obtain ⟨pt, hpt⟩ : ∃ pt, pruneS F st.2 S st.2.length = pt := ⟨_, rfl⟩
  rw [hpt] at e2 e3 e4 hpo hpa hpv
  have hle := hfo.le
  have hle2 := hpo.2.2
  have hll : ls'.length = ls.length := by rw [e2]; simp [mapLat]
  have hbl : bs'.length = bs.length := by rw [e4]; simp [mapBad]
  have root : ∀ x, x ∈ ls.map Prod.fst ∨ x ∈ bs → 0 ≤ x ∧ x < 2 * ((F + xs.length : Nat) : Int) ∧ S (mapL st.1 x / 2).toNat = true := fun x hx => by
    rcases hx with hx | hx
    · obtain ⟨p, hp, rfl⟩ := List.mem_map.1 hx
      have := hL p hp
      refine ⟨by omega, by omega, hS.has _ ?_⟩
      unfold rootsOf nodesL
      refine List.mem_append.2 (.inl (List.mem_map.2 ⟨mapL st.1 p.1, List.mem_map.2 ⟨(mapL st.1 p.1, p.2), List.mem_map.2 ⟨p, hp, rfl⟩, rfl⟩, rfl⟩))
    · have := hB x hx
      refine ⟨by omega, by omega, hS.has _ ?_⟩
      unfold rootsOf nodesL
      exact List.mem_append.2 (.inr (List.mem_map.2 ⟨mapL st.1 x, List.mem_map.2 ⟨x, hx, rfl⟩, rfl⟩))
  have rng : ∀ x, x ∈ ls.map Prod.fst ∨ x ∈ bs → 0 ≤ mapL pt.1 (mapL st.1 x) ∧ mapL pt.1 (mapL st.1 x) < 2 * ((F + pt.2.length : Nat) : Int) := fun x hx => by
    obtain ⟨g0, g1, g2⟩ := root x hx
    have hm := hfo.to.map g0 (by omega)
    exact mapL_range ((hpv (List.replicate F false) (by simp) _ (by omega) (.inr g2)).1)
  have val : ∀ start : List Bool, start.length = F → start.getD 0 false = false → ∀ x, x ∈ ls.map Prod.fst ∨ x ∈ bs → litV (valF start pt.2 pt.2.length) (mapL pt.1 (mapL st.1 x)) = litV (valF start xs xs.length) x := fun start hs hs0 x hx => by
    obtain ⟨g0, g1, g2⟩ := root x hx
    have hm := hfo.to.map g0 (by omega)
    have v2 := hpv start hs _ (by omega) (.inr g2)
    have v1 := hfv start hs hs0 (x / 2).toNat (by omega)
    rw [litV_mapL v2.1.1 v2.2]
    exact litV_mapL (hfo.to.val _ (by omega)).1 v1
  have hL' : ∀ p ∈ ls', 0 ≤ p.1 ∧ p.1 < 2 * ((F : Int) + xs'.length) := fun p hp => by
    rw [e2] at hp
    obtain ⟨q, hq, rfl⟩ := List.mem_map.1 hp
    obtain ⟨r, hr, rfl⟩ := List.mem_map.1 hq
    have := rng r.1 (.inl (List.mem_map.2 ⟨r, hr, rfl⟩))
    rw [e3]
    simp only
    omega
  have hB' : ∀ x ∈ bs', 0 ≤ x ∧ x < 2 * ((F : Int) + xs'.length) := fun x hx => by
    rw [e4] at hx
    obtain ⟨q, hq, rfl⟩ := List.mem_map.1 hx
    obtain ⟨r, hr, rfl⟩ := List.mem_map.1 hq
    have := rng r (.inr hr)
    rw [e3]
    omega
  have hA' : AndsOk F xs' := by rw [e3]; exact hpa
  have hx' : xs'.length ≤ xs.length := by rw [e3]; omega
  obtain ⟨ok', j1, j2, j3⟩ := ok_of h0 h8 (by omega) (by omega) (by omega) (by omega) hA' hL' hB'
  refine ⟨e1, ok', ⟨j1, j2, j3⟩, hll, hbl, hx', ?_, fun lats ins hla hin => ?_⟩
  · rw [e2]
    simp [mapLat, Function.comp_def]
  · have f1 : fitsB inp ls xs bs lats ins = true := fitsB_iff.2 ⟨o, hla, hin⟩
    have f2 : fitsB inp ls' xs' bs' lats ins = true := fitsB_iff.2 ⟨ok', by omega, hin⟩
    have hs : (startOf ins lats).length = F := by rw [start_length]; omega
    unfold nextOf badOf
    rw [if_pos f1, if_pos f2, if_pos f1, if_pos f2]
    refine ⟨?_, ?_⟩
    · rw [e2, e3]
      simp only [mapLat, List.map_map]
      refine List.map_congr_left fun p hp => ?_
      exact val _ hs (start_zero ins lats) p.1 (.inl (List.mem_map.2 ⟨p, hp, rfl⟩))
    · rw [e3, e4]
      simp only [mapBad, List.map_map]
      refine List.map_congr_left fun x hx => ?_
      exact val _ hs (start_zero ins lats) x (.inr hx)

end Go.Proofs.Ytlahnihpdidanaa

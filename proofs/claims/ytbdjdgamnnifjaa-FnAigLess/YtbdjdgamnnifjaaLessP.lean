/-
  A circuit without what is needless is left as it is. Plain facts.
-/
import Derived.Test.YtbdjdgamnnifjaaLessNX
import Derived.Test.YtbdjdgamnnifjaaLess11
namespace Go.Proofs.Ytbdjdgamnnifjaa
set_option linter.unusedVariables false

/-- All that is left is needed. -/
theorem all_needed {F : Nat} (h1 : 1 ≤ F) {zs : List (Int × Int)} (hA : AndsOk F zs) {ls2 : List (Int × Bool)} {bs2 : List Int} {S : Nat → Bool} (hS : LeastR F zs (rootsOf ls2 bs2) S) (hL : ∀ p ∈ ls2, 0 ≤ p.1 ∧ p.1 < 2 * ((F + zs.length : Nat) : Int)) (hB : ∀ x ∈ bs2, 0 ≤ x ∧ x < 2 * ((F + zs.length : Nat) : Int))
    {S' : Nat → Bool} (hS' : LeastR F (pruneS F zs S zs.length).2 (rootsOf (mapLat (pruneS F zs S zs.length).1 ls2) (mapBad (pruneS F zs S zs.length).1 bs2)) S') : ∀ j, j < (pruneS F zs S zs.length).2.length → S' (F + j) = true := by
  have hnu := prune_nu F h1 zs hA S
  obtain ⟨i0, i1, i2, i3⟩ := prune_idx F h1 zs hA S zs.length (Nat.le_refl _)
  generalize pruneS F zs S zs.length = pt at *
  have node : ∀ y : Int, 0 ≤ y → Still F (F + zs.length) S (y / 2).toNat → (mapL pt.1 y / 2).toNat = (pt.1.getD (y / 2).toNat 0 / 2).toNat := fun y h0 h => by
    have e := hnu.even _ h
    rw [mapL_even e h0]
    congr 1
    omega
  have hT := hS.least (fun n => S n && (decide (n < F) || S' (pt.1.getD n 0 / 2).toNat)) (fun n hn => ?_) (fun m g1 g2 g3 => ?_)
  · intro j hj
    obtain ⟨m, a1, a2, a3, a4, _⟩ := i1 j hj
    have := hT m a3
    simp only [Bool.and_eq_true, Bool.or_eq_true, decide_eq_true_eq] at this
    rcases this.2 with h | h
    · omega
    · rw [a4] at h
      rwa [show (2 * ((F + j : Nat) : Int) / 2).toNat = F + j by omega] at h
  · have hs := hS.has n hn
    simp only [Bool.and_eq_true, Bool.or_eq_true, decide_eq_true_eq]
    refine ⟨hs, ?_⟩
    by_cases e : n < F
    · exact .inl e
    · right
      unfold rootsOf nodesL at hn
      rcases List.mem_append.1 hn with h | h
      · obtain ⟨y, hy, rfl⟩ := List.mem_map.1 h
        obtain ⟨p, hp, rfl⟩ := List.mem_map.1 hy
        have hr := hL p hp
        rw [← node p.1 hr.1 (.inr ⟨by omega, hs⟩)]
        refine hS'.has _ ?_
        unfold rootsOf nodesL
        exact List.mem_append.2 (.inl (List.mem_map.2 ⟨mapL pt.1 p.1, List.mem_map.2 ⟨(mapL pt.1 p.1, p.2), List.mem_map.2 ⟨p, hp, rfl⟩, rfl⟩, rfl⟩))
      · obtain ⟨y, hy, rfl⟩ := List.mem_map.1 h
        have hr := hB y hy
        rw [← node y hr.1 (.inr ⟨by omega, hs⟩)]
        refine hS'.has _ ?_
        unfold rootsOf nodesL
        exact List.mem_append.2 (.inr (List.mem_map.2 ⟨mapL pt.1 y, List.mem_map.2 ⟨y, hy, rfl⟩, rfl⟩))
  · simp only [Bool.and_eq_true, Bool.or_eq_true, decide_eq_true_eq] at g3
    obtain ⟨gs, gn⟩ := g3
    have gn : S' (pt.1.getD m 0 / 2).toNat = true := by
      rcases gn with h | h
      · omega
      · exact h
    obtain ⟨sa, sb⟩ := kids_still hA hS.cl g1 g2 gs
    have hks := hS.cl m g1 g2 gs
    obtain ⟨j, hj, ej⟩ := i2 m g1 g2 gs
    obtain ⟨m0, a1, a2, a3, a4, a5⟩ := i1 j hj
    have em : m0 = m := hnu.inj (.inr ⟨a2, a3⟩) (.inr ⟨g2, gs⟩) (a4.trans ej.symm)
    subst em
    rw [ej, show (2 * ((F + j : Nat) : Int) / 2).toNat = F + j by omega] at gn
    have hk' := hS'.cl (F + j) (by omega) (by omega) gn
    have hr := hA (m0 - F) (by omega)
    have kA : kidA F pt.2 (F + j) = (pt.1.getD (kidA F zs m0) 0 / 2).toNat := by
      unfold kidA
      rw [show F + j - F = j by omega, a5]
      exact node _ hr.1.1 sa
    have kB : kidB F pt.2 (F + j) = (pt.1.getD (kidB F zs m0) 0 / 2).toNat := by
      unfold kidB
      rw [show F + j - F = j by omega, a5]
      exact node _ hr.2.1 sb
    rw [kA, kB] at hk'
    simp only [Bool.and_eq_true, Bool.or_eq_true, decide_eq_true_eq]
    exact ⟨⟨hks.1, .inr hk'.1⟩, hks.2, .inr hk'.2⟩

theorem mapLat_same {n : Nat} {ls : List (Int × Bool)} (h : ∀ p ∈ ls, 0 ≤ p.1 ∧ p.1 < 2 * (n : Int)) : mapLat (start2 n) ls = ls := by
  unfold mapLat
  conv => rhs; rw [← List.map_id ls]
  refine List.map_congr_left fun p hp => ?_
  have := h p hp
  rw [mapL_start2 this.1 this.2]
  rfl

theorem mapBad_same {n : Nat} {bs : List Int} (h : ∀ x ∈ bs, 0 ≤ x ∧ x < 2 * (n : Int)) : mapBad (start2 n) bs = bs := by
  unfold mapBad
  conv => rhs; rw [← List.map_id bs]
  refine List.map_congr_left fun x hx => ?_
  have := h x hx
  rw [mapL_start2 this.1 this.2]
  rfl

/-- Once more, it is the same. -/
theorem less_same {inp : Int} {ls : List (Int × Bool)} {xs : List (Int × Int)} {bs : List Int} {i' : Int} {ls' : List (Int × Bool)} {xs' : List (Int × Int)} {bs' : List Int} (o : okC inp ls xs bs = true) (hl64 : ∀ p ∈ ls, I64 p.1) (h64 : ∀ p ∈ xs, I64 p.1 ∧ I64 p.2) (hb64 : ∀ x ∈ bs, I64 x) (h : IsLess inp ls xs bs i' ls' xs' bs') :
    IsLess inp ls' xs' bs' inp ls' xs' bs' ∧ Norm xs' := by
  obtain ⟨e0, ok', ⟨j1, j2, j3⟩, hll, hbl, hx', _, _⟩ := less_sem o hl64 h64 hb64 h
  obtain ⟨h0, h8, hl8, hx40, hb4⟩ := okC_sizes o
  obtain ⟨F, hF⟩ : ∃ F : Nat, (F : Int) = 1 + inp + ls.length := ⟨(1 + inp + ls.length).toNat, by omega⟩
  obtain ⟨hA, hL, hB⟩ := okS_ands o hl64 h64 hb64 hF
  obtain ⟨hA', hL', hB'⟩ := okS_ands ok' j1 j2 j3 (F := F) (by omega)
  obtain ⟨e1, st, hst, S, hS, e2, e3, e4⟩ := h.2 o F hF
  have h1 : 1 ≤ F := by omega
  have hfo := foldS_ok F h1 xs hA xs.length (Nat.le_refl _)
  have hfn := fold_norm F h1 xs hA xs.length (Nat.le_refl _)
  rw [← hst] at hfo hfn
  have hpn := prune_norm F h1 st.2 hfo.ands S hS.cl hfn
  have hN : Norm xs' := by rw [e3]; exact hpn
  have hL2 : ∀ p ∈ mapLat st.1 ls, 0 ≤ p.1 ∧ p.1 < 2 * ((F + st.2.length : Nat) : Int) := fun p hp => by
    obtain ⟨q, hq, rfl⟩ := List.mem_map.1 hp
    have := hL q hq
    exact hfo.to.map this.1 (by omega)
  have hB2 : ∀ x ∈ mapBad st.1 bs, 0 ≤ x ∧ x < 2 * ((F + st.2.length : Nat) : Int) := fun p hp => by
    obtain ⟨q, hq, rfl⟩ := List.mem_map.1 hp
    have := hB q hq
    exact hfo.to.map this.1 (by omega)
  refine ⟨⟨fun h => (by rw [ok'] at h; cases h), fun _ F' hF' => ?_⟩, hN⟩
  obtain rfl : F' = F := by omega
  have hs' := sweep_leastR (rootsOf ls' bs') (aheadA hA')
  have hall : ∀ j, j < xs'.length → sweepF F' xs' (setAll (rootsOf ls' bs')) xs'.length (F' + j) = true := by
    have hs2 := hs'
    rw [e2, e3, e4] at hs2
    have := all_needed h1 hfo.ands hS hL2 hB2 hs2
    rw [e2, e3, e4]
    exact this
  have hfs := fold_same F' xs' hA' hN xs'.length (Nat.le_refl _)
  rw [List.take_length] at hfs
  have hps := prune_same F' xs' hA' _ hall xs'.length (Nat.le_refl _)
  rw [List.take_length] at hps
  have hml : mapLat (start2 (F' + xs'.length)) ls' = ls' := mapLat_same (fun p hp => by have := hL' p hp; omega)
  have hmb : mapBad (start2 (F' + xs'.length)) bs' = bs' := mapBad_same (fun p hp => by have := hB' p hp; omega)
  refine ⟨rfl, (start2 (F' + xs'.length), xs'), hfs.symm, sweepF F' xs' (setAll (rootsOf ls' bs')) xs'.length, ?_, ?_, ?_, ?_⟩
  · simp only
    rw [hml, hmb]
    exact hs'
  · simp only
    rw [hps]
    simp only
    rw [hml, hml]
  · simp only
    rw [hps]
  · simp only
    rw [hps]
    simp only
    rw [hmb, hmb]

end Go.Proofs.Ytbdjdgamnnifjaa

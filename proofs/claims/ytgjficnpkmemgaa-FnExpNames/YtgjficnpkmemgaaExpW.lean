/-
  Expressions drawn: numbers and truths, l13Num, l13Truth.
-/
import Derived.Test.YtgjficnpkmemgaaExpV
import Derived.Deep.CutBlock
import Derived.Deep.DeepCutAuto
namespace Go.Proofs.Ytgjficnpkmemgaa
open Go.RowKit Go.Deep
set_option linter.unusedVariables false

attribute [local go_sem] Oper.semAt_some

/-- A few short texts, beside the reader. -/
def SlT (w : World) (R : Nat) (x : Value) : Prop := ∃ (ao : Option Addr) (n c : Nat) (ns : List Bs), x = .slice ao n c ∧ ns.length = n ∧ n ≤ 9 ∧ (∀ s ∈ ns, s.length ≤ 8) ∧ (0 < n → ∃ b off, ao = some ⟨b, off, none⟩ ∧ b ≠ R ∧ AtT w b off ns)
theorem SlT.grown {w w' : World} {R : Nat} {x : Value} (h : SlT w R x) (hg : w.grownBy w' (some R)) : SlT w' R x := by
  obtain ⟨ao, n, c, ns, e, h1, h2, h3, h4⟩ := h
  refine ⟨ao, n, c, ns, e, h1, h2, h3, fun hp => ?_⟩
  obtain ⟨b, off, e2, hb, ha⟩ := h4 hp
  exact ⟨b, off, e2, hb, fun i hi => hg.cell (ha i hi) (fun e => hb (Option.some.inj e))⟩
theorem SlT.below {w w' : World} {R : Nat} {x : Value} (h : SlT w R x) (hb : Below w.heap.size w w') : SlT w' R x := by
  obtain ⟨ao, n, c, ns, e, h1, h2, h3, h4⟩ := h
  refine ⟨ao, n, c, ns, e, h1, h2, h3, fun hp => ?_⟩
  obtain ⟨b, off, e2, hb2, ha⟩ := h4 hp
  exact ⟨b, off, e2, hb2, ha.below hb⟩

/-- What stands while an expression is drawn: the names in a block of their own, the answer not yet written, the reader. -/
structure DrS (w V : World) (R : Nat) (v : Value) (bs : List Int) (p : Nat) (nv tv : Value) : Prop where
  b0 : V.cell? ⟨w.heap.size, 0, none⟩ = some nv
  b1 : V.cell? ⟨w.heap.size, 1, none⟩ = some tv
  q : BlkE V (w.heap.size + 1) (.int .i64 0) (.int .i64 0) (.string ⟨#[]⟩) (.slice none 0 0) 25
  rd : Rd V R v bs p
  gr : w.grownBy V (some R)
  sn : SlT V R nv
  st : SlT V R tv
  lt : R < w.heap.size
  al : ∀ (ao : Option Addr) (n cap b off : Nat), v = .slice ao n cap → ao = some ⟨b, off, none⟩ → b < w.heap.size

section
variable {w V V' : World} {R : Nat} {v : Value} {bs : List Int} {p p' : Nat} {nv tv : Value}
theorem DrS.pick (h : DrS w V R v bs p nv tv) (hrd : Rd V' R v bs p') (hg : V.grownBy V' (some R)) : DrS w V' R v bs p' nv tv :=
  ⟨hg.cell h.b0 (fun e => by have h1 : w.heap.size = R := Option.some.inj e; have := h.lt; omega), hg.cell h.b1 (fun e => by have h1 : w.heap.size = R := Option.some.inj e; have := h.lt; omega), (hg.block _ h.q.lt (fun e => by have := Option.some.inj e; have := h.lt; omega)).trans h.q, hrd, grown_trans h.gr hg, h.sn.grown hg, h.st.grown hg, h.lt, h.al⟩
theorem DrS.below (h : DrS w V R v bs p nv tv) (hb : Below V.heap.size V V') : DrS w V' R v bs p nv tv :=
  ⟨(hb.cell (cell_lt h.b0)).trans h.b0, (hb.cell (cell_lt h.b1)).trans h.b1, h.q.below hb, h.rd.below hb, grown_trans h.gr (below_grown hb), h.sn.below hb, h.st.below hb, h.lt, h.al⟩
theorem DrS.drew (h : DrS w V R v bs p nv tv) : DrS w V.drew R v bs p nv tv := h.below (below_drewN (Below.refl _ _) 1)
theorem DrS.room (h : DrS w V R v bs p nv tv) : w.heap.size + 2 ≤ V.heap.size := h.q.lt
end

/-- A drawn expression: its lists in new memory, not too great; the reader went on, and nothing else of what there was has turned. -/
def DrwE (R : Nat) (v : Value) (bs : List Int) (p m : Nat) (w : World) (e : Ending) (w' : World) : Prop :=
  ∃ (t : ExpT) (u : Value) (p' : Nat), e = .returned u ∧ IsE w' w.heap.size t u ∧ totE t ≤ m ∧ p ≤ p' ∧ p' ≤ p + m ∧ Rd w' R v bs p' ∧ w.grownBy w' (some R)

/-- The answer is written: what is then. -/
theorem drw_fin {w V : World} {R : Nat} {v : Value} {bs : List Int} {p p' m : Nat} {nv tv a0 a1 a2 a3 : Value} {t : ExpT} (h : DrS w V R v bs p' nv tv) (hp : p ≤ p') (hp2 : p' ≤ p + m) (hE : IsE V (w.heap.size + 2) t (.agg #[a0, a1, a2, a3])) (ht : totE t ≤ m) :
    DrwE R v bs p m w (.returned (.agg #[a0, a1, a2, a3])) (set4E V (w.heap.size + 1) a0 a1 a2 a3) := by
  have hg : V.grownBy (set4E V (w.heap.size + 1) a0 a1 a2 a3) (some (w.heap.size + 1)) := ⟨rfl, rfl, rfl, by rw [set4E_size]; exact Nat.le_refl _, fun k hk hne => set4E_other _ _ _ _ (fun e => hne (by rw [e]))⟩
  refine ⟨t, _, p', rfl, IsE.less (by omega) _ _ (IsE.kept (fun k hk _ => set4E_other _ _ _ _ (by omega)) _ _ hE), ht, hp, hp2, ?_, ?_⟩
  · exact h.rd.own hg h.lt h.al (fun k e => by have := Option.some.inj e; omega)
  · exact ⟨h.gr.os, h.gr.tape, h.gr.output, by rw [set4E_size]; exact h.gr.size, fun k hk hne => (set4E_other _ _ _ _ (by omega)).trans (h.gr.block k hk hne)⟩

theorem drw_fin2 {w V : World} {R : Nat} {v : Value} {bs : List Int} {p p' m : Nat} {nv tv a0 a1 a2 a3 : Value} {t : ExpT} {o : Obj} (h : DrS w V R v bs p' nv tv) (hp : p ≤ p') (hp2 : p' ≤ p + m) (hE : IsE ((set4E V (w.heap.size + 1) a0 a1 a2 a3).alloc o) (w.heap.size + 2) t (.agg #[a0, a1, a2, a3])) (ht : totE t ≤ m) :
    DrwE R v bs p m w (.returned (.agg #[a0, a1, a2, a3])) ((set4E V (w.heap.size + 1) a0 a1 a2 a3).alloc o) := by
  have hg : V.grownBy (set4E V (w.heap.size + 1) a0 a1 a2 a3) (some (w.heap.size + 1)) := ⟨rfl, rfl, rfl, by rw [set4E_size]; exact Nat.le_refl _, fun k hk hne => set4E_other _ _ _ _ (fun e => hne (by rw [e]))⟩
  refine ⟨t, _, p', rfl, IsE.less (by omega) _ _ hE, ht, hp, hp2, ?_, ?_⟩
  · exact (h.rd.own hg h.lt h.al (fun k e => by have := Option.some.inj e; omega)).below (belOne _ _)
  · have h1 : w.grownBy (set4E V (w.heap.size + 1) a0 a1 a2 a3) (some R) := ⟨h.gr.os, h.gr.tape, h.gr.output, by rw [set4E_size]; exact h.gr.size, fun k hk hne => (set4E_other _ _ _ _ (by omega)).trans (h.gr.block k hk hne)⟩
    exact grown_trans h1 (below_grown (belOne _ _))

/-- What drawing says, of either kind, so deep. -/
def DrawSays (f : Nat) (d : Nat) : Prop := ∀ (R : Nat) (v : Value) (bs : List Int) (p : Nat) (nv tv : Value) (w : World), Rd w R v bs p → p + 16 * 4 ^ d ≤ 400000 → SlT w R nv → SlT w R tv → (∀ (ao : Option Addr) (n cap b off : Nat), v = .slice ao n cap → ao = some ⟨b, off, none⟩ → b < w.heap.size) →
    Calls Try.prog f #[.pointer (some ⟨R, 0, none⟩), .int .i64 (d : Int), .agg #[nv, tv]] w (DrwE R v bs p (16 * 4 ^ d) w)

theorem pow_room (d : Nat) : 16 ≤ 16 * 4 ^ d := by have := Nat.one_le_pow d 4 (by decide); omega

section
variable {w V V' : World} {R : Nat} {v : Value} {bs : List Int} {p p' : Nat} {nv tv : Value}
theorem DrS.alw (h : DrS w V R v bs p nv tv) : ∀ (ao : Option Addr) (n cap b off : Nat), v = .slice ao n cap → ao = some ⟨b, off, none⟩ → b < V.heap.size := fun ao n cap b off e1 e2 => by have := h.al ao n cap b off e1 e2; have := h.room; omega
theorem DrS.lo (h : DrS w V R v bs p nv tv) : R < w.heap.size + 2 := by have := h.lt; omega
end

set_option maxRecDepth 100000 in
set_option maxHeartbeats 40000000 in
theorem l13Num_of (d : Nat) (hd : d ≤ 8) (ihT : ∀ d', d = d' + 1 → DrawSays 30 d') (ihN : ∀ d', d = d' + 1 → DrawSays 32 d') : DrawSays 32 d := by
  intro R v bs p nv tv w hr hp hn ht hal
  have hlt := hr.lt
  obtain ⟨W1, hW1⟩ : ∃ W1, W1 = (w.alloc (.cells #[nv, tv] 66)).alloc (.cells #[.int .i64 0, .int .i64 0, .string ⟨#[]⟩, .slice none 0 0] 25) := ⟨_, rfl⟩
  have hb1 : Below w.heap.size w W1 := by rw [hW1]; exact belNext (belOne _ _) (belOne _ _)
  have HS1 : Hid (DrS w W1 R v bs p nv tv) := by
    refine ⟨by rw [hW1]; simp, by rw [hW1]; simp, ?_, hr.below hb1, below_grown hb1, hn.below hb1, ht.below hb1, hlt, hal⟩
    rw [hW1]
    have h := BlkE.new (w.alloc (.cells #[nv, tv] 66)) (.int .i64 0) (.int .i64 0) (.string ⟨#[]⟩) (.slice none 0 0) 25
    rw [World.size_alloc] at h
    exact h
  have HM := hideN (pow_room d)
  obtain ⟨M, hM⟩ : ∃ M, 16 * 4 ^ d = M := ⟨_, rfl⟩
  have HMD : Hid (∀ d', d = d' + 1 → M = 4 * (16 * 4 ^ d')) := fun d' h => by rw [← hM, h, Nat.pow_succ]; omega
  rw [hM] at HM hp ⊢
  have HW1 := hideN hW1
  have HT := hideN ihT
  have HN := hideN ihN
  obtain ⟨na, nn, nc, ns0, rfl, _⟩ := hn
  obtain ⟨ta, tn, tc, ts0, rfl, _⟩ := ht
  have hmm := HM.out
  clear hr hb1 hW1 ihT ihN hal hM
  go_enter Try.func32, Try.ntmps32
  go_upto_region 1 with fail
  try rw [← HW1.out]
  go_cut [13] (fun t wc => ∃ (q : Bool) (p1 : Nat), t = .bool q ∧ (q = false → 0 < d) ∧ p ≤ p1 ∧ p1 ≤ p + 1 ∧ Hid (DrS w wc R v bs p1 (.slice na nn nc) (.slice ta tn tc)))
  case first =>
    by_cases hd0 : d = 0
    · have hle : decide ((d : Int) ≤ 0) = true := by simp; omega
      go_wp2_with fail
      go_meet
      case rel => exact ⟨true, p, rfl, (fun h => by cases h), Nat.le_refl _, by omega, HS1⟩
    · have hle : decide ((d : Int) ≤ 0) = false := by simp; omega
      go_wp2_with fail
      refine (pick_any R v bs p 3 W1 HS1.out.rd (by omega) (by omega)).mono ?_
      rintro e w1 ⟨x, rfl, _, _, _, hrd, hg, -⟩
      have HS2 := hideN (HS1.out.pick hrd hg)
      clear hrd hg
      obtain ⟨q, hq⟩ : ∃ q, (x == 0) = q := ⟨_, rfl⟩
      go_wp2_with fail
      go_meet
      case rel => exact ⟨q, p + 1, by first | rfl | rw [hq], (fun _ => by omega), by omega, by omega, HS2⟩
  case rest =>
    rename World => wc
    obtain ⟨q, p1, rfl, hq, hp1, hp2, HS⟩ := hcut
    clear HS1
    cases q with
    | true =>
      clear hq
      have c0 := HS.out.b0
      have c1 := HS.out.b1
      go_upto_region 2 with fail
      go_cut [22] (fun t wd => ∃ (q2 : Bool) (p2 : Nat), t = .bool q2 ∧ (q2 = true → 0 < nn) ∧ p1 ≤ p2 ∧ p2 ≤ p1 + 1 ∧ Hid (DrS w wd R v bs p2 (.slice na nn nc) (.slice ta tn tc)))
      case first =>
        by_cases hn0 : nn = 0
        · have hle : decide ((nn : Int) > 0) = false := by simp; omega
          go_wp2_with fail
          go_meet
          case rel => exact ⟨false, p1, rfl, (fun h => by cases h), Nat.le_refl _, by omega, HS⟩
        · have hle : decide ((nn : Int) > 0) = true := by simp; omega
          go_wp2_with fail
          refine (pick_any R v bs p1 3 _ HS.out.rd (by omega) (by omega)).mono ?_
          rintro e w1 ⟨x, rfl, _, _, _, hrd, hg, -⟩
          have HS2 := hideN (HS.out.pick hrd hg)
          clear hrd hg c0 c1
          obtain ⟨q, hq⟩ : ∃ q, decide (0 < x) = q := ⟨_, rfl⟩
          go_wp2_with fail
          go_meet
          case rel => exact ⟨q, p1 + 1, by first | rfl | rw [hq], (fun _ => by omega), by omega, by omega, HS2⟩
      case rest =>
        clear c0 c1 HS
        rename World => wd
        obtain ⟨q2, p2, rfl, hq2, hp3, hp4, HS⟩ := hcut
        cases q2 with
        | true =>
          have hnn := hq2 rfl
          obtain ⟨ao', n', c', ns, he, hl1, hl2, hl3, hl4⟩ := HS.out.sn
          injection he with e1 e2 e3
          subst e1 e2 e3
          obtain ⟨sb, so, hao, hbR, _⟩ := hl4 hnn
          subst hao
          have HSD := hideN HS.out.drew
          clear hl1 hl3 hl4 hq2
          go_wp2_with fail
          have b0 : wd.drew.cell? ⟨w.heap.size, 0, none⟩ = some (.slice (some ⟨sb, so, none⟩) nn nc) := HSD.out.b0
          have b1 : wd.drew.cell? ⟨w.heap.size, 1, none⟩ = some (.slice ta tn tc) := HSD.out.b1
          refine region_U (fin := 10) (S := fun V' => V'.cell? ⟨w.heap.size, 0, none⟩ = some (.slice (some ⟨sb, so, none⟩) nn nc) ∧ V'.cell? ⟨w.heap.size, 1, none⟩ = some (.slice ta tn tc)) (by kernel_rfl) ⟨b0, b1⟩ (fun hHeld => ?_)
          clear hHeld
          refine takeU (i := 0) (v := .pointer (some ⟨w.heap.size, 0, none⟩)) rfl (by rfl) (by kernel_rfl) (by kernel_rfl) (by kernel_rfl) (by kernel_rfl) (by kernel_rfl) (fun _ _ _ h => h) (Or.inl ⟨by rfl, fun w hS => by obtain ⟨b0, b1⟩ := hS; go_simp⟩) ⟨b0, b1⟩ ?_
          simp only [List.getElem_toArray, List.getElem_cons_zero, Act.put, List.setIfInBounds_toArray, List.set_cons_zero, List.set_cons_succ]
          refine takeU (i := 1) (v := .slice (some ⟨sb, so, none⟩) nn nc) rfl (by rfl) (by kernel_rfl) (by kernel_rfl) (by kernel_rfl) (by kernel_rfl) (by kernel_rfl) (fun _ _ _ h => h) (Or.inl ⟨by rfl, fun w hS => by obtain ⟨b0, b1⟩ := hS; go_simp⟩) ⟨b0, b1⟩ ?_
          simp only [List.getElem_toArray, List.getElem_cons_zero, List.getElem_cons_succ, Act.put, List.setIfInBounds_toArray, List.set_cons_zero, List.set_cons_succ]
          refine takeU (i := 2) (v := .pointer (some ⟨R, 0, none⟩)) rfl (by rfl) (by kernel_rfl) (by kernel_rfl) (by kernel_rfl) (by kernel_rfl) (by kernel_rfl) (fun _ _ _ h => h) (Or.inl ⟨by rfl, fun w hS => by obtain ⟨b0, b1⟩ := hS; go_simp⟩) ⟨b0, b1⟩ ?_
          simp only [List.getElem_toArray, List.getElem_cons_zero, List.getElem_cons_succ, Act.put, List.setIfInBounds_toArray, List.set_cons_zero, List.set_cons_succ]
          refine takeU (i := 3) (v := .pointer (some ⟨w.heap.size, 0, none⟩)) rfl (by rfl) (by kernel_rfl) (by kernel_rfl) (by kernel_rfl) (by kernel_rfl) (by kernel_rfl) (fun _ _ _ h => h) (Or.inl ⟨by rfl, fun w hS => by obtain ⟨b0, b1⟩ := hS; go_simp⟩) ⟨b0, b1⟩ ?_
          simp only [List.getElem_toArray, List.getElem_cons_zero, List.getElem_cons_succ, Act.put, List.setIfInBounds_toArray, List.set_cons_zero, List.set_cons_succ]
          refine takeU (i := 4) (v := .slice (some ⟨sb, so, none⟩) nn nc) rfl (by rfl) (by kernel_rfl) (by kernel_rfl) (by kernel_rfl) (by kernel_rfl) (by kernel_rfl) (fun _ _ _ h => h) (Or.inl ⟨by rfl, fun w hS => by obtain ⟨b0, b1⟩ := hS; go_simp⟩) ⟨b0, b1⟩ ?_
          simp only [List.getElem_toArray, List.getElem_cons_zero, List.getElem_cons_succ, Act.put, List.setIfInBounds_toArray, List.set_cons_zero, List.set_cons_succ]
          refine takeU (i := 5) (v := .int .i64 (nn : Int)) rfl (by rfl) (by kernel_rfl) (by kernel_rfl) (by kernel_rfl) (by kernel_rfl) (by kernel_rfl) (fun _ _ _ h => h) (Or.inl ⟨by rfl, fun w hS => by obtain ⟨b0, b1⟩ := hS; go_simp⟩) ⟨b0, b1⟩ ?_
          simp only [List.getElem_toArray, List.getElem_cons_zero, List.getElem_cons_succ, Act.put, List.setIfInBounds_toArray, List.set_cons_zero, List.set_cons_succ]
          refine oneU (i := 6) (by kernel_rfl) rfl (by rfl) ?_
          simp only [List.getElem_toArray, List.getElem_cons_zero, List.getElem_cons_succ]
          go_simp
          refine (pick_any R v bs p2 _ wd.drew HSD.out.rd (by omega) (by omega)).mono ?_
          rintro e w1 ⟨x, rfl, hx0, hx1, _, hrd, hg, -⟩
          have hxn : x < nn := hx1 (by omega)
          obtain ⟨i, rfl⟩ := Int.eq_ofNat_of_zero_le hx0
          have hin : i < nn := by omega
          have HS2 := hideN (HSD.out.pick hrd hg)
          obtain ⟨ao', n', c', ns', he, hm1, hm2, hm3, hm4⟩ := HS2.out.sn
          injection he with e1 e2 e3
          subst e1 e2 e3
          obtain ⟨sb', so', hao, _, hat⟩ := hm4 hnn
          cases hao
          have cs := hat i (by omega)
          have h8 : (ns'.getD i []).length ≤ 8 := hm3 _ (by rw [List.getD, List.getElem?_eq_getElem (by omega)]; simp)
          obtain ⟨z, hz⟩ : ∃ z, ns'.getD i [] = z := ⟨_, rfl⟩
          rw [hz] at cs h8
          clear b0 b1 hrd hg hx1 hm4 hat hz
          have b0 : w1.cell? ⟨w.heap.size, 0, none⟩ = some (.slice (some ⟨sb, so, none⟩) nn nc) := HS2.out.b0
          have b1 : w1.cell? ⟨w.heap.size, 1, none⟩ = some (.slice ta tn tc) := HS2.out.b1
          refine ⟨⟨b0, b1⟩, ?_⟩
          refine oneU (i := 7) (by kernel_rfl) rfl (by rfl) ?_
          simp only [List.getElem_toArray, List.getElem_cons_zero, List.getElem_cons_succ]
          go_simp
          try refine ⟨⟨b0, b1⟩, ?_⟩
          refine oneU (i := 8) (by kernel_rfl) rfl (by rfl) ?_
          simp only [List.getElem_toArray, List.getElem_cons_zero, List.getElem_cons_succ]
          go_simp
          try refine ⟨⟨b0, b1⟩, ?_⟩
          refine oneU (i := 9) (by kernel_rfl) rfl (by rfl) ?_
          simp only [List.getElem_toArray, List.getElem_cons_zero, List.getElem_cons_succ]
          go_simp
          refine (l13Name_any ⟨z.toArray⟩ w1).mono ?_
          rintro e w2 ⟨rfl, hb2⟩
          have HS3 := hideN (HS2.out.below hb2)
          clear b0 b1 cs hb2
          have b0 : w2.cell? ⟨w.heap.size, 0, none⟩ = some (.slice (some ⟨sb, so, none⟩) nn nc) := HS3.out.b0
          have b1 : w2.cell? ⟨w.heap.size, 1, none⟩ = some (.slice ta tn tc) := HS3.out.b1
          refine ⟨⟨b0, b1⟩, ?_⟩
          have hzs : (⟨z.toArray⟩ : ByteArray).size ≤ 8 := by simpa [ByteArray.size] using h8
          have HQ := hideN HS3.out.q
          have HFN := hideN (drw_fin HS3.out (show p ≤ _ by omega) (show _ ≤ p + M by omega) (isE_leaf w2 (w.heap.size + 2) 4 0 ⟨z.toArray⟩ ⟨by unfold Num64; omega, by unfold Num64; omega, by unfold maxLen; omega⟩) (by rw [totE, totL]; simp; omega))
          have HQ4 := hideN (set4E_blk HQ.out (.int .i64 4) (.int .i64 0) (.string ⟨z.toArray⟩) (.slice none 0 0))
          have q0 := HQ.out.c0
          have q1 := HQ.out.c1
          have q2 := HQ.out.c2
          have q3 := HQ.out.c3
          have f0 := HQ.out.f 0
          have f1 := HQ.out.f 1
          have f2 := HQ.out.f 2
          have f3 := HQ.out.f 3
          refine oneU (i := 10) (by kernel_rfl) rfl (by rfl) ?_
          simp only [List.getElem_toArray, List.getElem_cons_zero, List.getElem_cons_succ]
          go_simp
          refine doneU (by kernel_rfl) ?_ _
          go_wp2_with fail
          have t0 := HQ4.out.c0
          have t1 := HQ4.out.c1
          have t2 := HQ4.out.c2
          have t3 := HQ4.out.c3
          exact bodyPost_ret (v := .agg #[.int .i64 4, .int .i64 0, .string ⟨z.toArray⟩, .slice none 0 0]) (by simp [results, Try.results32, go_sem, t0, t1, t2, t3]) rfl HFN.out
        | false =>
          obtain ⟨VA, hVA⟩ : ∃ VA, VA = wd.alloc (.cells #[.int .i64 0, .int .i64 1, .int .i64 2, .int .i64 3, .int .i64 4] 3) := ⟨_, rfl⟩
          have HLC := hideN (show ∀ i, i < 5 → (wd.alloc (.cells #[.int .i64 0, .int .i64 1, .int .i64 2, .int .i64 3, .int .i64 4] 3)).cell? ⟨wd.heap.size, 0 + i, none⟩ = some (.int .i64 (([0, 1, 2, 3, 4] : List Int).getD i 0)) from litI_cells wd [0, 1, 2, 3, 4] 3)
          have hbA : Below wd.heap.size wd VA := by rw [hVA]; exact belOne _ _
          have HSA := hideN (HS.out.below hbA)
          have HVA := hideN hVA
          rw [← hVA] at HLC
          have hszA := HS.out.room
          have hltA := HS.out.lt
          clear hVA hbA hq2
          go_wp2_with fail
          try rw [← HVA.out]
          refine (oneI_any R v bs p2 wd.heap.size 0 5 5 [0, 1, 2, 3, 4] VA HSA.out.rd (by omega) rfl (by decide) (by decide) (by omega) HLC.out).mono ?_
          rintro e VO ⟨x, rfl, hx, hrd, hg, -⟩
          have HSO := hideN (HSA.out.pick hrd hg)
          have hxr : 0 ≤ x ∧ x ≤ 4 := by
            simp at hx
            omega
          clear hx hrd hg
          have HQ := hideN HSO.out.q
          have HFN := hideN (drw_fin HSO.out (show p ≤ _ by omega) (show _ ≤ p + M by omega) (isE_leaf VO (w.heap.size + 2) 1 x ⟨#[]⟩ ⟨by unfold Num64; omega, by unfold Num64; omega, by decide⟩) (by rw [totE, totL]; show (0 : Nat) + 0 + 0 ≤ M; omega))
          have HQ4 := hideN (set4E_blk HQ.out (.int .i64 1) (.int .i64 x) (.string ⟨#[]⟩) (.slice none 0 0))
          have q0 := HQ.out.c0
          have q1 := HQ.out.c1
          have q2 := HQ.out.c2
          have q3 := HQ.out.c3
          have f0 := HQ.out.f 0
          have f1 := HQ.out.f 1
          have f2 := HQ.out.f 2
          have f3 := HQ.out.f 3

          go_wp2_with fail
          have t0 := HQ4.out.c0
          have t1 := HQ4.out.c1
          have t2 := HQ4.out.c2
          have t3 := HQ4.out.c3
          exact bodyPost_ret (v := .agg #[.int .i64 1, .int .i64 x, .string ⟨#[]⟩, .slice none 0 0]) (by simp [results, Try.results32, go_sem, t0, t1, t2, t3]) rfl HFN.out
    | false =>
      obtain ⟨d', rfl⟩ : ∃ d', d = d' + 1 := ⟨d - 1, by have := hq rfl; omega⟩
      obtain ⟨m, hm⟩ : ∃ m, 16 * 4 ^ d' = m := ⟨_, rfl⟩
      have hM4 : M = 4 * m := by rw [HMD.out d' rfl, hm]
      have hwd : IntKind.i64.wrap (d' : Int) = (d' : Int) := by rw [IntKind.wrap_i64]; omega
      have hm16 : 16 ≤ m := by rw [← hm]; exact pow_room d'
      have HTk : Hid (∀ (p : Nat) (V : World), Rd V R v bs p → p + m ≤ 400000 → SlT V R (.slice na nn nc) → SlT V R (.slice ta tn tc) → (∀ (ao : Option Addr) (n cap b off : Nat), v = .slice ao n cap → ao = some ⟨b, off, none⟩ → b < V.heap.size) → Calls Try.prog 30 #[.pointer (some ⟨R, 0, none⟩), .int .i64 (d' : Int), .agg #[.slice na nn nc, .slice ta tn tc]] V (DrwE R v bs p m V)) := fun p V a b c e f => by
        rw [← hm]; exact HT.out d' rfl R v bs p _ _ V a (by omega) c e f
      have HNk : Hid (∀ (p : Nat) (V : World), Rd V R v bs p → p + m ≤ 400000 → SlT V R (.slice na nn nc) → SlT V R (.slice ta tn tc) → (∀ (ao : Option Addr) (n cap b off : Nat), v = .slice ao n cap → ao = some ⟨b, off, none⟩ → b < V.heap.size) → Calls Try.prog 32 #[.pointer (some ⟨R, 0, none⟩), .int .i64 (d' : Int), .agg #[.slice na nn nc, .slice ta tn tc]] V (DrwE R v bs p m V)) := fun p V a b c e f => by
        rw [← hm]; exact HN.out d' rfl R v bs p _ _ V a (by omega) c e f
      clear hq HMD HT HN hm
      go_wp2_with fail
      refine (pick_any R v bs p1 4 wc HS.out.rd (by omega) (by omega)).mono ?_
      rintro e w1 ⟨x, rfl, hx0, hx1, _, hrd, hg, -⟩
      have HS2 := hideN (HS.out.pick hrd hg)
      have hxm := hx1 (by omega)
      clear hrd hg hx1 HS
      by_cases hx : x = 0
      · subst hx
        go_wp2_with fail
        have HSD := hideN HS2.out.drew
        have b0 : w1.drew.cell? ⟨w.heap.size, 0, none⟩ = some (.slice na nn nc) := HSD.out.b0
        have b1 : w1.drew.cell? ⟨w.heap.size, 1, none⟩ = some (.slice ta tn tc) := HSD.out.b1
        refine region_U (fin := 17) (S := fun V' => V'.cell? ⟨w.heap.size, 0, none⟩ = some (.slice na nn nc) ∧ V'.cell? ⟨w.heap.size, 1, none⟩ = some (.slice ta tn tc)) (by kernel_rfl) ⟨b0, b1⟩ (fun hHeld => ?_)
        clear hHeld
        refine takeU (i := 0) (v := .pointer (some ⟨R, 0, none⟩)) rfl (by rfl) (by kernel_rfl) (by kernel_rfl) (reach_one (by kernel_rfl)) (by kernel_rfl) (by kernel_rfl) (fun _ _ _ h => h) (Or.inl ⟨by rfl, fun w hS => by obtain ⟨b0, b1⟩ := hS; go_simp⟩) ⟨b0, b1⟩ ?_
        simp only [List.getElem_toArray, List.getElem_cons_zero, Act.put, List.setIfInBounds_toArray, List.set_cons_zero, List.set_cons_succ]
        refine takeU (i := 1) (v := .int .i64 ((d' : Int) + 1)) rfl (by rfl) (by kernel_rfl) (by kernel_rfl) (reach_one (by kernel_rfl)) (by kernel_rfl) (by kernel_rfl) (fun _ _ _ h => h) (Or.inl ⟨by rfl, fun w hS => by obtain ⟨b0, b1⟩ := hS; go_simp⟩) ⟨b0, b1⟩ ?_
        simp only [List.getElem_toArray, List.getElem_cons_zero, List.getElem_cons_succ, Act.put, List.setIfInBounds_toArray, List.set_cons_zero, List.set_cons_succ]
        refine takeU (i := 2) (v := .int .i64 (d' : Int)) rfl (by rfl) (by kernel_rfl) (by kernel_rfl) (reach_one (by kernel_rfl)) (by kernel_rfl) (by kernel_rfl) (fun _ _ _ h => h) (Or.inl ⟨by rfl, fun w hS => by obtain ⟨b0, b1⟩ := hS; go_simp⟩) ⟨b0, b1⟩ ?_
        simp only [List.getElem_toArray, List.getElem_cons_zero, List.getElem_cons_succ, Act.put, List.setIfInBounds_toArray, List.set_cons_zero, List.set_cons_succ]
        refine takeU (i := 3) (v := .agg #[.slice na nn nc, .slice ta tn tc]) rfl (by rfl) (by kernel_rfl) (by kernel_rfl) (reach_one (by kernel_rfl)) (by kernel_rfl) (by kernel_rfl) (fun _ _ _ h => h) (Or.inl ⟨by rfl, fun w hS => by obtain ⟨b0, b1⟩ := hS; go_simp⟩) ⟨b0, b1⟩ ?_
        simp only [List.getElem_toArray, List.getElem_cons_zero, List.getElem_cons_succ, Act.put, List.setIfInBounds_toArray, List.set_cons_zero, List.set_cons_succ]
        refine takeU (i := 5) (v := .pointer (some ⟨R, 0, none⟩)) rfl (by rfl) (by kernel_rfl) (by kernel_rfl) (reach_one (by kernel_rfl)) (by kernel_rfl) (by kernel_rfl) (fun _ _ _ h => h) (Or.inl ⟨by rfl, fun w hS => by obtain ⟨b0, b1⟩ := hS; go_simp⟩) ⟨b0, b1⟩ ?_
        simp only [List.getElem_toArray, List.getElem_cons_zero, List.getElem_cons_succ, Act.put, List.setIfInBounds_toArray, List.set_cons_zero, List.set_cons_succ]
        refine takeU (i := 6) (v := .int .i64 ((d' : Int) + 1)) rfl (by rfl) (by kernel_rfl) (by kernel_rfl) (reach_one (by kernel_rfl)) (by kernel_rfl) (by kernel_rfl) (fun _ _ _ h => h) (Or.inl ⟨by rfl, fun w hS => by obtain ⟨b0, b1⟩ := hS; go_simp⟩) ⟨b0, b1⟩ ?_
        simp only [List.getElem_toArray, List.getElem_cons_zero, List.getElem_cons_succ, Act.put, List.setIfInBounds_toArray, List.set_cons_zero, List.set_cons_succ]
        refine takeU (i := 7) (v := .int .i64 (d' : Int)) rfl (by rfl) (by kernel_rfl) (by kernel_rfl) (reach_one (by kernel_rfl)) (by kernel_rfl) (by kernel_rfl) (fun _ _ _ h => h) (Or.inl ⟨by rfl, fun w hS => by obtain ⟨b0, b1⟩ := hS; go_simp⟩) ⟨b0, b1⟩ ?_
        simp only [List.getElem_toArray, List.getElem_cons_zero, List.getElem_cons_succ, Act.put, List.setIfInBounds_toArray, List.set_cons_zero, List.set_cons_succ]
        refine takeU (i := 8) (v := .agg #[.slice na nn nc, .slice ta tn tc]) rfl (by rfl) (by kernel_rfl) (by kernel_rfl) (reach_one (by kernel_rfl)) (by kernel_rfl) (by kernel_rfl) (fun _ _ _ h => h) (Or.inl ⟨by rfl, fun w hS => by obtain ⟨b0, b1⟩ := hS; go_simp⟩) ⟨b0, b1⟩ ?_
        simp only [List.getElem_toArray, List.getElem_cons_zero, List.getElem_cons_succ, Act.put, List.setIfInBounds_toArray, List.set_cons_zero, List.set_cons_succ]
        refine takeU (i := 10) (v := .pointer (some ⟨R, 0, none⟩)) rfl (by rfl) (by kernel_rfl) (by kernel_rfl) (reach_one (by kernel_rfl)) (by kernel_rfl) (by kernel_rfl) (fun _ _ _ h => h) (Or.inl ⟨by rfl, fun w hS => by obtain ⟨b0, b1⟩ := hS; go_simp⟩) ⟨b0, b1⟩ ?_
        simp only [List.getElem_toArray, List.getElem_cons_zero, List.getElem_cons_succ, Act.put, List.setIfInBounds_toArray, List.set_cons_zero, List.set_cons_succ]
        refine takeU (i := 11) (v := .int .i64 ((d' : Int) + 1)) rfl (by rfl) (by kernel_rfl) (by kernel_rfl) (reach_one (by kernel_rfl)) (by kernel_rfl) (by kernel_rfl) (fun _ _ _ h => h) (Or.inl ⟨by rfl, fun w hS => by obtain ⟨b0, b1⟩ := hS; go_simp⟩) ⟨b0, b1⟩ ?_
        simp only [List.getElem_toArray, List.getElem_cons_zero, List.getElem_cons_succ, Act.put, List.setIfInBounds_toArray, List.set_cons_zero, List.set_cons_succ]
        refine takeU (i := 12) (v := .int .i64 (d' : Int)) rfl (by rfl) (by kernel_rfl) (by kernel_rfl) (reach_one (by kernel_rfl)) (by kernel_rfl) (by kernel_rfl) (fun _ _ _ h => h) (Or.inl ⟨by rfl, fun w hS => by obtain ⟨b0, b1⟩ := hS; go_simp⟩) ⟨b0, b1⟩ ?_
        simp only [List.getElem_toArray, List.getElem_cons_zero, List.getElem_cons_succ, Act.put, List.setIfInBounds_toArray, List.set_cons_zero, List.set_cons_succ]
        refine takeU (i := 13) (v := .agg #[.slice na nn nc, .slice ta tn tc]) rfl (by rfl) (by kernel_rfl) (by kernel_rfl) (reach_one (by kernel_rfl)) (by kernel_rfl) (by kernel_rfl) (fun _ _ _ h => h) (Or.inl ⟨by rfl, fun w hS => by obtain ⟨b0, b1⟩ := hS; go_simp⟩) ⟨b0, b1⟩ ?_
        simp only [List.getElem_toArray, List.getElem_cons_zero, List.getElem_cons_succ, Act.put, List.setIfInBounds_toArray, List.set_cons_zero, List.set_cons_succ]
        refine oneU (i := 4) (by kernel_rfl) rfl (by rfl) ?_
        simp only [List.getElem_toArray, List.getElem_cons_zero, List.getElem_cons_succ]
        go_simp
        have hlo1 := HSD.out.room
        refine (HTk.out (p1 + 1) w1.drew HSD.out.rd (by omega) HSD.out.sn HSD.out.st HSD.out.alw).mono ?_
        rintro e V1 ⟨T1, u1, p1, rfl, hE, ht1, hp1, hq1, hrd, hg⟩
        have HS1 := hideN (HSD.out.pick hrd hg)
        have HG1 := hideN hg
        have HE1 := hideN (IsE.less hlo1 _ _ hE)
        obtain ⟨k1, n1, s1, a1, m1, c1, rfl⟩ := hE.agg
        clear hrd hg hE
        clear b0 b1
        have b0 : V1.cell? ⟨w.heap.size, 0, none⟩ = some (.slice na nn nc) := HS1.out.b0
        have b1 : V1.cell? ⟨w.heap.size, 1, none⟩ = some (.slice ta tn tc) := HS1.out.b1
        first | refine ⟨⟨b0, b1⟩, ?_⟩ | skip
        refine oneU (i := 9) (by kernel_rfl) rfl (by rfl) ?_
        simp only [List.getElem_toArray, List.getElem_cons_zero, List.getElem_cons_succ]
        go_simp
        have hlo2 := HS1.out.room
        refine (HNk.out p1 V1 HS1.out.rd (by omega) HS1.out.sn HS1.out.st HS1.out.alw).mono ?_
        rintro e V2 ⟨T2, u2, p2, rfl, hE, ht2, hp2, hq2, hrd, hg⟩
        have HS2 := hideN (HS1.out.pick hrd hg)
        have HG2 := hideN hg
        have HE2 := hideN (IsE.less hlo2 _ _ hE)
        obtain ⟨k2, n2, s2, a2, m2, c2, rfl⟩ := hE.agg
        clear hrd hg hE
        have HE1 := hideN (HE1.out.rd HS1.out.lo HG2.out)
        clear b0 b1
        have b0 : V2.cell? ⟨w.heap.size, 0, none⟩ = some (.slice na nn nc) := HS2.out.b0
        have b1 : V2.cell? ⟨w.heap.size, 1, none⟩ = some (.slice ta tn tc) := HS2.out.b1
        first | refine ⟨⟨b0, b1⟩, ?_⟩ | skip
        refine oneU (i := 14) (by kernel_rfl) rfl (by rfl) ?_
        simp only [List.getElem_toArray, List.getElem_cons_zero, List.getElem_cons_succ]
        go_simp
        have hlo3 := HS2.out.room
        refine (HNk.out p2 V2 HS2.out.rd (by omega) HS2.out.sn HS2.out.st HS2.out.alw).mono ?_
        rintro e V3 ⟨T3, u3, p3, rfl, hE, ht3, hp3, hq3, hrd, hg⟩
        have HS3 := hideN (HS2.out.pick hrd hg)
        have HG3 := hideN hg
        have HE3 := hideN (IsE.less hlo3 _ _ hE)
        obtain ⟨k3, n3, s3, a3, m3, c3, rfl⟩ := hE.agg
        clear hrd hg hE
        have HE1 := hideN (HE1.out.rd HS2.out.lo HG3.out)
        have HE2 := hideN (HE2.out.rd HS2.out.lo HG3.out)
        clear b0 b1
        have b0 : V3.cell? ⟨w.heap.size, 0, none⟩ = some (.slice na nn nc) := HS3.out.b0
        have b1 : V3.cell? ⟨w.heap.size, 1, none⟩ = some (.slice ta tn tc) := HS3.out.b1
        first | refine ⟨⟨b0, b1⟩, ?_⟩ | skip
        obtain ⟨VB, hVB⟩ : ∃ VB, VB = World.alloc V3 (.cells #[.int .i64 k1, .int .i64 n1, .string s1, .slice a1 m1 c1, .int .i64 k2, .int .i64 n2, .string s2, .slice a2 m2 c2, .int .i64 k3, .int .i64 n3, .string s3, .slice a3 m3 c3] 25) := ⟨_, rfl⟩
        have hbB : Below V3.heap.size V3 VB := by rw [hVB]; exact belOne _ _
        have HEB : Hid (IsE VB (w.heap.size + 2) (.node 7 0 ⟨#[]⟩ [T1, T2, T3]) (.agg #[.int .i64 7, .int .i64 0, .string ⟨#[]⟩, .slice (some ⟨V3.heap.size, 0, none⟩) 3 3])) := by
          rw [hVB]
          refine isE_row [T1, T2, T3] [.agg #[.int .i64 k1, .int .i64 n1, .string s1, .slice a1 m1 c1], .agg #[.int .i64 k2, .int .i64 n2, .string s2, .slice a2 m2 c2], .agg #[.int .i64 k3, .int .i64 n3, .string s3, .slice a3 m3 c3]] _ rfl ⟨by unfold Num64; omega, by unfold Num64; omega, by decide⟩ (by simp) (fun i hi => ?_) (fun i hi => ?_) HS3.out.room
          · rcases (show i = 0 ∨ i = 1 ∨ i = 2 by simp at hi; omega) with rfl | rfl | rfl
            · exact ⟨_, _, _, _, rfl, rfl, rfl, rfl, rfl⟩
            · exact ⟨_, _, _, _, rfl, rfl, rfl, rfl, rfl⟩
            · exact ⟨_, _, _, _, rfl, rfl, rfl, rfl, rfl⟩
          · rcases (show i = 0 ∨ i = 1 ∨ i = 2 by simp at hi; omega) with rfl | rfl | rfl
            · exact HE1.out
            · exact HE2.out
            · exact HE3.out
        have HTB : Hid (totE (.node 7 0 ⟨#[]⟩ [T1, T2, T3]) ≤ M) := by
          show _ ≤ _
          rw [totE, totL, totL, totL, totL]
          have h0 : (⟨#[]⟩ : ByteArray).size = 0 := rfl
          rw [h0]
          simp
          omega
        have HSB := hideN (HS3.out.below hbB)
        have HVB := hideN hVB
        clear hVB hbB
        refine oneU (i := 15) (by kernel_rfl) rfl (by rfl) ?_
        simp only [List.getElem_toArray, List.getElem_cons_zero, List.getElem_cons_succ]
        go_simp
        try rw [← HVB.out]
        clear b0 b1
        have b0 : VB.cell? ⟨w.heap.size, 0, none⟩ = some (.slice na nn nc) := HSB.out.b0
        have b1 : VB.cell? ⟨w.heap.size, 1, none⟩ = some (.slice ta tn tc) := HSB.out.b1
        first | refine ⟨⟨b0, b1⟩, ?_⟩ | skip
        refine oneU (i := 16) (by kernel_rfl) rfl (by rfl) ?_
        simp only [List.getElem_toArray, List.getElem_cons_zero, List.getElem_cons_succ]
        go_simp
        try refine ⟨⟨b0, b1⟩, ?_⟩
        have HQ := hideN HSB.out.q
        have HFN := hideN (drw_fin HSB.out (show p ≤ _ by omega) (show _ ≤ p + M by omega) HEB.out HTB.out)
        have HQ4 := hideN (set4E_blk HQ.out (.int .i64 7) (.int .i64 0) (.string ⟨#[]⟩) (.slice (some ⟨V3.heap.size, 0, none⟩) 3 3))
        have q0 := HQ.out.c0
        have q1 := HQ.out.c1
        have q2 := HQ.out.c2
        have q3 := HQ.out.c3
        have f0 := HQ.out.f 0
        have f1 := HQ.out.f 1
        have f2 := HQ.out.f 2
        have f3 := HQ.out.f 3
        refine oneU (i := 17) (by kernel_rfl) rfl (by rfl) ?_
        simp only [List.getElem_toArray, List.getElem_cons_zero, List.getElem_cons_succ]
        go_simp
        refine doneU (by kernel_rfl) ?_ _
        go_wp2_with fail
        have t0 := HQ4.out.c0
        have t1 := HQ4.out.c1
        have t2 := HQ4.out.c2
        have t3 := HQ4.out.c3
        exact bodyPost_ret (v := .agg #[.int .i64 7, .int .i64 0, .string ⟨#[]⟩, .slice (some ⟨V3.heap.size, 0, none⟩) 3 3]) (by simp [results, Try.results32, go_sem, t0, t1, t2, t3]) rfl HFN.out
      · have hxb : (x == 0) = false := by simpa using hx
        go_wp2_with fail
        have HSD := hideN HS2.out.drew
        have b0 : w1.drew.cell? ⟨w.heap.size, 0, none⟩ = some (.slice na nn nc) := HSD.out.b0
        have b1 : w1.drew.cell? ⟨w.heap.size, 1, none⟩ = some (.slice ta tn tc) := HSD.out.b1
        refine region_U (fin := 14) (S := fun V' => V'.cell? ⟨w.heap.size, 0, none⟩ = some (.slice na nn nc) ∧ V'.cell? ⟨w.heap.size, 1, none⟩ = some (.slice ta tn tc)) (by kernel_rfl) ⟨b0, b1⟩ (fun hHeld => ?_)
        clear hHeld
        refine takeU (i := 0) (v := .pointer (some ⟨R, 0, none⟩)) rfl (by rfl) (by kernel_rfl) (by kernel_rfl) (reach_one (by kernel_rfl)) (by kernel_rfl) (by kernel_rfl) (fun _ _ _ h => h) (Or.inl ⟨by rfl, fun w hS => by obtain ⟨b0, b1⟩ := hS; go_simp⟩) ⟨b0, b1⟩ ?_
        simp only [List.getElem_toArray, List.getElem_cons_zero, Act.put, List.setIfInBounds_toArray, List.set_cons_zero, List.set_cons_succ]
        refine takeU (i := 3) (v := .pointer (some ⟨R, 0, none⟩)) rfl (by rfl) (by kernel_rfl) (by kernel_rfl) (reach_one (by kernel_rfl)) (by kernel_rfl) (by kernel_rfl) (fun _ _ _ h => h) (Or.inl ⟨by rfl, fun w hS => by obtain ⟨b0, b1⟩ := hS; go_simp⟩) ⟨b0, b1⟩ ?_
        simp only [List.getElem_toArray, List.getElem_cons_zero, List.getElem_cons_succ, Act.put, List.setIfInBounds_toArray, List.set_cons_zero, List.set_cons_succ]
        refine takeU (i := 4) (v := .int .i64 ((d' : Int) + 1)) rfl (by rfl) (by kernel_rfl) (by kernel_rfl) (reach_one (by kernel_rfl)) (by kernel_rfl) (by kernel_rfl) (fun _ _ _ h => h) (Or.inl ⟨by rfl, fun w hS => by obtain ⟨b0, b1⟩ := hS; go_simp⟩) ⟨b0, b1⟩ ?_
        simp only [List.getElem_toArray, List.getElem_cons_zero, List.getElem_cons_succ, Act.put, List.setIfInBounds_toArray, List.set_cons_zero, List.set_cons_succ]
        refine takeU (i := 5) (v := .int .i64 (d' : Int)) rfl (by rfl) (by kernel_rfl) (by kernel_rfl) (reach_one (by kernel_rfl)) (by kernel_rfl) (by kernel_rfl) (fun _ _ _ h => h) (Or.inl ⟨by rfl, fun w hS => by obtain ⟨b0, b1⟩ := hS; go_simp⟩) ⟨b0, b1⟩ ?_
        simp only [List.getElem_toArray, List.getElem_cons_zero, List.getElem_cons_succ, Act.put, List.setIfInBounds_toArray, List.set_cons_zero, List.set_cons_succ]
        refine takeU (i := 6) (v := .agg #[.slice na nn nc, .slice ta tn tc]) rfl (by rfl) (by kernel_rfl) (by kernel_rfl) (reach_one (by kernel_rfl)) (by kernel_rfl) (by kernel_rfl) (fun _ _ _ h => h) (Or.inl ⟨by rfl, fun w hS => by obtain ⟨b0, b1⟩ := hS; go_simp⟩) ⟨b0, b1⟩ ?_
        simp only [List.getElem_toArray, List.getElem_cons_zero, List.getElem_cons_succ, Act.put, List.setIfInBounds_toArray, List.set_cons_zero, List.set_cons_succ]
        refine takeU (i := 8) (v := .pointer (some ⟨R, 0, none⟩)) rfl (by rfl) (by kernel_rfl) (by kernel_rfl) (reach_one (by kernel_rfl)) (by kernel_rfl) (by kernel_rfl) (fun _ _ _ h => h) (Or.inl ⟨by rfl, fun w hS => by obtain ⟨b0, b1⟩ := hS; go_simp⟩) ⟨b0, b1⟩ ?_
        simp only [List.getElem_toArray, List.getElem_cons_zero, List.getElem_cons_succ, Act.put, List.setIfInBounds_toArray, List.set_cons_zero, List.set_cons_succ]
        refine takeU (i := 9) (v := .int .i64 ((d' : Int) + 1)) rfl (by rfl) (by kernel_rfl) (by kernel_rfl) (reach_one (by kernel_rfl)) (by kernel_rfl) (by kernel_rfl) (fun _ _ _ h => h) (Or.inl ⟨by rfl, fun w hS => by obtain ⟨b0, b1⟩ := hS; go_simp⟩) ⟨b0, b1⟩ ?_
        simp only [List.getElem_toArray, List.getElem_cons_zero, List.getElem_cons_succ, Act.put, List.setIfInBounds_toArray, List.set_cons_zero, List.set_cons_succ]
        refine takeU (i := 10) (v := .int .i64 (d' : Int)) rfl (by rfl) (by kernel_rfl) (by kernel_rfl) (reach_one (by kernel_rfl)) (by kernel_rfl) (by kernel_rfl) (fun _ _ _ h => h) (Or.inl ⟨by rfl, fun w hS => by obtain ⟨b0, b1⟩ := hS; go_simp⟩) ⟨b0, b1⟩ ?_
        simp only [List.getElem_toArray, List.getElem_cons_zero, List.getElem_cons_succ, Act.put, List.setIfInBounds_toArray, List.set_cons_zero, List.set_cons_succ]
        refine takeU (i := 11) (v := .agg #[.slice na nn nc, .slice ta tn tc]) rfl (by rfl) (by kernel_rfl) (by kernel_rfl) (reach_one (by kernel_rfl)) (by kernel_rfl) (by kernel_rfl) (fun _ _ _ h => h) (Or.inl ⟨by rfl, fun w hS => by obtain ⟨b0, b1⟩ := hS; go_simp⟩) ⟨b0, b1⟩ ?_
        simp only [List.getElem_toArray, List.getElem_cons_zero, List.getElem_cons_succ, Act.put, List.setIfInBounds_toArray, List.set_cons_zero, List.set_cons_succ]
        obtain ⟨VA, hVA⟩ : ∃ VA, VA = w1.alloc (.cells #[.string ⟨#[43]⟩, .string ⟨#[45]⟩, .string ⟨#[43]⟩] 9) := ⟨_, rfl⟩
        have HLC := hideN (show ∀ i, i < 3 → (w1.alloc (.cells #[.string ⟨#[43]⟩, .string ⟨#[45]⟩, .string ⟨#[43]⟩] 9)).cell? ⟨w1.heap.size, 0 + i, none⟩ = some (.string (([⟨#[43]⟩, ⟨#[45]⟩, ⟨#[43]⟩] : List ByteArray).getD i ⟨#[]⟩)) from litT_cells w1 [⟨#[43]⟩, ⟨#[45]⟩, ⟨#[43]⟩] 9)
        have hbA : Below w1.heap.size w1 VA := by rw [hVA]; exact belOne _ _
        have HSA := hideN (HS2.out.below hbA)
        have HSE := hideN HSA.out.drew
        have HVA := hideN hVA
        rw [← hVA] at HLC
        have HLD := hideN (show ∀ i, i < 3 → VA.drew.cell? ⟨w1.heap.size, 0 + i, none⟩ = some (.string (([⟨#[43]⟩, ⟨#[45]⟩, ⟨#[43]⟩] : List ByteArray).getD i ⟨#[]⟩)) from fun i hi => HLC.out i hi)
        have hszA := HSD.out.room
        have hltA := HSD.out.lt
        clear hVA hbA
        refine oneU (i := 1) (by kernel_rfl) rfl (by rfl) ?_
        simp only [List.getElem_toArray, List.getElem_cons_zero, List.getElem_cons_succ]
        go_simp
        try rw [← HVA.out]
        clear b0 b1
        have b0 : VA.cell? ⟨w.heap.size, 0, none⟩ = some (.slice na nn nc) := HSA.out.b0
        have b1 : VA.cell? ⟨w.heap.size, 1, none⟩ = some (.slice ta tn tc) := HSA.out.b1
        first | refine ⟨⟨b0, b1⟩, ?_⟩ | skip
        refine oneU (i := 2) (by kernel_rfl) rfl (by rfl) ?_
        simp only [List.getElem_toArray, List.getElem_cons_zero, List.getElem_cons_succ]
        go_simp
        refine (ofT_any R v bs (p1 + 1) w1.heap.size 0 3 3 [⟨#[43]⟩, ⟨#[45]⟩, ⟨#[43]⟩] VA.drew HSE.out.rd (by omega) rfl (by decide) (by decide) (by have h9 : w.heap.size + 2 ≤ w1.heap.size := HS2.out.room; omega) HLD.out).mono ?_
        rintro e VO ⟨sg, rfl, hsg, hrd, hg, -⟩
        have HSO := hideN (HSE.out.pick hrd hg)
        have hsz1 : sg.size = 1 := by
          simp at hsg
          rcases hsg with rfl | rfl | rfl <;> rfl
        clear hsg hrd hg
        clear b0 b1
        have b0 : VO.cell? ⟨w.heap.size, 0, none⟩ = some (.slice na nn nc) := HSO.out.b0
        have b1 : VO.cell? ⟨w.heap.size, 1, none⟩ = some (.slice ta tn tc) := HSO.out.b1
        first | refine ⟨⟨b0, b1⟩, ?_⟩ | skip
        refine oneU (i := 7) (by kernel_rfl) rfl (by rfl) ?_
        simp only [List.getElem_toArray, List.getElem_cons_zero, List.getElem_cons_succ]
        go_simp
        have hlo4 := HSO.out.room
        refine (HNk.out ((p1 + 1) + 1) VO HSO.out.rd (by omega) HSO.out.sn HSO.out.st HSO.out.alw).mono ?_
        rintro e V4 ⟨T4, u4, p4, rfl, hE, ht4, hp4, hq4, hrd, hg⟩
        have HS4 := hideN (HSO.out.pick hrd hg)
        have HG4 := hideN hg
        have HE4 := hideN (IsE.less hlo4 _ _ hE)
        obtain ⟨k4, n4, s4, a4, m4, c4, rfl⟩ := hE.agg
        clear hrd hg hE
        clear b0 b1
        have b0 : V4.cell? ⟨w.heap.size, 0, none⟩ = some (.slice na nn nc) := HS4.out.b0
        have b1 : V4.cell? ⟨w.heap.size, 1, none⟩ = some (.slice ta tn tc) := HS4.out.b1
        first | refine ⟨⟨b0, b1⟩, ?_⟩ | skip
        refine oneU (i := 12) (by kernel_rfl) rfl (by rfl) ?_
        simp only [List.getElem_toArray, List.getElem_cons_zero, List.getElem_cons_succ]
        go_simp
        have hlo5 := HS4.out.room
        refine (HNk.out p4 V4 HS4.out.rd (by omega) HS4.out.sn HS4.out.st HS4.out.alw).mono ?_
        rintro e V5 ⟨T5, u5, p5, rfl, hE, ht5, hp5, hq5, hrd, hg⟩
        have HS5 := hideN (HS4.out.pick hrd hg)
        have HG5 := hideN hg
        have HE5 := hideN (IsE.less hlo5 _ _ hE)
        obtain ⟨k5, n5, s5, a5, m5, c5, rfl⟩ := hE.agg
        clear hrd hg hE
        have HE4 := hideN (HE4.out.rd HS4.out.lo HG5.out)
        clear b0 b1
        have b0 : V5.cell? ⟨w.heap.size, 0, none⟩ = some (.slice na nn nc) := HS5.out.b0
        have b1 : V5.cell? ⟨w.heap.size, 1, none⟩ = some (.slice ta tn tc) := HS5.out.b1
        first | refine ⟨⟨b0, b1⟩, ?_⟩ | skip
        refine oneU (i := 13) (by kernel_rfl) rfl (by rfl) ?_
        simp only [List.getElem_toArray, List.getElem_cons_zero, List.getElem_cons_succ]
        go_simp
        have hroom := HS5.out.room
        refine (l9Two_any (w.heap.size + 2) sg T4 T5 _ _ V5 (by rw [hsz1]; decide) HE4.out HE5.out hroom).mono ?_
        rintro e VZ ⟨u, rfl, hE, hbZ⟩
        have HSZ := hideN (HS5.out.below hbZ)
        have HEZ := hideN hE
        have HTZ : Hid (totE (.node 6 0 sg [T4, T5]) ≤ M) := by
          show _ ≤ _
          rw [totE, totL, totL, totL]
          simp
          omega
        obtain ⟨kz, nz, sz, az, mz, cz, rfl⟩ := hE.agg
        clear hE hbZ
        clear b0 b1
        have b0 : VZ.cell? ⟨w.heap.size, 0, none⟩ = some (.slice na nn nc) := HSZ.out.b0
        have b1 : VZ.cell? ⟨w.heap.size, 1, none⟩ = some (.slice ta tn tc) := HSZ.out.b1
        first | refine ⟨⟨b0, b1⟩, ?_⟩ | skip
        have HQ := hideN HSZ.out.q
        have HFN := hideN (drw_fin HSZ.out (show p ≤ _ by omega) (show _ ≤ p + M by omega) HEZ.out HTZ.out)
        have HQ4 := hideN (set4E_blk HQ.out (.int .i64 kz) (.int .i64 nz) (.string sz) (.slice az mz cz))
        have q0 := HQ.out.c0
        have q1 := HQ.out.c1
        have q2 := HQ.out.c2
        have q3 := HQ.out.c3
        have f0 := HQ.out.f 0
        have f1 := HQ.out.f 1
        have f2 := HQ.out.f 2
        have f3 := HQ.out.f 3
        refine oneU (i := 14) (by kernel_rfl) rfl (by rfl) ?_
        simp only [List.getElem_toArray, List.getElem_cons_zero, List.getElem_cons_succ]
        go_simp
        refine doneU (by kernel_rfl) ?_ _
        go_wp2_with fail
        have t0 := HQ4.out.c0
        have t1 := HQ4.out.c1
        have t2 := HQ4.out.c2
        have t3 := HQ4.out.c3
        exact bodyPost_ret (v := .agg #[.int .i64 kz, .int .i64 nz, .string sz, .slice az mz cz]) (by simp [results, Try.results32, go_sem, t0, t1, t2, t3]) rfl HFN.out


set_option maxRecDepth 100000 in
set_option maxHeartbeats 40000000 in
theorem l13Truth_of (d : Nat) (hd : d ≤ 8) (ihT : ∀ d', d = d' + 1 → DrawSays 30 d') (ihN : ∀ d', d = d' + 1 → DrawSays 32 d') : DrawSays 30 d := by
  intro R v bs p nv tv w hr hp hn ht hal
  have hlt := hr.lt
  obtain ⟨W1, hW1⟩ : ∃ W1, W1 = (w.alloc (.cells #[nv, tv] 66)).alloc (.cells #[.int .i64 0, .int .i64 0, .string ⟨#[]⟩, .slice none 0 0] 25) := ⟨_, rfl⟩
  have hb1 : Below w.heap.size w W1 := by rw [hW1]; exact belNext (belOne _ _) (belOne _ _)
  have HS1 : Hid (DrS w W1 R v bs p nv tv) := by
    refine ⟨by rw [hW1]; simp, by rw [hW1]; simp, ?_, hr.below hb1, below_grown hb1, hn.below hb1, ht.below hb1, hlt, hal⟩
    rw [hW1]
    have h := BlkE.new (w.alloc (.cells #[nv, tv] 66)) (.int .i64 0) (.int .i64 0) (.string ⟨#[]⟩) (.slice none 0 0) 25
    rw [World.size_alloc] at h
    exact h
  have HM := hideN (pow_room d)
  obtain ⟨M, hM⟩ : ∃ M, 16 * 4 ^ d = M := ⟨_, rfl⟩
  have HMD : Hid (∀ d', d = d' + 1 → M = 4 * (16 * 4 ^ d')) := fun d' h => by rw [← hM, h, Nat.pow_succ]; omega
  rw [hM] at HM hp ⊢
  have HW1 := hideN hW1
  have HT := hideN ihT
  have HN := hideN ihN
  obtain ⟨na, nn, nc, ns0, rfl, _⟩ := hn
  obtain ⟨ta, tn, tc, ts0, rfl, _⟩ := ht
  have hmm := HM.out
  clear hr hb1 hW1 ihT ihN hal hM
  go_enter Try.func30, Try.ntmps30
  go_upto_region 1 with fail
  try rw [← HW1.out]
  go_cut [13] (fun t wc => ∃ (q : Bool) (p1 : Nat), t = .bool q ∧ (q = false → 0 < d) ∧ p ≤ p1 ∧ p1 ≤ p + 1 ∧ Hid (DrS w wc R v bs p1 (.slice na nn nc) (.slice ta tn tc)))
  case first =>
    by_cases hd0 : d = 0
    · have hle : decide ((d : Int) ≤ 0) = true := by simp; omega
      go_wp2_with fail
      go_meet
      case rel => exact ⟨true, p, rfl, (fun h => by cases h), Nat.le_refl _, by omega, HS1⟩
    · have hle : decide ((d : Int) ≤ 0) = false := by simp; omega
      go_wp2_with fail
      refine (pick_any R v bs p 4 W1 HS1.out.rd (by omega) (by omega)).mono ?_
      rintro e w1 ⟨x, rfl, _, _, _, hrd, hg, -⟩
      have HS2 := hideN (HS1.out.pick hrd hg)
      clear hrd hg
      obtain ⟨q, hq⟩ : ∃ q, (x == 0) = q := ⟨_, rfl⟩
      go_wp2_with fail
      go_meet
      case rel => exact ⟨q, p + 1, by first | rfl | rw [hq], (fun _ => by omega), by omega, by omega, HS2⟩
  case rest =>
    rename World => wc
    obtain ⟨q, p1, rfl, hq, hp1, hp2, HS⟩ := hcut
    clear HS1
    cases q with
    | true =>
      clear hq
      have c0 := HS.out.b0
      have c1 := HS.out.b1
      go_upto_region 2 with fail
      go_cut [22] (fun t wd => ∃ (q2 : Bool) (p2 : Nat), t = .bool q2 ∧ (q2 = true → 0 < tn) ∧ p1 ≤ p2 ∧ p2 ≤ p1 + 1 ∧ Hid (DrS w wd R v bs p2 (.slice na nn nc) (.slice ta tn tc)))
      case first =>
        by_cases hn0 : tn = 0
        · have hle : decide ((tn : Int) > 0) = false := by simp; omega
          go_wp2_with fail
          go_meet
          case rel => exact ⟨false, p1, rfl, (fun h => by cases h), Nat.le_refl _, by omega, HS⟩
        · have hle : decide ((tn : Int) > 0) = true := by simp; omega
          go_wp2_with fail
          refine (pick_any R v bs p1 4 _ HS.out.rd (by omega) (by omega)).mono ?_
          rintro e w1 ⟨x, rfl, _, _, _, hrd, hg, -⟩
          have HS2 := hideN (HS.out.pick hrd hg)
          clear hrd hg c0 c1
          obtain ⟨q, hq⟩ : ∃ q, decide (0 < x) = q := ⟨_, rfl⟩
          go_wp2_with fail
          go_meet
          case rel => exact ⟨q, p1 + 1, by first | rfl | rw [hq], (fun _ => by omega), by omega, by omega, HS2⟩
      case rest =>
        clear c0 c1 HS
        rename World => wd
        obtain ⟨q2, p2, rfl, hq2, hp3, hp4, HS⟩ := hcut
        cases q2 with
        | true =>
          have hnn := hq2 rfl
          obtain ⟨ao', n', c', ns, he, hl1, hl2, hl3, hl4⟩ := HS.out.st
          injection he with e1 e2 e3
          subst e1 e2 e3
          obtain ⟨sb, so, hao, hbR, _⟩ := hl4 hnn
          subst hao
          have HSD := hideN HS.out.drew
          clear hl1 hl3 hl4 hq2
          go_wp2_with fail
          have b0 : wd.drew.cell? ⟨w.heap.size, 0, none⟩ = some (.slice na nn nc) := HSD.out.b0
          have b1 : wd.drew.cell? ⟨w.heap.size, 1, none⟩ = some (.slice (some ⟨sb, so, none⟩) tn tc) := HSD.out.b1
          refine region_U (fin := 10) (S := fun V' => V'.cell? ⟨w.heap.size, 0, none⟩ = some (.slice na nn nc) ∧ V'.cell? ⟨w.heap.size, 1, none⟩ = some (.slice (some ⟨sb, so, none⟩) tn tc)) (by kernel_rfl) ⟨b0, b1⟩ (fun hHeld => ?_)
          clear hHeld
          refine takeU (i := 0) (v := .pointer (some ⟨w.heap.size, 1, none⟩)) rfl (by rfl) (by kernel_rfl) (by kernel_rfl) (by kernel_rfl) (by kernel_rfl) (by kernel_rfl) (fun _ _ _ h => h) (Or.inl ⟨by rfl, fun w hS => by obtain ⟨b0, b1⟩ := hS; go_simp⟩) ⟨b0, b1⟩ ?_
          simp only [List.getElem_toArray, List.getElem_cons_zero, Act.put, List.setIfInBounds_toArray, List.set_cons_zero, List.set_cons_succ]
          refine takeU (i := 1) (v := .slice (some ⟨sb, so, none⟩) tn tc) rfl (by rfl) (by kernel_rfl) (by kernel_rfl) (by kernel_rfl) (by kernel_rfl) (by kernel_rfl) (fun _ _ _ h => h) (Or.inl ⟨by rfl, fun w hS => by obtain ⟨b0, b1⟩ := hS; go_simp⟩) ⟨b0, b1⟩ ?_
          simp only [List.getElem_toArray, List.getElem_cons_zero, List.getElem_cons_succ, Act.put, List.setIfInBounds_toArray, List.set_cons_zero, List.set_cons_succ]
          refine takeU (i := 2) (v := .pointer (some ⟨R, 0, none⟩)) rfl (by rfl) (by kernel_rfl) (by kernel_rfl) (by kernel_rfl) (by kernel_rfl) (by kernel_rfl) (fun _ _ _ h => h) (Or.inl ⟨by rfl, fun w hS => by obtain ⟨b0, b1⟩ := hS; go_simp⟩) ⟨b0, b1⟩ ?_
          simp only [List.getElem_toArray, List.getElem_cons_zero, List.getElem_cons_succ, Act.put, List.setIfInBounds_toArray, List.set_cons_zero, List.set_cons_succ]
          refine takeU (i := 3) (v := .pointer (some ⟨w.heap.size, 1, none⟩)) rfl (by rfl) (by kernel_rfl) (by kernel_rfl) (by kernel_rfl) (by kernel_rfl) (by kernel_rfl) (fun _ _ _ h => h) (Or.inl ⟨by rfl, fun w hS => by obtain ⟨b0, b1⟩ := hS; go_simp⟩) ⟨b0, b1⟩ ?_
          simp only [List.getElem_toArray, List.getElem_cons_zero, List.getElem_cons_succ, Act.put, List.setIfInBounds_toArray, List.set_cons_zero, List.set_cons_succ]
          refine takeU (i := 4) (v := .slice (some ⟨sb, so, none⟩) tn tc) rfl (by rfl) (by kernel_rfl) (by kernel_rfl) (by kernel_rfl) (by kernel_rfl) (by kernel_rfl) (fun _ _ _ h => h) (Or.inl ⟨by rfl, fun w hS => by obtain ⟨b0, b1⟩ := hS; go_simp⟩) ⟨b0, b1⟩ ?_
          simp only [List.getElem_toArray, List.getElem_cons_zero, List.getElem_cons_succ, Act.put, List.setIfInBounds_toArray, List.set_cons_zero, List.set_cons_succ]
          refine takeU (i := 5) (v := .int .i64 (tn : Int)) rfl (by rfl) (by kernel_rfl) (by kernel_rfl) (by kernel_rfl) (by kernel_rfl) (by kernel_rfl) (fun _ _ _ h => h) (Or.inl ⟨by rfl, fun w hS => by obtain ⟨b0, b1⟩ := hS; go_simp⟩) ⟨b0, b1⟩ ?_
          simp only [List.getElem_toArray, List.getElem_cons_zero, List.getElem_cons_succ, Act.put, List.setIfInBounds_toArray, List.set_cons_zero, List.set_cons_succ]
          refine oneU (i := 6) (by kernel_rfl) rfl (by rfl) ?_
          simp only [List.getElem_toArray, List.getElem_cons_zero, List.getElem_cons_succ]
          go_simp
          refine (pick_any R v bs p2 _ wd.drew HSD.out.rd (by omega) (by omega)).mono ?_
          rintro e w1 ⟨x, rfl, hx0, hx1, _, hrd, hg, -⟩
          have hxn : x < tn := hx1 (by omega)
          obtain ⟨i, rfl⟩ := Int.eq_ofNat_of_zero_le hx0
          have hin : i < tn := by omega
          have HS2 := hideN (HSD.out.pick hrd hg)
          obtain ⟨ao', n', c', ns', he, hm1, hm2, hm3, hm4⟩ := HS2.out.st
          injection he with e1 e2 e3
          subst e1 e2 e3
          obtain ⟨sb', so', hao, _, hat⟩ := hm4 hnn
          cases hao
          have cs := hat i (by omega)
          have h8 : (ns'.getD i []).length ≤ 8 := hm3 _ (by rw [List.getD, List.getElem?_eq_getElem (by omega)]; simp)
          obtain ⟨z, hz⟩ : ∃ z, ns'.getD i [] = z := ⟨_, rfl⟩
          rw [hz] at cs h8
          clear b0 b1 hrd hg hx1 hm4 hat hz
          have b0 : w1.cell? ⟨w.heap.size, 0, none⟩ = some (.slice na nn nc) := HS2.out.b0
          have b1 : w1.cell? ⟨w.heap.size, 1, none⟩ = some (.slice (some ⟨sb, so, none⟩) tn tc) := HS2.out.b1
          refine ⟨⟨b0, b1⟩, ?_⟩
          refine oneU (i := 7) (by kernel_rfl) rfl (by rfl) ?_
          simp only [List.getElem_toArray, List.getElem_cons_zero, List.getElem_cons_succ]
          go_simp
          try refine ⟨⟨b0, b1⟩, ?_⟩
          refine oneU (i := 8) (by kernel_rfl) rfl (by rfl) ?_
          simp only [List.getElem_toArray, List.getElem_cons_zero, List.getElem_cons_succ]
          go_simp
          try refine ⟨⟨b0, b1⟩, ?_⟩
          refine oneU (i := 9) (by kernel_rfl) rfl (by rfl) ?_
          simp only [List.getElem_toArray, List.getElem_cons_zero, List.getElem_cons_succ]
          go_simp
          refine (l13Name_any ⟨z.toArray⟩ w1).mono ?_
          rintro e w2 ⟨rfl, hb2⟩
          have HS3 := hideN (HS2.out.below hb2)
          clear b0 b1 cs hb2
          have b0 : w2.cell? ⟨w.heap.size, 0, none⟩ = some (.slice na nn nc) := HS3.out.b0
          have b1 : w2.cell? ⟨w.heap.size, 1, none⟩ = some (.slice (some ⟨sb, so, none⟩) tn tc) := HS3.out.b1
          refine ⟨⟨b0, b1⟩, ?_⟩
          have hzs : (⟨z.toArray⟩ : ByteArray).size ≤ 8 := by simpa [ByteArray.size] using h8
          have HQ := hideN HS3.out.q
          have HFN := hideN (drw_fin HS3.out (show p ≤ _ by omega) (show _ ≤ p + M by omega) (isE_leaf w2 (w.heap.size + 2) 4 0 ⟨z.toArray⟩ ⟨by unfold Num64; omega, by unfold Num64; omega, by unfold maxLen; omega⟩) (by rw [totE, totL]; simp; omega))
          have HQ4 := hideN (set4E_blk HQ.out (.int .i64 4) (.int .i64 0) (.string ⟨z.toArray⟩) (.slice none 0 0))
          have q0 := HQ.out.c0
          have q1 := HQ.out.c1
          have q2 := HQ.out.c2
          have q3 := HQ.out.c3
          have f0 := HQ.out.f 0
          have f1 := HQ.out.f 1
          have f2 := HQ.out.f 2
          have f3 := HQ.out.f 3
          refine oneU (i := 10) (by kernel_rfl) rfl (by rfl) ?_
          simp only [List.getElem_toArray, List.getElem_cons_zero, List.getElem_cons_succ]
          go_simp
          refine doneU (by kernel_rfl) ?_ _
          go_wp2_with fail
          have t0 := HQ4.out.c0
          have t1 := HQ4.out.c1
          have t2 := HQ4.out.c2
          have t3 := HQ4.out.c3
          exact bodyPost_ret (v := .agg #[.int .i64 4, .int .i64 0, .string ⟨z.toArray⟩, .slice none 0 0]) (by simp [results, Try.results30, go_sem, t0, t1, t2, t3]) rfl HFN.out
        | false =>
          obtain ⟨VA, hVA⟩ : ∃ VA, VA = wd.alloc (.cells #[.int .i64 2, .int .i64 3] 3) := ⟨_, rfl⟩
          have HLC := hideN (show ∀ i, i < 2 → (wd.alloc (.cells #[.int .i64 2, .int .i64 3] 3)).cell? ⟨wd.heap.size, 0 + i, none⟩ = some (.int .i64 (([2, 3] : List Int).getD i 0)) from litI_cells wd [2, 3] 3)
          have hbA : Below wd.heap.size wd VA := by rw [hVA]; exact belOne _ _
          have HSA := hideN (HS.out.below hbA)
          have HVA := hideN hVA
          rw [← hVA] at HLC
          have hszA := HS.out.room
          have hltA := HS.out.lt
          clear hVA hbA hq2
          go_wp2_with fail
          try rw [← HVA.out]
          refine (oneI_any R v bs p2 wd.heap.size 0 2 2 [2, 3] VA HSA.out.rd (by omega) rfl (by decide) (by decide) (by omega) HLC.out).mono ?_
          rintro e VO ⟨x, rfl, hx, hrd, hg, -⟩
          have HSO := hideN (HSA.out.pick hrd hg)
          have hxr : 0 ≤ x ∧ x ≤ 4 := by
            simp at hx
            omega
          clear hx hrd hg
          have HQ := hideN HSO.out.q
          have HFN := hideN (drw_fin HSO.out (show p ≤ _ by omega) (show _ ≤ p + M by omega) (isE_leaf VO (w.heap.size + 2) x 0 ⟨#[]⟩ ⟨by unfold Num64; omega, by unfold Num64; omega, by decide⟩) (by rw [totE, totL]; show (0 : Nat) + 0 + 0 ≤ M; omega))
          have HQ4 := hideN (set4E_blk HQ.out (.int .i64 x) (.int .i64 0) (.string ⟨#[]⟩) (.slice none 0 0))
          have q0 := HQ.out.c0
          have q1 := HQ.out.c1
          have q2 := HQ.out.c2
          have q3 := HQ.out.c3
          have f0 := HQ.out.f 0
          have f1 := HQ.out.f 1
          have f2 := HQ.out.f 2
          have f3 := HQ.out.f 3

          go_wp2_with fail
          have t0 := HQ4.out.c0
          have t1 := HQ4.out.c1
          have t2 := HQ4.out.c2
          have t3 := HQ4.out.c3
          exact bodyPost_ret (v := .agg #[.int .i64 x, .int .i64 0, .string ⟨#[]⟩, .slice none 0 0]) (by simp [results, Try.results30, go_sem, t0, t1, t2, t3]) rfl HFN.out
    | false =>
      obtain ⟨d', rfl⟩ : ∃ d', d = d' + 1 := ⟨d - 1, by have := hq rfl; omega⟩
      obtain ⟨m, hm⟩ : ∃ m, 16 * 4 ^ d' = m := ⟨_, rfl⟩
      have hM4 : M = 4 * m := by rw [HMD.out d' rfl, hm]
      have hwd : IntKind.i64.wrap (d' : Int) = (d' : Int) := by rw [IntKind.wrap_i64]; omega
      have hm16 : 16 ≤ m := by rw [← hm]; exact pow_room d'
      have HTk : Hid (∀ (p : Nat) (V : World), Rd V R v bs p → p + m ≤ 400000 → SlT V R (.slice na nn nc) → SlT V R (.slice ta tn tc) → (∀ (ao : Option Addr) (n cap b off : Nat), v = .slice ao n cap → ao = some ⟨b, off, none⟩ → b < V.heap.size) → Calls Try.prog 30 #[.pointer (some ⟨R, 0, none⟩), .int .i64 (d' : Int), .agg #[.slice na nn nc, .slice ta tn tc]] V (DrwE R v bs p m V)) := fun p V a b c e f => by
        rw [← hm]; exact HT.out d' rfl R v bs p _ _ V a (by omega) c e f
      have HNk : Hid (∀ (p : Nat) (V : World), Rd V R v bs p → p + m ≤ 400000 → SlT V R (.slice na nn nc) → SlT V R (.slice ta tn tc) → (∀ (ao : Option Addr) (n cap b off : Nat), v = .slice ao n cap → ao = some ⟨b, off, none⟩ → b < V.heap.size) → Calls Try.prog 32 #[.pointer (some ⟨R, 0, none⟩), .int .i64 (d' : Int), .agg #[.slice na nn nc, .slice ta tn tc]] V (DrwE R v bs p m V)) := fun p V a b c e f => by
        rw [← hm]; exact HN.out d' rfl R v bs p _ _ V a (by omega) c e f
      clear hq HMD HT HN hm
      go_wp2_with fail
      refine (pick_any R v bs p1 6 wc HS.out.rd (by omega) (by omega)).mono ?_
      rintro e w1 ⟨x, rfl, hx0, hx1, _, hrd, hg, -⟩
      have HS2 := hideN (HS.out.pick hrd hg)
      have hxm := hx1 (by omega)
      clear hrd hg hx1 HS
      rcases (show x = 0 ∨ x = 1 ∨ x = 2 ∨ x = 3 ∨ x = 4 ∨ x = 5 by omega) with rfl | rfl | rfl | rfl | rfl | rfl
      · skip
        have b0 : w1.cell? ⟨w.heap.size, 0, none⟩ = some (.slice na nn nc) := HS2.out.b0
        have b1 : w1.cell? ⟨w.heap.size, 1, none⟩ = some (.slice ta tn tc) := HS2.out.b1
        go_wp2_with fail
        have hlo6 := HS2.out.room
        refine (HTk.out (p1 + 1) w1 HS2.out.rd (by omega) HS2.out.sn HS2.out.st HS2.out.alw).mono ?_
        rintro e V6 ⟨T6, u6, p6, rfl, hE, ht6, hp6, hq6, hrd, hg⟩
        have HS6 := hideN (HS2.out.pick hrd hg)
        have HG6 := hideN hg
        have HE6 := hideN (IsE.less hlo6 _ _ hE)
        obtain ⟨k6, n6, s6, a6, m6, c6, rfl⟩ := hE.agg
        clear hrd hg hE
        have hsz : (set4E V6 (w.heap.size + 1) (.int .i64 5) (.int .i64 0) (.string ⟨#[]⟩) (.slice (some ⟨V6.heap.size, 0, none⟩) 1 1)).heap.size = V6.heap.size := set4E_size _ _ _ _ _ _
        have HEB : Hid (IsE ((set4E V6 (w.heap.size + 1) (.int .i64 5) (.int .i64 0) (.string ⟨#[]⟩) (.slice (some ⟨V6.heap.size, 0, none⟩) 1 1)).alloc (.cells #[.int .i64 k6, .int .i64 n6, .string s6, .slice a6 m6 c6] 25)) (w.heap.size + 2) (.node 5 0 ⟨#[]⟩ [T6]) (.agg #[.int .i64 5, .int .i64 0, .string ⟨#[]⟩, .slice (some ⟨V6.heap.size, 0, none⟩) 1 1])) := by
          have h := isE_row (w := (set4E V6 (w.heap.size + 1) (.int .i64 5) (.int .i64 0) (.string ⟨#[]⟩) (.slice (some ⟨V6.heap.size, 0, none⟩) 1 1))) (lo := w.heap.size + 2) (k := 5) (n := 0) (s := ⟨#[]⟩) [T6] [.agg #[.int .i64 k6, .int .i64 n6, .string s6, .slice a6 m6 c6]] #[.int .i64 k6, .int .i64 n6, .string s6, .slice a6 m6 c6] rfl ⟨by unfold Num64; omega, by unfold Num64; omega, by decide⟩ (by simp) (fun i hi => by
            obtain rfl : i = 0 := by simpa using hi
            exact ⟨_, _, _, _, rfl, rfl, rfl, rfl, rfl⟩) (fun i hi => by
            obtain rfl : i = 0 := by simpa using hi
            exact IsE.kept (fun k hk _ => set4E_other _ _ _ _ (by omega)) _ _ HE6.out) (by rw [hsz]; exact HS6.out.room)
          rw [hsz] at h
          exact h
        have HTB : Hid (totE (.node 5 0 ⟨#[]⟩ [T6]) ≤ M) := by
          show _ ≤ _
          rw [totE, totL, totL]
          have h0 : (⟨#[]⟩ : ByteArray).size = 0 := rfl
          rw [h0]
          simp
          omega
        have HFN := hideN (drw_fin2 HS6.out (show p ≤ _ by omega) (show _ ≤ p + M by omega) HEB.out HTB.out)
        have HQ := hideN HS6.out.q
        have HQ4 := hideN ((set4E_blk HQ.out (.int .i64 5) (.int .i64 0) (.string ⟨#[]⟩) (.slice (some ⟨V6.heap.size, 0, none⟩) 1 1)).below (belOne _ (.cells #[.int .i64 k6, .int .i64 n6, .string s6, .slice a6 m6 c6] 25)))
        have q0 := HQ.out.c0
        have q1 := HQ.out.c1
        have q2 := HQ.out.c2
        have q3 := HQ.out.c3
        have f0 := HQ.out.f 0
        have f1 := HQ.out.f 1
        have f2 := HQ.out.f 2
        have f3 := HQ.out.f 3
        have g8 := HQ.out.lt
        clear b0 b1 hsz
        go_wp2_with fail
        have t0 := HQ4.out.c0
        have t1 := HQ4.out.c1
        have t2 := HQ4.out.c2
        have t3 := HQ4.out.c3
        exact bodyPost_ret (v := .agg #[.int .i64 5, .int .i64 0, .string ⟨#[]⟩, .slice (some ⟨V6.heap.size, 0, none⟩) 1 1]) (by simp [results, Try.results30, go_sem, t0, t1, t2, t3]) rfl HFN.out
      · skip
        go_wp2_with fail
        have HSD := hideN HS2.out.drew
        have b0 : w1.drew.cell? ⟨w.heap.size, 0, none⟩ = some (.slice na nn nc) := HSD.out.b0
        have b1 : w1.drew.cell? ⟨w.heap.size, 1, none⟩ = some (.slice ta tn tc) := HSD.out.b1
        refine region_U (fin := 14) (S := fun V' => V'.cell? ⟨w.heap.size, 0, none⟩ = some (.slice na nn nc) ∧ V'.cell? ⟨w.heap.size, 1, none⟩ = some (.slice ta tn tc)) (by kernel_rfl) ⟨b0, b1⟩ (fun hHeld => ?_)
        clear hHeld
        refine takeU (i := 0) (v := .pointer (some ⟨R, 0, none⟩)) rfl (by rfl) (by kernel_rfl) (by kernel_rfl) (reach_one (by kernel_rfl)) (by kernel_rfl) (by kernel_rfl) (fun _ _ _ h => h) (Or.inl ⟨by rfl, fun w hS => by obtain ⟨b0, b1⟩ := hS; go_simp⟩) ⟨b0, b1⟩ ?_
        simp only [List.getElem_toArray, List.getElem_cons_zero, Act.put, List.setIfInBounds_toArray, List.set_cons_zero, List.set_cons_succ]
        refine takeU (i := 3) (v := .pointer (some ⟨R, 0, none⟩)) rfl (by rfl) (by kernel_rfl) (by kernel_rfl) (reach_one (by kernel_rfl)) (by kernel_rfl) (by kernel_rfl) (fun _ _ _ h => h) (Or.inl ⟨by rfl, fun w hS => by obtain ⟨b0, b1⟩ := hS; go_simp⟩) ⟨b0, b1⟩ ?_
        simp only [List.getElem_toArray, List.getElem_cons_zero, List.getElem_cons_succ, Act.put, List.setIfInBounds_toArray, List.set_cons_zero, List.set_cons_succ]
        refine takeU (i := 4) (v := .int .i64 ((d' : Int) + 1)) rfl (by rfl) (by kernel_rfl) (by kernel_rfl) (reach_one (by kernel_rfl)) (by kernel_rfl) (by kernel_rfl) (fun _ _ _ h => h) (Or.inl ⟨by rfl, fun w hS => by obtain ⟨b0, b1⟩ := hS; go_simp⟩) ⟨b0, b1⟩ ?_
        simp only [List.getElem_toArray, List.getElem_cons_zero, List.getElem_cons_succ, Act.put, List.setIfInBounds_toArray, List.set_cons_zero, List.set_cons_succ]
        refine takeU (i := 5) (v := .int .i64 (d' : Int)) rfl (by rfl) (by kernel_rfl) (by kernel_rfl) (reach_one (by kernel_rfl)) (by kernel_rfl) (by kernel_rfl) (fun _ _ _ h => h) (Or.inl ⟨by rfl, fun w hS => by obtain ⟨b0, b1⟩ := hS; go_simp⟩) ⟨b0, b1⟩ ?_
        simp only [List.getElem_toArray, List.getElem_cons_zero, List.getElem_cons_succ, Act.put, List.setIfInBounds_toArray, List.set_cons_zero, List.set_cons_succ]
        refine takeU (i := 6) (v := .agg #[.slice na nn nc, .slice ta tn tc]) rfl (by rfl) (by kernel_rfl) (by kernel_rfl) (reach_one (by kernel_rfl)) (by kernel_rfl) (by kernel_rfl) (fun _ _ _ h => h) (Or.inl ⟨by rfl, fun w hS => by obtain ⟨b0, b1⟩ := hS; go_simp⟩) ⟨b0, b1⟩ ?_
        simp only [List.getElem_toArray, List.getElem_cons_zero, List.getElem_cons_succ, Act.put, List.setIfInBounds_toArray, List.set_cons_zero, List.set_cons_succ]
        refine takeU (i := 8) (v := .pointer (some ⟨R, 0, none⟩)) rfl (by rfl) (by kernel_rfl) (by kernel_rfl) (reach_one (by kernel_rfl)) (by kernel_rfl) (by kernel_rfl) (fun _ _ _ h => h) (Or.inl ⟨by rfl, fun w hS => by obtain ⟨b0, b1⟩ := hS; go_simp⟩) ⟨b0, b1⟩ ?_
        simp only [List.getElem_toArray, List.getElem_cons_zero, List.getElem_cons_succ, Act.put, List.setIfInBounds_toArray, List.set_cons_zero, List.set_cons_succ]
        refine takeU (i := 9) (v := .int .i64 ((d' : Int) + 1)) rfl (by rfl) (by kernel_rfl) (by kernel_rfl) (reach_one (by kernel_rfl)) (by kernel_rfl) (by kernel_rfl) (fun _ _ _ h => h) (Or.inl ⟨by rfl, fun w hS => by obtain ⟨b0, b1⟩ := hS; go_simp⟩) ⟨b0, b1⟩ ?_
        simp only [List.getElem_toArray, List.getElem_cons_zero, List.getElem_cons_succ, Act.put, List.setIfInBounds_toArray, List.set_cons_zero, List.set_cons_succ]
        refine takeU (i := 10) (v := .int .i64 (d' : Int)) rfl (by rfl) (by kernel_rfl) (by kernel_rfl) (reach_one (by kernel_rfl)) (by kernel_rfl) (by kernel_rfl) (fun _ _ _ h => h) (Or.inl ⟨by rfl, fun w hS => by obtain ⟨b0, b1⟩ := hS; go_simp⟩) ⟨b0, b1⟩ ?_
        simp only [List.getElem_toArray, List.getElem_cons_zero, List.getElem_cons_succ, Act.put, List.setIfInBounds_toArray, List.set_cons_zero, List.set_cons_succ]
        refine takeU (i := 11) (v := .agg #[.slice na nn nc, .slice ta tn tc]) rfl (by rfl) (by kernel_rfl) (by kernel_rfl) (reach_one (by kernel_rfl)) (by kernel_rfl) (by kernel_rfl) (fun _ _ _ h => h) (Or.inl ⟨by rfl, fun w hS => by obtain ⟨b0, b1⟩ := hS; go_simp⟩) ⟨b0, b1⟩ ?_
        simp only [List.getElem_toArray, List.getElem_cons_zero, List.getElem_cons_succ, Act.put, List.setIfInBounds_toArray, List.set_cons_zero, List.set_cons_succ]
        obtain ⟨VA, hVA⟩ : ∃ VA, VA = w1.alloc (.cells #[.string ⟨#[38]⟩, .string ⟨#[124]⟩, .string ⟨#[61]⟩] 9) := ⟨_, rfl⟩
        have HLC := hideN (show ∀ i, i < 3 → (w1.alloc (.cells #[.string ⟨#[38]⟩, .string ⟨#[124]⟩, .string ⟨#[61]⟩] 9)).cell? ⟨w1.heap.size, 0 + i, none⟩ = some (.string (([⟨#[38]⟩, ⟨#[124]⟩, ⟨#[61]⟩] : List ByteArray).getD i ⟨#[]⟩)) from litT_cells w1 [⟨#[38]⟩, ⟨#[124]⟩, ⟨#[61]⟩] 9)
        have hbA : Below w1.heap.size w1 VA := by rw [hVA]; exact belOne _ _
        have HSA := hideN (HS2.out.below hbA)
        have HSE := hideN HSA.out.drew
        have HVA := hideN hVA
        rw [← hVA] at HLC
        have HLD := hideN (show ∀ i, i < 3 → VA.drew.cell? ⟨w1.heap.size, 0 + i, none⟩ = some (.string (([⟨#[38]⟩, ⟨#[124]⟩, ⟨#[61]⟩] : List ByteArray).getD i ⟨#[]⟩)) from fun i hi => HLC.out i hi)
        have hszA := HSD.out.room
        have hltA := HSD.out.lt
        clear hVA hbA
        refine oneU (i := 1) (by kernel_rfl) rfl (by rfl) ?_
        simp only [List.getElem_toArray, List.getElem_cons_zero, List.getElem_cons_succ]
        go_simp
        try rw [← HVA.out]
        clear b0 b1
        have b0 : VA.cell? ⟨w.heap.size, 0, none⟩ = some (.slice na nn nc) := HSA.out.b0
        have b1 : VA.cell? ⟨w.heap.size, 1, none⟩ = some (.slice ta tn tc) := HSA.out.b1
        first | refine ⟨⟨b0, b1⟩, ?_⟩ | skip
        refine oneU (i := 2) (by kernel_rfl) rfl (by rfl) ?_
        simp only [List.getElem_toArray, List.getElem_cons_zero, List.getElem_cons_succ]
        go_simp
        refine (ofT_any R v bs (p1 + 1) w1.heap.size 0 3 3 [⟨#[38]⟩, ⟨#[124]⟩, ⟨#[61]⟩] VA.drew HSE.out.rd (by omega) rfl (by decide) (by decide) (by have h9 : w.heap.size + 2 ≤ w1.heap.size := HS2.out.room; omega) HLD.out).mono ?_
        rintro e VO ⟨sg, rfl, hsg, hrd, hg, -⟩
        have HSO := hideN (HSE.out.pick hrd hg)
        have hsz1 : sg.size = 1 := by
          simp at hsg
          rcases hsg with rfl | rfl | rfl <;> rfl
        clear hsg hrd hg
        clear b0 b1
        have b0 : VO.cell? ⟨w.heap.size, 0, none⟩ = some (.slice na nn nc) := HSO.out.b0
        have b1 : VO.cell? ⟨w.heap.size, 1, none⟩ = some (.slice ta tn tc) := HSO.out.b1
        first | refine ⟨⟨b0, b1⟩, ?_⟩ | skip
        refine oneU (i := 7) (by kernel_rfl) rfl (by rfl) ?_
        simp only [List.getElem_toArray, List.getElem_cons_zero, List.getElem_cons_succ]
        go_simp
        have hlo7 := HSO.out.room
        refine (HTk.out ((p1 + 1) + 1) VO HSO.out.rd (by omega) HSO.out.sn HSO.out.st HSO.out.alw).mono ?_
        rintro e V7 ⟨T7, u7, p7, rfl, hE, ht7, hp7, hq7, hrd, hg⟩
        have HS7 := hideN (HSO.out.pick hrd hg)
        have HG7 := hideN hg
        have HE7 := hideN (IsE.less hlo7 _ _ hE)
        obtain ⟨k7, n7, s7, a7, m7, c7, rfl⟩ := hE.agg
        clear hrd hg hE
        clear b0 b1
        have b0 : V7.cell? ⟨w.heap.size, 0, none⟩ = some (.slice na nn nc) := HS7.out.b0
        have b1 : V7.cell? ⟨w.heap.size, 1, none⟩ = some (.slice ta tn tc) := HS7.out.b1
        first | refine ⟨⟨b0, b1⟩, ?_⟩ | skip
        refine oneU (i := 12) (by kernel_rfl) rfl (by rfl) ?_
        simp only [List.getElem_toArray, List.getElem_cons_zero, List.getElem_cons_succ]
        go_simp
        have hlo8 := HS7.out.room
        refine (HTk.out p7 V7 HS7.out.rd (by omega) HS7.out.sn HS7.out.st HS7.out.alw).mono ?_
        rintro e V8 ⟨T8, u8, p8, rfl, hE, ht8, hp8, hq8, hrd, hg⟩
        have HS8 := hideN (HS7.out.pick hrd hg)
        have HG8 := hideN hg
        have HE8 := hideN (IsE.less hlo8 _ _ hE)
        obtain ⟨k8, n8, s8, a8, m8, c8, rfl⟩ := hE.agg
        clear hrd hg hE
        have HE7 := hideN (HE7.out.rd HS7.out.lo HG8.out)
        clear b0 b1
        have b0 : V8.cell? ⟨w.heap.size, 0, none⟩ = some (.slice na nn nc) := HS8.out.b0
        have b1 : V8.cell? ⟨w.heap.size, 1, none⟩ = some (.slice ta tn tc) := HS8.out.b1
        first | refine ⟨⟨b0, b1⟩, ?_⟩ | skip
        refine oneU (i := 13) (by kernel_rfl) rfl (by rfl) ?_
        simp only [List.getElem_toArray, List.getElem_cons_zero, List.getElem_cons_succ]
        go_simp
        have hroom := HS8.out.room
        refine (l9Two_any (w.heap.size + 2) sg T7 T8 _ _ V8 (by rw [hsz1]; decide) HE7.out HE8.out hroom).mono ?_
        rintro e VZ ⟨u, rfl, hE, hbZ⟩
        have HSZ := hideN (HS8.out.below hbZ)
        have HEZ := hideN hE
        have HTZ : Hid (totE (.node 6 0 sg [T7, T8]) ≤ M) := by
          show _ ≤ _
          rw [totE, totL, totL, totL]
          simp
          omega
        obtain ⟨kz, nz, sz, az, mz, cz, rfl⟩ := hE.agg
        clear hE hbZ
        clear b0 b1
        have b0 : VZ.cell? ⟨w.heap.size, 0, none⟩ = some (.slice na nn nc) := HSZ.out.b0
        have b1 : VZ.cell? ⟨w.heap.size, 1, none⟩ = some (.slice ta tn tc) := HSZ.out.b1
        first | refine ⟨⟨b0, b1⟩, ?_⟩ | skip
        have HQ := hideN HSZ.out.q
        have HFN := hideN (drw_fin HSZ.out (show p ≤ _ by omega) (show _ ≤ p + M by omega) HEZ.out HTZ.out)
        have HQ4 := hideN (set4E_blk HQ.out (.int .i64 kz) (.int .i64 nz) (.string sz) (.slice az mz cz))
        have q0 := HQ.out.c0
        have q1 := HQ.out.c1
        have q2 := HQ.out.c2
        have q3 := HQ.out.c3
        have f0 := HQ.out.f 0
        have f1 := HQ.out.f 1
        have f2 := HQ.out.f 2
        have f3 := HQ.out.f 3
        refine oneU (i := 14) (by kernel_rfl) rfl (by rfl) ?_
        simp only [List.getElem_toArray, List.getElem_cons_zero, List.getElem_cons_succ]
        go_simp
        refine doneU (by kernel_rfl) ?_ _
        go_wp2_with fail
        have t0 := HQ4.out.c0
        have t1 := HQ4.out.c1
        have t2 := HQ4.out.c2
        have t3 := HQ4.out.c3
        exact bodyPost_ret (v := .agg #[.int .i64 kz, .int .i64 nz, .string sz, .slice az mz cz]) (by simp [results, Try.results30, go_sem, t0, t1, t2, t3]) rfl HFN.out
      · skip
        go_wp2_with fail
        have HSD := hideN HS2.out.drew
        have b0 : w1.drew.cell? ⟨w.heap.size, 0, none⟩ = some (.slice na nn nc) := HSD.out.b0
        have b1 : w1.drew.cell? ⟨w.heap.size, 1, none⟩ = some (.slice ta tn tc) := HSD.out.b1
        refine region_U (fin := 14) (S := fun V' => V'.cell? ⟨w.heap.size, 0, none⟩ = some (.slice na nn nc) ∧ V'.cell? ⟨w.heap.size, 1, none⟩ = some (.slice ta tn tc)) (by kernel_rfl) ⟨b0, b1⟩ (fun hHeld => ?_)
        clear hHeld
        refine takeU (i := 0) (v := .pointer (some ⟨R, 0, none⟩)) rfl (by rfl) (by kernel_rfl) (by kernel_rfl) (reach_one (by kernel_rfl)) (by kernel_rfl) (by kernel_rfl) (fun _ _ _ h => h) (Or.inl ⟨by rfl, fun w hS => by obtain ⟨b0, b1⟩ := hS; go_simp⟩) ⟨b0, b1⟩ ?_
        simp only [List.getElem_toArray, List.getElem_cons_zero, Act.put, List.setIfInBounds_toArray, List.set_cons_zero, List.set_cons_succ]
        refine takeU (i := 3) (v := .pointer (some ⟨R, 0, none⟩)) rfl (by rfl) (by kernel_rfl) (by kernel_rfl) (reach_one (by kernel_rfl)) (by kernel_rfl) (by kernel_rfl) (fun _ _ _ h => h) (Or.inl ⟨by rfl, fun w hS => by obtain ⟨b0, b1⟩ := hS; go_simp⟩) ⟨b0, b1⟩ ?_
        simp only [List.getElem_toArray, List.getElem_cons_zero, List.getElem_cons_succ, Act.put, List.setIfInBounds_toArray, List.set_cons_zero, List.set_cons_succ]
        refine takeU (i := 4) (v := .int .i64 ((d' : Int) + 1)) rfl (by rfl) (by kernel_rfl) (by kernel_rfl) (reach_one (by kernel_rfl)) (by kernel_rfl) (by kernel_rfl) (fun _ _ _ h => h) (Or.inl ⟨by rfl, fun w hS => by obtain ⟨b0, b1⟩ := hS; go_simp⟩) ⟨b0, b1⟩ ?_
        simp only [List.getElem_toArray, List.getElem_cons_zero, List.getElem_cons_succ, Act.put, List.setIfInBounds_toArray, List.set_cons_zero, List.set_cons_succ]
        refine takeU (i := 5) (v := .int .i64 (d' : Int)) rfl (by rfl) (by kernel_rfl) (by kernel_rfl) (reach_one (by kernel_rfl)) (by kernel_rfl) (by kernel_rfl) (fun _ _ _ h => h) (Or.inl ⟨by rfl, fun w hS => by obtain ⟨b0, b1⟩ := hS; go_simp⟩) ⟨b0, b1⟩ ?_
        simp only [List.getElem_toArray, List.getElem_cons_zero, List.getElem_cons_succ, Act.put, List.setIfInBounds_toArray, List.set_cons_zero, List.set_cons_succ]
        refine takeU (i := 6) (v := .agg #[.slice na nn nc, .slice ta tn tc]) rfl (by rfl) (by kernel_rfl) (by kernel_rfl) (reach_one (by kernel_rfl)) (by kernel_rfl) (by kernel_rfl) (fun _ _ _ h => h) (Or.inl ⟨by rfl, fun w hS => by obtain ⟨b0, b1⟩ := hS; go_simp⟩) ⟨b0, b1⟩ ?_
        simp only [List.getElem_toArray, List.getElem_cons_zero, List.getElem_cons_succ, Act.put, List.setIfInBounds_toArray, List.set_cons_zero, List.set_cons_succ]
        refine takeU (i := 8) (v := .pointer (some ⟨R, 0, none⟩)) rfl (by rfl) (by kernel_rfl) (by kernel_rfl) (reach_one (by kernel_rfl)) (by kernel_rfl) (by kernel_rfl) (fun _ _ _ h => h) (Or.inl ⟨by rfl, fun w hS => by obtain ⟨b0, b1⟩ := hS; go_simp⟩) ⟨b0, b1⟩ ?_
        simp only [List.getElem_toArray, List.getElem_cons_zero, List.getElem_cons_succ, Act.put, List.setIfInBounds_toArray, List.set_cons_zero, List.set_cons_succ]
        refine takeU (i := 9) (v := .int .i64 ((d' : Int) + 1)) rfl (by rfl) (by kernel_rfl) (by kernel_rfl) (reach_one (by kernel_rfl)) (by kernel_rfl) (by kernel_rfl) (fun _ _ _ h => h) (Or.inl ⟨by rfl, fun w hS => by obtain ⟨b0, b1⟩ := hS; go_simp⟩) ⟨b0, b1⟩ ?_
        simp only [List.getElem_toArray, List.getElem_cons_zero, List.getElem_cons_succ, Act.put, List.setIfInBounds_toArray, List.set_cons_zero, List.set_cons_succ]
        refine takeU (i := 10) (v := .int .i64 (d' : Int)) rfl (by rfl) (by kernel_rfl) (by kernel_rfl) (reach_one (by kernel_rfl)) (by kernel_rfl) (by kernel_rfl) (fun _ _ _ h => h) (Or.inl ⟨by rfl, fun w hS => by obtain ⟨b0, b1⟩ := hS; go_simp⟩) ⟨b0, b1⟩ ?_
        simp only [List.getElem_toArray, List.getElem_cons_zero, List.getElem_cons_succ, Act.put, List.setIfInBounds_toArray, List.set_cons_zero, List.set_cons_succ]
        refine takeU (i := 11) (v := .agg #[.slice na nn nc, .slice ta tn tc]) rfl (by rfl) (by kernel_rfl) (by kernel_rfl) (reach_one (by kernel_rfl)) (by kernel_rfl) (by kernel_rfl) (fun _ _ _ h => h) (Or.inl ⟨by rfl, fun w hS => by obtain ⟨b0, b1⟩ := hS; go_simp⟩) ⟨b0, b1⟩ ?_
        simp only [List.getElem_toArray, List.getElem_cons_zero, List.getElem_cons_succ, Act.put, List.setIfInBounds_toArray, List.set_cons_zero, List.set_cons_succ]
        obtain ⟨VA, hVA⟩ : ∃ VA, VA = w1.alloc (.cells #[.string ⟨#[38]⟩, .string ⟨#[124]⟩, .string ⟨#[61]⟩] 9) := ⟨_, rfl⟩
        have HLC := hideN (show ∀ i, i < 3 → (w1.alloc (.cells #[.string ⟨#[38]⟩, .string ⟨#[124]⟩, .string ⟨#[61]⟩] 9)).cell? ⟨w1.heap.size, 0 + i, none⟩ = some (.string (([⟨#[38]⟩, ⟨#[124]⟩, ⟨#[61]⟩] : List ByteArray).getD i ⟨#[]⟩)) from litT_cells w1 [⟨#[38]⟩, ⟨#[124]⟩, ⟨#[61]⟩] 9)
        have hbA : Below w1.heap.size w1 VA := by rw [hVA]; exact belOne _ _
        have HSA := hideN (HS2.out.below hbA)
        have HSE := hideN HSA.out.drew
        have HVA := hideN hVA
        rw [← hVA] at HLC
        have HLD := hideN (show ∀ i, i < 3 → VA.drew.cell? ⟨w1.heap.size, 0 + i, none⟩ = some (.string (([⟨#[38]⟩, ⟨#[124]⟩, ⟨#[61]⟩] : List ByteArray).getD i ⟨#[]⟩)) from fun i hi => HLC.out i hi)
        have hszA := HSD.out.room
        have hltA := HSD.out.lt
        clear hVA hbA
        refine oneU (i := 1) (by kernel_rfl) rfl (by rfl) ?_
        simp only [List.getElem_toArray, List.getElem_cons_zero, List.getElem_cons_succ]
        go_simp
        try rw [← HVA.out]
        clear b0 b1
        have b0 : VA.cell? ⟨w.heap.size, 0, none⟩ = some (.slice na nn nc) := HSA.out.b0
        have b1 : VA.cell? ⟨w.heap.size, 1, none⟩ = some (.slice ta tn tc) := HSA.out.b1
        first | refine ⟨⟨b0, b1⟩, ?_⟩ | skip
        refine oneU (i := 2) (by kernel_rfl) rfl (by rfl) ?_
        simp only [List.getElem_toArray, List.getElem_cons_zero, List.getElem_cons_succ]
        go_simp
        refine (ofT_any R v bs (p1 + 1) w1.heap.size 0 3 3 [⟨#[38]⟩, ⟨#[124]⟩, ⟨#[61]⟩] VA.drew HSE.out.rd (by omega) rfl (by decide) (by decide) (by have h9 : w.heap.size + 2 ≤ w1.heap.size := HS2.out.room; omega) HLD.out).mono ?_
        rintro e VO ⟨sg, rfl, hsg, hrd, hg, -⟩
        have HSO := hideN (HSE.out.pick hrd hg)
        have hsz1 : sg.size = 1 := by
          simp at hsg
          rcases hsg with rfl | rfl | rfl <;> rfl
        clear hsg hrd hg
        clear b0 b1
        have b0 : VO.cell? ⟨w.heap.size, 0, none⟩ = some (.slice na nn nc) := HSO.out.b0
        have b1 : VO.cell? ⟨w.heap.size, 1, none⟩ = some (.slice ta tn tc) := HSO.out.b1
        first | refine ⟨⟨b0, b1⟩, ?_⟩ | skip
        refine oneU (i := 7) (by kernel_rfl) rfl (by rfl) ?_
        simp only [List.getElem_toArray, List.getElem_cons_zero, List.getElem_cons_succ]
        go_simp
        have hlo9 := HSO.out.room
        refine (HTk.out ((p1 + 1) + 1) VO HSO.out.rd (by omega) HSO.out.sn HSO.out.st HSO.out.alw).mono ?_
        rintro e V9 ⟨T9, u9, p9, rfl, hE, ht9, hp9, hq9, hrd, hg⟩
        have HS9 := hideN (HSO.out.pick hrd hg)
        have HG9 := hideN hg
        have HE9 := hideN (IsE.less hlo9 _ _ hE)
        obtain ⟨k9, n9, s9, a9, m9, c9, rfl⟩ := hE.agg
        clear hrd hg hE
        clear b0 b1
        have b0 : V9.cell? ⟨w.heap.size, 0, none⟩ = some (.slice na nn nc) := HS9.out.b0
        have b1 : V9.cell? ⟨w.heap.size, 1, none⟩ = some (.slice ta tn tc) := HS9.out.b1
        first | refine ⟨⟨b0, b1⟩, ?_⟩ | skip
        refine oneU (i := 12) (by kernel_rfl) rfl (by rfl) ?_
        simp only [List.getElem_toArray, List.getElem_cons_zero, List.getElem_cons_succ]
        go_simp
        have hlo10 := HS9.out.room
        refine (HTk.out p9 V9 HS9.out.rd (by omega) HS9.out.sn HS9.out.st HS9.out.alw).mono ?_
        rintro e V10 ⟨T10, u10, p10, rfl, hE, ht10, hp10, hq10, hrd, hg⟩
        have HS10 := hideN (HS9.out.pick hrd hg)
        have HG10 := hideN hg
        have HE10 := hideN (IsE.less hlo10 _ _ hE)
        obtain ⟨k10, n10, s10, a10, m10, c10, rfl⟩ := hE.agg
        clear hrd hg hE
        have HE9 := hideN (HE9.out.rd HS9.out.lo HG10.out)
        clear b0 b1
        have b0 : V10.cell? ⟨w.heap.size, 0, none⟩ = some (.slice na nn nc) := HS10.out.b0
        have b1 : V10.cell? ⟨w.heap.size, 1, none⟩ = some (.slice ta tn tc) := HS10.out.b1
        first | refine ⟨⟨b0, b1⟩, ?_⟩ | skip
        refine oneU (i := 13) (by kernel_rfl) rfl (by rfl) ?_
        simp only [List.getElem_toArray, List.getElem_cons_zero, List.getElem_cons_succ]
        go_simp
        have hroom := HS10.out.room
        refine (l9Two_any (w.heap.size + 2) sg T9 T10 _ _ V10 (by rw [hsz1]; decide) HE9.out HE10.out hroom).mono ?_
        rintro e VZ ⟨u, rfl, hE, hbZ⟩
        have HSZ := hideN (HS10.out.below hbZ)
        have HEZ := hideN hE
        have HTZ : Hid (totE (.node 6 0 sg [T9, T10]) ≤ M) := by
          show _ ≤ _
          rw [totE, totL, totL, totL]
          simp
          omega
        obtain ⟨kz, nz, sz, az, mz, cz, rfl⟩ := hE.agg
        clear hE hbZ
        clear b0 b1
        have b0 : VZ.cell? ⟨w.heap.size, 0, none⟩ = some (.slice na nn nc) := HSZ.out.b0
        have b1 : VZ.cell? ⟨w.heap.size, 1, none⟩ = some (.slice ta tn tc) := HSZ.out.b1
        first | refine ⟨⟨b0, b1⟩, ?_⟩ | skip
        have HQ := hideN HSZ.out.q
        have HFN := hideN (drw_fin HSZ.out (show p ≤ _ by omega) (show _ ≤ p + M by omega) HEZ.out HTZ.out)
        have HQ4 := hideN (set4E_blk HQ.out (.int .i64 kz) (.int .i64 nz) (.string sz) (.slice az mz cz))
        have q0 := HQ.out.c0
        have q1 := HQ.out.c1
        have q2 := HQ.out.c2
        have q3 := HQ.out.c3
        have f0 := HQ.out.f 0
        have f1 := HQ.out.f 1
        have f2 := HQ.out.f 2
        have f3 := HQ.out.f 3
        refine oneU (i := 14) (by kernel_rfl) rfl (by rfl) ?_
        simp only [List.getElem_toArray, List.getElem_cons_zero, List.getElem_cons_succ]
        go_simp
        refine doneU (by kernel_rfl) ?_ _
        go_wp2_with fail
        have t0 := HQ4.out.c0
        have t1 := HQ4.out.c1
        have t2 := HQ4.out.c2
        have t3 := HQ4.out.c3
        exact bodyPost_ret (v := .agg #[.int .i64 kz, .int .i64 nz, .string sz, .slice az mz cz]) (by simp [results, Try.results30, go_sem, t0, t1, t2, t3]) rfl HFN.out
      · skip
        go_wp2_with fail
        have HSD := hideN HS2.out.drew
        have b0 : w1.drew.cell? ⟨w.heap.size, 0, none⟩ = some (.slice na nn nc) := HSD.out.b0
        have b1 : w1.drew.cell? ⟨w.heap.size, 1, none⟩ = some (.slice ta tn tc) := HSD.out.b1
        refine region_U (fin := 17) (S := fun V' => V'.cell? ⟨w.heap.size, 0, none⟩ = some (.slice na nn nc) ∧ V'.cell? ⟨w.heap.size, 1, none⟩ = some (.slice ta tn tc)) (by kernel_rfl) ⟨b0, b1⟩ (fun hHeld => ?_)
        clear hHeld
        refine takeU (i := 0) (v := .pointer (some ⟨R, 0, none⟩)) rfl (by rfl) (by kernel_rfl) (by kernel_rfl) (reach_one (by kernel_rfl)) (by kernel_rfl) (by kernel_rfl) (fun _ _ _ h => h) (Or.inl ⟨by rfl, fun w hS => by obtain ⟨b0, b1⟩ := hS; go_simp⟩) ⟨b0, b1⟩ ?_
        simp only [List.getElem_toArray, List.getElem_cons_zero, Act.put, List.setIfInBounds_toArray, List.set_cons_zero, List.set_cons_succ]
        refine takeU (i := 1) (v := .int .i64 ((d' : Int) + 1)) rfl (by rfl) (by kernel_rfl) (by kernel_rfl) (reach_one (by kernel_rfl)) (by kernel_rfl) (by kernel_rfl) (fun _ _ _ h => h) (Or.inl ⟨by rfl, fun w hS => by obtain ⟨b0, b1⟩ := hS; go_simp⟩) ⟨b0, b1⟩ ?_
        simp only [List.getElem_toArray, List.getElem_cons_zero, List.getElem_cons_succ, Act.put, List.setIfInBounds_toArray, List.set_cons_zero, List.set_cons_succ]
        refine takeU (i := 2) (v := .int .i64 (d' : Int)) rfl (by rfl) (by kernel_rfl) (by kernel_rfl) (reach_one (by kernel_rfl)) (by kernel_rfl) (by kernel_rfl) (fun _ _ _ h => h) (Or.inl ⟨by rfl, fun w hS => by obtain ⟨b0, b1⟩ := hS; go_simp⟩) ⟨b0, b1⟩ ?_
        simp only [List.getElem_toArray, List.getElem_cons_zero, List.getElem_cons_succ, Act.put, List.setIfInBounds_toArray, List.set_cons_zero, List.set_cons_succ]
        refine takeU (i := 3) (v := .agg #[.slice na nn nc, .slice ta tn tc]) rfl (by rfl) (by kernel_rfl) (by kernel_rfl) (reach_one (by kernel_rfl)) (by kernel_rfl) (by kernel_rfl) (fun _ _ _ h => h) (Or.inl ⟨by rfl, fun w hS => by obtain ⟨b0, b1⟩ := hS; go_simp⟩) ⟨b0, b1⟩ ?_
        simp only [List.getElem_toArray, List.getElem_cons_zero, List.getElem_cons_succ, Act.put, List.setIfInBounds_toArray, List.set_cons_zero, List.set_cons_succ]
        refine takeU (i := 5) (v := .pointer (some ⟨R, 0, none⟩)) rfl (by rfl) (by kernel_rfl) (by kernel_rfl) (reach_one (by kernel_rfl)) (by kernel_rfl) (by kernel_rfl) (fun _ _ _ h => h) (Or.inl ⟨by rfl, fun w hS => by obtain ⟨b0, b1⟩ := hS; go_simp⟩) ⟨b0, b1⟩ ?_
        simp only [List.getElem_toArray, List.getElem_cons_zero, List.getElem_cons_succ, Act.put, List.setIfInBounds_toArray, List.set_cons_zero, List.set_cons_succ]
        refine takeU (i := 6) (v := .int .i64 ((d' : Int) + 1)) rfl (by rfl) (by kernel_rfl) (by kernel_rfl) (reach_one (by kernel_rfl)) (by kernel_rfl) (by kernel_rfl) (fun _ _ _ h => h) (Or.inl ⟨by rfl, fun w hS => by obtain ⟨b0, b1⟩ := hS; go_simp⟩) ⟨b0, b1⟩ ?_
        simp only [List.getElem_toArray, List.getElem_cons_zero, List.getElem_cons_succ, Act.put, List.setIfInBounds_toArray, List.set_cons_zero, List.set_cons_succ]
        refine takeU (i := 7) (v := .int .i64 (d' : Int)) rfl (by rfl) (by kernel_rfl) (by kernel_rfl) (reach_one (by kernel_rfl)) (by kernel_rfl) (by kernel_rfl) (fun _ _ _ h => h) (Or.inl ⟨by rfl, fun w hS => by obtain ⟨b0, b1⟩ := hS; go_simp⟩) ⟨b0, b1⟩ ?_
        simp only [List.getElem_toArray, List.getElem_cons_zero, List.getElem_cons_succ, Act.put, List.setIfInBounds_toArray, List.set_cons_zero, List.set_cons_succ]
        refine takeU (i := 8) (v := .agg #[.slice na nn nc, .slice ta tn tc]) rfl (by rfl) (by kernel_rfl) (by kernel_rfl) (reach_one (by kernel_rfl)) (by kernel_rfl) (by kernel_rfl) (fun _ _ _ h => h) (Or.inl ⟨by rfl, fun w hS => by obtain ⟨b0, b1⟩ := hS; go_simp⟩) ⟨b0, b1⟩ ?_
        simp only [List.getElem_toArray, List.getElem_cons_zero, List.getElem_cons_succ, Act.put, List.setIfInBounds_toArray, List.set_cons_zero, List.set_cons_succ]
        refine takeU (i := 10) (v := .pointer (some ⟨R, 0, none⟩)) rfl (by rfl) (by kernel_rfl) (by kernel_rfl) (reach_one (by kernel_rfl)) (by kernel_rfl) (by kernel_rfl) (fun _ _ _ h => h) (Or.inl ⟨by rfl, fun w hS => by obtain ⟨b0, b1⟩ := hS; go_simp⟩) ⟨b0, b1⟩ ?_
        simp only [List.getElem_toArray, List.getElem_cons_zero, List.getElem_cons_succ, Act.put, List.setIfInBounds_toArray, List.set_cons_zero, List.set_cons_succ]
        refine takeU (i := 11) (v := .int .i64 ((d' : Int) + 1)) rfl (by rfl) (by kernel_rfl) (by kernel_rfl) (reach_one (by kernel_rfl)) (by kernel_rfl) (by kernel_rfl) (fun _ _ _ h => h) (Or.inl ⟨by rfl, fun w hS => by obtain ⟨b0, b1⟩ := hS; go_simp⟩) ⟨b0, b1⟩ ?_
        simp only [List.getElem_toArray, List.getElem_cons_zero, List.getElem_cons_succ, Act.put, List.setIfInBounds_toArray, List.set_cons_zero, List.set_cons_succ]
        refine takeU (i := 12) (v := .int .i64 (d' : Int)) rfl (by rfl) (by kernel_rfl) (by kernel_rfl) (reach_one (by kernel_rfl)) (by kernel_rfl) (by kernel_rfl) (fun _ _ _ h => h) (Or.inl ⟨by rfl, fun w hS => by obtain ⟨b0, b1⟩ := hS; go_simp⟩) ⟨b0, b1⟩ ?_
        simp only [List.getElem_toArray, List.getElem_cons_zero, List.getElem_cons_succ, Act.put, List.setIfInBounds_toArray, List.set_cons_zero, List.set_cons_succ]
        refine takeU (i := 13) (v := .agg #[.slice na nn nc, .slice ta tn tc]) rfl (by rfl) (by kernel_rfl) (by kernel_rfl) (reach_one (by kernel_rfl)) (by kernel_rfl) (by kernel_rfl) (fun _ _ _ h => h) (Or.inl ⟨by rfl, fun w hS => by obtain ⟨b0, b1⟩ := hS; go_simp⟩) ⟨b0, b1⟩ ?_
        simp only [List.getElem_toArray, List.getElem_cons_zero, List.getElem_cons_succ, Act.put, List.setIfInBounds_toArray, List.set_cons_zero, List.set_cons_succ]
        refine oneU (i := 4) (by kernel_rfl) rfl (by rfl) ?_
        simp only [List.getElem_toArray, List.getElem_cons_zero, List.getElem_cons_succ]
        go_simp
        have hlo11 := HSD.out.room
        refine (HTk.out (p1 + 1) w1.drew HSD.out.rd (by omega) HSD.out.sn HSD.out.st HSD.out.alw).mono ?_
        rintro e V11 ⟨T11, u11, p11, rfl, hE, ht11, hp11, hq11, hrd, hg⟩
        have HS11 := hideN (HSD.out.pick hrd hg)
        have HG11 := hideN hg
        have HE11 := hideN (IsE.less hlo11 _ _ hE)
        obtain ⟨k11, n11, s11, a11, m11, c11, rfl⟩ := hE.agg
        clear hrd hg hE
        clear b0 b1
        have b0 : V11.cell? ⟨w.heap.size, 0, none⟩ = some (.slice na nn nc) := HS11.out.b0
        have b1 : V11.cell? ⟨w.heap.size, 1, none⟩ = some (.slice ta tn tc) := HS11.out.b1
        first | refine ⟨⟨b0, b1⟩, ?_⟩ | skip
        refine oneU (i := 9) (by kernel_rfl) rfl (by rfl) ?_
        simp only [List.getElem_toArray, List.getElem_cons_zero, List.getElem_cons_succ]
        go_simp
        have hlo12 := HS11.out.room
        refine (HTk.out p11 V11 HS11.out.rd (by omega) HS11.out.sn HS11.out.st HS11.out.alw).mono ?_
        rintro e V12 ⟨T12, u12, p12, rfl, hE, ht12, hp12, hq12, hrd, hg⟩
        have HS12 := hideN (HS11.out.pick hrd hg)
        have HG12 := hideN hg
        have HE12 := hideN (IsE.less hlo12 _ _ hE)
        obtain ⟨k12, n12, s12, a12, m12, c12, rfl⟩ := hE.agg
        clear hrd hg hE
        have HE11 := hideN (HE11.out.rd HS11.out.lo HG12.out)
        clear b0 b1
        have b0 : V12.cell? ⟨w.heap.size, 0, none⟩ = some (.slice na nn nc) := HS12.out.b0
        have b1 : V12.cell? ⟨w.heap.size, 1, none⟩ = some (.slice ta tn tc) := HS12.out.b1
        first | refine ⟨⟨b0, b1⟩, ?_⟩ | skip
        refine oneU (i := 14) (by kernel_rfl) rfl (by rfl) ?_
        simp only [List.getElem_toArray, List.getElem_cons_zero, List.getElem_cons_succ]
        go_simp
        have hlo13 := HS12.out.room
        refine (HTk.out p12 V12 HS12.out.rd (by omega) HS12.out.sn HS12.out.st HS12.out.alw).mono ?_
        rintro e V13 ⟨T13, u13, p13, rfl, hE, ht13, hp13, hq13, hrd, hg⟩
        have HS13 := hideN (HS12.out.pick hrd hg)
        have HG13 := hideN hg
        have HE13 := hideN (IsE.less hlo13 _ _ hE)
        obtain ⟨k13, n13, s13, a13, m13, c13, rfl⟩ := hE.agg
        clear hrd hg hE
        have HE11 := hideN (HE11.out.rd HS12.out.lo HG13.out)
        have HE12 := hideN (HE12.out.rd HS12.out.lo HG13.out)
        clear b0 b1
        have b0 : V13.cell? ⟨w.heap.size, 0, none⟩ = some (.slice na nn nc) := HS13.out.b0
        have b1 : V13.cell? ⟨w.heap.size, 1, none⟩ = some (.slice ta tn tc) := HS13.out.b1
        first | refine ⟨⟨b0, b1⟩, ?_⟩ | skip
        obtain ⟨VB, hVB⟩ : ∃ VB, VB = World.alloc V13 (.cells #[.int .i64 k11, .int .i64 n11, .string s11, .slice a11 m11 c11, .int .i64 k12, .int .i64 n12, .string s12, .slice a12 m12 c12, .int .i64 k13, .int .i64 n13, .string s13, .slice a13 m13 c13] 25) := ⟨_, rfl⟩
        have hbB : Below V13.heap.size V13 VB := by rw [hVB]; exact belOne _ _
        have HEB : Hid (IsE VB (w.heap.size + 2) (.node 7 0 ⟨#[]⟩ [T11, T12, T13]) (.agg #[.int .i64 7, .int .i64 0, .string ⟨#[]⟩, .slice (some ⟨V13.heap.size, 0, none⟩) 3 3])) := by
          rw [hVB]
          refine isE_row [T11, T12, T13] [.agg #[.int .i64 k11, .int .i64 n11, .string s11, .slice a11 m11 c11], .agg #[.int .i64 k12, .int .i64 n12, .string s12, .slice a12 m12 c12], .agg #[.int .i64 k13, .int .i64 n13, .string s13, .slice a13 m13 c13]] _ rfl ⟨by unfold Num64; omega, by unfold Num64; omega, by decide⟩ (by simp) (fun i hi => ?_) (fun i hi => ?_) HS13.out.room
          · rcases (show i = 0 ∨ i = 1 ∨ i = 2 by simp at hi; omega) with rfl | rfl | rfl
            · exact ⟨_, _, _, _, rfl, rfl, rfl, rfl, rfl⟩
            · exact ⟨_, _, _, _, rfl, rfl, rfl, rfl, rfl⟩
            · exact ⟨_, _, _, _, rfl, rfl, rfl, rfl, rfl⟩
          · rcases (show i = 0 ∨ i = 1 ∨ i = 2 by simp at hi; omega) with rfl | rfl | rfl
            · exact HE11.out
            · exact HE12.out
            · exact HE13.out
        have HTB : Hid (totE (.node 7 0 ⟨#[]⟩ [T11, T12, T13]) ≤ M) := by
          show _ ≤ _
          rw [totE, totL, totL, totL, totL]
          have h0 : (⟨#[]⟩ : ByteArray).size = 0 := rfl
          rw [h0]
          simp
          omega
        have HSB := hideN (HS13.out.below hbB)
        have HVB := hideN hVB
        clear hVB hbB
        refine oneU (i := 15) (by kernel_rfl) rfl (by rfl) ?_
        simp only [List.getElem_toArray, List.getElem_cons_zero, List.getElem_cons_succ]
        go_simp
        try rw [← HVB.out]
        clear b0 b1
        have b0 : VB.cell? ⟨w.heap.size, 0, none⟩ = some (.slice na nn nc) := HSB.out.b0
        have b1 : VB.cell? ⟨w.heap.size, 1, none⟩ = some (.slice ta tn tc) := HSB.out.b1
        first | refine ⟨⟨b0, b1⟩, ?_⟩ | skip
        refine oneU (i := 16) (by kernel_rfl) rfl (by rfl) ?_
        simp only [List.getElem_toArray, List.getElem_cons_zero, List.getElem_cons_succ]
        go_simp
        try refine ⟨⟨b0, b1⟩, ?_⟩
        have HQ := hideN HSB.out.q
        have HFN := hideN (drw_fin HSB.out (show p ≤ _ by omega) (show _ ≤ p + M by omega) HEB.out HTB.out)
        have HQ4 := hideN (set4E_blk HQ.out (.int .i64 7) (.int .i64 0) (.string ⟨#[]⟩) (.slice (some ⟨V13.heap.size, 0, none⟩) 3 3))
        have q0 := HQ.out.c0
        have q1 := HQ.out.c1
        have q2 := HQ.out.c2
        have q3 := HQ.out.c3
        have f0 := HQ.out.f 0
        have f1 := HQ.out.f 1
        have f2 := HQ.out.f 2
        have f3 := HQ.out.f 3
        refine oneU (i := 17) (by kernel_rfl) rfl (by rfl) ?_
        simp only [List.getElem_toArray, List.getElem_cons_zero, List.getElem_cons_succ]
        go_simp
        refine doneU (by kernel_rfl) ?_ _
        go_wp2_with fail
        have t0 := HQ4.out.c0
        have t1 := HQ4.out.c1
        have t2 := HQ4.out.c2
        have t3 := HQ4.out.c3
        exact bodyPost_ret (v := .agg #[.int .i64 7, .int .i64 0, .string ⟨#[]⟩, .slice (some ⟨V13.heap.size, 0, none⟩) 3 3]) (by simp [results, Try.results30, go_sem, t0, t1, t2, t3]) rfl HFN.out
      · skip
        go_wp2_with fail
        have HSD := hideN HS2.out.drew
        have b0 : w1.drew.cell? ⟨w.heap.size, 0, none⟩ = some (.slice na nn nc) := HSD.out.b0
        have b1 : w1.drew.cell? ⟨w.heap.size, 1, none⟩ = some (.slice ta tn tc) := HSD.out.b1
        refine region_U (fin := 14) (S := fun V' => V'.cell? ⟨w.heap.size, 0, none⟩ = some (.slice na nn nc) ∧ V'.cell? ⟨w.heap.size, 1, none⟩ = some (.slice ta tn tc)) (by kernel_rfl) ⟨b0, b1⟩ (fun hHeld => ?_)
        clear hHeld
        refine takeU (i := 0) (v := .pointer (some ⟨R, 0, none⟩)) rfl (by rfl) (by kernel_rfl) (by kernel_rfl) (reach_one (by kernel_rfl)) (by kernel_rfl) (by kernel_rfl) (fun _ _ _ h => h) (Or.inl ⟨by rfl, fun w hS => by obtain ⟨b0, b1⟩ := hS; go_simp⟩) ⟨b0, b1⟩ ?_
        simp only [List.getElem_toArray, List.getElem_cons_zero, Act.put, List.setIfInBounds_toArray, List.set_cons_zero, List.set_cons_succ]
        refine takeU (i := 3) (v := .pointer (some ⟨R, 0, none⟩)) rfl (by rfl) (by kernel_rfl) (by kernel_rfl) (reach_one (by kernel_rfl)) (by kernel_rfl) (by kernel_rfl) (fun _ _ _ h => h) (Or.inl ⟨by rfl, fun w hS => by obtain ⟨b0, b1⟩ := hS; go_simp⟩) ⟨b0, b1⟩ ?_
        simp only [List.getElem_toArray, List.getElem_cons_zero, List.getElem_cons_succ, Act.put, List.setIfInBounds_toArray, List.set_cons_zero, List.set_cons_succ]
        refine takeU (i := 4) (v := .int .i64 ((d' : Int) + 1)) rfl (by rfl) (by kernel_rfl) (by kernel_rfl) (reach_one (by kernel_rfl)) (by kernel_rfl) (by kernel_rfl) (fun _ _ _ h => h) (Or.inl ⟨by rfl, fun w hS => by obtain ⟨b0, b1⟩ := hS; go_simp⟩) ⟨b0, b1⟩ ?_
        simp only [List.getElem_toArray, List.getElem_cons_zero, List.getElem_cons_succ, Act.put, List.setIfInBounds_toArray, List.set_cons_zero, List.set_cons_succ]
        refine takeU (i := 5) (v := .int .i64 (d' : Int)) rfl (by rfl) (by kernel_rfl) (by kernel_rfl) (reach_one (by kernel_rfl)) (by kernel_rfl) (by kernel_rfl) (fun _ _ _ h => h) (Or.inl ⟨by rfl, fun w hS => by obtain ⟨b0, b1⟩ := hS; go_simp⟩) ⟨b0, b1⟩ ?_
        simp only [List.getElem_toArray, List.getElem_cons_zero, List.getElem_cons_succ, Act.put, List.setIfInBounds_toArray, List.set_cons_zero, List.set_cons_succ]
        refine takeU (i := 6) (v := .agg #[.slice na nn nc, .slice ta tn tc]) rfl (by rfl) (by kernel_rfl) (by kernel_rfl) (reach_one (by kernel_rfl)) (by kernel_rfl) (by kernel_rfl) (fun _ _ _ h => h) (Or.inl ⟨by rfl, fun w hS => by obtain ⟨b0, b1⟩ := hS; go_simp⟩) ⟨b0, b1⟩ ?_
        simp only [List.getElem_toArray, List.getElem_cons_zero, List.getElem_cons_succ, Act.put, List.setIfInBounds_toArray, List.set_cons_zero, List.set_cons_succ]
        refine takeU (i := 8) (v := .pointer (some ⟨R, 0, none⟩)) rfl (by rfl) (by kernel_rfl) (by kernel_rfl) (reach_one (by kernel_rfl)) (by kernel_rfl) (by kernel_rfl) (fun _ _ _ h => h) (Or.inl ⟨by rfl, fun w hS => by obtain ⟨b0, b1⟩ := hS; go_simp⟩) ⟨b0, b1⟩ ?_
        simp only [List.getElem_toArray, List.getElem_cons_zero, List.getElem_cons_succ, Act.put, List.setIfInBounds_toArray, List.set_cons_zero, List.set_cons_succ]
        refine takeU (i := 9) (v := .int .i64 ((d' : Int) + 1)) rfl (by rfl) (by kernel_rfl) (by kernel_rfl) (reach_one (by kernel_rfl)) (by kernel_rfl) (by kernel_rfl) (fun _ _ _ h => h) (Or.inl ⟨by rfl, fun w hS => by obtain ⟨b0, b1⟩ := hS; go_simp⟩) ⟨b0, b1⟩ ?_
        simp only [List.getElem_toArray, List.getElem_cons_zero, List.getElem_cons_succ, Act.put, List.setIfInBounds_toArray, List.set_cons_zero, List.set_cons_succ]
        refine takeU (i := 10) (v := .int .i64 (d' : Int)) rfl (by rfl) (by kernel_rfl) (by kernel_rfl) (reach_one (by kernel_rfl)) (by kernel_rfl) (by kernel_rfl) (fun _ _ _ h => h) (Or.inl ⟨by rfl, fun w hS => by obtain ⟨b0, b1⟩ := hS; go_simp⟩) ⟨b0, b1⟩ ?_
        simp only [List.getElem_toArray, List.getElem_cons_zero, List.getElem_cons_succ, Act.put, List.setIfInBounds_toArray, List.set_cons_zero, List.set_cons_succ]
        refine takeU (i := 11) (v := .agg #[.slice na nn nc, .slice ta tn tc]) rfl (by rfl) (by kernel_rfl) (by kernel_rfl) (reach_one (by kernel_rfl)) (by kernel_rfl) (by kernel_rfl) (fun _ _ _ h => h) (Or.inl ⟨by rfl, fun w hS => by obtain ⟨b0, b1⟩ := hS; go_simp⟩) ⟨b0, b1⟩ ?_
        simp only [List.getElem_toArray, List.getElem_cons_zero, List.getElem_cons_succ, Act.put, List.setIfInBounds_toArray, List.set_cons_zero, List.set_cons_succ]
        obtain ⟨VA, hVA⟩ : ∃ VA, VA = w1.alloc (.cells #[.string ⟨#[60]⟩, .string ⟨#[61]⟩] 9) := ⟨_, rfl⟩
        have HLC := hideN (show ∀ i, i < 2 → (w1.alloc (.cells #[.string ⟨#[60]⟩, .string ⟨#[61]⟩] 9)).cell? ⟨w1.heap.size, 0 + i, none⟩ = some (.string (([⟨#[60]⟩, ⟨#[61]⟩] : List ByteArray).getD i ⟨#[]⟩)) from litT_cells w1 [⟨#[60]⟩, ⟨#[61]⟩] 9)
        have hbA : Below w1.heap.size w1 VA := by rw [hVA]; exact belOne _ _
        have HSA := hideN (HS2.out.below hbA)
        have HSE := hideN HSA.out.drew
        have HVA := hideN hVA
        rw [← hVA] at HLC
        have HLD := hideN (show ∀ i, i < 2 → VA.drew.cell? ⟨w1.heap.size, 0 + i, none⟩ = some (.string (([⟨#[60]⟩, ⟨#[61]⟩] : List ByteArray).getD i ⟨#[]⟩)) from fun i hi => HLC.out i hi)
        have hszA := HSD.out.room
        have hltA := HSD.out.lt
        clear hVA hbA
        refine oneU (i := 1) (by kernel_rfl) rfl (by rfl) ?_
        simp only [List.getElem_toArray, List.getElem_cons_zero, List.getElem_cons_succ]
        go_simp
        try rw [← HVA.out]
        clear b0 b1
        have b0 : VA.cell? ⟨w.heap.size, 0, none⟩ = some (.slice na nn nc) := HSA.out.b0
        have b1 : VA.cell? ⟨w.heap.size, 1, none⟩ = some (.slice ta tn tc) := HSA.out.b1
        first | refine ⟨⟨b0, b1⟩, ?_⟩ | skip
        refine oneU (i := 2) (by kernel_rfl) rfl (by rfl) ?_
        simp only [List.getElem_toArray, List.getElem_cons_zero, List.getElem_cons_succ]
        go_simp
        refine (ofT_any R v bs (p1 + 1) w1.heap.size 0 2 2 [⟨#[60]⟩, ⟨#[61]⟩] VA.drew HSE.out.rd (by omega) rfl (by decide) (by decide) (by have h9 : w.heap.size + 2 ≤ w1.heap.size := HS2.out.room; omega) HLD.out).mono ?_
        rintro e VO ⟨sg, rfl, hsg, hrd, hg, -⟩
        have HSO := hideN (HSE.out.pick hrd hg)
        have hsz1 : sg.size = 1 := by
          simp at hsg
          rcases hsg with rfl | rfl <;> rfl
        clear hsg hrd hg
        clear b0 b1
        have b0 : VO.cell? ⟨w.heap.size, 0, none⟩ = some (.slice na nn nc) := HSO.out.b0
        have b1 : VO.cell? ⟨w.heap.size, 1, none⟩ = some (.slice ta tn tc) := HSO.out.b1
        first | refine ⟨⟨b0, b1⟩, ?_⟩ | skip
        refine oneU (i := 7) (by kernel_rfl) rfl (by rfl) ?_
        simp only [List.getElem_toArray, List.getElem_cons_zero, List.getElem_cons_succ]
        go_simp
        have hlo14 := HSO.out.room
        refine (HNk.out ((p1 + 1) + 1) VO HSO.out.rd (by omega) HSO.out.sn HSO.out.st HSO.out.alw).mono ?_
        rintro e V14 ⟨T14, u14, p14, rfl, hE, ht14, hp14, hq14, hrd, hg⟩
        have HS14 := hideN (HSO.out.pick hrd hg)
        have HG14 := hideN hg
        have HE14 := hideN (IsE.less hlo14 _ _ hE)
        obtain ⟨k14, n14, s14, a14, m14, c14, rfl⟩ := hE.agg
        clear hrd hg hE
        clear b0 b1
        have b0 : V14.cell? ⟨w.heap.size, 0, none⟩ = some (.slice na nn nc) := HS14.out.b0
        have b1 : V14.cell? ⟨w.heap.size, 1, none⟩ = some (.slice ta tn tc) := HS14.out.b1
        first | refine ⟨⟨b0, b1⟩, ?_⟩ | skip
        refine oneU (i := 12) (by kernel_rfl) rfl (by rfl) ?_
        simp only [List.getElem_toArray, List.getElem_cons_zero, List.getElem_cons_succ]
        go_simp
        have hlo15 := HS14.out.room
        refine (HNk.out p14 V14 HS14.out.rd (by omega) HS14.out.sn HS14.out.st HS14.out.alw).mono ?_
        rintro e V15 ⟨T15, u15, p15, rfl, hE, ht15, hp15, hq15, hrd, hg⟩
        have HS15 := hideN (HS14.out.pick hrd hg)
        have HG15 := hideN hg
        have HE15 := hideN (IsE.less hlo15 _ _ hE)
        obtain ⟨k15, n15, s15, a15, m15, c15, rfl⟩ := hE.agg
        clear hrd hg hE
        have HE14 := hideN (HE14.out.rd HS14.out.lo HG15.out)
        clear b0 b1
        have b0 : V15.cell? ⟨w.heap.size, 0, none⟩ = some (.slice na nn nc) := HS15.out.b0
        have b1 : V15.cell? ⟨w.heap.size, 1, none⟩ = some (.slice ta tn tc) := HS15.out.b1
        first | refine ⟨⟨b0, b1⟩, ?_⟩ | skip
        refine oneU (i := 13) (by kernel_rfl) rfl (by rfl) ?_
        simp only [List.getElem_toArray, List.getElem_cons_zero, List.getElem_cons_succ]
        go_simp
        have hroom := HS15.out.room
        refine (l9Two_any (w.heap.size + 2) sg T14 T15 _ _ V15 (by rw [hsz1]; decide) HE14.out HE15.out hroom).mono ?_
        rintro e VZ ⟨u, rfl, hE, hbZ⟩
        have HSZ := hideN (HS15.out.below hbZ)
        have HEZ := hideN hE
        have HTZ : Hid (totE (.node 6 0 sg [T14, T15]) ≤ M) := by
          show _ ≤ _
          rw [totE, totL, totL, totL]
          simp
          omega
        obtain ⟨kz, nz, sz, az, mz, cz, rfl⟩ := hE.agg
        clear hE hbZ
        clear b0 b1
        have b0 : VZ.cell? ⟨w.heap.size, 0, none⟩ = some (.slice na nn nc) := HSZ.out.b0
        have b1 : VZ.cell? ⟨w.heap.size, 1, none⟩ = some (.slice ta tn tc) := HSZ.out.b1
        first | refine ⟨⟨b0, b1⟩, ?_⟩ | skip
        have HQ := hideN HSZ.out.q
        have HFN := hideN (drw_fin HSZ.out (show p ≤ _ by omega) (show _ ≤ p + M by omega) HEZ.out HTZ.out)
        have HQ4 := hideN (set4E_blk HQ.out (.int .i64 kz) (.int .i64 nz) (.string sz) (.slice az mz cz))
        have q0 := HQ.out.c0
        have q1 := HQ.out.c1
        have q2 := HQ.out.c2
        have q3 := HQ.out.c3
        have f0 := HQ.out.f 0
        have f1 := HQ.out.f 1
        have f2 := HQ.out.f 2
        have f3 := HQ.out.f 3
        refine oneU (i := 14) (by kernel_rfl) rfl (by rfl) ?_
        simp only [List.getElem_toArray, List.getElem_cons_zero, List.getElem_cons_succ]
        go_simp
        refine doneU (by kernel_rfl) ?_ _
        go_wp2_with fail
        have t0 := HQ4.out.c0
        have t1 := HQ4.out.c1
        have t2 := HQ4.out.c2
        have t3 := HQ4.out.c3
        exact bodyPost_ret (v := .agg #[.int .i64 kz, .int .i64 nz, .string sz, .slice az mz cz]) (by simp [results, Try.results30, go_sem, t0, t1, t2, t3]) rfl HFN.out
      · skip
        go_wp2_with fail
        have HSD := hideN HS2.out.drew
        have b0 : w1.drew.cell? ⟨w.heap.size, 0, none⟩ = some (.slice na nn nc) := HSD.out.b0
        have b1 : w1.drew.cell? ⟨w.heap.size, 1, none⟩ = some (.slice ta tn tc) := HSD.out.b1
        refine region_U (fin := 14) (S := fun V' => V'.cell? ⟨w.heap.size, 0, none⟩ = some (.slice na nn nc) ∧ V'.cell? ⟨w.heap.size, 1, none⟩ = some (.slice ta tn tc)) (by kernel_rfl) ⟨b0, b1⟩ (fun hHeld => ?_)
        clear hHeld
        refine takeU (i := 0) (v := .pointer (some ⟨R, 0, none⟩)) rfl (by rfl) (by kernel_rfl) (by kernel_rfl) (reach_one (by kernel_rfl)) (by kernel_rfl) (by kernel_rfl) (fun _ _ _ h => h) (Or.inl ⟨by rfl, fun w hS => by obtain ⟨b0, b1⟩ := hS; go_simp⟩) ⟨b0, b1⟩ ?_
        simp only [List.getElem_toArray, List.getElem_cons_zero, Act.put, List.setIfInBounds_toArray, List.set_cons_zero, List.set_cons_succ]
        refine takeU (i := 3) (v := .pointer (some ⟨R, 0, none⟩)) rfl (by rfl) (by kernel_rfl) (by kernel_rfl) (reach_one (by kernel_rfl)) (by kernel_rfl) (by kernel_rfl) (fun _ _ _ h => h) (Or.inl ⟨by rfl, fun w hS => by obtain ⟨b0, b1⟩ := hS; go_simp⟩) ⟨b0, b1⟩ ?_
        simp only [List.getElem_toArray, List.getElem_cons_zero, List.getElem_cons_succ, Act.put, List.setIfInBounds_toArray, List.set_cons_zero, List.set_cons_succ]
        refine takeU (i := 4) (v := .int .i64 ((d' : Int) + 1)) rfl (by rfl) (by kernel_rfl) (by kernel_rfl) (reach_one (by kernel_rfl)) (by kernel_rfl) (by kernel_rfl) (fun _ _ _ h => h) (Or.inl ⟨by rfl, fun w hS => by obtain ⟨b0, b1⟩ := hS; go_simp⟩) ⟨b0, b1⟩ ?_
        simp only [List.getElem_toArray, List.getElem_cons_zero, List.getElem_cons_succ, Act.put, List.setIfInBounds_toArray, List.set_cons_zero, List.set_cons_succ]
        refine takeU (i := 5) (v := .int .i64 (d' : Int)) rfl (by rfl) (by kernel_rfl) (by kernel_rfl) (reach_one (by kernel_rfl)) (by kernel_rfl) (by kernel_rfl) (fun _ _ _ h => h) (Or.inl ⟨by rfl, fun w hS => by obtain ⟨b0, b1⟩ := hS; go_simp⟩) ⟨b0, b1⟩ ?_
        simp only [List.getElem_toArray, List.getElem_cons_zero, List.getElem_cons_succ, Act.put, List.setIfInBounds_toArray, List.set_cons_zero, List.set_cons_succ]
        refine takeU (i := 6) (v := .agg #[.slice na nn nc, .slice ta tn tc]) rfl (by rfl) (by kernel_rfl) (by kernel_rfl) (reach_one (by kernel_rfl)) (by kernel_rfl) (by kernel_rfl) (fun _ _ _ h => h) (Or.inl ⟨by rfl, fun w hS => by obtain ⟨b0, b1⟩ := hS; go_simp⟩) ⟨b0, b1⟩ ?_
        simp only [List.getElem_toArray, List.getElem_cons_zero, List.getElem_cons_succ, Act.put, List.setIfInBounds_toArray, List.set_cons_zero, List.set_cons_succ]
        refine takeU (i := 8) (v := .pointer (some ⟨R, 0, none⟩)) rfl (by rfl) (by kernel_rfl) (by kernel_rfl) (reach_one (by kernel_rfl)) (by kernel_rfl) (by kernel_rfl) (fun _ _ _ h => h) (Or.inl ⟨by rfl, fun w hS => by obtain ⟨b0, b1⟩ := hS; go_simp⟩) ⟨b0, b1⟩ ?_
        simp only [List.getElem_toArray, List.getElem_cons_zero, List.getElem_cons_succ, Act.put, List.setIfInBounds_toArray, List.set_cons_zero, List.set_cons_succ]
        refine takeU (i := 9) (v := .int .i64 ((d' : Int) + 1)) rfl (by rfl) (by kernel_rfl) (by kernel_rfl) (reach_one (by kernel_rfl)) (by kernel_rfl) (by kernel_rfl) (fun _ _ _ h => h) (Or.inl ⟨by rfl, fun w hS => by obtain ⟨b0, b1⟩ := hS; go_simp⟩) ⟨b0, b1⟩ ?_
        simp only [List.getElem_toArray, List.getElem_cons_zero, List.getElem_cons_succ, Act.put, List.setIfInBounds_toArray, List.set_cons_zero, List.set_cons_succ]
        refine takeU (i := 10) (v := .int .i64 (d' : Int)) rfl (by rfl) (by kernel_rfl) (by kernel_rfl) (reach_one (by kernel_rfl)) (by kernel_rfl) (by kernel_rfl) (fun _ _ _ h => h) (Or.inl ⟨by rfl, fun w hS => by obtain ⟨b0, b1⟩ := hS; go_simp⟩) ⟨b0, b1⟩ ?_
        simp only [List.getElem_toArray, List.getElem_cons_zero, List.getElem_cons_succ, Act.put, List.setIfInBounds_toArray, List.set_cons_zero, List.set_cons_succ]
        refine takeU (i := 11) (v := .agg #[.slice na nn nc, .slice ta tn tc]) rfl (by rfl) (by kernel_rfl) (by kernel_rfl) (reach_one (by kernel_rfl)) (by kernel_rfl) (by kernel_rfl) (fun _ _ _ h => h) (Or.inl ⟨by rfl, fun w hS => by obtain ⟨b0, b1⟩ := hS; go_simp⟩) ⟨b0, b1⟩ ?_
        simp only [List.getElem_toArray, List.getElem_cons_zero, List.getElem_cons_succ, Act.put, List.setIfInBounds_toArray, List.set_cons_zero, List.set_cons_succ]
        obtain ⟨VA, hVA⟩ : ∃ VA, VA = w1.alloc (.cells #[.string ⟨#[60]⟩, .string ⟨#[61]⟩] 9) := ⟨_, rfl⟩
        have HLC := hideN (show ∀ i, i < 2 → (w1.alloc (.cells #[.string ⟨#[60]⟩, .string ⟨#[61]⟩] 9)).cell? ⟨w1.heap.size, 0 + i, none⟩ = some (.string (([⟨#[60]⟩, ⟨#[61]⟩] : List ByteArray).getD i ⟨#[]⟩)) from litT_cells w1 [⟨#[60]⟩, ⟨#[61]⟩] 9)
        have hbA : Below w1.heap.size w1 VA := by rw [hVA]; exact belOne _ _
        have HSA := hideN (HS2.out.below hbA)
        have HSE := hideN HSA.out.drew
        have HVA := hideN hVA
        rw [← hVA] at HLC
        have HLD := hideN (show ∀ i, i < 2 → VA.drew.cell? ⟨w1.heap.size, 0 + i, none⟩ = some (.string (([⟨#[60]⟩, ⟨#[61]⟩] : List ByteArray).getD i ⟨#[]⟩)) from fun i hi => HLC.out i hi)
        have hszA := HSD.out.room
        have hltA := HSD.out.lt
        clear hVA hbA
        refine oneU (i := 1) (by kernel_rfl) rfl (by rfl) ?_
        simp only [List.getElem_toArray, List.getElem_cons_zero, List.getElem_cons_succ]
        go_simp
        try rw [← HVA.out]
        clear b0 b1
        have b0 : VA.cell? ⟨w.heap.size, 0, none⟩ = some (.slice na nn nc) := HSA.out.b0
        have b1 : VA.cell? ⟨w.heap.size, 1, none⟩ = some (.slice ta tn tc) := HSA.out.b1
        first | refine ⟨⟨b0, b1⟩, ?_⟩ | skip
        refine oneU (i := 2) (by kernel_rfl) rfl (by rfl) ?_
        simp only [List.getElem_toArray, List.getElem_cons_zero, List.getElem_cons_succ]
        go_simp
        refine (ofT_any R v bs (p1 + 1) w1.heap.size 0 2 2 [⟨#[60]⟩, ⟨#[61]⟩] VA.drew HSE.out.rd (by omega) rfl (by decide) (by decide) (by have h9 : w.heap.size + 2 ≤ w1.heap.size := HS2.out.room; omega) HLD.out).mono ?_
        rintro e VO ⟨sg, rfl, hsg, hrd, hg, -⟩
        have HSO := hideN (HSE.out.pick hrd hg)
        have hsz1 : sg.size = 1 := by
          simp at hsg
          rcases hsg with rfl | rfl <;> rfl
        clear hsg hrd hg
        clear b0 b1
        have b0 : VO.cell? ⟨w.heap.size, 0, none⟩ = some (.slice na nn nc) := HSO.out.b0
        have b1 : VO.cell? ⟨w.heap.size, 1, none⟩ = some (.slice ta tn tc) := HSO.out.b1
        first | refine ⟨⟨b0, b1⟩, ?_⟩ | skip
        refine oneU (i := 7) (by kernel_rfl) rfl (by rfl) ?_
        simp only [List.getElem_toArray, List.getElem_cons_zero, List.getElem_cons_succ]
        go_simp
        have hlo16 := HSO.out.room
        refine (HNk.out ((p1 + 1) + 1) VO HSO.out.rd (by omega) HSO.out.sn HSO.out.st HSO.out.alw).mono ?_
        rintro e V16 ⟨T16, u16, p16, rfl, hE, ht16, hp16, hq16, hrd, hg⟩
        have HS16 := hideN (HSO.out.pick hrd hg)
        have HG16 := hideN hg
        have HE16 := hideN (IsE.less hlo16 _ _ hE)
        obtain ⟨k16, n16, s16, a16, m16, c16, rfl⟩ := hE.agg
        clear hrd hg hE
        clear b0 b1
        have b0 : V16.cell? ⟨w.heap.size, 0, none⟩ = some (.slice na nn nc) := HS16.out.b0
        have b1 : V16.cell? ⟨w.heap.size, 1, none⟩ = some (.slice ta tn tc) := HS16.out.b1
        first | refine ⟨⟨b0, b1⟩, ?_⟩ | skip
        refine oneU (i := 12) (by kernel_rfl) rfl (by rfl) ?_
        simp only [List.getElem_toArray, List.getElem_cons_zero, List.getElem_cons_succ]
        go_simp
        have hlo17 := HS16.out.room
        refine (HNk.out p16 V16 HS16.out.rd (by omega) HS16.out.sn HS16.out.st HS16.out.alw).mono ?_
        rintro e V17 ⟨T17, u17, p17, rfl, hE, ht17, hp17, hq17, hrd, hg⟩
        have HS17 := hideN (HS16.out.pick hrd hg)
        have HG17 := hideN hg
        have HE17 := hideN (IsE.less hlo17 _ _ hE)
        obtain ⟨k17, n17, s17, a17, m17, c17, rfl⟩ := hE.agg
        clear hrd hg hE
        have HE16 := hideN (HE16.out.rd HS16.out.lo HG17.out)
        clear b0 b1
        have b0 : V17.cell? ⟨w.heap.size, 0, none⟩ = some (.slice na nn nc) := HS17.out.b0
        have b1 : V17.cell? ⟨w.heap.size, 1, none⟩ = some (.slice ta tn tc) := HS17.out.b1
        first | refine ⟨⟨b0, b1⟩, ?_⟩ | skip
        refine oneU (i := 13) (by kernel_rfl) rfl (by rfl) ?_
        simp only [List.getElem_toArray, List.getElem_cons_zero, List.getElem_cons_succ]
        go_simp
        have hroom := HS17.out.room
        refine (l9Two_any (w.heap.size + 2) sg T16 T17 _ _ V17 (by rw [hsz1]; decide) HE16.out HE17.out hroom).mono ?_
        rintro e VZ ⟨u, rfl, hE, hbZ⟩
        have HSZ := hideN (HS17.out.below hbZ)
        have HEZ := hideN hE
        have HTZ : Hid (totE (.node 6 0 sg [T16, T17]) ≤ M) := by
          show _ ≤ _
          rw [totE, totL, totL, totL]
          simp
          omega
        obtain ⟨kz, nz, sz, az, mz, cz, rfl⟩ := hE.agg
        clear hE hbZ
        clear b0 b1
        have b0 : VZ.cell? ⟨w.heap.size, 0, none⟩ = some (.slice na nn nc) := HSZ.out.b0
        have b1 : VZ.cell? ⟨w.heap.size, 1, none⟩ = some (.slice ta tn tc) := HSZ.out.b1
        first | refine ⟨⟨b0, b1⟩, ?_⟩ | skip
        have HQ := hideN HSZ.out.q
        have HFN := hideN (drw_fin HSZ.out (show p ≤ _ by omega) (show _ ≤ p + M by omega) HEZ.out HTZ.out)
        have HQ4 := hideN (set4E_blk HQ.out (.int .i64 kz) (.int .i64 nz) (.string sz) (.slice az mz cz))
        have q0 := HQ.out.c0
        have q1 := HQ.out.c1
        have q2 := HQ.out.c2
        have q3 := HQ.out.c3
        have f0 := HQ.out.f 0
        have f1 := HQ.out.f 1
        have f2 := HQ.out.f 2
        have f3 := HQ.out.f 3
        refine oneU (i := 14) (by kernel_rfl) rfl (by rfl) ?_
        simp only [List.getElem_toArray, List.getElem_cons_zero, List.getElem_cons_succ]
        go_simp
        refine doneU (by kernel_rfl) ?_ _
        go_wp2_with fail
        have t0 := HQ4.out.c0
        have t1 := HQ4.out.c1
        have t2 := HQ4.out.c2
        have t3 := HQ4.out.c3
        exact bodyPost_ret (v := .agg #[.int .i64 kz, .int .i64 nz, .string sz, .slice az mz cz]) (by simp [results, Try.results30, go_sem, t0, t1, t2, t3]) rfl HFN.out


theorem drw_all : ∀ d : Nat, d ≤ 8 → DrawSays 30 d ∧ DrawSays 32 d := by
  intro d
  induction d with
  | zero => intro h; exact ⟨l13Truth_of 0 h (fun d' e => by omega) (fun d' e => by omega), l13Num_of 0 h (fun d' e => by omega) (fun d' e => by omega)⟩
  | succ d ih =>
    intro h
    obtain ⟨h1, h2⟩ := ih (by omega)
    refine ⟨l13Truth_of (d + 1) h (fun d' e => ?_) (fun d' e => ?_), l13Num_of (d + 1) h (fun d' e => ?_) (fun d' e => ?_)⟩ <;> (obtain rfl : d = d' := by omega) <;> assumption

end Go.Proofs.Ytgjficnpkmemgaa

/-
  Drawn diagrams: rows of nodes of the call's own, as small numbers; l13Bdd.
-/
import Derived.Test.YtknpifjkllcdeaaBdDr
import Derived.Test.YtknpifjkllcdeaaBdS
import Derived.Test.YtknpifjkllcdeaaBdK
namespace Go.Proofs.Ytknpifjkllcdeaa
open Go.RowKit Go.Deep
set_option linter.unusedVariables false

attribute [local go_sem] Oper.semAt_some

def Sm (x : Int) : Prop := -1000 ≤ x ∧ x ≤ 1000
/-- A row of so many nodes of the call's own, all small numbers. -/
def OwnL (w : World) (base : Nat) (v : Value) (n : Nat) : Prop := ∃ L : List Int, L.length = n * 3 ∧ (∀ x ∈ L, Sm x) ∧ w.ownsRow base 50 3 v n (L.map (Value.int .i64))
def SmN (p : Nd) : Prop := Sm p.1 ∧ Sm p.2.1 ∧ Sm p.2.2

theorem nodes_of : ∀ (n : Nat) (L : List Int), L.length = n * 3 → (∀ x ∈ L, Sm x) → ∃ ns : List Nd, ns.length = n ∧ (∀ q ∈ ns, SmN q) ∧ L.map (Value.int .i64) = ndV ns := by
  intro n
  induction n with
  | zero => intro L hl _; exact ⟨[], rfl, by simp, by rw [List.length_eq_zero_iff.1 (by omega : L.length = 0)]; rfl⟩
  | succ n ih =>
    intro L hl hs
    match L, hl, hs with
    | a :: b :: c :: r, hl, hs =>
      obtain ⟨ns, h1, h2, h3⟩ := ih r (by simp at hl; omega) (fun x hx => hs x (by simp [hx]))
      refine ⟨(a, b, c) :: ns, by simp [h1], fun q hq => ?_, ?_⟩
      · rcases List.mem_cons.1 hq with h | h
        · subst h; exact ⟨hs a (by simp), hs b (by simp), hs c (by simp)⟩
        · exact h2 q h
      · simp only [List.map_cons, h3]
        simp [ndV]
    | [], hl, _ => simp at hl
    | [a], hl, _ => simp at hl; omega
    | [a, b], hl, _ => simp at hl; omega

theorem OwnL.nodes {w : World} {base n : Nat} {v : Value} (h : OwnL w base v n) : ∃ ns : List Nd, ns.length = n ∧ (∀ q ∈ ns, SmN q) ∧ w.ownsRow base 50 3 v n (ndV ns) := by
  obtain ⟨L, h1, h2, h3⟩ := h
  obtain ⟨ns, a, b, c⟩ := nodes_of n L h1 h2
  exact ⟨ns, a, b, by rw [← c]; exact h3⟩

theorem flat_of : ∀ (ns : List Nd), ∃ L : List Int, L.length = ns.length * 3 ∧ ndV ns = L.map (Value.int .i64) ∧ ((∀ q ∈ ns, SmN q) → ∀ x ∈ L, Sm x) := by
  intro ns
  induction ns with
  | nil => exact ⟨[], rfl, rfl, fun _ x hx => by simp at hx⟩
  | cons p ns ih =>
    obtain ⟨L, h1, h2, h3⟩ := ih
    refine ⟨p.1 :: p.2.1 :: p.2.2 :: L, by simp [h1]; omega, by simp only [List.map_cons, ← h2]; simp [ndV], fun h x hx => ?_⟩
    have hp := h p (by simp)
    simp only [List.mem_cons] at hx
    rcases hx with rfl | rfl | rfl | hx
    · exact hp.1
    · exact hp.2.1
    · exact hp.2.2
    · exact h3 (fun q hq => h q (by simp [hq])) x hx

theorem ownL_of {w : World} {base n : Nat} {v : Value} {l : List Nd} (h : w.ownsRow base 50 3 v n (ndV l)) (hn : l.length = n) (hs : ∀ q ∈ l, SmN q) : OwnL w base v n := by
  obtain ⟨L, h1, h2, h3⟩ := flat_of l
  exact ⟨L, by rw [h1, hn], h3 hs, by rw [← h2]; exact h⟩

theorem OwnL.of_block {w w' : World} {base n : Nat} {v : Value} (h : OwnL w base v n) (hk : ∀ k, v.ownBlock = some k → w'.heap[k]? = w.heap[k]?) : OwnL w' base v n := by
  obtain ⟨L, h1, h2, h3⟩ := h
  exact ⟨L, h1, h2, row_of_block h3 hk⟩
theorem OwnL.below {w w' : World} {base n : Nat} {v : Value} (h : OwnL w base v n) (hb : Below w.heap.size w w') : OwnL w' base v n := by
  obtain ⟨L, h1, h2, h3⟩ := h
  exact ⟨L, h1, h2, row_below h3 hb⟩
theorem OwnL.blk {w : World} {base n : Nat} {v : Value} (h : OwnL w base v n) : ∀ k, v.ownBlock = some k → base ≤ k ∧ k < w.heap.size := by
  obtain ⟨L, h1, h2, h3⟩ := h
  exact World.ownsRow.lt h3
theorem OwnL.form {w : World} {base n : Nat} {v : Value} (h : OwnL w base v n) : ∃ ao cap, v = .slice ao n cap ∧ n ≤ cap ∧ (0 < n → ∃ g, ao = some ⟨g, 0, none⟩) := by
  obtain ⟨L, h1, h2, h3⟩ := h
  rcases h3.2 with ⟨rfl, h0⟩ | ⟨g, cap, cur, rfl, _, _, hle, _⟩
  · subst h0; exact ⟨none, 0, rfl, Nat.le_refl _, fun h => by omega⟩
  · exact ⟨_, cap, rfl, hle, fun _ => ⟨g, rfl⟩⟩
theorem OwnL.cell {w : World} {base g n cap : Nat} (h : OwnL w base (.slice (some ⟨g, 0, none⟩) n cap) n) {i : Nat} (hi : i < n * 3) : ∃ x : Int, Sm x ∧ w.cell? ⟨g, i, none⟩ = some (.int .i64 x) ∧ w.frozen? ⟨g, i, none⟩ = false := by
  obtain ⟨L, h1, h2, h3⟩ := h
  have t := World.ownsRow.cellAt h3 i hi
  have u : (L.map (Value.int .i64))[i]? = some (.int .i64 (L[i]'(by omega))) := by rw [List.getElem?_map, List.getElem?_eq_getElem (by omega)]; rfl
  rw [u] at t
  refine ⟨_, h2 _ (List.getElem_mem (by omega)), t, ?_⟩
  rcases h3.2 with ⟨h0, _⟩ | ⟨g', cap', cur, hv, _, hh, _⟩
  · cases h0
  · injection hv with f1 f2 f3
    injection f1 with f1
    injection f1 with f1 _ _
    subst f1
    simp [World.frozen?, hh]
theorem OwnL.set {w : World} {base g n cap : Nat} (h : OwnL w base (.slice (some ⟨g, 0, none⟩) n cap) n) {i : Nat} {x : Int} (hx : Sm x) : OwnL (w.setCell ⟨g, i, none⟩ (.int .i64 x)) base (.slice (some ⟨g, 0, none⟩) n cap) n := by
  obtain ⟨L, h1, h2, h3⟩ := h
  rcases h3.2 with ⟨h0, _⟩ | ⟨g', cap', cur, hv, hbase, hh, k1, k2, k3, k4⟩
  · cases h0
  · injection hv with e1 e2 e3
    injection e1 with e1
    injection e1 with e1 _ _
    subst e1 e3
    refine ⟨L.set i x, by simp [h1], fun y hy => ?_, by simp [h1], .inr ⟨g, cap, cur.setIfInBounds i (.int .i64 x), rfl, hbase, by simp [World.setCell, Array.getElem?_modify, hh], k1, k2, by simpa using k3, ?_⟩⟩
    · rcases List.mem_or_eq_of_mem_set hy with h | h
      · exact h2 y h
      · rw [h]; exact hx
    · rw [Array.toList_setIfInBounds, List.take_set, k4, List.map_set]

theorem ownL_keptOld {w w' : World} {base n : Nat} {v : Value} {row : Option Nat} (h : OwnL w base v n) (hg : w.grownBy w' row) (hr : ∀ k, row = some k → k < base) : OwnL w' base v n :=
  h.of_block (fun k e => hg.block k (h.blk k e).2 (fun e2 => by have := hr k e2.symm; have := (h.blk k e).1; omega))

theorem nds_of_own {w : World} {base n cap : Nat} {ao : Option Addr} {ns : List Nd} (h : w.ownsRow base 50 3 (.slice ao n cap) n (ndV ns)) (hn : ns.length = n) : Nds w ao n cap ns := by
  refine ⟨hn, ?_, fun hpos => ?_⟩
  · rcases h.2 with ⟨h0, _⟩ | ⟨g', cap', cur, hv, _, _, hle, _⟩
    · injection h0 with e1 e2 e3; omega
    · injection hv with e1 e2 e3; omega
  · obtain ⟨ao', cap', he, hc⟩ := isNds_row h hn
    injection he with e1 e2 e3
    subst e1
    obtain ⟨b, off, hab, hcc⟩ := hc (by intro e; rw [e] at hn; simp at hn; omega)
    exact ⟨b, off, hab, fun i hi => hcc i (by omega)⟩

/-- A drawn diagram: small numbers, its nodes the call's own. -/
def BddL (R : Nat) (v : Value) (bs : List Int) (p K : Nat) (w : World) (e : Ending) (w' : World) : Prop :=
  ∃ (vi root : Int) (ao : Option Addr) (n cap p' : Nat), e = .returned (.agg #[.int .i64 vi, .slice ao n cap, .int .i64 root]) ∧ (0 ≤ vi ∧ vi ≤ 6) ∧ Sm root ∧ n ≤ 70 ∧ OwnL w' w.heap.size (.slice ao n cap) n ∧ p' ≤ p + K ∧ Rd w' R v bs p' ∧ Old R w.heap.size w w'

theorem draw_small (k : Nat) : ∀ (v : Nat) (t : List Bool) (ns : List Nd), v + k ≤ 6 → ns.length + 2 ^ k ≤ 100 → (∀ q ∈ ns, SmN q) → ∀ q ∈ (drawB k v t ns).1, SmN q := by
  induction k with
  | zero => intro v t ns _ _ h; rw [drawB]; exact h
  | succ k ih =>
    intro v t ns hv hl h
    have hp : 2 ^ (k + 1) = 2 ^ k + 2 ^ k := by rw [Nat.pow_succ]; omega
    obtain ⟨a1, a2, a3, a4⟩ := drawB_len k (v + 1) (t.take (2 ^ k)) ns
    obtain ⟨b1, b2, b3, b4⟩ := drawB_len k (v + 1) (t.drop (2 ^ k)) (drawB k (v + 1) (t.take (2 ^ k)) ns).1
    have hA := ih (v + 1) (t.take (2 ^ k)) ns (by omega) (by omega) h
    have hB := ih (v + 1) (t.drop (2 ^ k)) (drawB k (v + 1) (t.take (2 ^ k)) ns).1 (by omega) (by omega) hA
    rw [drawB]
    generalize drawB k (v + 1) (t.take (2 ^ k)) ns = A at *
    generalize drawB k (v + 1) (t.drop (2 ^ k)) A.1 = B at *
    split
    · exact hB
    · unfold putB
      split
      · exact hB
      · intro q hq
        rcases List.mem_append.1 hq with h1 | h1
        · exact hB q h1
        · rw [List.mem_singleton.1 h1]
          exact ⟨⟨by show (-1000 : Int) ≤ (v : Int); omega, by show (v : Int) ≤ 1000; omega⟩, ⟨by show (-1000 : Int) ≤ A.2; omega, by show A.2 ≤ 1000; omega⟩, ⟨by show (-1000 : Int) ≤ B.2; omega, by show B.2 ≤ 1000; omega⟩⟩

set_option maxRecDepth 100000 in
set_option maxHeartbeats 4000000 in
theorem l13Bdd_any (R : Nat) (v : Value) (bs : List Int) (p : Nat) (w : World) (hr : Rd w R v bs p) (hvb : ∀ ao n cap b off, v = .slice ao n cap → ao = some ⟨b, off, none⟩ → b < w.heap.size) (hp : p ≤ 400000) :
    Calls Try.prog 111 #[.pointer (some ⟨R, 0, none⟩)] w (BddL R v bs p 200 w) := by
  have hRlt := hr.lt
  obtain ⟨W1, hW1⟩ : ∃ W1, W1 = w.alloc (.cells #[.int .i64 0, .slice none 0 0, .int .i64 0] 25) := ⟨_, rfl⟩
  have HR1 : Hid (Rd W1 R v bs p) := by rw [hW1]; exact hr.grown (World.grownBy_alloc w _ none) (by simp) (by simp)
  have HD1 : Hid (Old R w.heap.size w W1) := by rw [hW1]; exact (Old.refl R w.heap.size w).below (belOne _ _) (Nat.le_refl _)
  have HQ1 : Hid (BlkD W1 w.heap.size (.int .i64 0) (.slice none 0 0) (.int .i64 0)) := by rw [hW1]; exact BlkD.new _ _ _ _
  have hVB : ∀ V, Old R w.heap.size w V → ∀ ao n cap b off, v = .slice ao n cap → ao = some ⟨b, off, none⟩ → b < V.heap.size := fun V hV ao n cap b off h1 h2 => Nat.lt_of_lt_of_le (hvb ao n cap b off h1 h2) hV.size
  have HVB := hideN hVB
  have HV0 := hideN hvb
  have HW1 := hideN hW1
  -- what is left once the variables are chosen
  have HT : Hid (∀ (vars pp : Nat) (V : World), vars ≤ 6 → pp ≤ p + 3 → Rd V R v bs pp → Old R w.heap.size w V → Calls Try.prog 79 #[.pointer (some ⟨R, 0, none⟩), .int .i64 (vars : Int)] V (TablePost (2 ^ vars) R v bs pp V)) := fun vars pp V h1 h2 h3 h4 => l13Table_any R v bs pp vars V h3 (hVB V h4) (by omega) h1
  clear hr hvb hVB hW1
  go_enter Try.func111, Try.ntmps111
  go_wp2_with fail
  rw [← HW1.out]
  refine (pick_any R v bs p _ _ HR1.out (by omega) (by omega)).mono ?_
  rintro e w2 ⟨x, rfl, hx0, hx1, hx2, hrd2, hg2, hs2⟩
  have hx7 : x < 7 := hx1 (by omega)
  have HR2 := hideN hrd2
  have HD2 : Hid (Old R w.heap.size w w2) := HD1.out.grown hg2 HD1.out.size (fun q e => .inr (Option.some.inj e).symm)
  have HQ2 : Hid (BlkD w2 w.heap.size (.int .i64 0) (.slice none 0 0) (.int .i64 0)) := (hg2.block _ HQ1.out.lt (fun e => by have := Option.some.inj e; omega)).trans HQ1.out
  clear hrd2 hg2 hx1 hx2 hs2
  go_wp2_with fail
  refine (pick_any R v bs (p + 1) _ _ HR2.out (by omega) (by omega)).mono ?_
  rintro e w3 ⟨y, rfl, hy0, hy1, hy2, hrd3, hg3, hs3⟩
  have HR3 := hideN hrd3
  have HD3 : Hid (Old R w.heap.size w w3) := HD2.out.grown hg3 HD2.out.size (fun q e => .inr (Option.some.inj e).symm)
  have HQ3 : Hid (BlkD w3 w.heap.size (.int .i64 0) (.slice none 0 0) (.int .i64 0)) := (hg3.block _ HQ2.out.lt (fun e => by have := Option.some.inj e; omega)).trans HQ2.out
  clear hrd3 hg3 hy1 hy2 hs3 HR1 HD1 HQ1 HR2 HD2 HQ2
  by_cases hyp : 0 < y
  · go_wp2_with fail
    refine (pick_any R v bs (p + 1 + 1) _ _ HR3.out (by omega) (by omega)).mono ?_
    rintro e w4 ⟨z, rfl, hz0, hz1, hz2, hrd4, hg4, hs4⟩
    have hz4 : z < 4 := hz1 (by omega)
    obtain ⟨vars, hvv⟩ : ∃ vars : Nat, 1 + z = (vars : Int) := ⟨(1 + z).toNat, by omega⟩
    have hv6 : vars ≤ 6 := by omega
    have hzz : z = (vars : Int) - 1 := by omega
    subst hzz
    have HR4 := hideN hrd4
    have HD4 : Hid (Old R w.heap.size w w4) := HD3.out.grown hg4 HD3.out.size (fun q e => .inr (Option.some.inj e).symm)
    have HQ4 : Hid (BlkD w4 w.heap.size (.int .i64 0) (.slice none 0 0) (.int .i64 0)) := (hg4.block _ HQ3.out.lt (fun e => by have := Option.some.inj e; omega)).trans HQ3.out
    clear hrd4 hg4 hz1 hz2 hs4 HR3 HD3 HQ3
    go_wp2_with fail
    try rw [hvv]
    refine (HT.out vars (p + 1 + 1 + 1) w4 hv6 (by omega) HR4.out HD4.out).mono ?_
    rintro e w5 ⟨g, cp, ms, p', rfl, hml, how, hp', hrd5, hold5⟩
    have HML := hideN hml
    have hgl := (how.blk g rfl)
    have HTAB : Hid (Tab w5 g 0 cp ms) := by
      have h0 : 0 < ms.length := by rw [hml]; exact Nat.pow_pos (by decide)
      exact ⟨(ownb_cell how h0).2.2, fun i hi => by rw [Nat.zero_add]; exact (ownb_cell how hi).1⟩
    have HR5 := hideN hrd5
    have HD5 : Hid (Old R w.heap.size w w5) := HD4.out.trans ⟨hold5.1, hold5.2.1, hold5.2.2.1, hold5.2.2.2.1, fun k hk hne => hold5.2.2.2.2 k (by have := HD4.out.size; omega) hne⟩
    have HQ5 : Hid (BlkD w5 w.heap.size (.int .i64 0) (.slice none 0 0) (.int .i64 0)) := (hold5.2.2.2.2 _ HQ4.out.lt (by omega)).trans HQ4.out
    have hgl5 := hgl.2
    clear how hgl hrd5 hold5 hml HR4 HD4 HQ4
    go_wp2_with fail
    refine (l11Of_any vars g 0 cp (2 ^ vars) ms w5 hv6 HML.out rfl HTAB.out hgl5).mono ?_
    rintro e w6 ⟨aa, n6, c6, rfl, hn6, hr6, hb6⟩
    have hdl := drawB_len vars 0 ms []
    have hp64 : 2 ^ vars ≤ 64 := by show _ ≤ 2 ^ 6; exact Nat.pow_le_pow_right (by decide) hv6
    have hnl : (drawB vars 0 ms []).1.length ≤ 64 := by simp only [List.length_nil] at hdl; omega
    have hxx : 0 ≤ (drawB vars 0 ms []).2 ∧ (drawB vars 0 ms []).2 ≤ 65 := by omega
    have HOL : Hid (OwnL w6 w5.heap.size (.slice aa n6 c6) n6) := ownL_of hr6 hn6 (draw_small vars 0 ms [] (by omega) (by simp only [List.length_nil]; omega) (by simp))
    have hn64 : n6 ≤ 64 := by rw [← hn6]; exact hnl
    have HR6 : Hid (Rd w6 R v bs p') := HR5.out.grown (row := none) ⟨hb6.os, hb6.tape, hb6.output, hb6.size, fun k hk _ => hb6.block k hk⟩ (by simp) (by simp)
    have HD6 : Hid (Old R w.heap.size w w6) := HD5.out.below hb6 HD5.out.size
    have HQ6 := hideN (HQ5.out.below hb6)
    have hs5 : w.heap.size < w5.heap.size := HQ5.out.lt
    generalize (drawB vars 0 ms []).2 = rr at *
    clear hr6 hb6 hdl hnl hn6
    have m0 := HQ6.out.c0
    have m1 := HQ6.out.c1
    have m2 := HQ6.out.c2
    have m3 := HQ6.out.f 0
    have m4 := HQ6.out.f 1
    have m5 := HQ6.out.f 2
    have m6 := HQ6.out.lt
    have HQ7 := hideN (HQ6.out.set (.int .i64 (vars : Int)) (.slice aa n6 c6) (.int .i64 rr))
    have hgr : w6.grownBy (set3 w6 w.heap.size (.int .i64 (vars : Int)) (.slice aa n6 c6) (.int .i64 rr)) (some w.heap.size) := ⟨rfl, rfl, rfl, by simp [set3, World.setCell], fun k hk hne => set3_other _ _ _ (fun e => hne (by rw [e]))⟩
    have HOL7 : Hid (OwnL (set3 w6 w.heap.size (.int .i64 (vars : Int)) (.slice aa n6 c6) (.int .i64 rr)) w.heap.size (.slice aa n6 c6) n6) := by
      obtain ⟨L, a1, a2, a3⟩ := HOL.out
      exact ⟨L, a1, a2, row_base (row_of_block a3 (fun k e => hgr.block k (World.ownsRow.lt a3 k e).2 (fun e2 => by have := Option.some.inj e2; have := (World.ownsRow.lt a3 k e).1; omega))) (by omega)⟩
    have HR7 : Hid (Rd (set3 w6 w.heap.size (.int .i64 (vars : Int)) (.slice aa n6 c6) (.int .i64 rr)) R v bs p') := HR6.out.grown hgr (fun e => by have := Option.some.inj e; omega) (fun ao n cap b off h1 h2 e => by have := Option.some.inj e; have := HV0.out ao n cap b off h1 h2; omega)
    have HD7 : Hid (Old R w.heap.size w (set3 w6 w.heap.size (.int .i64 (vars : Int)) (.slice aa n6 c6) (.int .i64 rr))) := HD6.out.grown hgr HD6.out.size (fun q e => .inl (by have := Option.some.inj e; omega))
    clear hgr
    go_wp2
    have u0 := HQ7.out.c0
    have u1 := HQ7.out.c1
    have u2 := HQ7.out.c2
    unfold set3 at u0 u1 u2
    exact bodyPost_ret (v := .agg #[.int .i64 (vars : Int), .slice aa n6 c6, .int .i64 rr]) (by simp [results, Try.results111, go_sem, u0, u1, u2]) rfl ⟨_, rr, aa, n6, c6, p', rfl, ⟨by omega, by omega⟩, ⟨by omega, by omega⟩, by omega, HOL7.out, by omega, HR7.out, HD7.out⟩
  · obtain ⟨vars, rfl⟩ : ∃ vars : Nat, x = (vars : Int) := ⟨x.toNat, by omega⟩
    have hv6 : vars ≤ 6 := by omega
    go_wp2_with fail
    refine (HT.out vars (p + 1 + 1) w3 hv6 (by omega) HR3.out HD3.out).mono ?_
    rintro e w5 ⟨g, cp, ms, p', rfl, hml, how, hp', hrd5, hold5⟩
    have HML := hideN hml
    have hgl := (how.blk g rfl)
    have HTAB : Hid (Tab w5 g 0 cp ms) := by
      have h0 : 0 < ms.length := by rw [hml]; exact Nat.pow_pos (by decide)
      exact ⟨(ownb_cell how h0).2.2, fun i hi => by rw [Nat.zero_add]; exact (ownb_cell how hi).1⟩
    have HR5 := hideN hrd5
    have HD5 : Hid (Old R w.heap.size w w5) := HD3.out.trans ⟨hold5.1, hold5.2.1, hold5.2.2.1, hold5.2.2.2.1, fun k hk hne => hold5.2.2.2.2 k (by have := HD3.out.size; omega) hne⟩
    have HQ5 : Hid (BlkD w5 w.heap.size (.int .i64 0) (.slice none 0 0) (.int .i64 0)) := (hold5.2.2.2.2 _ HQ3.out.lt (by omega)).trans HQ3.out
    have hgl5 := hgl.2
    clear how hgl hrd5 hold5 hml HR3 HD3 HQ3
    go_wp2_with fail
    refine (l11Of_any vars g 0 cp (2 ^ vars) ms w5 hv6 HML.out rfl HTAB.out hgl5).mono ?_
    rintro e w6 ⟨aa, n6, c6, rfl, hn6, hr6, hb6⟩
    have hdl := drawB_len vars 0 ms []
    have hp64 : 2 ^ vars ≤ 64 := by show _ ≤ 2 ^ 6; exact Nat.pow_le_pow_right (by decide) hv6
    have hnl : (drawB vars 0 ms []).1.length ≤ 64 := by simp only [List.length_nil] at hdl; omega
    have hxx : 0 ≤ (drawB vars 0 ms []).2 ∧ (drawB vars 0 ms []).2 ≤ 65 := by omega
    have HOL : Hid (OwnL w6 w5.heap.size (.slice aa n6 c6) n6) := ownL_of hr6 hn6 (draw_small vars 0 ms [] (by omega) (by simp only [List.length_nil]; omega) (by simp))
    have hn64 : n6 ≤ 64 := by rw [← hn6]; exact hnl
    have HR6 : Hid (Rd w6 R v bs p') := HR5.out.grown (row := none) ⟨hb6.os, hb6.tape, hb6.output, hb6.size, fun k hk _ => hb6.block k hk⟩ (by simp) (by simp)
    have HD6 : Hid (Old R w.heap.size w w6) := HD5.out.below hb6 HD5.out.size
    have HQ6 := hideN (HQ5.out.below hb6)
    have hs5 : w.heap.size < w5.heap.size := HQ5.out.lt
    generalize (drawB vars 0 ms []).2 = rr at *
    clear hr6 hb6 hdl hnl hn6
    have m0 := HQ6.out.c0
    have m1 := HQ6.out.c1
    have m2 := HQ6.out.c2
    have m3 := HQ6.out.f 0
    have m4 := HQ6.out.f 1
    have m5 := HQ6.out.f 2
    have m6 := HQ6.out.lt
    have HQ7 := hideN (HQ6.out.set (.int .i64 (vars : Int)) (.slice aa n6 c6) (.int .i64 rr))
    have hgr : w6.grownBy (set3 w6 w.heap.size (.int .i64 (vars : Int)) (.slice aa n6 c6) (.int .i64 rr)) (some w.heap.size) := ⟨rfl, rfl, rfl, by simp [set3, World.setCell], fun k hk hne => set3_other _ _ _ (fun e => hne (by rw [e]))⟩
    have HOL7 : Hid (OwnL (set3 w6 w.heap.size (.int .i64 (vars : Int)) (.slice aa n6 c6) (.int .i64 rr)) w.heap.size (.slice aa n6 c6) n6) := by
      obtain ⟨L, a1, a2, a3⟩ := HOL.out
      exact ⟨L, a1, a2, row_base (row_of_block a3 (fun k e => hgr.block k (World.ownsRow.lt a3 k e).2 (fun e2 => by have := Option.some.inj e2; have := (World.ownsRow.lt a3 k e).1; omega))) (by omega)⟩
    have HR7 : Hid (Rd (set3 w6 w.heap.size (.int .i64 (vars : Int)) (.slice aa n6 c6) (.int .i64 rr)) R v bs p') := HR6.out.grown hgr (fun e => by have := Option.some.inj e; omega) (fun ao n cap b off h1 h2 e => by have := Option.some.inj e; have := HV0.out ao n cap b off h1 h2; omega)
    have HD7 : Hid (Old R w.heap.size w (set3 w6 w.heap.size (.int .i64 (vars : Int)) (.slice aa n6 c6) (.int .i64 rr))) := HD6.out.grown hgr HD6.out.size (fun q e => .inl (by have := Option.some.inj e; omega))
    clear hgr
    go_wp2
    have u0 := HQ7.out.c0
    have u1 := HQ7.out.c1
    have u2 := HQ7.out.c2
    unfold set3 at u0 u1 u2
    exact bodyPost_ret (v := .agg #[.int .i64 (vars : Int), .slice aa n6 c6, .int .i64 rr]) (by simp [results, Try.results111, go_sem, u0, u1, u2]) rfl ⟨_, rr, aa, n6, c6, p', rfl, ⟨by omega, by omega⟩, ⟨by omega, by omega⟩, by omega, HOL7.out, by omega, HR7.out, HD7.out⟩

end Go.Proofs.Ytknpifjkllcdeaa

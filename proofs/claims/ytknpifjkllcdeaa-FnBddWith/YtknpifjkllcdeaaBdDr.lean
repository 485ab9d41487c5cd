/-
  Drawn tables and diagrams: rows of nodes as small numbers; l13Table.
-/
import Derived.Test.YtknpifjkllcdeaaRdrA
import Derived.Test.YtknpifjkllcdeaaBdO
import Derived.Test.YtknpifjkllcdeaaBdG
import Derived.Test.YtknpifjkllcdeaaBdNp
namespace Go.Proofs.Ytknpifjkllcdeaa
open Go.RowKit Go.Deep
set_option linter.unusedVariables false

attribute [local go_sem] Oper.semAt_some

theorem ownb_keptOld {w w' : World} {base : Nat} {v : Value} {ms : List Bool} {row : Option Nat} (h : Ownb w base v ms) (hg : w.grownBy w' row) (hr : ∀ k, row = some k → k < base) : Ownb w' base v ms :=
  row_of_block h (fun k e => hg.block k (World.ownsRow.lt h k e).2 (fun e2 => by have := hr k e2.symm; have := (World.ownsRow.lt h k e).1; omega))
theorem ownb_snoc {w : World} {base g cap : Nat} {ms : List Bool} {b : Bool} (h : w.ownsRow base 4 1 (.slice (some ⟨g, 0, none⟩) (ms.length + 1) cap) (ms.length + 1) (ms.map Value.bool ++ [.bool b])) : Ownb w base (.slice (some ⟨g, 0, none⟩) (ms.length + 1) cap) (ms ++ [b]) := by
  unfold Ownb
  rw [List.length_append, List.map_append]
  exact h
theorem bool_one (b : Bool) : ∀ u ∈ [Value.bool b], u.oneCell' = true := by intro u hu; simp at hu; subst hu; rfl

theorem ownb_set {w : World} {base g n cap : Nat} {zs : List Bool} (h : Ownb w base (.slice (some ⟨g, 0, none⟩) n cap) zs) (i : Nat) (hi : i < zs.length) (b : Bool) : Ownb (w.setCell ⟨g, i, none⟩ (.bool b)) base (.slice (some ⟨g, 0, none⟩) n cap) (zs.set i b) := by
  rcases h.2 with ⟨h0, _⟩ | ⟨g', cap', cur, hv, hbase, hh, h1, h2, h3, h4⟩
  · cases h0
  · injection hv with e1 e2 e3
    injection e1 with e1
    injection e1 with e1 _ _
    subst e1 e3
    refine ⟨by simp, .inr ⟨g, cap, cur.setIfInBounds i (.bool b), by rw [List.length_set, e2], hbase, by simp [World.setCell, Array.getElem?_modify, hh], by simpa using h1, h2, by simpa using h3, ?_⟩⟩
    rw [List.length_set, Array.toList_setIfInBounds, List.take_set, h4, List.map_set]

theorem ownb_cell {w : World} {base g n cap : Nat} {zs : List Bool} (h : Ownb w base (.slice (some ⟨g, 0, none⟩) n cap) zs) {i : Nat} (hi : i < zs.length) : w.cell? ⟨g, i, none⟩ = some (.bool (zs.getD i false)) ∧ w.frozen? ⟨g, i, none⟩ = false ∧ zs.length ≤ cap := by
  obtain ⟨ao', cap', he, hc⟩ := h.isBits
  injection he with e1 e2 e3
  obtain ⟨b, off, hab, hcc⟩ := hc (by intro e; rw [e] at hi; simp at hi)
  rw [← e1] at hab
  injection hab with hab
  injection hab with h1 h2 _
  subst h1 h2
  have hx := hcc i hi
  rw [Nat.zero_add] at hx
  rcases h.2 with ⟨h0, _⟩ | ⟨g', cap', cur, hv, hbase, hh, h1, h2, h3, h4⟩
  · cases h0
  · injection hv with f1 f2 f3
    injection f1 with f1
    injection f1 with f1 _ _
    subst f1 f3
    exact ⟨hx, by simp [World.frozen?, hh], h1⟩

def TablePost (M : Nat) (R : Nat) (v : Value) (bs : List Int) (p : Nat) (w : World) (e : Ending) (w' : World) : Prop :=
  ∃ g cap ms p', e = .returned (.slice (some ⟨g, 0, none⟩) M cap) ∧ ms.length = M ∧ Ownb w' w.heap.size (.slice (some ⟨g, 0, none⟩) M cap) ms ∧ p' ≤ p + 100 ∧ Rd w' R v bs p' ∧ Old R w.heap.size w w'

set_option maxRecDepth 100000 in
set_option maxHeartbeats 4000000 in
theorem l13Table_any (R : Nat) (v : Value) (bs : List Int) (p vars : Nat) (w : World) (hr : Rd w R v bs p) (hvb : ∀ ao n cap b off, v = .slice ao n cap → ao = some ⟨b, off, none⟩ → b < w.heap.size) (hp : p ≤ 500000) (h6 : vars ≤ 6) :
    Calls Try.prog 79 #[.pointer (some ⟨R, 0, none⟩), .int .i64 (vars : Int)] w (TablePost (2 ^ vars) R v bs p w) := by
  have hRlt := hr.lt
  have HVB : Hid (∀ ao n cap b off, v = .slice ao n cap → ao = some ⟨b, off, none⟩ → b < w.heap.size) := hvb
  have HR0 : Hid (Rd (w.alloc (.cells #[] 4)) R v bs p) := hr.grown (World.grownBy_alloc w _ none) (by simp) (by simp)
  have HO0 : Hid (Ownb (w.alloc (.cells #[] 4)) w.heap.size (.slice (some ⟨w.heap.size, 0, none⟩) 0 0) []) := ownb_empty w
  have HD0 : Hid (Old R w.heap.size w (w.alloc (.cells #[] 4))) := (Old.refl R w.heap.size w).below (belOne _ _) (Nat.le_refl _)
  have HLS := hideN (fun W => l11Size_any vars W h6)
  obtain ⟨i0, hi, hz0, hz1, hz2⟩ := info_parts info_bool
  obtain ⟨M, hM⟩ : ∃ M, 2 ^ vars = M := ⟨_, rfl⟩
  have hM64 : M ≤ 64 := by rw [← hM]; show _ ≤ 2 ^ 6; exact Nat.pow_le_pow_right (by decide) h6
  have hM1 : 1 ≤ M := by rw [← hM]; exact Nat.one_le_two_pow
  rw [hM] at HLS ⊢
  have hrl : ∀ i : Nat, i % (1 + M / 2) < M := fun i => Nat.lt_of_lt_of_le (Nat.mod_lt _ (by omega)) (by omega)
  have HRL := hideN hrl
  clear hr hvb hM hrl
  go_enter Try.func79, Try.ntmps79
  go_wp2_with fail
  refine (HLS.out _).mono ?_
  rintro e w1 ⟨rfl, rfl⟩
  go_wp2_with fail
  go_loopw [5, 6] (fun o m wr => ∃ (ao : Option Addr) (cap : Nat) (ms : List Bool) (k p' : Nat), o = .slice ao ms.length cap ∧ m = .int .i64 (k : Int) ∧ ms.length + k = M ∧ p' ≤ p + ms.length ∧ Ownb wr w.heap.size (.slice ao ms.length cap) ms ∧ Rd wr R v bs p' ∧ Old R w.heap.size w wr) (fun _ m _ => (intOf m).toNat)
  case atStart => exact ⟨_, 0, [], M, p, rfl, rfl, by simp, by simp, HO0.out, HR0.out, HD0.out⟩
  case round =>
    obtain ⟨ao, cap, ms, k, p', rfl, rfl, hlen, hp', hown, hrd, hold⟩ := hrel
    have HO : Hid (Ownb wr w.heap.size (.slice ao ms.length cap) ms) := hown
    have HRD : Hid (Rd wr R v bs p') := hrd
    have HD : Hid (Old R w.heap.size w wr) := hold
    have hsz := hold.size
    clear hown hrd hold
    by_cases hk : 0 < k
    · have hki : (0 : Int) < (k : Int) := by omega
      go_wp2_with fail
      refine (pick_any R v bs p' _ _ HRD.out (by omega) (by omega)).mono ?_
      rintro e w2 ⟨x, rfl, hx0, hx1, hx2, hrd2, hg2, hs2⟩
      have HR2 : Hid (Rd w2 R v bs (p' + 1)) := hrd2
      have HO2 : Hid (Ownb w2 w.heap.size (.slice ao ms.length cap) ms) := ownb_keptOld HO.out hg2 (fun k e => by have := Option.some.inj e; omega)
      have HD2 : Hid (Old R w.heap.size w w2) := HD.out.grown hg2 hsz (fun q e => .inr (Option.some.inj e).symm)
      have hsz2 : w.heap.size ≤ w2.heap.size := by omega
      clear hrd2 hg2 hx1 hx2 hs2
      generalize hB : (x == 0) = bb
      have HBB : Hid ((x == 0) = bb) := hB
      go_wp2_with (at_builtin; refine wpList_append_lies _ rfl _ _ 22 rfl w.heap.size 4 i0 (.bool false) 1 1 Try.underlying22 hi hz0 hz1 hz2 rfl (by decide) _ ms.length (ms.map Value.bool) rfl (World.ownsRow.alloc HO2.out _) ⟨w2.heap.size, 0, none⟩ 1 1 [.bool bb] rfl rfl (news1G _ _ _) (bool_one _) (by decide) (by unfold maxLen; omega) (by omega) (by simp; omega) _ rfl ?_; intro g gcap w4 hown4 hgrow4 hat4 hlt4)
      have HOF : Hid (Ownb w4 w.heap.size (.slice (some ⟨g, 0, none⟩) (ms.length + 1) gcap) (ms ++ [bb])) := ownb_snoc hown4
      have HRF : Hid (Rd w4 R v bs (p' + 1)) := (HR2.out.grown (World.grownBy_alloc w2 _ none) (by simp) (by simp)).own hgrow4 hRlt HVB.out (fun q e => (World.ownsRow.lt HO2.out q e).1)
      have HDF : Hid (Old R w.heap.size w w4) := (HD2.out.below (belOne _ _) hsz2).grown hgrow4 (by simp; omega) (fun q e => .inl (World.ownsRow.lt HO2.out q e).1)
      have hkk : (k : Int) - 1 = ((k - 1 : Nat) : Int) := by omega
      clear hown4 hgrow4 hat4 hlt4
      go_wp2
      go_roundw
      case rel => exact ⟨some ⟨g, 0, none⟩, gcap, ms ++ [bb], k - 1, p' + 1, by simp, by rw [hkk], by simp; omega, by simp; omega, by rw [List.length_append]; exact HOF.out, HRF.out, HDF.out⟩
      case measure => simp [intOf]; omega
    · have hki : ¬ (0 : Int) < (k : Int) := by omega
      have hml : ms.length = M := by omega
      obtain ⟨g, cap2, hv, hgb, hgl⟩ := HO.out.cons_form (by omega)
      injection hv with e1 e2 e3
      subst e1 e3
      rw [hml] at HO ⊢
      clear hk hlen e2
      go_wp2_with fail
      refine (pick_any R v bs p' _ _ HRD.out (by omega) (by omega)).mono ?_
      rintro e w2 ⟨x, rfl, hx0, hx1, hx2, hrd2, hg2, hs2⟩
      have HR2 : Hid (Rd w2 R v bs (p' + 1)) := hrd2
      have HO2 : Hid (Ownb w2 w.heap.size (.slice (some ⟨g, 0, none⟩) M cap) ms) := ownb_keptOld HO.out hg2 (fun k e => by have := Option.some.inj e; omega)
      have HD2 : Hid (Old R w.heap.size w w2) := HD.out.grown hg2 hsz (fun q e => .inr (Option.some.inj e).symm)
      have HML := hideN hml
      clear hrd2 hg2 hx1 hx2 hs2
      by_cases hx : x = 0
      · subst hx
        go_wp2_with fail
        go_loopw [7] (fun i wr => ∃ (j : Nat) (zs : List Bool), j ≤ M ∧ i = .int .i64 (j : Int) ∧ Hid (zs.length = M) ∧ Hid (Ownb wr w.heap.size (.slice (some ⟨g, 0, none⟩) M cap) zs) ∧ Hid (Rd wr R v bs (p' + 1)) ∧ Hid (Old R w.heap.size w wr)) (fun i _ => M - (intOf i).toNat)
        case atStart => exact ⟨0, ms, Nat.zero_le _, rfl, HML, HO2, HR2, HD2⟩
        case round =>
          obtain ⟨j, zs, hj, rfl, hzl, hoz, hrz, hdz⟩ := hrel
          by_cases hjM : j < M
          · obtain ⟨c1, f1, l1⟩ := ownb_cell hoz.out (i := j) (by rw [hzl.out]; exact hjM)
            obtain ⟨c2, f2, l2⟩ := ownb_cell hoz.out (i := j % (1 + M / 2)) (by rw [hzl.out]; exact HRL.out j)
            have hjK := HRL.out j
            have hjP : 0 ≤ (j : Int) % (1 + (M : Int) / 2) ∧ (j : Int) % (1 + (M : Int) / 2) < (M : Int) := ⟨Int.emod_nonneg _ (by omega), Int.lt_of_lt_of_le (Int.emod_lt_of_pos (j : Int) (show 0 < 1 + (M : Int) / 2 by omega)) (by omega)⟩
            have hjI : ¬ ((M : Int) ≤ ((j % (1 + M / 2) : Nat) : Int)) := by omega
            have hjI2 : ((j % (1 + M / 2) : Nat) : Int) < (M : Int) := by omega
            have HOS : Hid (Ownb (wr.setCell ⟨g, j, none⟩ (.bool (zs.getD (j % (1 + M / 2)) false))) w.heap.size (.slice (some ⟨g, 0, none⟩) M cap) (zs.set j (zs.getD (j % (1 + M / 2)) false))) := ownb_set hoz.out j (by rw [hzl.out]; exact hjM) _
            have hgw : wr.grownBy (wr.setCell ⟨g, j, none⟩ (.bool (zs.getD (j % (1 + M / 2)) false))) (some g) := ⟨rfl, rfl, rfl, by simp [World.setCell], fun k hk hne => Below.heap_setCell wr _ _ k (fun e => hne (by rw [e]))⟩
            have HRS : Hid (Rd (wr.setCell ⟨g, j, none⟩ (.bool (zs.getD (j % (1 + M / 2)) false))) R v bs (p' + 1)) := hrz.out.own hgw hRlt HVB.out (fun q e => by have := Option.some.inj e; omega)
            have HDS : Hid (Old R w.heap.size w (wr.setCell ⟨g, j, none⟩ (.bool (zs.getD (j % (1 + M / 2)) false)))) := hdz.out.grown hgw hdz.out.size (fun q e => .inl (by have := Option.some.inj e; omega))
            have HZS : Hid ((zs.set j (zs.getD (j % (1 + M / 2)) false)).length = M) := by show _ = _; rw [List.length_set]; exact hzl.out
            generalize zs.getD (j % (1 + M / 2)) false = y at *
            clear hgw l1 l2
            go_wp2
            go_roundw
            case rel => exact ⟨j + 1, _, by omega, by go_num, HZS, HOS, HRS, HDS⟩
            case measure => simp [intOf]; omega
          · obtain rfl : j = M := by omega
            go_wp2_with fail
            go_ret
            exact ⟨g, cap, zs, p' + 1, rfl, hzl.out, hoz.out, by omega, hrz.out, hdz.out⟩
      · go_wp2_with fail
        go_ret
        exact ⟨g, cap, ms, p' + 1, rfl, HML.out, HO2.out, by omega, HR2.out, HD2.out⟩

end Go.Proofs.Ytknpifjkllcdeaa

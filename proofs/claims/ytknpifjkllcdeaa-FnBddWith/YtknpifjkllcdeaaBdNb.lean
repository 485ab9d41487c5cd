/-
  The variables that matter: BddNeeds, of the model.
-/
import Derived.Test.YtknpifjkllcdeaaBdNa
import Derived.Test.YtknpifjkllcdeaaRowI
import Derived.Test.YtknpifjkllcdeaaBdV
import Derived.Test.YtknpifjkllcdeaaBdI
namespace Go.Proofs.Ytknpifjkllcdeaa
open Go.RowKit Go.Deep
set_option linter.unusedVariables false

attribute [local go_sem] Oper.semAt_some

/-- The variables that matter; of what is no diagram in its form, none. -/
def needsZ (vi : Int) (ns : List Nd) (root : Int) : List Int := if bddB vi ns root = true then needsL vi.toNat ns else []

theorem needsZ_le (vi : Int) (ns : List Nd) (root : Int) : (needsZ vi ns root).length ≤ 64 := by
  unfold needsZ
  split
  · rename_i h
    obtain ⟨vars, rfl, h6, -⟩ := bdd_split h
    have := needsL_le vars ns
    rw [Int.toNat_natCast]
    omega
  · simp

/-- An answer of numbers that owns its memory. -/
def IntsPost (L : List Int) (w : World) (e : Ending) (w' : World) : Prop :=
  ∃ ao cap, e = .returned (.slice ao L.length cap) ∧ Owni w' w.heap.size (.slice ao L.length cap) L ∧ Below w.heap.size w w'

theorem any_at {ns : List Nd} {j n : Nat} {x : Int} (hn : ns.length = n) (hj : j < n) (hx : (ns.getD j (0, 0, 0)).1 = x) : ns.any (fun p => decide (p.1 = x)) = true := by
  rw [List.any_eq_true]
  refine ⟨ns.getD j (0, 0, 0), getD_mem_nd2 (by omega), decide_eq_true hx⟩

theorem any_none {ns : List Nd} {n : Nat} {x : Int} (hn : ns.length = n) (h : ∀ q, q < n → (ns.getD q (0, 0, 0)).1 ≠ x) : ns.any (fun p => decide (p.1 = x)) = false := by
  rw [List.any_eq_false]
  intro p hp
  obtain ⟨i, hi, e⟩ := List.mem_iff_getElem.1 hp
  have := h i (by omega)
  rw [List.getD, List.getElem?_eq_getElem hi, e] at this
  simpa using this

set_option maxRecDepth 100000 in
set_option maxHeartbeats 8000000 in
theorem specBddNeeds_any (vi root : Int) (ao : Option Addr) (n cap : Nat) (ns : List Nd) (w : World) (hN : Nds w ao n cap ns) (h64 : ∀ q ∈ ns, I64N q) (hr : I64 root) (hnl : n ≤ 4194304) :
    Calls Try.prog 28 #[.agg #[.int .i64 vi, .slice ao n cap, .int .i64 root]] w (IntsPost (needsZ vi ns root) w) := by
  obtain ⟨W1, hW1⟩ : ∃ W1, W1 = (w.alloc (.cells #[.int .i64 vi, .slice ao n cap, .int .i64 root] 25)).alloc (.cells #[] 3) := ⟨_, rfl⟩
  have HB1 : Hid (Below w.heap.size w W1) := by rw [hW1]; exact belNext (belOne _ _) (belOne _ _)
  have HK := hideN (show BlkD W1 w.heap.size (.int .i64 vi) (.slice ao n cap) (.int .i64 root) by rw [hW1]; exact (BlkD.new _ _ _ _).below (belOne _ _))
  have HE0 : Hid (Owni W1 w.heap.size (.slice (some ⟨w.heap.size + 1, 0, none⟩) 0 0) []) := by
    have h := owni_empty (w.alloc (.cells #[.int .i64 vi, .slice ao n cap, .int .i64 root] 25))
    rw [World.size_alloc, ← hW1] at h
    exact h.base (by omega)
  have HOK := hideN (specBddOk_any vi root ao n cap ns W1 (hN.below HB1.out) h64 hr hnl)
  have HN := hideN (fun V (hV : Below w.heap.size w V) => hN.below hV)
  have HLEN := hideN hN.len
  have HW1 := hideN hW1
  obtain ⟨ib, hib, hz0, hz1, hz2⟩ := info_parts info_int
  have c0 := HK.out.c0
  have c1 := HK.out.c1
  have c2 := HK.out.c2
  have c3 := HK.out.lt
  clear hN hW1 h64 hr
  cases hbd : bddB vi ns root with
  | false =>
    have HE : Hid (needsZ vi ns root = []) := by show _ = _; unfold needsZ; rw [if_neg (by rw [hbd]; decide)]
    rw [hbd] at HOK
    clear hbd
    go_enter Try.func28, Try.ntmps28
    go_wp2_with fail
    rw [← HW1.out]
    refine HOK.out.mono ?_
    rintro e w1 ⟨rfl, hb⟩
    have HB := hideN (belNext HB1.out hb)
    have HE1 := hideN (HE0.out.below hb)
    clear hb c0 c1 c2 c3
    go_wp2_with fail
    exact bodyPost_ret (v := .slice (some ⟨w.heap.size + 1, 0, none⟩) 0 0) (by simp [results, Try.results28, go_sem]) rfl (by show IntsPost _ w _ _; rw [HE.out]; exact ⟨_, _, rfl, HE1.out, HB.out⟩)
  | true =>
  obtain ⟨vars, rfl, h6, hn64, hok, hr0, hr1⟩ := bdd_split hbd
  have hn : n ≤ 64 := by rw [← HLEN.out]; exact hn64
  have HZ : Hid (needsZ (vars : Int) ns root = needsL vars ns) := by show _ = _; unfold needsZ; rw [if_pos hbd, Int.toNat_natCast]
  rw [hbd] at HOK
  clear hbd hok hn64 hr1
  go_enter Try.func28, Try.ntmps28
  go_wp2_with fail
  rw [← HW1.out]
  refine HOK.out.mono ?_
  rintro e w1 ⟨rfl, hb⟩
  have HB := hideN (belNext HB1.out hb)
  have HK1 := hideN (HK.out.below hb)
  have HE1 := hideN (HE0.out.below hb)
  clear hb c0 c1 c2 c3
  go_wp2_with fail
  go_loopw [3, 4] (fun o v wr => ∃ (g cp k m : Nat), k ≤ vars ∧ m ≤ k ∧ v = .int .i64 (k : Int) ∧ o = .slice (some ⟨g, 0, none⟩) m cp ∧ Hid ((needsL k ns).length = m) ∧ Hid (wr.ownsRow w.heap.size 3 1 (.slice (some ⟨g, 0, none⟩) m cp) m ((needsL k ns).map (Value.int .i64))) ∧ Hid (Below w.heap.size w wr) ∧ Hid (BlkD wr w.heap.size (.int .i64 (vars : Int)) (.slice ao n cap) (.int .i64 root)) ∧ Hid (w.heap.size < g)) (fun _ v _ => vars - (intOf v).toNat)
  case atStart => exact ⟨w.heap.size + 1, 0, 0, 0, Nat.zero_le _, Nat.le_refl _, rfl, rfl, rfl, HE1.out, HB, HK1, Nat.lt_succ_self _⟩
  case round =>
    obtain ⟨g, cp, k, m, hk, hmk, rfl, rfl, hlen, hrow, hbw, hbk, hgw⟩ := hrel
    by_cases hlt : k < vars
    · have HSU := hideN (needsL_succ k ns)
      have c0 := hbk.out.c0
      have c1 := hbk.out.c1
      have c3 := hbk.out.lt
      go_wp2_with fail
      go_loopw [3, 5] (fun o i wq => ∃ j : Nat, j ≤ n ∧ i = .int .i64 (j : Int) ∧ o = .slice (some ⟨g, 0, none⟩) m cp ∧ Hid (∀ q, q < j → (ns.getD q (0, 0, 0)).1 ≠ (k : Int)) ∧ wq = wr) (fun _ i _ => n - (intOf i).toNat)
      case atStart => exact ⟨0, Nat.zero_le _, rfl, rfl, fun q hq => by omega, rfl⟩
      case round =>
        obtain ⟨j, hj, rfl, rfl, hno, rfl⟩ := hrel
        by_cases hjn : j < n
        · obtain ⟨b, off, hao, hcs⟩ := (HN.out wr hbw.out).cells (by omega)
          subst hao
          obtain ⟨e9, -, -⟩ := hcs j hjn
          obtain ⟨x, hx⟩ : ∃ x, (ns.getD j (0, 0, 0)).1 = x := ⟨_, rfl⟩
          have HX := hideN hx
          have e0 : wr.cell? ⟨b, off + j * 3, none⟩ = some (.int .i64 x) := by rw [← hx]; exact e9
          clear hx hcs e9
          by_cases hxk : x = (k : Int)
          · subst hxk
            have HAN : Hid (needsL (k + 1) ns = needsL k ns ++ [(k : Int)]) := by show _ = _; rw [HSU.out, if_pos (any_at HLEN.out hjn HX.out)]
            have HRV : Hid ((wr.alloc (.cells #[.int .i64 (k : Int)] 3)).ownsRow w.heap.size 3 1 (.slice (some ⟨g, 0, none⟩) m cp) m ((needsL k ns).map (Value.int .i64))) := row_below hrow.out (belOne _ _)
            have hsz := hbw.out.size
            have hgl := World.ownsRow.lt hrow.out g rfl
            go_wp2_with (at_builtin; refine wpList_append_lies _ rfl _ _ 42 rfl w.heap.size 3 ib (.int .i64 0) 1 8 Try.underlying42 hib hz0 hz1 hz2 rfl (by decide) _ m ((needsL k ns).map (Value.int .i64)) rfl HRV.out ⟨wr.heap.size, 0, none⟩ 1 1 [.int .i64 (k : Int)] rfl rfl (by exact newsN wr _ _) (by intro u hu; simp at hu; subst hu; rfl) (by decide) (by unfold maxLen; omega) (by omega) (by simp; omega) _ rfl ?_; intro gg gcap w8 hown8 hgrow8 hat8 hlt8)
            have HR8 : Hid (w8.ownsRow w.heap.size 3 1 (.slice (some ⟨gg, 0, none⟩) (m + 1) gcap) (m + 1) ((needsL (k + 1) ns).map (Value.int .i64))) := by
              rw [HAN.out, List.map_append]
              exact hown8
            have HL8 : Hid ((needsL (k + 1) ns).length = m + 1) := by show _ = _; rw [HAN.out, List.length_append, hlen.out]; rfl
            have HB8 : Hid (Below w.heap.size w w8) := (belNext hbw.out (belOne _ _)).grown hgrow8 (by simp; omega) (fun k e => (World.ownsRow.lt hrow.out k e).1)
            have HK8 : Hid (BlkD w8 w.heap.size (.int .i64 (vars : Int)) (.slice (some ⟨b, off, none⟩) n cap) (.int .i64 root)) := by
              have h1 : BlkD (wr.alloc (.cells #[.int .i64 (k : Int)] 3)) w.heap.size (.int .i64 (vars : Int)) (.slice (some ⟨b, off, none⟩) n cap) (.int .i64 root) := hbk.out.below (belOne _ _)
              exact ((chg_of_grown hgrow8).block _ h1.lt (fun e => by have h9 : g = w.heap.size := Option.some.inj e; have := hgw.out; omega)).trans h1
            have HG8 : Hid (w.heap.size < gg) := by
              rcases hat8 with h | h
              · have h9 : g = gg := Option.some.inj h
                have := hgw.out
                show _ < _
                omega
              · have h2 : gg = wr.heap.size + 1 := by rw [h, World.size_alloc]
                show _ < _; omega
            clear hown8 hgrow8 hat8 hlt8 c0 c1 c3 e0
            go_wp2_with fail
            go_roundw
            case rel => exact ⟨gg, gcap, k + 1, m + 1, by omega, by omega, by go_num, rfl, HL8, HR8, HB8, HK8, HG8⟩
            case measure => simp [intOf]; omega
          · have HNO : Hid (∀ q, q < j + 1 → (ns.getD q (0, 0, 0)).1 ≠ (k : Int)) := fun q hq => by
              by_cases e : q = j
              · subst e; rw [HX.out]; exact hxk
              · exact hno.out q (by omega)
            go_wp2
            go_roundw
            case rel => exact ⟨j + 1, by omega, by go_num, rfl, HNO, by first | rfl | trivial⟩
            case measure => simp [intOf]; omega
        · obtain rfl : j = n := by omega
          have HAN : Hid (needsL (k + 1) ns = needsL k ns) := by show _ = _; rw [HSU.out, any_none HLEN.out hno.out]; simp
          have HR8 : Hid (wr.ownsRow w.heap.size 3 1 (.slice (some ⟨g, 0, none⟩) m cp) m ((needsL (k + 1) ns).map (Value.int .i64))) := by rw [HAN.out]; exact hrow.out
          have HL8 : Hid ((needsL (k + 1) ns).length = m) := by show _ = _; rw [HAN.out]; exact hlen.out
          go_wp2_with fail
          go_roundw
          case rel => exact ⟨g, cp, k + 1, m, by omega, by omega, by go_num, rfl, HL8, HR8, hbw, hbk, hgw⟩
          case measure => simp [intOf]; omega
    · obtain rfl : k = vars := by omega
      have c0 := hbk.out.c0
      have c3 := hbk.out.lt
      go_wp2_with fail
      exact bodyPost_ret (v := .slice (some ⟨g, 0, none⟩) m cp) (by simp [results, Try.results28, go_sem]) rfl (by show IntsPost _ w _ _; rw [HZ.out]; unfold IntsPost Owni; rw [hlen.out]; exact ⟨_, _, rfl, hrow.out, hbw.out⟩)

end Go.Proofs.Ytknpifjkllcdeaa

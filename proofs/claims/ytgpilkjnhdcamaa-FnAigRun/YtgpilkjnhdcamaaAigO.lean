/-
  A run of a circuit: what AigRun calls, of the program and of the model.
-/
import Derived.Test.YtgpilkjnhdcamaaAigM
import Derived.Test.YtgpilkjnhdcamaaAigN
namespace Go.Proofs.Ytgpilkjnhdcamaa
open Go.RowKit Go.Deep Go.Shelf
set_option linter.unusedVariables false

attribute [local go_sem] Oper.semAt_some

/-- Whether any is so. -/
def anyOf (vs : List Bool) : Bool := vs.any id
theorem anyOf_take_succ (vs : List Bool) (k : Nat) (h : k < vs.length) : anyOf (vs.take (k + 1)) = (anyOf (vs.take k) || vs.getD k false) := by
  unfold anyOf
  rw [List.take_succ_eq_append_getElem h, List.any_append]
  simp [List.getD, List.getElem?_eq_getElem h]
theorem anyOf_of_take {vs : List Bool} {k : Nat} (h : anyOf (vs.take k) = true) : anyOf vs = true := by
  unfold anyOf at *
  rw [List.any_eq_true] at *
  obtain ⟨x, hx, hp⟩ := h
  exact ⟨x, List.mem_of_mem_take hx, hp⟩

set_option maxHeartbeats 1000000 in
theorem l3Any_any (v : Value) (vs : List Bool) (w : World) (hv : IsBits w v vs) (hl : vs.length ≤ 100) :
    Calls Try.prog 60 #[v] w fun e w' => e = .returned (.bool (anyOf vs)) ∧ w' = w := by
  obtain ⟨ao, cap, rfl, hv⟩ := hv
  generalize hN : vs.length = n at *
  have HN : Hid (vs.length = n) := hN
  clear hN
  by_cases hne : 0 < n
  · obtain ⟨b, off, rfl, hc⟩ := hv (by intro e; have := HN.out; subst e; simp at this; omega)
    have HC : Hid (∀ i, i < n → w.cell? ⟨b, off + i, none⟩ = some (.bool (vs.getD i false))) := hc
    clear hc hv
    go_enter Try.func60, Try.ntmps60
    go_wp2
    go_loop [3] (fun i => ∃ k : Nat, k ≤ n ∧ i = .int .i64 k ∧ Hid (anyOf (vs.take k) = false)) (fun i => n - (intOf i).toNat)
    case atStart => exact ⟨0, Nat.zero_le _, rfl, rfl⟩
    case round =>
      obtain ⟨k, hk, rfl, hf⟩ := hrel
      by_cases hlt : k < n
      · have hd := HC.out k hlt
        have HS : Hid (anyOf (vs.take (k + 1)) = vs.getD k false) := by show anyOf (vs.take (k + 1)) = _; rw [anyOf_take_succ vs k (by rw [HN.out]; exact hlt), hf.out, Bool.false_or]
        generalize vs.getD k false = x at *
        cases x with
        | true =>
          have HT : Hid (anyOf vs = true) := anyOf_of_take HS.out
          go_wp2
          go_ret
          exact ⟨by rw [HT.out]; rfl, rfl⟩
        | false =>
          go_wp2
          go_round
          case rel => exact ⟨k + 1, by omega, by go_num, HS.out⟩
          case measure => simp [intOf]; omega
      · have HT : Hid (anyOf vs = false) := by
          have h := hf.out
          rwa [List.take_of_length_le (by rw [HN.out]; omega)] at h
        go_wp2
        go_ret
        exact ⟨by rw [HT.out]; rfl, rfl⟩
  · obtain rfl : vs = [] := List.length_eq_zero_iff.1 (by rw [HN.out]; omega)
    clear hv HN
    obtain rfl : n = 0 := by omega
    go_enter Try.func60, Try.ntmps60
    go_wp2
    go_rounds 1
    go_ret
    exact ⟨rfl, rfl⟩

set_option maxHeartbeats 1000000 in
theorem index_true (v : Value) (vs : List Bool) (w : World) (hv : IsBits w v vs) (hl : vs.length ≤ 100) :
    Calls Try.prog 82 #[v, .bool true] w fun e w' => (∃ q : Int, e = .returned (.int .i64 q) ∧ -1 ≤ q ∧ q ≤ 100 ∧ decide (0 ≤ q) = anyOf vs) ∧ w' = w := by
  obtain ⟨ao, cap, rfl, hv⟩ := hv
  generalize hN : vs.length = n at *
  have HN : Hid (vs.length = n) := hN
  clear hN
  by_cases hne : 0 < n
  · obtain ⟨b, off, rfl, hc⟩ := hv (by intro e; have := HN.out; subst e; simp at this; omega)
    have HC : Hid (∀ i, i < n → w.cell? ⟨b, off + i, none⟩ = some (.bool (vs.getD i false))) := hc
    clear hc hv
    go_enter Try.func82, Try.ntmps82
    go_wp2
    go_loop [8] (fun i => ∃ k : Nat, k ≤ n ∧ i = .int .i64 k ∧ Hid (anyOf (vs.take k) = false)) (fun i => n - (intOf i).toNat)
    case atStart => exact ⟨0, Nat.zero_le _, rfl, rfl⟩
    case round =>
      obtain ⟨k, hk, rfl, hf⟩ := hrel
      by_cases hlt : k < n
      · have hd := HC.out k hlt
        have HS : Hid (anyOf (vs.take (k + 1)) = vs.getD k false) := by show anyOf (vs.take (k + 1)) = _; rw [anyOf_take_succ vs k (by rw [HN.out]; exact hlt), hf.out, Bool.false_or]
        generalize vs.getD k false = x at *
        cases x with
        | true =>
          have HT : Hid (anyOf vs = true) := anyOf_of_take HS.out
          go_wp2
          go_ret
          exact ⟨⟨k, rfl, by omega, by omega, by rw [HT.out]; simp⟩, rfl⟩
        | false =>
          go_wp2
          go_round
          case rel => exact ⟨k + 1, by omega, by go_num, HS.out⟩
          case measure => simp [intOf]; omega
      · have HT : Hid (anyOf vs = false) := by
          have h := hf.out
          rwa [List.take_of_length_le (by rw [HN.out]; omega)] at h
        go_wp2
        go_ret
        exact ⟨⟨-1, rfl, by omega, by omega, by rw [HT.out]; rfl⟩, rfl⟩
  · obtain rfl : vs = [] := List.length_eq_zero_iff.1 (by rw [HN.out]; omega)
    clear hv HN
    obtain rfl : n = 0 := by omega
    go_enter Try.func82, Try.ntmps82
    go_wp2
    go_rounds 1
    go_ret
    exact ⟨⟨-1, rfl, by omega, by omega, rfl⟩, rfl⟩

set_option maxHeartbeats 1000000 in
theorem contains_true (v : Value) (vs : List Bool) (w : World) (hv : IsBits w v vs) (hl : vs.length ≤ 100) :
    Calls Try.prog 58 #[v, .bool true] w fun e w' => e = .returned (.bool (anyOf vs)) ∧ w' = w := by
  have HV : Hid (IsBits w v vs) := hv
  obtain ⟨ao, cap, rfl, _⟩ := hv
  go_enter Try.func58, Try.ntmps58
  go_wp2_with fail
  refine (index_true _ vs _ HV.out hl).mono ?_
  rintro e w' ⟨⟨q, rfl, h1, h2, hd⟩, rfl⟩
  generalize hx : anyOf vs = x at *
  have HX : Hid (anyOf vs = x) := hx
  clear hx
  go_wp2
  go_ret
  exact ⟨by rw [HX.out]; rfl, rfl⟩

/-- What so many latches are at first. -/
def initsL (ls : List (Int × Bool)) (k : Nat) : List Bool := (ls.take k).map Prod.snd
theorem initsL_succ (ls : List (Int × Bool)) (k : Nat) (h : k < ls.length) : initsL ls (k + 1) = initsL ls k ++ [(ls.getD k (0, false)).2] := by
  unfold initsL
  rw [List.take_succ_eq_append_getElem h, List.map_append]
  simp [List.getD, List.getElem?_eq_getElem h]
theorem initsL_length (ls : List (Int × Bool)) (k : Nat) (h : k ≤ ls.length) : (initsL ls k).length = k := by unfold initsL; simp; omega
theorem initsL_all (ls : List (Int × Bool)) : initsL ls ls.length = ls.map Prod.snd := by simp [initsL]

set_option maxRecDepth 100000 in
set_option maxHeartbeats 2000000 in
theorem l3Init_any (inp : Int) (al aa ab : Option Addr) (cl ca cb : Nat) (ls : List (Int × Bool)) (xs : List (Int × Int)) (bs : List Int) (w : World) (hC : IsCir w al aa ab cl ca cb ls xs bs) (h2 : ls.length ≤ 8) :
    Calls Try.prog 59 #[.agg #[.int .i64 inp, .slice al ls.length cl, .slice aa xs.length ca, .slice ab bs.length cb]] w (ValPost (ls.map Prod.snd) w) := by
  have HC : Hid (∀ w', Below w.heap.size w w' → IsCir w' al aa ab cl ca cb ls xs bs) := fun w' h => hC.below h
  have HO0 : Hid (Own4 (w.alloc (.cells #[.int .i64 inp, .slice al ls.length cl, .slice aa xs.length ca, .slice ab bs.length cb] 27)) w.heap.size 27 (.int .i64 inp) (.slice al ls.length cl) (.slice aa xs.length ca) (.slice ab bs.length cb)) := Own4.new _ _ _ _ _ _
  have HS0 : Hid (Below w.heap.size w ((w.alloc (.cells #[.int .i64 inp, .slice al ls.length cl, .slice aa xs.length ca, .slice ab bs.length cb] 27)).alloc (.cells #[] 4)) ∧ Own4 ((w.alloc (.cells #[.int .i64 inp, .slice al ls.length cl, .slice aa xs.length ca, .slice ab bs.length cb] 27)).alloc (.cells #[] 4)) w.heap.size 27 (.int .i64 inp) (.slice al ls.length cl) (.slice aa xs.length ca) (.slice ab bs.length cb) ∧ Ownb ((w.alloc (.cells #[.int .i64 inp, .slice al ls.length cl, .slice aa xs.length ca, .slice ab bs.length cb] 27)).alloc (.cells #[] 4)) w.heap.size (.slice (some ⟨w.heap.size + 1, 0, none⟩) 0 0) []) := by
    have h := ownb_empty (w.alloc (.cells #[.int .i64 inp, .slice al ls.length cl, .slice aa xs.length ca, .slice ab bs.length cb] 27))
    rw [World.size_alloc] at h
    exact ⟨belNext (belOne _ _) (belOne _ _), HO0.out.below (belOne _ _), h.base (by omega)⟩
  clear hC
  go_enter Try.func59, Try.ntmps59
  go_wp2
  go_loopw [3, 4] (fun o i wr => ∃ a m cp k, k ≤ ls.length ∧ i = .int .i64 (k : Nat) ∧ o = .slice a m cp ∧ Hid ((initsL ls k).length = m) ∧ Sst w wr (initsL ls k) (.slice a m cp) (.int .i64 inp) (.slice al ls.length cl) (.slice aa xs.length ca) (.slice ab bs.length cb)) (fun _ i _ => ls.length - (intOf i).toNat)
  case atStart => exact ⟨_, 0, 0, 0, Nat.zero_le _, rfl, rfl, rfl, HS0.out.2.2, HS0.out.1, HS0.out.2.1⟩
  case round =>
    obtain ⟨a, m, cp, k, hk, rfl, rfl, hm, hS⟩ := hrel
    have hm8 : m ≤ 8 := by rw [← hm.out, initsL_length _ _ hk]; omega
    have c0 := hS.cir.four.c0
    have c1 := hS.cir.four.c1
    have c2 := hS.cir.four.c2
    have c3 := hS.cir.four.c3
    have c4 := hS.cir.lt
    by_cases hkl : k < ls.length
    · have hCr := HC.out _ hS.bel
      obtain ⟨b, off, rfl, hbl, hx1, hx2⟩ : ∃ b off, al = some ⟨b, off, none⟩ ∧ b < wr.heap.size ∧ wr.cell? ⟨b, off + k * 2, none⟩ = some (.int .i64 (ls.getD k (0, false)).1) ∧ wr.cell? ⟨b, off + k * 2 + 1, none⟩ = some (.bool (ls.getD k (0, false)).2) := by
        obtain ⟨ao', cap', he, h⟩ := hCr.isL
        obtain ⟨b, off, ha, hc⟩ := h (by intro e; subst e; simp at hkl)
        injection he with e1 e2 e3
        exact ⟨b, off, e1.trans ha, cell_lt (hc k hkl).1, hc k hkl⟩
      have hsucc := initsL_succ ls k hkl
      clear hCr
      generalize ls.getD k (0, false) = qq at *
      obtain ⟨q, y⟩ := qq
      have hx1 : wr.cell? ⟨b, off + k * 2, none⟩ = some (.int .i64 q) := hx1
      have hx2 : wr.cell? ⟨b, off + k * 2 + 1, none⟩ = some (.bool y) := hx2
      have HS : Hid (initsL ls (k + 1) = initsL ls k ++ [y]) := hsucc
      have HST : Hid (Sst w wr (initsL ls k) (.slice a m cp) (.int .i64 inp) (.slice (some ⟨b, off, none⟩) ls.length cl) (.slice aa xs.length ca) (.slice ab bs.length cb)) := hS
      have HT2 : Hid (Sst w (wr.alloc (.cells #[.bool y] 4)) (initsL ls k) (.slice a m cp) (.int .i64 inp) (.slice (some ⟨b, off, none⟩) ls.length cl) (.slice aa xs.length ca) (.slice ab bs.length cb)) := HST.out.below (belOne _ _)
      have HTB : Hid (IsBits (wr.alloc (.cells #[.bool y] 4)) (.slice (some ⟨wr.heap.size, 0, none⟩) 1 1) [y]) := bits_new _ y _ (by simp)
      clear hsucc hS
      go_wp2_with (at_builtin; refine wpList_push rfl _ _ rfl w.heap.size _ _ (initsL ls k) y rfl rfl HT2.out.row HT2.out.bel.size HTB.out m hm (by omega) ?_; intro g5 cp5 w5 hv5 hg5; have S5 : Hid (Sst w w5 (initsL ls k ++ [y]) (.slice (some ⟨g5, 0, none⟩) (m + 1) cp5) (.int .i64 inp) (.slice (some ⟨b, off, none⟩) ls.length cl) (.slice aa xs.length ca) (.slice ab bs.length cb)) := HT2.out.more hv5 hg5; clear hv5 hg5)
      go_roundw
      case rel => exact ⟨_, m + 1, cp5, k + 1, by omega, by go_num, rfl, by show (initsL ls (k + 1)).length = m + 1; rw [HS.out, List.length_append, hm.out]; rfl, by rw [HS.out]; exact S5.out⟩
      case measure => simp [intOf]; omega
    · obtain rfl : k = ls.length := by omega
      have HST := hS
      rw [initsL_all] at HST hm
      have HST2 : Hid (Sst w wr (ls.map Prod.snd) (.slice a m cp) (.int .i64 inp) (.slice al ls.length cl) (.slice aa xs.length ca) (.slice ab bs.length cb)) := HST
      clear hS HST
      go_wp2
      go_ret
      exact ⟨a, m, cp, rfl, hm.out, HST2.out.row, HST2.out.bel⟩

set_option maxRecDepth 100000 in
set_option maxHeartbeats 2000000 in
theorem initsOf_any (inp : Int) (al aa ab : Option Addr) (cl ca cb : Nat) (ls : List (Int × Bool)) (xs : List (Int × Int)) (bs : List Int) (w : World) (hC : IsCir w al aa ab cl ca cb ls xs bs) (h2 : ls.length ≤ 8) :
    Calls Try.prog 57 #[.agg #[.int .i64 inp, .slice al ls.length cl, .slice aa xs.length ca, .slice ab bs.length cb]] w (ValPost (ls.map Prod.snd) w) := by
  have HC : Hid (∀ w', Below w.heap.size w w' → IsCir w' al aa ab cl ca cb ls xs bs) := fun w' h => hC.below h
  have HO0 : Hid (Own4 (w.alloc (.cells #[.int .i64 inp, .slice al ls.length cl, .slice aa xs.length ca, .slice ab bs.length cb] 27)) w.heap.size 27 (.int .i64 inp) (.slice al ls.length cl) (.slice aa xs.length ca) (.slice ab bs.length cb)) := Own4.new _ _ _ _ _ _
  clear hC
  go_enter Try.func57, Try.ntmps57
  go_wp2
  go_loopw [3, 9] (fun o i wr => ∃ a m cp k, k ≤ ls.length ∧ i = .int .i64 (k : Nat) ∧ o = .slice a m cp ∧ Hid ((initsL ls k).length = m) ∧ Sst w wr (initsL ls k) (.slice a m cp) (.int .i64 inp) (.slice al ls.length cl) (.slice aa xs.length ca) (.slice ab bs.length cb)) (fun _ i _ => ls.length - (intOf i).toNat)
  case atStart => exact ⟨none, 0, 0, 0, Nat.zero_le _, rfl, rfl, rfl, ownb_nil _ _, belOne _ _, HO0.out⟩
  case round =>
    obtain ⟨a, m, cp, k, hk, rfl, rfl, hm, hS⟩ := hrel
    have hm8 : m ≤ 8 := by rw [← hm.out, initsL_length _ _ hk]; omega
    have c0 := hS.cir.four.c0
    have c1 := hS.cir.four.c1
    have c2 := hS.cir.four.c2
    have c3 := hS.cir.four.c3
    have c4 := hS.cir.lt
    by_cases hkl : k < ls.length
    · have hCr := HC.out _ hS.bel
      obtain ⟨b, off, rfl, hbl, hx1, hx2⟩ : ∃ b off, al = some ⟨b, off, none⟩ ∧ b < wr.heap.size ∧ wr.cell? ⟨b, off + k * 2, none⟩ = some (.int .i64 (ls.getD k (0, false)).1) ∧ wr.cell? ⟨b, off + k * 2 + 1, none⟩ = some (.bool (ls.getD k (0, false)).2) := by
        obtain ⟨ao', cap', he, h⟩ := hCr.isL
        obtain ⟨b, off, ha, hc⟩ := h (by intro e; subst e; simp at hkl)
        injection he with e1 e2 e3
        exact ⟨b, off, e1.trans ha, cell_lt (hc k hkl).1, hc k hkl⟩
      have hsucc := initsL_succ ls k hkl
      clear hCr
      generalize ls.getD k (0, false) = qq at *
      obtain ⟨q, y⟩ := qq
      have hx1 : wr.cell? ⟨b, off + k * 2, none⟩ = some (.int .i64 q) := hx1
      have hx2 : wr.cell? ⟨b, off + k * 2 + 1, none⟩ = some (.bool y) := hx2
      have HS : Hid (initsL ls (k + 1) = initsL ls k ++ [y]) := hsucc
      have HST : Hid (Sst w wr (initsL ls k) (.slice a m cp) (.int .i64 inp) (.slice (some ⟨b, off, none⟩) ls.length cl) (.slice aa xs.length ca) (.slice ab bs.length cb)) := hS
      have HT2 : Hid (Sst w ((wr.alloc (.cells #[.int .i64 q, .bool y] 40)).alloc (.cells #[.bool y] 4)) (initsL ls k) (.slice a m cp) (.int .i64 inp) (.slice (some ⟨b, off, none⟩) ls.length cl) (.slice aa xs.length ca) (.slice ab bs.length cb)) := (HST.out.below (belOne _ (.cells #[.int .i64 q, .bool y] 40))).below (belOne _ _)
      have HTB : Hid (IsBits ((wr.alloc (.cells #[.int .i64 q, .bool y] 40)).alloc (.cells #[.bool y] 4)) (.slice (some ⟨wr.heap.size + 1, 0, none⟩) 1 1) [y]) := bits_new _ y _ (by simp)
      clear hsucc hS
      go_wp2_with (at_builtin; refine wpList_push rfl _ _ rfl w.heap.size _ _ (initsL ls k) y rfl rfl HT2.out.row HT2.out.bel.size HTB.out m hm (by omega) ?_; intro g5 cp5 w5 hv5 hg5; have S5 : Hid (Sst w w5 (initsL ls k ++ [y]) (.slice (some ⟨g5, 0, none⟩) (m + 1) cp5) (.int .i64 inp) (.slice (some ⟨b, off, none⟩) ls.length cl) (.slice aa xs.length ca) (.slice ab bs.length cb)) := HT2.out.more hv5 hg5; clear hv5 hg5)
      go_roundw
      case rel => exact ⟨_, m + 1, cp5, k + 1, by omega, by go_num, rfl, by show (initsL ls (k + 1)).length = m + 1; rw [HS.out, List.length_append, hm.out]; rfl, by rw [HS.out]; exact S5.out⟩
      case measure => simp [intOf]; omega
    · obtain rfl : k = ls.length := by omega
      have HST := hS
      rw [initsL_all] at HST hm
      have HST2 : Hid (Sst w wr (ls.map Prod.snd) (.slice a m cp) (.int .i64 inp) (.slice al ls.length cl) (.slice aa xs.length ca) (.slice ab bs.length cb)) := HST
      clear hS HST
      go_wp2
      go_ret
      exact ⟨a, m, cp, rfl, hm.out, HST2.out.row, HST2.out.bel⟩

end Go.Proofs.Ytgpilkjnhdcamaa

/-
  ExpOk of the program.
-/
import Derived.Test.YtjhdpnejjakhkaaExpG
namespace Go.Proofs.Ytjhdpnejjakhkaa
open Go.RowKit Go.Deep
set_option linter.unusedVariables false

attribute [local go_sem] Oper.semAt_some

def TermPost (r : Bool) (w : World) (e : Ending) (w' : World) : Prop := ∃ v, e = .returned (.tuple #[v, .bool r]) ∧ Below w.heap.size w w'

set_option maxRecDepth 100000 in
set_option maxHeartbeats 4000000 in
theorem termOf_any (lo : Nat) (t : ExpT) (ht : totE t ≤ 1048576) (v : Value) (w : World) (hE : IsE w lo t v) : Calls Try.prog 17 #[v] w (TermPost (okE t) w) := by
  obtain ⟨k, n, s, ao, m, cap, rfl⟩ := hE.agg
  obtain ⟨W2, hW2⟩ : ∃ W2, W2 = (w.alloc (.cells #[.int .i64 k, .int .i64 n, .string s, .slice ao m cap] 29)).alloc (.cells #[.int .i64 60] 52) := ⟨_, rfl⟩
  have HB2 : Hid (Below w.heap.size w W2) := by rw [hW2]; exact belNext (belOne _ _) (belOne _ _)
  have hG : BlkG W2 (w.heap.size + 1) ((60 : Nat) : Int) := by
    rw [hW2]
    have h := World.alloc_heap_new (w.alloc (.cells #[.int .i64 k, .int .i64 n, .string s, .slice ao m cap] 29)) (.cells #[.int .i64 60] 52)
    rw [World.size_alloc] at h
    exact h
  have HCL := hideN (grow_any w lo (w.heap.size + 1) (by omega) t ht 60 1 _ W2 (by omega) (by omega) (by omega) hE HB2.out hG)
  have HW2 := hideN hW2
  have HOK := hideN (grow_ok t)
  obtain ⟨g, hg⟩ : ∃ g, growT t 60 1 = g := ⟨_, rfl⟩
  rw [hg] at HCL HOK
  have hr : okE t = g.isSome := HOK.out.symm
  rw [hr]
  clear hr hg hG hE hW2 HOK
  go_enter Try.func17, Try.ntmps17
  go_wp2_with fail
  try rw [← HW2.out]
  refine HCL.out.mono ?_
  rintro e w3 ⟨tv, rfl, _, _, hgr⟩
  have HBE : Hid (Below w.heap.size w w3) := HB2.out.grown hgr HB2.out.size (fun q e => by have := Option.some.inj e; omega)
  clear hgr
  go_wp2_with fail
  exact bodyPost_ret (v := .tuple #[tv, .bool g.isSome]) (by simp [results, Try.results17, go_sem]) rfl ⟨tv, rfl, HBE.out⟩

set_option maxRecDepth 100000 in
set_option maxHeartbeats 4000000 in
theorem implExpOk_any (lo : Nat) (t : ExpT) (ht : totE t ≤ 1048576) (v : Value) (w : World) (hE : IsE w lo t v) : Calls Try.prog 8 #[v] w (BoolPost (okE t) w) := by
  obtain ⟨k, n, s, ao, m, cap, rfl⟩ := hE.agg
  obtain ⟨W1, hW1⟩ : ∃ W1, W1 = w.alloc (.cells #[.int .i64 k, .int .i64 n, .string s, .slice ao m cap] 29) := ⟨_, rfl⟩
  have HB1 : Hid (Below w.heap.size w W1) := by rw [hW1]; exact belOne _ _
  have HCL := hideN (termOf_any lo t ht _ W1 (IsE.below hE HB1.out))
  have HW1 := hideN hW1
  generalize okE t = r at *
  clear hE hW1
  unfold BoolPost
  go_enter Try.func8, Try.ntmps8
  go_wp2_with fail
  try rw [← HW1.out]
  refine HCL.out.mono ?_
  rintro e w2 ⟨tv, rfl, hb2⟩
  have HB2 := hideN (belNext HB1.out hb2)
  clear hb2
  go_wp2_with fail
  go_ret
  exact ⟨rfl, HB2.out⟩

end Go.Proofs.Ytjhdpnejjakhkaa

/-
  ExpOk of the program.
-/
import Derived.Test.YthbjihamhfahcaaDoorExpG
namespace Go.Proofs.YthbjihamhfahcaaDoor
open Go.RowKit Go.Deep
set_option linter.unusedVariables false

attribute [local go_sem] Oper.semAt_some

def TermPost (r : Bool) (V : Value) (w : World) (e : Ending) (w' : World) : Prop := ∃ v, e = .returned (.tuple #[v, .bool r]) ∧ (r = true → v = V) ∧ Below w.heap.size w w'

set_option maxRecDepth 100000 in
set_option maxHeartbeats 4000000 in
theorem termOf_any (lo : Nat) (t : ExpT) (ht : totE t ≤ 1048576) (v : Value) (w : World) (hE : IsE w lo t v) : Calls Tryd.prog 13 #[v] w (TermPost (okE t) (termV t) w) := by
  obtain ⟨k, n, s, ao, m, cap, rfl⟩ := hE.agg
  obtain ⟨W2, hW2⟩ : ∃ W2, W2 = (w.alloc (.cells #[.int .i64 k, .int .i64 n, .string s, .slice ao m cap] 29)).alloc (.cells #[.int .i64 60] 48) := ⟨_, rfl⟩
  have HB2 : Hid (Below w.heap.size w W2) := by rw [hW2]; exact belNext (belOne _ _) (belOne _ _)
  have hG : BlkG W2 (w.heap.size + 1) ((60 : Nat) : Int) := by
    rw [hW2]
    have h := World.alloc_heap_new (w.alloc (.cells #[.int .i64 k, .int .i64 n, .string s, .slice ao m cap] 29)) (.cells #[.int .i64 60] 48)
    rw [World.size_alloc] at h
    exact h
  have HCL := hideN (grow_any w lo (w.heap.size + 1) (by omega) t ht 60 1 _ W2 (by omega) (by omega) (by omega) hE HB2.out hG)
  have HW2 := hideN hW2
  have HOK := hideN (grow_ok t)
  obtain ⟨g, hg⟩ : ∃ g, growT t 60 1 = g := ⟨_, rfl⟩
  rw [hg] at HCL HOK
  generalize termV t = VT at *
  have hr : okE t = g.isSome := HOK.out.symm
  rw [hr]
  clear hr hg hG hE hW2 HOK
  go_enter Tryd.func13, Tryd.ntmps13
  go_wp2_with fail
  try rw [← HW2.out]
  refine HCL.out.mono ?_
  rintro e w3 ⟨tv, rfl, htv, _, hgr⟩
  have HTV := hideN htv
  clear htv
  have HBE : Hid (Below w.heap.size w w3) := HB2.out.grown hgr HB2.out.size (fun q e => by have := Option.some.inj e; omega)
  clear hgr
  go_wp2_with fail
  exact bodyPost_ret (v := .tuple #[tv, .bool g.isSome]) (by simp [results, Tryd.results13, go_sem]) rfl ⟨tv, rfl, HTV.out, HBE.out⟩

end Go.Proofs.YthbjihamhfahcaaDoor

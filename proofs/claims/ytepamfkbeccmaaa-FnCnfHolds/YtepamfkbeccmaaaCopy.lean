/-
  'append([]int{}, xs...)': a copy of numbers, in a region that draws its order.
-/
import Derived.Test.YtepamfkbeccmaaaSolve1
import Derived.Deep.AppendSrc
import Derived.Deep.RegionHeldLaw
namespace Go.Proofs.Ytepamfkbeccmaaa
open Go.RowKit Go.Deep
set_option linter.unusedVariables false

theorem blk1 (w : World) (o : Obj) : ((w.alloc o).drew).heap[w.heap.size]? = some o := blk_alloc_new w o
theorem blk2 (w : World) (o1 o : Obj) : (((w.alloc o1).alloc o).drew).heap[w.heap.size + 1]? = some o := by
  have h := blk_alloc_new (w.alloc o1) o
  rw [World.size_alloc] at h
  exact h
theorem blk3 (w : World) (o o2 : Obj) : (((w.alloc o).alloc o2).drew).heap[w.heap.size]? = some o := by
  have h := blk_alloc_lt (w.alloc o) o2 w.heap.size (by simp)
  exact h.trans (blk_alloc_new w o)

theorem run_copy (w : World) (base B : Nat) (ty : TypeId) (x : Value) (xs : List Int) (hB : w.heap[B]? = some (.cells #[] 3 (0, 0))) (hb : base ≤ B) (hx : IsInts w x xs) (hlen : xs.length ≤ 1048576) :
    ∃ v' w', (Builtin.append_ #[31, 31] ty #[.slice (some ⟨B, 0, none⟩) 0 0, x]).run Try.prog w = .ok v' w' ∧ Owns w' base v' xs ∧ w.grownBy w' (some B) := by
  obtain ⟨i0, hi, hz0, hz1, hz2⟩ := info_parts info_int
  have hlt : B < w.heap.size := (Array.getElem?_eq_some_iff.1 hB).1
  have hown : w.ownsRow base 3 1 (.slice (some ⟨B, 0, none⟩) 0 0) 0 [] := ⟨by simp, .inr ⟨B, 0, #[], rfl, hb, hB, Nat.le_refl _, by simp, by simp, by simp⟩⟩
  obtain ⟨ao, cap, rfl, hx⟩ := hx
  by_cases hne : xs = []
  · subst hne
    have hs : Src Try.prog i0.size 31 (.slice ao 0 cap) 0 [] w := by
      cases ao with
      | none => exact Src.ofNil w Try.underlying31 cap
      | some a => exact Src.ofSlice w Try.underlying31 a 0 cap [] (by simp) (by simp) (by simp)
    have hr := run_append_room_src (P := Try.prog) w 31 31 ty 3 i0 Try.underlying31 hi B 0 0 0 (.slice ao 0 cap) 0 [] hs (by omega) (by simp) (by simp)
    exact ⟨_, _, hr, by unfold Owns; simpa [World.setCells] using hown, by simpa [World.setCells] using World.grownBy.refl w (some B)⟩
  · obtain ⟨b, off, rfl, hc⟩ := hx hne
    have hpos : 0 < xs.length := List.length_pos_iff.2 hne
    obtain ⟨g, cp, w', hr, h2, h3, h4, h5⟩ := run_append_lies (P := Try.prog) w 31 ty base 3 i0 (.int .i64 0) 1 8 Try.underlying31 hi hz0 hz1 hz2 rfl (by decide) _ 0 [] hown ⟨b, off, none⟩ xs.length cap (xs.map (Value.int .i64)) (by simp)
      (fun j u hj => by
        rw [List.getElem?_map] at hj
        obtain ⟨y, hy, rfl⟩ := Option.map_eq_some_iff.1 hj
        have hjl : j < xs.length := (List.getElem?_eq_some_iff.1 hy).1
        have := hc j hjl
        rw [Addr.add_lit, this]
        simp [List.getD, hy])
      (ints_oneCell .i64 xs) hpos (by unfold maxLen; omega) (by omega) (by omega) _ rfl
    refine ⟨_, w', hr, ?_, h3⟩
    unfold Owns
    simpa using h2

theorem step_copy {w : World} {ops : Array Oper} {o : Oper} {a : Act} {K : Act → World → Prop} {Q : Exit → Act → World → Prop} {E : Prop} (hgd : o.guard = none) (s x : Operand)
    (ho : o.op = .call { callee := .builtin .append, args := #[s, x], argTypes := #[31, 31] })
    (base B : Nat) (xv : Value) (xs : List Int) (hs : a.eval s = .slice (some ⟨B, 0, none⟩) 0 0) (hxv : a.eval x = xv)
    (hB : w.heap[B]? = some (.cells #[] 3 (0, 0))) (hb : base ≤ B) (hx : IsInts w xv xs) (hlen : xs.length ≤ 1048576)
    (h : ∀ ao cap w', Owns w' base (.slice ao xs.length cap) xs → w.grownBy w' (some B) → K (a.put o.dst (.slice ao xs.length cap)) w') :
    if Region.wanted o (yielded ops a.tmps) = true then Oper.wp Try.prog o a w K Q else E := by
  have hw : Region.wanted o (yielded ops a.tmps) = true := by simp [Region.wanted, hgd]
  rw [if_pos hw]
  obtain ⟨v', w', hr, h2, h3⟩ := run_copy w base B o.type xv xs hB hb hx hlen
  obtain ⟨ao, cap, rfl⟩ := h2.form
  unfold Oper.wp execOp
  simp only [ho, resolve, invoke, builtin, Sem.run_bind, Sem.run_pure, Result.andThen_ok, List.map_toArray, List.map_cons, List.map_nil, hs, hxv, hr]
  exact h ao cap w' h2 h3

theorem news_plain (w : World) (x : Value) (t : TypeId) : ∀ j u, [x][j]? = some u → (w.alloc (.cells #[x] t)).cell? ((⟨w.heap.size, 0, none⟩ : Addr).add j) = some u := by
  intro j u h
  cases j with
  | zero => simp at h; subst h; simp [Addr.add]
  | succ j => simp at h

theorem news_of {w : World} {b : Nat} {x : Value} (hc : w.cell? ⟨b, 0, none⟩ = some x) : ∀ j u, [x][j]? = some u → w.cell? ((⟨b, 0, none⟩ : Addr).add j) = some u := by
  intro j u h
  cases j with
  | zero => simp at h; subst h; simpa [Addr.add] using hc
  | succ j => simp at h

theorem one_first (w : World) (x : Value) (t : TypeId) (o : Obj) : (((w.alloc (.cells #[x] t)).alloc o).drew).cell? ⟨w.heap.size, 0, none⟩ = some x := by simp
theorem one_second (w : World) (x : Value) (t : TypeId) (o : Obj) : (((w.alloc o).alloc (.cells #[x] t)).drew).cell? ⟨w.heap.size + 1, 0, none⟩ = some x := by simp
theorem belD1 (w : World) (o : Obj) : Below w.heap.size w ((w.alloc o).drew) := (belOne w o).drew
theorem belD2 (w : World) (o o2 : Obj) : Below w.heap.size w (((w.alloc o).alloc o2).drew) := ((belOne w o).alloc (by simp) o2).drew

end Go.Proofs.Ytepamfkbeccmaaa

/-
  What stands while a law with two diagrams goes on, whose answer is a diagram.
-/
import Derived.Test.YtlbmlhncioampaaOneN
namespace Go.Proofs.Ytlbmlhncioampaa
open Go.RowKit Go.Deep
set_option linter.unusedVariables false

set_option maxRecDepth 100000 in
set_option maxHeartbeats 2000000 in
theorem markBdd_copyK (vars root k0 : Int) (b n : Nat) (f : Nat → Value) (w : World) (h : w.rowIs b 68 (n * 3) f) (hl : n ≤ 1048576) (hk0 : 0 ≤ k0) (hk1 : k0 ≤ 50000000) :
    Calls Try.prog 24 #[.agg #[.int .i64 vars, .slice (some ⟨b, 0, none⟩) n n, .int .i64 root], .int .i64 k0] w fun e w' => e = .returned (.int .i64 (k0 + 3 * n)) ∧ Chg (· = b) w w' := by
  obtain ⟨W1, hW1⟩ : ∃ W1, W1 = w.alloc (.cells #[.int .i64 vars, .slice (some ⟨b, 0, none⟩) n n, .int .i64 root] 29) := ⟨_, rfl⟩
  have hA : BlkD W1 w.heap.size (.int .i64 vars) (.slice (some ⟨b, 0, none⟩) n n) (.int .i64 root) := by rw [hW1]; exact BlkD.new _ _ _ _
  have HB1 : Hid (Below w.heap.size w W1) := by rw [hW1]; exact belOne _ _
  have HM := hideN (markNds_to b n n f k0 W1 (h.of_block (HB1.out.block _ h.lt)) (Nat.le_refl _) (by omega) hk0 hk1)
  have HW1 := hideN hW1
  have x1 := hA.c1
  have x3 := hA.lt
  clear h hA hW1
  go_enter Try.func24, Try.ntmps24
  go_wp2_with fail
  rw [← HW1.out]
  refine HM.out.mono ?_
  rintro e w1 ⟨rfl, -, hc⟩
  have HC : Hid (Chg (· = b) w w1) := (Chg.of_below HB1.out).trans hc
  clear hc x1 x3
  go_wp2
  go_ret
  exact ⟨rfl, HC.out⟩

/-- The second argument and its copy. -/
structure SecSt (V : World) (s0 sy b : Nat) (vi root : Int) (ao : Option Addr) (n cap : Nat) (ns : List Nd) : Prop where
  b0 : BlkL V s0 (.int .i64 vi) (.slice ao n cap) (.int .i64 root)
  bx : BlkD V sy (.int .i64 vi) (.slice (some ⟨b, 0, none⟩) n n) (.int .i64 root)
  rx : V.rowIs b 68 (n * 3) (ndF ns)
  nx : Nds V (some ⟨b, 0, none⟩) n n ns
theorem SecSt.below {V V' : World} {s0 sy b : Nat} {vi root : Int} {ao : Option Addr} {n cap : Nat} {ns : List Nd} (h : SecSt V s0 sy b vi root ao n cap ns) (hb : Below V.heap.size V V') : SecSt V' s0 sy b vi root ao n cap ns :=
  ⟨h.b0.below hb, h.bx.below hb, h.rx.of_block (hb.block _ h.rx.lt), h.nx.below hb⟩
theorem SecSt.cells {V V' : World} {s0 sy b : Nat} {vi root : Int} {ao : Option Addr} {n cap : Nat} {ns : List Nd} (h : SecSt V s0 sy b vi root ao n cap ns) (hb : Below V.heap.size V V') :
    V'.cell? ⟨s0, 0, none⟩ = some (.int .i64 vi) ∧ V'.cell? ⟨s0, 1, none⟩ = some (.slice ao n cap) ∧ V'.cell? ⟨s0, 2, none⟩ = some (.int .i64 root) ∧
      V'.cell? ⟨sy, 0, none⟩ = some (.int .i64 vi) ∧ V'.cell? ⟨sy, 1, none⟩ = some (.slice (some ⟨b, 0, none⟩) n n) ∧ V'.cell? ⟨sy, 2, none⟩ = some (.int .i64 root) :=
  ⟨(h.b0.below hb).c0, (h.b0.below hb).c1, (h.b0.below hb).c2, (h.bx.below hb).c0, (h.bx.below hb).c1, (h.bx.below hb).c2⟩

theorem BlkL.chg {p : Nat → Prop} {V V' : World} {b : Nat} {a0 a1 a2 : Value} (h : BlkL V b a0 a1 a2) (hc : Chg p V V') (hp : ¬ p b) : BlkL V' b a0 a1 a2 := (hc.block _ h.lt hp).trans h
theorem BlkD.chg {p : Nat → Prop} {V V' : World} {b : Nat} {a0 a1 a2 : Value} (h : BlkD V b a0 a1 a2) (hc : Chg p V V') (hp : ¬ p b) : BlkD V' b a0 a1 a2 := (hc.block _ h.lt hp).trans h

/-- Behind the marks in both copies. -/
theorem NbSt.marked2 {w V V' : World} {sx b b2 sw sg lo : Nat} {vi root : Int} {ao : Option Addr} {n cap : Nat} {ns : List Nd} {fv fr : Int} {aw ag : Option Addr} {m cw cg : Nat} {l : List Nd} (h : NbSt w V sx b sw sg lo vi root ao n cap ns fv fr aw ag m cw cg l) (hc : Chg (fun k => k = b ∨ k = b2) V V') (h2 : b < b2 ∧ b2 < lo) : NdSt w V' sw sg lo vi root ao n cap fv fr aw ag m cw cg l :=
  ⟨h.o.b0.chg hc (by have := h.sb; omega), h.bw.chg hc (by have := h.sb; omega), h.bg.chg hc (by have := h.sb; omega),
    row_of_block h.rw (fun k e => hc.block k (World.ownsRow.lt h.rw k e).2 (by have := h.kw k e; omega)), row_of_block h.rg (fun k e => hc.block k (World.ownsRow.lt h.rg k e).2 (by have := (World.ownsRow.lt h.rg k e).1; have := h.sb; omega)),
    fun k e => by have := h.kw k e; have := h.sb; omega, h.kg, by have := h.sb; omega, Chg.below h.o.be h.o.be.size hc (fun k e => by have := h.sb; omega)⟩

end Go.Proofs.Ytlbmlhncioampaa

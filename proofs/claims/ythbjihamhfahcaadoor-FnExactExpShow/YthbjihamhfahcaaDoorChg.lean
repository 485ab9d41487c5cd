/-
  Of what there was, just some blocks may have turned.
-/
import Derived.Test.YthbjihamhfahcaaDoorBase
import Derived.Deep.Heap
namespace Go.Proofs.YthbjihamhfahcaaDoor
open Go.RowKit Go.Deep
set_option linter.unusedVariables false

theorem hideN {P : Prop} (h : P) : Hid P := h

/-- Of what there was, just some blocks may have turned. -/
structure Chg (p : Nat → Prop) (w w' : World) : Prop where
  os : w'.os = w.os
  tape : w'.tape = w.tape
  output : w'.output = w.output
  size : w.heap.size ≤ w'.heap.size
  block : ∀ k, k < w.heap.size → ¬ p k → w'.heap[k]? = w.heap[k]?

theorem Chg.refl (p : Nat → Prop) (w : World) : Chg p w w := ⟨rfl, rfl, rfl, Nat.le_refl _, fun _ _ _ => rfl⟩
theorem Chg.trans {p : Nat → Prop} {a b c : World} (h : Chg p a b) (k : Chg p b c) : Chg p a c :=
  ⟨k.os.trans h.os, k.tape.trans h.tape, k.output.trans h.output, Nat.le_trans h.size k.size, fun i hi hp => (k.block i (Nat.lt_of_lt_of_le hi h.size) hp).trans (h.block i hi hp)⟩
theorem Chg.mono {p q : Nat → Prop} {a b : World} (h : Chg p a b) (hq : ∀ k, p k → q k) : Chg q a b := ⟨h.os, h.tape, h.output, h.size, fun k hk hn => h.block k hk (fun hp => hn (hq k hp))⟩
theorem Chg.of_below {p : Nat → Prop} {a b : World} (h : Below a.heap.size a b) : Chg p a b := ⟨h.os, h.tape, h.output, h.size, fun k hk _ => h.block k hk⟩
theorem Chg.below {p : Nat → Prop} {n : Nat} {w a b : World} (hw : Below n w a) (hn : n ≤ a.heap.size) (h : Chg p a b) (hp : ∀ k, p k → n ≤ k) : Below n w b :=
  hw.trans ⟨h.os, h.tape, h.output, h.size, fun k hk => h.block k (by omega) (fun e => by have := hp k e; omega)⟩
theorem Chg.set (w : World) (b i : Nat) (v : Value) : Chg (· = b) w (w.setCell ⟨b, i, none⟩ v) := ⟨rfl, rfl, rfl, by simp, fun k _ hp => blk_setCell_other _ _ _ _ hp⟩

theorem Chg.row {p : Nat → Prop} {a b : World} (h : Chg p a b) {g : Nat} {t : TypeId} {n : Nat} {f : Nat → Value} (hr : a.rowIs g t n f) (hg : ¬ p g) : b.rowIs g t n f := hr.of_block (h.block g hr.lt hg)
end Go.Proofs.YthbjihamhfahcaaDoor

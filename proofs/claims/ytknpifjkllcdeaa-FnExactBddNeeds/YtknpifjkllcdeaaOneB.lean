/-
  What stands while a law with one diagram goes on: the argument, the copy handed to the program.
-/
import Derived.Test.YtknpifjkllcdeaaCopN
namespace Go.Proofs.Ytknpifjkllcdeaa
open Go.RowKit Go.Deep
set_option linter.unusedVariables false

structure OneSt (w V : World) (sx b : Nat) (vi root : Int) (ao : Option Addr) (n cap : Nat) (ns : List Nd) : Prop where
  b0 : BlkL V w.heap.size (.int .i64 vi) (.slice ao n cap) (.int .i64 root)
  bx : BlkD V sx (.int .i64 vi) (.slice (some ⟨b, 0, none⟩) n n) (.int .i64 root)
  rx : V.rowIs b 50 (n * 3) (ndF ns)
  nx : Nds V (some ⟨b, 0, none⟩) n n ns
  be : Below w.heap.size w V
theorem OneSt.below {w V V' : World} {sx b : Nat} {vi root : Int} {ao : Option Addr} {n cap : Nat} {ns : List Nd} (h : OneSt w V sx b vi root ao n cap ns) (hb : Below V.heap.size V V') : OneSt w V' sx b vi root ao n cap ns :=
  ⟨h.b0.below hb, h.bx.below hb, h.rx.of_block (hb.block _ h.rx.lt), h.nx.below hb, belNext h.be hb⟩
/-- The six cells that the region of the comparison reads. -/
theorem OneSt.cells {w V V' : World} {sx b : Nat} {vi root : Int} {ao : Option Addr} {n cap : Nat} {ns : List Nd} (h : OneSt w V sx b vi root ao n cap ns) (hb : Below V.heap.size V V') :
    V'.cell? ⟨w.heap.size, 0, none⟩ = some (.int .i64 vi) ∧ V'.cell? ⟨w.heap.size, 1, none⟩ = some (.slice ao n cap) ∧ V'.cell? ⟨w.heap.size, 2, none⟩ = some (.int .i64 root) ∧
      V'.cell? ⟨sx, 0, none⟩ = some (.int .i64 vi) ∧ V'.cell? ⟨sx, 1, none⟩ = some (.slice (some ⟨b, 0, none⟩) n n) ∧ V'.cell? ⟨sx, 2, none⟩ = some (.int .i64 root) :=
  ⟨(h.b0.below hb).c0, (h.b0.below hb).c1, (h.b0.below hb).c2, (h.bx.below hb).c0, (h.bx.below hb).c1, (h.bx.below hb).c2⟩

end Go.Proofs.Ytknpifjkllcdeaa

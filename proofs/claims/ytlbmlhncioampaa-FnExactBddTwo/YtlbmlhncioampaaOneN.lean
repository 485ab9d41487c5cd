/-
  What stands while a law with one diagram goes on, whose answer is a diagram.
-/
import Derived.Test.YtlbmlhncioampaaOneM
namespace Go.Proofs.Ytlbmlhncioampaa
open Go.RowKit Go.Deep
set_option linter.unusedVariables false

/-- Argument and copy, both answers, each in a block and with its nodes. -/
structure NbSt (w V : World) (sx b sw sg lo : Nat) (vi root : Int) (ao : Option Addr) (n cap : Nat) (ns : List Nd) (fv fr : Int) (aw ag : Option Addr) (m cw cg : Nat) (l : List Nd) : Prop where
  o : OneSt w V sx b vi root ao n cap ns
  bw : BlkD V sw (.int .i64 fv) (.slice aw m cw) (.int .i64 fr)
  bg : BlkD V sg (.int .i64 fv) (.slice ag m cg) (.int .i64 fr)
  rw : V.ownsRow 0 68 3 (.slice aw m cw) m (ndV l)
  rg : V.ownsRow lo 68 3 (.slice ag m cg) m (ndV l)
  kw : ∀ k, (Value.slice aw m cw).ownBlock = some k → k < b
  kg : ∀ k, (Value.slice ag m cg).ownBlock = some k → k < sg
  sb : w.heap.size < b ∧ b < lo ∧ sw < b ∧ lo ≤ sg
theorem NbSt.below {w V V' : World} {sx b sw sg lo : Nat} {vi root : Int} {ao : Option Addr} {n cap : Nat} {ns : List Nd} {fv fr : Int} {aw ag : Option Addr} {m cw cg : Nat} {l : List Nd} (h : NbSt w V sx b sw sg lo vi root ao n cap ns fv fr aw ag m cw cg l) (hb : Below V.heap.size V V') : NbSt w V' sx b sw sg lo vi root ao n cap ns fv fr aw ag m cw cg l :=
  ⟨h.o.below hb, h.bw.below hb, h.bg.below hb, row_below h.rw hb, row_below h.rg hb, h.kw, h.kg, h.sb⟩

/-- Behind the marks in the copy. -/
structure NdSt (w V : World) (sw sg lo : Nat) (vi root : Int) (ao : Option Addr) (n cap : Nat) (fv fr : Int) (aw ag : Option Addr) (m cw cg : Nat) (l : List Nd) : Prop where
  b0 : BlkL V w.heap.size (.int .i64 vi) (.slice ao n cap) (.int .i64 root)
  bw : BlkD V sw (.int .i64 fv) (.slice aw m cw) (.int .i64 fr)
  bg : BlkD V sg (.int .i64 fv) (.slice ag m cg) (.int .i64 fr)
  rw : V.ownsRow 0 68 3 (.slice aw m cw) m (ndV l)
  rg : V.ownsRow lo 68 3 (.slice ag m cg) m (ndV l)
  kw : ∀ k, (Value.slice aw m cw).ownBlock = some k → k < lo
  kg : ∀ k, (Value.slice ag m cg).ownBlock = some k → k < sg
  sb : w.heap.size < lo ∧ sw < lo
  be : Below w.heap.size w V
theorem NbSt.marked {w V V' : World} {sx b sw sg lo : Nat} {vi root : Int} {ao : Option Addr} {n cap : Nat} {ns : List Nd} {fv fr : Int} {aw ag : Option Addr} {m cw cg : Nat} {l : List Nd} (h : NbSt w V sx b sw sg lo vi root ao n cap ns fv fr aw ag m cw cg l) (hc : Chg (· = b) V V') : NdSt w V' sw sg lo vi root ao n cap fv fr aw ag m cw cg l :=
  ⟨(hc.block _ h.o.b0.lt (by have := h.sb; omega)).trans h.o.b0, (hc.block _ h.bw.lt (by have := h.sb; omega)).trans h.bw, (hc.block _ h.bg.lt (by have := h.sb; omega)).trans h.bg,
    row_of_block h.rw (fun k e => hc.block k (World.ownsRow.lt h.rw k e).2 (by have := h.kw k e; omega)), row_of_block h.rg (fun k e => hc.block k (World.ownsRow.lt h.rg k e).2 (by have := (World.ownsRow.lt h.rg k e).1; have := h.sb; omega)),
    fun k e => by have := h.kw k e; have := h.sb; omega, h.kg, by have := h.sb; omega, Chg.below h.o.be h.o.be.size hc (fun k e => by have := h.sb; omega)⟩
theorem NdSt.below {w V V' : World} {sw sg lo : Nat} {vi root : Int} {ao : Option Addr} {n cap : Nat} {fv fr : Int} {aw ag : Option Addr} {m cw cg : Nat} {l : List Nd} (h : NdSt w V sw sg lo vi root ao n cap fv fr aw ag m cw cg l) (hb : Below V.heap.size V V') : NdSt w V' sw sg lo vi root ao n cap fv fr aw ag m cw cg l :=
  ⟨h.b0.below hb, h.bw.below hb, h.bg.below hb, row_below h.rw hb, row_below h.rg hb, h.kw, h.kg, h.sb, belNext h.be hb⟩

/-- Behind the marks in the answer. -/
structure NeSt (w V : World) (sw sg : Nat) (vi root : Int) (ao : Option Addr) (n cap : Nat) (fv fr : Int) (aw ag : Option Addr) (m cw cg : Nat) (l : List Nd) : Prop where
  b0 : BlkL V w.heap.size (.int .i64 vi) (.slice ao n cap) (.int .i64 root)
  bw : BlkD V sw (.int .i64 fv) (.slice aw m cw) (.int .i64 fr)
  bg : BlkD V sg (.int .i64 fv) (.slice ag m cg) (.int .i64 fr)
  rw : V.ownsRow 0 68 3 (.slice aw m cw) m (ndV l)
  ig : IsNds V (.slice ag m cg) (markNd 1 m)
  be : Below w.heap.size w V
theorem NdSt.marked {w V V' : World} {sw sg lo : Nat} {vi root : Int} {ao : Option Addr} {n cap : Nat} {fv fr : Int} {aw ag : Option Addr} {m cw cg : Nat} {l : List Nd} (h : NdSt w V sw sg lo vi root ao n cap fv fr aw ag m cw cg l) (hc : Chg (fun k => (Value.slice ag m cg).ownBlock = some k) V V') (hi : IsNds V' (.slice ag m cg) (markNd 1 m)) : NeSt w V' sw sg vi root ao n cap fv fr aw ag m cw cg l :=
  ⟨(hc.block _ h.b0.lt (fun e => by have := (World.ownsRow.lt h.rg _ e).1; have := h.sb; omega)).trans h.b0, (hc.block _ h.bw.lt (fun e => by have := (World.ownsRow.lt h.rg _ e).1; have := h.sb; omega)).trans h.bw, (hc.block _ h.bg.lt (fun e => by have := h.kg _ e; omega)).trans h.bg,
    row_of_block h.rw (fun k e => hc.block k (World.ownsRow.lt h.rw k e).2 (fun e2 => by have := (World.ownsRow.lt h.rg _ e2).1; have := h.kw k e; omega)), hi,
    Chg.below h.be h.be.size hc (fun k e => by have := (World.ownsRow.lt h.rg _ e).1; have := h.sb; omega)⟩
theorem NeSt.below {w V V' : World} {sw sg : Nat} {vi root : Int} {ao : Option Addr} {n cap : Nat} {fv fr : Int} {aw ag : Option Addr} {m cw cg : Nat} {l : List Nd} (h : NeSt w V sw sg vi root ao n cap fv fr aw ag m cw cg l) (hb : Below V.heap.size V V') : NeSt w V' sw sg vi root ao n cap fv fr aw ag m cw cg l :=
  ⟨h.b0.below hb, h.bw.below hb, h.bg.below hb, row_below h.rw hb, h.ig.below hb, belNext h.be hb⟩

end Go.Proofs.Ytlbmlhncioampaa

/-
  What stands while a law with one diagram goes on, whose answer is a row of numbers.
-/
import Derived.Test.YtknpifjkllcdeaaOneM
import Derived.Test.YtknpifjkllcdeaaRowI
namespace Go.Proofs.Ytknpifjkllcdeaa
open Go.RowKit Go.Deep
set_option linter.unusedVariables false

/-- What stands while the law goes on: argument and copy, both answers. -/
structure TiSt (w V : World) (sx b lo : Nat) (vi root : Int) (ao : Option Addr) (n cap : Nat) (ns : List Nd) (aw ag : Option Addr) (m cw cg : Nat) (L : List Int) : Prop where
  o : OneSt w V sx b vi root ao n cap ns
  gw : Owni V 0 (.slice aw m cw) L
  gg : Owni V lo (.slice ag m cg) L
  kw : ∀ k, (Value.slice aw m cw).ownBlock = some k → k < b
  sb : w.heap.size < b ∧ b < lo
theorem TiSt.below {w V V' : World} {sx b lo : Nat} {vi root : Int} {ao : Option Addr} {n cap : Nat} {ns : List Nd} {aw ag : Option Addr} {m cw cg : Nat} {L : List Int} (h : TiSt w V sx b lo vi root ao n cap ns aw ag m cw cg L) (hb : Below V.heap.size V V') : TiSt w V' sx b lo vi root ao n cap ns aw ag m cw cg L :=
  ⟨h.o.below hb, h.gw.below hb, h.gg.below hb, h.kw, h.sb⟩

/-- Behind the marks in the copy. -/
structure TjSt (w V : World) (lo : Nat) (vi root : Int) (ao : Option Addr) (n cap : Nat) (aw ag : Option Addr) (m cw cg : Nat) (L : List Int) : Prop where
  b0 : BlkL V w.heap.size (.int .i64 vi) (.slice ao n cap) (.int .i64 root)
  gw : Owni V 0 (.slice aw m cw) L
  gg : Owni V lo (.slice ag m cg) L
  kw : ∀ k, (Value.slice aw m cw).ownBlock = some k → k < lo
  sb : w.heap.size < lo
  be : Below w.heap.size w V
theorem TiSt.marked {w V V' : World} {sx b lo : Nat} {vi root : Int} {ao : Option Addr} {n cap : Nat} {ns : List Nd} {aw ag : Option Addr} {m cw cg : Nat} {L : List Int} (h : TiSt w V sx b lo vi root ao n cap ns aw ag m cw cg L) (hc : Chg (· = b) V V') : TjSt w V' lo vi root ao n cap aw ag m cw cg L :=
  ⟨(hc.block _ h.o.b0.lt (by have := h.sb; omega)).trans h.o.b0, h.gw.chg hc (fun k e => by have := h.kw k e; omega), h.gg.chg hc (fun k e => by have := (h.gg.blk k e).1; have := h.sb; omega), fun k e => by have := h.kw k e; have := h.sb; omega, by have := h.sb; omega,
    Chg.below h.o.be h.o.be.size hc (fun k e => by have := h.sb; omega)⟩
theorem TjSt.below {w V V' : World} {lo : Nat} {vi root : Int} {ao : Option Addr} {n cap : Nat} {aw ag : Option Addr} {m cw cg : Nat} {L : List Int} (h : TjSt w V lo vi root ao n cap aw ag m cw cg L) (hb : Below V.heap.size V V') : TjSt w V' lo vi root ao n cap aw ag m cw cg L :=
  ⟨h.b0.below hb, h.gw.below hb, h.gg.below hb, h.kw, h.sb, belNext h.be hb⟩

/-- Behind the marks in the answer. -/
structure TkSt (w V : World) (vi root : Int) (ao : Option Addr) (n cap : Nat) (aw ag : Option Addr) (m cw cg : Nat) (L : List Int) : Prop where
  b0 : BlkL V w.heap.size (.int .i64 vi) (.slice ao n cap) (.int .i64 root)
  gw : Owni V 0 (.slice aw m cw) L
  ig : IsInts V (.slice ag m cg) (markN 1 m)
  be : Below w.heap.size w V
theorem TjSt.marked {w V V' : World} {lo : Nat} {vi root : Int} {ao : Option Addr} {n cap : Nat} {aw ag : Option Addr} {m cw cg : Nat} {L : List Int} (h : TjSt w V lo vi root ao n cap aw ag m cw cg L) (hc : Chg (fun k => (Value.slice ag m cg).ownBlock = some k) V V') (hi : IsInts V' (.slice ag m cg) (markN 1 m)) : TkSt w V' vi root ao n cap aw ag m cw cg L :=
  ⟨(hc.block _ h.b0.lt (fun e => by have := (h.gg.blk _ e).1; have := h.sb; omega)).trans h.b0, h.gw.chg hc (fun k e e2 => by have := h.kw k e; have := (h.gg.blk _ e2).1; omega), hi,
    Chg.below h.be h.be.size hc (fun k e => by have := (h.gg.blk _ e).1; have := h.sb; omega)⟩
theorem TkSt.below {w V V' : World} {vi root : Int} {ao : Option Addr} {n cap : Nat} {aw ag : Option Addr} {m cw cg : Nat} {L : List Int} (h : TkSt w V vi root ao n cap aw ag m cw cg L) (hb : Below V.heap.size V V') : TkSt w V' vi root ao n cap aw ag m cw cg L :=
  ⟨h.b0.below hb, h.gw.below hb, h.ig.below hb, belNext h.be hb⟩

end Go.Proofs.Ytknpifjkllcdeaa

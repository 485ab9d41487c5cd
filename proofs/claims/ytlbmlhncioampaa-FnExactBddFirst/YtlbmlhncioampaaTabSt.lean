/-
  What stands while a law with one diagram goes on, whose answer is a row of truths.
-/
import Derived.Test.YtlbmlhncioampaaOneM
namespace Go.Proofs.Ytlbmlhncioampaa
open Go.RowKit Go.Deep
set_option linter.unusedVariables false

/-- What stands while the law goes on: argument and copy, both answers. -/
structure TbSt (w V : World) (sx b lo : Nat) (vi root : Int) (ao : Option Addr) (n cap : Nat) (ns : List Nd) (aw ag : Option Addr) (m cw cg : Nat) (L : List Bool) : Prop where
  o : OneSt w V sx b vi root ao n cap ns
  gw : Ownb V 0 (.slice aw m cw) L
  gg : Ownb V lo (.slice ag m cg) L
  kw : ∀ k, (Value.slice aw m cw).ownBlock = some k → k < b
  sb : w.heap.size < b ∧ b < lo
theorem TbSt.below {w V V' : World} {sx b lo : Nat} {vi root : Int} {ao : Option Addr} {n cap : Nat} {ns : List Nd} {aw ag : Option Addr} {m cw cg : Nat} {L : List Bool} (h : TbSt w V sx b lo vi root ao n cap ns aw ag m cw cg L) (hb : Below V.heap.size V V') : TbSt w V' sx b lo vi root ao n cap ns aw ag m cw cg L :=
  ⟨h.o.below hb, h.gw.below hb, h.gg.below hb, h.kw, h.sb⟩

/-- Behind the marks in the copy. -/
structure TdSt (w V : World) (lo : Nat) (vi root : Int) (ao : Option Addr) (n cap : Nat) (aw ag : Option Addr) (m cw cg : Nat) (L : List Bool) : Prop where
  b0 : BlkL V w.heap.size (.int .i64 vi) (.slice ao n cap) (.int .i64 root)
  gw : Ownb V 0 (.slice aw m cw) L
  gg : Ownb V lo (.slice ag m cg) L
  kw : ∀ k, (Value.slice aw m cw).ownBlock = some k → k < lo
  sb : w.heap.size < lo
  be : Below w.heap.size w V
theorem TbSt.marked {w V V' : World} {sx b lo : Nat} {vi root : Int} {ao : Option Addr} {n cap : Nat} {ns : List Nd} {aw ag : Option Addr} {m cw cg : Nat} {L : List Bool} (h : TbSt w V sx b lo vi root ao n cap ns aw ag m cw cg L) (hc : Chg (· = b) V V') : TdSt w V' lo vi root ao n cap aw ag m cw cg L :=
  ⟨(hc.block _ h.o.b0.lt (by have := h.sb; omega)).trans h.o.b0, h.gw.chg hc (fun k e => by have := h.kw k e; omega), h.gg.chg hc (fun k e => by have := (h.gg.blk k e).1; have := h.sb; omega), fun k e => by have := h.kw k e; have := h.sb; omega, by have := h.sb; omega,
    Chg.below h.o.be h.o.be.size hc (fun k e => by have := h.sb; omega)⟩
theorem TdSt.below {w V V' : World} {lo : Nat} {vi root : Int} {ao : Option Addr} {n cap : Nat} {aw ag : Option Addr} {m cw cg : Nat} {L : List Bool} (h : TdSt w V lo vi root ao n cap aw ag m cw cg L) (hb : Below V.heap.size V V') : TdSt w V' lo vi root ao n cap aw ag m cw cg L :=
  ⟨h.b0.below hb, h.gw.below hb, h.gg.below hb, h.kw, h.sb, belNext h.be hb⟩

/-- Behind the marks in the answer. -/
structure TeSt (w V : World) (vi root : Int) (ao : Option Addr) (n cap : Nat) (aw ag : Option Addr) (m cw cg : Nat) (L : List Bool) : Prop where
  b0 : BlkL V w.heap.size (.int .i64 vi) (.slice ao n cap) (.int .i64 root)
  gw : Ownb V 0 (.slice aw m cw) L
  ig : IsBits V (.slice ag m cg) (markL 1 m)
  be : Below w.heap.size w V
theorem TdSt.marked {w V V' : World} {lo : Nat} {vi root : Int} {ao : Option Addr} {n cap : Nat} {aw ag : Option Addr} {m cw cg : Nat} {L : List Bool} (h : TdSt w V lo vi root ao n cap aw ag m cw cg L) (hc : Chg (fun k => (Value.slice ag m cg).ownBlock = some k) V V') (hi : IsBits V' (.slice ag m cg) (markL 1 m)) : TeSt w V' vi root ao n cap aw ag m cw cg L :=
  ⟨(hc.block _ h.b0.lt (fun e => by have := (h.gg.blk _ e).1; have := h.sb; omega)).trans h.b0, h.gw.chg hc (fun k e e2 => by have := h.kw k e; have := (h.gg.blk _ e2).1; omega), hi,
    Chg.below h.be h.be.size hc (fun k e => by have := (h.gg.blk _ e).1; have := h.sb; omega)⟩
theorem TeSt.below {w V V' : World} {vi root : Int} {ao : Option Addr} {n cap : Nat} {aw ag : Option Addr} {m cw cg : Nat} {L : List Bool} (h : TeSt w V vi root ao n cap aw ag m cw cg L) (hb : Below V.heap.size V V') : TeSt w V' vi root ao n cap aw ag m cw cg L :=
  ⟨h.b0.below hb, h.gw.below hb, h.ig.below hb, belNext h.be hb⟩

end Go.Proofs.Ytlbmlhncioampaa

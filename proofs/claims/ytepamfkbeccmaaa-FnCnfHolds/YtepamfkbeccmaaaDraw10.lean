/-
  Drawn clauses and a model: DrawCnfHolds. First the state that its walk keeps.
-/
import Derived.Test.YtepamfkbeccmaaaDraw9
import Derived.Deep.RegionWith
namespace Go.Proofs.Ytepamfkbeccmaaa
open Go.RowKit Go.Deep
set_option linter.unusedVariables false

structure Dw (w wr : World) (v : Value) (bs : List Int) (p C : Nat) (q0 q1 : Value) (vars : Int) (o : Value) (css : List (List Int)) : Prop where
  q : Blk wr w.heap.size q0 q1
  c : Blk wr C (.int .i64 vars) o
  grid : Grid wr (w.heap.size + 5) o css
  rd : Rd wr (w.heap.size + 1) v bs p
  bel : Below w.heap.size w wr
  cl : w.heap.size + 2 ≤ C
  hvb : ∀ ao n cap b off, v = .slice ao n cap → ao = some ⟨b, off, none⟩ → b < w.heap.size

section
variable {w wr w1 : World} {v : Value} {bs : List Int} {p C : Nat} {q0 q1 : Value} {vars : Int} {o : Value} {css : List (List Int)}

theorem Dw.size (h : Dw w wr v bs p C q0 q1 vars o css) : w.heap.size + 2 < wr.heap.size := by have := h.c.lt; have := h.cl; omega

theorem Dw.pick (h : Dw w wr v bs p C q0 q1 vars o css) {p1 : Nat} (hrd : Rd w1 (w.heap.size + 1) v bs p1) (hg : wr.grownBy w1 (some (w.heap.size + 1))) : Dw w w1 v bs p1 C q0 q1 vars o css := by
  have hc := h.cl
  have hs := h.size
  exact ⟨h.q.grown hg (fun e => by have := Option.some.inj e; omega), h.c.grown hg (fun e => by have := Option.some.inj e; omega), h.grid.keep (fun k hk hlt => hg.block k hlt (fun e => by have := Option.some.inj e; omega)), hrd,
    h.bel.grown hg (by omega) (fun k e => by have := Option.some.inj e; omega), hc, h.hvb⟩

theorem Dw.below (h : Dw w wr v bs p C q0 q1 vars o css) (hb : Below wr.heap.size wr w1) : Dw w w1 v bs p C q0 q1 vars o css := by
  have hg : wr.grownBy w1 none := ⟨hb.os, hb.tape, hb.output, hb.size, fun k hk _ => hb.block k hk⟩
  have hs := h.size
  exact ⟨h.q.below hb, h.c.below hb, h.grid.keep (fun k hk hlt => hb.block k hlt), h.rd.grown hg (by simp) (by simp), h.bel.trans (hb.mono (by omega)), h.cl, h.hvb⟩

theorem Dw.drew (h : Dw w wr v bs p C q0 q1 vars o css) : Dw w wr.drew v bs p C q0 q1 vars o css := h.below (Below.refl _ _).drew

theorem Dw.old (h : Dw w wr v bs p C q0 q1 vars o css) {p1 : Nat} (hrd : Rd w1 (w.heap.size + 1) v bs p1) (ho : Old (w.heap.size + 1) wr.heap.size wr w1) : Dw w w1 v bs p1 C q0 q1 vars o css := by
  have hc := h.cl
  have hs := h.size
  have hcl := h.c.lt
  exact ⟨h.q.old ho (by omega) (by omega), h.c.old ho hcl (by omega), h.grid.keep (fun k hk hlt => ho.2.2.2.2 k hlt (by omega)), hrd,
    h.bel.trans ⟨ho.1, ho.2.1, ho.2.2.1, ho.2.2.2.1, fun k hk => ho.2.2.2.2 k (by omega) (by omega)⟩, hc, h.hvb⟩

theorem Dw.setq (h : Dw w wr v bs p C q0 q1 vars o css) (a b : Value) : Dw w ((wr.setCell ⟨w.heap.size, 0, none⟩ a).setCell ⟨w.heap.size, 1, none⟩ b) v bs p C a b vars o css := by
  have hc := h.cl
  have hs := h.size
  have hg1 := grown_set wr ⟨w.heap.size, 0, none⟩ a
  have hg2 := grown_set (wr.setCell ⟨w.heap.size, 0, none⟩ a) ⟨w.heap.size, 1, none⟩ b
  have hn : ∀ ao n cap b off, v = .slice ao n cap → ao = some ⟨b, off, none⟩ → some b ≠ some w.heap.size := fun ao n cap b off h1 h2 e => by have := h.hvb ao n cap b off h1 h2; have := Option.some.inj e; omega
  exact ⟨(h.q.set0 a).set1 b, (h.c.setOther (fun e => by have e' : C = w.heap.size := e; omega) a).setOther (fun e => by have e' : C = w.heap.size := e; omega) b, (h.grid.keepSet h.q 0 _).keepSet (h.q.set0 a) 1 _,
    (h.rd.grown hg1 (fun e => by have e' : w.heap.size + 1 = w.heap.size := Option.some.inj e; omega) hn).grown hg2 (fun e => by have e' : w.heap.size + 1 = w.heap.size := Option.some.inj e; omega) hn,
    (h.bel.setCell (Nat.le_refl _) a).setCell (Nat.le_refl _) b, hc, h.hvb⟩
end

def DrawPost (w : World) (e : Ending) (w' : World) : Prop :=
  ∃ (vars : Int) (ao : Option Addr) (cap : Nat) (css : List (List Int)) (ao2 : Option Addr) (cap2 : Nat) (ms : List Bool), e = .returned (.tuple #[.agg #[.int .i64 vars, .slice ao css.length cap], .slice ao2 ms.length cap2]) ∧ IsRows w' (.slice ao css.length cap) css ∧ css.length ≤ 160 ∧ (∀ i, i < css.length → (css.getD i []).length ≤ 9) ∧ IsBools w' (.slice ao2 ms.length cap2) ms ∧ ms.length ≤ 100 ∧ Below w.heap.size w w'

theorem IsBools.setq {w wr : World} {v : Value} {ms : List Bool} {base : Nat} (h : OwnsB wr base v ms) (hb : w.heap.size < base) (a b : Value) : IsBools ((wr.setCell ⟨w.heap.size, 0, none⟩ a).setCell ⟨w.heap.size, 1, none⟩ b) v ms :=
  ((h.kept (grown_set wr ⟨w.heap.size, 0, none⟩ a) (fun k e => by have e' : w.heap.size = k := Option.some.inj e; omega)).kept (grown_set _ ⟨w.heap.size, 1, none⟩ b) (fun k e => by have e' : w.heap.size = k := Option.some.inj e; omega)).isBools

end Go.Proofs.Ytepamfkbeccmaaa

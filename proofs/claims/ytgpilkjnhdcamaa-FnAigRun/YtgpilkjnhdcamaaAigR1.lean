/-
  Runs of circuits: what holds from step to step; runs of the first rows.
-/
import Derived.Test.YtgpilkjnhdcamaaCir7
import Derived.Test.YtgpilkjnhdcamaaAigS1
import Derived.Test.YtgpilkjnhdcamaaAigQ
namespace Go.Proofs.Ytgpilkjnhdcamaa
open Go.RowKit Go.Deep
set_option linter.unusedVariables false

theorem brows_take {w : World} {ar : Option Addr} {cr q : Nat} {rows : List (List Bool)} (h : IsBRows w (.slice ar rows.length cr) rows) (hq : q ≤ rows.length) : IsBRows w (.slice ar q cr) (rows.take q) := by
  obtain ⟨ao, cap, he, h⟩ := h
  injection he with e1 e2 e3
  have hl : (rows.take q).length = q := by simp; omega
  refine ⟨ar, cr, by rw [hl], fun hne => ?_⟩
  obtain ⟨b, off, ha, hc⟩ := h (by intro e; subst e; simp at hne)
  refine ⟨b, off, e1.trans ha, fun i hi => ?_⟩
  rw [hl] at hi
  obtain ⟨r, h1, h2⟩ := hc i (by omega)
  have e : (rows.take q).getD i [] = rows.getD i [] := by simp [List.getD, hi]
  rw [e]
  exact ⟨r, h1, h2⟩

/-- As far as so many rows nothing was bad, and this is kept. -/
def RunInv (inp : Int) (ls : List (Int × Bool)) (xs : List (Int × Int)) (cs : List Int) (rows : List (List Bool)) (q : Nat) (lats : List Bool) : Prop :=
  ∀ tail, runF inp ls xs cs (rows.take q ++ tail) (ls.map Prod.snd) 0 = runF inp ls xs cs tail lats q

section
variable {inp : Int} {ls : List (Int × Bool)} {xs : List (Int × Int)} {cs : List Int} {rows : List (List Bool)} {q : Nat} {lats : List Bool}

theorem inv_zero : RunInv inp ls xs cs rows 0 (ls.map Prod.snd) := fun tail => by simp

theorem take_one (hq : q < rows.length) (tail : List (List Bool)) : rows.take (q + 1) ++ tail = rows.take q ++ (rows.getD q [] :: tail) := by
  have e : rows.getD q [] = rows[q] := by simp [List.getD, List.getElem?_eq_getElem hq]
  rw [List.take_succ_eq_append_getElem hq, e, List.append_assoc]
  rfl

theorem inv_succ (h : RunInv inp ls xs cs rows q lats) (hq : q < rows.length) (hl : ((rows.getD q []).length : Int) = inp) (ha : anyOf (badOf inp ls xs cs lats (rows.getD q [])) = false) : RunInv inp ls xs cs rows (q + 1) (nextOf inp ls xs cs lats (rows.getD q [])) := fun tail => by
  rw [take_one hq, h, runF, if_pos hl, if_neg (by rw [ha]; simp)]

theorem inv_all (h : RunInv inp ls xs cs rows q lats) : runF inp ls xs cs rows (ls.map Prod.snd) 0 = runF inp ls xs cs (rows.drop q) lats q := by
  have := h (rows.drop q)
  rwa [List.take_append_drop] at this

theorem inv_bad (h : RunInv inp ls xs cs rows q lats) (hq : q < rows.length) (hl : ((rows.getD q []).length : Int) = inp) (ha : anyOf (badOf inp ls xs cs lats (rows.getD q [])) = true) :
    runF inp ls xs cs rows (ls.map Prod.snd) 0 = (q : Int) ∧ runF inp ls xs cs (rows.take q) (ls.map Prod.snd) 0 = -1 ∧ runF inp ls xs cs (rows.take (q + 1)) (ls.map Prod.snd) 0 = (q : Int) := by
  refine ⟨?_, ?_, ?_⟩
  · rw [inv_all h, runF_drop hq, if_pos hl, if_pos ha]
  · have := h []
    rw [List.append_nil] at this
    rw [this, runF]
  · have e := take_one hq []
    rw [List.append_nil] at e
    rw [e, h, runF, if_pos hl, if_pos ha]

theorem inv_end (h : RunInv inp ls xs cs rows rows.length lats) : runF inp ls xs cs rows (ls.map Prod.snd) 0 = -1 := by
  rw [inv_all h, List.drop_length, runF]

theorem runOf_ok (h : okC inp ls xs cs = true) (h40 : rows.length ≤ 40) : runOf inp ls xs cs rows = runF inp ls xs cs rows (ls.map Prod.snd) 0 := by
  unfold runOf; rw [if_pos ⟨h, h40⟩]
end

theorem sumB_take (rows : List (List Bool)) (q : Nat) : (rows.take q).length + sumB (rows.take q) ≤ rows.length + sumB rows := by
  have := sumB_take_le rows q
  simp
  omega

theorem implAigRun_n (inp : Int) (al aa ab : Option Addr) (cl ca cb : Nat) (ls : List (Int × Bool)) (xs : List (Int × Int)) (bs : List Int) (ar : Option Addr) (cr n : Nat) (rows : List (List Bool)) (w : World) (hn : rows.length = n) (hC : IsCir w al aa ab cl ca cb ls xs bs)
    (hR : IsBRows w (.slice ar n cr) rows) (hl64 : ∀ p ∈ ls, I64 p.1) (h64 : ∀ p ∈ xs, I64 p.1 ∧ I64 p.2) (hb64 : ∀ x ∈ bs, I64 x) (hr1 : rows.length + sumB rows ≤ 1048576) :
    Calls Try.prog 21 #[.agg #[.int .i64 inp, .slice al ls.length cl, .slice aa xs.length ca, .slice ab bs.length cb], .slice ar n cr] w fun e w' => e = .returned (.int .i64 (runOf inp ls xs bs rows)) ∧ Below w.heap.size w w' := by
  subst hn
  exact implAigRun_any inp al aa ab cl ca cb ls xs bs ar cr rows w hC hR hl64 h64 hb64 hr1

end Go.Proofs.Ytgpilkjnhdcamaa

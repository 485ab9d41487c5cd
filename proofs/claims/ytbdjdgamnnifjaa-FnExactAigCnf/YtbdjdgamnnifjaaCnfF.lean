/-
  Clauses of a circuit: the program's putAnd, three clauses behind others.
-/
import Derived.Test.YtbdjdgamnnifjaaCnfC
namespace Go.Proofs.Ytbdjdgamnnifjaa
open Go.RowKit Go.Deep Go.Shelf
set_option linter.unusedVariables false

theorem chg_next {w w1 w2 : World} {v v1 : Value} (h1 : Chg (fun k => v.ownBlock = some k) w w1) (f1 : ∀ k, v1.ownBlock = some k → v.ownBlock = some k ∨ w.heap.size ≤ k) (h2 : Chg (fun k => v1.ownBlock = some k) w1 w2) : Chg (fun k => v.ownBlock = some k) w w2 :=
  ⟨h2.os.trans h1.os, h2.tape.trans h1.tape, h2.output.trans h1.output, Nat.le_trans h1.size h2.size, fun k hk hp => (h2.block k (Nat.lt_of_lt_of_le hk h1.size) (fun e => (f1 k e).elim hp (fun h => by omega))).trans (h1.block k hk hp)⟩

theorem AddPost.next {lo n cap : Nat} {ao : Option Addr} {v : Value} {css : List (List Int)} {w w0 w1 w2 : World} {e : Ending} (hb : Below w.heap.size w w0) (h1 : Chg (fun k => v.ownBlock = some k) w0 w1) (f1 : ∀ k, (Value.slice ao n cap).ownBlock = some k → v.ownBlock = some k ∨ w.heap.size ≤ k) (h2 : AddPost lo (.slice ao n cap) css w1 e w2) : AddPost lo v css w e w2 := by
  obtain ⟨a, m, c, e1, e2, g, hc, hf⟩ := h2
  have hw1 : Chg (fun k => v.ownBlock = some k) w w1 := (Chg.of_below hb).trans h1
  exact ⟨a, m, c, e1, e2, g, chg_next hw1 f1 hc, fun k ek => (hf k ek).elim (fun h => f1 k h) (fun h => .inr (by have := hw1.size; omega))⟩

set_option maxRecDepth 100000 in
set_option maxHeartbeats 4000000 in
theorem putAnd_any (lo n cap : Nat) (ao : Option Addr) (css : List (List Int)) (N p1 p2 : Int) (w : World) (h : GridL w lo w.heap.size (.slice ao n cap) css) (hn : css.length = n) (hn2 : n ≤ 900) (hlo : lo ≤ w.heap.size) (hN0 : 1 ≤ N) (hN1 : N ≤ 60) (hp10 : 0 ≤ p1) (hp11 : p1 ≤ 190) (hp20 : 0 ≤ p2) (hp21 : p2 ≤ 190) :
    Calls Try.prog 77 #[.slice ao n cap, .int .i64 (2 * N), .int .i64 p1, .int .i64 p2] w (AddPost lo (.slice ao n cap) (cl3 css N (p1, p2)) w) := by
  have HG := hideN h
  have HN := hideN hn
  have ho1 := oppL_range hp10 hp11
  have ho2 := oppL_range hp20 hp21
  have HON : Hid (oppL (2 * N) = 2 * N + 1) := by show _ = _; unfold oppL; rw [if_pos (by omega)]
  have HFS : Hid (cl3 css N (p1, p2) = addCl (addCl (addCl css [2 * N + 1, p1]) [2 * N + 1, p2]) [2 * N, oppL p1, oppL p2]) := rfl
  clear h hn
  go_enter Try.func77, Try.ntmps77
  go_wp2_with fail
  refine (opposite_any _ _ (by omega) (by omega)).mono ?_
  rintro e w' ⟨rfl, hw'⟩
  obtain rfl := hw'.symm
  rw [HON.out]
  go_wp2_with fail
  have HBA : Hid (Below w.heap.size w (w.alloc (.cells #[.int .i64 (2 * N + 1), .int .i64 p1] 79))) := belOne _ _
  refine (putClause_any lo w.heap.size n cap ao css _ [2 * N + 1, p1] _ (by exact GridF.below HG.out HBA.out) HN.out (by omega) hlo (by simp) (by exact built2 w (2 * N + 1) p1 79) (by intro y hy; simp at hy; omega) (by simp)).mono ?_
  rintro e wA ⟨a7, n7, c7, rfl, hnA, hgA, hcA, hfA⟩
  have HNA := hideN hnA
  have hnA' : n7 ≤ 901 := by have := addCl_le css [2 * N + 1, p1]; have := HN.out; omega
  have HGA := hideN hgA
  have HCA : Hid (Chg (fun k => (Value.slice ao n cap).ownBlock = some k) w wA) := (Chg.of_below HBA.out).trans hcA
  have HFA : Hid (∀ k, (Value.slice a7 n7 c7).ownBlock = some k → (Value.slice ao n cap).ownBlock = some k ∨ w.heap.size ≤ k) := fun k e => (hfA k e).elim .inl (fun h => .inr (by have := HBA.out.size; omega))
  have hloA : lo ≤ wA.heap.size := Nat.le_trans hlo HCA.out.size
  clear hnA hgA hcA hfA
  generalize hcsA : addCl css [2 * N + 1, p1] = cssA at *
  have HCSA := hideN hcsA
  clear hcsA
  go_wp2_with fail
  refine (opposite_any _ _ (by omega) (by omega)).mono ?_
  rintro e w' ⟨rfl, hw'⟩
  obtain rfl := hw'.symm
  rw [HON.out]
  go_wp2_with fail
  have HBB : Hid (Below wA.heap.size wA (wA.alloc (.cells #[.int .i64 (2 * N + 1), .int .i64 p2] 79))) := belOne _ _
  refine (putClause_any lo wA.heap.size n7 c7 a7 cssA _ [2 * N + 1, p2] _ (by exact GridF.below HGA.out HBB.out) HNA.out (by omega) hloA (by simp) (by exact built2 wA (2 * N + 1) p2 79) (by intro y hy; simp at hy; omega) (by simp)).mono ?_
  rintro e wB ⟨a8, n8, c8, rfl, hnB, hgB, hcB, hfB⟩
  have HNB := hideN hnB
  have hnB' : n8 ≤ 902 := by have := addCl_le cssA [2 * N + 1, p2]; have := HNA.out; omega
  have HGB := hideN hgB
  have HCB : Hid (Chg (fun k => (Value.slice ao n cap).ownBlock = some k) w wB) := chg_next HCA.out HFA.out ((Chg.of_below HBB.out).trans hcB)
  have HFB : Hid (∀ k, (Value.slice a8 n8 c8).ownBlock = some k → (Value.slice ao n cap).ownBlock = some k ∨ w.heap.size ≤ k) := fun k e => (hfB k e).elim (fun h => HFA.out k h) (fun h => .inr (by have := HBB.out.size; have := HCA.out.size; omega))
  have hloB : lo ≤ wB.heap.size := Nat.le_trans hlo HCB.out.size
  clear hnB hgB hcB hfB
  generalize hcsB : addCl cssA [2 * N + 1, p2] = cssB at *
  have HCSB := hideN hcsB
  clear hcsB
  go_wp2_with fail
  refine (opposite_any _ _ hp10 (by omega)).mono ?_
  rintro e w' ⟨rfl, hw'⟩
  obtain rfl := hw'.symm
  go_wp2_with fail
  refine (opposite_any _ _ hp20 (by omega)).mono ?_
  rintro e w' ⟨rfl, hw'⟩
  obtain rfl := hw'.symm
  go_wp2_with fail
  have HBC : Hid (Below wB.heap.size wB (wB.alloc (.cells #[.int .i64 (2 * N), .int .i64 (oppL p1), .int .i64 (oppL p2)] 79))) := belOne _ _
  refine (putClause_any lo wB.heap.size n8 c8 a8 cssB _ [2 * N, oppL p1, oppL p2] _ (by exact GridF.below HGB.out HBC.out) HNB.out (by omega) hloB (by simp) (by exact built3 wB (2 * N) (oppL p1) (oppL p2) 79) (by intro y hy; simp at hy; omega) (by simp)).mono ?_
  rintro e wC hC
  have HR : Hid (AddPost lo (.slice ao n cap) (cl3 css N (p1, p2)) w e wC) := by
    show AddPost _ _ _ _ _ _
    rw [HFS.out]
    exact AddPost.next (Below.refl _ _) ((HCB.out).trans (Chg.of_below HBC.out)) HFB.out hC
  obtain ⟨a9, n9, c9, rfl, -⟩ := hC
  go_wp2
  go_ret
  exact HR.out

end Go.Proofs.Ytbdjdgamnnifjaa

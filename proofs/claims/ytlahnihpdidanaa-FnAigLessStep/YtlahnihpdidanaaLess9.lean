/-
  A circuit without what is needless: the program's startOf.
-/
import Derived.Test.YtlahnihpdidanaaLess8
namespace Go.Proofs.Ytlahnihpdidanaa
open Go.RowKit Go.Deep Go.Shelf
set_option linter.unusedVariables false

attribute [local go_sem] Oper.semAt_some

theorem info_meaning : (Try.prog.info? 79).map (fun i => (i.zero, i.size, i.bytes)) = some (some (.int .i64 0), 1, 8) := by kernel_rfl

set_option maxHeartbeats 400000 in
theorem meaningOf_any (x : Int) (w : World) (h0 : 0 ≤ x) (h1 : x ≤ 1000) :
    Calls Try.prog 78 #[.int .i64 x] w fun e w' => e = .returned (.int .i64 (2 * x)) ∧ w' = w := by
  have hw : IntKind.i64.wrap (2 * x) = 2 * x := by rw [IntKind.wrap_i64]; omega
  clear h0 h1
  go_enter Try.func78, Try.ntmps78
  go_wp2
  go_ret
  exact ⟨rfl, rfl⟩

set_option maxRecDepth 100000 in
set_option maxHeartbeats 2000000 in
theorem startOf_any (inp : Int) (al aa ab : Option Addr) (cl ca cb : Nat) (ls : List (Int × Bool)) (xs : List (Int × Int)) (bs : List Int) (F : Nat) (w : World) (h0 : 0 ≤ inp) (h8 : inp ≤ 8) (hl8 : ls.length ≤ 8) (hF : (F : Int) = 1 + inp + ls.length) :
    Calls Try.prog 108 #[.agg #[.int .i64 inp, .slice al ls.length cl, .slice aa xs.length ca, .slice ab bs.length cb]] w fun e w' => ∃ ao cap, e = .returned (.slice ao F cap) ∧ w'.ownsRow w.heap.size 79 1 (.slice ao F cap) F (intV (start2 F)) ∧ Below w.heap.size w w' := by
  have HFA : Hid (∀ V, Calls Try.prog 97 #[.agg #[.int .i64 inp, .slice al ls.length cl, .slice aa xs.length ca, .slice ab bs.length cb]] V fun e w' => e = .returned (.int .i64 (F : Int)) ∧ Below V.heap.size V w') := fun V => by rw [hF]; exact firstAnd_any _ _ _ _ _ _ _ _ _ _ _ h0 h8 hl8
  have hF17 : F ≤ 17 := by omega
  obtain ⟨im, him, hzm0, hzm1, hzm2⟩ := info_parts info_meaning
  clear hF h0 h8 hl8
  go_enter Try.func108, Try.ntmps108
  go_wp2_with fail
  refine (HFA.out _).mono ?_
  rintro e w1 ⟨rfl, hb1⟩
  have HB1 : Hid (Below w.heap.size w w1) := belNext (belOne _ _) hb1
  have HR1 : Hid (w1.ownsRow w.heap.size 79 1 (.slice none 0 0) 0 (intV ((start2 F).take 0))) := World.ownsRow_nil _ _ _ _
  clear hb1
  go_wp2_with fail
  go_loopw [3, 7] (fun t i wr => ∃ at' k cp, k ≤ F ∧ i = .int .i64 (k : Nat) ∧ t = .slice at' k cp ∧ Hid (wr.ownsRow w.heap.size 79 1 (.slice at' k cp) k (intV ((start2 F).take k))) ∧ Hid (Below w.heap.size w wr)) (fun _ i _ => F - (intOf i).toNat)
  case atStart => exact ⟨none, 0, 0, Nat.zero_le _, rfl, rfl, HR1, HB1⟩
  case round =>
    rename World => wg
    obtain ⟨at', k, cp, hk, rfl, rfl, hto, hbel⟩ := hrel
    by_cases hlt : k < F
    · have dlt : decide ((k : Int) < (F : Int)) = true := by simp; omega
      have HSU : Hid (intV ((start2 F).take (k + 1)) = intV ((start2 F).take k) ++ [.int .i64 (2 * (k : Int))]) := by show _ = _; rw [start2_take_succ F k hlt]; simp [intV]
      have HM := hideN (meaningOf_any (k : Int) wg (by omega) (by omega))
      have hsz := hbel.out.size
      have HOM := hideN (row_below hto.out (belOne wg (.cells #[.int .i64 (2 * (k : Int))] 79)))
      go_wp2_with fail
      refine HM.out.mono ?_
      rintro e w' ⟨rfl, hw'⟩
      obtain rfl := hw'.symm
      go_wp2_with (at_builtin; refine wpList_append_lies _ rfl _ _ 121 rfl w.heap.size 79 im (.int .i64 0) 1 8 Try.underlying121 him hzm0 hzm1 hzm2 rfl (by decide) _ k (intV ((start2 F).take k)) rfl HOM.out ⟨wg.heap.size, 0, none⟩ 1 1 [.int .i64 (2 * (k : Int))] rfl rfl (news1 _ _ _) (ints_oneCell .i64 [2 * (k : Int)]) (by decide) (by unfold maxLen; omega) (by omega) (by simp; omega) _ rfl ?_; intro g gcap w9 hown9 hgrow9 hat9 hlt9)
      have HO9 : Hid (w9.ownsRow w.heap.size 79 1 (.slice (some ⟨g, 0, none⟩) (k + 1) gcap) (k + 1) (intV ((start2 F).take (k + 1)))) := by show World.ownsRow _ _ _ _ _ _ _; rw [HSU.out]; exact hown9
      have HB9 : Hid (Below w.heap.size w w9) := (belNext hbel.out (belOne _ _)).grown hgrow9 (by simp; omega) (fun q e => (World.ownsRow.lt HOM.out q e).1)
      clear hown9 hgrow9 hat9 hlt9
      go_wp2_with fail
      go_roundw
      case rel => exact ⟨_, k + 1, gcap, by omega, by go_num, rfl, HO9, HB9⟩
      case measure => simp [intOf]; omega
    · obtain rfl : k = F := by omega
      have dlt : decide ((k : Int) < (k : Int)) = false := by simp
      have HTK : Hid (wg.ownsRow w.heap.size 79 1 (.slice at' k cp) k (intV (start2 k))) := by have h := hto.out; rw [List.take_of_length_le (by rw [start2_length]; exact Nat.le_refl _)] at h; exact h
      go_wp2_with fail
      go_ret
      exact ⟨_, _, rfl, HTK.out, hbel.out⟩

end Go.Proofs.Ytlahnihpdidanaa

/-
  Diagrams: the way at a place, and the table of what is said, by the program.
-/
import Derived.Test.YtknpifjkllcdeaaBdQ
import Derived.Test.YtknpifjkllcdeaaBdO
import Derived.Test.YtknpifjkllcdeaaHoldU
namespace Go.Proofs.Ytknpifjkllcdeaa
open Go.RowKit Go.Deep
set_option linter.unusedVariables false

attribute [local go_sem] Oper.semAt_some

theorem bits_and_pow (p e : Nat) (hp : p < 64) (he : e < 6) : Go.bits .and .i64 (p : Int) ((2 ^ e : Nat) : Int) = if p / 2 ^ e % 2 = 1 then ((2 ^ e : Nat) : Int) else 0 := by
  have h : ∀ (p : Fin 64) (e : Fin 6), Go.bits .and .i64 (p.val : Int) ((2 ^ e.val : Nat) : Int) = if p.val / 2 ^ e.val % 2 = 1 then ((2 ^ e.val : Nat) : Int) else 0 := by decide +kernel
  exact h ⟨p, hp⟩ ⟨e, he⟩

set_option maxHeartbeats 1000000 in
theorem weightOf_any (vars v : Nat) (w : World) (hv : v < vars) (h : vars ≤ 6) :
    Calls Try.prog 73 #[.int .i64 (vars : Int), .int .i64 (v : Int)] w fun e w' => e = .returned (.int .i64 ((2 ^ (vars - 1 - v) : Nat) : Int)) ∧ w' = w := by
  obtain ⟨e, he⟩ : ∃ e, vars - 1 - v = e := ⟨_, rfl⟩
  have hs : (vars : Int) - 1 - (v : Int) = (e : Int) := by omega
  have ht := two_wrap e (by omega)
  rw [he, ← ht]
  clear he ht
  go_enter Try.func73, Try.ntmps73
  go_wp2
  go_ret
  exact ⟨rfl, rfl⟩

set_option maxRecDepth 100000 in
set_option maxHeartbeats 4000000 in
theorem wayAt_any (vars p : Nat) (w : World) (h : vars ≤ 6) (hp : p < 64) :
    Calls Try.prog 74 #[.int .i64 (vars : Int), .int .i64 (p : Int)] w fun e w' => e = .returned (.slice (some ⟨w.heap.size, 0, none⟩) vars vars) ∧ Below w.heap.size w w' ∧ w'.rowIs w.heap.size 4 vars (fun i => .bool ((wayL vars p).getD i false)) := by
  have hmk := run_make_row' (P := Try.prog) 22 4 (.bool false) 1 Try.underlying22 info_bool rfl .i64 .i64 vars (by omega) (by omega)
  have HL := hideN (wayL_length vars p)
  have HW := hideN (fun V v (hv : v < vars) => weightOf_any vars v V hv h)
  go_enter Try.func74, Try.ntmps74
  go_wp2_with fail
  go_loopw [11] (fun i wr => ∃ j : Nat, j ≤ vars ∧ i = .int .i64 j ∧ Hid (Below w.heap.size w wr) ∧ Hid (wr.rowIs w.heap.size 4 vars (partB (wayL vars p) j))) (fun i _ => vars - (intOf i).toNat)
  case atStart => exact ⟨0, Nat.zero_le _, rfl, (Below.refl _ _).alloc (Nat.le_refl _) _, (World.rowIs_made w _ vars 4).congr (fun j _ => by simp [partB])⟩
  case round =>
    obtain ⟨j, hj, rfl, hb, hrow⟩ := hrel
    by_cases hlt : j < vars
    · have c2 := hrow.out.cell hlt
      have hfz := hrow.out.frozen j
      have hwl := hrow.out.lt
      have HST := hideN (partB_set hrow.out)
      have hg := wayL_get vars p j hlt
      have hand := bits_and_pow p (vars - 1 - j) hp (by omega)
      obtain ⟨E, hE⟩ : ∃ E, 2 ^ (vars - 1 - j) = E := ⟨_, rfl⟩
      have hE1 : 1 ≤ E := by rw [← hE]; exact Nat.one_le_two_pow
      rw [hE] at hand hg
      have HG := hideN hg
      have HWJ : Hid (∀ V, Calls Try.prog 73 #[.int .i64 (vars : Int), .int .i64 (j : Int)] V fun e w' => e = .returned (.int .i64 (E : Int)) ∧ w' = V) := fun V => by rw [← hE]; exact HW.out V j hlt
      clear hrow hg hE
      cases hx : (p / E % 2 == 1) with
      | true =>
        have hxe : p / E % 2 = 1 := by simpa using hx
        rw [if_pos hxe] at hand
        have hE0 : ((E : Int) == 0) = false := by simp; omega
        have hE2 : ((E : Int) != 0) = true := by simp; omega
        have HGT : Hid ((wayL vars p).getD j false = true) := by show _ = _; rw [HG.out, hx]
        clear hx hxe
        go_wp2_with fail
        refine (HWJ.out _).mono ?_
        rintro e w' ⟨rfl, hw'⟩
        obtain rfl := hw'.symm
        go_wp2_with fail
        go_roundw
        case rel => exact ⟨j + 1, by omega, by go_num, hb.out.setCell (Nat.le_refl _) _, by have h := HST.out; rw [HGT.out] at h; first | exact h | (rw [hE2]; exact h)⟩
        case measure => simp [intOf]; omega
      | false =>
        have hxe : ¬ p / E % 2 = 1 := by simpa using hx
        rw [if_neg hxe] at hand
        have HGT : Hid ((wayL vars p).getD j false = false) := by show _ = _; rw [HG.out, hx]
        clear hx hxe
        go_wp2_with fail
        refine (HWJ.out _).mono ?_
        rintro e w' ⟨rfl, hw'⟩
        obtain rfl := hw'.symm
        go_wp2_with fail
        go_roundw
        case rel => exact ⟨j + 1, by omega, by go_num, hb.out.setCell (Nat.le_refl _) _, by have h := HST.out; rw [HGT.out] at h; exact h⟩
        case measure => simp [intOf]; omega
    · obtain rfl : j = vars := by omega
      have HR : Hid (wr.rowIs w.heap.size 4 j (fun i => .bool ((wayL j p).getD i false))) := hrow.out.congr (fun i hi => by unfold partB; rw [if_pos (by omega)])
      clear hrow
      go_wp2_with fail
      go_ret
      exact ⟨rfl, hb.out, HR.out⟩

/-- A function value that says of each way whether it is. -/
def SaysF (w : World) (fv : Value) (vars : Nat) (g : List Bool → Bool) : Prop :=
  ∃ F binds, fv = .func (.func F) #[] binds ∧ (∀ args W, (callFunc F args).run Try.prog W = .ok (.enter F args) W) ∧ ∀ (W : World), Below w.heap.size w W → ∀ (Bw off cap : Nat) (ws : List Bool), ws.length = vars → Tab W Bw off cap ws → Calls Try.prog F (#[.slice (some ⟨Bw, off, none⟩) vars cap] ++ binds) W fun e w' => e = .returned (.bool (g ws)) ∧ Below W.heap.size W w'
theorem SaysF.below {w w' : World} {fv : Value} {vars : Nat} {g : List Bool → Bool} (h : SaysF w fv vars g) (hb : Below w.heap.size w w') : SaysF w' fv vars g := by
  obtain ⟨F, binds, e, he, hc⟩ := h
  exact ⟨F, binds, e, he, fun W hW => hc W (belNext hb hW)⟩

/-- The same, one block being left out of what must stay. -/
def SaysG (w : World) (k0 : Nat) (fv : Value) (vars : Nat) (g : List Bool → Bool) : Prop :=
  ∃ F binds, fv = .func (.func F) #[] binds ∧ (∀ args W, (callFunc F args).run Try.prog W = .ok (.enter F args) W) ∧ ∀ (W : World), Chg (· = k0) w W → ∀ (Bw off cap : Nat) (ws : List Bool), ws.length = vars → Tab W Bw off cap ws → Calls Try.prog F (#[.slice (some ⟨Bw, off, none⟩) vars cap] ++ binds) W fun e w' => e = .returned (.bool (g ws)) ∧ Below W.heap.size W w'
theorem SaysG.chg {w w' : World} {k0 k1 : Nat} {fv : Value} {vars : Nat} {g : List Bool → Bool} (h : SaysG w k0 fv vars g) (hc : Chg (· = k0) w w') (h1 : k1 = k0 ∨ w.heap.size ≤ k1) : SaysG w' k1 fv vars g := by
  obtain ⟨F, binds, e, he, hf⟩ := h
  refine ⟨F, binds, e, he, fun W hW => hf W ⟨hW.os.trans hc.os, hW.tape.trans hc.tape, hW.output.trans hc.output, Nat.le_trans hc.size hW.size, fun k hk hp => (hW.block k (Nat.lt_of_lt_of_le hk hc.size) (fun e2 => ?_)).trans (hc.block k hk hp)⟩⟩
  rcases h1 with h1 | h1
  · exact hp (e2.trans h1)
  · omega
theorem SaysG.says {w U : World} {k0 : Nat} {fv : Value} {vars : Nat} {g : List Bool → Bool} (h : SaysG w k0 fv vars g) (hc : Chg (· = k0) w U) : SaysF U fv vars g := by
  obtain ⟨F, binds, e, he, hf⟩ := h
  exact ⟨F, binds, e, he, fun W hW => hf W (hc.trans (Chg.of_below hW))⟩

/-- The table of what is said. -/
def tabF (vars : Nat) (g : List Bool → Bool) (n : Nat) : List Bool := (List.range n).map fun p => g (wayL vars p)
theorem tabF_succ (vars : Nat) (g : List Bool → Bool) (n : Nat) : tabF vars g (n + 1) = tabF vars g n ++ [g (wayL vars n)] := by unfold tabF; rw [List.range_succ, List.map_append]; rfl
theorem tabF_length (vars : Nat) (g : List Bool → Bool) (n : Nat) : (tabF vars g n).length = n := by simp [tabF]

theorem tab_of_rowG {w : World} {b n : Nat} {ms : List Bool} (hl : ms.length = n) (h : w.rowIs b 4 n (fun i => .bool (ms.getD i false))) : Tab w b 0 n ms := ⟨by omega, fun i hi => by rw [Nat.zero_add]; exact h.cell (by omega)⟩

theorem news1G (w : World) (x : Value) (t : TypeId) : ∀ j u, [x][j]? = some u → (w.alloc (.cells #[x] t)).cell? ((⟨w.heap.size, 0, none⟩ : Addr).add j) = some u := by
  intro j u h
  cases j with
  | zero => simp at h; subst h; simp [Addr.add]
  | succ j => simp at h

def TabPost (vars : Nat) (g : List Bool → Bool) (w : World) (e : Ending) (w' : World) : Prop :=
  ∃ b cap, e = .returned (.slice (some ⟨b, 0, none⟩) (2 ^ vars) cap) ∧ w'.ownsRow w.heap.size 4 1 (.slice (some ⟨b, 0, none⟩) (2 ^ vars) cap) (2 ^ vars) ((tabF vars g (2 ^ vars)).map Value.bool) ∧ Below w.heap.size w w'

set_option maxRecDepth 100000 in
set_option maxHeartbeats 4000000 in
theorem table_any (vars : Nat) (g : List Bool → Bool) (fv : Value) (w : World) (h : vars ≤ 6) (hS : SaysF w fv vars g) :
    Calls Try.prog 82 #[fv, .int .i64 (vars : Int)] w (TabPost vars g w) := by
  obtain ⟨F, binds, rfl, heF, hc⟩ := hS
  have HC := hideN hc
  have ht := two_wrap vars h
  obtain ⟨N, hN⟩ : ∃ N, 2 ^ vars = N := ⟨_, rfl⟩
  have hN64 : N ≤ 64 := by rw [← hN]; show _ ≤ 2 ^ 6; exact Nat.pow_le_pow_right (by decide) h
  have hN1 : 1 ≤ N := by rw [← hN]; exact Nat.one_le_two_pow
  unfold TabPost
  rw [hN] at ht ⊢
  obtain ⟨ib, hib, hz0, hz1, hz2⟩ := info_parts info_bool
  clear hc hN
  go_enter Try.func82, Try.ntmps82
  go_wp2_with fail
  simp only [ht]
  go_loopw [5, 9] (fun o i wr => ∃ ao cap j, j ≤ N ∧ i = .int .i64 (j : Nat) ∧ o = .slice ao j cap ∧ Hid (wr.ownsRow w.heap.size 4 1 (.slice ao j cap) j ((tabF vars g j).map Value.bool)) ∧ Hid (Below w.heap.size w wr)) (fun _ i _ => N - (intOf i).toNat)
  case atStart => exact ⟨none, 0, 0, Nat.zero_le _, rfl, rfl, World.ownsRow_nil _ _ _ _, Below.refl _ _⟩
  case round =>
    obtain ⟨ao, cap, j, hj, rfl, rfl, hrow, hb⟩ := hrel
    by_cases hlt : j < N
    · have HTS := hideN (tabF_succ vars g j)
      go_wp2_with fail
      refine (wayAt_any vars j wr h (by omega)).mono ?_
      rintro e w1 ⟨rfl, hb1, hr1⟩
      have HT := hideN (tab_of_rowG (wayL_length vars j) hr1)
      have HB1 := hideN hb1
      have hw1 := hr1.lt
      clear hr1 hb1
      go_wp2_with fail
      refine (HC.out w1 (belNext hb.out HB1.out) wr.heap.size 0 vars (wayL vars j) (wayL_length vars j) HT.out).mono ?_
      rintro e w2 ⟨rfl, hb2⟩
      have HR2 := hideN (row_below hrow.out (belNext HB1.out hb2))
      have HB2 : Hid (Below w.heap.size w w2) := belNext hb.out (belNext HB1.out hb2)
      have hsz2 := HB2.out.size
      have HRV : Hid ((w2.alloc (.cells #[.bool (g (wayL vars j))] 4)).ownsRow w.heap.size 4 1 (.slice ao j cap) j ((tabF vars g j).map Value.bool)) := row_below HR2.out (belOne _ _)
      clear hb2 hw1 HT hrow
      generalize g (wayL vars j) = y at *
      go_wp2_with (at_builtin; refine wpList_append_lies _ rfl _ _ 22 rfl w.heap.size 4 ib (.bool false) 1 1 Try.underlying22 hib hz0 hz1 hz2 rfl (by decide) _ j ((tabF vars g j).map Value.bool) rfl HRV.out ⟨w2.heap.size, 0, none⟩ 1 1 [.bool y] rfl rfl (by exact news1G w2 _ _) (by intro u hu; simp at hu; subst hu; rfl) (by decide) (by unfold maxLen; omega) (by omega) (by simp; omega) _ rfl ?_; intro gg gcap w8 hown8 hgrow8 hat8 hlt8)
      have HR8 : Hid (w8.ownsRow w.heap.size 4 1 (.slice (some ⟨gg, 0, none⟩) (j + 1) gcap) (j + 1) ((tabF vars g (j + 1)).map Value.bool)) := by
        rw [HTS.out, List.map_append]
        exact hown8
      have HB8 : Hid (Below w.heap.size w w8) := (belNext HB2.out (belOne _ _)).grown hgrow8 (by simp; omega) (fun k e => (World.ownsRow.lt HR2.out k e).1)
      clear hown8 hgrow8 hat8 hlt8
      go_wp2_with fail
      go_roundw
      case rel => exact ⟨some ⟨gg, 0, none⟩, gcap, j + 1, by omega, by go_num, rfl, HR8, HB8⟩
      case measure => simp [intOf]; omega
    · obtain rfl : j = N := by omega
      obtain ⟨b, hb'⟩ : ∃ b, ao = some ⟨b, 0, none⟩ := by
        obtain ⟨g', c', h1, h2, h3⟩ := World.ownsRow.form hrow.out (by omega)
        injection h1 with e1 _ _
        exact ⟨g', e1⟩
      subst hb'
      go_wp2_with fail
      go_ret
      exact ⟨b, cap, rfl, hrow.out, hb.out⟩

end Go.Proofs.Ytknpifjkllcdeaa

/-
  An expression as a text, by the program: shown, shownAt.
-/
import Derived.Test.YthbjihamhfahcaaDoorShA
import Derived.Ground.NamesProg
import Derived.Shelf.Small.Wraps
namespace Go.Proofs.YthbjihamhfahcaaDoor
open Go.RowKit Go.Deep Go.Shelf
set_option linter.unusedVariables false

attribute [local go_sem] Oper.semAt_some

def laysBoolT_ren : Go.Shelf.Ren := ⟨fun | 121 => 24 | 214 => 35 | n => n, fun | 4 => 4 | 9 => 9 | n => n, fun | n => n⟩
theorem laysBoolT : Go.Proofs.Lays.n121 Tryd.prog laysBoolT_ren := {
  mixed := by kernel_rfl
  f121 := Tryd.func24.trans (congrArg some (by kernel_rfl))
  f214 := Tryd.func35.trans (congrArg some (by kernel_rfl))
  t4 := Tryd.underlying4
  a4 := Tryd.isAgg4
  z4 := Tryd.sizeOf4
  v4 := Tryd.zeroValue4
  t9 := Tryd.underlying9
  a9 := Tryd.isAgg9
  z9 := Tryd.sizeOf9
  v9 := Tryd.zeroValue9 }

/-- What a text is answered by. -/
def TextPost (x : ByteArray) (w : World) (e : Ending) (w' : World) : Prop := e = .returned (.string x) ∧ Below w.heap.size w w'

/-- Numbers are told in decimals, from a world on. -/
def ItoaSays (w0 : World) : Prop := ∀ (n : Int) (W : World), 0 ≤ n → n ≤ 999 → Below w0.heap.size w0 W → Calls Tryd.prog 23 #[.int .i64 n] W (TextPost ⟨(Lib.itoa n).toArray⟩ W)

theorem formatBool_any (b : Bool) (w : World) : Calls Tryd.prog 24 #[.bool b] w fun e w' => e = .returned (.string (if b then ⟨#[116, 114, 117, 101]⟩ else ⟨#[102, 97, 108, 115, 101]⟩)) ∧ w' = w := by
  have h := Any.strconv_FormatBool laysBoolT b w
  change Calls Tryd.prog 24 _ _ _ at h
  cases b
  · exact h
  · exact h

/-- How much a term binds, by its own method. -/
def BindSays (V : Value) (b : Int) : Prop := ∃ (T : TypeId) (x : Value) (f : Nat), V = .iface T x ∧ (∀ W : World, (method 212 T x (nameIn Tryd.prog 37 0)).run Tryd.prog W = .ok (f, x) W) ∧ (∀ (args : Array Value) (W : World), (callFunc f args).run Tryd.prog W = .ok (.enter f args) W) ∧ ∀ W : World, Calls Tryd.prog f #[x] W fun e w' => e = .returned (.int .i64 b) ∧ Below W.heap.size W w'

theorem kids_iface {k n : Int} {s : ByteArray} {ks : List ExpT} {room deep r : Nat} (h : growT (.node k n s ks) room deep = some r) : ∀ j, j < ks.length → ∃ a b d, growT (ks.getD j e0) a b = some d := by
  intro j hj
  have hsome : ∃ r2, growL ks (room - 1) (deep + 1) = some r2 := by
    rw [growT] at h
    split at h
    · cases h
    · cases hg : growL ks (room - 1) (deep + 1) with
      | none => rw [hg] at h; cases h
      | some r2 => exact ⟨r2, rfl⟩
  obtain ⟨r2, hg2⟩ := hsome
  have h1 := growL_take_succ ks j (room - 1) (deep + 1) hj
  cases h2 : growL (ks.take j) (room - 1) (deep + 1) with
  | none => have := growL_none ks j (room - 1) (deep + 1) h2; rw [hg2] at this; cases this
  | some a =>
    rw [h2] at h1
    cases h3 : growT (ks.getD j e0) a (deep + 1) with
    | none =>
      have h4 : growL (ks.take (j + 1)) (room - 1) (deep + 1) = none := by rw [h1]; exact h3
      have := growL_none ks (j + 1) (room - 1) (deep + 1) h4; rw [hg2] at this; cases this
    | some d => exact ⟨a, deep + 1, d, h3⟩

theorem termVs_getD (ks : List ExpT) (j : Nat) (h : j < ks.length) : (termVs ks).getD j .nilIface = termV (ks.getD j e0) := by
  rw [List.getD, termVs_get ks j h]; rfl

theorem bind_says {t : ExpT} {room deep r : Nat} (h : growT t room deep = some r) : BindSays (termV t) (bindT t) := by
  have hA := ((growT_iff _ room deep r).1 h).1
  obtain ⟨k, n, s, ks⟩ := t
  have hkids := kids_iface h
  rw [allT, oneB_split] at hA
  simp only [Bool.and_eq_true, decide_eq_true_eq] at hA
  obtain ⟨⟨_, hkn, hj⟩, _⟩ := hA
  have hif : ∀ j, j < ks.length → ∃ a x, (termVs ks).getD j .nilIface = .iface a x := fun j hj => by
    obtain ⟨a, b, d, hg⟩ := hkids j hj
    rw [termVs_getD ks j hj]
    exact termV_iface hg
  rw [termV]
  have hB : ∀ m : Int, k = m → bindT (.node k n s ks) = if m = 7 then 0 else if m = 6 then signL s.toList + 1 else 5 := fun m hm => by rw [← hm]; rfl
  by_cases h1 : k = 1
  · have hT : termOne k n s (termVs ks) = .iface 50 (.int .i64 n) := by rw [h1]; unfold termOne; simp
    have hb : bindT (.node k n s ks) = 5 := (hB _ h1).trans (by simp)
    rw [hT, hb]
    exact ⟨_, _, _, rfl, bm_num _, be_num, binds_num _⟩
  by_cases h2 : k = 2
  · have hT : termOne k n s (termVs ks) = .iface 51 (.bool true) := by rw [h2]; unfold termOne; simp
    have hb : bindT (.node k n s ks) = 5 := (hB _ h2).trans (by simp)
    rw [hT, hb]
    exact ⟨_, _, _, rfl, bm_truth _, be_truth, binds_truth _⟩
  by_cases h3 : k = 3
  · have hT : termOne k n s (termVs ks) = .iface 51 (.bool false) := by rw [h3]; unfold termOne; simp
    have hb : bindT (.node k n s ks) = 5 := (hB _ h3).trans (by simp)
    rw [hT, hb]
    exact ⟨_, _, _, rfl, bm_truth _, be_truth, binds_truth _⟩
  by_cases h4 : k = 4
  · have hT : termOne k n s (termVs ks) = .iface 53 (.string s) := by rw [h4]; unfold termOne; simp
    have hb : bindT (.node k n s ks) = 5 := (hB _ h4).trans (by simp)
    rw [hT, hb]
    exact ⟨_, _, _, rfl, bm_name _, be_name, binds_name _⟩
  by_cases h5 : k = 5
  · have hT : termOne k n s (termVs ks) = .iface 55 (.agg #[(termVs ks).getD 0 .nilIface]) := by rw [h5]; unfold termOne; simp
    have hb : bindT (.node k n s ks) = 5 := (hB _ h5).trans (by simp)
    rw [hT, hb]
    exact ⟨_, _, _, rfl, bm_not _, be_not, binds_not _⟩
  by_cases h6 : k = 6
  · have hl : ks.length = 2 := by rw [h6] at hkn; exact hkn
    obtain ⟨a0, x0, e0⟩ := hif 0 (by omega)
    obtain ⟨a1, x1, e1⟩ := hif 1 (by omega)
    have hT : termOne k n s (termVs ks) = .iface 59 (.agg #[.string s, .iface a0 x0, .iface a1 x1]) := by rw [h6]; unfold termOne; simp only [e0, e1]; simp
    have hb : bindT (.node k n s ks) = signL s.toList + 1 := (hB _ h6).trans (by simp)
    rw [hT, hb]
    exact ⟨_, _, _, rfl, bm_two _, be_two, binds_two _ _ _ _ _⟩
  by_cases h7 : k = 7
  · have hT : termOne k n s (termVs ks) = .iface 62 (.agg #[(termVs ks).getD 0 .nilIface, (termVs ks).getD 1 .nilIface, (termVs ks).getD 2 .nilIface]) := by rw [h7]; unfold termOne; simp
    have hb : bindT (.node k n s ks) = 0 := (hB _ h7).trans (by simp)
    rw [hT, hb]
    exact ⟨_, _, _, rfl, bm_if _, be_if, binds_if _ _ _⟩
  exfalso
  unfold joinB at hj
  simp [h1, h2, h3, h4, h5, h6, h7] at hj

set_option maxRecDepth 100000 in
set_option maxHeartbeats 4000000 in
theorem shownAt_of (V : Value) (b : Int) (x : ByteArray) (hb : BindSays V b) (hx : x.size ≤ 2000000) (w : World) (hS : ∀ W, Below w.heap.size w W → Calls Tryd.prog 14 #[V] W (TextPost x W)) (least : Int) :
    Calls Tryd.prog 25 #[V, .int .i64 least] w (TextPost (inP least (b, x)) w) := by
  obtain ⟨T, y, f, rfl, hM, hE, hB⟩ := hb
  have HB := hideN (hB w)
  have HS := hideN hS
  obtain ⟨q, hq⟩ : ∃ q, decide (b < least) = q := ⟨_, rfl⟩
  have hv : inP least (b, x) = if q = true then ⟨#[40]⟩ ++ x ++ ⟨#[41]⟩ else x := by
    unfold inP
    rw [← hq]
    simp
  rw [hv]
  have hz1 : (1 : Int) + (x.size : Int) ≤ 9223372036854775807 := by omega
  have hz2 : (1 : Int) + (x.size : Int) + 1 ≤ 9223372036854775807 := by omega
  clear hB hS hv
  unfold TextPost at *
  go_enter Tryd.func25, Tryd.ntmps25
  go_wp2_with fail
  refine upon_inv2 (by kernel_rfl) (hM w) ?_
  go_wp2_with fail
  refine HB.out.mono ?_
  rintro e w2 ⟨rfl, hb2⟩
  have HB2 := hideN hb2
  clear hb2 hM hE
  cases q with
  | true =>
    go_wp2_with fail
    refine (HS.out w2 HB2.out).mono ?_
    rintro e w3 ⟨rfl, hb3⟩
    have HB3 := hideN (belNext HB2.out hb3)
    clear hb3
    go_wp2_with fail
    go_ret
    exact ⟨rfl, HB3.out⟩
  | false =>
    clear hz1 hz2 hx
    go_wp2_with fail
    refine (HS.out w2 HB2.out).mono ?_
    rintro e w3 ⟨rfl, hb3⟩
    have HB3 := hideN (belNext HB2.out hb3)
    clear hb3
    go_wp2_with fail
    go_ret
    exact ⟨rfl, HB3.out⟩

set_option maxRecDepth 100000 in
set_option maxHeartbeats 40000000 in
theorem shown_any (w0 : World) (HI : ItoaSays w0) : ∀ (t : ExpT), totE t ≤ 1048576 → ∀ (room deep r : Nat), room ≤ 60 → growT t room deep = some r → ∀ (w : World), Below w0.heap.size w0 w → Calls Tryd.prog 14 #[termV t] w (TextPost (showT t) w) := by
  refine ExpT.ind (fun k n s ks ih ht room deep r hroom hg w hw => ?_)
  have hall := (growT_iff _ room deep r).1 hg
  have hkids := kids_iface hg
  have hA := hall.1
  rw [allT, oneB_split] at hA
  simp only [Bool.and_eq_true, decide_eq_true_eq] at hA
  obtain ⟨⟨_, hkn, hj⟩, halls⟩ := hA
  have hszn := hall.2.1
  rw [sizeT] at hszn
  rw [totE] at ht
  have hkid : ∀ j, j < ks.length → (∀ W, Below w0.heap.size w0 W → Calls Tryd.prog 14 #[termV (ks.getD j e0)] W (TextPost (showT (ks.getD j e0)) W)) ∧ (showT (ks.getD j e0)).size ≤ 1100000 ∧ BindSays (termV (ks.getD j e0)) (bindT (ks.getD j e0)) ∧ ∃ a x, termV (ks.getD j e0) = .iface a x := by
    intro j hj
    have hm : ks.getD j e0 ∈ ks := by rw [List.getD, List.getElem?_eq_getElem hj]; simp
    have h1 := totL_mem hm
    obtain ⟨a, b, d, hg2⟩ := hkids j hj
    obtain ⟨q1, q2, _, _⟩ := (growT_iff _ a b d).1 hg2
    have h3 := sizeL_take_succ ks j hj
    have h4 := sizeL_take_le ks (j + 1)
    have h5 := show_size _ q1
    have hg3 : growT (ks.getD j e0) 60 0 ≠ none := by
      have hd := ((growT_iff _ a b d).1 hg2).2.2.1
      have := (growT_iff (ks.getD j e0) 60 0 (60 - sizeT (ks.getD j e0))).2 ⟨q1, by omega, by omega, rfl⟩
      rw [this]; simp
    obtain ⟨d2, hg4⟩ := Option.ne_none_iff_exists'.1 hg3
    exact ⟨fun W hW => ih (ks.getD j e0) hm (by omega) 60 0 d2 (by omega) hg4 W hW, by omega, bind_says hg2, termV_iface hg2⟩
  have hif : ∀ j, j < ks.length → (termVs ks).getD j .nilIface = termV (ks.getD j e0) ∧ (showL ks).getD j noP = (bindT (ks.getD j e0), showT (ks.getD j e0)) := fun j hj => ⟨termVs_getD ks j hj, showL_get ks j hj⟩
  have hss : s.size ≤ 1048576 := by omega
  rw [termV, showT]
  clear ih hg hkids hall halls ht
  by_cases h1 : k = 1
  · subst h1
    have hn : 0 ≤ n ∧ n ≤ 999 := by unfold joinB at hj; simpa using hj
    have hT : termOne 1 n s (termVs ks) = .iface 50 (.int .i64 n) := by unfold termOne; simp
    have hX : showOne 1 n s (showL ks) = ⟨(Lib.itoa n).toArray⟩ := by unfold showOne; simp
    rw [hT, hX]
    clear hT hX hkid hif
    have HCL := hideN (HI n w hn.1 hn.2 hw)
    have A1 := is_num (.int .i64 n)
    obtain ⟨X, hX⟩ : ∃ X : ByteArray, ⟨(Lib.itoa n).toArray⟩ = X := ⟨_, rfl⟩
    rw [hX] at HCL ⊢
    clear hX hn
    unfold TextPost at *
    go_enter Tryd.func14, Tryd.ntmps14
    go_wp2_with fail
    refine HCL.out.mono ?_
    rintro e w2 ⟨rfl, hb2⟩
    have HB2 := hideN hb2
    clear hb2
    go_wp2_with fail
    go_ret
    exact ⟨rfl, HB2.out⟩
  by_cases h2 : k = 2
  · subst h2
    have hT : termOne 2 n s (termVs ks) = .iface 51 (.bool true) := by unfold termOne; simp
    have hX : showOne 2 n s (showL ks) = ⟨#[116, 114, 117, 101]⟩ := by unfold showOne; simp
    rw [hT, hX]
    clear hT hX hkid hif
    have HCL := hideN (formatBool_any true w)
    have A1 := no_truth_num (.bool true)
    have A2 := is_truth (.bool true)
    unfold TextPost
    go_enter Tryd.func14, Tryd.ntmps14
    go_wp2_with fail
    refine HCL.out.mono ?_
    rintro e w2 ⟨rfl, hw2⟩
    obtain rfl := hw2
    go_wp2_with fail
    go_ret
    exact ⟨rfl, Below.refl _ _⟩
  by_cases h3 : k = 3
  · subst h3
    have hT : termOne 3 n s (termVs ks) = .iface 51 (.bool false) := by unfold termOne; simp
    have hX : showOne 3 n s (showL ks) = ⟨#[102, 97, 108, 115, 101]⟩ := by unfold showOne; simp
    rw [hT, hX]
    clear hT hX hkid hif
    have HCL := hideN (formatBool_any false w)
    have A1 := no_truth_num (.bool false)
    have A2 := is_truth (.bool false)
    unfold TextPost
    go_enter Tryd.func14, Tryd.ntmps14
    go_wp2_with fail
    refine HCL.out.mono ?_
    rintro e w2 ⟨rfl, hw2⟩
    obtain rfl := hw2
    go_wp2_with fail
    go_ret
    exact ⟨rfl, Below.refl _ _⟩
  by_cases h4 : k = 4
  · subst h4
    have hT : termOne 4 n s (termVs ks) = .iface 53 (.string s) := by unfold termOne; simp
    have hX : showOne 4 n s (showL ks) = s := by unfold showOne; simp
    rw [hT, hX]
    clear hT hX hkid hif
    have A1 := no_name_num (.string s)
    have A2 := no_name_truth (.string s)
    have A3 := is_name (.string s)
    unfold TextPost
    go_enter Tryd.func14, Tryd.ntmps14
    go_wp2_with fail
    go_ret
    exact ⟨rfl, Below.refl _ _⟩
  by_cases h5 : k = 5
  · subst h5
    have hl : ks.length = 1 := hkn
    obtain ⟨hS0, hz0, hb0, a0, x0, e0'⟩ := hkid 0 (by omega)
    obtain ⟨f0, g0⟩ := hif 0 (by omega)
    have hT : termOne 5 n s (termVs ks) = .iface 55 (.agg #[.iface a0 x0]) := by unfold termOne; simp only [f0, e0']; simp
    have hX : showOne 5 n s (showL ks) = ⟨#[33]⟩ ++ inP 5 (bindT (ks.getD 0 e0), showT (ks.getD 0 e0)) := by unfold showOne; simp only [g0]; simp
    rw [hT, hX]
    rw [e0'] at hS0 hb0
    have hP := inP_size 5 (bindT (ks.getD 0 e0), showT (ks.getD 0 e0))
    obtain ⟨b0, hb0'⟩ : ∃ b0, bindT (ks.getD 0 e0) = b0 := ⟨_, rfl⟩
    obtain ⟨z0, hz0'⟩ : ∃ z0, showT (ks.getD 0 e0) = z0 := ⟨_, rfl⟩
    rw [hb0'] at hb0
    rw [hz0'] at hS0 hz0
    rw [hb0', hz0'] at hP ⊢
    have HAT := hideN (fun W (hW : Below w.heap.size w W) => shownAt_of (.iface a0 x0) b0 z0 hb0 (by omega) W (fun W' hW' => hS0 W' (hw.trans ((belNext hW hW').mono hw.size))) 5)
    obtain ⟨Y, hY⟩ : ∃ Y, inP 5 (b0, z0) = Y := ⟨_, rfl⟩
    rw [hY] at hP ⊢
    simp only [hY] at HAT
    have A1 := no_not_num (.agg #[.iface a0 x0])
    have A2 := no_not_truth (.agg #[.iface a0 x0])
    have A3 := no_not_name (.agg #[.iface a0 x0])
    have A4 := is_not (.agg #[.iface a0 x0])
    have hz1 : (1 : Int) + (Y.size : Int) ≤ 9223372036854775807 := by simp at hP; omega
    obtain ⟨W1, hW1⟩ : ∃ W1, W1 = w.alloc (.cells #[.iface a0 x0] 55) := ⟨_, rfl⟩
    have HB1 : Hid (Below w.heap.size w W1) := by rw [hW1]; exact belOne _ _
    have HW1 := hideN hW1
    clear hT hX hkid hif hS0 hb0 hz0 f0 g0 e0' hb0' hz0' hY hP hW1
    unfold TextPost at *
    go_enter Tryd.func14, Tryd.ntmps14
    go_wp2_with fail
    try rw [← HW1.out]
    refine (HAT.out W1 HB1.out).mono ?_
    rintro e w2 ⟨rfl, hb2⟩
    have HB2 := hideN (belNext HB1.out hb2)
    clear hb2
    go_wp2_with fail
    go_ret
    exact ⟨rfl, HB2.out⟩
  by_cases h6 : k = 6
  · subst h6
    have hl : ks.length = 2 := hkn
    obtain ⟨hS0, hz0, hb0, a0, x0, e0'⟩ := hkid 0 (by omega)
    obtain ⟨f0, g0⟩ := hif 0 (by omega)
    obtain ⟨hS1, hz1, hb1, a1, x1, e1'⟩ := hkid 1 (by omega)
    obtain ⟨f1, g1⟩ := hif 1 (by omega)
    have hT : termOne 6 n s (termVs ks) = .iface 59 (.agg #[.string s, .iface a0 x0, .iface a1 x1]) := by unfold termOne; simp only [f0, e0', f1, e1']; simp
    obtain ⟨l, hl6⟩ : ∃ l, signL s.toList + 1 = l := ⟨_, rfl⟩
    have hX : showOne 6 n s (showL ks) = inP l (bindT (ks.getD 0 e0), showT (ks.getD 0 e0)) ++ ⟨#[32]⟩ ++ s ++ ⟨#[32]⟩ ++ inP (l + 1) (bindT (ks.getD 1 e0), showT (ks.getD 1 e0)) := by unfold showOne; simp only [g0, g1, hl6]; simp
    rw [hT, hX]
    have hls : -1 ≤ l ∧ l ≤ 10 := by rw [← hl6]; unfold signL; repeat' split <;> omega
    have HBD := hideN (fun W => binds_two s a0 a1 x0 x1 W)
    simp only [hl6] at HBD
    rw [e0'] at hS0 hb0
    obtain ⟨b0, hb0'⟩ : ∃ b, bindT (ks.getD 0 e0) = b := ⟨_, rfl⟩
    obtain ⟨z0, hz0'⟩ : ∃ z, showT (ks.getD 0 e0) = z := ⟨_, rfl⟩
    rw [hb0'] at hb0
    rw [hz0'] at hS0 hz0
    rw [e1'] at hS1 hb1
    obtain ⟨b1, hb1'⟩ : ∃ b, bindT (ks.getD 1 e0) = b := ⟨_, rfl⟩
    obtain ⟨z1, hz1'⟩ : ∃ z, showT (ks.getD 1 e0) = z := ⟨_, rfl⟩
    rw [hb1'] at hb1
    rw [hz1'] at hS1 hz1
    rw [hb0', hz0', hb1', hz1']
    have hP0 := inP_size l (b0, z0)
    have hP1 := inP_size (l + 1) (b1, z1)
    have HA0 := hideN (fun W (hW : Below w.heap.size w W) => shownAt_of (.iface a0 x0) b0 z0 hb0 (by omega) W (fun W' hW' => hS0 W' (hw.trans ((belNext hW hW').mono hw.size))) l)
    have HA1 := hideN (fun W (hW : Below w.heap.size w W) => shownAt_of (.iface a1 x1) b1 z1 hb1 (by omega) W (fun W' hW' => hS1 W' (hw.trans ((belNext hW hW').mono hw.size))) (l + 1))
    obtain ⟨Y0, hY0⟩ : ∃ Y, inP l (b0, z0) = Y := ⟨_, rfl⟩
    obtain ⟨Y1, hY1⟩ : ∃ Y, inP (l + 1) (b1, z1) = Y := ⟨_, rfl⟩
    rw [hY0] at hP0
    simp only [hY0] at HA0
    rw [hY1] at hP1
    simp only [hY1] at HA1
    rw [hY0, hY1]
    have A1 := no_two_num (.agg #[.string s, .iface a0 x0, .iface a1 x1])
    have A2 := no_two_truth (.agg #[.string s, .iface a0 x0, .iface a1 x1])
    have A3 := no_two_name (.agg #[.string s, .iface a0 x0, .iface a1 x1])
    have A4 := no_two_not (.agg #[.string s, .iface a0 x0, .iface a1 x1])
    have A5 := is_two (.agg #[.string s, .iface a0 x0, .iface a1 x1])
    have hp0 : Y0.size ≤ 2000000 := by simp at hP0; omega
    have hp1 : Y1.size ≤ 2000000 := by simp at hP1; omega
    have hq1 : (Y0.size : Int) + 1 ≤ 9223372036854775807 := by omega
    have hq2 : (Y0.size : Int) + 1 + (s.size : Int) ≤ 9223372036854775807 := by omega
    have hq3 : (Y0.size : Int) + 1 + (s.size : Int) + 1 ≤ 9223372036854775807 := by omega
    have hq4 : (Y0.size : Int) + 1 + (s.size : Int) + 1 + (Y1.size : Int) ≤ 9223372036854775807 := by omega
    have hr1 : Y0.size ≤ 9223372036854775806 := by omega
    have hr2 : Y0.size + 1 + s.size ≤ 9223372036854775807 := by omega
    have hr3 : Y0.size + 1 + s.size ≤ 9223372036854775806 := by omega
    have hr4 : Y0.size + 1 + s.size + 1 + Y1.size ≤ 9223372036854775807 := by omega
    have hr5 : IntKind.i64.wrap (l + 1) = l + 1 := by rw [IntKind.wrap_i64]; omega
    clear hq1 hq2 hq3 hq4
    obtain ⟨W1, hW1⟩ : ∃ W1, W1 = w.alloc (.cells #[.string s, .iface a0 x0, .iface a1 x1] 59) := ⟨_, rfl⟩
    have HB1 : Hid (Below w.heap.size w W1) := by rw [hW1]; exact belOne _ _
    have HC1 : Hid (∀ V, Below W1.heap.size W1 V → V.cell? ⟨w.heap.size, 0, none⟩ = some (.string s) ∧ V.cell? ⟨w.heap.size, 1, none⟩ = some (.iface a0 x0) ∧ V.cell? ⟨w.heap.size, 2, none⟩ = some (.iface a1 x1)) := fun V hV => by
      have c0 : W1.cell? ⟨w.heap.size, 0, none⟩ = some (.string s) := by rw [hW1]; simp
      have c1 : W1.cell? ⟨w.heap.size, 1, none⟩ = some (.iface a0 x0) := by rw [hW1]; simp
      have c2 : W1.cell? ⟨w.heap.size, 2, none⟩ = some (.iface a1 x1) := by rw [hW1]; simp
      exact ⟨(hV.cell (cell_lt c0)).trans c0, (hV.cell (cell_lt c1)).trans c1, (hV.cell (cell_lt c2)).trans c2⟩
    have HW1 := hideN hW1
    clear hT hX hkid hif hS0 hb0 hz0 f0 g0 e0' hb0' hz0' hY0 hP0 hW1 hS1 hb1 hz1 f1 g1 e1' hb1' hz1' hY1 hP1 hl6
    have hd1 := below_drewN (Below.refl W1.heap.size W1) 1
    unfold TextPost at *
    go_enter Tryd.func14, Tryd.ntmps14
    go_wp2_with fail
    try rw [← HW1.out]
    obtain ⟨c0, c1, c2⟩ := HC1.out W1.drew hd1
    refine region_U (fin := 17) (S := fun V' => V'.cell? ⟨w.heap.size, 0, none⟩ = some (.string s) ∧ V'.cell? ⟨w.heap.size, 1, none⟩ = some (.iface a0 x0) ∧ V'.cell? ⟨w.heap.size, 2, none⟩ = some (.iface a1 x1)) (by kernel_rfl) ⟨c0, c1, c2⟩ (fun hHeld => ?_)
    clear hHeld
    refine takeU (i := 0) (v := .pointer (some ⟨w.heap.size, 1, none⟩)) rfl (by rfl) (by kernel_rfl) (by kernel_rfl) (reach_one (by kernel_rfl)) (by kernel_rfl) (by kernel_rfl) (fun _ _ _ h => h) (Or.inl ⟨by rfl, fun w hS => by obtain ⟨c0, c1, c2⟩ := hS; go_simp⟩) ⟨c0, c1, c2⟩ ?_
    simp only [List.getElem_toArray, List.getElem_cons_zero, Act.put, List.setIfInBounds_toArray, List.set_cons_zero, List.set_cons_succ]
    refine takeU (i := 1) (v := .iface a0 x0) rfl (by rfl) (by kernel_rfl) (by kernel_rfl) (reach_one (by kernel_rfl)) (by kernel_rfl) (by kernel_rfl) (fun _ _ _ h => h) (Or.inl ⟨by rfl, fun w hS => by obtain ⟨c0, c1, c2⟩ := hS; go_simp⟩) ⟨c0, c1, c2⟩ ?_
    simp only [List.getElem_toArray, List.getElem_cons_zero, List.getElem_cons_succ, Act.put, List.setIfInBounds_toArray, List.set_cons_zero, List.set_cons_succ]
    refine takeU (i := 2) (v := .agg #[.string s, .iface a0 x0, .iface a1 x1]) rfl (by rfl) (by kernel_rfl) (by kernel_rfl) (reach_one (by kernel_rfl)) (by kernel_rfl) (by kernel_rfl) (fun _ _ _ h => h) (Or.inl ⟨by rfl, fun w hS => by obtain ⟨c0, c1, c2⟩ := hS; go_simp⟩) ⟨c0, c1, c2⟩ ?_
    simp only [List.getElem_toArray, List.getElem_cons_zero, List.getElem_cons_succ, Act.put, List.setIfInBounds_toArray, List.set_cons_zero, List.set_cons_succ]
    refine takeU (i := 6) (v := .pointer (some ⟨w.heap.size, 0, none⟩)) rfl (by rfl) (by kernel_rfl) (by kernel_rfl) (reach_one (by kernel_rfl)) (by kernel_rfl) (by kernel_rfl) (fun _ _ _ h => h) (Or.inl ⟨by rfl, fun w hS => by obtain ⟨c0, c1, c2⟩ := hS; go_simp⟩) ⟨c0, c1, c2⟩ ?_
    simp only [List.getElem_toArray, List.getElem_cons_zero, List.getElem_cons_succ, Act.put, List.setIfInBounds_toArray, List.set_cons_zero, List.set_cons_succ]
    refine takeU (i := 7) (v := .string s) rfl (by rfl) (by kernel_rfl) (by kernel_rfl) (reach_one (by kernel_rfl)) (by kernel_rfl) (by kernel_rfl) (fun _ _ _ h => h) (Or.inl ⟨by rfl, fun w hS => by obtain ⟨c0, c1, c2⟩ := hS; go_simp⟩) ⟨c0, c1, c2⟩ ?_
    simp only [List.getElem_toArray, List.getElem_cons_zero, List.getElem_cons_succ, Act.put, List.setIfInBounds_toArray, List.set_cons_zero, List.set_cons_succ]
    refine takeU (i := 10) (v := .pointer (some ⟨w.heap.size, 2, none⟩)) rfl (by rfl) (by kernel_rfl) (by kernel_rfl) (reach_one (by kernel_rfl)) (by kernel_rfl) (by kernel_rfl) (fun _ _ _ h => h) (Or.inl ⟨by rfl, fun w hS => by obtain ⟨c0, c1, c2⟩ := hS; go_simp⟩) ⟨c0, c1, c2⟩ ?_
    simp only [List.getElem_toArray, List.getElem_cons_zero, List.getElem_cons_succ, Act.put, List.setIfInBounds_toArray, List.set_cons_zero, List.set_cons_succ]
    refine takeU (i := 11) (v := .iface a1 x1) rfl (by rfl) (by kernel_rfl) (by kernel_rfl) (reach_one (by kernel_rfl)) (by kernel_rfl) (by kernel_rfl) (fun _ _ _ h => h) (Or.inl ⟨by rfl, fun w hS => by obtain ⟨c0, c1, c2⟩ := hS; go_simp⟩) ⟨c0, c1, c2⟩ ?_
    simp only [List.getElem_toArray, List.getElem_cons_zero, List.getElem_cons_succ, Act.put, List.setIfInBounds_toArray, List.set_cons_zero, List.set_cons_succ]
    refine takeU (i := 12) (v := .agg #[.string s, .iface a0 x0, .iface a1 x1]) rfl (by rfl) (by kernel_rfl) (by kernel_rfl) (reach_one (by kernel_rfl)) (by kernel_rfl) (by kernel_rfl) (fun _ _ _ h => h) (Or.inl ⟨by rfl, fun w hS => by obtain ⟨c0, c1, c2⟩ := hS; go_simp⟩) ⟨c0, c1, c2⟩ ?_
    simp only [List.getElem_toArray, List.getElem_cons_zero, List.getElem_cons_succ, Act.put, List.setIfInBounds_toArray, List.set_cons_zero, List.set_cons_succ]
    refine oneU (i := 3) (by kernel_rfl) rfl (by rfl) ?_
    simp only [List.getElem_toArray, List.getElem_cons_zero, List.getElem_cons_succ]
    go_simp
    refine (HBD.out W1.drew).mono ?_
    rintro e V2 ⟨rfl, hb2⟩
    have HB2 := hideN (belNext hd1 hb2)
    clear c0 c1 c2
    obtain ⟨c0, c1, c2⟩ := HC1.out V2 HB2.out
    first | refine ⟨⟨c0, c1, c2⟩, ?_⟩ | skip
    clear hb2
    refine oneU (i := 4) (by kernel_rfl) rfl (by rfl) ?_
    simp only [List.getElem_toArray, List.getElem_cons_zero, List.getElem_cons_succ]
    go_simp
    refine (HA0.out V2 (belNext HB1.out HB2.out)).mono ?_
    rintro e V3 ⟨rfl, hb3⟩
    have HB3 := hideN (belNext HB2.out hb3)
    clear c0 c1 c2
    obtain ⟨c0, c1, c2⟩ := HC1.out V3 HB3.out
    first | refine ⟨⟨c0, c1, c2⟩, ?_⟩ | skip
    clear hb3
    refine takeU (i := 5) (v := .string (Y0 ++ ⟨#[32]⟩)) rfl (by rfl) (by kernel_rfl) (by kernel_rfl) (reach_one (by kernel_rfl)) (by kernel_rfl) (by kernel_rfl) (fun _ _ _ h => h) (Or.inl ⟨by rfl, fun w hS => by obtain ⟨c0, c1, c2⟩ := hS; go_simp⟩) ⟨c0, c1, c2⟩ ?_
    simp only [List.getElem_toArray, List.getElem_cons_zero, List.getElem_cons_succ, Act.put, List.setIfInBounds_toArray, List.set_cons_zero, List.set_cons_succ]
    refine takeU (i := 8) (v := .string (Y0 ++ ⟨#[32]⟩ ++ s)) rfl (by rfl) (by kernel_rfl) (by kernel_rfl) (reach_one (by kernel_rfl)) (by kernel_rfl) (by kernel_rfl) (fun _ _ _ h => h) (Or.inl ⟨by rfl, fun w hS => by obtain ⟨c0, c1, c2⟩ := hS; go_simp⟩) ⟨c0, c1, c2⟩ ?_
    simp only [List.getElem_toArray, List.getElem_cons_zero, List.getElem_cons_succ, Act.put, List.setIfInBounds_toArray, List.set_cons_zero, List.set_cons_succ]
    refine takeU (i := 9) (v := .string (Y0 ++ ⟨#[32]⟩ ++ s ++ ⟨#[32]⟩)) rfl (by rfl) (by kernel_rfl) (by kernel_rfl) (reach_one (by kernel_rfl)) (by kernel_rfl) (by kernel_rfl) (fun _ _ _ h => h) (Or.inl ⟨by rfl, fun w hS => by obtain ⟨c0, c1, c2⟩ := hS; go_simp⟩) ⟨c0, c1, c2⟩ ?_
    simp only [List.getElem_toArray, List.getElem_cons_zero, List.getElem_cons_succ, Act.put, List.setIfInBounds_toArray, List.set_cons_zero, List.set_cons_succ]
    refine oneU (i := 13) (by kernel_rfl) rfl (by rfl) ?_
    simp only [List.getElem_toArray, List.getElem_cons_zero, List.getElem_cons_succ]
    go_simp
    refine (HBD.out V3).mono ?_
    rintro e V4 ⟨rfl, hb4⟩
    have HB4 := hideN (belNext HB3.out hb4)
    clear c0 c1 c2
    obtain ⟨c0, c1, c2⟩ := HC1.out V4 HB4.out
    first | refine ⟨⟨c0, c1, c2⟩, ?_⟩ | skip
    clear hb4
    refine takeU (i := 14) (v := .int .i64 (l + 1)) rfl (by rfl) (by kernel_rfl) (by kernel_rfl) (reach_one (by kernel_rfl)) (by kernel_rfl) (by kernel_rfl) (fun _ _ _ h => h) (Or.inl ⟨by rfl, fun w hS => by obtain ⟨c0, c1, c2⟩ := hS; go_simp⟩) ⟨c0, c1, c2⟩ ?_
    simp only [List.getElem_toArray, List.getElem_cons_zero, List.getElem_cons_succ, Act.put, List.setIfInBounds_toArray, List.set_cons_zero, List.set_cons_succ]
    refine oneU (i := 15) (by kernel_rfl) rfl (by rfl) ?_
    simp only [List.getElem_toArray, List.getElem_cons_zero, List.getElem_cons_succ]
    go_simp
    refine (HA1.out V4 (belNext HB1.out HB4.out)).mono ?_
    rintro e V5 ⟨rfl, hb5⟩
    have HB5 := hideN (belNext HB4.out hb5)
    clear c0 c1 c2
    obtain ⟨c0, c1, c2⟩ := HC1.out V5 HB5.out
    first | refine ⟨⟨c0, c1, c2⟩, ?_⟩ | skip
    clear hb5
    refine takeU (i := 16) (v := .string (Y0 ++ ⟨#[32]⟩ ++ s ++ ⟨#[32]⟩ ++ Y1)) rfl (by rfl) (by kernel_rfl) (by kernel_rfl) (reach_one (by kernel_rfl)) (by kernel_rfl) (by kernel_rfl) (fun _ _ _ h => h) (Or.inl ⟨by rfl, fun w hS => by obtain ⟨c0, c1, c2⟩ := hS; go_simp⟩) ⟨c0, c1, c2⟩ ?_
    simp only [List.getElem_toArray, List.getElem_cons_zero, List.getElem_cons_succ, Act.put, List.setIfInBounds_toArray, List.set_cons_zero, List.set_cons_succ]
    refine oneU (i := 17) (by kernel_rfl) rfl (by rfl) ?_
    simp only [List.getElem_toArray, List.getElem_cons_zero, List.getElem_cons_succ]
    go_simp
    refine doneU (by kernel_rfl) ?_ _
    go_wp2_with fail
    go_ret
    exact ⟨rfl, belNext HB1.out HB5.out⟩
  by_cases h7 : k = 7
  · subst h7
    have hl : ks.length = 3 := hkn
    obtain ⟨hS0, hz0, hb0, a0, x0, e0'⟩ := hkid 0 (by omega)
    obtain ⟨f0, g0⟩ := hif 0 (by omega)
    obtain ⟨hS1, hz1, hb1, a1, x1, e1'⟩ := hkid 1 (by omega)
    obtain ⟨f1, g1⟩ := hif 1 (by omega)
    obtain ⟨hS2, hz2, hb2, a2, x2, e2'⟩ := hkid 2 (by omega)
    obtain ⟨f2, g2⟩ := hif 2 (by omega)
    have hT : termOne 7 n s (termVs ks) = .iface 62 (.agg #[.iface a0 x0, .iface a1 x1, .iface a2 x2]) := by unfold termOne; simp only [f0, e0', f1, e1', f2, e2']; simp
    have hX : showOne 7 n s (showL ks) = ⟨#[105, 102, 32]⟩ ++ showT (ks.getD 0 e0) ++ ⟨#[32, 116, 104, 101, 110, 32]⟩ ++ showT (ks.getD 1 e0) ++ ⟨#[32, 101, 108, 115, 101, 32]⟩ ++ showT (ks.getD 2 e0) := by unfold showOne; simp only [g0, g1, g2]; simp
    rw [hT, hX]
    rw [e0'] at hS0 hb0
    obtain ⟨b0, hb0'⟩ : ∃ b, bindT (ks.getD 0 e0) = b := ⟨_, rfl⟩
    obtain ⟨z0, hz0'⟩ : ∃ z, showT (ks.getD 0 e0) = z := ⟨_, rfl⟩
    rw [hb0'] at hb0
    rw [hz0'] at hS0 hz0
    rw [e1'] at hS1 hb1
    obtain ⟨b1, hb1'⟩ : ∃ b, bindT (ks.getD 1 e0) = b := ⟨_, rfl⟩
    obtain ⟨z1, hz1'⟩ : ∃ z, showT (ks.getD 1 e0) = z := ⟨_, rfl⟩
    rw [hb1'] at hb1
    rw [hz1'] at hS1 hz1
    rw [e2'] at hS2 hb2
    obtain ⟨b2, hb2'⟩ : ∃ b, bindT (ks.getD 2 e0) = b := ⟨_, rfl⟩
    obtain ⟨z2, hz2'⟩ : ∃ z, showT (ks.getD 2 e0) = z := ⟨_, rfl⟩
    rw [hb2'] at hb2
    rw [hz2'] at hS2 hz2
    rw [hz0', hz1', hz2']
    have HA0 := hideN (fun W (hW : Below w.heap.size w W) => hS0 W (hw.trans (hW.mono hw.size)))
    have HA1 := hideN (fun W (hW : Below w.heap.size w W) => hS1 W (hw.trans (hW.mono hw.size)))
    have HA2 := hideN (fun W (hW : Below w.heap.size w W) => hS2 W (hw.trans (hW.mono hw.size)))
    have A1 := no_if_num (.agg #[.iface a0 x0, .iface a1 x1, .iface a2 x2])
    have A2 := no_if_truth (.agg #[.iface a0 x0, .iface a1 x1, .iface a2 x2])
    have A3 := no_if_name (.agg #[.iface a0 x0, .iface a1 x1, .iface a2 x2])
    have A4 := no_if_not (.agg #[.iface a0 x0, .iface a1 x1, .iface a2 x2])
    have A5 := no_if_two (.agg #[.iface a0 x0, .iface a1 x1, .iface a2 x2])
    have A6 := is_if (.agg #[.iface a0 x0, .iface a1 x1, .iface a2 x2])
    have hq1 : (3 : Int) + (z0.size : Int) ≤ 9223372036854775807 := by omega
    have hq2 : (3 : Int) + (z0.size : Int) + 6 ≤ 9223372036854775807 := by omega
    have hq3 : (3 : Int) + (z0.size : Int) + 6 + (z1.size : Int) ≤ 9223372036854775807 := by omega
    have hq4 : (3 : Int) + (z0.size : Int) + 6 + (z1.size : Int) + 6 ≤ 9223372036854775807 := by omega
    have hq5 : (3 : Int) + (z0.size : Int) + 6 + (z1.size : Int) + 6 + (z2.size : Int) ≤ 9223372036854775807 := by omega
    have hr1 : 3 + z0.size ≤ 9223372036854775807 := by omega
    have hr2 : 3 + z0.size ≤ 9223372036854775801 := by omega
    have hr3 : 3 + z0.size + 6 + z1.size ≤ 9223372036854775807 := by omega
    have hr4 : 3 + z0.size + 6 + z1.size ≤ 9223372036854775801 := by omega
    have hr5 : 3 + z0.size + 6 + z1.size + 6 + z2.size ≤ 9223372036854775807 := by omega
    clear hq1 hq2 hq3 hq4 hq5
    obtain ⟨W1, hW1⟩ : ∃ W1, W1 = w.alloc (.cells #[.iface a0 x0, .iface a1 x1, .iface a2 x2] 62) := ⟨_, rfl⟩
    have HB1 : Hid (Below w.heap.size w W1) := by rw [hW1]; exact belOne _ _
    have HC1 : Hid (∀ V, Below W1.heap.size W1 V → V.cell? ⟨w.heap.size, 0, none⟩ = some (.iface a0 x0) ∧ V.cell? ⟨w.heap.size, 1, none⟩ = some (.iface a1 x1) ∧ V.cell? ⟨w.heap.size, 2, none⟩ = some (.iface a2 x2)) := fun V hV => by
      have c0 : W1.cell? ⟨w.heap.size, 0, none⟩ = some (.iface a0 x0) := by rw [hW1]; simp
      have c1 : W1.cell? ⟨w.heap.size, 1, none⟩ = some (.iface a1 x1) := by rw [hW1]; simp
      have c2 : W1.cell? ⟨w.heap.size, 2, none⟩ = some (.iface a2 x2) := by rw [hW1]; simp
      exact ⟨(hV.cell (cell_lt c0)).trans c0, (hV.cell (cell_lt c1)).trans c1, (hV.cell (cell_lt c2)).trans c2⟩
    have HW1 := hideN hW1
    clear hT hX hkid hif hS0 hb0 f0 g0 e0' hb0' hz0' hW1 hS1 hb1 f1 g1 e1' hb1' hz1' hS2 hb2 f2 g2 e2' hb2' hz2'
    have hd1 := below_drewN (Below.refl W1.heap.size W1) 1
    unfold TextPost at *
    go_enter Tryd.func14, Tryd.ntmps14
    go_wp2_with fail
    try rw [← HW1.out]
    obtain ⟨c0, c1, c2⟩ := HC1.out W1.drew hd1
    refine region_U (fin := 14) (S := fun V' => V'.cell? ⟨w.heap.size, 0, none⟩ = some (.iface a0 x0) ∧ V'.cell? ⟨w.heap.size, 1, none⟩ = some (.iface a1 x1) ∧ V'.cell? ⟨w.heap.size, 2, none⟩ = some (.iface a2 x2)) (by kernel_rfl) ⟨c0, c1, c2⟩ (fun hHeld => ?_)
    clear hHeld
    refine takeU (i := 0) (v := .pointer (some ⟨w.heap.size, 0, none⟩)) rfl (by rfl) (by kernel_rfl) (by kernel_rfl) (reach_one (by kernel_rfl)) (by kernel_rfl) (by kernel_rfl) (fun _ _ _ h => h) (Or.inl ⟨by rfl, fun w hS => by obtain ⟨c0, c1, c2⟩ := hS; go_simp⟩) ⟨c0, c1, c2⟩ ?_
    simp only [List.getElem_toArray, List.getElem_cons_zero, Act.put, List.setIfInBounds_toArray, List.set_cons_zero, List.set_cons_succ]
    refine takeU (i := 1) (v := .iface a0 x0) rfl (by rfl) (by kernel_rfl) (by kernel_rfl) (reach_one (by kernel_rfl)) (by kernel_rfl) (by kernel_rfl) (fun _ _ _ h => h) (Or.inl ⟨by rfl, fun w hS => by obtain ⟨c0, c1, c2⟩ := hS; go_simp⟩) ⟨c0, c1, c2⟩ ?_
    simp only [List.getElem_toArray, List.getElem_cons_zero, List.getElem_cons_succ, Act.put, List.setIfInBounds_toArray, List.set_cons_zero, List.set_cons_succ]
    refine takeU (i := 5) (v := .pointer (some ⟨w.heap.size, 1, none⟩)) rfl (by rfl) (by kernel_rfl) (by kernel_rfl) (reach_one (by kernel_rfl)) (by kernel_rfl) (by kernel_rfl) (fun _ _ _ h => h) (Or.inl ⟨by rfl, fun w hS => by obtain ⟨c0, c1, c2⟩ := hS; go_simp⟩) ⟨c0, c1, c2⟩ ?_
    simp only [List.getElem_toArray, List.getElem_cons_zero, List.getElem_cons_succ, Act.put, List.setIfInBounds_toArray, List.set_cons_zero, List.set_cons_succ]
    refine takeU (i := 6) (v := .iface a1 x1) rfl (by rfl) (by kernel_rfl) (by kernel_rfl) (reach_one (by kernel_rfl)) (by kernel_rfl) (by kernel_rfl) (fun _ _ _ h => h) (Or.inl ⟨by rfl, fun w hS => by obtain ⟨c0, c1, c2⟩ := hS; go_simp⟩) ⟨c0, c1, c2⟩ ?_
    simp only [List.getElem_toArray, List.getElem_cons_zero, List.getElem_cons_succ, Act.put, List.setIfInBounds_toArray, List.set_cons_zero, List.set_cons_succ]
    refine takeU (i := 10) (v := .pointer (some ⟨w.heap.size, 2, none⟩)) rfl (by rfl) (by kernel_rfl) (by kernel_rfl) (reach_one (by kernel_rfl)) (by kernel_rfl) (by kernel_rfl) (fun _ _ _ h => h) (Or.inl ⟨by rfl, fun w hS => by obtain ⟨c0, c1, c2⟩ := hS; go_simp⟩) ⟨c0, c1, c2⟩ ?_
    simp only [List.getElem_toArray, List.getElem_cons_zero, List.getElem_cons_succ, Act.put, List.setIfInBounds_toArray, List.set_cons_zero, List.set_cons_succ]
    refine takeU (i := 11) (v := .iface a2 x2) rfl (by rfl) (by kernel_rfl) (by kernel_rfl) (reach_one (by kernel_rfl)) (by kernel_rfl) (by kernel_rfl) (fun _ _ _ h => h) (Or.inl ⟨by rfl, fun w hS => by obtain ⟨c0, c1, c2⟩ := hS; go_simp⟩) ⟨c0, c1, c2⟩ ?_
    simp only [List.getElem_toArray, List.getElem_cons_zero, List.getElem_cons_succ, Act.put, List.setIfInBounds_toArray, List.set_cons_zero, List.set_cons_succ]
    refine oneU (i := 2) (by kernel_rfl) rfl (by rfl) ?_
    simp only [List.getElem_toArray, List.getElem_cons_zero, List.getElem_cons_succ]
    go_simp
    refine (HA0.out W1.drew (belNext HB1.out hd1)).mono ?_
    rintro e V2 ⟨rfl, hb2⟩
    have HB2 := hideN (belNext hd1 hb2)
    clear c0 c1 c2
    obtain ⟨c0, c1, c2⟩ := HC1.out V2 HB2.out
    first | refine ⟨⟨c0, c1, c2⟩, ?_⟩ | skip
    clear hb2
    refine takeU (i := 3) (v := .string (⟨#[105, 102, 32]⟩ ++ z0)) rfl (by rfl) (by kernel_rfl) (by kernel_rfl) (reach_one (by kernel_rfl)) (by kernel_rfl) (by kernel_rfl) (fun _ _ _ h => h) (Or.inl ⟨by rfl, fun w hS => by obtain ⟨c0, c1, c2⟩ := hS; go_simp⟩) ⟨c0, c1, c2⟩ ?_
    simp only [List.getElem_toArray, List.getElem_cons_zero, List.getElem_cons_succ, Act.put, List.setIfInBounds_toArray, List.set_cons_zero, List.set_cons_succ]
    refine takeU (i := 4) (v := .string (⟨#[105, 102, 32]⟩ ++ z0 ++ ⟨#[32, 116, 104, 101, 110, 32]⟩)) rfl (by rfl) (by kernel_rfl) (by kernel_rfl) (reach_one (by kernel_rfl)) (by kernel_rfl) (by kernel_rfl) (fun _ _ _ h => h) (Or.inl ⟨by rfl, fun w hS => by obtain ⟨c0, c1, c2⟩ := hS; go_simp⟩) ⟨c0, c1, c2⟩ ?_
    simp only [List.getElem_toArray, List.getElem_cons_zero, List.getElem_cons_succ, Act.put, List.setIfInBounds_toArray, List.set_cons_zero, List.set_cons_succ]
    refine oneU (i := 7) (by kernel_rfl) rfl (by rfl) ?_
    simp only [List.getElem_toArray, List.getElem_cons_zero, List.getElem_cons_succ]
    go_simp
    refine (HA1.out V2 (belNext HB1.out HB2.out)).mono ?_
    rintro e V3 ⟨rfl, hb3⟩
    have HB3 := hideN (belNext HB2.out hb3)
    clear c0 c1 c2
    obtain ⟨c0, c1, c2⟩ := HC1.out V3 HB3.out
    first | refine ⟨⟨c0, c1, c2⟩, ?_⟩ | skip
    clear hb3
    refine takeU (i := 8) (v := .string (⟨#[105, 102, 32]⟩ ++ z0 ++ ⟨#[32, 116, 104, 101, 110, 32]⟩ ++ z1)) rfl (by rfl) (by kernel_rfl) (by kernel_rfl) (reach_one (by kernel_rfl)) (by kernel_rfl) (by kernel_rfl) (fun _ _ _ h => h) (Or.inl ⟨by rfl, fun w hS => by obtain ⟨c0, c1, c2⟩ := hS; go_simp⟩) ⟨c0, c1, c2⟩ ?_
    simp only [List.getElem_toArray, List.getElem_cons_zero, List.getElem_cons_succ, Act.put, List.setIfInBounds_toArray, List.set_cons_zero, List.set_cons_succ]
    refine takeU (i := 9) (v := .string (⟨#[105, 102, 32]⟩ ++ z0 ++ ⟨#[32, 116, 104, 101, 110, 32]⟩ ++ z1 ++ ⟨#[32, 101, 108, 115, 101, 32]⟩)) rfl (by rfl) (by kernel_rfl) (by kernel_rfl) (reach_one (by kernel_rfl)) (by kernel_rfl) (by kernel_rfl) (fun _ _ _ h => h) (Or.inl ⟨by rfl, fun w hS => by obtain ⟨c0, c1, c2⟩ := hS; go_simp⟩) ⟨c0, c1, c2⟩ ?_
    simp only [List.getElem_toArray, List.getElem_cons_zero, List.getElem_cons_succ, Act.put, List.setIfInBounds_toArray, List.set_cons_zero, List.set_cons_succ]
    refine oneU (i := 12) (by kernel_rfl) rfl (by rfl) ?_
    simp only [List.getElem_toArray, List.getElem_cons_zero, List.getElem_cons_succ]
    go_simp
    refine (HA2.out V3 (belNext HB1.out HB3.out)).mono ?_
    rintro e V4 ⟨rfl, hb4⟩
    have HB4 := hideN (belNext HB3.out hb4)
    clear c0 c1 c2
    obtain ⟨c0, c1, c2⟩ := HC1.out V4 HB4.out
    first | refine ⟨⟨c0, c1, c2⟩, ?_⟩ | skip
    clear hb4
    refine takeU (i := 13) (v := .string (⟨#[105, 102, 32]⟩ ++ z0 ++ ⟨#[32, 116, 104, 101, 110, 32]⟩ ++ z1 ++ ⟨#[32, 101, 108, 115, 101, 32]⟩ ++ z2)) rfl (by rfl) (by kernel_rfl) (by kernel_rfl) (reach_one (by kernel_rfl)) (by kernel_rfl) (by kernel_rfl) (fun _ _ _ h => h) (Or.inl ⟨by rfl, fun w hS => by obtain ⟨c0, c1, c2⟩ := hS; go_simp⟩) ⟨c0, c1, c2⟩ ?_
    simp only [List.getElem_toArray, List.getElem_cons_zero, List.getElem_cons_succ, Act.put, List.setIfInBounds_toArray, List.set_cons_zero, List.set_cons_succ]
    refine oneU (i := 14) (by kernel_rfl) rfl (by rfl) ?_
    simp only [List.getElem_toArray, List.getElem_cons_zero, List.getElem_cons_succ]
    go_simp
    refine doneU (by kernel_rfl) ?_ _
    go_wp2_with fail
    go_ret
    exact ⟨rfl, belNext HB1.out HB4.out⟩
  exfalso
  unfold joinB at hj
  simp [h1, h2, h3, h4, h5, h6, h7] at hj

end Go.Proofs.YthbjihamhfahcaaDoor

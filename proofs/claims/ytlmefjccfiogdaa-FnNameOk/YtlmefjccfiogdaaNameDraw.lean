/-
  The law FnNameOk (a name is letters, and none of the words): what is drawn is some text of at most nine bytes; the law answers true at every text. No condition: every argument that can be read.
-/
import Derived.Test.YtlmefjccfiogdaaName1
import Derived.Test.YtlmefjccfiogdaaRdr
import Derived.Lib.Strings
namespace Go.Proofs.Ytlmefjccfiogdaa
open Go.ChangeShapes Go.WideShapes Go.ChangeAt Go.RowKit Go.Deep Go.Joins
set_option linter.unusedVariables false

/-- Texts that are drawn from. -/
def drawn : List (List UInt8) := [[97], [97, 98, 99, 100, 101, 102, 103, 104], [97, 98, 99, 100, 101, 102, 103, 104, 105], [], [118, 97, 114], [120, 49], [65], [118, 97, 114, 120]]

theorem drawn_cell (w : World) (i : Nat) (hi : i < 8) : (w.alloc (.cells (drawn.map strOf).toArray 9)).cell? ⟨w.heap.size, i, none⟩ = some (strOf (drawn.getD i [])) := by
  have h : i = 0 ∨ i = 1 ∨ i = 2 ∨ i = 3 ∨ i = 4 ∨ i = 5 ∨ i = 6 ∨ i = 7 := by omega
  rcases h with rfl | rfl | rfl | rfl | rfl | rfl | rfl | rfl <;> simp [drawn, strOf]

theorem drawn_len (i : Nat) (hi : i < 8) : (drawn.getD i []).length ≤ 9 := by
  have h : i = 0 ∨ i = 1 ∨ i = 2 ∨ i = 3 ∨ i = 4 ∨ i = 5 ∨ i = 6 ∨ i = 7 := by omega
  rcases h with rfl | rfl | rfl | rfl | rfl | rfl | rfl | rfl <;> simp [drawn]

set_option maxHeartbeats 400000 in
theorem of_any (R : Nat) (v : Value) (bs : List Int) (p : Nat) (xs : List (List UInt8)) (g n cap : Nat) (w : World) (hr : Rd w R v bs p) (hp : p ≤ 1000000) (hn : xs.length = n) (h1 : 1 ≤ n) (hm : n ≤ 1000) (hg : g ≠ R) (hc : ∀ i, i < n → w.cell? ⟨g, i, none⟩ = some (strOf (xs.getD i []))) :
    Calls Try.prog 9 #[.pointer (some ⟨R, 0, none⟩), .slice (some ⟨g, 0, none⟩) n cap] w fun e w' => ∃ i, i < n ∧ e = .returned (strOf (xs.getD i [])) ∧ Rd w' R v bs (p + 1) ∧ w.grownBy w' (some R) ∧ w'.heap.size = w.heap.size := by
  have HR : Hid (Rd w R v bs p) := hr
  have HC : Hid (∀ i, i < n → w.cell? ⟨g, i, none⟩ = some (strOf (xs.getD i []))) := hc
  clear hr hc
  go_enter Try.func9, Try.ntmps9
  go_wp2_with (fail)
  refine (pick_any R v bs p _ _ HR.out hp (by omega)).mono ?_
  rintro e w1 ⟨x, rfl, hx0, hx1, hx2, hrd1, hg1, hs1⟩
  obtain ⟨i, rfl⟩ := Int.eq_ofNat_of_zero_le hx0
  have hi : i < n := by have := hx1 (by omega); omega
  have hcell : w1.cell? ⟨g, i, none⟩ = some (strOf (xs.getD i [])) := hg1.cell (HC.out i hi) (fun e => hg (Option.some.inj e))
  have HR1 : Hid (Rd w1 R v bs (p + 1)) := hrd1
  have HG1 : Hid (w.grownBy w1 (some R)) := hg1
  have HS1 : Hid (w1.heap.size = w.heap.size) := hs1
  clear hrd1 hg1 hs1 hx1 hx2
  generalize hx : xs.getD i [] = x at *
  have HX : Hid (xs.getD i [] = x) := hx
  clear hx
  unfold strOf at hcell
  go_wp2
  go_ret
  exact ⟨i, hi, by rw [HX.out]; rfl, HR1.out, HG1.out, HS1.out⟩

set_option maxHeartbeats 1000000 in
theorem draw_any (v : Value) (bs : List Int) (w : World) (hv : IsBytes w v bs) (hn : bs.length ≤ 1048576) (hal : ∀ ao n cap b off, v = .slice ao n cap → ao = some ⟨b, off, none⟩ → b < w.heap.size) :
    Calls Try.prog 5 #[v] w fun e w' => ∃ l : List UInt8, l.length ≤ 9 ∧ e = .returned (strOf l) ∧ Below w.heap.size w w' := by
  have HV : Hid (IsBytes w v bs) := hv
  have HAL : Hid (∀ ao n cap b off, v = .slice ao n cap → ao = some ⟨b, off, none⟩ → b < w.heap.size) := hal
  obtain ⟨ao, cap, rfl, _⟩ := hv
  clear hal
  go_enter Try.func5, Try.ntmps5
  go_wp2_with (fail)
  refine (l1Open_any w.heap.size _ bs _ HV.out hn HAL.out).mono ?_
  rintro e w1 ⟨v', bs', rfl, hrd, hb, hsz, hvb⟩
  have HRD : Hid (Rd w1 w.heap.size v' bs' 0) := hrd
  have HB1 : Hid (Below w.heap.size w w1) := hb
  have HSZ : Hid (w1.heap.size = w.heap.size + 1) := hsz
  clear hrd hb hvb hsz
  have HR2 : Hid (Rd (w1.alloc (.cells (drawn.map strOf).toArray 9)) w.heap.size v' bs' 0) := HRD.out.grown (World.grownBy_alloc w1 _ none) (by simp) (by simp)
  go_wp2_with (fail)
  refine (of_any w.heap.size v' bs' 0 drawn w1.heap.size 8 8 _ HR2.out (by omega) (by rfl) (by omega) (by omega) (by rw [HSZ.out]; omega) (drawn_cell w1)).mono ?_
  rintro e w2 ⟨i, hi, rfl, _, hg, hs⟩
  have HB2 : Hid (Below w.heap.size w w2) := (belNext HB1.out (belOne _ _)).grown hg (by have := HB1.out.size; simp; omega) (fun k e => by have := Option.some.inj e; omega)
  have HL : Hid ((drawn.getD i []).length ≤ 9) := drawn_len i hi
  clear hg hs
  generalize drawn.getD i [] = l at *
  go_wp2
  go_ret
  exact ⟨l, HL.out, rfl, HB2.out⟩

theorem single_list (s : ByteArray) (k : Nat) (h : k < s.size) : (s.extract k (k + 1)).toList = [s[k]] := by
  rw [← get_list _ _ h, ByteArray.toList_eq, ByteArray.toList_eq, Lib.extract_data, List.getD]
  have hk : k < s.data.toList.length := by rw [Array.length_toList]; exact h
  rw [List.getElem?_eq_getElem hk, List.drop_eq_getElem_cons hk]
  simp

theorem name_letter {l : List UInt8} (h : nameB l = true) (k : Nat) (hk : k < l.length) : nameB [l.getD k 0] = true := by
  unfold nameB at h
  simp only [Bool.and_eq_true, List.all_eq_true] at h
  have hl : letterB (l.getD k 0) = true := h.1.2 _ (by rw [List.getD, List.getElem?_eq_getElem hk]; simp)
  unfold nameB
  generalize l.getD k 0 = c at *
  simp [hl, wordB, words]

theorem name_len {l : List UInt8} (h : nameB l = true) : 1 ≤ l.length ∧ l.length ≤ 8 := by
  unfold nameB at h
  simp only [Bool.and_eq_true, decide_eq_true_eq] at h
  exact h.1.1

set_option maxHeartbeats 1000000 in
theorem fnNameOk_walk (v : Value) (bs : List Int) (w : World) (hv : IsBytes w v bs) (hal : ∀ ao n cap b off, v = .slice ao n cap → ao = some ⟨b, off, none⟩ → b < w.heap.size) (hml : bs.length ≤ maxLen) :
    Calls Try.prog 3 #[v] w fun e w' => e = .returned (.bool true) ∧ Below w.heap.size w w' := by
  unfold maxLen at hml
  have HV : Hid (IsBytes w v bs) := hv
  have HAL : Hid (∀ ao n cap b off, v = .slice ao n cap → ao = some ⟨b, off, none⟩ → b < w.heap.size) := hal
  obtain ⟨ao, cap, rfl, _⟩ := hv
  clear hal
  by_cases hn : bs.length ≤ 1048576
  · go_enter Try.func3, Try.ntmps3
    go_wp2_with (fail)
    refine (draw_any _ bs _ HV.out hn HAL.out).mono ?_
    rintro e w1 ⟨l, hl, rfl, hb1⟩
    have HB1 : Hid (Below w.heap.size w w1) := hb1
    clear hb1
    unfold strOf
    have hsl : (⟨l.toArray⟩ : ByteArray).toList = l := by rw [ByteArray.toList_eq]
    have hsz : (⟨l.toArray⟩ : ByteArray).size = l.length := by rw [← size_list, hsl]
    generalize (⟨l.toArray⟩ : ByteArray) = s at *
    subst hsl
    have hs9 : s.size ≤ 9 := by omega
    clear hsz hl
    go_wp2_with (fail)
    refine (implNameOk_any _ _ (by omega)).mono ?_
    rintro e w2 ⟨rfl, rfl⟩
    generalize hr : nameB s.toList = r
    have HR : Hid (nameB s.toList = r) := hr
    clear hr
    go_wp2_with (fail)
    refine (specNameOk_any _ _ (by omega)).mono ?_
    rintro e w3 ⟨rfl, hb3⟩
    rw [HR.out]
    have HB3 : Hid (Below w.heap.size w w3) := belNext HB1.out hb3
    clear hb3
    cases r
    · go_wp2
      go_loop [5] (fun i => i = .int .i64 0) (fun _ => 0)
      case atStart => rfl
      case round =>
        subst hrel
        by_cases hpos : 0 < s.size
        · go_wp2
          go_ret
          exact ⟨rfl, HB3.out⟩
        · go_wp2
          go_ret
          exact ⟨rfl, HB3.out⟩
    · have hlen := name_len HR.out
      rw [size_list] at hlen
      obtain ⟨hlo, hhi⟩ := hlen
      go_wp2
      go_loop [5] (fun i => ∃ k : Nat, k ≤ s.size ∧ i = .int .i64 k) (fun i => s.size - (intOf i).toNat)
      case atStart => exact ⟨0, Nat.zero_le _, rfl⟩
      case round =>
        obtain ⟨k, hk, rfl⟩ := hrel
        by_cases hlt : k < s.size
        · have HN : Hid (nameB (s.extract k (k + 1)).toList = true) := by
            rw [single_list _ _ hlt, ← get_list _ _ hlt]
            exact name_letter HR.out k (by rw [size_list]; exact hlt)
          have hes : (s.extract k (k + 1)).size ≤ 1048576 := by simp only [ByteArray.size_extract]; omega
          go_wp2_with (go_at_call 6; refine (implNameOk_any _ _ hes).mono ?_; rintro e w' ⟨rfl, rfl⟩; rw [HN.out])
          exact ⟨⟨k + 1, hlt, rfl⟩, by show _ - ((k : Int) + 1).toNat < _ - ((k : Int)).toNat; omega⟩
        · have hkn : k = s.size := by omega
          subst hkn
          have hd8 : decide ((s.size : Int) ≤ 8) = true := by simp; omega
          go_wp2
          go_ret
          exact ⟨rfl, HB3.out⟩
  · go_enter Try.func3, Try.ntmps3
    go_wp2
    go_ret
    exact ⟨rfl, Below.refl _ _⟩

set_option maxRecDepth 100000 in
theorem fnNameOk_lifted (os : Os) (started : os.Started) (H : Type) (enc : TypeId × Value → H) :
    ReturnsInHanded {} Try.checked os 3 .any (Rows.fnNameOkSpec.pre6 enc Try.prog Try.f3 Rows.fnNameOkRow.domain false) (Rows.fnNameOkSpec.post enc Try.prog Try.f3 false true false false) := by
  refine returnsInHanded_of_change (C := Try.checked) own started (by kernel_rfl) Try.func3
    (ChangeSpec.witness6 (enc := enc) (C := Try.checked) false ⟨#[], #[.slice none 0 0], []⟩ 8 (by kernel_rfl) (by kernel_rfl) (by kernel_rfl) (by kernel_rfl)) ?_
  intro W base args ds gs before hval0 hW hcnd _
  have hval : ∀ (j : Nat) t v, Try.f3.params[j]? = some t → args[j]? = some v → Value.okWide Try.prog W .any base t v := hval0
  have hW' := hW
  obtain ⟨p, q, hA0, hV, rfl, hfz, hnd⟩ := hW
  have hA : DataW.TrodAll enc Try.prog W 0 (fun _ => true) true Try.f3.params.toList args.toList ds p := hA0
  rw [Try.params3] at hA hval
  obtain ⟨v0, vs0, d0, ds0, p0, q0, hargs, rfl, rfl, h0, r0⟩ := trodAll_cons hA
  obtain ⟨rfl, rfl, rfl⟩ := trodAll_nil r0
  obtain rfl : args = #[v0] := by cases args; simp_all
  obtain ⟨rfl, rfl⟩ := trodVars_none hV
  have k0 := h0
  have lt0 : ∀ x ∈ p0, x.block < W.heap.size := by obtain ⟨m, hm⟩ := k0; exact DataW.trod_lt m _ _ _ hm
  have hv0 := hval 0 22 v0 rfl rfl
  obtain ⟨ao, len, cap, rfl⟩ := okWide_slice Try.underlying22 hv0
  obtain ⟨fuel, hf⟩ := h0
  obtain ⟨bs, hbs, hml⟩ := isBytes_of_trod (by simpa [Value.cells] using hf)
  clear hA0 hval0
  refine (fnNameOk_walk _ bs W hbs (fun ao' n' cap' b off h1 h2 => by cases h1; subst h2; exact okWide_slice_lt Try.underlying22 hv0) hml).mono fun e W' ⟨he, bel⟩ => ?_
  subst he
  exact ⟨_, rfl, _, _, _, [], _, [], hW', trodAll_mk1 (shut_bool Try.underlying4 _), (trodAll_cons_mk (Below.trod laidOut (by kernel_rfl) (of_decide_eq_true (by kernel_rfl)) k0 bel lt0) trodAll_mk0), rfl, bel.frame _, fun h => by cases h⟩

theorem fnNameOk_holds : Rows.FnNameOkSaid :=
  OpenClaim.holds_of_wide 3 Try.f3 rfl rfl rfl rfl rfl rfl rfl ⟨rfl, rfl, rfl, rfl, rfl⟩ rfl rfl rfl rfl rfl (by kernel_rfl) Try.func3 (by kernel_rfl)
    (of_decide_eq_true (by kernel_rfl)) (by unfold Func.isWrapper; first | (rw [if_pos (by decide +kernel)]; kernel_rfl) | (rw [if_neg (by decide +kernel)]; exact ⟨rfl, rfl⟩))
    (fun os started H enc _ => fnNameOk_lifted os started H enc)

end Go.Proofs.Ytlmefjccfiogdaa

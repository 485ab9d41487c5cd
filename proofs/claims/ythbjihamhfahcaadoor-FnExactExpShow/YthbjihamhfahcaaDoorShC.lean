/-
  Numbers told in decimals by strconv.Itoa, the row's table of tens being laid; ExpShow of the program.
-/
import Derived.Test.YthbjihamhfahcaaDoorShB
import Derived.Test.YthbjihamhfahcaaDoorRows
import Derived.Ground.NamesProg
import Derived.Shelf.Strconv.Itoa3
import Derived.WalkSmall
namespace Go.Proofs.YthbjihamhfahcaaDoor
open Go.RowKit Go.Deep Go.Shelf
set_option linter.unusedVariables false

attribute [local go_sem] Oper.semAt_some

def laysItoa_ren : Go.Shelf.Ren := ⟨fun | 171 => 23 | 243 => 34 | 246 => 40 | 283 => 45 | 284 => 46 | 285 => 47 | 286 => 48 | 129 => 50 | 317 => 49 | 318 => 51 | 319 => 52 | 320 => 53 | 337 => 54 | 338 => 55 | n => n, fun | 3 => 3 | 9 => 9 | 2 => 2 | 4 => 4 | 171 => 78 | 0 => 0 | 53 => 79 | 37 => 63 | 5 => 5 | 173 => 82 | 212 => 85 | 51 => 86 | 20 => 20 | 213 => 87 | 46 => 89 | 232 => 92 | 233 => 93 | n => n, fun | 17 => 0 | 18 => 1 | 19 => 2 | n => n⟩
theorem laysItoa : Go.Proofs.LaysM.n171 Tryd.prog laysItoa_ren := {
  mixed := by kernel_rfl
  f129 := Tryd.func50.trans (congrArg some (by kernel_rfl))
  f171 := Tryd.func23.trans (congrArg some (by kernel_rfl))
  f243 := Tryd.func34.trans (congrArg some (by kernel_rfl))
  f246 := Tryd.func40.trans (congrArg some (by kernel_rfl))
  f283 := Tryd.func45.trans (congrArg some (by kernel_rfl))
  f284 := Tryd.func46.trans (congrArg some (by kernel_rfl))
  f285 := Tryd.func47.trans (congrArg some (by kernel_rfl))
  f286 := Tryd.func48.trans (congrArg some (by kernel_rfl))
  f317 := Tryd.func49.trans (congrArg some (by kernel_rfl))
  f318 := Tryd.func51.trans (congrArg some (by kernel_rfl))
  f319 := Tryd.func52.trans (congrArg some (by kernel_rfl))
  f320 := Tryd.func53.trans (congrArg some (by kernel_rfl))
  f337 := Tryd.func54.trans (congrArg some (by kernel_rfl))
  f338 := Tryd.func55.trans (congrArg some (by kernel_rfl))
  t0 := Tryd.underlying0
  a0 := Tryd.isAgg0
  z0 := Tryd.sizeOf0
  v0 := Tryd.zeroValue0
  t2 := Tryd.underlying2
  a2 := Tryd.isAgg2
  z2 := Tryd.sizeOf2
  v2 := Tryd.zeroValue2
  t3 := Tryd.underlying3
  a3 := Tryd.isAgg3
  z3 := Tryd.sizeOf3
  v3 := Tryd.zeroValue3
  t4 := Tryd.underlying4
  a4 := Tryd.isAgg4
  z4 := Tryd.sizeOf4
  v4 := Tryd.zeroValue4
  t5 := Tryd.underlying5
  a5 := Tryd.isAgg5
  z5 := Tryd.sizeOf5
  v5 := Tryd.zeroValue5
  t9 := Tryd.underlying9
  a9 := Tryd.isAgg9
  z9 := Tryd.sizeOf9
  v9 := Tryd.zeroValue9
  t20 := Tryd.underlying20
  a20 := Tryd.isAgg20
  z20 := Tryd.sizeOf20
  v20 := Tryd.zeroValue20
  t37 := Tryd.underlying63
  a37 := Tryd.isAgg63
  z37 := Tryd.sizeOf63
  v37 := Tryd.zeroValue63
  t46 := Tryd.underlying89
  a46 := Tryd.isAgg89
  z46 := Tryd.sizeOf89
  v46 := Tryd.zeroValue89
  t51 := Tryd.underlying86
  a51 := Tryd.isAgg86
  z51 := Tryd.sizeOf86
  v51 := Tryd.zeroValue86
  t53 := Tryd.underlying79
  a53 := Tryd.isAgg79
  z53 := Tryd.sizeOf79
  v53 := Tryd.zeroValue79
  t171 := Tryd.underlying78
  a171 := Tryd.isAgg78
  z171 := Tryd.sizeOf78
  v171 := Tryd.zeroValue78
  t173 := Tryd.underlying82
  a173 := Tryd.isAgg82
  z173 := Tryd.sizeOf82
  v173 := Tryd.zeroValue82
  t212 := Tryd.underlying85
  a212 := Tryd.isAgg85
  z212 := Tryd.sizeOf85
  v212 := Tryd.zeroValue85
  t213 := Tryd.underlying87
  a213 := Tryd.isAgg87
  z213 := Tryd.sizeOf87
  t232 := Tryd.underlying92
  a232 := Tryd.isAgg92
  z232 := Tryd.sizeOf92
  v232 := Tryd.zeroValue92
  t233 := Tryd.underlying93
  a233 := Tryd.isAgg93
  z233 := Tryd.sizeOf93
  v233 := Tryd.zeroValue93
  g17 := by kernel_rfl
  g18 := by kernel_rfl
  g19 := by kernel_rfl
  i0 := by kernel_rfl
  i2 := by kernel_rfl
  i3 := by kernel_rfl
  i4 := by kernel_rfl
  i5 := by kernel_rfl
  i9 := by kernel_rfl
  i20 := by kernel_rfl
  i37 := by kernel_rfl
  i46 := by kernel_rfl
  i51 := by kernel_rfl
  i53 := by kernel_rfl
  i171 := by kernel_rfl
  i173 := by kernel_rfl
  i212 := by kernel_rfl
  i232 := by kernel_rfl
  i233 := by kernel_rfl
  m17 := by kernel_rfl
  m18 := by kernel_rfl
  m19 := by kernel_rfl }

/-- The name of the row's table of tens. -/
def tabN : String := (Rows.fnExactExpShowRow.laid.getD 2 (default, .nil)).1

theorem below_new (w : World) (k : Nat) (os : Array Obj) : Below w.heap.size w (Sort.grow (w.drewN k) os) := by
  have h0 : (w.drewN k).heap = w.heap := rfl
  refine ⟨rfl, rfl, rfl, ?_, fun q hq => ?_⟩
  · show w.heap.size ≤ (w.heap ++ os).size
    rw [Array.size_append]; omega
  · show (w.heap ++ os)[q]? = w.heap[q]?
    rw [Array.getElem?_append_left hq]

theorem itoa_any (n : Int) (h0 : 0 ≤ n) (h1 : n ≤ 999) (w : World) (ht : Lib.TabIs Tryd.prog w tabN .u64 Lib.pow10Tab) : Calls Tryd.prog 23 #[.int .i64 n] w (TextPost ⟨(Lib.itoa n).toArray⟩ w) := by
  have h := Any.strconv_Itoa laysItoa n (by omega) (by omega) w ht
  change Calls Tryd.prog 23 _ _ _ at h
  refine h.mono ?_
  rintro e w' ⟨rfl, k, os, rfl⟩
  exact ⟨rfl, below_new _ _ _⟩

theorem itoa_says (w0 : World) (ht : Lib.TabIs Tryd.prog w0 tabN .u64 Lib.pow10Tab) : ItoaSays w0 := by
  intro n W h0 h1 hb
  refine itoa_any n h0 h1 W ?_
  have ht2 := ht
  unfold Lib.TabIs World.var? at ht2
  cases hg : (Tryd.prog).globalNamed tabN with
  | none => rw [hg] at ht2; cases ht2
  | some g =>
    rw [hg] at ht2
    have hlt : g < w0.heap.size := by
      rcases Nat.lt_or_ge g w0.heap.size with h | h
      · exact h
      · exfalso
        rw [Option.bind_some, Array.getElem?_eq_none h] at ht2
        cases ht2
    exact var?_below hb hg hlt ht

set_option maxRecDepth 100000 in
set_option maxHeartbeats 4000000 in
theorem implExpShow_any (w0 : World) (HI : ItoaSays w0) (lo : Nat) (t : ExpT) (ht : totE t ≤ 1048576) (v : Value) (w : World) (hw : Below w0.heap.size w0 w) (hE : IsE w lo t v) : Calls Tryd.prog 7 #[v] w (TextPost (if okE t = true then showT t else ⟨#[]⟩) w) := by
  obtain ⟨k, n, s, ao, m, cap, rfl⟩ := hE.agg
  obtain ⟨W1, hW1⟩ : ∃ W1, W1 = w.alloc (.cells #[.int .i64 k, .int .i64 n, .string s, .slice ao m cap] 29) := ⟨_, rfl⟩
  have HB1 : Hid (Below w.heap.size w W1) := by rw [hW1]; exact belOne _ _
  have HCL := hideN (termOf_any lo t ht _ W1 (IsE.below hE HB1.out))
  have HSH : Hid (okE t = true → ∀ W, Below w.heap.size w W → Calls Tryd.prog 14 #[termV t] W (TextPost (showT t) W)) := fun hok W hW => by
    obtain ⟨r, hr⟩ := Option.ne_none_iff_exists'.1 (by have := grow_ok t; rw [hok] at this; intro hn; rw [hn] at this; simp at this : growT t 60 1 ≠ none)
    exact shown_any w0 HI t ht 60 1 r (by omega) hr W (hw.trans (hW.mono hw.size))
  have HW1 := hideN hW1
  generalize okE t = r at *
  generalize termV t = VT at *
  generalize showT t = X at *
  clear hE hW1
  unfold TextPost at *
  cases r with
  | false =>
    have hv : (if false = true then X else (⟨#[]⟩ : ByteArray)) = ⟨#[]⟩ := rfl
    rw [hv]
    clear hv
    go_enter Tryd.func7, Tryd.ntmps7
    go_wp2_with fail
    try rw [← HW1.out]
    refine HCL.out.mono ?_
    rintro e w2 ⟨tv, rfl, _, hb2⟩
    have HB2 := hideN (belNext HB1.out hb2)
    clear hb2
    go_wp2_with fail
    go_ret
    exact ⟨rfl, HB2.out⟩
  | true =>
    have hv : (if true = true then X else (⟨#[]⟩ : ByteArray)) = X := rfl
    rw [hv]
    clear hv
    go_enter Tryd.func7, Tryd.ntmps7
    go_wp2_with fail
    try rw [← HW1.out]
    refine HCL.out.mono ?_
    rintro e w2 ⟨tv, rfl, htv, hb2⟩
    obtain rfl := htv rfl
    have HB2 := hideN (belNext HB1.out hb2)
    clear hb2 htv
    go_wp2_with fail
    refine (HSH.out trivial w2 HB2.out).mono ?_
    rintro e w3 ⟨rfl, hb3⟩
    have HB3 := hideN (belNext HB2.out hb3)
    clear hb3
    go_wp2_with fail
    go_ret
    exact ⟨rfl, HB3.out⟩

end Go.Proofs.YthbjihamhfahcaaDoor

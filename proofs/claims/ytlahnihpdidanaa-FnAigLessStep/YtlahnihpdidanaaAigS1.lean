/-
  A drawn circuit with latches and inputs, once more (DrawAigStep); what steps are.
-/
import Derived.Test.YtlahnihpdidanaaAigV1
import Derived.Test.YtlahnihpdidanaaAigStepLaw
namespace Go.Proofs.Ytlahnihpdidanaa
open Go.RowKit Go.Deep
set_option linter.unusedVariables false

set_option maxRecDepth 100000 in
set_option maxHeartbeats 4000000 in
theorem drawAigStep_any (v : Value) (bs : List Int) (w : World) (hv : IsBytes w v bs) (hn : bs.length ≤ 1048576) (hal : ∀ ao n cap b off, v = .slice ao n cap → ao = some ⟨b, off, none⟩ → b < w.heap.size) :
    Calls Try.prog 45 #[v] w (DrawPost w) := by
  have HV : Hid (IsBytes (w.alloc (.cells #[.int .i64 0, .slice none 0 0, .slice none 0 0, .slice none 0 0] 33)) v bs) := by
    obtain ⟨ao, cap, h1, h2, h3, h4⟩ := hv
    refine ⟨ao, cap, h1, h2, fun hne => ?_, h4⟩
    obtain ⟨b, off, ha, hc⟩ := h3 hne
    exact ⟨b, off, ha, fun i hi => by rw [World.cell?_alloc_lt w _ _ (cell_lt (a := ⟨b, off + i, none⟩) (hc i hi))]; exact hc i hi⟩
  have HAL : Hid (∀ ao n cap b off, v = .slice ao n cap → ao = some ⟨b, off, none⟩ → b < w.heap.size) := hal
  obtain ⟨ao0, cap0, rfl, _⟩ := hv
  clear hal
  go_enter Try.func45, Try.ntmps45
  go_wp2_with fail
  refine (drawAigValues_any _ bs _ HV.out hn (fun ao n cap b off h1 h2 => by have := HAL.out ao n cap b off h1 h2; simp; omega)).mono ?_
  rintro e w1 ⟨inp, al, aa, ab, cl, ca, cb, ls, xs, cs, alt, ain, clt, cin, lats, ins, rfl, hD, hLA, hIN, hl1, hl2⟩
  have hz : (w.alloc (.cells #[.int .i64 0, .slice none 0 0, .slice none 0 0, .slice none 0 0] 33)).heap.size = w.heap.size + 1 := by simp
  have hq : Blk4 w1 w.heap.size (.int .i64 0) (.slice none 0 0) (.slice none 0 0) (.slice none 0 0) := (Blk4.new w _ _ _ _).of_block (hD.bel.block _ (by simp))
  have HDN : Hid (Drawn w (set4 w1 w.heap.size (.int .i64 inp) (.slice al ls.length cl) (.slice aa xs.length ca) (.slice ab cs.length cb)) inp al aa ab cl ca cb ls xs cs) :=
    ⟨row_base (row_set4 hD.ol (by omega) _ _ _ _) (by omega), row_base (row_set4 hD.oa (by omega) _ _ _ _) (by omega), row_base (row_set4 hD.ob (by omega) _ _ _ _) (by omega), hD.l64, hD.a64, hD.b64, hD.lo, hD.hi, hD.ll, hD.la, hD.lb, below_set4 (belNext (belOne _ _) hD.bel) (Nat.le_refl _) _ _ _ _⟩
  have HDL : Hid (Ownb (set4 w1 w.heap.size (.int .i64 inp) (.slice al ls.length cl) (.slice aa xs.length ca) (.slice ab cs.length cb)) w.heap.size (.slice alt lats.length clt) lats) := bits_set4 hLA (by omega) (Nat.le_refl _) _ _ _ _
  have HDI : Hid (Ownb (set4 w1 w.heap.size (.int .i64 inp) (.slice al ls.length cl) (.slice aa xs.length ca) (.slice ab cs.length cb)) w.heap.size (.slice ain ins.length cin) ins) := bits_set4 hIN (by omega) (Nat.le_refl _) _ _ _ _
  have m3 := hq.c0
  have m4 := hq.c1
  have m5 := hq.c2
  have m6 := hq.c3
  have m7 := hq.lt
  have m8 := hq.f 0
  have m9 := hq.f 1
  have m10 := hq.f 2
  have m11 := hq.f 3
  have hqq := (((hq.set0 (.int .i64 inp)).set1 (.slice al ls.length cl)).set2 (.slice aa xs.length ca)).set3 (.slice ab cs.length cb)
  have u0 := hqq.c0
  have u1 := hqq.c1
  have u2 := hqq.c2
  have u3 := hqq.c3
  clear hqq hq hD hLA hIN hz
  go_wp2
  exact bodyPost_ret (v := .tuple #[.agg #[.int .i64 inp, .slice al ls.length cl, .slice aa xs.length ca, .slice ab cs.length cb], .slice alt lats.length clt, .slice ain ins.length cin]) (by simp [results, Try.results45, go_sem, u0, u1, u2, u3]) rfl ⟨inp, al, aa, ab, cl, ca, cb, ls, xs, cs, alt, ain, clt, cin, lats, ins, rfl, HDN.out, HDL.out, HDI.out, hl1, hl2⟩

theorem map_getD {α β : Type} (f : α → β) (xs : List α) (d : α) (e : β) (i : Nat) (h : i < xs.length) : (xs.map f).getD i e = f (xs.getD i d) := by
  simp [List.getD, h]

theorem next_get {inp : Int} {ls : List (Int × Bool)} {xs : List (Int × Int)} {bs : List Int} {lats ins : List Bool} (h : fitsB inp ls xs bs lats ins = true) {k : Nat} (hk : k < ls.length) :
    (nextOf inp ls xs bs lats ins).getD k false = litV (valsOf inp ls xs bs lats ins) (ls.getD k (0, false)).1 := by
  rw [nextOf_fits h, valsOf_fits h, List.map_map, map_getD _ _ (0, false) false k hk]
  rfl

theorem bad_get {inp : Int} {ls : List (Int × Bool)} {xs : List (Int × Int)} {bs : List Int} {lats ins : List Bool} (h : fitsB inp ls xs bs lats ins = true) {k : Nat} (hk : k < bs.length) :
    (badOf inp ls xs bs lats ins).getD k false = litV (valsOf inp ls xs bs lats ins) (bs.getD k 0) := by
  rw [badOf_fits h, valsOf_fits h, map_getD _ _ 0 false k hk]

theorem vals_len {inp : Int} {ls : List (Int × Bool)} {xs : List (Int × Int)} {bs : List Int} {lats ins : List Bool} (h : fitsB inp ls xs bs lats ins = true) : ((valsOf inp ls xs bs lats ins).length : Int) = 1 + inp + ls.length + xs.length := by
  obtain ⟨e1, e2, e3⟩ := fitsB_iff.1 h
  rw [valsOf_fits h, valF_length _ _ _ (Nat.le_refl _), start_length]
  omega

theorem next_in {inp : Int} {ls : List (Int × Bool)} {xs : List (Int × Int)} {bs : List Int} {lats ins : List Bool} (h : fitsB inp ls xs bs lats ins = true) (h64 : ∀ p ∈ ls, I64 p.1) {k : Nat} (hk : k < ls.length) :
    0 ≤ (ls.getD k (0, false)).1 ∧ (ls.getD k (0, false)).1 < 2 * ((valsOf inp ls xs bs lats ins).length : Int) := by
  obtain ⟨e1, _, _⟩ := fitsB_iff.1 h
  have hm : ls.getD k (0, false) ∈ ls := by rw [List.getD, List.getElem?_eq_getElem hk]; simp
  rw [vals_len h]
  exact ahead_of (latch_ahead e1 hm) (h64 _ hm)

theorem bad_in {inp : Int} {ls : List (Int × Bool)} {xs : List (Int × Int)} {bs : List Int} {lats ins : List Bool} (h : fitsB inp ls xs bs lats ins = true) (h64 : ∀ x ∈ bs, I64 x) {k : Nat} (hk : k < bs.length) :
    0 ≤ bs.getD k 0 ∧ bs.getD k 0 < 2 * ((valsOf inp ls xs bs lats ins).length : Int) := by
  obtain ⟨e1, _, _⟩ := fitsB_iff.1 h
  have hm : bs.getD k 0 ∈ bs := by rw [List.getD, List.getElem?_eq_getElem hk]; simp
  rw [vals_len h]
  exact ahead_of (bad_ahead e1 hm) (h64 _ hm)

/-- A literal laid out: its node, whether it is the opposite, what it is. -/
theorem lit_parts (vs : List Bool) (x : Int) (h0 : 0 ≤ x) (h1 : x < 2 * (vs.length : Int)) (hl : vs.length ≤ 100) : ∃ (k : Nat) (r : Int), x.tdiv 2 = (k : Int) ∧ x / 2 = (k : Int) ∧ IntKind.i64.wrap (k : Int) = (k : Int) ∧ x.tmod 2 = r ∧ x % 2 = r ∧ k < vs.length ∧ 0 ≤ r ∧ r ≤ 1 ∧ x = 2 * (k : Int) + r ∧ litV vs x = !(vs.getD k false == (r == 1)) := by
  refine ⟨(x / 2).toNat, x % 2, by rw [Int.tdiv_eq_ediv_of_nonneg h0]; omega, by omega, by rw [IntKind.wrap_i64]; omega, by rw [Int.tmod_eq_emod_of_nonneg h0], rfl, by omega, by omega, by omega, by omega, ?_⟩
  unfold litV
  show (vs.getD (x / 2).toNat false != decide (x % 2 = 1)) = _
  rw [bne]
  congr 2

end Go.Proofs.Ytlahnihpdidanaa

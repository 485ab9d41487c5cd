/-
  A drawn number: the reader's pick answers a number within its bound, moves its place on, and turns nothing else.
-/
import Derived.Test.YtepamfkbeccmaaaOk
import Derived.Deep.QuietTactic
import Derived.BigQuiet
namespace Go.Proofs.Ytepamfkbeccmaaa
open Go.RowKit Go.Deep
set_option linter.unusedVariables false

/-- A reader: block R holds the bytes and the place. -/
structure Rd (w : World) (R : Nat) (v : Value) (bs : List Int) (p : Nat) : Prop where
  lt : R < w.heap.size
  c0 : w.cell? ⟨R, 0, none⟩ = some v
  c1 : w.cell? ⟨R, 1, none⟩ = some (.int .i64 p)
  f1 : w.frozen? ⟨R, 1, none⟩ = false
  small : bs.length ≤ 2000
  form : ∃ ao cap, v = .slice ao bs.length cap ∧ (bs ≠ [] → ∃ b off, ao = some ⟨b, off, none⟩ ∧ b ≠ R ∧ b < w.heap.size ∧ ∀ i, i < bs.length → w.cell? ⟨b, off + i, none⟩ = some (.int .u8 (bs.getD i 0)))
  byte : ∀ i, i < bs.length → 0 ≤ bs.getD i 0 ∧ bs.getD i 0 ≤ 255

theorem Rd.grown {w w' : World} {R : Nat} {v : Value} {bs : List Int} {p : Nat} {row : Option Nat} (h : Rd w R v bs p) (hg : w.grownBy w' row) (hR : some R ≠ row) (hb : ∀ ao n cap b off, v = .slice ao n cap → ao = some ⟨b, off, none⟩ → some b ≠ row) : Rd w' R v bs p := by
  obtain ⟨ao, cap, hv, hf⟩ := h.form
  refine ⟨Nat.lt_of_lt_of_le h.lt hg.size, hg.cell h.c0 hR, hg.cell h.c1 hR, ?_, h.small, ⟨ao, cap, hv, fun hne => ?_⟩, h.byte⟩
  · rw [World.frozen?_of_block (w := w) (hg.block R h.lt hR)]; exact h.f1
  · obtain ⟨b, off, ha, h1, h2, h3⟩ := hf hne
    exact ⟨b, off, ha, h1, Nat.lt_of_lt_of_le h2 hg.size, fun i hi => hg.cell (h3 i hi) (hb ao _ _ b off hv ha)⟩

/-- The place moved on: the reader, and that nothing else has turned. -/
theorem Rd.next {w : World} {R : Nat} {v : Value} {bs : List Int} {p : Nat} (h : Rd w R v bs p) (m : Nat) : Rd ((w.setCell ⟨R, 1, none⟩ (.int .i64 ((p : Int) + 1))).drewN m) R v bs (p + 1) ∧ w.grownBy ((w.setCell ⟨R, 1, none⟩ (.int .i64 ((p : Int) + 1))).drewN m) (some R) := by
  have hg : w.grownBy ((w.setCell ⟨R, 1, none⟩ (.int .i64 ((p : Int) + 1))).drewN m) (some R) := by
    refine ⟨rfl, rfl, rfl, by simp [World.setCell], fun k hk hne => ?_⟩
    have h' : k ≠ R := fun e => hne (by rw [e])
    exact Below.heap_setCell w ⟨R, 1, none⟩ _ k h'
  obtain ⟨ao, cap, hv, hf⟩ := h.form
  have hc0 := h.c0
  have hc1 := h.c1
  have hf1 := h.f1
  refine ⟨⟨by simpa [World.setCell] using h.lt, ?_, ?_, ?_, h.small, ⟨ao, cap, hv, fun hne => ?_⟩, h.byte⟩, hg⟩
  · rw [World.cell?_drewN]
    rw [World.cell?_setCell_other w _ _ _ (by simp)]; exact hc0
  · rw [World.cell?_drewN]
    exact World.cell?_setCell_same w _ _ hc1
  · rw [World.frozen?_drewN]
    simpa using hf1
  · obtain ⟨b, off, ha, h1, h2, h3⟩ := hf hne
    exact ⟨b, off, ha, h1, Nat.lt_of_lt_of_le h2 hg.size, fun i hi => hg.cell (h3 i hi) (fun e => h1 (Option.some.inj e))⟩

theorem xor_nonneg (x y : Int) (h0 : 0 ≤ x) (h1 : x < 4611686018427387904) (h2 : 0 ≤ y) (h3 : y < 4611686018427387904) : 0 ≤ Go.bits .xor .i64 x y := by
  obtain ⟨a, rfl⟩ := Int.eq_ofNat_of_zero_le h0
  obtain ⟨b, rfl⟩ := Int.eq_ofNat_of_zero_le h2
  have ha : a < 2 ^ 62 := by omega
  have hb : b < 2 ^ 62 := by omega
  have hx : a ^^^ b < 2 ^ 62 := Nat.xor_lt_two_pow ha hb
  have ha' : a % 2 ^ IntKind.i64.bits = a := Nat.mod_eq_of_lt (Nat.lt_of_lt_of_le ha (by decide))
  have hb' : b % 2 ^ IntKind.i64.bits = b := Nat.mod_eq_of_lt (Nat.lt_of_lt_of_le hb (by decide))
  have h : Go.bits .xor .i64 (a : Int) (b : Int) = ((a ^^^ b : Nat) : Int) := by
    simp only [Go.bits, BitVec.ofInt_natCast, BitVec.toNat_xor, BitVec.toNat_ofNat, ha', hb']
    rw [IntKind.wrap_i64]
    generalize a ^^^ b = z at hx
    omega
  rw [h]
  exact Int.natCast_nonneg _

theorem mod_lt_nat (a L : Nat) (h : 0 < L) : ((a : Int) % (L : Int)).toNat < L := by
  have h1 := Int.emod_nonneg (a : Int) (b := (L : Int)) (by omega)
  have h2 := Int.emod_lt_of_pos (a : Int) (b := (L : Int)) (by omega)
  omega

set_option maxHeartbeats 2000000 in
theorem pick_any (R : Nat) (v : Value) (bs : List Int) (p : Nat) (n : Int) (w : World) (hr : Rd w R v bs p) (hp : p ≤ 1000000) (hn : n ≤ 1000000) :
    Calls Try.prog 11 #[.pointer (some ⟨R, 0, none⟩), .int .i64 n] w fun e w' => ∃ x : Int, e = .returned (.int .i64 x) ∧ 0 ≤ x ∧ (1 ≤ n → x < n) ∧ (n < 1 → x = 0) ∧ Rd w' R v bs (p + 1) ∧ w.grownBy w' (some R) ∧ w'.heap.size = w.heap.size := by
  have HR : Hid (Rd w R v bs p) := hr
  have hl := hr.lt
  have hc0 := hr.c0
  have hc1 := hr.c1
  have hf1 := hr.f1
  have hsm := hr.small
  obtain ⟨ao, cap, rfl, hf⟩ := hr.form
  have HF : Hid (∀ m, Rd ((w.setCell ⟨R, 1, none⟩ (.int .i64 ((p : Int) + 1))).drewN m) R (.slice ao bs.length cap) bs (p + 1) ∧ w.grownBy ((w.setCell ⟨R, 1, none⟩ (.int .i64 ((p : Int) + 1))).drewN m) (some R)) := fun m => hr.next m
  have HBY : Hid (∀ i, i < bs.length → 0 ≤ bs.getD i 0 ∧ bs.getD i 0 ≤ 255) := hr.byte
  clear hr
  by_cases h1 : n < 1
  · clear hf
    go_enter Try.func11, Try.ntmps11
    go_wp2
    go_ret
    exact ⟨0, rfl, by omega, by omega, by omega, (HF.out 0).1, (HF.out 0).2, by simp [World.setCell]⟩
  · by_cases hL : bs.length < 1
    · have hL' : ((bs.length : Int) == 0) = true := beq_iff_eq.2 (by omega)
      clear hf
      generalize bs.length = L at *
      go_enter Try.func11, Try.ntmps11
      go_wp2
      go_ret
      exact ⟨0, rfl, by omega, by omega, by omega, (HF.out 0).1, (HF.out 0).2, by simp [World.setCell]⟩
    · have hL' : ((bs.length : Int) == 0) = false := beq_eq_false_iff_ne.2 (by omega)
      obtain ⟨b, off, rfl, hbR, hblt, hcells⟩ := hf (by intro e; subst e; simp at hL)
      have HC : Hid (∀ i, i < bs.length → w.cell? ⟨b, off + i, none⟩ = some (.int .u8 (bs.getD i 0))) := hcells
      clear hf hcells
      generalize hLL : bs.length = L at *
      have HLL : Hid (bs.length = L) := hLL
      clear hLL
      by_cases hk : p < L
      · have hcell := HC.out p hk
        obtain ⟨hb0, hb1⟩ := HBY.out p hk
        generalize bs.getD p 0 = c at *
        go_enter Try.func11, Try.ntmps11
        go_wp2
        go_ret
        exact ⟨c % n, rfl, Int.emod_nonneg _ (by omega), Int.emod_lt_of_pos _ (by omega), by omega, (HF.out 0).1, (HF.out 0).2, by simp [World.setCell]⟩
      · obtain ⟨i1, ht1⟩ : ∃ i1 : Nat, (p : Int).tmod (L : Int) = (i1 : Int) := ⟨p % L, by rw [Int.tmod_eq_emod_of_nonneg (by omega)]; exact (Int.natCast_emod p L).symm⟩
        obtain ⟨i2, ht2⟩ : ∃ i2 : Nat, ((p : Int) * 7 + 3).tmod (L : Int) = (i2 : Int) := ⟨(p * 7 + 3) % L, by rw [Int.tmod_eq_emod_of_nonneg (by omega)]; simp⟩
        have hi1 : i1 < L := by have := Int.tmod_lt_of_pos (p : Int) (b := (L : Int)) (by omega); omega
        have hi2 : i2 < L := by have := Int.tmod_lt_of_pos ((p : Int) * 7 + 3) (b := (L : Int)) (by omega); omega
        obtain ⟨q1, hq1⟩ : ∃ q1 : Nat, (p : Int).tdiv (L : Int) = (q1 : Int) := ⟨p / L, by rw [Int.tdiv_eq_ediv_of_nonneg (by omega)]; exact (Int.natCast_ediv p L).symm⟩
        have hq2 : q1 ≤ 1000000 := by have := Int.tdiv_le_self (a := (p : Int)) (L : Int) (by omega); omega
        have hcA := HC.out _ hi1
        have hcB := HC.out _ hi2
        obtain ⟨ha0, ha1⟩ := HBY.out _ hi1
        obtain ⟨hb0, hb1⟩ := HBY.out _ hi2
        generalize bs.getD i1 0 = cA at *
        generalize bs.getD i2 0 = cB at *
        have hw1 : IntKind.i64.wrap ((p : Int) * 7) = (p : Int) * 7 := by rw [IntKind.wrap_i64]; omega
        have hw2 : IntKind.i64.wrap ((p : Int) * 7 + 3) = (p : Int) * 7 + 3 := by rw [IntKind.wrap_i64]; omega
        go_enter Try.func11, Try.ntmps11
        have hLn : ¬ L = 0 := by omega
        have hLi : ¬ (L : Int) = 0 := by omega
        go_wp2
        go_quiet (fail)
        go_wp2
        go_ret
        have hx := xor_nonneg (cA * 131 + cB * 1117 + (p : Int) * 29 + (q1 : Int) * 53) ((cA * 131 + cB * 1117 + (p : Int) * 29 + (q1 : Int) * 53) / 64) (by omega) (by omega) (by omega) (by omega)
        exact ⟨_, rfl, Int.tmod_nonneg _ hx, fun h => Int.tmod_lt_of_pos _ (by omega), fun h => by omega, (HF.out _).1, (HF.out _).2, by simp [World.setCell]⟩

end Go.Proofs.Ytepamfkbeccmaaa

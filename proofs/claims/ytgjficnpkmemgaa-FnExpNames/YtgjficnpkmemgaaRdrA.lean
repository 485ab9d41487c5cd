/-
  The reader of the drawing beside circuits: bytes that come in, read; the reader opened (l1Open); a drawn number (pick).
-/
import Derived.Test.YtgjficnpkmemgaaBase
import Derived.Deep.QuietTactic
import Derived.BigQuiet
import Derived.Lib.SmallJoins
import Derived.ChangeOld
namespace Go.Proofs.Ytgjficnpkmemgaa
open Go.ChangeShapes Go.WideShapes Go.ChangeAt Go.RowKit Go.Deep Go.Joins
set_option linter.unusedVariables false

theorem hideD {P : Prop} (h : P) : Hid P := h

/-- A reader: block R holds the bytes and the place. -/
structure Rd (w : World) (R : Nat) (v : Value) (bs : List Int) (p : Nat) : Prop where
  lt : R < w.heap.size
  c0 : w.cell? ⟨R, 0, none⟩ = some v
  c1 : w.cell? ⟨R, 1, none⟩ = some (.int .i64 p)
  f1 : w.frozen? ⟨R, 1, none⟩ = false
  small : bs.length ≤ 2000
  form : ∃ ao cap, v = .slice ao bs.length cap ∧ (bs ≠ [] → ∃ b off, ao = some ⟨b, off, none⟩ ∧ b ≠ R ∧ b < w.heap.size ∧ ∀ i, i < bs.length → w.cell? ⟨b, off + i, none⟩ = some (.int .u8 (bs.getD i 0)))
  byte : ∀ i, i < bs.length → 0 ≤ bs.getD i 0 ∧ bs.getD i 0 ≤ 255

theorem Rd.grown {w w' : World} {R : Nat} {v : Value} {bs : List Int} {p : Nat} {row : Option Nat} (h : Rd w R v bs p) (hg : w.grownBy w' row) (hR : some R ≠ row) (hb : ∀ ao n cap b off, v = .slice ao n cap → ao = some ⟨b, off, none⟩ → some b ≠ row) : Rd w' R v bs p := by
  obtain ⟨ao, cap, hv, hf⟩ := h.form
  refine ⟨Nat.lt_of_lt_of_le h.lt hg.size, hg.cell h.c0 hR, hg.cell h.c1 hR, ?_, h.small, ⟨ao, cap, hv, fun hne => ?_⟩, h.byte⟩
  · rw [World.frozen?_of_block (w := w) (hg.block R h.lt hR)]; exact h.f1
  · obtain ⟨b, off, ha, h1, h2, h3⟩ := hf hne
    exact ⟨b, off, ha, h1, Nat.lt_of_lt_of_le h2 hg.size, fun i hi => hg.cell (h3 i hi) (hb ao _ _ b off hv ha)⟩

/-- The place moved on: the reader, and that nothing else has turned. -/
theorem Rd.next {w : World} {R : Nat} {v : Value} {bs : List Int} {p : Nat} (h : Rd w R v bs p) (m : Nat) : Rd ((w.setCell ⟨R, 1, none⟩ (.int .i64 ((p : Int) + 1))).drewN m) R v bs (p + 1) ∧ w.grownBy ((w.setCell ⟨R, 1, none⟩ (.int .i64 ((p : Int) + 1))).drewN m) (some R) := by
  have hg : w.grownBy ((w.setCell ⟨R, 1, none⟩ (.int .i64 ((p : Int) + 1))).drewN m) (some R) := by
    refine ⟨rfl, rfl, rfl, by simp [World.setCell], fun k hk hne => ?_⟩
    have h' : k ≠ R := fun e => hne (by rw [e])
    exact Below.heap_setCell w ⟨R, 1, none⟩ _ k h'
  obtain ⟨ao, cap, hv, hf⟩ := h.form
  have hc0 := h.c0
  have hc1 := h.c1
  have hf1 := h.f1
  refine ⟨⟨by simpa [World.setCell] using h.lt, ?_, ?_, ?_, h.small, ⟨ao, cap, hv, fun hne => ?_⟩, h.byte⟩, hg⟩
  · rw [World.cell?_drewN]
    rw [World.cell?_setCell_other w _ _ _ (by simp)]; exact hc0
  · rw [World.cell?_drewN]
    exact World.cell?_setCell_same w _ _ hc1
  · rw [World.frozen?_drewN]
    simpa using hf1
  · obtain ⟨b, off, ha, h1, h2, h3⟩ := hf hne
    exact ⟨b, off, ha, h1, Nat.lt_of_lt_of_le h2 hg.size, fun i hi => hg.cell (h3 i hi) (fun e => h1 (Option.some.inj e))⟩

theorem xor_nonneg (x y : Int) (h0 : 0 ≤ x) (h1 : x < 4611686018427387904) (h2 : 0 ≤ y) (h3 : y < 4611686018427387904) : 0 ≤ Go.bits .xor .i64 x y := by
  obtain ⟨a, rfl⟩ := Int.eq_ofNat_of_zero_le h0
  obtain ⟨b, rfl⟩ := Int.eq_ofNat_of_zero_le h2
  have ha : a < 2 ^ 62 := by omega
  have hb : b < 2 ^ 62 := by omega
  have hx : a ^^^ b < 2 ^ 62 := Nat.xor_lt_two_pow ha hb
  have ha' : a % 2 ^ IntKind.i64.bits = a := Nat.mod_eq_of_lt (Nat.lt_of_lt_of_le ha (by decide))
  have hb' : b % 2 ^ IntKind.i64.bits = b := Nat.mod_eq_of_lt (Nat.lt_of_lt_of_le hb (by decide))
  have h : Go.bits .xor .i64 (a : Int) (b : Int) = ((a ^^^ b : Nat) : Int) := by
    simp only [Go.bits, BitVec.ofInt_natCast, BitVec.toNat_xor, BitVec.toNat_ofNat, ha', hb']
    rw [IntKind.wrap_i64]
    generalize a ^^^ b = z at hx
    omega
  rw [h]
  exact Int.natCast_nonneg _

theorem mod_lt_nat (a L : Nat) (h : 0 < L) : ((a : Int) % (L : Int)).toNat < L := by
  have h1 := Int.emod_nonneg (a : Int) (b := (L : Int)) (by omega)
  have h2 := Int.emod_lt_of_pos (a : Int) (b := (L : Int)) (by omega)
  omega

set_option maxHeartbeats 2000000 in
theorem pick_any (R : Nat) (v : Value) (bs : List Int) (p : Nat) (n : Int) (w : World) (hr : Rd w R v bs p) (hp : p ≤ 1000000) (hn : n ≤ 1000000) :
    Calls Try.prog 20 #[.pointer (some ⟨R, 0, none⟩), .int .i64 n] w fun e w' => ∃ x : Int, e = .returned (.int .i64 x) ∧ 0 ≤ x ∧ (1 ≤ n → x < n) ∧ (n < 1 → x = 0) ∧ Rd w' R v bs (p + 1) ∧ w.grownBy w' (some R) ∧ w'.heap.size = w.heap.size := by
  have HR : Hid (Rd w R v bs p) := hr
  have hl := hr.lt
  have hc0 := hr.c0
  have hc1 := hr.c1
  have hf1 := hr.f1
  have hsm := hr.small
  obtain ⟨ao, cap, rfl, hf⟩ := hr.form
  have HF : Hid (∀ m, Rd ((w.setCell ⟨R, 1, none⟩ (.int .i64 ((p : Int) + 1))).drewN m) R (.slice ao bs.length cap) bs (p + 1) ∧ w.grownBy ((w.setCell ⟨R, 1, none⟩ (.int .i64 ((p : Int) + 1))).drewN m) (some R)) := fun m => hr.next m
  have HBY : Hid (∀ i, i < bs.length → 0 ≤ bs.getD i 0 ∧ bs.getD i 0 ≤ 255) := hr.byte
  clear hr
  by_cases h1 : n < 1
  · clear hf
    go_enter Try.func20, Try.ntmps20
    go_wp2
    go_ret
    exact ⟨0, rfl, by omega, by omega, by omega, (HF.out 0).1, (HF.out 0).2, by simp [World.setCell]⟩
  · by_cases hL : bs.length < 1
    · have hL' : ((bs.length : Int) == 0) = true := beq_iff_eq.2 (by omega)
      clear hf
      generalize bs.length = L at *
      go_enter Try.func20, Try.ntmps20
      go_wp2
      go_ret
      exact ⟨0, rfl, by omega, by omega, by omega, (HF.out 0).1, (HF.out 0).2, by simp [World.setCell]⟩
    · have hL' : ((bs.length : Int) == 0) = false := beq_eq_false_iff_ne.2 (by omega)
      obtain ⟨b, off, rfl, hbR, hblt, hcells⟩ := hf (by intro e; subst e; simp at hL)
      have HC : Hid (∀ i, i < bs.length → w.cell? ⟨b, off + i, none⟩ = some (.int .u8 (bs.getD i 0))) := hcells
      clear hf hcells
      generalize hLL : bs.length = L at *
      have HLL : Hid (bs.length = L) := hLL
      clear hLL
      by_cases hk : p < L
      · have hcell := HC.out p hk
        obtain ⟨hb0, hb1⟩ := HBY.out p hk
        generalize bs.getD p 0 = c at *
        go_enter Try.func20, Try.ntmps20
        go_wp2
        go_ret
        exact ⟨c % n, rfl, Int.emod_nonneg _ (by omega), Int.emod_lt_of_pos _ (by omega), by omega, (HF.out 0).1, (HF.out 0).2, by simp [World.setCell]⟩
      · obtain ⟨i1, ht1⟩ : ∃ i1 : Nat, (p : Int).tmod (L : Int) = (i1 : Int) := ⟨p % L, by rw [Int.tmod_eq_emod_of_nonneg (by omega)]; exact (Int.natCast_emod p L).symm⟩
        obtain ⟨i2, ht2⟩ : ∃ i2 : Nat, ((p : Int) * 7 + 3).tmod (L : Int) = (i2 : Int) := ⟨(p * 7 + 3) % L, by rw [Int.tmod_eq_emod_of_nonneg (by omega)]; simp⟩
        have hi1 : i1 < L := by have := Int.tmod_lt_of_pos (p : Int) (b := (L : Int)) (by omega); omega
        have hi2 : i2 < L := by have := Int.tmod_lt_of_pos ((p : Int) * 7 + 3) (b := (L : Int)) (by omega); omega
        obtain ⟨q1, hq1⟩ : ∃ q1 : Nat, (p : Int).tdiv (L : Int) = (q1 : Int) := ⟨p / L, by rw [Int.tdiv_eq_ediv_of_nonneg (by omega)]; exact (Int.natCast_ediv p L).symm⟩
        have hq2 : q1 ≤ 1000000 := by have := Int.tdiv_le_self (a := (p : Int)) (L : Int) (by omega); omega
        have hcA := HC.out _ hi1
        have hcB := HC.out _ hi2
        obtain ⟨ha0, ha1⟩ := HBY.out _ hi1
        obtain ⟨hb0, hb1⟩ := HBY.out _ hi2
        generalize bs.getD i1 0 = cA at *
        generalize bs.getD i2 0 = cB at *
        have hw1 : IntKind.i64.wrap ((p : Int) * 7) = (p : Int) * 7 := by rw [IntKind.wrap_i64]; omega
        have hw2 : IntKind.i64.wrap ((p : Int) * 7 + 3) = (p : Int) * 7 + 3 := by rw [IntKind.wrap_i64]; omega
        go_enter Try.func20, Try.ntmps20
        have hLn : ¬ L = 0 := by omega
        have hLi : ¬ (L : Int) = 0 := by omega
        go_wp2
        go_quiet (fail)
        go_wp2
        go_ret
        have hx := xor_nonneg (cA * 131 + cB * 1117 + (p : Int) * 29 + (q1 : Int) * 53) ((cA * 131 + cB * 1117 + (p : Int) * 29 + (q1 : Int) * 53) / 64) (by omega) (by omega) (by omega) (by omega)
        exact ⟨_, rfl, Int.tmod_nonneg _ hx, fun h => Int.tmod_lt_of_pos _ (by omega), fun h => by omega, (HF.out _).1, (HF.out _).2, by simp [World.setCell]⟩

/-- The value is a slice of these bytes. -/
def IsBytes (w : World) (v : Value) (bs : List Int) : Prop :=
  ∃ ao cap, v = .slice ao bs.length cap ∧ bs.length ≤ cap ∧ (bs ≠ [] → ∃ b off, ao = some ⟨b, off, none⟩ ∧ ∀ i, i < bs.length → w.cell? ⟨b, off + i, none⟩ = some (.int .u8 (bs.getD i 0))) ∧ ∀ i, i < bs.length → 0 ≤ bs.getD i 0 ∧ bs.getD i 0 ≤ 255

def OpenPost (K : Nat) (w : World) (e : Ending) (w' : World) : Prop :=
  ∃ v' bs', e = .returned (.pointer (some ⟨w.heap.size, 0, none⟩)) ∧ Rd w' w.heap.size v' bs' 0 ∧ Below w.heap.size w w' ∧ w'.heap.size = w.heap.size + 1 ∧ ∀ ao n cap b off, v' = .slice ao n cap → ao = some ⟨b, off, none⟩ → b < K

theorem rd_new {w : World} {ao : Option Addr} {cap : Nat} {bs : List Int} {t : TypeId} (hl : bs.length ≤ 2000) (h : bs ≠ [] → ∃ b off, ao = some ⟨b, off, none⟩ ∧ ∀ i, i < bs.length → w.cell? ⟨b, off + i, none⟩ = some (.int .u8 (bs.getD i 0))) (hb : ∀ i, i < bs.length → 0 ≤ bs.getD i 0 ∧ bs.getD i 0 ≤ 255) :
    Rd (w.alloc (.cells #[.slice ao bs.length cap, .int .i64 0] t)) w.heap.size (.slice ao bs.length cap) bs 0 := by
  refine ⟨by simp, by simp, by simp, by simp, hl, ⟨ao, cap, rfl, fun hne => ?_⟩, hb⟩
  obtain ⟨b, off, ha, hc⟩ := h hne
  have hpos : 0 < bs.length := List.length_pos_iff.2 hne
  have hlt : b < w.heap.size := cell_lt (hc 0 hpos)
  exact ⟨b, off, ha, by omega, by simp; omega, fun i hi => by rw [World.cell?_alloc_lt w _ _ hlt]; exact hc i hi⟩

set_option maxHeartbeats 1000000 in
theorem l1Open_any (K : Nat) (v : Value) (bs : List Int) (w : World) (hv : IsBytes w v bs) (hn : bs.length ≤ 1048576) (hal : ∀ ao n cap b off, v = .slice ao n cap → ao = some ⟨b, off, none⟩ → b < K) :
    Calls Try.prog 10 #[v] w (OpenPost K w) := by
  obtain ⟨ao, cap, rfl, hcap, hc, hb⟩ := hv
  by_cases hl : bs.length ≤ 2000
  · have HRD := hideD (fun t => rd_new (cap := cap) (t := t) hl hc hb)
    have HAL : Hid (∀ (ao' : Option Addr) (n' cap' b off : Nat), Value.slice ao bs.length cap = .slice ao' n' cap' → ao' = some ⟨b, off, none⟩ → b < K) := hal
    clear hc hb hal
    go_enter Try.func10, Try.ntmps10
    go_wp2
    go_ret
    exact ⟨_, bs, rfl, HRD.out _, belOne _ _, by simp, fun a b c d e h1 h2 => HAL.out a b c d e h1 h2⟩
  · have hlen : (bs.take 2000).length = 2000 := by simp; omega
    have hget : ∀ i, i < 2000 → (bs.take 2000).getD i 0 = bs.getD i 0 := fun i hi => by simp [List.getD, hi]
    have hc' : bs.take 2000 ≠ [] → ∃ b off, ao = some ⟨b, off, none⟩ ∧ ∀ i, i < (bs.take 2000).length → w.cell? ⟨b, off + i, none⟩ = some (.int .u8 ((bs.take 2000).getD i 0)) := fun _ => by
      obtain ⟨b, off, ha, hcc⟩ := hc (by intro e; subst e; simp at hl)
      exact ⟨b, off, ha, fun i hi => by rw [hlen] at hi; rw [hget i hi]; exact hcc i (by omega)⟩
    have HRD := hideD (fun t => rd_new (w := w) (cap := cap) (t := t) (by rw [hlen]; exact Nat.le_refl _) hc' (fun i hi => by rw [hlen] at hi; rw [hget i hi]; exact hb i (by omega)))
    have HAL : Hid (∀ (ao' : Option Addr) (n' cap' b off : Nat), Value.slice ao bs.length cap = .slice ao' n' cap' → ao' = some ⟨b, off, none⟩ → b < K) := hal
    have HLEN : Hid ((bs.take 2000).length = 2000) := hlen
    have hcp : (2000 : Int) ≤ (cap : Int) := by omega
    obtain ⟨b, off, rfl, _⟩ := hc (by intro e; subst e; simp at hl)
    clear hc hb hal hc' hget hlen
    go_enter Try.func10, Try.ntmps10
    go_wp2
    go_ret
    exact ⟨_, bs.take 2000, rfl, by have h := HRD.out 50; rw [HLEN.out] at h; exact h, belOne _ _, by simp, fun a n c d e h1 h2 => HAL.out (some ⟨b, off, none⟩) _ _ d e rfl (by cases h1; exact h2)⟩

theorem ownR : ownKnob Try.prog.godebug = none := by kernel_rfl
theorem laidOutR : laidOutB Try.prog = true := by kernel_rfl
theorem cells_byte : Try.prog.cellsOf 5 = 1 := by kernel_rfl

theorem addr_plainR {w : World} {a : Addr} {n : Nat} {f : Nat → Value} (hn : 0 < n) (h : ∀ i, i < n → w.cell? (a.add i) = some (f i)) : ∃ b off, a = ⟨b, off, none⟩ ∧ ∀ i, i < n → w.cell? ⟨b, off + i, none⟩ = some (f i) := by
  obtain ⟨b, off, spot⟩ := a
  have hspot : spot = none := by simpa [Addr.add] using World.cell?_spot (h 0 hn)
  subst hspot
  refine ⟨b, off, rfl, fun i hi => ?_⟩
  have hc := h i hi
  unfold Addr.add at hc
  by_cases e : i = 0
  · subst e; simpa using hc
  · simpa [e] using hc

theorem okWide_slice_lt {P : Program} {w : World} {r : Reach} {base : Nat} {t e : TypeId} {a : Addr} {len cap : Nat} (ht : P.underlying t = some (.slice e)) (h : Value.okWide P w r base t (.slice (some a) len cap)) : a.block < w.heap.size := by
  simp only [Value.okWide, ht, Cell.okWide, Cell.ok] at h
  obtain ⟨_, _, _, _, row, cells, hs, _⟩ := h
  rcases Nat.lt_or_ge a.block w.heap.size with h1 | h1
  · exact h1
  · simp [World.shape?, Array.getElem?_eq_none h1] at hs

theorem isBytes_of_trod {H : Type} {enc : TypeId × Value → H} {w : World} {base : Nat} {held : Bool} {fuel : Nat} {v : Value} {x : DataW H × List MemPlace} (h : DataW.trod enc Try.prog w base (fun _ => true) held fuel 22 [v] = some x) :
    ∃ bs, IsBytes w v bs ∧ bs.length ≤ maxLen := by
  rcases open_ints Try.underlying22 Try.underlying5 cells_byte h with ⟨hcs, _⟩ | ⟨a, l, c, zs, hcs, _, hl, hm, hz, hx, hcell, hwf⟩
  · simp at hcs
    subst hcs
    exact ⟨[], ⟨_, _, rfl, by simp, fun hne => absurd rfl hne, fun i hi => by simp at hi⟩, by simp⟩
  · simp at hcs hz
    subst hcs
    have hlen : (zs.take l).length = l := by simp; omega
    refine ⟨zs.take l, ⟨some a, c, by rw [hlen], by rw [hlen]; exact hl, fun hne => ?_, fun i hi => ?_⟩, by rw [hlen]; omega⟩
    · have hpos : 0 < l := by
        rcases Nat.eq_zero_or_pos l with e | e
        · subst e; simp at hne
        · exact e
      obtain ⟨b, off, rfl, hc⟩ := addr_plainR (n := l) (f := fun i => .int .u8 (zs.getD i 0)) hpos (fun i hi => hcell i (by omega))
      refine ⟨b, off, rfl, fun i hi => ?_⟩
      rw [hlen] at hi
      rw [hc i hi]
      simp [List.getD, hi]
    · rw [hlen] at hi
      have hm : zs.getD i 0 ∈ zs := by rw [List.getD, List.getElem?_eq_getElem (by omega)]; simp
      have hw := hwf _ hm
      have he : (zs.take l).getD i 0 = zs.getD i 0 := by simp [List.getD, hi]
      rw [he]
      clear hm he
      generalize zs.getD i 0 = z at hw ⊢
      simp [Lit.wf, IntKind.min, IntKind.max, IntKind.signed, IntKind.bits] at hw
      omega

/-- A reader beside memory that is written in one block of the call's own. -/
theorem Rd.own {w w' : World} {R : Nat} {v : Value} {bs : List Int} {p base : Nat} {row : Option Nat} (h : Rd w R v bs p) (hg : w.grownBy w' row) (hR : R < base) (hvb : ∀ ao n cap b off, v = .slice ao n cap → ao = some ⟨b, off, none⟩ → b < base) (hrow : ∀ k, row = some k → base ≤ k) : Rd w' R v bs p :=
  h.grown hg (fun e => by have := hrow R e.symm; omega) (fun ao n cap b off hv ha e => by have h1 := hvb ao n cap b off hv ha; have h2 := hrow b e.symm; omega)

/-- Of old memory the reader's block alone has turned. -/
def Old (R base : Nat) (w w' : World) : Prop := w'.os = w.os ∧ w'.tape = w.tape ∧ w'.output = w.output ∧ w.heap.size ≤ w'.heap.size ∧ ∀ k, k < base → k ≠ R → w'.heap[k]? = w.heap[k]?

theorem Old.refl (R base : Nat) (w : World) : Old R base w w := ⟨rfl, rfl, rfl, Nat.le_refl _, fun _ _ _ => rfl⟩
theorem Old.trans {R base : Nat} {a b c : World} (h : Old R base a b) (k : Old R base b c) : Old R base a c :=
  ⟨k.1.trans h.1, k.2.1.trans h.2.1, k.2.2.1.trans h.2.2.1, Nat.le_trans h.2.2.2.1 k.2.2.2.1, fun i hi hne => (k.2.2.2.2 i hi hne).trans (h.2.2.2.2 i hi hne)⟩
theorem Old.below {R base : Nat} {a b c : World} (h : Old R base a b) (k : Below b.heap.size b c) (hb : base ≤ b.heap.size) : Old R base a c :=
  h.trans ⟨k.os, k.tape, k.output, k.size, fun i hi _ => k.block i (by omega)⟩
theorem Old.grown {R base : Nat} {a b c : World} {row : Option Nat} (h : Old R base a b) (k : b.grownBy c row) (hb : base ≤ b.heap.size) (hr : ∀ q, row = some q → base ≤ q ∨ q = R) : Old R base a c :=
  h.trans ⟨k.os, k.tape, k.output, k.size, fun i hi hne => k.block i (by omega) (fun e => by rcases hr i e.symm with h | h <;> omega)⟩
theorem Old.size {R base : Nat} {a b : World} (h : Old R base a b) : a.heap.size ≤ b.heap.size := h.2.2.2.1

end Go.Proofs.Ytgjficnpkmemgaa

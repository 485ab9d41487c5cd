/-
  An expression drawn: l13Names2, l13Exp.
-/
import Derived.Test.YtgjficnpkmemgaaExpW
import Derived.Test.YtgjficnpkmemgaaExpM
namespace Go.Proofs.Ytgjficnpkmemgaa
open Go.RowKit Go.Deep
set_option linter.unusedVariables false

attribute [local go_sem] Oper.semAt_some

theorem atT_new (w : World) (xs : List ByteArray) (t : TypeId) : AtT (w.alloc (.cells (xs.map Value.string).toArray t)) w.heap.size 0 (xs.map fun s => s.data.toList) := fun i hi => by
  have hi' : i < xs.length := by simpa using hi
  rw [litT_cells w xs t i hi']
  simp [List.getD, hi']

set_option maxRecDepth 100000 in
theorem l13Names2_any (w : World) : Calls Try.prog 31 #[] w fun e w' => ∃ nv tv, e = .returned (.agg #[nv, tv]) ∧ Below w.heap.size w w' ∧ ∀ R, R < w.heap.size → SlT w' R nv ∧ SlT w' R tv := by
  obtain ⟨W1, hW1⟩ : ∃ W1, W1 = w.alloc (.cells #[.slice (some ⟨w.heap.size + 1, 0, none⟩) 2 2, .slice (some ⟨w.heap.size + 1 + 1, 0, none⟩) 2 2] 66) := ⟨_, rfl⟩
  obtain ⟨W2, hW2⟩ : ∃ W2, W2 = W1.alloc (.cells #[.string ⟨#[120]⟩, .string ⟨#[121]⟩] 9) := ⟨_, rfl⟩
  obtain ⟨W3, hW3⟩ : ∃ W3, W3 = W2.alloc (.cells #[.string ⟨#[97]⟩, .string ⟨#[98]⟩] 9) := ⟨_, rfl⟩
  have hs1 : W1.heap.size = w.heap.size + 1 := by rw [hW1]; simp
  have hs2 : W2.heap.size = w.heap.size + 1 + 1 := by rw [hW2, World.size_alloc, hs1]
  have HA : Hid (AtT W3 (w.heap.size + 1) 0 [[120], [121]]) := by
    have h := (atT_new W1 [⟨#[120]⟩, ⟨#[121]⟩] 9).below (belOne _ (.cells #[.string ⟨#[97]⟩, .string ⟨#[98]⟩] 9))
    rw [hs1] at h
    rw [hW3, hW2]; exact h
  have HC : Hid (AtT W3 (w.heap.size + 1 + 1) 0 [[97], [98]]) := by
    have h := atT_new W2 [⟨#[97]⟩, ⟨#[98]⟩] 9
    rw [hs2] at h
    rw [hW3]; exact h
  have HB : Hid (Below w.heap.size w W3) := by rw [hW3, hW2, hW1]; exact belNext (belNext (belOne _ _) (belOne _ _)) (belOne _ _)
  rw [hW2, hW1] at hW3
  have HW3 := hideN hW3
  clear hW1 hW2 hW3 hs1 hs2
  go_enter Try.func31, Try.ntmps31
  go_wp2_with fail
  exact bodyPost_ret (v := .agg #[.slice (some ⟨w.heap.size + 1, 0, none⟩) 2 2, .slice (some ⟨w.heap.size + 1 + 1, 0, none⟩) 2 2]) (by simp [results, Try.results31, go_sem]) rfl (by
    rw [← HW3.out]
    exact ⟨_, _, rfl, HB.out, fun R hR => ⟨⟨_, 2, 2, [[120], [121]], rfl, rfl, by decide, by simp, fun _ => ⟨_, 0, rfl, by omega, HA.out⟩⟩, ⟨_, 2, 2, [[97], [98]], rfl, rfl, by decide, by simp, fun _ => ⟨_, 0, rfl, by omega, HC.out⟩⟩⟩⟩)

/-- What stands while an expression is drawn: the answer not yet written, the reader. -/
structure DrX (w V : World) (R : Nat) (v : Value) (bs : List Int) (p : Nat) : Prop where
  q : BlkE V w.heap.size (.int .i64 0) (.int .i64 0) (.string ⟨#[]⟩) (.slice none 0 0) 25
  rd : Rd V R v bs p
  gr : w.grownBy V (some R)
  lt : R < w.heap.size
  al : ∀ (ao : Option Addr) (n cap b off : Nat), v = .slice ao n cap → ao = some ⟨b, off, none⟩ → b < w.heap.size

section
variable {w V V' : World} {R : Nat} {v : Value} {bs : List Int} {p p' : Nat}
theorem DrX.pick (h : DrX w V R v bs p) (hrd : Rd V' R v bs p') (hg : V.grownBy V' (some R)) : DrX w V' R v bs p' :=
  ⟨(hg.block _ h.q.lt (fun e => by have h1 : w.heap.size = R := Option.some.inj e; have := h.lt; omega)).trans h.q, hrd, grown_trans h.gr hg, h.lt, h.al⟩
theorem DrX.below (h : DrX w V R v bs p) (hb : Below V.heap.size V V') : DrX w V' R v bs p :=
  ⟨h.q.below hb, h.rd.below hb, grown_trans h.gr (below_grown hb), h.lt, h.al⟩
theorem DrX.room (h : DrX w V R v bs p) : w.heap.size + 1 ≤ V.heap.size := h.q.lt
theorem DrX.alw (h : DrX w V R v bs p) : ∀ (ao : Option Addr) (n cap b off : Nat), v = .slice ao n cap → ao = some ⟨b, off, none⟩ → b < V.heap.size := fun ao n cap b off e1 e2 => by have := h.al ao n cap b off e1 e2; have := h.room; omega
theorem DrX.lo (h : DrX w V R v bs p) : R < w.heap.size + 1 := by have := h.lt; omega
/-- A block of the call's own is written. -/
theorem DrX.set4 (h : DrX w V R v bs p) {E : Nat} (hE : w.heap.size < E) (a0 a1 a2 a3 : Value) : DrX w (set4E V E a0 a1 a2 a3) R v bs p := by
  have hg : V.grownBy (set4E V E a0 a1 a2 a3) (some E) := ⟨rfl, rfl, rfl, by rw [set4E_size]; exact Nat.le_refl _, fun k hk hne => set4E_other _ _ _ _ (fun e => hne (by rw [e]))⟩
  refine ⟨(set4E_other _ _ _ _ (by omega)).trans h.q, h.rd.own hg h.lt h.al (fun k e => by have := Option.some.inj e; omega), ?_, h.lt, h.al⟩
  exact ⟨h.gr.os, h.gr.tape, h.gr.output, by rw [set4E_size]; exact h.gr.size, fun k hk hne => (set4E_other _ _ _ _ (by omega)).trans (h.gr.block k hk hne)⟩
end

/-- A drawn expression that is said to be ok. -/
def DrwO (R : Nat) (v : Value) (bs : List Int) (p m : Nat) (w : World) (e : Ending) (w' : World) : Prop :=
  ∃ (t : ExpT) (u : Value) (p' : Nat), e = .returned u ∧ IsE w' w.heap.size t u ∧ totE t ≤ m ∧ okE t = true ∧ p ≤ p' ∧ p' ≤ p + m ∧ Rd w' R v bs p' ∧ w.grownBy w' (some R)

theorem drx_fin {w V : World} {R : Nat} {v : Value} {bs : List Int} {p : Nat} {a0 a1 a2 a3 : Value} {t : ExpT} (h : DrX w V R v bs p) (hE : IsE V (w.heap.size + 1) t (.agg #[a0, a1, a2, a3])) :
    IsE (set4E V w.heap.size a0 a1 a2 a3) w.heap.size t (.agg #[a0, a1, a2, a3]) ∧ Rd (set4E V w.heap.size a0 a1 a2 a3) R v bs p ∧ w.grownBy (set4E V w.heap.size a0 a1 a2 a3) (some R) := by
  have hg : V.grownBy (set4E V w.heap.size a0 a1 a2 a3) (some w.heap.size) := ⟨rfl, rfl, rfl, by rw [set4E_size]; exact Nat.le_refl _, fun k hk hne => set4E_other _ _ _ _ (fun e => hne (by rw [e]))⟩
  refine ⟨IsE.less (by omega) _ _ (IsE.kept (fun k hk _ => set4E_other _ _ _ _ (by omega)) _ _ hE), ?_, ?_⟩
  · exact h.rd.own hg h.lt h.al (fun k e => by have := Option.some.inj e; omega)
  · exact ⟨h.gr.os, h.gr.tape, h.gr.output, by rw [set4E_size]; exact h.gr.size, fun k hk hne => (set4E_other _ _ _ _ (by omega)).trans (h.gr.block k hk hne)⟩

theorem ok_name_a : okE (.node 4 0 ⟨#[97]⟩ []) = true := by decide +kernel

set_option maxRecDepth 100000 in
set_option maxHeartbeats 40000000 in
theorem l13Exp_any (R : Nat) (v : Value) (bs : List Int) (p : Nat) (w : World) (hr : Rd w R v bs p) (hp : p + 30000 ≤ 400000) (hal : ∀ (ao : Option Addr) (n cap b off : Nat), v = .slice ao n cap → ao = some ⟨b, off, none⟩ → b < w.heap.size) :
    Calls Try.prog 19 #[.pointer (some ⟨R, 0, none⟩)] w (DrwO R v bs p 30000 w) := by
  have hlt := hr.lt
  obtain ⟨W1, hW1⟩ : ∃ W1, W1 = w.alloc (.cells #[.int .i64 0, .int .i64 0, .string ⟨#[]⟩, .slice none 0 0] 25) := ⟨_, rfl⟩
  have hb1 : Below w.heap.size w W1 := by rw [hW1]; exact belOne _ _
  have HS1 : Hid (DrX w W1 R v bs p) := ⟨by rw [hW1]; exact BlkE.new _ _ _ _ _ _, hr.below hb1, below_grown hb1, hlt, hal⟩
  have HW1 := hideN hW1
  have HTD := hideN (fun d (hd : d ≤ 8) => (drw_all d hd).1)
  have HND := hideN (fun d (hd : d ≤ 8) => (drw_all d hd).2)
  have HOK := hideN (fun lo t v W (ht : totE t ≤ 1048576) (h : IsE W lo t v) => specExpOk_any lo t ht v W h)
  have HPW : Hid (∀ d, d ≤ 4 → 16 * 4 ^ d ≤ 4096) := fun d hd => by
    have h : 4 ^ d ≤ 4 ^ 4 := Nat.pow_le_pow_right (by decide) hd
    have h2 : (4 : Nat) ^ 4 = 256 := rfl
    omega
  clear hr hal hb1 hW1
  go_enter Try.func19, Try.ntmps19
  go_wp2_with fail
  try rw [← HW1.out]
  go_loopw [3, 4] (fun i _ wr => ∃ n p1 : Nat, n ≤ 3 ∧ i = .int .i64 (n : Int) ∧ p ≤ p1 ∧ p1 ≤ p + n * 9000 ∧ Hid (DrX w wr R v bs p1)) (fun i _ _ => 3 - (intOf i).toNat)
  case atStart => exact ⟨0, p, Nat.zero_le _, rfl, Nat.le_refl _, by omega, HS1⟩
  case round =>
    obtain ⟨n, p1, hn, rfl, hp1, hp2, HS⟩ := hrel
    clear HS1 HW1
    by_cases hlt3 : n < 3
    · obtain ⟨d, hd⟩ : ∃ d : Nat, (4 : Int) - (n : Int) = (d : Int) := ⟨4 - n, by omega⟩
      have hd4 : d ≤ 4 := by omega
      have hpw := HPW.out d hd4
      obtain ⟨M, hM⟩ : ∃ M, 16 * 4 ^ d = M := ⟨_, rfl⟩
      have HTK : Hid (∀ (p : Nat) (V : World) (nv tv : Value), Rd V R v bs p → p + M ≤ 400000 → SlT V R nv → SlT V R tv → (∀ (ao : Option Addr) (n cap b off : Nat), v = .slice ao n cap → ao = some ⟨b, off, none⟩ → b < V.heap.size) → Calls Try.prog 30 #[.pointer (some ⟨R, 0, none⟩), .int .i64 (d : Int), .agg #[nv, tv]] V (DrwE R v bs p M V)) := fun p V nv tv a b c e f => by
        rw [← hM]; exact HTD.out d (by omega) R v bs p nv tv V a (by omega) c e f
      have HNK : Hid (∀ (p : Nat) (V : World) (nv tv : Value), Rd V R v bs p → p + M ≤ 400000 → SlT V R nv → SlT V R tv → (∀ (ao : Option Addr) (n cap b off : Nat), v = .slice ao n cap → ao = some ⟨b, off, none⟩ → b < V.heap.size) → Calls Try.prog 32 #[.pointer (some ⟨R, 0, none⟩), .int .i64 (d : Int), .agg #[nv, tv]] V (DrwE R v bs p M V)) := fun p V nv tv a b c e f => by
        rw [← hM]; exact HND.out d (by omega) R v bs p nv tv V a (by omega) c e f
      rw [hM] at hpw
      have hwd : IntKind.i64.wrap (d : Int) = (d : Int) := by rw [IntKind.wrap_i64]; omega
      have hn3 : decide ((n : Int) < 3) = true := by simp; omega
      clear hM
      go_wp2_with fail
      refine (l13Names2_any wr).mono ?_
      rintro e V1 ⟨nv, tv, rfl, hb1, hsl⟩
      have HSA := hideN (HS.out.below hb1)
      obtain ⟨hs1, hs2⟩ := hsl R (by have := HS.out.room; have := HS.out.lt; omega)
      have HCT := hideN (HTK.out p1 V1 nv tv HSA.out.rd (by omega) hs1 hs2 HSA.out.alw)
      have hro := HSA.out.room
      clear hb1 hsl hs1 hs2
      go_wp2_with fail
      refine HCT.out.mono ?_
      rintro e V2 ⟨T, u, p2, rfl, hE, hT, hp3, hp4, hrd, hg⟩
      obtain ⟨k2, n2, s2, a2, m2, c2, rfl⟩ := hE.agg
      have HSB := hideN (HSA.out.pick hrd hg)
      obtain ⟨V3, hV3⟩ : ∃ V3, V3 = V2.alloc (.cells #[.int .i64 k2, .int .i64 n2, .string s2, .slice a2 m2 c2] 25) := ⟨_, rfl⟩
      have hb3 : Below V2.heap.size V2 V3 := by rw [hV3]; exact belOne _ _
      have HSC := hideN (HSB.out.below hb3)
      have HE3 := hideN (IsE.less hro _ _ (IsE.below hE hb3))
      have HK3 : Hid (BlkE V3 V2.heap.size (.int .i64 k2) (.int .i64 n2) (.string s2) (.slice a2 m2 c2) 25) := by rw [hV3]; exact BlkE.new _ _ _ _ _ _
      have hrE := HSB.out.room
      have hltR := HSB.out.lt
      obtain ⟨E, hE0⟩ : ∃ E, V2.heap.size = E := ⟨_, rfl⟩
      have hE0' := hideN hE0
      rw [hE0] at HK3 hrE
      have HV3 := hideN hV3
      clear hrd hg hE hV3 hb3 hro
      go_wp2_with fail
      try rw [← HV3.out]
      try rw [hE0]
      clear hE0
      refine (pick_any R v bs p2 2 V3 HSC.out.rd (by omega) (by omega)).mono ?_
      rintro e V4 ⟨x, rfl, hx0, hx1, -, hrd, hg, -⟩
      have HSD := hideN (HSC.out.pick hrd hg)
      have HE4 := hideN (HE3.out.rd HSC.out.lo hg)
      have HK4 : Hid (BlkE V4 E (.int .i64 k2) (.int .i64 n2) (.string s2) (.slice a2 m2 c2) 25) := (hg.block _ HK3.out.lt (fun e => by have := Option.some.inj e; omega)).trans HK3.out
      have hxm := hx1 (by omega)
      clear hrd hg hx1
      by_cases hx : x = 0
      · subst hx
        go_wp2_with fail
        refine (l13Names2_any V4).mono ?_
        rintro e V5 ⟨nv5, tv5, rfl, hb5, hsl⟩
        have HSE := hideN (HSD.out.below hb5)
        have HK5 := hideN (HK4.out.below hb5)
        obtain ⟨hs1, hs2⟩ := hsl R (by have := HSD.out.room; omega)
        have HCN := hideN (HNK.out (p2 + 1) V5 nv5 tv5 HSE.out.rd (by omega) hs1 hs2 HSE.out.alw)
        have hro := HSE.out.room
        have hEl := HK5.out.lt
        clear hb5 hsl hs1 hs2
        go_wp2_with fail
        refine HCN.out.mono ?_
        rintro e V6 ⟨T6, u6, p6, rfl, hE, hT6, hp5, hp6, hrd, hg⟩
        obtain ⟨k6, n6, s6, a6, m6, c6, rfl⟩ := hE.agg
        have HSF := hideN (HSE.out.pick hrd hg)
        have hk6 : BlkE V6 E (.int .i64 k2) (.int .i64 n2) (.string s2) (.slice a2 m2 c2) 25 := (hg.block _ HK5.out.lt (fun e => by have := Option.some.inj e; omega)).trans HK5.out
        obtain ⟨V7, hV7⟩ : ∃ V7, V7 = (((V6.setCell ⟨E, 0, none⟩ (.int .i64 k6)).setCell ⟨E, 1, none⟩ (.int .i64 n6)).setCell ⟨E, 2, none⟩ (.string s6)).setCell ⟨E, 3, none⟩ (.slice a6 m6 c6) := ⟨_, rfl⟩
        have HE6 : Hid (IsE V7 (E + 1) T6 (.agg #[.int .i64 k6, .int .i64 n6, .string s6, .slice a6 m6 c6])) := by
          rw [hV7]; exact IsE.kept (fun k hk _ => set4E_other _ _ _ _ (by omega)) _ _ (IsE.less (by omega) _ _ hE)
        have HSG : Hid (DrX w V7 R v bs p6) := by rw [hV7]; exact HSF.out.set4 (show w.heap.size < E by omega) (.int .i64 k6) (.int .i64 n6) (.string s6) (.slice a6 m6 c6)
        have HK7 : Hid (BlkE V7 E (.int .i64 k6) (.int .i64 n6) (.string s6) (.slice a6 m6 c6) 25) := by rw [hV7]; exact set4E_blk hk6 (.int .i64 k6) (.int .i64 n6) (.string s6) (.slice a6 m6 c6)
        have q0 := hk6.c0
        have q1 := hk6.c1
        have q2 := hk6.c2
        have q3 := hk6.c3
        have f0 := hk6.f 0
        have f1 := hk6.f 1
        have f2 := hk6.f 2
        have f3 := hk6.f 3
        have HV7 := hideN hV7
        clear hrd hg hE hk6 hV7
        have r0 := HK7.out.c0
        have r1 := HK7.out.c1
        have r2 := HK7.out.c2
        have r3 := HK7.out.c3
        
        have HCO := hideN (HOK.out _ T6 _ V7 (by omega) HE6.out)
        obtain ⟨ok, hok⟩ : ∃ ok, okE T6 = ok := ⟨_, rfl⟩
        rw [hok] at HCO
        go_wp2_with fail
        try rw [← HV7.out]
        refine HCO.out.mono ?_
        rintro e V8 ⟨rfl, hb8⟩
        have HSH := hideN (HSG.out.below hb8)
        have HE8 := hideN (IsE.less (show w.heap.size + 1 ≤ _ by omega) _ _ (IsE.below HE6.out hb8))
        have HK8 := hideN (HK7.out.below hb8)
        clear hb8 r0 r1 r2 r3
        cases ok with
        | true =>
          have r0 := HK8.out.c0
          have r1 := HK8.out.c1
          have r2 := HK8.out.c2
          have r3 := HK8.out.c3
          have HF := hideN (drx_fin HSH.out HE8.out)
          have HQ4 := hideN (set4E_blk HSH.out.q (.int .i64 k6) (.int .i64 n6) (.string s6) (.slice a6 m6 c6))
          have q0 := HSH.out.q.c0
          have q1 := HSH.out.q.c1
          have q2 := HSH.out.q.c2
          have q3 := HSH.out.q.c3
          have f0 := HSH.out.q.f 0
          have f1 := HSH.out.q.f 1
          have f2 := HSH.out.q.f 2
          have f3 := HSH.out.q.f 3
          go_wp2_with fail
          have t0 := HQ4.out.c0
          have t1 := HQ4.out.c1
          have t2 := HQ4.out.c2
          have t3 := HQ4.out.c3
          exact bodyPost_ret (v := .agg #[.int .i64 k6, .int .i64 n6, .string s6, .slice a6 m6 c6]) (by simp [results, Try.results19, go_sem, t0, t1, t2, t3]) rfl ⟨T6, _, p6, rfl, HF.out.1, by omega, hok, by omega, by omega, HF.out.2.1, HF.out.2.2⟩
        | false =>
          go_wp2_with fail
          go_roundw
          case rel => exact ⟨n + 1, p6, by omega, by go_num, by omega, by omega, HSH⟩
          case measure => simp [intOf]; omega
      · have hxb : (x == 0) = false := by simpa using hx
        have r0 := HK4.out.c0
        have r1 := HK4.out.c1
        have r2 := HK4.out.c2
        have r3 := HK4.out.c3
        
        have HCO := hideN (HOK.out _ T _ V4 (by omega) HE4.out)
        obtain ⟨ok, hok⟩ : ∃ ok, okE T = ok := ⟨_, rfl⟩
        rw [hok] at HCO
        go_wp2_with fail
        refine HCO.out.mono ?_
        rintro e V8 ⟨rfl, hb8⟩
        have HSH := hideN (HSD.out.below hb8)
        have HE8 := hideN (IsE.less (show w.heap.size + 1 ≤ _ by omega) _ _ (IsE.below HE4.out hb8))
        have HK8 := hideN (HK4.out.below hb8)
        clear hb8 r0 r1 r2 r3
        cases ok with
        | true =>
          have r0 := HK8.out.c0
          have r1 := HK8.out.c1
          have r2 := HK8.out.c2
          have r3 := HK8.out.c3
          have HF := hideN (drx_fin HSH.out HE8.out)
          have HQ4 := hideN (set4E_blk HSH.out.q (.int .i64 k2) (.int .i64 n2) (.string s2) (.slice a2 m2 c2))
          have q0 := HSH.out.q.c0
          have q1 := HSH.out.q.c1
          have q2 := HSH.out.q.c2
          have q3 := HSH.out.q.c3
          have f0 := HSH.out.q.f 0
          have f1 := HSH.out.q.f 1
          have f2 := HSH.out.q.f 2
          have f3 := HSH.out.q.f 3
          go_wp2_with fail
          have t0 := HQ4.out.c0
          have t1 := HQ4.out.c1
          have t2 := HQ4.out.c2
          have t3 := HQ4.out.c3
          exact bodyPost_ret (v := .agg #[.int .i64 k2, .int .i64 n2, .string s2, .slice a2 m2 c2]) (by simp [results, Try.results19, go_sem, t0, t1, t2, t3]) rfl ⟨T, _, (p2 + 1), rfl, HF.out.1, by omega, hok, by omega, by omega, HF.out.2.1, HF.out.2.2⟩
        | false =>
          go_wp2_with fail
          go_roundw
          case rel => exact ⟨n + 1, (p2 + 1), by omega, by go_num, by omega, by omega, HSH⟩
          case measure => simp [intOf]; omega
    · obtain rfl : n = 3 := by omega
      go_wp2_with fail
      refine (l13Name_any ⟨#[97]⟩ wr).mono ?_
      rintro e V1 ⟨rfl, hb1⟩
      have HSA := hideN (HS.out.below hb1)
      clear hb1
      have HF := hideN (drx_fin HSA.out (isE_leaf V1 (w.heap.size + 1) 4 0 ⟨#[97]⟩ ⟨by unfold Num64; omega, by unfold Num64; omega, by decide⟩))
      have HQ4 := hideN (set4E_blk HSA.out.q (.int .i64 4) (.int .i64 0) (.string ⟨#[97]⟩) (.slice none 0 0))
      have q0 := HSA.out.q.c0
      have q1 := HSA.out.q.c1
      have q2 := HSA.out.q.c2
      have q3 := HSA.out.q.c3
      have f0 := HSA.out.q.f 0
      have f1 := HSA.out.q.f 1
      have f2 := HSA.out.q.f 2
      have f3 := HSA.out.q.f 3
      go_wp2_with fail
      have t0 := HQ4.out.c0
      have t1 := HQ4.out.c1
      have t2 := HQ4.out.c2
      have t3 := HQ4.out.c3
      exact bodyPost_ret (v := .agg #[.int .i64 4, .int .i64 0, .string ⟨#[97]⟩, .slice none 0 0]) (by simp [results, Try.results19, go_sem, t0, t1, t2, t3]) rfl ⟨.node 4 0 ⟨#[97]⟩ [], _, p1, rfl, HF.out.1, by rw [totE, totL]; show 1 + 0 + 0 ≤ 30000; omega, ok_name_a, hp1, by omega, HF.out.2.1, HF.out.2.2⟩

end Go.Proofs.Ytgjficnpkmemgaa

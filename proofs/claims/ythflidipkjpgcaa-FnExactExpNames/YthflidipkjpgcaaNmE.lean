/-
  Rows of texts held against each other; marks of texts: markText, markStringS, heldStringS.
-/
import Derived.Test.YthflidipkjpgcaaNmS
import Derived.Laws.BytesArg
namespace Go.Proofs.Ythflidipkjpgcaa
open Go.RowKit Go.Deep Go.Proofs
set_option linter.unusedVariables false

attribute [local go_sem] Oper.semAt_some

set_option maxRecDepth 100000 in
set_option maxHeartbeats 4000000 in
theorem eqStringS_same (ss : List Bs) (v u : Value) (w : World) (h1 : IsT w v ss) (h2 : IsT w u ss) (h64 : ss.length ≤ 1000) : Calls Try.prog 8 #[v, u] w fun e w' => e = .returned (.bool true) ∧ Below w.heap.size w w' := by
  obtain ⟨ao, c1, rfl, h1⟩ := h1
  obtain ⟨bo, c2, rfl, h2⟩ := h2
  obtain ⟨n, hn⟩ : ∃ n, ss.length = n := ⟨_, rfl⟩
  have HN := hideN hn
  have H1 := hideN (fun W (hV : Below w.heap.size w W) (hp : 0 < ss.length) => (show ∃ b off, ao = some ⟨b, off, none⟩ ∧ AtT W b off ss from by
    obtain ⟨b, off, e, h⟩ := h1 hp
    exact ⟨b, off, e, h.below hV⟩))
  have H2 := hideN (fun W (hV : Below w.heap.size w W) (hp : 0 < ss.length) => (show ∃ b off, bo = some ⟨b, off, none⟩ ∧ AtT W b off ss from by
    obtain ⟨b, off, e, h⟩ := h2 hp
    exact ⟨b, off, e, h.below hV⟩))
  rw [hn] at h64 ⊢
  clear h1 h2 hn
  go_enter Try.func8, Try.ntmps8
  go_wp2_with fail
  go_loopw [5] (fun i wr => ∃ j : Nat, j ≤ n ∧ i = .int .i64 (j : Int) ∧ Hid (Below w.heap.size w wr)) (fun i _ => n - (intOf i).toNat)
  case atStart => exact ⟨0, Nat.zero_le _, rfl, Below.refl _ _⟩
  case round =>
    obtain ⟨j, hj, rfl, hb⟩ := hrel
    by_cases hlt : j < n
    · have hp : 0 < ss.length := by have := HN.out; omega
      obtain ⟨b1, o1, e1, a1⟩ := H1.out wr hb.out hp
      obtain ⟨b2, o2, e2, a2⟩ := H2.out wr hb.out hp
      subst e1
      subst e2
      have c1 := a1 j (by have := HN.out; omega)
      have c2 := a2 j (by have := HN.out; omega)
      generalize ss.getD j [] = x at c1 c2
      have HBN := hideN (fun q => (show Below w.heap.size w (wr.drewN q) from hb.out.trans ((below_drewN (Below.refl wr.heap.size wr) q).mono hb.out.size)))
      clear a1 a2 hp
      go_wp2_with fail
      go_quiet (fail)
      go_wp2_with fail
      go_roundw
      case rel => exact ⟨j + 1, by omega, by go_num, HBN.out _⟩
      case measure => simp [intOf]; omega
    · obtain rfl : j = n := by omega
      go_wp2_with fail
      go_ret
      exact ⟨rfl, hb.out⟩

/-- The figures of a number. -/
def digs (k : Nat) : List UInt8 := if h : k = 0 then [] else digs (k / 10) ++ [UInt8.ofNat (48 + k % 10)]
termination_by k
decreasing_by omega

theorem digs_zero : digs 0 = [] := by rw [digs]; rfl
theorem digs_pos (k : Nat) (h : 0 < k) : digs k = digs (k / 10) ++ [UInt8.ofNat (48 + k % 10)] := by rw [digs, dif_neg (by omega)]
theorem digs_length : ∀ k : Nat, (digs k).length ≤ k := by
  intro k
  induction k using Nat.strongRecOn with
  | ind k ih =>
    by_cases h : k = 0
    · subst h; rw [digs_zero]; simp
    · rw [digs_pos k (by omega), List.length_append]
      have := ih (k / 10) (by omega)
      simp
      omega

/-- The text of a mark. -/
def mkT (k : Nat) : Bs := if k = 0 then [109, 48] else 109 :: digs k

set_option maxRecDepth 100000 in
set_option maxHeartbeats 4000000 in
theorem markText_any (k : Nat) (hk : k ≤ 100000000) (w : World) : Calls Try.prog 23 #[.int .i64 (k : Int)] w fun e w' => e = .returned (encStr (mkT k)) ∧ Below w.heap.size w w' := by
  by_cases h0 : k = 0
  · subst h0
    go_enter Try.func23, Try.ntmps23
    go_wp2_with fail
    go_ret
    exact ⟨rfl, Below.refl _ _⟩
  have hle : decide ((k : Int) ≤ 0) = false := by simp; omega
  have HM : Hid (mkT k = 109 :: digs k) := by show _ = _; unfold mkT; rw [if_neg h0]
  have HDL := hideN (digs_length k)
  obtain ⟨M, hM⟩ : ∃ M, mkT k = M := ⟨_, rfl⟩
  obtain ⟨D, hD⟩ : ∃ D, digs k = D := ⟨_, rfl⟩
  rw [hM, hD] at HM
  rw [hD] at HDL
  rw [hM]
  have HD := hideN hD
  clear hM hD
  go_enter Try.func23, Try.ntmps23
  go_wp2_with fail
  go_loopw [0, 3] (fun i o wr => ∃ (q : Nat) (L : Bs), q ≤ k ∧ i = .int .i64 (q : Int) ∧ o = .string ⟨L.toArray⟩ ∧ Hid (D = digs q ++ L) ∧ Hid (Below w.heap.size w wr)) (fun i _ _ => (intOf i).toNat)
  case atStart => exact ⟨k, [], Nat.le_refl _, rfl, rfl, by show _ = _; rw [HD.out]; simp, Below.refl _ _⟩
  case round =>
    obtain ⟨q, L, hq, rfl, rfl, hDL, hb⟩ := hrel
    by_cases hq0 : 0 < q
    · have hll : (digs q ++ L).length ≤ k := by rw [← hDL.out]; exact HDL.out
      rw [List.length_append] at hll
      have hL : L.length ≤ 100000000 := by omega
      have hsz : (1 : Int) + (L.length : Int) ≤ 9223372036854775807 := by omega
      have hcv : (convert 65 9 (.slice (some ⟨wr.heap.size, 0, none⟩) 1 1)).run Try.prog (wr.alloc (.cells #[.int .u8 (48 + (q : Int) % 10)] 5)) = .ok (.string ⟨#[UInt8.ofNat (48 + q % 10)]⟩) (wr.alloc (.cells #[.int .u8 (48 + (q : Int) % 10)] 5)) := by
        have h := run_convert_bytes_arg (P := Try.prog) (wr.alloc (.cells #[.int .u8 (48 + (q : Int) % 10)] 5)) 65 5 Try.underlying65 Try.underlying5 wr.heap.size 0 1 1 [48 + (q : Int) % 10] rfl (fun i hi => by
          obtain rfl : i = 0 := by omega
          simp) 9 Try.underlying9
        rw [h]
        have e : (48 + (q : Int) % 10).toNat = 48 + q % 10 := by omega
        simp [strOfNums, e]
      have HDQ : Hid (D = digs (q / 10) ++ (UInt8.ofNat (48 + q % 10) :: L)) := by
        show _ = _
        rw [hDL.out, digs_pos q hq0, List.append_assoc]
        rfl
      have HBQ := hideN (hb.out.trans ((belOne wr (.cells #[.int .u8 (48 + (q : Int) % 10)] 5)).mono hb.out.size))
      have HEQ : Hid (Value.string (⟨#[48 + UInt8.ofNat (q % 10)]⟩ ++ ⟨L.toArray⟩) = .string ⟨(UInt8.ofNat (48 + q % 10) :: L).toArray⟩) := by
        show _ = _
        congr 1
        apply ByteArray.ext
        simp [ByteArray.data_append]
      clear hll
      go_wp2_with fail
      go_roundw
      case rel => exact ⟨q / 10, UInt8.ofNat (48 + q % 10) :: L, by omega, by go_num, HEQ.out, HDQ, HBQ⟩
      case measure => simp [intOf]; omega
    · obtain rfl : q = 0 := by omega
      have hll : (digs 0 ++ L).length ≤ k := by rw [← hDL.out]; exact HDL.out
      rw [List.length_append] at hll
      have hL : L.length ≤ 100000000 := by omega
      have HLL : Hid (M = 109 :: L) := by show _ = _; rw [HM.out, hDL.out, digs_zero]; rfl
      have HEQ : Hid (Value.string (⟨#[109]⟩ ++ ⟨L.toArray⟩) = encStr (109 :: L)) := by
        show _ = _
        unfold encStr
        congr 1
      clear hll
      go_wp2_with fail
      exact bodyPost_ret (v := .string (⟨#[109]⟩ ++ ⟨L.toArray⟩)) (by simp [results, Try.results23, go_sem]) rfl ⟨by rw [HEQ.out, HLL.out], hb.out⟩

/-- Texts of marks, from a number on. -/
def markSS (k n : Nat) : List Bs := (List.range n).map fun i => mkT (k + i)
theorem markSS_length (k n : Nat) : (markSS k n).length = n := by simp [markSS]
theorem markSS_get (k n i : Nat) (h : i < n) : (markSS k n).getD i [] = mkT (k + i) := by simp [markSS, List.getD, h]

theorem ownt_of_row {w : World} {base g n cap : Nat} {ss : List Bs} {f : Nat → Value} (hb : base ≤ g) (hn : ss.length = n) (hnc : n ≤ cap) (hcm : cap ≤ maxLen) (h : w.rowIs g 9 cap f) (hf : ∀ i, i < n → f i = encStr (ss.getD i [])) : Ownt w base (.slice (some ⟨g, 0, none⟩) n cap) ss := by
  subst hn
  obtain ⟨cur, hh, hsz, hc⟩ := h
  refine ⟨by simp, .inr ⟨g, cap, cur, rfl, hb, hh, hnc, hcm, by rw [hsz, Nat.mul_one], ?_⟩⟩
  rw [Nat.mul_one]
  apply List.ext_getElem?
  intro i
  by_cases hi : i < ss.length
  · rw [List.getElem?_take_of_lt hi, Array.getElem?_toList, hc i (by omega), hf i hi]
    simp [List.getD, hi]
  · rw [List.getElem?_take_eq_none (by omega), List.getElem?_eq_none (by simp; omega)]

set_option maxRecDepth 100000 in
set_option maxHeartbeats 4000000 in
theorem markStringS_own (base n c K : Nat) (ao : Option Addr) (ss : List Bs) (w : World) (hO : Ownt w base (.slice ao n c) ss) (hn : ss.length = n) (h64 : n ≤ 1000) (hK : K ≤ 1000000) :
    Calls Try.prog 11 #[.slice ao n c, .int .i64 (K : Int)] w fun e w' => e = .returned (.int .i64 ((K + n : Nat) : Int)) ∧ Ownt w' base (.slice ao n c) (markSS K n) ∧ Chg (fun k => (Value.slice ao n c).ownBlock = some k) w w' := by
  unfold Ownt at hO
  rw [hn] at hO
  rcases hO.2 with ⟨h0, hz⟩ | ⟨g, cap', cur, hv, hbase, hh, h1, h2, h3, h4⟩
  · injection h0 with e1 e2 e3
    subst e1 e2 e3
    have HN := hideN (show Ownt w base (.slice none 0 0) (markSS K 0) from ownt_nil w base)
    clear hO h64 hn hz
    go_enter Try.func11, Try.ntmps11
    go_wp2
    go_rounds 1
    go_ret
    exact ⟨by simp, HN.out, Chg.refl _ _⟩
  · injection hv with e1 e2 e3
    subst e1 e3
    rw [Nat.mul_one] at h3
    have HMK := hideN (fun q (h : q ≤ 100000000) W => markText_any q h W)
    have HR0 := hideN (show w.rowIs g 9 c (fun i => cur.getD i default) from by
      have h := cur_row (s := 1) (cap := c) (n := 0) (fz := (0, 0)) (d := default) hh (by rw [Nat.mul_one]; exact h3)
      rw [Nat.mul_one] at h; exact h)
    have hgl := (Array.getElem?_eq_some_iff.1 hh).1
    clear hO hn h3 h4 hh
    go_enter Try.func11, Try.ntmps11
    go_wp2_with fail
    go_loopw [1, 5] (fun q i wr => ∃ j : Nat, j ≤ n ∧ i = .int .i64 (j : Int) ∧ q = .int .i64 ((K + j : Nat) : Int) ∧ Hid (∃ f', wr.rowIs g 9 c f' ∧ ∀ i, i < j → f' i = encStr (mkT (K + i))) ∧ Hid (Chg (· = g) w wr)) (fun _ i _ => n - (intOf i).toNat)
    case atStart => exact ⟨0, Nat.zero_le _, rfl, rfl, ⟨_, HR0.out, fun i hi => by omega⟩, Chg.refl _ _⟩
    case round =>
      obtain ⟨j, hj, rfl, rfl, HF, HC⟩ := hrel
      by_cases hlt : j < n
      · have HCL := hideN (HMK.out (K + j) (by omega) wr)
        obtain ⟨M, hM⟩ : ∃ M, mkT (K + j) = M := ⟨_, rfl⟩
        rw [hM] at HCL
        have HMM := hideN hM
        clear hM
        have hjc : j < c := by omega
        have hjn2 : decide ((j : Int) < (n : Int)) = true := by simp; omega
        go_wp2_with fail
        refine HCL.out.mono ?_
        rintro e w2 ⟨rfl, hb2⟩
        obtain ⟨f', hrow, hf⟩ := HF.out
        have hr2 := hrow.of_block (hb2.block _ hrow.lt)
        have d0 := hr2.cell (i := j) hjc
        have d1 := hr2.frozen j
        have HST := hideN (hr2.set j (encStr M))
        have HFF := hideN hf
        have HC2 : Hid (Chg (· = g) w (w2.setCell ⟨g, j, none⟩ (encStr M))) := HC.out.trans ((Chg.of_below hb2).trans (Chg.set _ _ _ _))
        clear hb2 hrow hf hr2
        go_wp2_with fail
        go_roundw
        case rel =>
          refine ⟨j + 1, by omega, by go_num, by go_num, ⟨_, HST.out, fun i hi => ?_⟩, HC2.out⟩
          by_cases e : i = j
          · subst e; simp [HMM.out]
          · show (if i = j then _ else _) = _
            rw [if_neg e]; exact HFF.out i (by omega)
        case measure => simp [intOf]; omega
      · obtain rfl : j = n := by omega
        have HOW : Hid (Ownt wr base (.slice (some ⟨g, 0, none⟩) j c) (markSS K j)) := by
          obtain ⟨f', hrow, hf⟩ := HF.out
          exact ownt_of_row hbase (markSS_length K j) h1 h2 hrow (fun i hi => by rw [markSS_get K j i hi]; exact hf i hi)
        have HC3 : Hid (Chg (fun k => (Value.slice (some ⟨g, 0, none⟩) j c).ownBlock = some k) w wr) := HC.out.mono (fun k e => by subst e; rfl)
        go_wp2_with fail
        go_ret
        exact ⟨rfl, HOW.out, HC3.out⟩

set_option maxRecDepth 100000 in
set_option maxHeartbeats 4000000 in
theorem heldStringS_any (n K : Nat) (v : Value) (w : World) (hT : IsT w v (markSS K n)) (h64 : n ≤ 1000) (hK : K ≤ 1000000) :
    Calls Try.prog 12 #[v, .int .i64 (K : Int)] w fun e w' => e = .returned (.int .i64 ((K + n : Nat) : Int)) ∧ Below w.heap.size w w' := by
  obtain ⟨ao, c, rfl, hT⟩ := hT
  rw [markSS_length]
  have HT := hideN (fun W (hV : Below w.heap.size w W) (hp : 0 < n) => (show ∃ b off, ao = some ⟨b, off, none⟩ ∧ ∀ i, i < n → W.cell? ⟨b, off + i, none⟩ = some (encStr (mkT (K + i))) from by
    obtain ⟨b, off, e, h⟩ := hT (by rw [markSS_length]; exact hp)
    exact ⟨b, off, e, fun i hi => by rw [h.below hV i (by rw [markSS_length]; exact hi), markSS_get K n i hi]⟩))
  have HMK := hideN (fun q (h : q ≤ 100000000) W => markText_any q h W)
  clear hT
  go_enter Try.func12, Try.ntmps12
  go_wp2_with fail
  go_loopw [1, 5] (fun q i wr => ∃ j : Nat, j ≤ n ∧ i = .int .i64 (j : Int) ∧ q = .int .i64 ((K + j : Nat) : Int) ∧ Hid (Below w.heap.size w wr)) (fun _ i _ => n - (intOf i).toNat)
  case atStart => exact ⟨0, Nat.zero_le _, rfl, rfl, Below.refl _ _⟩
  case round =>
    obtain ⟨j, hj, rfl, rfl, HB⟩ := hrel
    by_cases hlt : j < n
    · obtain ⟨b, off, e1, hcs⟩ := HT.out wr HB.out (by omega)
      subst e1
      have c0 := hcs j hlt
      have HBN := hideN (fun q => (show Below w.heap.size w (wr.drewN q) from HB.out.trans ((below_drewN (Below.refl wr.heap.size wr) q).mono HB.out.size)))
      obtain ⟨M, hM⟩ : ∃ M, mkT (K + j) = M := ⟨_, rfl⟩
      have HCL := hideN (fun W => HMK.out (K + j) (by omega) W)
      rw [hM] at HCL c0
      clear hM hcs
      have hjn2 : decide ((j : Int) < (n : Int)) = true := by simp; omega
      have hMM : (M == M) = true := by simp
      go_wp2_with fail
      refine region_U (fin := 6) (S := fun V' => V'.cell? ⟨b, off + j, none⟩ = some (encStr M)) (by kernel_rfl) c0 (fun hHeld => ?_)
      clear hHeld
      refine takeU (i := 0) (v := .slice (some ⟨b, off, none⟩) n c) rfl (by rfl) (by kernel_rfl) (by kernel_rfl) (by kernel_rfl) (by kernel_rfl) (by kernel_rfl) (fun _ _ _ h => h) (Or.inl ⟨by rfl, fun w hS => by have c0 := hS; go_simp⟩) c0 ?_
      simp only [List.getElem_toArray, List.getElem_cons_zero, Act.put, List.setIfInBounds_toArray, List.set_cons_zero, List.set_cons_succ]
      refine takeU (i := 1) (v := .int .i64 (j : Int)) rfl (by rfl) (by kernel_rfl) (by kernel_rfl) (by kernel_rfl) (by kernel_rfl) (by kernel_rfl) (fun _ _ _ h => h) (Or.inl ⟨by rfl, fun w hS => by have c0 := hS; go_simp⟩) c0 ?_
      simp only [List.getElem_toArray, List.getElem_cons_zero, List.getElem_cons_succ, Act.put, List.setIfInBounds_toArray, List.set_cons_zero, List.set_cons_succ]
      refine takeU (i := 2) (v := .pointer (some ⟨b, off + j, none⟩)) rfl (by rfl) (by kernel_rfl) (by kernel_rfl) (by kernel_rfl) (by kernel_rfl) (by kernel_rfl) (fun _ _ _ h => h) (Or.inl ⟨by rfl, fun w hS => by have c0 := hS; go_simp⟩) c0 ?_
      simp only [List.getElem_toArray, List.getElem_cons_zero, List.getElem_cons_succ, Act.put, List.setIfInBounds_toArray, List.set_cons_zero, List.set_cons_succ]
      refine takeU (i := 3) (v := encStr M) rfl (by rfl) (by kernel_rfl) (by kernel_rfl) (reach_one (by kernel_rfl)) (by kernel_rfl) (by kernel_rfl) (fun _ _ _ h => h) (Or.inl ⟨by rfl, fun w hS => by have c0 := hS; go_simp⟩) c0 ?_
      simp only [List.getElem_toArray, List.getElem_cons_zero, List.getElem_cons_succ, Act.put, List.setIfInBounds_toArray, List.set_cons_zero, List.set_cons_succ]
      refine takeU (i := 4) (v := .int .i64 ((K + j : Nat) : Int)) rfl (by rfl) (by kernel_rfl) (by kernel_rfl) (by kernel_rfl) (by kernel_rfl) (by kernel_rfl) (fun _ _ _ h => h) (Or.inl ⟨by rfl, fun w hS => by have c0 := hS; go_simp⟩) c0 ?_
      simp only [List.getElem_toArray, List.getElem_cons_zero, List.getElem_cons_succ, Act.put, List.setIfInBounds_toArray, List.set_cons_zero, List.set_cons_succ]
      refine oneU (i := 5) (by kernel_rfl) rfl (by rfl) ?_
      simp only [List.getElem_toArray, List.getElem_cons_zero, List.getElem_cons_succ]
      go_simp
      refine (HCL.out wr.drew).mono ?_
      rintro e w2 ⟨rfl, hb2⟩
      have HB2 : Hid (Below w.heap.size w w2) := (HBN.out 1).trans (hb2.mono (HBN.out 1).size)
      have c2 : w2.cell? ⟨b, off + j, none⟩ = some (encStr M) := (hb2.cell (cell_lt c0)).trans c0
      refine ⟨c2, ?_⟩
      clear hb2
      refine oneU (i := 6) (by kernel_rfl) rfl (by rfl) ?_
      simp only [List.getElem_toArray, List.getElem_cons_zero, List.getElem_cons_succ]
      go_simp
      refine doneU (by kernel_rfl) ?_ _
      go_wp2_with fail
      go_roundw
      case rel => exact ⟨j + 1, by omega, by go_num, by go_num, HB2⟩
      case measure => simp [intOf]; omega
    · obtain rfl : j = n := by omega
      go_wp2_with fail
      go_ret
      exact ⟨rfl, HB.out⟩

end Go.Proofs.Ythflidipkjpgcaa

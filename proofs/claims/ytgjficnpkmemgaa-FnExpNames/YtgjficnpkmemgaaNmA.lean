/-
  A text put among others: l5Put.
-/
import Derived.Test.YtgjficnpkmemgaaNmS
import Derived.Test.YtgjficnpkmemgaaNmT
import Derived.Deep.CutBlock
import Derived.Sort.Walk0
import Derived.Deep.DeepCutAuto
namespace Go.Proofs.Ytgjficnpkmemgaa
open Go.RowKit Go.Deep Go.Proofs
set_option linter.unusedVariables false

attribute [local go_sem] Oper.semAt_some

theorem ownt_below {B base : Nat} {w0 w w' : World} {v : Value} {vs : List Bs} (hb : Below B w0 w) (ho : Ownt w base v vs) (hB : B ≤ w.heap.size) (hbB : B ≤ base) (hg : w.grownBy w' v.ownBlock) : Below B w0 w' :=
  hb.grown hg hB (fun k e => Nat.le_trans hbB (ho.lt k e).1)

set_option maxRecDepth 100000 in
set_option maxHeartbeats 16000000 in
theorem l5Put_any (b off n cap : Nat) (ss : List Bs) (s : ByteArray) (w : World) (hn : ss.length = n) (hnc : n ≤ cap) (hcm : cap ≤ maxLen) (hA : AtT w b off ss) (h64 : n ≤ 1000) :
    Calls Try.prog 28 #[.slice (some ⟨b, off, none⟩) n cap, .string s] w (PutPost (putN ss s.data.toList) w) := by
  have HA := hideN (fun W (hV : Below w.heap.size w W) => hA.below hV)
  have HN := hideN hn
  obtain ⟨⟨y⟩⟩ := s
  obtain ⟨L, hL⟩ : ∃ L, putN ss y = L := ⟨_, rfl⟩
  have HPN := hideN (putN_at y ss)
  show Calls _ _ _ _ (PutPost (putN ss y) w)
  rw [hL] at HPN ⊢
  clear hA hn hL
  go_enter Try.func28, Try.ntmps28
  go_upto_block 0 with fail
  go_cut [5] (fun i wc => ∃ j : Nat, j ≤ n ∧ i = .int .i64 (j : Int) ∧ Hid (∀ i, i < j → ss.getD i [] < y) ∧ Hid (j < n → ¬ ss.getD j [] < y) ∧ Hid (Below w.heap.size w wc))
  case first =>
    go_wp2_with fail
    go_loopw [5] (fun i wr => ∃ j : Nat, j ≤ n ∧ i = .int .i64 (j : Int) ∧ Hid (∀ i, i < j → ss.getD i [] < y) ∧ Hid (Below w.heap.size w wr)) (fun i _ => n - (intOf i).toNat)
    case atStart => exact ⟨0, Nat.zero_le _, rfl, (fun i hi => by omega), Below.refl _ _⟩
    case round =>
      obtain ⟨j, hj, rfl, hlt, hb⟩ := hrel
      by_cases hjn : j < n
      · have c0 := (HA.out wr hb.out) j (by have := HN.out; omega)
        obtain ⟨x, hx⟩ : ∃ x, ss.getD j [] = x := ⟨_, rfl⟩
        rw [hx] at c0
        have HX := hideN hx
        clear hx
        have hjn2 : decide ((j : Int) < (n : Int)) = true := by simp; omega
        by_cases hxy : x < y
        · have hby : Op.bytesLess x y = true := by rw [bytesLess_eq]; exact decide_eq_true hxy
          have HLT : Hid (∀ i, i < j + 1 → ss.getD i [] < y) := fun i hi => by
            by_cases e : i = j
            · subst e; rw [HX.out]; exact hxy
            · exact hlt.out i (by omega)
          clear hxy
          go_wp2_with fail
          go_roundw
          case rel => exact ⟨j + 1, by omega, by go_num, HLT, hb⟩
          case measure => simp [intOf]; omega
        · have hby : Op.bytesLess x y = false := by rw [bytesLess_eq]; exact decide_eq_false hxy
          have HGE : Hid (j < n → ¬ ss.getD j [] < y) := fun _ => by rw [HX.out]; exact hxy
          clear hxy
          go_wp2_with fail
          go_meet
          case rel => exact ⟨j, hj, rfl, hlt, HGE, hb⟩
      · have hjn2 : decide ((j : Int) < (n : Int)) = false := by simp; omega
        have HGE : Hid (j < n → ¬ ss.getD j [] < y) := fun h => absurd h hjn
        go_wp2_with fail
        go_meet
        case rel => exact ⟨j, hj, rfl, hlt, HGE, hb⟩
  case rest =>
    rename World => wc
    obtain ⟨j, hj, rfl, hlt, hge, hb⟩ := hcut
    have HP := hideN (HPN.out j (by have := HN.out; omega) hlt.out (by rw [HN.out]; exact hge.out))
    clear HPN
    go_upto_region 4 with fail
    go_cut [31] (fun r wd => ∃ q : Bool, r = .bool q ∧ Hid (q = true → L = ss) ∧ Hid (q = false → L = ss.take j ++ ([y] ++ ss.drop j)) ∧ Hid (Below w.heap.size w wd))
    case first =>
      by_cases hjn : j < n
      · have c0 := (HA.out wc hb.out) j (by have := HN.out; omega)
        obtain ⟨x, hx⟩ : ∃ x, ss.getD j [] = x := ⟨_, rfl⟩
        rw [hx] at c0 HP
        have hjn2 : decide ((j : Int) < (n : Int)) = true := by simp; omega
        obtain ⟨q, hq⟩ : ∃ q, (x == y) = q := ⟨_, rfl⟩
        have H1 : Hid (q = true → L = ss) := fun h => by
          have hxy : x = y := by rw [h] at hq; simpa using hq
          rw [HP.out, if_pos ⟨by have := HN.out; omega, hxy⟩]
        have H2 : Hid (q = false → L = ss.take j ++ ([y] ++ ss.drop j)) := fun h => by
          have hxy : x ≠ y := by rw [h] at hq; simpa using hq
          rw [HP.out, if_neg (fun c => hxy c.2)]; rfl
        clear hx
        go_wp2_with fail
        go_meet
        case rel => exact ⟨q, rfl, H1, H2, hb⟩
      · have H2 : Hid (L = ss.take j ++ ([y] ++ ss.drop j)) := by
          show _ = _
          rw [HP.out, if_neg (fun c => hjn (by have := HN.out; omega))]; rfl
        have hjn2 : decide ((j : Int) < (n : Int)) = false := by simp; omega
        go_wp2_with fail
        go_meet
        case rel => exact ⟨false, rfl, (fun h => by cases h), (fun _ => H2.out), hb⟩
    case rest =>
      clear hb
      rename World => wd
      obtain ⟨q, rfl, H1, H2, HB⟩ := hcut
      cases q with
      | true =>
        have HLS : Hid (L = ss) := H1.out rfl
        go_wp2_with fail
        exact bodyPost_ret (v := .slice (some ⟨b, off, none⟩) n cap) (by simp [results, Try.results28, go_sem]) rfl ⟨b, off, n, cap, rfl, by rw [HLS.out]; exact HN.out, hnc, hcm, by rw [HLS.out]; exact HA.out _ HB.out, HB.out⟩
      | false =>
      have HL : Hid (L = ss.take j ++ ([y] ++ ss.drop j)) := H2.out rfl
      clear HP hlt hge H1 H2
      have hjc : j ≤ cap := by omega
      have tt : True := trivial
      obtain ⟨O, hO⟩ : ∃ O, (if cap = j then off else off + j) = O := ⟨_, rfl⟩
      have HDR := hideN (fun W (hV : Below w.heap.size w W) => (show AtT W b O (ss.drop j) from by
        have h := (HA.out W hV).drop j
        rw [← hO]
        split
        · next e =>
          have h0 : ss.drop j = [] := by rw [List.drop_eq_nil_iff]; have := HN.out; omega
          rw [h0]; exact AtT.nil _ _ _
        · exact h))
      have HBD : Hid (Below w.heap.size w wd.drew) := HB.out.drew
      have HLN : Hid ((ss.take j).length = j) := by show _ = _; rw [List.length_take, HN.out]; omega
      have HLD : Hid ((ss.drop j).length = n - j) := by show _ = _; rw [List.length_drop, HN.out]
      go_wp2_with fail
      refine region_U (fin := 12) (S := fun _ => True) (by kernel_rfl) tt (fun hHeld => ?_)
      clear hHeld
      refine takeU (i := 1) (v := .slice (some ⟨b, off, none⟩) n cap) rfl (by rfl) (by kernel_rfl) (by kernel_rfl) (reach_one (by kernel_rfl)) (by kernel_rfl) (by kernel_rfl) (fun _ _ _ h => h) (Or.inl ⟨by rfl, fun w hS => by have tt := hS; go_simp⟩) tt ?_
      simp only [List.getElem_toArray, List.getElem_cons_zero, List.getElem_cons_succ, Act.put, List.setIfInBounds_toArray, List.set_cons_zero, List.set_cons_succ]
      refine takeU (i := 2) (v := .int .i64 (j : Int)) rfl (by rfl) (by kernel_rfl) (by kernel_rfl) (reach_one (by kernel_rfl)) (by kernel_rfl) (by kernel_rfl) (fun _ _ _ h => h) (Or.inl ⟨by rfl, fun w hS => by have tt := hS; go_simp⟩) tt ?_
      simp only [List.getElem_toArray, List.getElem_cons_zero, List.getElem_cons_succ, Act.put, List.setIfInBounds_toArray, List.set_cons_zero, List.set_cons_succ]
      refine takeU (i := 3) (v := .slice (some ⟨b, off, none⟩) j cap) rfl (by rfl) (by kernel_rfl) (by kernel_rfl) (reach_one (by kernel_rfl)) (by kernel_rfl) (by kernel_rfl) (fun _ _ _ h => h) (Or.inl ⟨by rfl, fun w hS => by have tt := hS; go_simp⟩) tt ?_
      simp only [List.getElem_toArray, List.getElem_cons_zero, List.getElem_cons_succ, Act.put, List.setIfInBounds_toArray, List.set_cons_zero, List.set_cons_succ]
      refine takeU (i := 5) (v := .string ⟨⟨y⟩⟩) rfl (by rfl) (by kernel_rfl) (by kernel_rfl) (reach_one (by kernel_rfl)) (by kernel_rfl) (by kernel_rfl) (fun _ _ _ h => h) (Or.inl ⟨by rfl, fun w hS => by have tt := hS; go_simp⟩) tt ?_
      simp only [List.getElem_toArray, List.getElem_cons_zero, List.getElem_cons_succ, Act.put, List.setIfInBounds_toArray, List.set_cons_zero, List.set_cons_succ]
      refine takeU (i := 8) (v := .slice (some ⟨b, off, none⟩) n cap) rfl (by rfl) (by kernel_rfl) (by kernel_rfl) (reach_one (by kernel_rfl)) (by kernel_rfl) (by kernel_rfl) (fun _ _ _ h => h) (Or.inl ⟨by rfl, fun w hS => by have tt := hS; go_simp⟩) tt ?_
      simp only [List.getElem_toArray, List.getElem_cons_zero, List.getElem_cons_succ, Act.put, List.setIfInBounds_toArray, List.set_cons_zero, List.set_cons_succ]
      refine takeU (i := 9) (v := .int .i64 (j : Int)) rfl (by rfl) (by kernel_rfl) (by kernel_rfl) (reach_one (by kernel_rfl)) (by kernel_rfl) (by kernel_rfl) (fun _ _ _ h => h) (Or.inl ⟨by rfl, fun w hS => by have tt := hS; go_simp⟩) tt ?_
      simp only [List.getElem_toArray, List.getElem_cons_zero, List.getElem_cons_succ, Act.put, List.setIfInBounds_toArray, List.set_cons_zero, List.set_cons_succ]
      have hO2 : (if cap = j then some (⟨b, off, none⟩ : Addr) else some ⟨b, off + j, none⟩) = some ⟨b, O, none⟩ := by rw [← hO]; split <;> rfl
      clear hO
      refine takeU (i := 10) (v := .slice (some ⟨b, O, none⟩) (n - j) (cap - j)) rfl (by rfl) (by kernel_rfl) (by kernel_rfl) (reach_one (by kernel_rfl)) (by kernel_rfl) (by kernel_rfl) (fun _ _ _ h => h) (Or.inl ⟨by rfl, fun w hS => by go_simp⟩) tt ?_
      simp only [List.getElem_toArray, List.getElem_cons_zero, List.getElem_cons_succ, Act.put, List.setIfInBounds_toArray, List.set_cons_zero, List.set_cons_succ]
      clear hO2
      obtain ⟨W0, hW0⟩ : ∃ W0, wd.drew = W0 := ⟨_, rfl⟩
      rw [hW0] at HBD
      try rw [hW0]
      clear hW0
      refine twoU (i := 0) (j := 6) (by kernel_rfl) rfl rfl (by rfl) (by rfl) ?_ ?_
      · skip
        simp only [List.getElem_toArray, List.getElem_cons_zero]
        go_simp
        obtain ⟨V1, hV1⟩ : ∃ V, V = World.alloc W0 (.cells #[] 9) := ⟨_, rfl⟩
        have hv1 : Below W0.heap.size W0 V1 := by rw [hV1]; exact belOne _ _
        have HB1 : Hid (Below w.heap.size w V1) := HBD.out.trans (hv1.mono HBD.out.size)
        obtain ⟨G1, hG1⟩ : ∃ G, W0.heap.size = G := ⟨_, rfl⟩
        have HO1 : Hid (Ownt V1 w.heap.size (.slice (some ⟨G1, 0, none⟩) 0 0) []) := by rw [hV1, ← hG1]; exact (ownt_empty W0).base HBD.out.size
        try rw [← hV1]
        try rw [hG1]
        clear hv1 hV1 hG1
        refine twoU (i := 4) (j := 6) (by kernel_rfl) rfl rfl (by rfl) (by rfl) ?_ ?_
        · skip
          simp only [List.getElem_toArray, List.getElem_cons_zero, List.getElem_cons_succ]
          refine oper_appT (.tmp 33) (.tmp 36) rfl w.heap.size (.slice (some ⟨G1, 0, none⟩) 0 0) [] (ss.take j) b off j cap rfl rfl HLN HO1.out (.inl (by simp)) HB1.out.size ((HA.out V1 HB1.out).take j) j (by show _ = _; simp) (by omega) ?_
          intro g2 c2 V2 ho2 hq2 hc2 hgr2 hat2
          simp only [Act.put, List.setIfInBounds_toArray, List.set_cons_zero, List.set_cons_succ]
          refine ⟨fun _ => trivial, ?_⟩
          have HB2 : Hid (Below w.heap.size w V2) := ownt_below HB1.out HO1.out HB1.out.size (Nat.le_refl _) hgr2
          have HO2 := hideN ho2
          clear ho2 hgr2 hat2
          refine oneU (i := 6) (by kernel_rfl) rfl (by rfl) ?_
          simp only [List.getElem_toArray, List.getElem_cons_zero, List.getElem_cons_succ]
          go_simp
          obtain ⟨V3, hV3⟩ : ∃ V, V = World.alloc V2 (.cells #[.string ⟨⟨y⟩⟩] 9) := ⟨_, rfl⟩
          have hv3 : Below V2.heap.size V2 V3 := by rw [hV3]; exact belOne _ _
          have HB3 : Hid (Below w.heap.size w V3) := HB2.out.trans (hv3.mono HB2.out.size)
          obtain ⟨E3, hE3⟩ : ∃ G, V2.heap.size = G := ⟨_, rfl⟩
          have HE3 : Hid (AtT V3 E3 0 [y]) := by rw [hV3, ← hE3]; exact AtT.one (s := ⟨⟨y⟩⟩) (by simp)
          try rw [← hV3]
          try rw [hE3]
          have HO3 : Hid (Ownt V3 w.heap.size (.slice (some ⟨g2, 0, none⟩) j c2) ([] ++ (ss.take j))) := HO2.out.below hv3
          have hEG3 : E3 ≠ g2 := by have h9 := (HO2.out.lt g2 rfl).2; omega
          clear hv3 hV3 hE3
          refine oneU (i := 7) (by kernel_rfl) rfl (by rfl) ?_
          simp only [List.getElem_toArray, List.getElem_cons_zero, List.getElem_cons_succ]
          refine oper_appT (.tmp 37) (.tmp 39) rfl w.heap.size (.slice (some ⟨g2, 0, none⟩) j c2) ([] ++ (ss.take j)) [y] E3 0 1 1 rfl rfl rfl HO3.out (.inl (by simp)) HB3.out.size HE3.out (j + 1) (by show _ = _; rw [List.length_append, HLN.out]; simp) (by omega) ?_
          intro g4 c4 V4 ho4 hq4 hc4 hgr4 hat4
          simp only [Act.put, List.setIfInBounds_toArray, List.set_cons_zero, List.set_cons_succ]
          refine ⟨fun _ => trivial, ?_⟩
          have HB4 : Hid (Below w.heap.size w V4) := ownt_below HB3.out HO3.out HB3.out.size (Nat.le_refl _) hgr4
          have HO4 := hideN ho4
          have HE4 : Hid (AtT V4 E3 0 [y]) := HE3.out.chg (p := fun k => k = g2) ⟨hgr4.os, hgr4.tape, hgr4.output, hgr4.size, fun z hz hp => hgr4.block z hz (fun e => hp (by simpa [Value.ownBlock] using e))⟩ hEG3
          have hEG4 : E3 ≠ g4 := by
            rcases hat4 with e | e
            · simp only [Value.ownBlock, Option.some.injEq] at e; omega
            · have h9 := cell_lt (HE3.out 0 (by simp)); simp at h9; omega
          clear ho4 hgr4 hat4
          refine oneU (i := 11) (by kernel_rfl) rfl (by rfl) ?_
          simp only [List.getElem_toArray, List.getElem_cons_zero, List.getElem_cons_succ]
          refine oper_appT (.tmp 40) (.tmp 43) rfl w.heap.size (.slice (some ⟨g4, 0, none⟩) (j + 1) c4) (([] ++ (ss.take j)) ++ [y]) (ss.drop j) b O (n - j) (cap - j) rfl rfl HLD HO4.out (.inl (by simp)) HB4.out.size (HDR.out V4 HB4.out) (n + 1) (by show _ = _; rw [List.length_append, List.length_append, HLN.out]; simp; omega) (by omega) ?_
          intro g5 c5 V5 ho5 hq5 hc5 hgr5 hat5
          simp only [Act.put, List.setIfInBounds_toArray, List.set_cons_zero, List.set_cons_succ]
          refine ⟨fun _ => trivial, ?_⟩
          have HB5 : Hid (Below w.heap.size w V5) := ownt_below HB4.out HO4.out HB4.out.size (Nat.le_refl _) hgr5
          have HO5 := hideN ho5
          have HE5 : Hid (AtT V5 E3 0 [y]) := HE4.out.chg (p := fun k => k = g4) ⟨hgr5.os, hgr5.tape, hgr5.output, hgr5.size, fun z hz hp => hgr5.block z hz (fun e => hp (by simpa [Value.ownBlock] using e))⟩ hEG4
          have hEG5 : E3 ≠ g5 := by
            rcases hat5 with e | e
            · simp only [Value.ownBlock, Option.some.injEq] at e; omega
            · have h9 := cell_lt (HE4.out 0 (by simp)); simp at h9; omega
          clear ho5 hgr5 hat5
          refine oneU (i := 12) (by kernel_rfl) rfl (by rfl) ?_
          simp only [List.getElem_toArray, List.getElem_cons_zero, List.getElem_cons_succ]
          go_simp
          refine doneU (by kernel_rfl) ?_ _
          go_wp2_with fail
          have HLL : Hid (([] ++ ss.take j ++ [y]) ++ ss.drop j = L) := by show _ = _; rw [HL.out]; simp
          rw [HLL.out] at HO5
          exact bodyPost_ret (v := .slice (some ⟨g5, 0, none⟩) (n + 1) c5) (by simp [results, Try.results28, go_sem]) rfl ⟨g5, 0, n + 1, c5, rfl, by have := HO5.out.1; rw [← HLL.out]; simp [HLN.out, HLD.out]; omega, hq5, hc5, HO5.out.atT, HB5.out⟩
        · skip
          simp only [List.getElem_toArray, List.getElem_cons_zero, List.getElem_cons_succ]
          go_simp
          obtain ⟨V6, hV6⟩ : ∃ V, V = World.alloc V1 (.cells #[.string ⟨⟨y⟩⟩] 9) := ⟨_, rfl⟩
          have hv6 : Below V1.heap.size V1 V6 := by rw [hV6]; exact belOne _ _
          have HB6 : Hid (Below w.heap.size w V6) := HB1.out.trans (hv6.mono HB1.out.size)
          obtain ⟨E6, hE6⟩ : ∃ G, V1.heap.size = G := ⟨_, rfl⟩
          have HE6 : Hid (AtT V6 E6 0 [y]) := by rw [hV6, ← hE6]; exact AtT.one (s := ⟨⟨y⟩⟩) (by simp)
          try rw [← hV6]
          try rw [hE6]
          have HO6 : Hid (Ownt V6 w.heap.size (.slice (some ⟨G1, 0, none⟩) 0 0) []) := HO1.out.below hv6
          have hEG6 : E6 ≠ G1 := by have h9 := (HO1.out.lt G1 rfl).2; omega
          clear hv6 hV6 hE6
          refine oneU (i := 4) (by kernel_rfl) rfl (by rfl) ?_
          simp only [List.getElem_toArray, List.getElem_cons_zero, List.getElem_cons_succ]
          refine oper_appT (.tmp 33) (.tmp 36) rfl w.heap.size (.slice (some ⟨G1, 0, none⟩) 0 0) [] (ss.take j) b off j cap rfl rfl HLN HO6.out (.inl (by simp)) HB6.out.size ((HA.out V6 HB6.out).take j) j (by show _ = _; simp) (by omega) ?_
          intro g7 c7 V7 ho7 hq7 hc7 hgr7 hat7
          simp only [Act.put, List.setIfInBounds_toArray, List.set_cons_zero, List.set_cons_succ]
          refine ⟨fun _ => trivial, ?_⟩
          have HB7 : Hid (Below w.heap.size w V7) := ownt_below HB6.out HO6.out HB6.out.size (Nat.le_refl _) hgr7
          have HO7 := hideN ho7
          have HE7 : Hid (AtT V7 E6 0 [y]) := HE6.out.chg (p := fun k => k = G1) ⟨hgr7.os, hgr7.tape, hgr7.output, hgr7.size, fun z hz hp => hgr7.block z hz (fun e => hp (by simpa [Value.ownBlock] using e))⟩ hEG6
          have hEG7 : E6 ≠ g7 := by
            rcases hat7 with e | e
            · simp only [Value.ownBlock, Option.some.injEq] at e; omega
            · have h9 := cell_lt (HE6.out 0 (by simp)); simp at h9; omega
          clear ho7 hgr7 hat7
          refine oneU (i := 7) (by kernel_rfl) rfl (by rfl) ?_
          simp only [List.getElem_toArray, List.getElem_cons_zero, List.getElem_cons_succ]
          refine oper_appT (.tmp 37) (.tmp 39) rfl w.heap.size (.slice (some ⟨g7, 0, none⟩) j c7) ([] ++ (ss.take j)) [y] E6 0 1 1 rfl rfl rfl HO7.out (.inl (by simp)) HB7.out.size HE7.out (j + 1) (by show _ = _; rw [List.length_append, HLN.out]; simp) (by omega) ?_
          intro g8 c8 V8 ho8 hq8 hc8 hgr8 hat8
          simp only [Act.put, List.setIfInBounds_toArray, List.set_cons_zero, List.set_cons_succ]
          refine ⟨fun _ => trivial, ?_⟩
          have HB8 : Hid (Below w.heap.size w V8) := ownt_below HB7.out HO7.out HB7.out.size (Nat.le_refl _) hgr8
          have HO8 := hideN ho8
          have HE8 : Hid (AtT V8 E6 0 [y]) := HE7.out.chg (p := fun k => k = g7) ⟨hgr8.os, hgr8.tape, hgr8.output, hgr8.size, fun z hz hp => hgr8.block z hz (fun e => hp (by simpa [Value.ownBlock] using e))⟩ hEG7
          have hEG8 : E6 ≠ g8 := by
            rcases hat8 with e | e
            · simp only [Value.ownBlock, Option.some.injEq] at e; omega
            · have h9 := cell_lt (HE7.out 0 (by simp)); simp at h9; omega
          clear ho8 hgr8 hat8
          refine oneU (i := 11) (by kernel_rfl) rfl (by rfl) ?_
          simp only [List.getElem_toArray, List.getElem_cons_zero, List.getElem_cons_succ]
          refine oper_appT (.tmp 40) (.tmp 43) rfl w.heap.size (.slice (some ⟨g8, 0, none⟩) (j + 1) c8) (([] ++ (ss.take j)) ++ [y]) (ss.drop j) b O (n - j) (cap - j) rfl rfl HLD HO8.out (.inl (by simp)) HB8.out.size (HDR.out V8 HB8.out) (n + 1) (by show _ = _; rw [List.length_append, List.length_append, HLN.out]; simp; omega) (by omega) ?_
          intro g9 c9 V9 ho9 hq9 hc9 hgr9 hat9
          simp only [Act.put, List.setIfInBounds_toArray, List.set_cons_zero, List.set_cons_succ]
          refine ⟨fun _ => trivial, ?_⟩
          have HB9 : Hid (Below w.heap.size w V9) := ownt_below HB8.out HO8.out HB8.out.size (Nat.le_refl _) hgr9
          have HO9 := hideN ho9
          have HE9 : Hid (AtT V9 E6 0 [y]) := HE8.out.chg (p := fun k => k = g8) ⟨hgr9.os, hgr9.tape, hgr9.output, hgr9.size, fun z hz hp => hgr9.block z hz (fun e => hp (by simpa [Value.ownBlock] using e))⟩ hEG8
          have hEG9 : E6 ≠ g9 := by
            rcases hat9 with e | e
            · simp only [Value.ownBlock, Option.some.injEq] at e; omega
            · have h9 := cell_lt (HE8.out 0 (by simp)); simp at h9; omega
          clear ho9 hgr9 hat9
          refine oneU (i := 12) (by kernel_rfl) rfl (by rfl) ?_
          simp only [List.getElem_toArray, List.getElem_cons_zero, List.getElem_cons_succ]
          go_simp
          refine doneU (by kernel_rfl) ?_ _
          go_wp2_with fail
          have HLL : Hid (([] ++ ss.take j ++ [y]) ++ ss.drop j = L) := by show _ = _; rw [HL.out]; simp
          rw [HLL.out] at HO9
          exact bodyPost_ret (v := .slice (some ⟨g9, 0, none⟩) (n + 1) c9) (by simp [results, Try.results28, go_sem]) rfl ⟨g9, 0, n + 1, c9, rfl, by have := HO9.out.1; rw [← HLL.out]; simp [HLN.out, HLD.out]; omega, hq9, hc9, HO9.out.atT, HB9.out⟩
      · skip
        simp only [List.getElem_toArray, List.getElem_cons_zero, List.getElem_cons_succ]
        go_simp
        obtain ⟨V10, hV10⟩ : ∃ V, V = World.alloc W0 (.cells #[.string ⟨⟨y⟩⟩] 9) := ⟨_, rfl⟩
        have hv10 : Below W0.heap.size W0 V10 := by rw [hV10]; exact belOne _ _
        have HB10 : Hid (Below w.heap.size w V10) := HBD.out.trans (hv10.mono HBD.out.size)
        obtain ⟨E10, hE10⟩ : ∃ G, W0.heap.size = G := ⟨_, rfl⟩
        have HE10 : Hid (AtT V10 E10 0 [y]) := by rw [hV10, ← hE10]; exact AtT.one (s := ⟨⟨y⟩⟩) (by simp)
        try rw [← hV10]
        try rw [hE10]
        clear hv10 hV10 hE10
        refine oneU (i := 0) (by kernel_rfl) rfl (by rfl) ?_
        simp only [List.getElem_toArray, List.getElem_cons_zero]
        go_simp
        obtain ⟨V11, hV11⟩ : ∃ V, V = World.alloc V10 (.cells #[] 9) := ⟨_, rfl⟩
        have hv11 : Below V10.heap.size V10 V11 := by rw [hV11]; exact belOne _ _
        have HB11 : Hid (Below w.heap.size w V11) := HB10.out.trans (hv11.mono HB10.out.size)
        obtain ⟨G11, hG11⟩ : ∃ G, V10.heap.size = G := ⟨_, rfl⟩
        have HO11 : Hid (Ownt V11 w.heap.size (.slice (some ⟨G11, 0, none⟩) 0 0) []) := by rw [hV11, ← hG11]; exact (ownt_empty V10).base HB10.out.size
        try rw [← hV11]
        try rw [hG11]
        have HE11 : Hid (AtT V11 E10 0 [y]) := HE10.out.below hv11
        have hEG11 : E10 ≠ G11 := by have h9 := cell_lt (HE10.out 0 (by simp)); simp at h9; omega
        clear hv11 hV11 hG11
        refine oneU (i := 4) (by kernel_rfl) rfl (by rfl) ?_
        simp only [List.getElem_toArray, List.getElem_cons_zero, List.getElem_cons_succ]
        refine oper_appT (.tmp 33) (.tmp 36) rfl w.heap.size (.slice (some ⟨G11, 0, none⟩) 0 0) [] (ss.take j) b off j cap rfl rfl HLN HO11.out (.inl (by simp)) HB11.out.size ((HA.out V11 HB11.out).take j) j (by show _ = _; simp) (by omega) ?_
        intro g12 c12 V12 ho12 hq12 hc12 hgr12 hat12
        simp only [Act.put, List.setIfInBounds_toArray, List.set_cons_zero, List.set_cons_succ]
        refine ⟨fun _ => trivial, ?_⟩
        have HB12 : Hid (Below w.heap.size w V12) := ownt_below HB11.out HO11.out HB11.out.size (Nat.le_refl _) hgr12
        have HO12 := hideN ho12
        have HE12 : Hid (AtT V12 E10 0 [y]) := HE11.out.chg (p := fun k => k = G11) ⟨hgr12.os, hgr12.tape, hgr12.output, hgr12.size, fun z hz hp => hgr12.block z hz (fun e => hp (by simpa [Value.ownBlock] using e))⟩ hEG11
        have hEG12 : E10 ≠ g12 := by
          rcases hat12 with e | e
          · simp only [Value.ownBlock, Option.some.injEq] at e; omega
          · have h9 := cell_lt (HE11.out 0 (by simp)); simp at h9; omega
        clear ho12 hgr12 hat12
        refine oneU (i := 7) (by kernel_rfl) rfl (by rfl) ?_
        simp only [List.getElem_toArray, List.getElem_cons_zero, List.getElem_cons_succ]
        refine oper_appT (.tmp 37) (.tmp 39) rfl w.heap.size (.slice (some ⟨g12, 0, none⟩) j c12) ([] ++ (ss.take j)) [y] E10 0 1 1 rfl rfl rfl HO12.out (.inl (by simp)) HB12.out.size HE12.out (j + 1) (by show _ = _; rw [List.length_append, HLN.out]; simp) (by omega) ?_
        intro g13 c13 V13 ho13 hq13 hc13 hgr13 hat13
        simp only [Act.put, List.setIfInBounds_toArray, List.set_cons_zero, List.set_cons_succ]
        refine ⟨fun _ => trivial, ?_⟩
        have HB13 : Hid (Below w.heap.size w V13) := ownt_below HB12.out HO12.out HB12.out.size (Nat.le_refl _) hgr13
        have HO13 := hideN ho13
        have HE13 : Hid (AtT V13 E10 0 [y]) := HE12.out.chg (p := fun k => k = g12) ⟨hgr13.os, hgr13.tape, hgr13.output, hgr13.size, fun z hz hp => hgr13.block z hz (fun e => hp (by simpa [Value.ownBlock] using e))⟩ hEG12
        have hEG13 : E10 ≠ g13 := by
          rcases hat13 with e | e
          · simp only [Value.ownBlock, Option.some.injEq] at e; omega
          · have h9 := cell_lt (HE12.out 0 (by simp)); simp at h9; omega
        clear ho13 hgr13 hat13
        refine oneU (i := 11) (by kernel_rfl) rfl (by rfl) ?_
        simp only [List.getElem_toArray, List.getElem_cons_zero, List.getElem_cons_succ]
        refine oper_appT (.tmp 40) (.tmp 43) rfl w.heap.size (.slice (some ⟨g13, 0, none⟩) (j + 1) c13) (([] ++ (ss.take j)) ++ [y]) (ss.drop j) b O (n - j) (cap - j) rfl rfl HLD HO13.out (.inl (by simp)) HB13.out.size (HDR.out V13 HB13.out) (n + 1) (by show _ = _; rw [List.length_append, List.length_append, HLN.out]; simp; omega) (by omega) ?_
        intro g14 c14 V14 ho14 hq14 hc14 hgr14 hat14
        simp only [Act.put, List.setIfInBounds_toArray, List.set_cons_zero, List.set_cons_succ]
        refine ⟨fun _ => trivial, ?_⟩
        have HB14 : Hid (Below w.heap.size w V14) := ownt_below HB13.out HO13.out HB13.out.size (Nat.le_refl _) hgr14
        have HO14 := hideN ho14
        have HE14 : Hid (AtT V14 E10 0 [y]) := HE13.out.chg (p := fun k => k = g13) ⟨hgr14.os, hgr14.tape, hgr14.output, hgr14.size, fun z hz hp => hgr14.block z hz (fun e => hp (by simpa [Value.ownBlock] using e))⟩ hEG13
        have hEG14 : E10 ≠ g14 := by
          rcases hat14 with e | e
          · simp only [Value.ownBlock, Option.some.injEq] at e; omega
          · have h9 := cell_lt (HE13.out 0 (by simp)); simp at h9; omega
        clear ho14 hgr14 hat14
        refine oneU (i := 12) (by kernel_rfl) rfl (by rfl) ?_
        simp only [List.getElem_toArray, List.getElem_cons_zero, List.getElem_cons_succ]
        go_simp
        refine doneU (by kernel_rfl) ?_ _
        go_wp2_with fail
        have HLL : Hid (([] ++ ss.take j ++ [y]) ++ ss.drop j = L) := by show _ = _; rw [HL.out]; simp
        rw [HLL.out] at HO14
        exact bodyPost_ret (v := .slice (some ⟨g14, 0, none⟩) (n + 1) c14) (by simp [results, Try.results28, go_sem]) rfl ⟨g14, 0, n + 1, c14, rfl, by have := HO14.out.1; rw [← HLL.out]; simp [HLN.out, HLD.out]; omega, hq14, hc14, HO14.out.atT, HB14.out⟩

end Go.Proofs.Ytgjficnpkmemgaa

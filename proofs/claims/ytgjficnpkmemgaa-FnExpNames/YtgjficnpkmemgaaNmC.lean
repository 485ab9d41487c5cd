/-
  Names of a term: the parts of each, putNames.
-/
import Derived.Test.YtgjficnpkmemgaaShelfT
import Derived.Test.YtgjficnpkmemgaaExpG
import Derived.Test.YtgjficnpkmemgaaNmT
namespace Go.Proofs.Ytgjficnpkmemgaa
open Go.RowKit Go.Deep Go.Proofs
set_option linter.unusedVariables false

attribute [local go_sem] Oper.semAt_some

/-- The parts of a term, in a row that is new. -/
def PartsPost (vs : List Value) (w : World) (e : Ending) (w' : World) : Prop := ∃ pa n, e = .returned (.slice pa n n) ∧ vs.length = n ∧ (0 < n → ∃ b, pa = some ⟨b, 0, none⟩ ∧ w.heap.size ≤ b ∧ ∀ i, i < n → w'.cell? ⟨b, i, none⟩ = vs[i]?) ∧ Below w.heap.size w w'

set_option maxRecDepth 100000 in
theorem parts1_any (n : Int) (w : World) : Calls Try.prog 86 #[.int .i64 n] w (PartsPost [] w) := by
  go_enter Try.func86, Try.ntmps86
  go_wp2_with fail
  go_ret
  exact ⟨none, 0, rfl, rfl, (fun h => by omega), Below.refl _ _⟩
set_option maxRecDepth 100000 in
theorem parts2_any (x : Bool) (w : World) : Calls Try.prog 89 #[.bool x] w (PartsPost [] w) := by
  go_enter Try.func89, Try.ntmps89
  go_wp2_with fail
  go_ret
  exact ⟨none, 0, rfl, rfl, (fun h => by omega), Below.refl _ _⟩
set_option maxRecDepth 100000 in
theorem parts5_any (t0 : TypeId) (x0 : Value) (w : World) : Calls Try.prog 92 #[.agg #[.iface t0 x0]] w (PartsPost [.iface t0 x0] w) := by
  have HB := hideN (belNext (belOne w (.cells #[.iface t0 x0] 89)) (belOne _ (.cells #[.iface t0 x0] 36)))
  go_enter Try.func92, Try.ntmps92
  go_wp2_with fail
  go_ret
  exact ⟨_, 1, rfl, rfl, (fun _ => ⟨_, rfl, by simp, fun i hi => by obtain rfl : i = 0 := by omega
                                                                    simp⟩), HB.out⟩
set_option maxRecDepth 100000 in
theorem parts6_any (s : ByteArray) (t0 t1 : TypeId) (x0 x1 : Value) (w : World) : Calls Try.prog 95 #[.agg #[.string s, .iface t0 x0, .iface t1 x1]] w (PartsPost [.iface t0 x0, .iface t1 x1] w) := by
  have HB := hideN (belNext (belOne w (.cells #[.string s, .iface t0 x0, .iface t1 x1] 91)) (belOne _ (.cells #[.iface t0 x0, .iface t1 x1] 36)))
  go_enter Try.func95, Try.ntmps95
  go_wp2_with fail
  go_ret
  exact ⟨_, 2, rfl, rfl, (fun _ => ⟨_, rfl, by simp, fun i hi => by
    rcases (by omega : i = 0 ∨ i = 1) with rfl | rfl <;> simp⟩), HB.out⟩
set_option maxRecDepth 100000 in
theorem parts7_any (t0 t1 t2 : TypeId) (x0 x1 x2 : Value) (w : World) : Calls Try.prog 98 #[.agg #[.iface t0 x0, .iface t1 x1, .iface t2 x2]] w (PartsPost [.iface t0 x0, .iface t1 x1, .iface t2 x2] w) := by
  have HB := hideN (belNext (belOne w (.cells #[.iface t0 x0, .iface t1 x1, .iface t2 x2] 95)) (belOne _ (.cells #[.iface t0 x0, .iface t1 x1, .iface t2 x2] 36)))
  go_enter Try.func98, Try.ntmps98
  go_wp2_with fail
  go_ret
  exact ⟨_, 3, rfl, rfl, (fun _ => ⟨_, rfl, by simp, fun i hi => by
    rcases (by omega : i = 0 ∨ i = 1 ∨ i = 2) with rfl | rfl | rfl <;> simp⟩), HB.out⟩

theorem name_yes (s : ByteArray) (W : World) : (Instr.typeAssert (.iface 55 (.string s)) 36 55 true).run Try.prog W = .ok (.tuple #[.string s, .bool true]) W := by kernel_rfl
theorem name_no1 (x : Value) (W : World) : (Instr.typeAssert (.iface 86 x) 36 55 true).run Try.prog W = .ok (.tuple #[.string ⟨#[]⟩, .bool false]) W := by kernel_rfl
theorem name_no2 (x : Value) (W : World) : (Instr.typeAssert (.iface 87 x) 36 55 true).run Try.prog W = .ok (.tuple #[.string ⟨#[]⟩, .bool false]) W := by kernel_rfl
theorem name_no5 (x : Value) (W : World) : (Instr.typeAssert (.iface 89 x) 36 55 true).run Try.prog W = .ok (.tuple #[.string ⟨#[]⟩, .bool false]) W := by kernel_rfl
theorem name_no6 (x : Value) (W : World) : (Instr.typeAssert (.iface 91 x) 36 55 true).run Try.prog W = .ok (.tuple #[.string ⟨#[]⟩, .bool false]) W := by kernel_rfl
theorem name_no7 (x : Value) (W : World) : (Instr.typeAssert (.iface 95 x) 36 55 true).run Try.prog W = .ok (.tuple #[.string ⟨#[]⟩, .bool false]) W := by kernel_rfl
/-- A method's name, out of the program's own table: of an interface type, and which. -/
def nameIn (P : Program) (t : TypeId) (k : Nat) : String := match P.underlying t with | some (.interface want) => (want.getD k ("", 0)).1 | _ => ""

theorem upon_inv {P : Program} {F : Nat} {T : TypeId} {x : Value} {nm : String} {W : World} {r : FuncId × Value} {o : Oper} {a : Act} {K : Act → World → Prop} {Q : Exit → Act → World → Prop} {g : FuncId × Value → World → Result Next} (e : nm = (nameIn Try.prog 36 1)) (hI : (method F T x (nameIn Try.prog 36 1)).run P W = .ok r W)
    (k : Oper.upon P o a K Q ((Result.ok r W).andThen g)) : Oper.upon P o a K Q (((method F T x nm).run P W).andThen g) := by rw [e, hI]; exact k

theorem inv_parts1 (x : Value) (W : World) : (method 228 86 x (nameIn Try.prog 36 1)).run Try.prog W = .ok (86, x) W := by kernel_rfl
theorem ent_parts1 (args : Array Value) (W : World) : (callFunc 86 args).run Try.prog W = .ok (.enter 86 args) W := by kernel_rfl
theorem inv_parts2 (x : Value) (W : World) : (method 228 87 x (nameIn Try.prog 36 1)).run Try.prog W = .ok (89, x) W := by kernel_rfl
theorem ent_parts2 (args : Array Value) (W : World) : (callFunc 89 args).run Try.prog W = .ok (.enter 89 args) W := by kernel_rfl
theorem inv_parts5 (x : Value) (W : World) : (method 228 89 x (nameIn Try.prog 36 1)).run Try.prog W = .ok (92, x) W := by kernel_rfl
theorem ent_parts5 (args : Array Value) (W : World) : (callFunc 92 args).run Try.prog W = .ok (.enter 92 args) W := by kernel_rfl
theorem inv_parts6 (x : Value) (W : World) : (method 228 91 x (nameIn Try.prog 36 1)).run Try.prog W = .ok (95, x) W := by kernel_rfl
theorem ent_parts6 (args : Array Value) (W : World) : (callFunc 95 args).run Try.prog W = .ok (.enter 95 args) W := by kernel_rfl
theorem inv_parts7 (x : Value) (W : World) : (method 228 95 x (nameIn Try.prog 36 1)).run Try.prog W = .ok (98, x) W := by kernel_rfl
theorem ent_parts7 (args : Array Value) (W : World) : (callFunc 98 args).run Try.prog W = .ok (.enter 98 args) W := by kernel_rfl

/-- Of what there was, just the one row may have turned; the other lies there too, or in new memory. -/
def RowTo (w : World) (v : Value) (w' : World) (v' : Value) : Prop := w.grownBy w' v.ownBlock ∧ (v'.ownBlock = v.ownBlock ∨ ∀ k, v'.ownBlock = some k → w.heap.size ≤ k)
theorem RowTo.refl (w : World) (v : Value) : RowTo w v w v := ⟨below_grown (Below.refl _ _), .inl rfl⟩
theorem RowTo.trans {w1 w2 w3 : World} {v1 v2 v3 : Value} (h : RowTo w1 v1 w2 v2) (k : RowTo w2 v2 w3 v3) : RowTo w1 v1 w3 v3 := by
  obtain ⟨g, r⟩ := h
  obtain ⟨g2, r2⟩ := k
  refine ⟨⟨g2.os.trans g.os, g2.tape.trans g.tape, g2.output.trans g.output, Nat.le_trans g.size g2.size, fun q hq hne => ?_⟩, ?_⟩
  · refine (g2.block q (Nat.lt_of_lt_of_le hq g.size) (fun e => ?_)).trans (g.block q hq hne)
    rcases r with r | r
    · exact hne (by rw [← r]; exact e)
    · have := r q e.symm; omega
  · rcases r2 with r2 | r2
    · rw [r2]; exact r
    · exact .inr fun k e => Nat.le_trans g.size (r2 k e)
theorem RowTo.ahead {w w1 w2 : World} {v v2 : Value} (hb : Below w.heap.size w w1) (h : RowTo w1 v w2 v2) : RowTo w v w2 v2 := by
  obtain ⟨g, r⟩ := h
  refine ⟨grown_trans (below_grown hb) g, ?_⟩
  rcases r with r | r
  · exact .inl r
  · exact .inr fun k e => Nat.le_trans hb.size (r k e)

theorem namesL_take_le : ∀ (ks : List ExpT) (j : Nat), (namesL (ks.take j)).length ≤ (namesL ks).length := by
  intro ks
  induction ks with
  | nil => intro j; simp
  | cons t r ih =>
    intro j
    cases j with
    | zero => simp [namesL]
    | succ j => rw [List.take_succ_cons, namesL, namesL, List.length_append, List.length_append]; have := ih j; omega

/-- What putting names behind others leaves. -/
def AppPost (base : Nat) (L : List Bs) (v : Value) (w : World) (e : Ending) (w' : World) : Prop := ∃ ao n c, e = .returned (.slice ao n c) ∧ L.length = n ∧ Ownt w' base (.slice ao n c) L ∧ RowTo w v w' (.slice ao n c)

set_option maxRecDepth 100000 in
set_option maxHeartbeats 4000000 in
theorem putNames_name (base : Nat) (s : ByteArray) (hs : s.size ≤ 1048576) (ao : Option Addr) (n c : Nat) (ss : List Bs) (w : World) (hO : Ownt w base (.slice ao n c) ss) (hn : ss.length = n) (hb : base ≤ w.heap.size) (h64 : n ≤ 1000) :
    Calls Try.prog 12 #[.slice ao n c, .iface 55 (.string s)] w (AppPost base (ss ++ [s.data.toList]) (.slice ao n c) w) := by
  have HCL := hideN (cloneT_any s w hs)
  have HTA := name_yes s
  have HO := hideN hO
  have HN := hideN hn
  clear hO hn
  go_enter Try.func12, Try.ntmps12
  go_wp2_with fail
  refine HCL.out.mono ?_
  rintro e w1 ⟨rfl, hb1⟩
  obtain ⟨W2, hW2⟩ : ∃ W2, W2 = w1.alloc (.cells #[.string s] 9) := ⟨_, rfl⟩
  have HB2 : Hid (Below w.heap.size w W2) := by rw [hW2]; exact belNext hb1 (belOne _ _)
  obtain ⟨E, hE⟩ : ∃ E, w1.heap.size = E := ⟨_, rfl⟩
  have HE : Hid (AtT W2 E 0 [s.data.toList]) := by rw [hW2, ← hE]; exact AtT.one (by simp)
  have HO2 := hideN (HO.out.below HB2.out)
  have HW2 := hideN hW2
  have HEE := hideN hE
  have hb2 : base ≤ W2.heap.size := Nat.le_trans hb HB2.out.size
  clear hW2 hE hb1 HTA
  go_wp2_with (at_builtin; (try rw [← HW2.out]); (try rw [HEE.out]); refine wpList_appT rfl _ _ rfl base (.slice ao n c) ss [s.data.toList] E 0 1 1 rfl rfl rfl HO2.out (.inr (by decide)) hb2 HE.out (n + 1) (by show _ = _; rw [HN.out]) (by omega) ?_; intro g cap w3 ho3 hq3 hc3 hgr3 hat3)
  have HO3 := hideN ho3
  have HR : Hid (RowTo w (.slice ao n c) w3 (.slice (some ⟨g, 0, none⟩) (n + 1) cap)) := RowTo.ahead HB2.out ⟨hgr3, by
    rcases hat3 with h | h
    · exact .inl (by rw [h]; rfl)
    · exact .inr fun k e => by
        have : g = k := by simpa [Value.ownBlock] using e
        omega⟩
  clear ho3 hgr3 hat3
  go_wp2_with fail
  exact bodyPost_ret (v := .slice (some ⟨g, 0, none⟩) (n + 1) cap) (by simp [results, Try.results12, go_sem]) rfl ⟨_, n + 1, cap, rfl, by rw [List.length_append, HN.out]; rfl, HO3.out, HR.out⟩

set_option maxRecDepth 100000 in
set_option maxHeartbeats 4000000 in
theorem putNames_kids (base : Nat) (T : TypeId) (x : Value) (f : Nat) (vs : List Value)
    (hA : ∀ W : World, (Instr.typeAssert (.iface T x) 36 55 true).run Try.prog W = .ok (.tuple #[.string ⟨#[]⟩, .bool false]) W)
    (hI : ∀ W : World, (method 228 T x (nameIn Try.prog 36 1)).run Try.prog W = .ok (f, x) W) (hE : ∀ (args : Array Value) (W : World), (callFunc f args).run Try.prog W = .ok (.enter f args) W)
    (hP : ∀ W : World, Calls Try.prog f #[x] W (PartsPost vs W)) (ks : List ExpT) (hvs : vs = termVs ks) (hif : ∀ v ∈ vs, ∃ t x, v = .iface t x)
    (ih : ∀ j, j < ks.length → ∀ (ao : Option Addr) (n c : Nat) (ss : List Bs) (w : World), Ownt w base (.slice ao n c) ss → ss.length = n → base ≤ w.heap.size → n + (namesT (ks.getD j e0)).length ≤ 1000 → Calls Try.prog 12 #[.slice ao n c, termV (ks.getD j e0)] w (AppPost base (ss ++ namesT (ks.getD j e0)) (.slice ao n c) w))
    (ao : Option Addr) (n c : Nat) (ss : List Bs) (w : World) (hO : Ownt w base (.slice ao n c) ss) (hn : ss.length = n) (hb : base ≤ w.heap.size) (h64 : n + (namesL ks).length ≤ 1000) (hkb : ks.length ≤ 1000) :
    Calls Try.prog 12 #[.slice ao n c, .iface T x] w (AppPost base (ss ++ namesL ks) (.slice ao n c) w) := by
  have HP := hideN (hP w)
  have HIF := hideN hif
  have HIH := hideN ih
  have HN := hideN hn
  have HVG := hideN (fun j (hj : j < ks.length) => (show vs[j]? = some (termV (ks.getD j e0)) from by rw [hvs]; exact termVs_get ks j hj))
  have HKL : Hid (vs.length = ks.length) := by show _ = _; rw [hvs]; exact termVs_length ks
  have HTS := hideN (fun j (hj : j < ks.length) => namesL_take_succ ks j hj)
  have HTF : Hid (namesL (ks.take ks.length) = namesL ks) := by show _ = _; rw [List.take_length]
  have HTN := hideN (fun j (hj : j < ks.length) => (show n + (namesL (ks.take j)).length + (namesT (ks.getD j e0)).length ≤ 1000 from by
    have h1 := namesL_take_succ ks j hj
    have h2 : (namesL (ks.take (j + 1))).length ≤ (namesL ks).length := namesL_take_le ks (j + 1)
    rw [h1, List.length_append] at h2
    omega))
  have HO0 := hideN hO
  clear hP hif ih hn hvs hO
  go_enter Try.func12, Try.ntmps12
  go_wp2_with fail
  refine upon_inv (by kernel_rfl) (hI w) ?_
  go_wp2_with fail
  refine HP.out.mono ?_
  rintro e w1 ⟨pa, m, rfl, hm, hcs, hb1⟩
  have hmk : m = ks.length := by rw [← hm]; exact HKL.out
  have HCS := hideN hcs
  have HB1 := hideN hb1
  have HMK := hideN hmk
  have HVL := hideN hm
  have hbs1 : base ≤ w1.heap.size := Nat.le_trans hb hb1.size
  have HO1 := hideN (HO0.out.below hb1)
  have HLT : Hid (∀ k, (Value.slice ao n c).ownBlock = some k → k < w.heap.size) := fun k e => (HO0.out.lt k e).2
  have hml : m ≤ 1000 := by omega
  clear hcs hb1 hmk hm hI hE
  go_wp2_with fail
  go_loopw [0, 8, 23] (fun v _ i wr => ∃ (j n' c' : Nat) (ao' : Option Addr) (L : List Bs), j ≤ m ∧ i = .int .i64 (j : Int) ∧ v = .slice ao' n' c' ∧ Hid (L = ss ++ namesL (ks.take j)) ∧ Hid (L.length = n') ∧ Hid (Ownt wr base (.slice ao' n' c') L) ∧ Hid (RowTo w1 (.slice ao n c) wr (.slice ao' n' c'))) (fun _ _ i _ => m - (intOf i).toNat)
  case atStart => exact ⟨0, n, c, ao, ss, Nat.zero_le _, rfl, rfl, by show _ = _; rw [List.take_zero, namesL, List.append_nil], HN.out, HO1.out, RowTo.refl _ _⟩
  case round =>
    obtain ⟨j, n', c', ao', L, hj, rfl, rfl, HL, HLN, HOR, HRT⟩ := hrel
    by_cases hlt : j < m
    · obtain ⟨pb, hpa, hpb, hcells⟩ := HCS.out (by omega)
      subst hpa
      have hjk : j < ks.length := by have := HMK.out; omega
      have hc0 := hcells j hlt
      rw [HVG.out j hjk] at hc0
      have hpl := cell_lt hc0
      have hcr : wr.cell? ⟨pb, j, none⟩ = some (termV (ks.getD j e0)) := by
        rw [← hc0]
        exact cellOfBlock (HRT.out.1.block pb hpl (fun e => by
          have h1 := HLT.out pb e.symm
          omega))
      obtain ⟨tt, tx, htt⟩ := HIF.out (termV (ks.getD j e0)) (List.mem_of_getElem? (HVG.out j hjk))
      have hbr : base ≤ wr.heap.size := Nat.le_trans hbs1 HRT.out.1.size
      have htn := HTN.out j hjk
      have hn' : n' = n + (namesL (ks.take j)).length := by rw [← HLN.out, HL.out, List.length_append, HN.out]
      have HCL := hideN (HIH.out j hjk ao' n' c' L wr HOR.out HLN.out hbr (by omega))
      have HQ : Hid (L ++ namesT (ks.getD j e0) = ss ++ namesL (ks.take (j + 1))) := by show _ = _; rw [HTS.out j hjk, HL.out, List.append_assoc]
      obtain ⟨M, hM⟩ : ∃ M, L ++ namesT (ks.getD j e0) = M := ⟨_, rfl⟩
      rw [hM, htt] at HCL
      rw [hM] at HQ
      rw [htt] at hcr
      clear hcells hc0 htt hM htn hn'
      go_wp2_with fail
      refine HCL.out.mono ?_
      rintro e w2 ⟨ao2, n2, c2, rfl, hl2, ho2, hr2⟩
      have HRT2 := hideN (HRT.out.trans hr2)
      have HO2 := hideN ho2
      have HL2 := hideN hl2
      clear ho2 hr2 hl2 hcr
      go_wp2_with fail
      go_roundw
      case rel => exact ⟨j + 1, n2, c2, ao2, M, by omega, by go_num, rfl, HQ, HL2, HO2, HRT2⟩
      case measure => simp [intOf]; omega
    · obtain rfl : j = m := by omega
      have HF : Hid (L = ss ++ namesL ks) := by show _ = _; rw [HL.out, HMK.out, HTF.out]
      have HRF := hideN (RowTo.ahead HB1.out HRT.out)
      go_wp2_with fail
      exact bodyPost_ret (v := .slice ao' n' c') (by simp [results, Try.results12, go_sem]) rfl (by rw [← HF.out]; exact ⟨ao', n', c', rfl, HLN.out, HOR.out, HRF.out⟩)

theorem putNames_any (base : Nat) : ∀ (t : ExpT), totE t ≤ 1048576 → ∀ (room deep r : Nat), growT t room deep = some r → ∀ (ao : Option Addr) (n c : Nat) (ss : List Bs) (w : World), Ownt w base (.slice ao n c) ss → ss.length = n → base ≤ w.heap.size → n + (namesT t).length ≤ 1000 →
    Calls Try.prog 12 #[.slice ao n c, termV t] w (AppPost base (ss ++ namesT t) (.slice ao n c) w) := by
  refine ExpT.ind (fun k n0 s ks ih ht room deep r hgr ao n c ss w hO hn hb h64 => ?_)
  have hA := ((growT_iff _ room deep r).1 hgr).1
  rw [allT, oneB_split] at hA
  simp only [Bool.and_eq_true, decide_eq_true_eq] at hA
  obtain ⟨⟨_, hkn, hj⟩, hall⟩ := hA
  rw [totE] at ht
  -- each part is well formed
  have hsome : ∃ r2, growL ks (room - 1) (deep + 1) = some r2 := by
    rw [growT] at hgr
    split at hgr
    · cases hgr
    · cases hg : growL ks (room - 1) (deep + 1) with
      | none => rw [hg] at hgr; cases hgr
      | some r2 => exact ⟨r2, rfl⟩
  obtain ⟨r2, hg2⟩ := hsome
  have hkid : ∀ j, j < ks.length → ∃ a b d, growT (ks.getD j e0) a b = some d := by
    intro j hj
    have h1 := growL_take_succ ks j (room - 1) (deep + 1) hj
    cases h2 : growL (ks.take j) (room - 1) (deep + 1) with
    | none => have := growL_none ks j (room - 1) (deep + 1) h2; rw [hg2] at this; cases this
    | some a =>
      rw [h2] at h1
      cases h3 : growT (ks.getD j e0) a (deep + 1) with
      | none =>
        have h4 : growL (ks.take (j + 1)) (room - 1) (deep + 1) = none := by rw [h1]; exact h3
        have := growL_none ks (j + 1) (room - 1) (deep + 1) h4; rw [hg2] at this; cases this
      | some d => exact ⟨a, deep + 1, d, h3⟩
  have hIH : ∀ j, j < ks.length → ∀ (ao : Option Addr) (n c : Nat) (ss : List Bs) (w : World), Ownt w base (.slice ao n c) ss → ss.length = n → base ≤ w.heap.size → n + (namesT (ks.getD j e0)).length ≤ 1000 → Calls Try.prog 12 #[.slice ao n c, termV (ks.getD j e0)] w (AppPost base (ss ++ namesT (ks.getD j e0)) (.slice ao n c) w) := by
    intro j hj ao n c ss w h1 h2 h3 h4
    have hm : ks.getD j e0 ∈ ks := by rw [List.getD, List.getElem?_eq_getElem hj]; simp
    have := totL_mem hm
    obtain ⟨a, b, d, hg⟩ := hkid j hj
    exact ih (ks.getD j e0) hm (by omega) a b d hg ao n c ss w h1 h2 h3 h4
  have hif : ∀ v ∈ termVs ks, ∃ t x, v = .iface t x := by
    intro v hv
    obtain ⟨j, hj, e⟩ := List.getElem_of_mem hv
    have hj' : j < ks.length := by rw [← termVs_length]; exact hj
    have h1 := termVs_get ks j hj'
    rw [List.getElem?_eq_getElem hj, e] at h1
    obtain ⟨a, b, d, hg⟩ := hkid j hj'
    obtain ⟨t, x, e2⟩ := termV_iface hg
    exact ⟨t, x, by rw [Option.some.inj h1, e2]⟩
  have hkb : ks.length ≤ 1000 := by rw [hkn]; unfold kidsN; (repeat' split) <;> omega
  rw [termV]
  by_cases h4 : k = 4
  · subst h4
    have hT : termOne 4 n0 s (termVs ks) = .iface 55 (.string s) := by unfold termOne; simp
    rw [hT]
    have e : namesT (.node 4 n0 s ks) = [s.data.toList] := by rw [namesT, if_pos rfl]
    rw [e] at h64 ⊢
    exact putNames_name base s (by omega) ao n c ss w hO hn hb (by simp at h64; omega)
  have e : namesT (.node k n0 s ks) = namesL ks := by rw [namesT, if_neg h4]
  rw [e] at h64 ⊢
  have hl := termVs_length ks
  rw [hkn] at hl
  by_cases h1 : k = 1
  · subst h1
    have hT : termOne 1 n0 s (termVs ks) = .iface 86 (.int .i64 n0) := by unfold termOne; simp
    rw [hT]
    have h0 : termVs ks = [] := List.length_eq_zero_iff.1 hl
    exact putNames_kids base _ _ _ (termVs ks) (name_no1 _) (inv_parts1 _) ent_parts1 (by rw [h0]; exact parts1_any _) ks rfl hif hIH ao n c ss w hO hn hb h64 hkb
  by_cases h2 : k = 2
  · subst h2
    have hT : termOne 2 n0 s (termVs ks) = .iface 87 (.bool true) := by unfold termOne; simp
    rw [hT]
    have h0 : termVs ks = [] := List.length_eq_zero_iff.1 hl
    exact putNames_kids base _ _ _ (termVs ks) (name_no2 _) (inv_parts2 _) ent_parts2 (by rw [h0]; exact parts2_any _) ks rfl hif hIH ao n c ss w hO hn hb h64 hkb
  by_cases h3 : k = 3
  · subst h3
    have hT : termOne 3 n0 s (termVs ks) = .iface 87 (.bool false) := by unfold termOne; simp
    rw [hT]
    have h0 : termVs ks = [] := List.length_eq_zero_iff.1 hl
    exact putNames_kids base _ _ _ (termVs ks) (name_no2 _) (inv_parts2 _) ent_parts2 (by rw [h0]; exact parts2_any _) ks rfl hif hIH ao n c ss w hO hn hb h64 hkb
  by_cases h5 : k = 5
  · subst h5
    have hl1 : (termVs ks).length = 1 := hl
    match hv : termVs ks, hl1 with
    | [v0], _ =>
      obtain ⟨t0, x0, rfl⟩ := hif v0 (by rw [hv]; simp)
      have hT : termOne 5 n0 s [.iface t0 x0] = .iface 89 (.agg #[.iface t0 x0]) := by unfold termOne; simp
      rw [hT]
      exact putNames_kids base _ _ _ (termVs ks) (name_no5 _) (inv_parts5 _) ent_parts5 (by rw [hv]; exact parts5_any _ _) ks rfl hif hIH ao n c ss w hO hn hb h64 hkb
  by_cases h6 : k = 6
  · subst h6
    have hl1 : (termVs ks).length = 2 := hl
    match hv : termVs ks, hl1 with
    | [v0, v1], _ =>
      obtain ⟨t0, x0, rfl⟩ := hif v0 (by rw [hv]; simp)
      obtain ⟨t1, x1, rfl⟩ := hif v1 (by rw [hv]; simp)
      have hT : termOne 6 n0 s [.iface t0 x0, .iface t1 x1] = .iface 91 (.agg #[.string s, .iface t0 x0, .iface t1 x1]) := by unfold termOne; simp
      rw [hT]
      exact putNames_kids base _ _ _ (termVs ks) (name_no6 _) (inv_parts6 _) ent_parts6 (by rw [hv]; exact parts6_any _ _ _ _ _) ks rfl hif hIH ao n c ss w hO hn hb h64 hkb
  by_cases h7 : k = 7
  · subst h7
    have hl1 : (termVs ks).length = 3 := hl
    match hv : termVs ks, hl1 with
    | [v0, v1, v2], _ =>
      obtain ⟨t0, x0, rfl⟩ := hif v0 (by rw [hv]; simp)
      obtain ⟨t1, x1, rfl⟩ := hif v1 (by rw [hv]; simp)
      obtain ⟨t2, x2, rfl⟩ := hif v2 (by rw [hv]; simp)
      have hT : termOne 7 n0 s [.iface t0 x0, .iface t1 x1, .iface t2 x2] = .iface 95 (.agg #[.iface t0 x0, .iface t1 x1, .iface t2 x2]) := by unfold termOne; simp
      rw [hT]
      exact putNames_kids base _ _ _ (termVs ks) (name_no7 _) (inv_parts7 _) ent_parts7 (by rw [hv]; exact parts7_any _ _ _ _ _ _) ks rfl hif hIH ao n c ss w hO hn hb h64 hkb
  exfalso
  unfold joinB at hj
  simp [h1, h2, h3, h4, h5, h6, h7] at hj

end Go.Proofs.Ytgjficnpkmemgaa

/-
  Rows of texts in memory, and in a block of the call's own; append of texts.
-/
import Derived.Test.YtgjficnpkmemgaaNmP
import Derived.Test.YtgjficnpkmemgaaRowN
import Derived.Sort.EncStr
import Derived.Maps.AppendAt
namespace Go.Proofs.Ytgjficnpkmemgaa
open Go.RowKit Go.Deep Go.Proofs
set_option linter.unusedVariables false

/-- These texts lie there. -/
def AtT (w : World) (b off : Nat) (ss : List Bs) : Prop := ∀ i, i < ss.length → w.cell? ⟨b, off + i, none⟩ = some (encStr (ss.getD i []))

/-- The value is a slice of these texts. -/
def IsT (w : World) (v : Value) (ss : List Bs) : Prop := ∃ ao cap, v = .slice ao ss.length cap ∧ (0 < ss.length → ∃ b off, ao = some ⟨b, off, none⟩ ∧ AtT w b off ss)

theorem AtT.below {w w' : World} {b off : Nat} {ss : List Bs} (h : AtT w b off ss) (hb : Below w.heap.size w w') : AtT w' b off ss := fun i hi => by
  have h1 := h i hi
  rw [hb.cell (cell_lt h1)]; exact h1
theorem AtT.chg {p : Nat → Prop} {w w' : World} {b off : Nat} {ss : List Bs} (h : AtT w b off ss) (hc : Chg p w w') (hp : ¬ p b) : AtT w' b off ss := fun i hi => by
  have h1 := h i hi
  rw [cellOfBlock (hc.block b (cell_lt h1) hp)]; exact h1
theorem IsT.below {w w' : World} {v : Value} {ss : List Bs} (h : IsT w v ss) (hb : Below w.heap.size w w') : IsT w' v ss := by
  obtain ⟨ao, cap, rfl, h⟩ := h
  refine ⟨ao, cap, rfl, fun hp => ?_⟩
  obtain ⟨b, off, rfl, hc⟩ := h hp
  exact ⟨b, off, rfl, hc.below hb⟩
theorem AtT.isT {w : World} {b off : Nat} {ss : List Bs} (h : AtT w b off ss) (n cap : Nat) (hn : ss.length = n) : IsT w (.slice (some ⟨b, off, none⟩) n cap) ss := by subst hn; exact ⟨_, _, rfl, fun _ => ⟨b, off, rfl, h⟩⟩
theorem AtT.nil (w : World) (b off : Nat) : AtT w b off [] := fun i hi => by simp at hi
theorem AtT.take {w : World} {b off : Nat} {ss : List Bs} (h : AtT w b off ss) (k : Nat) : AtT w b off (ss.take k) := fun i hi => by
  rw [List.length_take] at hi
  rw [h i (by omega)]
  simp [List.getD, show i < k by omega]
theorem AtT.drop {w : World} {b off : Nat} {ss : List Bs} (h : AtT w b off ss) (k : Nat) : AtT w b (off + k) (ss.drop k) := fun i hi => by
  rw [List.length_drop] at hi
  rw [show off + k + i = off + (k + i) by omega, h (k + i) (by omega)]
  simp [List.getD, List.getElem?_drop]
theorem AtT.one {w : World} {b off : Nat} {s : ByteArray} (h : w.cell? ⟨b, off, none⟩ = some (.string s)) : AtT w b off [s.data.toList] := fun i hi => by
  obtain rfl : i = 0 := by simpa using hi
  rw [Nat.add_zero, h]
  rfl

/-- The value is a slice of these texts in a block of the call's own. -/
def Ownt (w : World) (base : Nat) (v : Value) (ss : List Bs) : Prop := w.ownsRow base 9 1 v ss.length (ss.map encStr)

theorem ownt_of_block {w w' : World} {base : Nat} {v : Value} {ss : List Bs} (h : Ownt w base v ss) (hk : ∀ k, v.ownBlock = some k → w'.heap[k]? = w.heap[k]?) : Ownt w' base v ss := row_of_block h hk
theorem Ownt.below {w w' : World} {base : Nat} {v : Value} {ss : List Bs} (h : Ownt w base v ss) (hb : Below w.heap.size w w') : Ownt w' base v ss := row_below h hb
theorem Ownt.base {w : World} {a b : Nat} {v : Value} {ss : List Bs} (h : Ownt w a v ss) (hb : b ≤ a) : Ownt w b v ss := row_base h hb
theorem ownt_nil (w : World) (base : Nat) : Ownt w base (.slice none 0 0) [] := ⟨by simp, .inl ⟨rfl, rfl⟩⟩
theorem ownt_empty (w : World) : Ownt (w.alloc (.cells #[] 9)) w.heap.size (.slice (some ⟨w.heap.size, 0, none⟩) 0 0) [] := ⟨by simp, .inr ⟨w.heap.size, 0, #[], rfl, Nat.le_refl _, World.alloc_heap_new _ _, Nat.le_refl _, by simp, by simp, by simp⟩⟩
theorem Ownt.lt {w : World} {base : Nat} {v : Value} {ss : List Bs} (h : Ownt w base v ss) : ∀ k, v.ownBlock = some k → base ≤ k ∧ k < w.heap.size := World.ownsRow.lt h
theorem Ownt.atT {w : World} {base g n cap : Nat} {ss : List Bs} (h : Ownt w base (.slice (some ⟨g, 0, none⟩) n cap) ss) : AtT w g 0 ss := fun i hi => by
  rcases h.2 with ⟨h0, _⟩ | ⟨g', cap', cur, hv, _⟩
  · cases h0
  · injection hv with e1 e2 e3
    subst e2
    have := World.ownsRow.cellAt h i (by omega)
    rw [Nat.zero_add, this]
    simp [List.getD, hi]
theorem Ownt.isT {w : World} {base : Nat} {v : Value} {ss : List Bs} (h : Ownt w base v ss) : IsT w v ss := by
  rcases h.2 with ⟨rfl, h0⟩ | ⟨g, cap, cur, rfl, _⟩
  · have : ss = [] := List.length_eq_zero_iff.1 h0
    subst this
    exact ⟨none, 0, rfl, fun h => absurd h (by simp)⟩
  · exact ⟨_, cap, rfl, fun _ => ⟨g, 0, rfl, Ownt.atT h⟩⟩

theorem info_str : (Try.prog.info? 9).map (fun i => (i.zero, i.size, i.bytes)) = some (some (.string ⟨#[]⟩), 1, 16) := by kernel_rfl

theorem texts_one (ss : List Bs) : ∀ u ∈ ss.map encStr, u.oneCell' = true := by
  intro u hu
  obtain ⟨s, _, rfl⟩ := List.mem_map.1 hu
  rfl

/-- append of some texts, or of none, onto a row of the call's own. -/
theorem run_appT (w : World) (base : Nat) (ty : TypeId) (v : Value) (vs ns : List Bs) (b off c : Nat) (hv : Ownt w base v vs) (hnn : v ≠ .slice none 0 0 ∨ 0 < ns.length) (hbase : base ≤ w.heap.size) (hx : AtT w b off ns) (hlen : vs.length + ns.length ≤ 1048576) :
    ∃ g cap w', (Builtin.append_ #[27, 27] ty #[v, .slice (some ⟨b, off, none⟩) ns.length c]).run Try.prog w = .ok (.slice (some ⟨g, 0, none⟩) (vs.length + ns.length) cap) w' ∧ Ownt w' base (.slice (some ⟨g, 0, none⟩) (vs.length + ns.length) cap) (vs ++ ns) ∧ vs.length + ns.length ≤ cap ∧ cap ≤ maxLen ∧ w.grownBy w' v.ownBlock ∧ (v.ownBlock = some g ∨ g = w.heap.size) := by
  obtain ⟨i0, hi, hz0, hz1, hz2⟩ := info_parts info_str
  obtain ⟨v', w', hr, h2, h3, h4, h5⟩ := run_append_own_at (P := Try.prog) w base 27 ty 9 i0 (.string ⟨#[]⟩) 1 16 Try.underlying27 hi hz0 hz1 hz2 rfl (by decide) v vs.length _ hv ⟨b, off, none⟩ ns.length c (ns.map encStr) (by simp)
      (fun j u hj => by
        rw [List.getElem?_map] at hj
        obtain ⟨z, hz, rfl⟩ := Option.map_eq_some_iff.1 hj
        have hjl : j < ns.length := (List.getElem?_eq_some_iff.1 hz).1
        have := hx j hjl
        rw [Addr.add_lit, this]
        simp [List.getD, hz])
      (texts_one ns) (by unfold maxLen; omega) (by omega) hbase
  have hown : Ownt w' base v' (vs ++ ns) := by unfold Ownt; rw [List.map_append, List.length_append]; exact h2
  rcases h2.2 with ⟨rfl, h0⟩ | ⟨g, cap, cur, rfl, _, hh, hc1, hc2, _⟩
  · exfalso
    have := h4.1 rfl
    rcases hnn with h | h
    · exact h this.1
    · omega
  · refine ⟨g, cap, w', hr, hown, hc1, hc2, h3, ?_⟩
    rcases h5 with h5 | h5
    · exact .inl (by rw [← h5]; rfl)
    · right
      have : g = w.heap.size := by simpa [Value.ownBlock] using h5
      exact this

theorem oper_appT {w : World} {o : Oper} {a : Act} {K : Act → World → Prop} {Q : Exit → Act → World → Prop} (s x : Operand)
    (ho : o.op = .call { callee := .builtin .append, args := #[s, x], argTypes := #[27, 27] })
    (base : Nat) (v : Value) (vs ns : List Bs) (b off m c : Nat) (hs : a.eval s = v) (hxv : a.eval x = .slice (some ⟨b, off, none⟩) m c) (hm : Hid (ns.length = m)) (hv : Ownt w base v vs) (hnn : v ≠ .slice none 0 0 ∨ 0 < m) (hbase : base ≤ w.heap.size) (hx : AtT w b off ns) (q : Nat) (hq : Hid (vs.length + m = q)) (hlen : q ≤ 1048576)
    (h : ∀ g cap w', Ownt w' base (.slice (some ⟨g, 0, none⟩) q cap) (vs ++ ns) → q ≤ cap → cap ≤ maxLen → w.grownBy w' v.ownBlock → (v.ownBlock = some g ∨ g = w.heap.size) → K (a.put o.dst (.slice (some ⟨g, 0, none⟩) q cap)) w') :
    o.wp Try.prog a w K Q := by
  have hm' := hm.out
  have hq' := hq.out
  subst hm'
  subst hq'
  obtain ⟨g, cap, w', hr, h2, h3, h4, h5, h6⟩ := run_appT w base o.type v vs ns b off c hv hnn hbase hx hlen
  unfold Oper.wp execOp
  simp only [ho, resolve, invoke, builtin, Sem.run_bind, Sem.run_pure, Result.andThen_ok, List.map_toArray, List.map_cons, List.map_nil, hs, hxv, hr]
  exact h g cap w' h2 h3 h4 h5 h6

theorem wpList_appT {w : World} {ops : Array Oper} {rest : List Oper} {o : Oper} {a : Act} {Q : Exit → Act → World → Prop} (hgd : o.guard = none) (s x : Operand)
    (ho : o.op = .call { callee := .builtin .append, args := #[s, x], argTypes := #[27, 27] })
    (base : Nat) (v : Value) (vs ns : List Bs) (b off m c : Nat) (hs : a.eval s = v) (hxv : a.eval x = .slice (some ⟨b, off, none⟩) m c) (hm : Hid (ns.length = m)) (hv : Ownt w base v vs) (hnn : v ≠ .slice none 0 0 ∨ 0 < m) (hbase : base ≤ w.heap.size) (hx : AtT w b off ns) (q : Nat) (hq : Hid (vs.length + m = q)) (hlen : q ≤ 1048576)
    (h : ∀ g cap w', Ownt w' base (.slice (some ⟨g, 0, none⟩) q cap) (vs ++ ns) → q ≤ cap → cap ≤ maxLen → w.grownBy w' v.ownBlock → (v.ownBlock = some g ∨ g = w.heap.size) → wpList Try.prog ops Q rest (a.put o.dst (.slice (some ⟨g, 0, none⟩) q cap)) w') :
    wpList Try.prog ops Q (o :: rest) a w :=
  wpList_plain hgd fun K hK => oper_appT s x ho base v vs ns b off m c hs hxv hm hv hnn hbase hx q hq hlen fun g cap w' h2 h3 h4 h5 h6 => hK _ _ (h g cap w' h2 h3 h4 h5 h6)

/-- What putting texts among others leaves: a slice of them. -/
def PutPost (L : List Bs) (w : World) (e : Ending) (w' : World) : Prop := ∃ b off n cap, e = .returned (.slice (some ⟨b, off, none⟩) n cap) ∧ L.length = n ∧ n ≤ cap ∧ cap ≤ maxLen ∧ AtT w' b off L ∧ Below w.heap.size w w'

end Go.Proofs.Ytgjficnpkmemgaa

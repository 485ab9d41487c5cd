/-
  An expression as a text (plain facts), and what the program's terms say: which kind a term is, how much it binds.
-/
import Derived.Test.YthbjihamhfahcaaDoorExpH
import Derived.Lib.ItoaNum
namespace Go.Proofs.YthbjihamhfahcaaDoor
open Go.RowKit Go.Deep
set_option linter.unusedVariables false

attribute [local go_sem] Oper.semAt_some

/-- How much an expression binds, as the program has it. -/
def bindT : ExpT → Int
  | .node k n s ks => if k = 7 then 0 else if k = 6 then signL s.toList + 1 else 5
/-- In brackets, if it binds less than it must. -/
def inP (least : Int) (p : Int × ByteArray) : ByteArray := if p.1 < least then ⟨#[40]⟩ ++ p.2 ++ ⟨#[41]⟩ else p.2
def noP : Int × ByteArray := (5, ⟨#[]⟩)
def showOne (k n : Int) (s : ByteArray) (ps : List (Int × ByteArray)) : ByteArray :=
  if k = 1 then ⟨(Lib.itoa n).toArray⟩ else if k = 2 then ⟨#[116, 114, 117, 101]⟩ else if k = 3 then ⟨#[102, 97, 108, 115, 101]⟩
  else if k = 5 then ⟨#[33]⟩ ++ inP 5 (ps.getD 0 noP)
  else if k = 6 then inP (signL s.toList + 1) (ps.getD 0 noP) ++ ⟨#[32]⟩ ++ s ++ ⟨#[32]⟩ ++ inP (signL s.toList + 1 + 1) (ps.getD 1 noP)
  else if k = 7 then ⟨#[105, 102, 32]⟩ ++ (ps.getD 0 noP).2 ++ ⟨#[32, 116, 104, 101, 110, 32]⟩ ++ (ps.getD 1 noP).2 ++ ⟨#[32, 101, 108, 115, 101, 32]⟩ ++ (ps.getD 2 noP).2
  else s
mutual
/-- An expression as a text. -/
def showT : ExpT → ByteArray
  | .node k n s ks => showOne k n s (showL ks)
def showL : List ExpT → List (Int × ByteArray)
  | [] => []
  | t :: r => (bindT t, showT t) :: showL r
end
theorem showL_get : ∀ (ks : List ExpT) (j : Nat), j < ks.length → (showL ks).getD j noP = (bindT (ks.getD j e0), showT (ks.getD j e0))
  | [], j, h => by simp at h
  | t :: r, 0, _ => by rw [showL]; rfl
  | t :: r, j + 1, h => by rw [showL]; exact showL_get r j (by simpa using h)

theorem inP_size (l : Int) (p : Int × ByteArray) : (inP l p).size ≤ p.2.size + 2 := by
  unfold inP
  split
  · rw [ByteArray.size_append, ByteArray.size_append]; show 1 + p.2.size + 1 ≤ _; omega
  · omega

theorem digits_small (n : Nat) (h : n ≤ 999) : (Lib.decDigits n).length ≤ 3 := by
  rw [Lib.decDigits]
  split
  · simp
  · rw [List.length_append, Lib.decDigits]
    split
    · simp
    · rw [List.length_append, Lib.decDigits, dif_pos (by omega)]; simp
theorem itoa_small (n : Int) (h0 : 0 ≤ n) (h1 : n ≤ 999) : (Lib.itoa n).length ≤ 3 := by
  unfold Lib.itoa
  rw [if_neg (by omega)]
  exact digits_small _ (by omega)

def sumP (ps : List (Int × ByteArray)) : Nat := (ps.map fun p => p.2.size).sum
theorem get_le_sum : ∀ (ps : List (Int × ByteArray)), (ps.getD 0 noP).2.size + (ps.getD 1 noP).2.size + (ps.getD 2 noP).2.size ≤ sumP ps
  | [] => Nat.le_refl 0
  | [a] => by show a.2.size + 0 + 0 ≤ a.2.size + 0; omega
  | [a, b] => by show a.2.size + b.2.size + 0 ≤ a.2.size + (b.2.size + 0); omega
  | a :: b :: c :: r => by simp [sumP, List.getD]; omega

theorem show_size : ∀ t : ExpT, allT t = true → (showT t).size ≤ 20 * sizeT t + totE t := by
  refine ExpT.ind (fun k n s ks ih ha => ?_)
  rw [allT, oneB_split] at ha
  simp only [Bool.and_eq_true, decide_eq_true_eq] at ha
  obtain ⟨⟨_, hkn, hj⟩, hall⟩ := ha
  have hsum : ∀ l : List ExpT, (∀ t ∈ l, t ∈ ks) → allL l = true → sumP (showL l) ≤ 20 * sizeL l + totL l := by
    intro l
    induction l with
    | nil => intro _ _; simp [showL, sumP]
    | cons a r ih2 =>
      intro hm hl
      rw [allL, Bool.and_eq_true] at hl
      have h1 := ih a (hm a (by simp)) hl.1
      have h2 := ih2 (fun t ht => hm t (by simp [ht])) hl.2
      rw [showL, sizeL, totL]
      unfold sumP at *
      simp only [List.map_cons, List.sum_cons]
      omega
  have hs := hsum ks (fun t ht => ht) hall
  have hg := get_le_sum (showL ks)
  have i0 := fun l => inP_size l ((showL ks).getD 0 noP)
  have i1 := fun l => inP_size l ((showL ks).getD 1 noP)
  rw [showT, sizeT, totE]
  generalize showL ks = ps at *
  unfold showOne
  split
  · next h1 =>
    subst h1
    have hn : 0 ≤ n ∧ n ≤ 999 := by unfold joinB at hj; simpa using hj
    have := itoa_small n hn.1 hn.2
    show (Lib.itoa n).toArray.size ≤ _
    rw [List.size_toArray]
    omega
  split
  · show 4 ≤ _; omega
  split
  · show 5 ≤ _; omega
  split
  · rw [ByteArray.size_append]
    have := i0 5
    show 1 + _ ≤ _
    omega
  split
  · rw [ByteArray.size_append, ByteArray.size_append, ByteArray.size_append, ByteArray.size_append]
    have h1 := i0 (signL s.toList + 1)
    have h2 := i1 (signL s.toList + 1 + 1)
    have e : (⟨#[32]⟩ : ByteArray).size = 1 := rfl
    rw [e]
    omega
  split
  · rw [ByteArray.size_append, ByteArray.size_append, ByteArray.size_append, ByteArray.size_append, ByteArray.size_append]
    have e1 : (⟨#[105, 102, 32]⟩ : ByteArray).size = 3 := rfl
    have e2 : (⟨#[32, 116, 104, 101, 110, 32]⟩ : ByteArray).size = 6 := rfl
    have e3 : (⟨#[32, 101, 108, 115, 101, 32]⟩ : ByteArray).size = 6 := rfl
    rw [e1, e2, e3]
    omega
  · omega

/-- A method's name, out of the program's own table: of an interface type, and which. -/
def nameIn (P : Program) (t : TypeId) (k : Nat) : String := match P.underlying t with | some (.interface want) => (want.getD k ("", 0)).1 | _ => ""
theorem upon_inv2 {P : Program} {F : Nat} {T : TypeId} {x : Value} {nm nm0 : String} {W : World} {r : FuncId × Value} {o : Oper} {a : Act} {K : Act → World → Prop} {Q : Exit → Act → World → Prop} {g : FuncId × Value → World → Result Next} (e : nm = nm0) (hI : (method F T x nm0).run P W = .ok r W)
    (k : Oper.upon P o a K Q ((Result.ok r W).andThen g)) : Oper.upon P o a K Q (((method F T x nm).run P W).andThen g) := by rw [e, hI]; exact k

theorem is_num (x : Value) (W : World) : (Instr.typeAssert (.iface 50 x) 37 50 true).run Tryd.prog W = .ok (.tuple #[x, .bool true]) W := by kernel_rfl
theorem bm_num (x : Value) (W : World) : (method 212 50 x (nameIn Tryd.prog 37 0)).run Tryd.prog W = .ok (71, x) W := by kernel_rfl
theorem be_num (args : Array Value) (W : World) : (callFunc 71 args).run Tryd.prog W = .ok (.enter 71 args) W := by kernel_rfl
theorem is_truth (x : Value) (W : World) : (Instr.typeAssert (.iface 51 x) 37 51 true).run Tryd.prog W = .ok (.tuple #[x, .bool true]) W := by kernel_rfl
theorem no_truth_num (x : Value) (W : World) : (Instr.typeAssert (.iface 51 x) 37 50 true).run Tryd.prog W = .ok (.tuple #[.int .i64 0, .bool false]) W := by kernel_rfl
theorem bm_truth (x : Value) (W : World) : (method 212 51 x (nameIn Tryd.prog 37 0)).run Tryd.prog W = .ok (74, x) W := by kernel_rfl
theorem be_truth (args : Array Value) (W : World) : (callFunc 74 args).run Tryd.prog W = .ok (.enter 74 args) W := by kernel_rfl
theorem is_name (x : Value) (W : World) : (Instr.typeAssert (.iface 53 x) 37 53 true).run Tryd.prog W = .ok (.tuple #[x, .bool true]) W := by kernel_rfl
theorem no_name_num (x : Value) (W : World) : (Instr.typeAssert (.iface 53 x) 37 50 true).run Tryd.prog W = .ok (.tuple #[.int .i64 0, .bool false]) W := by kernel_rfl
theorem no_name_truth (x : Value) (W : World) : (Instr.typeAssert (.iface 53 x) 37 51 true).run Tryd.prog W = .ok (.tuple #[.bool false, .bool false]) W := by kernel_rfl
theorem bm_name (x : Value) (W : World) : (method 212 53 x (nameIn Tryd.prog 37 0)).run Tryd.prog W = .ok (77, x) W := by kernel_rfl
theorem be_name (args : Array Value) (W : World) : (callFunc 77 args).run Tryd.prog W = .ok (.enter 77 args) W := by kernel_rfl
theorem is_not (x : Value) (W : World) : (Instr.typeAssert (.iface 55 x) 37 55 true).run Tryd.prog W = .ok (.tuple #[x, .bool true]) W := by kernel_rfl
theorem no_not_num (x : Value) (W : World) : (Instr.typeAssert (.iface 55 x) 37 50 true).run Tryd.prog W = .ok (.tuple #[.int .i64 0, .bool false]) W := by kernel_rfl
theorem no_not_truth (x : Value) (W : World) : (Instr.typeAssert (.iface 55 x) 37 51 true).run Tryd.prog W = .ok (.tuple #[.bool false, .bool false]) W := by kernel_rfl
theorem no_not_name (x : Value) (W : World) : (Instr.typeAssert (.iface 55 x) 37 53 true).run Tryd.prog W = .ok (.tuple #[.string ⟨#[]⟩, .bool false]) W := by kernel_rfl
theorem bm_not (x : Value) (W : World) : (method 212 55 x (nameIn Tryd.prog 37 0)).run Tryd.prog W = .ok (80, x) W := by kernel_rfl
theorem be_not (args : Array Value) (W : World) : (callFunc 80 args).run Tryd.prog W = .ok (.enter 80 args) W := by kernel_rfl
theorem is_two (x : Value) (W : World) : (Instr.typeAssert (.iface 59 x) 37 59 true).run Tryd.prog W = .ok (.tuple #[x, .bool true]) W := by kernel_rfl
theorem no_two_num (x : Value) (W : World) : (Instr.typeAssert (.iface 59 x) 37 50 true).run Tryd.prog W = .ok (.tuple #[.int .i64 0, .bool false]) W := by kernel_rfl
theorem no_two_truth (x : Value) (W : World) : (Instr.typeAssert (.iface 59 x) 37 51 true).run Tryd.prog W = .ok (.tuple #[.bool false, .bool false]) W := by kernel_rfl
theorem no_two_name (x : Value) (W : World) : (Instr.typeAssert (.iface 59 x) 37 53 true).run Tryd.prog W = .ok (.tuple #[.string ⟨#[]⟩, .bool false]) W := by kernel_rfl
theorem no_two_not (x : Value) (W : World) : (Instr.typeAssert (.iface 59 x) 37 55 true).run Tryd.prog W = .ok (.tuple #[.agg #[.nilIface], .bool false]) W := by kernel_rfl
theorem bm_two (x : Value) (W : World) : (method 212 59 x (nameIn Tryd.prog 37 0)).run Tryd.prog W = .ok (26, x) W := by kernel_rfl
theorem be_two (args : Array Value) (W : World) : (callFunc 26 args).run Tryd.prog W = .ok (.enter 26 args) W := by kernel_rfl
theorem is_if (x : Value) (W : World) : (Instr.typeAssert (.iface 62 x) 37 62 true).run Tryd.prog W = .ok (.tuple #[x, .bool true]) W := by kernel_rfl
theorem no_if_num (x : Value) (W : World) : (Instr.typeAssert (.iface 62 x) 37 50 true).run Tryd.prog W = .ok (.tuple #[.int .i64 0, .bool false]) W := by kernel_rfl
theorem no_if_truth (x : Value) (W : World) : (Instr.typeAssert (.iface 62 x) 37 51 true).run Tryd.prog W = .ok (.tuple #[.bool false, .bool false]) W := by kernel_rfl
theorem no_if_name (x : Value) (W : World) : (Instr.typeAssert (.iface 62 x) 37 53 true).run Tryd.prog W = .ok (.tuple #[.string ⟨#[]⟩, .bool false]) W := by kernel_rfl
theorem no_if_not (x : Value) (W : World) : (Instr.typeAssert (.iface 62 x) 37 55 true).run Tryd.prog W = .ok (.tuple #[.agg #[.nilIface], .bool false]) W := by kernel_rfl
theorem no_if_two (x : Value) (W : World) : (Instr.typeAssert (.iface 62 x) 37 59 true).run Tryd.prog W = .ok (.tuple #[.agg #[.string ⟨#[]⟩, .nilIface, .nilIface], .bool false]) W := by kernel_rfl
theorem bm_if (x : Value) (W : World) : (method 212 62 x (nameIn Tryd.prog 37 0)).run Tryd.prog W = .ok (85, x) W := by kernel_rfl
theorem be_if (args : Array Value) (W : World) : (callFunc 85 args).run Tryd.prog W = .ok (.enter 85 args) W := by kernel_rfl
theorem binds_num (x : Value) (W : World) : Calls Tryd.prog 71 #[x] W fun e w' => e = .returned (.int .i64 5) ∧ Below W.heap.size W w' := by
  go_enter Tryd.func71, Tryd.ntmps71
  go_wp2_with fail
  go_ret
  exact ⟨rfl, Below.refl _ _⟩
theorem binds_truth (x : Value) (W : World) : Calls Tryd.prog 74 #[x] W fun e w' => e = .returned (.int .i64 5) ∧ Below W.heap.size W w' := by
  go_enter Tryd.func74, Tryd.ntmps74
  go_wp2_with fail
  go_ret
  exact ⟨rfl, Below.refl _ _⟩
theorem binds_name (x : Value) (W : World) : Calls Tryd.prog 77 #[x] W fun e w' => e = .returned (.int .i64 5) ∧ Below W.heap.size W w' := by
  go_enter Tryd.func77, Tryd.ntmps77
  go_wp2_with fail
  go_ret
  exact ⟨rfl, Below.refl _ _⟩
theorem binds_not (x0 : Value) (W : World) : Calls Tryd.prog 80 #[.agg #[x0]] W fun e w' => e = .returned (.int .i64 5) ∧ Below W.heap.size W w' := by
  go_enter Tryd.func80, Tryd.ntmps80
  go_wp2_with fail
  go_ret
  first | exact ⟨rfl, belOne _ _⟩ | exact ⟨rfl, Below.refl _ _⟩
theorem binds_if (x0 x1 x2 : Value) (W : World) : Calls Tryd.prog 85 #[.agg #[x0, x1, x2]] W fun e w' => e = .returned (.int .i64 0) ∧ Below W.heap.size W w' := by
  go_enter Tryd.func85, Tryd.ntmps85
  go_wp2_with fail
  go_ret
  first | exact ⟨rfl, belOne _ _⟩ | exact ⟨rfl, Below.refl _ _⟩
theorem binds_two (s : ByteArray) (t0 t1 : TypeId) (x0 x1 : Value) (W : World) : Calls Tryd.prog 26 #[.agg #[.string s, .iface t0 x0, .iface t1 x1]] W fun e w' => e = .returned (.int .i64 (signL s.toList + 1)) ∧ Below W.heap.size W w' := by
  have HB := hideN (belOne W (.cells #[.string s, .iface t0 x0, .iface t1 x1] 59))
  have HL := hideN (fun V => levelOf_any s V)
  generalize signL s.toList + 1 = l at *
  go_enter Tryd.func26, Tryd.ntmps26
  go_wp2_with fail
  refine (HL.out _).mono ?_
  rintro e w' ⟨rfl, rfl⟩
  go_wp2_with fail
  go_ret
  exact ⟨rfl, HB.out⟩

end Go.Proofs.YthbjihamhfahcaaDoor

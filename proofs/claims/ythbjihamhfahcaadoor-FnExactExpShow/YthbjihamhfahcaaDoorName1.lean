/-
  NameOk of the program and of the model: what both answer at every text. No condition.
-/
import Derived.Test.YthbjihamhfahcaaDoorRows
import Derived.WalkKit
import Derived.ProofKit
import Derived.OpenShut
import Derived.Handy
import Derived.Deep.OwnRows
import Derived.WalkLawsBesides
import Derived.WalkSpells
import Derived.LoopIn
import Derived.LoopNIn
namespace Go.Proofs.YthbjihamhfahcaaDoor
open Go.RowKit Go.Deep

/-- The words that are no names. -/
def words : List (List UInt8) := [[116, 114, 117, 101], [102, 97, 108, 115, 101], [105, 102], [116, 104, 101, 110], [101, 108, 115, 101], [118, 97, 114], [105, 110, 105, 116], [110, 101, 120, 116], [97, 108, 119, 97, 121, 115], [98, 111, 111, 108]]

/-- Is it one of the words. -/
def wordB (l : List UInt8) : Bool := words.any (fun x => l == x)

/-- Is it a letter. -/
def letterB (c : UInt8) : Bool := decide (97 ≤ c.toNat) && decide (c.toNat ≤ 122)

set_option maxHeartbeats 400000 in
theorem isLetter_any (c : Int) (w : World) :
    Calls Tryd.prog 44 #[.int .u8 c] w fun e w' => e = .returned (.bool (decide (97 ≤ c) && decide (c ≤ 122))) ∧ w' = w := by
  by_cases h : 97 ≤ c
  · by_cases h2 : c ≤ 122
    · have hr : (decide (97 ≤ c) && decide (c ≤ 122)) = true := by simp [h, h2]
      rw [hr]
      go_enter Tryd.func44, Tryd.ntmps44
      go_wp2
      go_ret
      exact ⟨rfl, rfl⟩
    · have hr : (decide (97 ≤ c) && decide (c ≤ 122)) = false := by simp [h2]
      rw [hr]
      go_enter Tryd.func44, Tryd.ntmps44
      go_wp2
      go_ret
      exact ⟨rfl, rfl⟩
  · have hr : (decide (97 ≤ c) && decide (c ≤ 122)) = false := by simp [h]
    rw [hr]
    go_enter Tryd.func44, Tryd.ntmps44
    go_wp2
    go_ret
    exact ⟨rfl, rfl⟩

theorem letter_conv (c : UInt8) : (decide ((97 : Int) ≤ (c.toNat : Int)) && decide ((c.toNat : Int) ≤ 122)) = letterB c := by
  unfold letterB
  congr 1 <;> exact decide_eq_decide.2 (by omega)

set_option maxHeartbeats 1000000 in
theorem isWord_any (s : ByteArray) (w : World) :
    Calls Tryd.prog 42 #[.string s] w fun e w' => e = .returned (.bool (wordB s.toList)) ∧ w' = w := by
  obtain ⟨r, hr⟩ : ∃ r, wordB s.toList = r := ⟨_, rfl⟩
  rw [hr]
  have HR : Hid (wordB s.toList = r) := hr
  clear hr
  go_enter Tryd.func42, Tryd.ntmps42
  go_wp2
  all_goals go_ret
  all_goals (have hr := HR.out; clear HR; refine ⟨?_, rfl⟩; first | (simp_all [wordB, words]; done) | (rw [← hr]; clear hr; simp [wordB, words]; simp_all))

/-- A text of these bytes. -/
def strOf (l : List UInt8) : Value := .string ⟨l.toArray⟩

set_option maxHeartbeats 400000 in
theorem words_any (w : World) :
    Calls Tryd.prog 41 #[] w fun e w' => e = .returned (.slice (some ⟨w.heap.size, 0, none⟩) 10 10) ∧ w' = w.alloc (.cells (words.map strOf).toArray 9) := by
  go_enter Tryd.func41, Tryd.ntmps41
  go_wp2
  go_ret
  exact ⟨rfl, rfl⟩

theorem any_take_succ {α : Type} (p : α → Bool) (xs : List α) (d : α) (k : Nat) (h : k < xs.length) : (xs.take (k + 1)).any p = ((xs.take k).any p || p (xs.getD k d)) := by
  rw [List.take_succ_eq_append_getElem h, List.any_append]
  simp [List.getD, List.getElem?_eq_getElem h]

theorem any_true_of {α : Type} (p : α → Bool) (xs : List α) (d : α) (k : Nat) (h : k < xs.length) (hp : p (xs.getD k d) = true) : xs.any p = true := by
  rw [List.any_eq_true]
  refine ⟨xs.getD k d, ?_, hp⟩
  rw [List.getD, List.getElem?_eq_getElem h]
  simp

set_option maxHeartbeats 400000 in
theorem l5Has_any (s : ByteArray) (xs : List (List UInt8)) (g n cap : Nat) (w : World) (hn : xs.length = n) (hm : n ≤ 1000) (hc : ∀ i, i < n → w.cell? ⟨g, i, none⟩ = some (strOf (xs.getD i []))) :
    Calls Tryd.prog 30 #[.slice (some ⟨g, 0, none⟩) n cap, .string s] w fun e w' => e = .returned (.bool (xs.any (fun x => x == s.toList))) ∧ w' = w := by
  have HN : Hid (xs.length = n) := hn
  have HC : Hid (∀ i, i < n → w.cell? ⟨g, i, none⟩ = some (strOf (xs.getD i []))) := hc
  clear hn hc
  obtain ⟨r, hr⟩ : ∃ r, xs.any (fun x => x == s.toList) = r := ⟨_, rfl⟩
  rw [hr]
  have HR : Hid (xs.any (fun x => x == s.toList) = r) := hr
  clear hr
  go_enter Tryd.func30, Tryd.ntmps30
  go_wp2
  go_loop [5] (fun i => ∃ k : Nat, k ≤ n ∧ i = .int .i64 k ∧ Hid ((xs.take k).any (fun x => x == s.toList) = false)) (fun i => n - (intOf i).toNat)
  case atStart => exact ⟨0, Nat.zero_le _, rfl, rfl⟩
  case round =>
    obtain ⟨k, hk, rfl, hno⟩ := hrel
    by_cases hlt : k < n
    · have hcell := HC.out k hlt
      have hts := any_take_succ (fun x => x == s.toList) xs [] k (by rw [HN.out]; exact hlt)
      have htr := any_true_of (fun x => x == s.toList) xs [] k (by rw [HN.out]; exact hlt)
      generalize xs.getD k [] = x at *
      unfold strOf at hcell
      have HTS : Hid ((xs.take (k + 1)).any (fun x => x == s.toList) = ((xs.take k).any (fun x => x == s.toList) || x == s.toList)) := hts
      have HTR : Hid ((x == s.toList) = true → xs.any (fun x => x == s.toList) = true) := htr
      clear hts htr
      go_wp2
      · go_ret
        have h : (x == s.toList) = true := ‹_›
        refine ⟨?_, rfl⟩
        have h1 := HTR.out h
        rw [HR.out] at h1
        rw [h1]
        rfl
      · have h : (x == s.toList) = false := ‹_›
        refine ⟨⟨k + 1, hlt, rfl, ?_⟩, by show _ - ((k : Int) + 1).toNat < _ - ((k : Int)).toNat; omega⟩
        have h1 := HTS.out
        rw [hno.out, h] at h1
        exact h1
    · have hkn : k = n := by omega
      subst hkn
      go_wp2
      go_ret
      refine ⟨?_, rfl⟩
      have h1 := hno.out
      rw [← HN.out, List.take_length, HR.out] at h1
      rw [h1]
      rfl

theorem size_list (s : ByteArray) : s.toList.length = s.size := by
  rw [ByteArray.toList_eq]
  exact Array.length_toList

theorem get_list (s : ByteArray) (k : Nat) (h : k < s.size) : s.toList.getD k 0 = s[k] := by
  rw [ByteArray.toList_eq, List.getD, List.getElem?_eq_getElem (by rw [Array.length_toList]; exact h)]
  simp
  rfl

/-- How many letters there are, from the first byte on. -/
def front (l : List UInt8) : Nat := (l.takeWhile letterB).length

theorem front_of (l : List UInt8) (k : Nat) (hk : k < l.length) (h : (l.take k).all letterB = true) (hb : letterB (l.getD k 0) = false) : front l = k := by
  unfold front
  induction l generalizing k with
  | nil => simp at hk
  | cons a l ih =>
    cases k with
    | zero => simp at hb; simp [hb]
    | succ k =>
      simp at h hb hk
      have := ih k hk (by simpa using h.2) (by simpa using hb)
      simp [h.1, this]

theorem front_all (l : List UInt8) (h : l.all letterB = true) : front l = l.length := by
  unfold front
  induction l with
  | nil => rfl
  | cons a l ih =>
    simp only [List.all_cons, Bool.and_eq_true] at h
    simp [h.1, ih h.2]

theorem all_take_succL {α : Type} (p : α → Bool) (xs : List α) (d : α) (k : Nat) (h : k < xs.length) : (xs.take (k + 1)).all p = ((xs.take k).all p && p (xs.getD k d)) := by
  rw [List.take_succ_eq_append_getElem h, List.all_append]
  simp [List.getD, List.getElem?_eq_getElem h]

set_option maxHeartbeats 400000 in
theorem sizeOf_any (s : ByteArray) (w : World) (hs : s.size ≤ 1048576) :
    Calls Tryd.prog 43 #[.string s, .func (.func 44) #[] #[]] w fun e w' => e = .returned (.int .i64 (front s.toList)) ∧ w' = w := by
  obtain ⟨r, hr⟩ : ∃ r, front s.toList = r := ⟨_, rfl⟩
  rw [hr]
  have HR : Hid (front s.toList = r) := hr
  clear hr
  go_enter Tryd.func43, Tryd.ntmps43
  go_wp2
  go_loop [5] (fun i => ∃ k : Nat, k ≤ s.size ∧ i = .int .i64 k ∧ Hid ((s.toList.take k).all letterB = true)) (fun i => s.size - (intOf i).toNat)
  case atStart => exact ⟨0, Nat.zero_le _, rfl, rfl⟩
  case round =>
    obtain ⟨k, hk, rfl, hall⟩ := hrel
    by_cases hlt : k < s.size
    · have HTS : Hid ((s.toList.take (k + 1)).all letterB = ((s.toList.take k).all letterB && letterB s[k])) := by
        have := all_take_succL letterB s.toList 0 k (by rw [size_list]; exact hlt)
        rw [get_list _ _ hlt] at this
        exact this
      have HF : Hid (letterB s[k] = false → r = k) := fun hf => by
        rw [← HR.out]
        exact front_of _ _ (by rw [size_list]; exact hlt) hall.out (by rw [get_list _ _ hlt]; exact hf)
      go_wp2
      · have h1 := HTS.out
        have hl : letterB s[k] = true := by unfold letterB; simp; omega
        rw [hall.out, hl] at h1
        exact ⟨⟨k + 1, hlt, rfl, h1⟩, by show _ - ((k : Int) + 1).toNat < _ - ((k : Int)).toNat; omega⟩
      all_goals
        go_ret
        have hl : letterB s[k] = false := by unfold letterB; simp; omega
        rw [HF.out hl]
        exact ⟨rfl, rfl⟩
    · have hkn : k = s.size := by omega
      subst hkn
      go_wp2
      go_ret
      refine ⟨?_, rfl⟩
      have h1 := hall.out
      rw [← size_list, List.take_length] at h1
      have h2 := front_all _ h1
      rw [HR.out, size_list] at h2
      rw [h2]
      rfl

/-- Is it a name. -/
def nameB (l : List UInt8) : Bool := decide (1 ≤ l.length) && decide (l.length ≤ 8) && l.all letterB && !wordB l

theorem front_lt (l : List UInt8) (h : l.all letterB = false) : front l < l.length := by
  unfold front
  induction l with
  | nil => simp at h
  | cons a l ih =>
    cases hl : letterB a with
    | false => simp [hl]
    | true =>
      simp only [List.all_cons, hl, Bool.true_and] at h
      have := ih h
      simp [hl, this]

set_option maxHeartbeats 400000 in
theorem implNameOk_any (s : ByteArray) (w : World) (hs : s.size ≤ 1048576) :
    Calls Tryd.prog 39 #[.string s] w fun e w' => e = .returned (.bool (nameB s.toList)) ∧ w' = w := by
  have hz := size_list s
  obtain ⟨r, hr⟩ : ∃ r, nameB s.toList = r := ⟨_, rfl⟩
  rw [hr]
  have HR : Hid (nameB s.toList = r) := hr
  clear hr
  go_enter Tryd.func39, Tryd.ntmps39
  go_wp2_with (first | (go_at_call 42; refine (isWord_any _ _).mono ?_; rintro e w' ⟨rfl, rfl⟩) | (go_at_call 43; refine (sizeOf_any _ _ hs).mono ?_; rintro e w' ⟨rfl, rfl⟩))
  all_goals go_ret
  all_goals refine ⟨?_, rfl⟩
  all_goals
    have hr := HR.out
    clear HR
    unfold nameB at hr
    rw [hz] at hr
  · have h : (s.size < (1 : Int) ∨ (8 : Int) < s.size) ∨ wordB s.toList = true := ‹_›
    have hw : wordB s.toList = true := by rcases h with (h | h) | h <;> first | exact h | omega
    rw [hw] at hr
    simp at hr
    rw [← hr]
    rfl
  · have h : ((1 : Int) ≤ s.size ∧ s.size ≤ (8 : Int)) ∧ wordB s.toList = false := ‹_›
    obtain ⟨⟨h1, h2⟩, hw⟩ := h
    have h1' : 1 ≤ s.size := by omega
    have h2' : s.size ≤ 8 := by omega
    rw [hw] at hr
    simp only [h1', h2', decide_true, Bool.true_and, Bool.not_false, Bool.and_true] at hr
    cases ha : s.toList.all letterB with
    | true =>
      have := front_all _ ha
      rw [this, hz, ← hr, ha]
      simp
    | false =>
      have := front_lt _ ha
      rw [hz] at this
      have hne : ((front s.toList : Int) == (s.size : Int)) = false := by simp; omega
      rw [← hr, ha]
      show Ending.returned (Value.bool _) = _
      rw [hne]
  · have h2 : ¬ s.size ≤ 8 := by omega
    simp [h2] at hr
    rw [← hr]
    rfl
  · have h2 : ¬ 1 ≤ s.size := by omega
    simp only [h2, decide_false, Bool.false_and] at hr
    rw [← hr]
    rfl

set_option maxHeartbeats 400000 in
theorem l1In_any (a b c : Int) (w : World) :
    Calls Tryd.prog 37 #[.int .i64 a, .int .i64 b, .int .i64 c] w fun e w' => e = .returned (.bool (decide (b ≤ a) && decide (a ≤ c))) ∧ w' = w := by
  by_cases h : b ≤ a
  · by_cases h2 : a ≤ c
    · have hr : (decide (b ≤ a) && decide (a ≤ c)) = true := by simp [h, h2]
      rw [hr]
      go_enter Tryd.func37, Tryd.ntmps37
      go_wp2
      go_ret
      exact ⟨rfl, rfl⟩
    · have hr : (decide (b ≤ a) && decide (a ≤ c)) = false := by simp [h2]
      rw [hr]
      go_enter Tryd.func37, Tryd.ntmps37
      go_wp2
      go_ret
      exact ⟨rfl, rfl⟩
  · have hr : (decide (b ≤ a) && decide (a ≤ c)) = false := by simp [h]
    rw [hr]
    go_enter Tryd.func37, Tryd.ntmps37
    go_wp2
    go_ret
    exact ⟨rfl, rfl⟩

theorem any_flip (l : List UInt8) : (words.any fun x => x == l) = wordB l := by
  unfold wordB
  congr 1
  funext x
  exact BEq.comm

theorem words_cell (w : World) (i : Nat) (hi : i < 10) : (w.alloc (.cells (words.map strOf).toArray 9)).cell? ⟨w.heap.size, i, none⟩ = some (strOf (words.getD i [])) := by
  have h : i = 0 ∨ i = 1 ∨ i = 2 ∨ i = 3 ∨ i = 4 ∨ i = 5 ∨ i = 6 ∨ i = 7 ∨ i = 8 ∨ i = 9 := by omega
  rcases h with rfl | rfl | rfl | rfl | rfl | rfl | rfl | rfl | rfl | rfl <;> simp [words, strOf]

set_option maxHeartbeats 1000000 in
theorem specNameOk_any (s : ByteArray) (w : World) (hs : s.size ≤ 1048576) :
    Calls Tryd.prog 38 #[.string s] w fun e w' => e = .returned (.bool (nameB s.toList)) ∧ Below w.heap.size w w' := by
  have hz := size_list s
  obtain ⟨r, hr⟩ : ∃ r, nameB s.toList = r := ⟨_, rfl⟩
  rw [hr]
  have HR : Hid (nameB s.toList = r) := hr
  clear hr
  have HB : Hid (∀ o, Below w.heap.size w (w.alloc o)) := fun o => (Below.refl _ _).alloc (Nat.le_refl _) _
  have HW : Hid (∀ i, i < 10 → (w.alloc (.cells (words.map strOf).toArray 9)).cell? ⟨w.heap.size, i, none⟩ = some (strOf (words.getD i []))) := words_cell w
  go_enter Tryd.func38, Tryd.ntmps38
  go_wp2
  go_loop [3] (fun i => ∃ k : Nat, k ≤ s.size ∧ i = .int .i64 k ∧ Hid ((s.toList.take k).all letterB = true)) (fun i => s.size - (intOf i).toNat)
  case atStart => exact ⟨0, Nat.zero_le _, rfl, rfl⟩
  case round =>
    obtain ⟨k, hk, rfl, hall⟩ := hrel
    by_cases hlt : k < s.size
    · have HTS : Hid ((s.toList.take (k + 1)).all letterB = ((s.toList.take k).all letterB && letterB s[k])) := by
        have := all_take_succL letterB s.toList 0 k (by rw [size_list]; exact hlt)
        rw [get_list _ _ hlt] at this
        exact this
      have HF : Hid (letterB s[k] = false → r = false) := fun hf => by
        rw [← HR.out]
        have : s.toList.all letterB = false := by
          rw [List.all_eq_false]
          refine ⟨s[k], ?_, by simp [hf]⟩
          rw [← get_list _ _ hlt, List.getD, List.getElem?_eq_getElem (by rw [size_list]; exact hlt)]
          simp
        unfold nameB
        rw [this]
        simp
      go_wp2
      all_goals first
        | (go_ret
           have hl : letterB s[k] = false := by unfold letterB; simp; omega
           rw [HF.out hl]
           exact ⟨rfl, Below.refl _ _⟩)
        | (have h1 := HTS.out
           have hl : letterB s[k] = true := by unfold letterB; simp; omega
           rw [hall.out, hl] at h1
           exact ⟨⟨k + 1, hlt, rfl, h1⟩, by show _ - ((k : Int) + 1).toNat < _ - ((k : Int)).toNat; omega⟩)
    · have hkn : k = s.size := by omega
      subst hkn
      go_wp2_with (first | (go_at_call 37; refine (l1In_any _ _ _ _).mono ?_; rintro e w' ⟨rfl, rfl⟩) | (go_at_call 41; refine (words_any _).mono ?_; rintro e w' ⟨rfl, rfl⟩) | (go_at_call 30; refine (l5Has_any s words _ 10 10 _ (by rfl) (by decide) HW.out).mono ?_; rintro e w' ⟨rfl, rfl⟩))
      all_goals go_ret
      all_goals
        have hr := HR.out
        have ha := hall.out
        rw [← hz, List.take_length] at ha
        unfold nameB at hr
        rw [hz, ha] at hr
      · have h : (1 : Int) ≤ s.size ∧ s.size ≤ (8 : Int) := ‹_›
        have h1' : 1 ≤ s.size := by omega
        have h2' : s.size ≤ 8 := by omega
        simp only [h1', h2', decide_true, Bool.true_and] at hr
        refine ⟨?_, HB.out _⟩
        rw [← hr, ← any_flip]
        rfl
      · have h : ¬ ((1 : Int) ≤ s.size ∧ s.size ≤ (8 : Int)) := ‹_›
        have hd : (decide (1 ≤ s.size) && decide (s.size ≤ 8)) = false := by simp; omega
        rw [hd] at hr
        simp at hr
        rw [← hr]
        exact ⟨rfl, Below.refl _ _⟩

end Go.Proofs.YthbjihamhfahcaaDoor

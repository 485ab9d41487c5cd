/-
  Is a text one of some: l5Has, of the model; the three signs.
-/
import Derived.Test.YtlbmlhncioampaaBdTh
import Derived.LoopIn
import Derived.LoopNIn
namespace Go.Proofs.Ytlbmlhncioampaa
open Go.RowKit Go.Deep
set_option linter.unusedVariables false

def strB (l : List UInt8) : Value := .string ⟨l.toArray⟩


theorem anyTake_succ {α : Type} (p : α → Bool) (xs : List α) (d : α) (k : Nat) (h : k < xs.length) : (xs.take (k + 1)).any p = ((xs.take k).any p || p (xs.getD k d)) := by
  rw [List.take_succ_eq_append_getElem h, List.any_append]
  simp [List.getD, List.getElem?_eq_getElem h]

theorem anyTrue_of {α : Type} (p : α → Bool) (xs : List α) (d : α) (k : Nat) (h : k < xs.length) (hp : p (xs.getD k d) = true) : xs.any p = true := by
  rw [List.any_eq_true]
  refine ⟨xs.getD k d, ?_, hp⟩
  rw [List.getD, List.getElem?_eq_getElem h]
  simp

set_option maxHeartbeats 400000 in
theorem l5HasB_any (s : ByteArray) (xs : List (List UInt8)) (g n cap : Nat) (w : World) (hn : xs.length = n) (hm : n ≤ 1000) (hc : ∀ i, i < n → w.cell? ⟨g, i, none⟩ = some (strB (xs.getD i []))) :
    Calls Try.prog 66 #[.slice (some ⟨g, 0, none⟩) n cap, .string s] w fun e w' => e = .returned (.bool (xs.any (fun x => x == s.toList))) ∧ w' = w := by
  have HN : Hid (xs.length = n) := hn
  have HC : Hid (∀ i, i < n → w.cell? ⟨g, i, none⟩ = some (strB (xs.getD i []))) := hc
  clear hn hc
  obtain ⟨r, hr⟩ : ∃ r, xs.any (fun x => x == s.toList) = r := ⟨_, rfl⟩
  rw [hr]
  have HR : Hid (xs.any (fun x => x == s.toList) = r) := hr
  clear hr
  go_enter Try.func66, Try.ntmps66
  go_wp2
  go_loop [5] (fun i => ∃ k : Nat, k ≤ n ∧ i = .int .i64 k ∧ Hid ((xs.take k).any (fun x => x == s.toList) = false)) (fun i => n - (intOf i).toNat)
  case atStart => exact ⟨0, Nat.zero_le _, rfl, rfl⟩
  case round =>
    obtain ⟨k, hk, rfl, hno⟩ := hrel
    by_cases hlt : k < n
    · have hcell := HC.out k hlt
      have hts := anyTake_succ (fun x => x == s.toList) xs [] k (by rw [HN.out]; exact hlt)
      have htr := anyTrue_of (fun x => x == s.toList) xs [] k (by rw [HN.out]; exact hlt)
      generalize xs.getD k [] = x at *
      unfold strB at hcell
      have HTS : Hid ((xs.take (k + 1)).any (fun x => x == s.toList) = ((xs.take k).any (fun x => x == s.toList) || x == s.toList)) := hts
      have HTR : Hid ((x == s.toList) = true → xs.any (fun x => x == s.toList) = true) := htr
      clear hts htr
      go_wp2
      · go_ret
        have h : (x == s.toList) = true := ‹_›
        refine ⟨?_, rfl⟩
        have h1 := HTR.out h
        rw [HR.out] at h1
        rw [h1]
        rfl
      · have h : (x == s.toList) = false := ‹_›
        refine ⟨⟨k + 1, hlt, rfl, ?_⟩, by show _ - ((k : Int) + 1).toNat < _ - ((k : Int)).toNat; omega⟩
        have h1 := HTS.out
        rw [hno.out, h] at h1
        exact h1
    · have hkn : k = n := by omega
      subst hkn
      go_wp2
      go_ret
      refine ⟨?_, rfl⟩
      have h1 := hno.out
      rw [← HN.out, List.take_length, HR.out] at h1
      rw [h1]
      rfl

theorem opOf_some (sg : ByteArray) : (opOf sg).isSome = ([[38], [124], [61]] : List (List UInt8)).any (fun x => x == sg.toList) := by
  unfold opOf
  have hs : ∀ x : List UInt8, (x == sg.toList) = (sg.toList == x) := fun x => by
    cases h : (sg.toList == x) with
    | true => have := eq_of_beq h; rw [this]; simp
    | false =>
      cases h2 : (x == sg.toList) with
      | false => rfl
      | true => have := eq_of_beq h2; rw [this] at h; simp at h
  simp only [List.any_cons, List.any_nil, hs, Bool.or_false]
  cases (sg.toList == [38]) <;> cases (sg.toList == [124]) <;> cases (sg.toList == [61]) <;> rfl

theorem has3_any (sg : ByteArray) (g : Nat) (w : World) (h0 : w.cell? ⟨g, 0, none⟩ = some (.string { data := #[38] })) (h1 : w.cell? ⟨g, 1, none⟩ = some (.string { data := #[124] })) (h2 : w.cell? ⟨g, 2, none⟩ = some (.string { data := #[61] })) :
    Calls Try.prog 66 #[.slice (some ⟨g, 0, none⟩) 3 3, .string sg] w fun e w' => e = .returned (.bool (opOf sg).isSome) ∧ w' = w := by
  rw [opOf_some]
  refine l5HasB_any sg [[38], [124], [61]] g 3 3 w rfl (by decide) (fun i hi => ?_)
  match i, hi with
  | 0, _ => exact h0
  | 1, _ => exact h1
  | 2, _ => exact h2

end Go.Proofs.Ytlbmlhncioampaa

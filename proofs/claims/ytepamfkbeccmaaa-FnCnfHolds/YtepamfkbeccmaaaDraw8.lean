/-
  The reader opened: l1Open; and the model's Solve where nothing is told.
-/
import Derived.Test.YtepamfkbeccmaaaDraw7
import Derived.Test.YtepamfkbeccmaaaSolve2
namespace Go.Proofs.Ytepamfkbeccmaaa
open Go.RowKit Go.Deep
set_option linter.unusedVariables false

/-- The value is a slice of these bytes. -/
def IsBytes (w : World) (v : Value) (bs : List Int) : Prop :=
  ∃ ao cap, v = .slice ao bs.length cap ∧ bs.length ≤ cap ∧ (bs ≠ [] → ∃ b off, ao = some ⟨b, off, none⟩ ∧ ∀ i, i < bs.length → w.cell? ⟨b, off + i, none⟩ = some (.int .u8 (bs.getD i 0))) ∧ ∀ i, i < bs.length → 0 ≤ bs.getD i 0 ∧ bs.getD i 0 ≤ 255

def OpenPost (K : Nat) (w : World) (e : Ending) (w' : World) : Prop :=
  ∃ v' bs', e = .returned (.pointer (some ⟨w.heap.size, 0, none⟩)) ∧ Rd w' w.heap.size v' bs' 0 ∧ Below w.heap.size w w' ∧ w'.heap.size = w.heap.size + 1 ∧ ∀ ao n cap b off, v' = .slice ao n cap → ao = some ⟨b, off, none⟩ → b < K

theorem rd_new {w : World} {ao : Option Addr} {cap : Nat} {bs : List Int} {t : TypeId} (hl : bs.length ≤ 2000) (h : bs ≠ [] → ∃ b off, ao = some ⟨b, off, none⟩ ∧ ∀ i, i < bs.length → w.cell? ⟨b, off + i, none⟩ = some (.int .u8 (bs.getD i 0))) (hb : ∀ i, i < bs.length → 0 ≤ bs.getD i 0 ∧ bs.getD i 0 ≤ 255) :
    Rd (w.alloc (.cells #[.slice ao bs.length cap, .int .i64 0] t)) w.heap.size (.slice ao bs.length cap) bs 0 := by
  refine ⟨by simp, by simp, by simp, by simp, hl, ⟨ao, cap, rfl, fun hne => ?_⟩, hb⟩
  obtain ⟨b, off, ha, hc⟩ := h hne
  have hpos : 0 < bs.length := List.length_pos_iff.2 hne
  have hlt : b < w.heap.size := cell_lt (hc 0 hpos)
  exact ⟨b, off, ha, by omega, by simp; omega, fun i hi => by rw [World.cell?_alloc_lt w _ _ hlt]; exact hc i hi⟩

set_option maxHeartbeats 1000000 in
theorem l1Open_any (K : Nat) (v : Value) (bs : List Int) (w : World) (hv : IsBytes w v bs) (hn : bs.length ≤ 1048576) (hal : ∀ ao n cap b off, v = .slice ao n cap → ao = some ⟨b, off, none⟩ → b < K) :
    Calls Try.prog 9 #[v] w (OpenPost K w) := by
  obtain ⟨ao, cap, rfl, hcap, hc, hb⟩ := hv
  by_cases hl : bs.length ≤ 2000
  · have HRD := hideD (fun t => rd_new (cap := cap) (t := t) hl hc hb)
    have HAL : Hid (∀ (ao' : Option Addr) (n' cap' b off : Nat), Value.slice ao bs.length cap = .slice ao' n' cap' → ao' = some ⟨b, off, none⟩ → b < K) := hal
    clear hc hb hal
    go_enter Try.func9, Try.ntmps9
    go_wp2
    go_ret
    exact ⟨_, bs, rfl, HRD.out _, belOne _ _, by simp, fun a b c d e h1 h2 => HAL.out a b c d e h1 h2⟩
  · have hlen : (bs.take 2000).length = 2000 := by simp; omega
    have hget : ∀ i, i < 2000 → (bs.take 2000).getD i 0 = bs.getD i 0 := fun i hi => by simp [List.getD, hi]
    have hc' : bs.take 2000 ≠ [] → ∃ b off, ao = some ⟨b, off, none⟩ ∧ ∀ i, i < (bs.take 2000).length → w.cell? ⟨b, off + i, none⟩ = some (.int .u8 ((bs.take 2000).getD i 0)) := fun _ => by
      obtain ⟨b, off, ha, hcc⟩ := hc (by intro e; subst e; simp at hl)
      exact ⟨b, off, ha, fun i hi => by rw [hlen] at hi; rw [hget i hi]; exact hcc i (by omega)⟩
    have HRD := hideD (fun t => rd_new (w := w) (cap := cap) (t := t) (by rw [hlen]; exact Nat.le_refl _) hc' (fun i hi => by rw [hlen] at hi; rw [hget i hi]; exact hb i (by omega)))
    have HAL : Hid (∀ (ao' : Option Addr) (n' cap' b off : Nat), Value.slice ao bs.length cap = .slice ao' n' cap' → ao' = some ⟨b, off, none⟩ → b < K) := hal
    have HLEN : Hid ((bs.take 2000).length = 2000) := hlen
    have hcp : (2000 : Int) ≤ (cap : Int) := by omega
    obtain ⟨b, off, rfl, _⟩ := hc (by intro e; subst e; simp at hl)
    clear hc hb hal hc' hget hlen
    go_enter Try.func9, Try.ntmps9
    go_wp2
    go_ret
    exact ⟨_, bs.take 2000, rfl, by have h := HRD.out 45; rw [HLEN.out] at h; exact h, belOne _ _, by simp, fun a n c d e h1 h2 => HAL.out (some ⟨b, off, none⟩) _ _ d e rfl (by cases h1; exact h2)⟩

end Go.Proofs.Ytepamfkbeccmaaa

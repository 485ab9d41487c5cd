/-
  Diagrams: the way at a place, what a diagram is of a way, and its table, by the model.
-/
import Derived.Test.YtknpifjkllcdeaaBdT
namespace Go.Proofs.Ytknpifjkllcdeaa
open Go.RowKit Go.Deep
set_option linter.unusedVariables false

attribute [local go_sem] Oper.semAt_some

/-- Of the way, the last so many are told. -/
def partW (vars p i : Nat) : Nat → Value := fun k => if vars ≤ k + i then .bool ((wayL vars p).getD k false) else .bool false

theorem partW_set {w : World} {b : Nat} {t : TypeId} {vars p i : Nat} {y : Bool} (hi : i < vars) (hy : y = (wayL vars p).getD (vars - 1 - i) false) (h : w.rowIs b t vars (partW vars p i)) : (w.setCell ⟨b, vars - 1 - i, none⟩ (.bool y)).rowIs b t vars (partW vars p (i + 1)) := by
  subst hy
  refine (h.set (vars - 1 - i) _).congr (fun k hk => ?_)
  unfold partW
  by_cases e : k = vars - 1 - i
  · subst e
    rw [if_pos rfl, if_pos (by omega)]
  · rw [if_neg e]
    by_cases h2 : vars ≤ k + i
    · rw [if_pos h2, if_pos (by omega)]
    · rw [if_neg h2, if_neg (by omega)]

set_option maxRecDepth 100000 in
set_option maxHeartbeats 4000000 in
theorem l11Way_any (vars p : Nat) (w : World) (h : vars ≤ 6) (hp : p < 64) :
    Calls Try.prog 69 #[.int .i64 (vars : Int), .int .i64 (p : Int)] w fun e w' => e = .returned (.slice (some ⟨w.heap.size, 0, none⟩) vars vars) ∧ Below w.heap.size w w' ∧ w'.rowIs w.heap.size 4 vars (fun i => .bool ((wayL vars p).getD i false)) := by
  have hmk := run_make_row' (P := Try.prog) 22 4 (.bool false) 1 Try.underlying22 info_bool rfl .i64 .i64 vars (by omega) (by omega)
  go_enter Try.func69, Try.ntmps69
  go_wp2_with fail
  go_loopw [1, 6] (fun m v wr => ∃ i N : Nat, i ≤ vars ∧ N ≤ 63 ∧ Hid (N = p / 2 ^ i) ∧ m = .int .i64 (N : Int) ∧ v = .int .i64 ((vars : Int) - 1 - (i : Int)) ∧ Hid (Below w.heap.size w wr) ∧ Hid (wr.rowIs w.heap.size 4 vars (partW vars p i))) (fun _ v _ => ((intOf v) + 1).toNat)
  case atStart => exact ⟨0, p, Nat.zero_le _, by omega, by show p = p / 2 ^ 0; simp, rfl, by simp, (Below.refl _ _).alloc (Nat.le_refl _) _, (World.rowIs_made w _ vars 4).congr (fun j hj => by unfold partW; rw [if_neg (by omega)])⟩
  case round =>
    obtain ⟨i, N, hi, hN, hNe, rfl, rfl, hb, hrow⟩ := hrel
    by_cases hlt : i < vars
    · obtain ⟨k, hk⟩ : ∃ k, vars - 1 - i = k := ⟨_, rfl⟩
      have hvk : (vars : Int) - 1 - (i : Int) = (k : Int) := by omega
      have c2 := hrow.out.cell (i := k) (by omega)
      have hfz := hrow.out.frozen k
      have hwl := hrow.out.lt
      have hkv : k < vars := by omega
      have hd : ((N : Int)).tdiv 2 = ((N / 2 : Nat) : Int) := by rw [Int.tdiv_eq_ediv_of_nonneg (by omega)]; omega
      have hg := wayL_get vars p k hkv
      have HY : Hid ((((N : Int) % 2) == 1) = (wayL vars p).getD (vars - 1 - i) false) := by
        show _ = _
        rw [hk, hg, show vars - 1 - k = i from by omega, ← hNe.out, show (N : Int) % 2 = ((N % 2 : Nat) : Int) from by omega]
        generalize N % 2 = r
        by_cases e : r = 1
        · subst e; rfl
        · have h1 : (((r : Nat) : Int) == 1) = false := by simp; omega
          have h2 : (r == 1) = false := by simpa using e
          rw [h1, h2]
      have HST := hideN (partW_set hlt HY.out hrow.out)
      rw [hk] at HST
      have HN2 : Hid (N / 2 = p / 2 ^ (i + 1)) := by show _ = _; rw [hNe.out, Nat.div_div_eq_div_mul, Nat.pow_succ]
      obtain ⟨N2, hN2⟩ : ∃ N2, N / 2 = N2 := ⟨_, rfl⟩
      have hN263 : N2 ≤ 63 := by omega
      rw [hN2] at hd HN2
      have e9 : (vars : Int) - 1 - (i : Int) - 1 = (vars : Int) - 1 - ((i + 1 : Nat) : Int) := by push_cast; omega
      have HE9 : Hid ((k : Int) - 1 = (vars : Int) - 1 - ((i + 1 : Nat) : Int)) := by show _ = _; push_cast; omega
      clear hrow hg hN2 hk e9
      simp only [hvk]
      go_wp2_with fail
      go_roundw
      case rel => exact ⟨i + 1, N2, by omega, hN263, HN2, rfl, by rw [HE9.out], hb.out.setCell (Nat.le_refl _) _, HST⟩
      case measure => simp [intOf]
    · obtain rfl : i = vars := by omega
      have HR : Hid (wr.rowIs w.heap.size 4 i (fun k => .bool ((wayL i p).getD k false))) := hrow.out.congr (fun k hk => by unfold partW; rw [if_pos (by omega)])
      have hv1 : (i : Int) - 1 - (i : Int) = -1 := by omega
      clear hrow
      simp only [hv1]
      go_wp2_with fail
      go_ret
      exact ⟨rfl, hb.out, HR.out⟩

theorem goes_parts {vars n : Nat} {ns : List Nd} (hok : ∀ i, i < n → nodeB vars ns i = true) {a : Nat} (h2 : 2 ≤ a) (ha : a < n + 2) : ∃ x y z : Nat, ns.getD (a - 2) (0, 0, 0) = ((x : Int), (y : Int), (z : Int)) ∧ x < vars ∧ y < a ∧ z < a := by
  have h := node_parts (hok (a - 2) (by omega))
  refine ⟨(ns.getD (a - 2) (0, 0, 0)).1.toNat, (ns.getD (a - 2) (0, 0, 0)).2.1.toNat, (ns.getD (a - 2) (0, 0, 0)).2.2.toNat, ?_, by omega, by omega, by omega⟩
  generalize ns.getD (a - 2) (0, 0, 0) = u at *
  obtain ⟨p, q, r⟩ := u
  have h : 0 ≤ p ∧ p < (vars : Int) ∧ 0 ≤ q ∧ q < 2 + ((a - 2 : Nat) : Int) ∧ 0 ≤ r ∧ r < 2 + ((a - 2 : Nat) : Int) := h
  show (p, q, r) = ((p.toNat : Int), (q.toNat : Int), (r.toNat : Int))
  rw [Int.toNat_of_nonneg h.1, Int.toNat_of_nonneg h.2.2.1, Int.toNat_of_nonneg h.2.2.2.2.1]

set_option maxRecDepth 100000 in
set_option maxHeartbeats 8000000 in
theorem l11Is_any (vars n cap : Nat) (root : Int) (ao : Option Addr) (ns : List Nd) (Bw off capw : Nat) (ws : List Bool) (w : World) (hN : Nds w ao n cap ns) (hn : n ≤ 64) (hok : ∀ i, i < n → nodeB vars ns i = true) (hr0 : 0 ≤ root) (hr1 : root < 2 + (n : Int)) (hws : ws.length = vars) (hT : Tab w Bw off capw ws) :
    Calls Try.prog 89 #[.agg #[.int .i64 (vars : Int), .slice ao n cap, .int .i64 root], .slice (some ⟨Bw, off, none⟩) vars capw] w fun e w' => e = .returned (.bool (isN ns root ws)) ∧ Below w.heap.size w w' := by
  obtain ⟨W1, hW1⟩ : ∃ W1, W1 = w.alloc (.cells #[.int .i64 (vars : Int), .slice ao n cap, .int .i64 root] 25) := ⟨_, rfl⟩
  have HB1 : Hid (Below w.heap.size w W1) := by rw [hW1]; exact belOne _ _
  have HK := hideN (show BlkD W1 w.heap.size (.int .i64 (vars : Int)) (.slice ao n cap) (.int .i64 root) by rw [hW1]; exact BlkD.new _ _ _ _)
  have HNV := hideN (fun V (hV : Below W1.heap.size W1 V) => (hN.below HB1.out).below hV)
  have HTV := hideN (fun V (hV : Below W1.heap.size W1 V) i (hi : i < vars) => (HB1.out.trans (hV.mono HB1.out.size)).cell (p := ⟨Bw, off + i, none⟩) (cell_lt (hT.cell i (by omega))) |>.trans (hT.cell i (by omega)))
  have HLEN := hideN hN.len
  have HOK := hideN hok
  have HW1 := hideN hW1
  have c2 := HK.out.c2
  have c3 := HK.out.lt
  obtain ⟨r, rfl⟩ : ∃ r : Nat, root = (r : Int) := ⟨root.toNat, by omega⟩
  have HIS : Hid (isN ns (r : Int) ws = (valsN ns ws n).getD r false) := by show _ = _; unfold isN; rw [HLEN.out, Int.toNat_natCast]
  clear hN hT hok hW1
  go_enter Try.func89, Try.ntmps89
  go_wp2_with fail
  try rw [← HW1.out]
  clear c2 c3
  go_loopw [5] (fun v wr => ∃ a : Nat, a < n + 2 ∧ v = .int .i64 (a : Int) ∧ Hid ((valsN ns ws n).getD a false = (valsN ns ws n).getD r false) ∧ Hid (Below W1.heap.size W1 wr)) (fun v _ => (intOf v).toNat)
  case atStart => exact ⟨r, by omega, rfl, rfl, Below.refl _ _⟩
  case round =>
    obtain ⟨a, ha, rfl, hva, hbw⟩ := hrel
    by_cases h2 : 2 ≤ a
    · have c1 := (HK.out.below hbw.out).c1
      have c3 := (HK.out.below hbw.out).lt
      obtain ⟨x, y, z, hp, hx, hy, hz⟩ := goes_parts HOK.out h2 ha
      obtain ⟨b, off2, hao, hcs⟩ := (HNV.out wr hbw.out).cells (by omega)
      subst hao
      obtain ⟨q, rfl⟩ : ∃ q, a = q + 2 := ⟨a - 2, by omega⟩
      have hp : ns.getD q (0, 0, 0) = ((x : Int), (y : Int), (z : Int)) := by have : q + 2 - 2 = q := by omega
                                                                              rw [this] at hp; exact hp
      obtain ⟨e0, e1, e2⟩ := hcs q (by omega)
      have hvn := valsN_node ns ws n q (by omega) (by rw [hp]; show (y : Int).toNat < q + 2; omega) (by rw [hp]; show (z : Int).toNat < q + 2; omega)
      rw [hp] at e0 e1 e2 hvn
      have e0 : wr.cell? ⟨b, off2 + q * 3, none⟩ = some (.int .i64 (x : Int)) := e0
      have e1 : wr.cell? ⟨b, off2 + q * 3 + 1, none⟩ = some (.int .i64 (y : Int)) := e1
      have e2 : wr.cell? ⟨b, off2 + q * 3 + 2, none⟩ = some (.int .i64 (z : Int)) := e2
      have hvn : (valsN ns ws n).getD (q + 2) false = if ws.getD x false = true then (valsN ns ws n).getD z false else (valsN ns ws n).getD y false := hvn
      have t0 := HTV.out wr hbw.out x hx
      have tl : Bw < wr.heap.size := cell_lt t0
      have w1 : ((q + 2 : Nat) : Int) - 2 = (q : Int) := by push_cast; omega
      have hqn : q < n := by omega
      have d1 : decide ((1 : Int) < ((q + 2 : Nat) : Int)) = true := by simp; omega
      obtain ⟨a', ha'⟩ : ∃ a', q + 2 = a' := ⟨_, rfl⟩
      rw [ha'] at w1 d1 hy hz hva hvn ha
      have HVA := hideN hva
      have HAQ := hideN ha'
      cases hb : ws.getD x false with
      | true =>
        rw [hb] at t0 hvn
        have HVN : Hid ((valsN ns ws n).getD a' false = (valsN ns ws n).getD z false) := by rw [if_pos rfl] at hvn; exact hvn
        have HBA : Hid (Below W1.heap.size W1 (wr.alloc (.cells #[.int .i64 (x : Int), .int .i64 (y : Int), .int .i64 (z : Int)] 50))) := belNext hbw.out (belOne _ _)
        clear hvn hva hcs hp ha' hb
        simp only [HAQ.out]
        go_wp2_with fail
        go_roundw
        case rel => exact ⟨z, by omega, rfl, by show _ = _; rw [← HVN.out]; exact HVA.out, HBA⟩
        case measure => simp [intOf]; omega
      | false =>
        rw [hb] at t0 hvn
        have HVN : Hid ((valsN ns ws n).getD a' false = (valsN ns ws n).getD y false) := by rw [if_neg (by simp)] at hvn; exact hvn
        have HBA : Hid (Below W1.heap.size W1 (wr.alloc (.cells #[.int .i64 (x : Int), .int .i64 (y : Int), .int .i64 (z : Int)] 50))) := belNext hbw.out (belOne _ _)
        clear hvn hva hcs hp ha' hb
        simp only [HAQ.out]
        go_wp2_with fail
        go_roundw
        case rel => exact ⟨y, by omega, rfl, by show _ = _; rw [← HVN.out]; exact HVA.out, HBA⟩
        case measure => simp [intOf]; omega
    · have HR : Hid (isN ns (r : Int) ws = ((a : Int) == 1)) := by
        show _ = _
        rw [HIS.out, ← hva.out, valsN_old ns ws 0 n a (Nat.zero_le _) (by omega)]
        have h3 : a = 0 ∨ a = 1 := by omega
        rcases h3 with rfl | rfl <;> rfl
      have HBE : Hid (Below w.heap.size w wr) := HB1.out.trans (hbw.out.mono HB1.out.size)
      have d1 : decide ((1 : Int) < (a : Int)) = false := by simp; omega
      clear hva
      go_wp2_with fail
      go_ret
      exact ⟨by rw [HR.out]; rfl, HBE.out⟩

end Go.Proofs.Ytknpifjkllcdeaa

/-
  CONTRACTS: the lock's answer.
-/
import Derived.Test.YthegmomjfbcabaaDoorBase
import Derived.Deep.DeepCutAuto
import Derived.Deep.RegionHeld3
import Derived.Deep.QuietTactic
import Derived.BigQuiet
namespace Go.Proofs.YthegmomjfbcabaaDoor
open Go.RowKit
/-- the world when answer has laid its boxes -/
def ansW (w : World) (W : Nat) (S : Int) (c g : List Int) : World :=
  ((w.alloc (.cells #[I W, I S] 78)).alloc (.cells #[I (nth c 0), I (nth c 1), I (nth c 2), I (nth c 3)] 87)).alloc (.cells #[I (nth g 0), I (nth g 1), I (nth g 2), I (nth g 3)] 87)


theorem com_bound (c g : List Int) (W n : Nat) (hW : W ≤ 4) : com c g W n ≤ 4 * n := by
  induction n with
  | zero => simp [com]
  | succ n ih => simp only [com]; have := cnt_bounds c n W; have := cnt_bounds g n W; omega
theorem row_lt {w : World} {g : Nat} {cs : Array Value} {t : TypeId} (h : w.heap[g]? = some (.cells cs t (0, 0))) : g < w.heap.size := by
  rcases Nat.lt_or_ge g w.heap.size with hlt | hge
  · exact hlt
  · rw [Array.getElem?_eq_none hge] at h; cases h
theorem ptr_new_ne {v : Value} {g n : Nat} (h : v = .pointer (some ⟨g, 0, none⟩)) (hl : g < n) : Value.pointer (some ⟨n, 0, none⟩) ≠ v := by
  subst h
  intro e
  injection e with e
  injection e with e
  injection e with e
  omega
theorem cntArr_one (c : List Int) (k : Nat) : (cntArr c k).all (·.oneCell') = true := by simp [cntArr, Value.oneCell']
set_option maxRecDepth 100000 in
theorem wp_alloc10 {Q : Exit → Act → World → Prop} {o : Oper} {K : Act → World → Prop} {a : Act} {w : World} (c : List Int) (ho : o.op = .alloc 137)
    (h : K (a.put o.dst (.pointer (some ⟨w.heap.size, 0, none⟩))) (w.alloc (.cells (cntArr c 0) 137))) : o.wp Tryd.prog a w K Q := by
  unfold Oper.wp execOp
  simp only [ho]
  go_simp
  exact h
theorem ret_val {a b : Int} (h : a = b) : Value.int .i64 a = Value.int .i64 b := by rw [h]
theorem below_drewN {B : Nat} {a w : World} (h : Below B a w) (n : Nat) : Below B a (w.drewN n) := ⟨h.os, h.tape, h.output, h.size, h.block⟩

set_option maxRecDepth 100000 in
set_option maxHeartbeats 1000000 in
theorem answer_any (W : Nat) (S : Int) (c g : List Int) (w : World) (hW : W ≤ 4) (hc : Sym c W) (hg : Sym g W) :
    Calls Tryd.prog 71 #[lockV W S, rowV c, rowV g] w fun e w' => e = .returned (.tuple #[I (rgt c g W), I (com c g W 10 - rgt c g W)]) ∧ Below w.heap.size w w' := by
  go_enter Tryd.func71, Tryd.ntmps71
  go_wp2
  go_loopw [14, 6] (fun i r wr => ∃ k : Nat, k ≤ W ∧ i = .int .i64 k ∧ r = .int .i64 (rgt c g k) ∧ Below (w.heap.size + 3) (ansW w W S c g) wr) (fun i _ _ => W - (intOf i).toNat)
  case atStart =>
    exact ⟨0, Nat.zero_le _, rfl, rfl, Below.refl _ _⟩
  case round =>
    obtain ⟨k, hk, rfl, rfl, hB⟩ := hrel
    have e3 : (ansW w W S c g).heap.size = w.heap.size + 3 := by simp [ansW]
    have hsz := hB.size
    rw [e3] at hsz
    have hrb := rgt_bounds c g k
    have hr1 := hrb.1
    have hr2 := hrb.2
    clear hrb
    by_cases hlt : k < W
    · have c1 := (hB.cell (p := ⟨w.heap.size + 1, k, none⟩) (by show w.heap.size + 1 < _; omega)).trans ((World.cell?_alloc_lt _ _ _ (by simp)).trans ((alloc_cell' _ _ _ _ k (by simp)).trans (rowCells_at c k (by omega))))
      have c2 := (hB.cell (p := ⟨w.heap.size + 2, k, none⟩) (by show w.heap.size + 2 < _; omega)).trans ((alloc_cell' _ _ _ _ k (by simp)).trans (rowCells_at g k (by omega)))
      clear e3
      by_cases he : nth c k = nth g k
      · have hb : (nth c k == nth g k) = true := by simpa using he
        have HE := Lib.hid he
        clear he
        go_wp2
        go_quiet (fail)
        go_wp2
        go_roundw
        case rel => exact ⟨k + 1, by omega, by go_num, ret_val (by simp only [rgt]; rw [if_pos HE.out]), below_drewN hB _⟩
        case measure => simp [intOf]; omega
      · have hb : (nth c k == nth g k) = false := by simpa using he
        have HE := Lib.hid he
        clear he
        go_wp2
        go_quiet (fail)
        go_wp2
        go_roundw
        case rel => exact ⟨k + 1, by omega, by go_num, ret_val (by simp only [rgt]; rw [if_neg HE.out]; omega), below_drewN hB _⟩
        case measure => simp [intOf]; omega
    · obtain rfl : k = W := by omega
      have l0 : wr.cell? ⟨w.heap.size, 0, none⟩ = some (I k) := (hB.cell (p := ⟨w.heap.size, 0, none⟩) (by show w.heap.size < _; omega)).trans ((World.cell?_alloc_lt _ _ _ (by simp; omega)).trans ((World.cell?_alloc_lt _ _ _ (by simp)).trans (alloc_cell' _ _ _ _ 0 (by simp))))
      have l1 : wr.cell? ⟨w.heap.size, 1, none⟩ = some (I S) := (hB.cell (p := ⟨w.heap.size, 1, none⟩) (by show w.heap.size < _; omega)).trans ((World.cell?_alloc_lt _ _ _ (by simp; omega)).trans ((World.cell?_alloc_lt _ _ _ (by simp)).trans (alloc_cell' _ _ _ _ 1 (by simp))))
      have m := fun j => (hB.cell (p := ⟨w.heap.size + 1, j, none⟩) (by show w.heap.size + 1 < _; omega)).trans ((World.cell?_alloc_lt _ _ _ (by simp)).trans ((alloc_cell' _ _ _ _ j (by simp))))
      have m0 : wr.cell? ⟨w.heap.size + 1, 0, none⟩ = some (I (nth c 0)) := m 0
      have m1 : wr.cell? ⟨w.heap.size + 1, 1, none⟩ = some (I (nth c 1)) := m 1
      have m2 : wr.cell? ⟨w.heap.size + 1, 2, none⟩ = some (I (nth c 2)) := m 2
      have m3 : wr.cell? ⟨w.heap.size + 1, 3, none⟩ = some (I (nth c 3)) := m 3
      have n := fun j => (hB.cell (p := ⟨w.heap.size + 2, j, none⟩) (by show w.heap.size + 2 < _; omega)).trans ((alloc_cell' _ _ _ _ j (by simp)))
      have n0 : wr.cell? ⟨w.heap.size + 1 + 1, 0, none⟩ = some (I (nth g 0)) := n 0
      have n1 : wr.cell? ⟨w.heap.size + 1 + 1, 1, none⟩ = some (I (nth g 1)) := n 1
      have n2 : wr.cell? ⟨w.heap.size + 1 + 1, 2, none⟩ = some (I (nth g 2)) := n 2
      have n3 : wr.cell? ⟨w.heap.size + 1 + 1, 3, none⟩ = some (I (nth g 3)) := n 3
      clear m n e3
      clear l0 l1 m0 m1 m2 m3 n0 n1 n2 n3
      have b0 : wr.heap[w.heap.size]? = some (.cells #[I k, I S] 78 (0, 0)) := (hB.block _ (by omega)).trans ((Below.heap_alloc _ _ _ (by simp; omega)).trans ((Below.heap_alloc _ _ _ (by simp)).trans (alloc_obj _ _ _ rfl)))
      have b1 : wr.heap[w.heap.size + 1]? = some (.cells #[I (nth c 0), I (nth c 1), I (nth c 2), I (nth c 3)] 87 (0, 0)) := (hB.block _ (by omega)).trans ((Below.heap_alloc _ _ _ (by simp)).trans (alloc_obj _ _ _ (by simp)))
      have b2 : wr.heap[w.heap.size + 1 + 1]? = some (.cells #[I (nth g 0), I (nth g 1), I (nth g 2), I (nth g 3)] 87 (0, 0)) := (hB.block _ (by omega)).trans (alloc_obj _ _ _ (by simp))
      have Hb0 := Lib.hid b0
      have Hb1 := Lib.hid b1
      have Hb2 := Lib.hid b2
      clear b0 b1 b2
      obtain ⟨wo, hwo⟩ : ∃ wo : World, wo = wr := ⟨_, rfl⟩
      subst hwo
      go_upto_region 7 with fail
      go_cut [9, 10] (fun s9 s10 wx => ∃ g9 g10 : Nat, s9 = .pointer (some ⟨g9, 0, none⟩) ∧ s10 = .pointer (some ⟨g10, 0, none⟩) ∧ wo.heap.size ≤ g9 ∧ wo.heap.size ≤ g10 ∧ wx.heap[g9]? = some (.cells (cntArr c k) 137 (0, 0)) ∧ wx.heap[g10]? = some (.cells (cntArr g k) 137 (0, 0)) ∧ Below wo.heap.size wo wx)
      case first =>
        refine wp_region_inv (by kernel_rfl) (fun L a w' => L.size = 10 ∧ ∃ u27 u28 u29 u30 u31 u32 v9 v10 : Value,
          a = { tmps := #[lockV k S, rowV c, rowV g, .pointer (some ⟨w.heap.size, 0, none⟩), .pointer (some ⟨w.heap.size + 1, 0, none⟩), .pointer (some ⟨w.heap.size + 1 + 1, 0, none⟩), I (rgt c g k), I 0, u8, v9, v10, undef, .pointer (some ⟨w.heap.size, 0, none⟩), I k, I k, .bool false, u16, u17, u18, u19, u20, u21, u22, u23, u24, u25, u26, u27, u28, u29, u30, u31, u32, undef, undef, undef, undef, undef, undef, undef, undef, undef, undef, undef, undef, undef, undef, undef, undef, undef], defers := [] } ∧
          Below wo.heap.size wo w' ∧ (L.getD 0 false = true → u27 = lockV k S) ∧ (L.getD 1 false = true → u28 = rowV c) ∧ (L.getD 2 false = true → u29 = .agg (cntArr c k)) ∧
          (L.getD 3 false = true → u30 = lockV k S) ∧ (L.getD 4 false = true → u31 = rowV g) ∧ (L.getD 5 false = true → u32 = .agg (cntArr g k)) ∧
          (L.getD 6 false = true → ∃ g9, v9 = .pointer (some ⟨g9, 0, none⟩) ∧ wo.heap.size ≤ g9 ∧ w'.heap[g9]? = some (.cells (if L.getD 8 false then cntArr c k else cntArr c 0) 137 (0, 0))) ∧
          (L.getD 7 false = true → ∃ g10, v10 = .pointer (some ⟨g10, 0, none⟩) ∧ wo.heap.size ≤ g10 ∧ w'.heap[g10]? = some (.cells (if L.getD 9 false then cntArr g k else cntArr g 0) 137 (0, 0))) ∧
          (L.getD 6 false = true → L.getD 7 false = true → v9 ≠ v10) ∧ (L.getD 8 false = true → L.getD 6 false = true) ∧ (L.getD 9 false = true → L.getD 7 false = true)) ?_ ?_ ?_
        · exact ⟨by simp, _, _, _, _, _, _, _, _, rfl, (Below.refl _ _).drew, by simp, by simp, by simp, by simp, by simp, by simp, by simp, by simp, by simp, by simp, by simp⟩
        · rintro i L a w' ⟨hL, u27, u28, u29, u30, u31, u32, v9, v10, rfl, hbw, h0, h1, h2, h3, h4, h5, h6, h7, hne, h86, h97⟩ hi
          have hlt := ready_lt hi
          have hcases : i = 0 ∨ i = 1 ∨ i = 2 ∨ i = 3 ∨ i = 4 ∨ i = 5 ∨ i = 6 ∨ i = 7 ∨ i = 8 ∨ i = 9 := by
            have : i < 10 := hlt
            omega
          clear hlt
          rcases hcases with rfl | rfl | rfl | rfl | rfl | rfl | rfl | rfl | rfl | rfl
          · refine wpOp_of rfl rfl (wp_load_row 78 (.tmp 3) rfl (w.heap.size) rfl 78 #[I k, I S] (0, 0) _ ((hbw.block _ (by omega)).trans Hb0.out) Tryd.underlying78 rfl (by kernel_rfl) ?_)
            have s0 : (L.setIfInBounds 0 true).getD 0 false = true := set_same (by omega)
            have s1 : (L.setIfInBounds 0 true).getD 1 false = L.getD 1 false := set_other (by decide)
            have s2 : (L.setIfInBounds 0 true).getD 2 false = L.getD 2 false := set_other (by decide)
            have s3 : (L.setIfInBounds 0 true).getD 3 false = L.getD 3 false := set_other (by decide)
            have s4 : (L.setIfInBounds 0 true).getD 4 false = L.getD 4 false := set_other (by decide)
            have s5 : (L.setIfInBounds 0 true).getD 5 false = L.getD 5 false := set_other (by decide)
            have s6 : (L.setIfInBounds 0 true).getD 6 false = L.getD 6 false := set_other (by decide)
            have s7 : (L.setIfInBounds 0 true).getD 7 false = L.getD 7 false := set_other (by decide)
            have s8 : (L.setIfInBounds 0 true).getD 8 false = L.getD 8 false := set_other (by decide)
            have s9 : (L.setIfInBounds 0 true).getD 9 false = L.getD 9 false := set_other (by decide)
            refine ⟨by simpa using hL, _, _, _, _, _, _, _, _, rfl, hbw, fun _ => rfl, (by rw [s1]; exact h1), (by rw [s2]; exact h2), (by rw [s3]; exact h3), (by rw [s4]; exact h4), (by rw [s5]; exact h5), ?_, ?_, ?_, ?_, ?_⟩
            · rw [s6, s8]; exact h6
            · rw [s7, s9]; exact h7
            · rw [s6, s7]; exact hne
            · rw [s8, s6]; exact h86
            · rw [s9, s7]; exact h97
          · refine wpOp_of rfl rfl (wp_load_row 87 (.tmp 4) rfl (w.heap.size + 1) rfl 87 #[I (nth c 0), I (nth c 1), I (nth c 2), I (nth c 3)] (0, 0) _ ((hbw.block _ (by omega)).trans Hb1.out) Tryd.underlying87 rfl (by kernel_rfl) ?_)
            have s0 : (L.setIfInBounds 1 true).getD 0 false = L.getD 0 false := set_other (by decide)
            have s1 : (L.setIfInBounds 1 true).getD 1 false = true := set_same (by omega)
            have s2 : (L.setIfInBounds 1 true).getD 2 false = L.getD 2 false := set_other (by decide)
            have s3 : (L.setIfInBounds 1 true).getD 3 false = L.getD 3 false := set_other (by decide)
            have s4 : (L.setIfInBounds 1 true).getD 4 false = L.getD 4 false := set_other (by decide)
            have s5 : (L.setIfInBounds 1 true).getD 5 false = L.getD 5 false := set_other (by decide)
            have s6 : (L.setIfInBounds 1 true).getD 6 false = L.getD 6 false := set_other (by decide)
            have s7 : (L.setIfInBounds 1 true).getD 7 false = L.getD 7 false := set_other (by decide)
            have s8 : (L.setIfInBounds 1 true).getD 8 false = L.getD 8 false := set_other (by decide)
            have s9 : (L.setIfInBounds 1 true).getD 9 false = L.getD 9 false := set_other (by decide)
            refine ⟨by simpa using hL, _, _, _, _, _, _, _, _, rfl, hbw, (by rw [s0]; exact h0), fun _ => rfl, (by rw [s2]; exact h2), (by rw [s3]; exact h3), (by rw [s4]; exact h4), (by rw [s5]; exact h5), ?_, ?_, ?_, ?_, ?_⟩
            · rw [s6, s8]; exact h6
            · rw [s7, s9]; exact h7
            · rw [s6, s7]; exact hne
            · rw [s8, s6]; exact h86
            · rw [s9, s7]; exact h97
          · obtain rfl := h0 (ready_dep hi 0 (by kernel_rfl))
            obtain rfl := h1 (ready_dep hi 1 (by kernel_rfl))
            refine wpOp_of rfl rfl ?_
            refine wp_call_fn rfl rfl rfl (enters_of Tryd.func108 (by kernel_rfl) rfl) ((counts_any _ _ _ _ hW hc).mono ?_)
            rintro e w2 ⟨rfl, hb⟩
            have s0 : (L.setIfInBounds 2 true).getD 0 false = L.getD 0 false := set_other (by decide)
            have s1 : (L.setIfInBounds 2 true).getD 1 false = L.getD 1 false := set_other (by decide)
            have s2 : (L.setIfInBounds 2 true).getD 2 false = true := set_same (by omega)
            have s3 : (L.setIfInBounds 2 true).getD 3 false = L.getD 3 false := set_other (by decide)
            have s4 : (L.setIfInBounds 2 true).getD 4 false = L.getD 4 false := set_other (by decide)
            have s5 : (L.setIfInBounds 2 true).getD 5 false = L.getD 5 false := set_other (by decide)
            have s6 : (L.setIfInBounds 2 true).getD 6 false = L.getD 6 false := set_other (by decide)
            have s7 : (L.setIfInBounds 2 true).getD 7 false = L.getD 7 false := set_other (by decide)
            have s8 : (L.setIfInBounds 2 true).getD 8 false = L.getD 8 false := set_other (by decide)
            have s9 : (L.setIfInBounds 2 true).getD 9 false = L.getD 9 false := set_other (by decide)
            refine ⟨by simpa using hL, _, _, _, _, _, _, _, _, rfl, hbw.trans (hb.mono hbw.size), fun _ => rfl, fun _ => rfl, fun _ => rfl, (by rw [s3]; exact h3), (by rw [s4]; exact h4), (by rw [s5]; exact h5), ?_, ?_, ?_, ?_, ?_⟩
            · rw [s6, s8]; exact fun h => ⟨(h6 h).choose, (h6 h).choose_spec.1, (h6 h).choose_spec.2.1, (hb.block _ (row_lt (h6 h).choose_spec.2.2)).trans (h6 h).choose_spec.2.2⟩
            · rw [s7, s9]; exact fun h => ⟨(h7 h).choose, (h7 h).choose_spec.1, (h7 h).choose_spec.2.1, (hb.block _ (row_lt (h7 h).choose_spec.2.2)).trans (h7 h).choose_spec.2.2⟩
            · rw [s6, s7]; exact hne
            · rw [s8, s6]; exact h86
            · rw [s9, s7]; exact h97
          · refine wpOp_of rfl rfl (wp_load_row 78 (.tmp 3) rfl (w.heap.size) rfl 78 #[I k, I S] (0, 0) _ ((hbw.block _ (by omega)).trans Hb0.out) Tryd.underlying78 rfl (by kernel_rfl) ?_)
            have s0 : (L.setIfInBounds 3 true).getD 0 false = L.getD 0 false := set_other (by decide)
            have s1 : (L.setIfInBounds 3 true).getD 1 false = L.getD 1 false := set_other (by decide)
            have s2 : (L.setIfInBounds 3 true).getD 2 false = L.getD 2 false := set_other (by decide)
            have s3 : (L.setIfInBounds 3 true).getD 3 false = true := set_same (by omega)
            have s4 : (L.setIfInBounds 3 true).getD 4 false = L.getD 4 false := set_other (by decide)
            have s5 : (L.setIfInBounds 3 true).getD 5 false = L.getD 5 false := set_other (by decide)
            have s6 : (L.setIfInBounds 3 true).getD 6 false = L.getD 6 false := set_other (by decide)
            have s7 : (L.setIfInBounds 3 true).getD 7 false = L.getD 7 false := set_other (by decide)
            have s8 : (L.setIfInBounds 3 true).getD 8 false = L.getD 8 false := set_other (by decide)
            have s9 : (L.setIfInBounds 3 true).getD 9 false = L.getD 9 false := set_other (by decide)
            refine ⟨by simpa using hL, _, _, _, _, _, _, _, _, rfl, hbw, (by rw [s0]; exact h0), (by rw [s1]; exact h1), (by rw [s2]; exact h2), fun _ => rfl, (by rw [s4]; exact h4), (by rw [s5]; exact h5), ?_, ?_, ?_, ?_, ?_⟩
            · rw [s6, s8]; exact h6
            · rw [s7, s9]; exact h7
            · rw [s6, s7]; exact hne
            · rw [s8, s6]; exact h86
            · rw [s9, s7]; exact h97
          · refine wpOp_of rfl rfl (wp_load_row 87 (.tmp 5) rfl (w.heap.size + 1 + 1) rfl 87 #[I (nth g 0), I (nth g 1), I (nth g 2), I (nth g 3)] (0, 0) _ ((hbw.block _ (by omega)).trans Hb2.out) Tryd.underlying87 rfl (by kernel_rfl) ?_)
            have s0 : (L.setIfInBounds 4 true).getD 0 false = L.getD 0 false := set_other (by decide)
            have s1 : (L.setIfInBounds 4 true).getD 1 false = L.getD 1 false := set_other (by decide)
            have s2 : (L.setIfInBounds 4 true).getD 2 false = L.getD 2 false := set_other (by decide)
            have s3 : (L.setIfInBounds 4 true).getD 3 false = L.getD 3 false := set_other (by decide)
            have s4 : (L.setIfInBounds 4 true).getD 4 false = true := set_same (by omega)
            have s5 : (L.setIfInBounds 4 true).getD 5 false = L.getD 5 false := set_other (by decide)
            have s6 : (L.setIfInBounds 4 true).getD 6 false = L.getD 6 false := set_other (by decide)
            have s7 : (L.setIfInBounds 4 true).getD 7 false = L.getD 7 false := set_other (by decide)
            have s8 : (L.setIfInBounds 4 true).getD 8 false = L.getD 8 false := set_other (by decide)
            have s9 : (L.setIfInBounds 4 true).getD 9 false = L.getD 9 false := set_other (by decide)
            refine ⟨by simpa using hL, _, _, _, _, _, _, _, _, rfl, hbw, (by rw [s0]; exact h0), (by rw [s1]; exact h1), (by rw [s2]; exact h2), (by rw [s3]; exact h3), fun _ => rfl, (by rw [s5]; exact h5), ?_, ?_, ?_, ?_, ?_⟩
            · rw [s6, s8]; exact h6
            · rw [s7, s9]; exact h7
            · rw [s6, s7]; exact hne
            · rw [s8, s6]; exact h86
            · rw [s9, s7]; exact h97
          · obtain rfl := h3 (ready_dep hi 3 (by kernel_rfl))
            obtain rfl := h4 (ready_dep hi 4 (by kernel_rfl))
            refine wpOp_of rfl rfl ?_
            refine wp_call_fn rfl rfl rfl (enters_of Tryd.func108 (by kernel_rfl) rfl) ((counts_any _ _ _ _ hW hg).mono ?_)
            rintro e w2 ⟨rfl, hb⟩
            have s0 : (L.setIfInBounds 5 true).getD 0 false = L.getD 0 false := set_other (by decide)
            have s1 : (L.setIfInBounds 5 true).getD 1 false = L.getD 1 false := set_other (by decide)
            have s2 : (L.setIfInBounds 5 true).getD 2 false = L.getD 2 false := set_other (by decide)
            have s3 : (L.setIfInBounds 5 true).getD 3 false = L.getD 3 false := set_other (by decide)
            have s4 : (L.setIfInBounds 5 true).getD 4 false = L.getD 4 false := set_other (by decide)
            have s5 : (L.setIfInBounds 5 true).getD 5 false = true := set_same (by omega)
            have s6 : (L.setIfInBounds 5 true).getD 6 false = L.getD 6 false := set_other (by decide)
            have s7 : (L.setIfInBounds 5 true).getD 7 false = L.getD 7 false := set_other (by decide)
            have s8 : (L.setIfInBounds 5 true).getD 8 false = L.getD 8 false := set_other (by decide)
            have s9 : (L.setIfInBounds 5 true).getD 9 false = L.getD 9 false := set_other (by decide)
            refine ⟨by simpa using hL, _, _, _, _, _, _, _, _, rfl, hbw.trans (hb.mono hbw.size), (by rw [s0]; exact h0), (by rw [s1]; exact h1), (by rw [s2]; exact h2), fun _ => rfl, fun _ => rfl, fun _ => rfl, ?_, ?_, ?_, ?_, ?_⟩
            · rw [s6, s8]; exact fun h => ⟨(h6 h).choose, (h6 h).choose_spec.1, (h6 h).choose_spec.2.1, (hb.block _ (row_lt (h6 h).choose_spec.2.2)).trans (h6 h).choose_spec.2.2⟩
            · rw [s7, s9]; exact fun h => ⟨(h7 h).choose, (h7 h).choose_spec.1, (h7 h).choose_spec.2.1, (hb.block _ (row_lt (h7 h).choose_spec.2.2)).trans (h7 h).choose_spec.2.2⟩
            · rw [s6, s7]; exact hne
            · rw [s8, s6]; exact h86
            · rw [s9, s7]; exact h97
          · have hn := ready_not' hi (by omega)
            have hst : L.getD 8 false = false := by
              cases hh : L.getD 8 false
              · rfl
              · rw [h86 hh] at hn; cases hn
            refine wpOp_of rfl rfl (wp_alloc10 c rfl ?_)
            have s0 : (L.setIfInBounds 6 true).getD 0 false = L.getD 0 false := set_other (by decide)
            have s1 : (L.setIfInBounds 6 true).getD 1 false = L.getD 1 false := set_other (by decide)
            have s2 : (L.setIfInBounds 6 true).getD 2 false = L.getD 2 false := set_other (by decide)
            have s3 : (L.setIfInBounds 6 true).getD 3 false = L.getD 3 false := set_other (by decide)
            have s4 : (L.setIfInBounds 6 true).getD 4 false = L.getD 4 false := set_other (by decide)
            have s5 : (L.setIfInBounds 6 true).getD 5 false = L.getD 5 false := set_other (by decide)
            have s6 : (L.setIfInBounds 6 true).getD 6 false = true := set_same (by omega)
            have s7 : (L.setIfInBounds 6 true).getD 7 false = L.getD 7 false := set_other (by decide)
            have s8 : (L.setIfInBounds 6 true).getD 8 false = L.getD 8 false := set_other (by decide)
            have s9 : (L.setIfInBounds 6 true).getD 9 false = L.getD 9 false := set_other (by decide)
            refine ⟨by simpa using hL, _, _, _, _, _, _, _, _, rfl, hbw.alloc hbw.size _, (by rw [s0]; exact h0), (by rw [s1]; exact h1), (by rw [s2]; exact h2), (by rw [s3]; exact h3), (by rw [s4]; exact h4), (by rw [s5]; exact h5), ?_, ?_, ?_, ?_, ?_⟩
            · rw [s8, hst]; exact fun _ => ⟨w'.heap.size, rfl, hbw.size, alloc_obj _ _ _ rfl⟩
            · rw [s7, s9]; exact fun h => ⟨(h7 h).choose, (h7 h).choose_spec.1, (h7 h).choose_spec.2.1, (Below.heap_alloc _ _ _ (row_lt (h7 h).choose_spec.2.2)).trans (h7 h).choose_spec.2.2⟩
            · rw [s7]; exact fun _ h => ptr_new_ne (h7 h).choose_spec.1 (row_lt (h7 h).choose_spec.2.2)
            · rw [s8, s6]; exact fun _ => rfl
            · rw [s9, s7]; exact h97
          · have hn := ready_not' hi (by omega)
            have hst : L.getD 9 false = false := by
              cases hh : L.getD 9 false
              · rfl
              · rw [h97 hh] at hn; cases hn
            refine wpOp_of rfl rfl (wp_alloc10 g rfl ?_)
            have s0 : (L.setIfInBounds 7 true).getD 0 false = L.getD 0 false := set_other (by decide)
            have s1 : (L.setIfInBounds 7 true).getD 1 false = L.getD 1 false := set_other (by decide)
            have s2 : (L.setIfInBounds 7 true).getD 2 false = L.getD 2 false := set_other (by decide)
            have s3 : (L.setIfInBounds 7 true).getD 3 false = L.getD 3 false := set_other (by decide)
            have s4 : (L.setIfInBounds 7 true).getD 4 false = L.getD 4 false := set_other (by decide)
            have s5 : (L.setIfInBounds 7 true).getD 5 false = L.getD 5 false := set_other (by decide)
            have s6 : (L.setIfInBounds 7 true).getD 6 false = L.getD 6 false := set_other (by decide)
            have s7 : (L.setIfInBounds 7 true).getD 7 false = true := set_same (by omega)
            have s8 : (L.setIfInBounds 7 true).getD 8 false = L.getD 8 false := set_other (by decide)
            have s9 : (L.setIfInBounds 7 true).getD 9 false = L.getD 9 false := set_other (by decide)
            refine ⟨by simpa using hL, _, _, _, _, _, _, _, _, rfl, hbw.alloc hbw.size _, (by rw [s0]; exact h0), (by rw [s1]; exact h1), (by rw [s2]; exact h2), (by rw [s3]; exact h3), (by rw [s4]; exact h4), (by rw [s5]; exact h5), ?_, ?_, ?_, ?_, ?_⟩
            · rw [s6, s8]; exact fun h => ⟨(h6 h).choose, (h6 h).choose_spec.1, (h6 h).choose_spec.2.1, (Below.heap_alloc _ _ _ (row_lt (h6 h).choose_spec.2.2)).trans (h6 h).choose_spec.2.2⟩
            · rw [s9, hst]; exact fun _ => ⟨w'.heap.size, rfl, hbw.size, alloc_obj _ _ _ rfl⟩
            · rw [s6]; exact fun h _ => (ptr_new_ne (h6 h).choose_spec.1 (row_lt (h6 h).choose_spec.2.2)).symm
            · rw [s8, s6]; exact h86
            · rw [s9, s7]; exact fun _ => rfl
          · obtain rfl := h2 (ready_dep hi 2 (by kernel_rfl))
            have hal := ready_dep hi 6 (by kernel_rfl)
            obtain ⟨g', rfl, hg1, hg2⟩ := h6 hal
            refine wpOp_of rfl rfl (wp_store_row 137 (.tmp 9) (.tmp 29) rfl g' (cntArr c k) rfl rfl _ _ hg2 (by kernel_rfl) (by split <;> rfl) (cntArr_one _ _) ?_)
            have s0 : (L.setIfInBounds 8 true).getD 0 false = L.getD 0 false := set_other (by decide)
            have s1 : (L.setIfInBounds 8 true).getD 1 false = L.getD 1 false := set_other (by decide)
            have s2 : (L.setIfInBounds 8 true).getD 2 false = L.getD 2 false := set_other (by decide)
            have s3 : (L.setIfInBounds 8 true).getD 3 false = L.getD 3 false := set_other (by decide)
            have s4 : (L.setIfInBounds 8 true).getD 4 false = L.getD 4 false := set_other (by decide)
            have s5 : (L.setIfInBounds 8 true).getD 5 false = L.getD 5 false := set_other (by decide)
            have s6 : (L.setIfInBounds 8 true).getD 6 false = L.getD 6 false := set_other (by decide)
            have s7 : (L.setIfInBounds 8 true).getD 7 false = L.getD 7 false := set_other (by decide)
            have s8 : (L.setIfInBounds 8 true).getD 8 false = true := set_same (by omega)
            have s9 : (L.setIfInBounds 8 true).getD 9 false = L.getD 9 false := set_other (by decide)
            refine ⟨by simpa using hL, _, _, _, _, _, _, _, _, rfl, below_setRow hbw hg1 _, (by rw [s0]; exact h0), (by rw [s1]; exact h1), fun _ => rfl, (by rw [s3]; exact h3), (by rw [s4]; exact h4), (by rw [s5]; exact h5), ?_, ?_, ?_, ?_, ?_⟩
            · rw [s6, s8]; exact fun _ => ⟨g', rfl, hg1, setRow_heap _ _ _ _ _ _ hg2⟩
            · rw [s7, s9]; exact fun h => ⟨(h7 h).choose, (h7 h).choose_spec.1, (h7 h).choose_spec.2.1, (setRow_other _ _ _ _ (fun e => hne hal h (by rw [(h7 h).choose_spec.1, e]))).trans (h7 h).choose_spec.2.2⟩
            · rw [s6, s7]; exact hne
            · rw [s8, s6]; exact fun _ => hal
            · rw [s9, s7]; exact h97
          · obtain rfl := h5 (ready_dep hi 5 (by kernel_rfl))
            have hal := ready_dep hi 7 (by kernel_rfl)
            obtain ⟨g', rfl, hg1, hg2⟩ := h7 hal
            refine wpOp_of rfl rfl (wp_store_row 137 (.tmp 10) (.tmp 32) rfl g' (cntArr g k) rfl rfl _ _ hg2 (by kernel_rfl) (by split <;> rfl) (cntArr_one _ _) ?_)
            have s0 : (L.setIfInBounds 9 true).getD 0 false = L.getD 0 false := set_other (by decide)
            have s1 : (L.setIfInBounds 9 true).getD 1 false = L.getD 1 false := set_other (by decide)
            have s2 : (L.setIfInBounds 9 true).getD 2 false = L.getD 2 false := set_other (by decide)
            have s3 : (L.setIfInBounds 9 true).getD 3 false = L.getD 3 false := set_other (by decide)
            have s4 : (L.setIfInBounds 9 true).getD 4 false = L.getD 4 false := set_other (by decide)
            have s5 : (L.setIfInBounds 9 true).getD 5 false = L.getD 5 false := set_other (by decide)
            have s6 : (L.setIfInBounds 9 true).getD 6 false = L.getD 6 false := set_other (by decide)
            have s7 : (L.setIfInBounds 9 true).getD 7 false = L.getD 7 false := set_other (by decide)
            have s8 : (L.setIfInBounds 9 true).getD 8 false = L.getD 8 false := set_other (by decide)
            have s9 : (L.setIfInBounds 9 true).getD 9 false = true := set_same (by omega)
            refine ⟨by simpa using hL, _, _, _, _, _, _, _, _, rfl, below_setRow hbw hg1 _, (by rw [s0]; exact h0), (by rw [s1]; exact h1), (by rw [s2]; exact h2), (by rw [s3]; exact h3), (by rw [s4]; exact h4), fun _ => rfl, ?_, ?_, ?_, ?_, ?_⟩
            · rw [s6, s8]; exact fun h => ⟨(h6 h).choose, (h6 h).choose_spec.1, (h6 h).choose_spec.2.1, (setRow_other _ _ _ _ (fun e => hne h hal (by rw [(h6 h).choose_spec.1, e]))).trans (h6 h).choose_spec.2.2⟩
            · rw [s7, s9]; exact fun _ => ⟨g', rfl, hg1, setRow_heap _ _ _ _ _ _ hg2⟩
            · rw [s6, s7]; exact hne
            · rw [s8, s6]; exact h86
            · rw [s9, s7]; exact fun _ => hal
        · rintro L a w' ⟨hL, u27, u28, u29, u30, u31, u32, v9, v10, rfl, hbw, h0, h1, h2, h3, h4, h5, h6, h7, hne, h86, h97⟩ hr
          have hall := all_listed hL (by kernel_rfl) hr
          obtain ⟨g9, rfl, hg9, e9⟩ := h6 (hall 6 (by decide))
          obtain ⟨g10, rfl, hg10, e10⟩ := h7 (hall 7 (by decide))
          rw [if_pos (hall 8 (by decide))] at e9
          rw [if_pos (hall 9 (by decide))] at e10
          clear h0 h1 h2 h3 h4 h5 h6 h7 hne h86 h97 hr hall hL
          have E9 := Lib.hid e9
          have E10 := Lib.hid e10
          clear e9 e10
          dsimp only
          go_wp2_with fail
          go_meet
          exact ⟨g9, g10, rfl, rfl, hg9, hg10, E9.out, E10.out, hbw⟩
      case rest =>
        obtain ⟨g9, g10, rfl, rfl, hg9, hg10, h9, h10, hbc⟩ := hcut
        have H9 := Lib.hid h9
        have H10 := Lib.hid h10
        clear h9 h10
        go_wp2
        go_loopw [33, 7] (fun i r wr => ∃ s : Nat, s ≤ 10 ∧ i = .int .i64 s ∧ r = .int .i64 (com c g k s) ∧ Below wc.heap.size wc wr) (fun i _ _ => 10 - (intOf i).toNat)
        case atStart => exact ⟨0, by omega, rfl, rfl, Below.refl _ _⟩
        case round =>
          obtain ⟨s, hs, rfl, rfl, hX⟩ := hrel
          have q1 := com_nonneg c g k s
          have q2 := com_bound c g k s hW
          by_cases hlt : s < 10
          · have k9 : wr.cell? ⟨g9, s, none⟩ = some (I (cnt c s k)) := (hX.cell (p := ⟨g9, s, none⟩) (row_lt H9.out)).trans ((cell_of_row _ g9 s _ _ _ H9.out).trans (cntArr_at c k s (by omega) (by omega)))
            have k10 : wr.cell? ⟨g10, s, none⟩ = some (I (cnt g s k)) := (hX.cell (p := ⟨g10, s, none⟩) (row_lt H10.out)).trans ((cell_of_row _ g10 s _ _ _ H10.out).trans (cntArr_at g k s (by omega) (by omega)))
            have e1 := (cnt_bounds c s k).1
            have e2 := (cnt_bounds c s k).2
            have e3 := (cnt_bounds g s k).1
            have e4 := (cnt_bounds g s k).2
            go_wp2
            go_region
            go_wp2
            go_roundw
            case rel => exact ⟨s + 1, by omega, by go_num, ret_val (by simp only [com]; congr 1; split <;> omega), hX.drew⟩
            case measure => simp [intOf]; omega
          · obtain rfl : s = 10 := by omega
            have hcr := rgt_le_com c g k hc
            go_wp2
            go_ret2
            have hsz' := hbc.size
            have hbw : Below w.heap.size w wo := ((((Below.refl _ w).alloc (Nat.le_refl _) _).alloc (by simp) _).alloc (by simp; omega) _).trans (hB.mono (by omega))
            exact ⟨rfl, hbw.trans ((hbc.mono (by omega)).trans (hX.mono (by omega)))⟩
end Go.Proofs.YthegmomjfbcabaaDoor
/-
  CONTRACTS: first, checkCodes.
-/
namespace Go.Proofs.YthegmomjfbcabaaDoor
open Go.RowKit
def fstErr : List Int → Int
  | [] => 0
  | e :: r => if e = 0 then fstErr r else e
theorem fstErr_drop (es : List Int) (k : Nat) (hk : k < es.length) : fstErr (es.drop k) = if nth es k = 0 then fstErr (es.drop (k + 1)) else nth es k := by
  rw [List.drop_eq_getElem_cons hk, fstErr, nth_lt hk]

set_option maxHeartbeats 400000 in
theorem first_any (A : Option Addr) (c : Nat) (es : List Int) (w : World) (hx : IntsR w w.heap.size A es) (hl : es.length ≤ maxLen) :
    Calls Tryd.prog 63 #[.slice A es.length c] w fun e w' => e = .returned (.int .i64 (fstErr es)) ∧ w = w' := by
  unfold maxLen at hl
  go_enter Tryd.func63, Tryd.ntmps63
  go_wp2
  go_loop [7] (fun i => ∃ k : Nat, k ≤ es.length ∧ i = .int .i64 k ∧ Hid (fstErr es = fstErr (es.drop k))) (fun i => es.length - (intOf i).toNat)
  case atStart => exact ⟨0, Nat.zero_le _, rfl, Lib.hid rfl⟩
  case round =>
    obtain ⟨k, hk, rfl, hall⟩ := hrel
    by_cases hlt : k < es.length
    · obtain ⟨ad, rfl, hb, hc⟩ := hx.at_ hlt
      have hd := Lib.hid (fstErr_drop es k hlt)
      by_cases he : nth es k = 0
      · have hb0 : (nth es k != 0) = false := by simp [he]
        have HE := Lib.hid he
        clear he
        go_wp2
        go_round
        case rel => exact ⟨k + 1, by omega, by go_num, Lib.hid (by rw [hall.out, hd.out, if_pos HE.out])⟩
        case measure => simp [intOf]; omega
      · have hb0 : (nth es k != 0) = true := by simpa using he
        have HE := Lib.hid he
        clear he
        go_wp2
        go_ret
        exact ⟨ret_int (by rw [hall.out, hd.out, if_neg HE.out]), rfl⟩
    · obtain rfl : k = es.length := by omega
      go_wp2
      go_ret
      exact ⟨ret_int (by rw [hall.out, List.drop_length]; rfl), rfl⟩

/-- a slice of slices of integers -/
def SlsR (w : World) (B : Nat) (A : Option Addr) (xss : List (List Int)) : Prop :=
  0 < xss.length → ∃ ad, A = some ad ∧ ad.block < B ∧ ∀ j (h : j < xss.length), ∃ A' c', w.cell? (ad.add j) = some (.slice A' (xss[j]).length c') ∧ IntsR w B A' xss[j] ∧ (xss[j]).length ≤ maxLen
theorem SlsR.below {w w' : World} {B B' : Nat} {A : Option Addr} {xss : List (List Int)} (h : SlsR w B A xss) (hb : Below B' w w') (hB : B ≤ B') : SlsR w' B A xss := fun h0 => by
  obtain ⟨ad, e, hl, hc⟩ := h h0
  refine ⟨ad, e, hl, fun j hj => ?_⟩
  obtain ⟨A', c', h1, h2, h3⟩ := hc j hj
  exact ⟨A', c', (hb.cell (by rw [block_of_add]; omega)).trans h1, h2.below hb hB, h3⟩
theorem SlsR.more {w : World} {B B' : Nat} {A : Option Addr} {xss : List (List Int)} (h : SlsR w B A xss) (hB : B ≤ B') : SlsR w B' A xss := fun h0 => by
  obtain ⟨ad, e, hl, hc⟩ := h h0
  refine ⟨ad, e, by omega, fun j hj => ?_⟩
  obtain ⟨A', c', h1, h2, h3⟩ := hc j hj
  exact ⟨A', c', h1, h2.more hB, h3⟩
theorem kept_ints {w1 W : World} {A : Option Addr} {x : List Int} (h : KeptS w1 W) (hx : IntsR w1 w1.heap.size A x) : IntsR W W.heap.size A x := (hx.below h.1 (Nat.le_refl _)).more h.1.size
theorem ints_call {w1 W : World} {A : Option Addr} {x : List Int} (h : Below w1.heap.size w1 W) (hx : IntsR w1 w1.heap.size A x) : IntsR W W.heap.size A x := (hx.below h (Nat.le_refl _)).more h.size
theorem sls_call {w1 W : World} {A : Option Addr} {x : List (List Int)} (h : Below w1.heap.size w1 W) (hx : SlsR w1 w1.heap.size A x) : SlsR W W.heap.size A x := (hx.below h (Nat.le_refl _)).more h.size
/-- integers in a new block -/
theorem ints_new (w : World) (xs : List Int) (t : TypeId) : IntsR (w.alloc (.cells (xs.map I).toArray t)) (w.alloc (.cells (xs.map I).toArray t)).heap.size (some ⟨w.heap.size, 0, none⟩) xs := fun _ => by
  refine ⟨_, rfl, by simp, fun j hj => ?_⟩
  have : (⟨w.heap.size, 0, none⟩ : Addr).add j = ⟨w.heap.size, j, none⟩ := by unfold Addr.add; split <;> simp_all
  rw [this, alloc_cell, nth_lt hj]
  simp [hj]
theorem all_take_snocL {α : Type} (p : α → Bool) (xs : List α) (k : Nat) (hk : k < xs.length) (h : (xs.take k).all p = true) (hp : p xs[k] = true) : (xs.take (k + 1)).all p = true := by
  rw [List.take_succ_eq_append_getElem hk, List.all_append, h]
  simpa using hp
theorem not_allL {α : Type} (p : α → Bool) (xs : List α) (k : Nat) (hk : k < xs.length) (hp : p xs[k] = false) : xs.all p = false := by
  rw [List.all_eq_false]
  exact ⟨_, List.getElem_mem hk, by simpa using hp⟩
def codesErr (W S : Int) (xss : List (List Int)) : Int := if xss.all (codeB W S) then 0 else 12

set_option maxHeartbeats 400000 in
theorem checkCodes_any (W S : Int) (A : Option Addr) (c : Nat) (xss : List (List Int)) (w : World) (hx : SlsR w w.heap.size A xss) (hl : xss.length ≤ maxLen) :
    Calls Tryd.prog 66 #[lockV W S, .slice A xss.length c] w fun e w' => e = .returned (.int .i64 (codesErr W S xss)) ∧ Below w.heap.size w w' := by
  unfold maxLen at hl
  go_enter Tryd.func66, Tryd.ntmps66
  go_wp2
  go_loopw [9] (fun i wr => ∃ k : Nat, k ≤ xss.length ∧ i = .int .i64 k ∧ Hid ((xss.take k).all (codeB W S) = true) ∧ Below (w.heap.size + 1) (w.alloc (.cells #[.int .i64 W, .int .i64 S] 78)) wr) (fun i _ => xss.length - (intOf i).toNat)
  case atStart => exact ⟨0, Nat.zero_le _, rfl, rfl, Below.refl _ _⟩
  case round =>
    obtain ⟨k, hk, rfl, HA, hB⟩ := hrel
    have c0 := box_later hB (by omega) 0
    have c1 := box_later hB (by omega) 1
    have hbw : Below w.heap.size w wr := ((Below.refl _ w).alloc (Nat.le_refl _) _).trans (hB.mono (by omega))
    have hx' := hx.below hbw (Nat.le_refl _)
    have hsz := hbw.size
    clear hx
    by_cases hlt : k < xss.length
    · obtain ⟨ad, rfl, hb, hc⟩ := hx' (by omega)
      obtain ⟨A', c', hc1, hc2, hc3⟩ := hc k hlt
      have hc2' := hc2.more hsz
      clear hc hx'
      generalize hxs : xss[k] = xs at hc1 hc2 hc2' hc3
      have HX := Lib.hid hxs
      clear hxs
      cases hp : codeB W S xs
      · have h2 : codesErr W S xss = 12 := by rw [codesErr, not_allL (codeB W S) xss k hlt (by rw [HX.out]; exact hp)]; rfl
        have H2 := Lib.hid h2
        clear h2
        go_wp2_with (go_at_call 105; refine (hasCode_any _ _ _ _ _ _ hc2' hc3).mono ?_; rintro e w' ⟨rfl, hb2⟩)
        go_ret
        exact ⟨ret_int H2.out.symm, hbw.trans (hb2.mono (by omega))⟩
      · go_wp2_with (go_at_call 105; refine (hasCode_any _ _ _ _ _ _ hc2' hc3).mono ?_; rintro e w' ⟨rfl, hb2⟩)
        go_roundw
        case rel => exact ⟨k + 1, by omega, by go_num, Lib.hid (all_take_snocL _ xss k hlt HA.out (by rw [HX.out]; exact hp)), hB.trans (hb2.mono (by have := hB.size; simp at this; omega))⟩
        case measure => simp [intOf]; omega
    · obtain rfl : k = xss.length := by omega
      rw [List.take_length] at HA
      go_wp2
      go_ret
      exact ⟨ret_int (by rw [codesErr, HA.out]; rfl), hbw⟩
end Go.Proofs.YthegmomjfbcabaaDoor

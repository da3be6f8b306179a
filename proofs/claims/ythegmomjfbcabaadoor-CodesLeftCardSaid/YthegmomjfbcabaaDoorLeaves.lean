/-
  CONTRACT: lock.leaves.
-/
import Derived.Test.YthegmomjfbcabaaDoorNxtPure
namespace Go.Proofs.YthegmomjfbcabaaDoor
open Go.RowKit Go.Shelf
/-- a slice of rows -/
def RowsR (w : World) (B : Nat) (A : Option Addr) (L : List (List Int)) : Prop :=
  0 < L.length → ∃ g o : Nat, A = some ⟨g, o, none⟩ ∧ g < B ∧ ∀ j (h : j < L.length) (i : Nat), i < 4 → w.cell? ⟨g, o + j * 4 + i, none⟩ = some (I (nth L[j] i))
theorem RowsR.below {w w' : World} {B B' : Nat} {A : Option Addr} {L : List (List Int)} (h : RowsR w B A L) (hb : Below B' w w') (hB : B ≤ B') : RowsR w' B A L := fun h0 => by
  obtain ⟨g, o, e, hl, hc⟩ := h h0
  exact ⟨g, o, e, hl, fun j hj i hi => (hb.cell (p := ⟨g, o + j * 4 + i, none⟩) (by show g < _; omega)).trans (hc j hj i hi)⟩
theorem RowsR.more {w : World} {B B' : Nat} {A : Option Addr} {L : List (List Int)} (h : RowsR w B A L) (hB : B ≤ B') : RowsR w B' A L := fun h0 => by
  obtain ⟨g, o, e, hl, hc⟩ := h h0
  exact ⟨g, o, e, by omega, hc⟩
theorem rows_call {w w' : World} {A : Option Addr} {L : List (List Int)} (hb : Below w.heap.size w w') (h : RowsR w w.heap.size A L) : RowsR w' w'.heap.size A L := (h.below hb (Nat.le_refl _)).more hb.size

set_option maxRecDepth 100000 in
set_option maxHeartbeats 2000000 in
theorem leaves_any (W : Nat) (S : Int) (hW4 : W ≤ 4) (g : List Int) (hg : Sym g W) (L : List (List Int)) (hS : ∀ x, x ∈ L → Sym x W) (hn : L.length ≤ 200) (A : Option Addr) (c : Nat) (w : World) (hr : RowsR w w.heap.size A L) :
    Calls Tryd.prog 95 #[lockV W S, rowV g, .slice A L.length c] w fun e w' => e = .returned (I (mst (anN W g) L : Nat)) ∧ Below w.heap.size w w' := by
  go_enter Tryd.func95, Tryd.ntmps95
  go_wp2_with fail
  obtain ⟨w1, hw1⟩ : ∃ w1, w1 = ((w.alloc (.cells #[I W, I S] 78)).alloc (.cells #[I (nth g 0), I (nth g 1), I (nth g 2), I (nth g 3)] 87)).alloc (.cells #[I 0, I 0, I 0, I 0, I 0, I 0, I 0, I 0, I 0, I 0, I 0, I 0, I 0, I 0, I 0, I 0, I 0, I 0, I 0, I 0, I 0, I 0, I 0, I 0, I 0] 149) := ⟨_, rfl⟩
  rw [← hw1]
  have hb1 : Below w.heap.size w w1 := by rw [hw1]; exact three_boxes' _ _ _ _
  have hs1 : w1.heap.size = w.heap.size + 3 := by rw [hw1]; simp
  have z0 : w1.heap[w.heap.size]? = some (.cells #[I W, I S] 78 (0, 0)) := by
    rw [hw1]; exact (Below.heap_alloc _ _ _ (by simp; omega)).trans ((Below.heap_alloc _ _ _ (by simp)).trans (alloc_obj _ _ _ rfl))
  have z1 : w1.heap[w.heap.size + 1]? = some (.cells #[I (nth g 0), I (nth g 1), I (nth g 2), I (nth g 3)] 87 (0, 0)) := by
    rw [hw1]; exact (Below.heap_alloc _ _ _ (by simp)).trans (alloc_obj _ _ _ (by simp))
  have z2 : w1.heap[w.heap.size + 1 + 1]? = some (.cells (Array.replicate 25 (I 0)) 149 (0, 0)) := by rw [hw1]; exact alloc_obj _ _ _ (by simp)
  have hr0 : w1.rowIs (w.heap.size + 1 + 1) 149 25 (fun q => I ((cntF (anN W g) q (L.take 0) : Nat) : Int)) := ⟨_, z2, by simp, fun i hi => by simp [hi, cntF]⟩
  have Z0 := Lib.hid z0
  have Z1 := Lib.hid z1
  have HS1 := Lib.hid hs1
  have hs1' : w.heap.size + 2 < w1.heap.size := by omega
  clear hw1 z0 z1 z2 hs1
  go_loopw [8, 15] (fun m i wr => ∃ k mm : Nat, k ≤ L.length ∧ i = .int .i64 k ∧ m = .int .i64 mm ∧ Hid (IsMost (anN W g) (L.take k) mm) ∧ wr.rowIs (w.heap.size + 1 + 1) 149 25 (fun q => I ((cntF (anN W g) q (L.take k) : Nat) : Int)) ∧ w1.grownBy wr (some (w.heap.size + 1 + 1))) (fun _ i _ => L.length - (intOf i).toNat)
  case atStart => exact ⟨0, 0, Nat.zero_le _, rfl, rfl, Lib.hid (isMost_nil _), hr0, World.grownBy.refl _ _⟩
  case round =>
    obtain ⟨k, mm, hk, rfl, rfl, HM, hrw, hG⟩ := hrel
    have hbw : Below w.heap.size w wr := hb1.trans ((below_grown hG (by omega)).mono (by omega))
    have hgs := hG.size
    have t0 : w.heap.size < wr.heap.size := by omega
    have t1 : w.heap.size + 1 < wr.heap.size := by omega
    have t2 : w.heap.size + 1 + 1 < wr.heap.size := by omega
    by_cases hlt : k < L.length
    · have y0 := (hG.block w.heap.size (by omega) (fun e => by injection e with e; omega)).trans Z0.out
      have y1 := (hG.block (w.heap.size + 1) (by omega) (fun e => by injection e with e; omega)).trans Z1.out
      have l0 : wr.cell? ⟨w.heap.size, 0, none⟩ = some (I W) := cell_of_row wr _ 0 _ _ _ y0
      have l1 : wr.cell? ⟨w.heap.size, 1, none⟩ = some (I S) := cell_of_row wr _ 1 _ _ _ y0
      have g0 : wr.cell? ⟨w.heap.size + 1, 0, none⟩ = some (I (nth g 0)) := cell_of_row wr _ 0 _ _ _ y1
      have g1 : wr.cell? ⟨w.heap.size + 1, 1, none⟩ = some (I (nth g 1)) := cell_of_row wr _ 1 _ _ _ y1
      have g2 : wr.cell? ⟨w.heap.size + 1, 2, none⟩ = some (I (nth g 2)) := cell_of_row wr _ 2 _ _ _ y1
      have g3 : wr.cell? ⟨w.heap.size + 1, 3, none⟩ = some (I (nth g 3)) := cell_of_row wr _ 3 _ _ _ y1
      obtain ⟨gb, go, rfl, hgb, hc⟩ := (rows_call hbw hr) (by omega)
      have hxS := hS L[k] (List.getElem_mem hlt)
      have hsn : L.take (k + 1) = L.take k ++ [L[k]] := List.take_succ_eq_append_getElem hlt
      have hkl : (L.take k).length = k := by rw [List.length_take]; omega
      have d0 : wr.cell? ⟨gb, go + k * 4, none⟩ = some (I (nth L[k] 0)) := hc k hlt 0 (by decide)
      have d1 : wr.cell? ⟨gb, go + k * 4 + 1, none⟩ = some (I (nth L[k] 1)) := hc k hlt 1 (by decide)
      have d2 : wr.cell? ⟨gb, go + k * 4 + 2, none⟩ = some (I (nth L[k] 2)) := hc k hlt 2 (by decide)
      have d3 : wr.cell? ⟨gb, go + k * 4 + 3, none⟩ = some (I (nth L[k] 3)) := hc k hlt 3 (by decide)
      generalize hx : L[k] = x at *
      obtain ⟨r, m, e1, e2, hrm, e3⟩ := an_parts hW4 (g := g) hxS
      obtain ⟨cn, hcn⟩ : ∃ cn, cn = cntF (anN W g) (r * 5 + m) (L.take k) := ⟨_, rfl⟩
      have hcn2 : cn ≤ 200 := by
        have := cntF_le (anN W g) (r * 5 + m) (L.take k)
        omega
      have hcn3 : ∀ q, cntF (anN W g) q (L.take (k + 1)) = if q = r * 5 + m then cn + 1 else cntF (anN W g) q (L.take k) := fun q => by
        rw [hsn, cntF_snoc, e3]
        by_cases e : q = r * 5 + m
        · subst e; rw [if_pos rfl, if_pos rfl, hcn]
        · rw [if_neg (fun h => e h.symm), if_neg e]; omega
      have hnew := isMost_snoc HM.out x
      rw [← hsn, e3, hcn3, if_pos rfl] at hnew
      have HNEW := Lib.hid hnew
      have HCN3 := Lib.hid hcn3
      have HCN := Lib.hid hcn
      have HE := Lib.hid (And.intro e1 e2)
      have HX := Lib.hid hxS
      clear hx hc hsn hnew hcn3 hcn e1 e2 e3 y0 y1 hkl hxS HM
      go_wp2_with fail
      refine (answer_any W S x g _ hW4 HX.out hg).mono ?_
      rintro e w2 ⟨rfl, hb2⟩
      rw [HE.out.2, HE.out.1]
      have hbr : Below wr.heap.size wr w2 := ((Below.refl _ _).alloc (Nat.le_refl _) _).trans (hb2.mono (by simp))
      have hrw2 := hrw.of_block (hbr.block _ (by omega))
      have c1 : w2.cell? ⟨w.heap.size + 1 + 1, r * 5 + m, none⟩ = some (I (cn : Int)) := by
        rw [HCN.out]; exact hrw2.cell (i := r * 5 + m) (by omega)
      have c2 := hrw2.frozen (r * 5 + m)
      have hG2 : w1.grownBy w2 (some (w.heap.size + 1 + 1)) := low_grown hG (hbr.mono (by omega))
      clear hb2 hrw d0 d1 d2 d3 g0 g1 g2 g3 l0 l1
      go_wp2_with fail
      go_region
      obtain ⟨w3, hw3⟩ : ∃ w3, w3 = (w2.setCell ⟨w.heap.size + 1 + 1, r * 5 + m, none⟩ (.int .i64 ((cn : Int) + 1))).drew := ⟨_, rfl⟩
      rw [← hw3]
      have hrw3 : w3.rowIs (w.heap.size + 1 + 1) 149 25 (fun q => I ((cntF (anN W g) q (L.take (k + 1)) : Nat) : Int)) := by
        rw [hw3]
        refine ((hrw2.set (r * 5 + m) (.int .i64 ((cn : Int) + 1))).drew).congr (fun q _ => ?_)
        rw [HCN3.out q]
        split
        · simp
        · rfl
      have hG3 : w1.grownBy w3 (some (w.heap.size + 1 + 1)) := by rw [hw3]; exact only_drew (only_setCell hG2 (.inl rfl) _)
      have c3 : w3.cell? ⟨w.heap.size + 1 + 1, r * 5 + m, none⟩ = some (I ((cn : Int) + 1)) := by
        refine (hrw3.cell (i := r * 5 + m) (by omega)).trans ?_
        rw [HCN3.out, if_pos rfl]
        simp
      have ec : ((cn + 1 : Nat) : Int) = (cn : Int) + 1 := by omega
      clear hw3 c1 c2 hrw2 hG2 hbr
      by_cases hmx : (mm : Int) < (cn : Int) + 1
      · have hmx2 : max mm (cn + 1) = cn + 1 := by omega
        have HMX := Lib.hid hmx2
        clear hmx2
        go_wp2
        go_roundw
        case rel => exact ⟨k + 1, cn + 1, by omega, by go_num, by rw [ec], by have := HNEW.out; rw [HMX.out] at this; exact Lib.hid this, hrw3, hG3⟩
        case measure => simp [intOf]; omega
      · have hmx2 : max mm (cn + 1) = mm := by omega
        have HMX := Lib.hid hmx2
        clear hmx2
        go_wp2
        go_roundw
        case rel => exact ⟨k + 1, mm, by omega, by go_num, rfl, by have := HNEW.out; rw [HMX.out] at this; exact Lib.hid this, hrw3, hG3⟩
        case measure => simp [intOf]; omega
    · obtain rfl : k = L.length := by omega
      have hm := HM.out
      rw [List.take_length] at hm
      have HM2 := Lib.hid (mst_of hm)
      clear hm
      go_wp2
      go_ret
      exact ⟨ret_int (by rw [HM2.out]), hbw⟩
end Go.Proofs.YthegmomjfbcabaaDoor

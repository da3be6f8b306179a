/-
  CONTRACT: lock.code: a row as a list in new memory.
-/
import Derived.Test.YthegmomjfbcabaaDoorRAll
namespace Go.Proofs.YthegmomjfbcabaaDoor
open Go.RowKit Go.Shelf
theorem splice_full (W : Nat) (x : List Int) (hx : x.length = W) : splice (List.replicate W (I 0)) 0 (x.map I) = x.map I := by
  simp [splice, hx]
theorem three_boxes' (w : World) (a b c : Obj) : Below w.heap.size w (((w.alloc a).alloc b).alloc c) := (two_boxes w a b).alloc (by simp; omega) _
theorem row_src {w : World} {g : Nat} {x : List Int} (hx4 : x.length ≤ 4) (h : ∀ i, i < 4 → w.cell? ⟨g, i, none⟩ = some (I (nth x i))) : ∀ (j : Nat) (a : Int), x[j]? = some a → w.cell? ⟨g, j, none⟩ = some (I a) := by
  intro j a ha
  obtain ⟨hj, e⟩ := List.getElem?_eq_some_iff.1 ha
  rw [h j (by omega), nth_lt hj, e]

set_option maxRecDepth 100000 in
set_option maxHeartbeats 1000000 in
theorem code_any (W : Nat) (S : Int) (hW4 : W ≤ 4) (x : List Int) (hx : x.length = W) (w : World) :
    Calls Tryd.prog 79 #[lockV W S, rowV x] w fun e w' => ∃ v, e = .returned v ∧ w'.ownsRow w.heap.size 3 1 v x.length (x.map I) ∧ Below w.heap.size w w' := by
  have hmk := run_make_row' (P := Tryd.prog) 24 3 (.int .i64 0) 8 Tryd.underlying24 info_int rfl .i64 .i64 W (by omega) (by omega)
  simp only [made_zeros] at hmk
  have HX := Lib.hid hx
  clear hx
  go_enter Tryd.func79, Tryd.ntmps79
  go_upto_region 2 with fail
  obtain ⟨w2, hw2⟩ : ∃ w2, w2 = ((w.alloc (.cells #[I W, I S] 78)).alloc (.cells #[I (nth x 0), I (nth x 1), I (nth x 2), I (nth x 3)] 87)).alloc (.cells (Array.replicate W (I 0)) 3) := ⟨_, rfl⟩
  rw [← hw2]
  have hb2 : Below w.heap.size w w2 := by rw [hw2]; exact three_boxes' _ _ _ _
  have hg2 : w2.heap[w.heap.size + 1 + 1]? = some (.cells (List.replicate W (I 0)).toArray 3 (0, 0)) := by rw [hw2]; refine (alloc_obj _ _ _ (by simp)).trans ?_; simp
  have hs2 : w2.heap.size = w.heap.size + 3 := by rw [hw2]; simp
  have hr2 : ∀ i, i < 4 → w2.cell? ⟨w.heap.size + 1, i, none⟩ = some (I (nth x i)) := fun i hi => by rw [hw2]; exact (World.cell?_alloc_lt _ _ _ (by simp)).trans ((alloc_cell' _ _ _ _ i (by simp)).trans (rowCells_at x i hi))
  clear hw2
  go_wp2_with (with_reducible show wpList _ _ _ (⟨some 11, _, _, _, _, _⟩ :: _) _ _; go_must (refine wpList_copy_splice rfl (.tmp 9) (.tmp 10) 24 24 rfl 3 Tryd.underlying24 info3 _ _ _ _ _ _ rfl rfl (w.heap.size + 1 + 1) 0 (List.replicate W (I 0)) 3 ?c1 (x.map I) ?c2 ?c3 ?c4 ?c5 (w.heap.size + 1 + 1) w2 ?c6 ?c7 ?_); rotate_right; intro w3 hg3 hb3)
  case c1 => exact hg2
  case c2 => rw [List.length_map, HX.out]; exact (Nat.min_eq_right hW4).symm
  case c3 => exact fun _ => row_src (by rw [HX.out]; exact hW4) hr2
  case c4 => simp [HX.out]
  case c5 => simp [Value.oneCell']
  case c6 => exact Below.refl _ _
  case c7 => exact Nat.le_refl _
  have hg := hg3.out
  rw [splice_full W x HX.out] at hg
  have ho := own_block (base := w.heap.size) hg (by omega) (by rw [HX.out]; unfold maxLen; omega)
  rw [HX.out] at ho
  go_ret
  exact ⟨_, rfl, by rw [HX.out]; exact ho, hb2.trans (hb3.mono (by omega))⟩
end Go.Proofs.YthegmomjfbcabaaDoor

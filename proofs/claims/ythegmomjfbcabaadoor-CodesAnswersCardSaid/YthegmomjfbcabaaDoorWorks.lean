/-
  CONTRACT: works.
-/
import Derived.Test.YthegmomjfbcabaaDoorCount
namespace Go.Proofs.YthegmomjfbcabaaDoor
open Go.RowKit Go.Shelf
def wcs : List Cl := [⟨2, 0, 2, 4, 0, [], false⟩, ⟨3, 0, 1, 0, 0, [], false⟩]
set_option maxRecDepth 100000 in
theorem works_E : cntE 3 4 wcs = 0 := by decide +kernel
set_option maxRecDepth 100000 in
theorem works_N : cntN 3 4 wcs = 5 := by
  rw [cntN, if_pos works_E]
  decide +kernel
theorem works_e : ansE 3 4 [0, 3, 1] [3, 3, 0] = 0 := by decide +kernel
theorem works_r : ansR 3 4 [0, 3, 1] [3, 3, 0] = 1 := by decide +kernel
theorem works_c : ansC 3 4 [0, 3, 1] [3, 3, 0] = 1 := by decide +kernel
set_option maxRecDepth 100000 in
set_option maxHeartbeats 2000000 in
theorem works_any (w : World) (hT : Tab w) :
    Calls Tryd.prog 27 #[] w fun e w' => e = .returned (.bool true) ∧ Below w.heap.size w w' := by
  go_enter Tryd.func27, Tryd.ntmps27
  go_wp2_with fail
  obtain ⟨w1, hw1⟩ : ∃ w1, w1 = (w.alloc (.cells #[I 3, I 4] 23)).alloc (.cells #[I 2, I 0, I 2, I 4, I 0, .slice none 0 0, .bool false, I 3, I 0, I 1, I 0, I 0, .slice none 0 0, .bool false] 26) := ⟨_, rfl⟩
  rw [← hw1]
  have hb1 : Below w.heap.size w w1 := by rw [hw1]; exact ((Below.refl _ _).alloc (Nat.le_refl _) _).alloc (by simp) _
  have hs1 : w.heap.size < w1.heap.size := by rw [hw1]; simp; omega
  have l0 : w1.cell? ⟨w.heap.size, 0, none⟩ = some (I 3) := by rw [hw1]; exact (World.cell?_alloc_lt _ _ _ (by simp)).trans (alloc_cell _ _ _ 0)
  have l1 : w1.cell? ⟨w.heap.size, 1, none⟩ = some (I 4) := by rw [hw1]; exact (World.cell?_alloc_lt _ _ _ (by simp)).trans (alloc_cell _ _ _ 1)
  have hx : ClsR w1 w1.heap.size (some ⟨w.heap.size + 1, 0, none⟩) wcs := fun _ => by
    refine ⟨_, _, rfl, by rw [hw1]; simp, fun j hj => ⟨none, 0, fun i v hv => ?_, ?_⟩⟩
    · rw [hw1]
      have hi : i < 7 := (Array.getElem?_eq_some_iff.1 hv).1
      refine (alloc_cell' _ _ _ _ _ (by simp)).trans (Eq.trans ?_ hv)
      match j, hj, i, hi with
      | 0, _, 0, _ => rfl
      | 0, _, 1, _ => rfl
      | 0, _, 2, _ => rfl
      | 0, _, 3, _ => rfl
      | 0, _, 4, _ => rfl
      | 0, _, 5, _ => rfl
      | 0, _, 6, _ => rfl
      | 1, _, 0, _ => rfl
      | 1, _, 1, _ => rfl
      | 1, _, 2, _ => rfl
      | 1, _, 3, _ => rfl
      | 1, _, 4, _ => rfl
      | 1, _, 5, _ => rfl
      | 1, _, 6, _ => rfl
    · have : wcs[j].guess = [] := by
        match j, hj with
        | 0, _ => rfl
        | 1, _ => rfl
      rw [this]
      exact ⟨fun h => absurd h (by simp), by simp [maxLen]⟩
  have hT1 := hT.below (hb1.mono (Nat.le_refl _))
  clear hw1
  refine (Count_any 3 4 (some ⟨w.heap.size + 1, 0, none⟩) 2 wcs w1 hT1 hx (by simp [maxLen, wcs])).mono ?_
  rintro e w2 ⟨rfl, hb2⟩
  rw [works_E, works_N]
  have m0 := (hb2.cell (p := ⟨w.heap.size, 0, none⟩) hs1).trans l0
  have m1 := (hb2.cell (p := ⟨w.heap.size, 1, none⟩) hs1).trans l1
  have hs2 := hb2.size
  have hs2' : w.heap.size < w2.heap.size := by omega
  have hbb : Below w.heap.size w w2 := hb1.trans (hb2.mono (by omega))
  clear l0 l1 hx hb2 hb1
  go_wp2_with fail
  have hx : IntsR ((w2.alloc (.cells #[I 0, I 3, I 1] 3)).alloc (.cells #[I 3, I 3, I 0] 3)) ((w2.alloc (.cells #[I 0, I 3, I 1] 3)).alloc (.cells #[I 3, I 3, I 0] 3)).heap.size (some ⟨w2.heap.size, 0, none⟩) [0, 3, 1] :=
    ints_call ((Below.refl _ _).alloc (Nat.le_refl _) _) (ints_new w2 [0, 3, 1] 3)
  have hy : IntsR ((w2.alloc (.cells #[I 0, I 3, I 1] 3)).alloc (.cells #[I 3, I 3, I 0] 3)) ((w2.alloc (.cells #[I 0, I 3, I 1] 3)).alloc (.cells #[I 3, I 3, I 0] 3)).heap.size (some ⟨w2.heap.size + 1, 0, none⟩) [3, 3, 0] := by
    have := ints_new (w2.alloc (.cells #[I 0, I 3, I 1] 3)) [3, 3, 0] 3
    simp only [World.size_alloc] at this
    simp only [World.size_alloc]
    exact this
  refine (Answer_any 3 4 _ _ 3 3 [0, 3, 1] [3, 3, 0] _ hx hy (by simp [maxLen]) (by simp [maxLen])).mono ?_
  rintro e w3 ⟨rfl, hb3⟩
  rw [works_r, works_c, works_e]
  have hbc : Below w.heap.size w w3 := ((hbb.alloc (by omega) _).alloc (by simp; omega) _).trans (hb3.mono (by simp; omega))
  clear hx hy hb3
  go_wp2
  go_ret
  exact ⟨rfl, hbc⟩
end Go.Proofs.YthegmomjfbcabaaDoor

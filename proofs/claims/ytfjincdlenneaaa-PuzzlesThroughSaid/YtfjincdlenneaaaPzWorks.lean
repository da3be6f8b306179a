/-
  CONTRACT: works, the look at the examples.
-/
import Derived.Test.YtfjincdlenneaaaPzSame
import Derived.Test.YtfjincdlenneaaaPzC
namespace Go.Proofs.Ytfjincdlenneaaa
open Go.RowKit Go.Shelf
theorem wk_shift : (⟨(shS 3 ⟨#[107, 101, 121, 32, 116, 111, 32, 114, 101, 100]⟩).toArray⟩ : ByteArray) = ⟨#[110, 104, 98, 32, 119, 114, 32, 117, 104, 103]⟩ := by
  have h : shS 3 ⟨#[107, 101, 121, 32, 116, 111, 32, 114, 101, 100]⟩ = [110, 104, 98, 32, 119, 114, 32, 117, 104, 103] := by decide +kernel
  rw [h]
theorem wk_E : wghE [1, 3, 9] 5 = 0 := by decide +kernel
theorem wk_L : wghL [1, 3, 9] 5 = [-1, -1, 1] := by decide +kernel
theorem wk_N : nextV [1, 4, 9, 16] = .tuple #[I 25, I 2, I 0] := by
  have h1 : seqB [1, 4, 9, 16] = true := by decide +kernel
  have h2 : nxt 4 [1, 4, 9, 16] = some (25, 2) := by decide +kernel
  rw [nextV, if_pos h1]
  exact (congrArg (fun o : Option (Int × Nat) => match o with | some r => Value.tuple #[I r.1, I (r.2 : Nat), I 0] | none => .tuple #[I 0, I 0, I 3]) h2)

set_option maxRecDepth 100000 in
set_option maxHeartbeats 2000000 in
theorem works_any (w : World) :
    Calls Try.prog 18 #[] w fun e w' => e = .returned (.bool true) ∧ Below w.heap.size w w' := by
  go_enter Try.func18, Try.ntmps18
  go_wp2_with fail
  refine (pShift_ok 3 ⟨#[107, 101, 121, 32, 116, 111, 32, 114, 101, 100]⟩ w (by decide) (by decide) (by decide)).mono ?_
  rintro e w1 ⟨rfl, hb1⟩
  rw [wk_shift]
  go_wp2_with fail
  have hx : IntsR (w1.alloc (.cells #[I 1, I 3, I 9] 3)) (w1.alloc (.cells #[I 1, I 3, I 9] 3)).heap.size (some ⟨w1.heap.size, 0, none⟩) [1, 3, 9] := ints_new w1 [1, 3, 9] 3
  refine (Weigh_any (some ⟨w1.heap.size, 0, none⟩) 3 [1, 3, 9] 5 _ hx (by simp [maxLen])).mono ?_
  rintro e w2 ⟨A2, c2, rfl, hi, hm, hb2⟩
  rw [wk_L] at hi
  rw [wk_L, wk_E]
  have hB2 : Below w.heap.size w w2 := hb1.trans (((Below.refl _ _).alloc hb1.size _).trans (hb2.mono (by have := hb1.size; simp; omega)))
  clear hx hb2 hm
  go_wp2_with fail
  have hx : IntsR (w2.alloc (.cells #[I 1, I 4, I 9, I 16] 3)) (w2.alloc (.cells #[I 1, I 4, I 9, I 16] 3)).heap.size (some ⟨w2.heap.size, 0, none⟩) [1, 4, 9, 16] := ints_new w2 [1, 4, 9, 16] 3
  refine (pNext_any (some ⟨w2.heap.size, 0, none⟩) 4 [1, 4, 9, 16] _ hx (by simp [maxLen])).mono ?_
  rintro e w3 ⟨rfl, hb3⟩
  rw [wk_N]
  have hi3 : IntsR w3 w3.heap.size A2 [-1, -1, 1] := ints_call hb3 (ints_call ((Below.refl _ _).alloc (Nat.le_refl _) _) hi)
  have hB3 : Below w.heap.size w w3 := hB2.trans (((Below.refl _ _).alloc hB2.size _).trans (hb3.mono (by have := hB2.size; simp; omega)))
  clear hx hb3 hi hB2
  go_wp2_with fail
  have hy : IntsR (w3.alloc (.cells #[I (-1), I (-1), I 1] 3)) (w3.alloc (.cells #[I (-1), I (-1), I 1] 3)).heap.size (some ⟨w3.heap.size, 0, none⟩) [-1, -1, 1] := ints_new w3 [-1, -1, 1] 3
  have hi4 := ints_call ((Below.refl _ _).alloc (Nat.le_refl _) (.cells #[I (-1), I (-1), I 1] 3)) hi3
  refine (sameInts_any A2 (some ⟨w3.heap.size, 0, none⟩) c2 3 [-1, -1, 1] [-1, -1, 1] _ hi4 hy (by simp [maxLen]) (by simp [maxLen])).mono ?_
  rintro e w4 ⟨rfl, hb4⟩
  rw [decide_eq_true (rfl : ([-1, -1, 1] : List Int) = [-1, -1, 1])]
  have hB4 : Below w.heap.size w w4 := hB3.trans (((Below.refl _ _).alloc hB3.size _).trans (hb4.mono (by have := hB3.size; simp; omega)))
  clear hy hi4 hi3 hb4
  go_wp2
  go_ret
  exact ⟨rfl, hB4⟩
end Go.Proofs.Ytfjincdlenneaaa

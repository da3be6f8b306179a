/-
  CONTRACT: puzzles.Shift where it is allowed.
-/
import Derived.Test.YtglkjiimmlobbaaPzShift
namespace Go.Proofs.Ytglkjiimmlobbaa
open Go.RowKit Go.Shelf
theorem shift_any (n : Int) (s : ByteArray) (w : World) (hs : s.size ≤ 200) (h1 : -100 ≤ n) (h2 : n ≤ 100) :
    Calls Try.prog 66 #[.string s, I n] w fun e w' => e = .returned (.string ⟨(shS n s).toArray⟩) ∧ Below w.heap.size w w' := by
  have hb1 : Below w.heap.size w (w.alloc (.cells #[I n] 3)) := (Below.refl _ _).alloc (Nat.le_refl _) _
  have hg : (w.alloc (.cells #[I n] 3)).cell? ⟨w.heap.size, 0, none⟩ = some (I n) := alloc_cell _ _ _ 0
  go_enter Try.func66, Try.ntmps66
  go_wp2_with (go_at_call 125; go_must (refine (replaced_any n s _ _ hg (by simp) hs h1 h2).mono ?_); rintro e w' ⟨rfl, hb⟩)
  go_ret
  exact ⟨rfl, hb1.trans (hb.mono (by simp))⟩
theorem checkText_ok (s : ByteArray) (w : World) (hs : s.size ≤ 200) :
    Calls Try.prog 63 #[.string s] w fun e w' => e = .returned (I 0) ∧ w' = w := by
  go_enter Try.func63, Try.ntmps63
  go_wp2_with (go_at_call 64; refine (unless_any _ _ _).mono ?_; rintro e w' ⟨rfl, rfl⟩)
  go_ret
  exact ⟨ret_int (by simp), rfl⟩

set_option maxHeartbeats 400000 in
theorem pShift_ok (n : Int) (s : ByteArray) (w : World) (hs : s.size ≤ 200) (h1 : -100 ≤ n) (h2 : n ≤ 100) :
    Calls Try.prog 19 #[.string s, I n] w fun e w' => e = .returned (.tuple #[.string ⟨(shS n s).toArray⟩, I 0]) ∧ Below w.heap.size w w' := by
  have hq : wi n (-100) 100 = true := by simp [wi]; omega
  have hb1 : Below w.heap.size w (w.alloc (.cells ((([0, 0] : List Int).map I).toArray) 25)) := (Below.refl _ _).alloc (Nat.le_refl _) _
  go_enter Try.func19, Try.ntmps19
  go_wp2_with (first
    | (go_at_call 63; refine (checkText_ok s _ hs).mono ?_; rintro e w2 ⟨rfl, rfl⟩)
    | (go_at_call 65; refine (within_any _ _ _ _).mono ?_; rintro e w' ⟨rfl, rfl⟩; rw [hq])
    | (go_at_call 64; refine (unless_any _ _ _).mono ?_; rintro e w3 ⟨rfl, rfl⟩)
    | (go_at_call 62; go_must (refine (first_any _ _ [0, 0] _ ?_ ?_).mono ?_); go_must (exact ints_new _ [0, 0] _); go_must (simp [maxLen]); rintro e w4 ⟨rfl, rfl⟩)
    | (go_at_call 66; refine (shift_any n s _ hs h1 h2).mono ?_; rintro e w5 ⟨rfl, hb⟩))
  go_ret2
  exact ⟨rfl, hb1.trans (hb.mono (by simp))⟩
end Go.Proofs.Ytglkjiimmlobbaa

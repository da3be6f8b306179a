/-
  CONTRACTS of the smallest functions: within, hasWheel, hasSymbol, the lock's check.
-/
import Derived.Test.YtadbkoioipjgmaaDoorRows
import Derived.WalkKit
import Derived.WalkSpells
import Derived.WalkLawsBesides
import Derived.Lib.Hide
import Derived.Deep.QuietTactic
import Derived.BigQuiet
namespace Go.Proofs.YtadbkoioipjgmaaDoor
open Go.RowKit
def wi (n lo hi : Int) : Bool := decide (lo ≤ n) && decide (n ≤ hi)
abbrev I (n : Int) : Value := .int .i64 n
abbrev lockV (W S : Int) : Value := .agg #[.int .i64 W, .int .i64 S]
theorem ret_bool {a b : Bool} (h : a = b) : Ending.returned (.bool a) = .returned (.bool b) := by rw [h]
theorem ret_int {a b : Int} (h : a = b) : Ending.returned (.int .i64 a) = .returned (.int .i64 b) := by rw [h]

set_option maxHeartbeats 400000 in
theorem within_any (n lo hi : Int) (w : World) :
    Calls Tryd.prog 78 #[.int .i64 n, .int .i64 lo, .int .i64 hi] w fun e w' => e = .returned (.bool (wi n lo hi)) ∧ w = w' := by
  by_cases h : lo ≤ n
  all_goals
    go_enter Tryd.func78, Tryd.ntmps78
    go_wp2
    go_ret
    exact ⟨ret_bool (by simp [wi]; omega), rfl⟩

set_option maxHeartbeats 400000 in
theorem hasWheel_any (W S n : Int) (w : World) :
    Calls Tryd.prog 124 #[lockV W S, .int .i64 n] w fun e w' => e = .returned (.bool (wi n 0 (wrap64 (W - 1)))) ∧ Below w.heap.size w w' := by
  go_enter Tryd.func124, Tryd.ntmps124
  go_wp2_with (go_at_call 78; refine (within_any _ _ _ _).mono ?_; rintro e w' ⟨rfl, rfl⟩)
  go_ret
  exact ⟨rfl, (Below.refl _ _).alloc (Nat.le_refl _) _⟩

set_option maxHeartbeats 400000 in
theorem hasSymbol_any (W S n : Int) (w : World) :
    Calls Tryd.prog 125 #[lockV W S, .int .i64 n] w fun e w' => e = .returned (.bool (wi n 0 (wrap64 (S - 1)))) ∧ Below w.heap.size w w' := by
  go_enter Tryd.func125, Tryd.ntmps125
  go_wp2_with (go_at_call 78; refine (within_any _ _ _ _).mono ?_; rintro e w' ⟨rfl, rfl⟩)
  go_ret
  exact ⟨rfl, (Below.refl _ _).alloc (Nat.le_refl _) _⟩

def lockOk (W S : Int) : Bool := wi W 1 4 && wi S 2 10
def lockErr (W S : Int) : Int := if lockOk W S then 0 else 10

set_option maxHeartbeats 400000 in
theorem lockCheck_any (W S : Int) (w : World) :
    Calls Tryd.prog 61 #[lockV W S] w fun e w' => e = .returned (.int .i64 (lockErr W S)) ∧ Below w.heap.size w w' := by
  by_cases h : wi W 1 4 = true
  · by_cases h' : wi S 2 10 = true
    all_goals
      go_enter Tryd.func61, Tryd.ntmps61
      go_wp2_with (go_at_call 78; refine (within_any _ _ _ _).mono ?_; rintro e w' ⟨rfl, rfl⟩)
      go_ret
      exact ⟨ret_int (by simp [lockErr, lockOk, h, h']), (Below.refl _ _).alloc (Nat.le_refl _) _⟩
  · go_enter Tryd.func61, Tryd.ntmps61
    go_wp2_with (go_at_call 78; refine (within_any _ _ _ _).mono ?_; rintro e w' ⟨rfl, rfl⟩)
    go_ret
    exact ⟨ret_int (by simp [lockErr, lockOk, h]), (Below.refl _ _).alloc (Nat.le_refl _) _⟩
end Go.Proofs.YtadbkoioipjgmaaDoor

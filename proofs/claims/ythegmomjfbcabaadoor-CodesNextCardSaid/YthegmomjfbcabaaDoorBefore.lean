/-
  CONTRACT: before.
-/
import Derived.Test.YthegmomjfbcabaaDoorSLists
namespace Go.Proofs.YthegmomjfbcabaaDoor
open Go.RowKit
/-- does a list come before another one: at the first place where they differ -/
def befB : List Int → List Int → Bool
  | x :: xs, y :: ys => if x = y then befB xs ys else decide (x < y)
  | _, _ => false
theorem befB_nil_left (y : List Int) : befB [] y = false := by cases y <;> rfl
theorem befB_nil_right (x : List Int) : befB x [] = false := by cases x <;> rfl
theorem befB_drop {x y : List Int} {k : Nat} (hx : k < x.length) (hy : k < y.length) : befB (x.drop k) (y.drop k) = if nth x k = nth y k then befB (x.drop (k + 1)) (y.drop (k + 1)) else decide (nth x k < nth y k) := by
  rw [List.drop_eq_getElem_cons hx, List.drop_eq_getElem_cons hy, befB, nth_lt hx, nth_lt hy]

set_option maxHeartbeats 800000 in
theorem before_any (A1 A2 : Option Addr) (k1 k2 : Nat) (x y : List Int) (w : World) (hx : IntsR w w.heap.size A1 x) (hy : IntsR w w.heap.size A2 y) (lx : x.length ≤ maxLen) (_ly : y.length ≤ maxLen) :
    Calls Tryd.prog 59 #[.slice A1 x.length k1, .slice A2 y.length k2] w fun e w' => e = .returned (.bool (befB x y)) ∧ Below w.heap.size w w' := by
  unfold maxLen at lx _ly
  go_enter Tryd.func59, Tryd.ntmps59
  go_wp2
  go_loopw [5] (fun i wr => ∃ k : Nat, k ≤ x.length ∧ k ≤ y.length ∧ i = .int .i64 k ∧ Hid (befB x y = befB (x.drop k) (y.drop k)) ∧ Below w.heap.size w wr) (fun i _ => x.length - (intOf i).toNat)
  case atStart => exact ⟨0, Nat.zero_le _, Nat.zero_le _, rfl, Lib.hid rfl, Below.refl _ _⟩
  case round =>
    obtain ⟨k, hk, hk2, rfl, HA, hB⟩ := hrel
    by_cases hlt : k < x.length
    · by_cases hlt2 : k < y.length
      · obtain ⟨a1, rfl, hb1, hc1⟩ := hx.at_ hlt
        obtain ⟨a2, rfl, hb2, hc2⟩ := hy.at_ hlt2
        have d1 := (hB.cell (p := a1.add k) (by rw [block_of_add]; omega)).trans hc1
        have d2 := (hB.cell (p := a2.add k) (by rw [block_of_add]; omega)).trans hc2
        have hbd := befB_drop hlt hlt2
        by_cases he : nth x k = nth y k
        · have hb3 : (nth x k != nth y k) = false := by simp [he]
          rw [if_pos he] at hbd
          have HE := Lib.hid (HA.out.trans hbd)
          clear he hc1 hc2 hbd
          go_wp2
          go_quiet (fail)
          go_wp2
          go_roundw
          case rel => exact ⟨k + 1, by omega, by omega, by go_num, HE, below_drewN hB _⟩
          case measure => simp [intOf]; omega
        · have hb3 : (nth x k != nth y k) = true := by simpa using he
          rw [if_neg he] at hbd
          have HE := Lib.hid (HA.out.trans hbd)
          clear he hc1 hc2 hbd
          go_wp2
          go_quiet (fail)
          go_wp2
          go_quiet (fail)
          go_wp2
          go_ret
          exact ⟨ret_bool' HE.out.symm, below_drewN (below_drewN hB _) _⟩
      · have HE := Lib.hid (HA.out.trans (by rw [show y.drop k = [] from List.drop_eq_nil_of_le (by omega), befB_nil_right] : befB (x.drop k) (y.drop k) = false))
        go_wp2
        go_ret
        exact ⟨ret_bool' HE.out.symm, hB⟩
    · have HE := Lib.hid (HA.out.trans (by rw [show x.drop k = [] from List.drop_eq_nil_of_le (by omega), befB_nil_left] : befB (x.drop k) (y.drop k) = false))
      go_wp2
      go_ret
      exact ⟨ret_bool' HE.out.symm, hB⟩
end Go.Proofs.YthegmomjfbcabaaDoor

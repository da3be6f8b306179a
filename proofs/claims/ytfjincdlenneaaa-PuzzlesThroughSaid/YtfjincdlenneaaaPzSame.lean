/-
  CONTRACT: the law's sameInts.
-/
import Derived.Test.YtfjincdlenneaaaPzWei
namespace Go.Proofs.Ytfjincdlenneaaa
open Go.RowKit
theorem ret_bool' {b c : Bool} (h : b = c) : Ending.returned (.bool b) = .returned (.bool c) := by rw [h]
theorem nth_ext {x y : List Int} (hl : x.length = y.length) (h : ∀ j, j < x.length → nth x j = nth y j) : x = y := by
  refine List.ext_getElem hl fun i h1 h2 => ?_
  have := h i h1
  rwa [nth_lt h1, nth_lt h2] at this
set_option maxHeartbeats 400000 in
theorem sameInts_any (A1 A2 : Option Addr) (k1 k2 : Nat) (x y : List Int) (w : World) (hx : IntsR w w.heap.size A1 x) (hy : IntsR w w.heap.size A2 y) (lx : x.length ≤ maxLen) (ly : y.length ≤ maxLen) :
    Calls Try.prog 25 #[.slice A1 x.length k1, .slice A2 y.length k2] w fun e w' => e = .returned (.bool (decide (x = y))) ∧ Below w.heap.size w w' := by
  unfold maxLen at lx ly
  by_cases hl : x.length = y.length
  · have hb0 : ((x.length : Int) != (y.length : Int)) = false := by simp [hl]
    have HL := Lib.hid hl
    clear hl
    go_enter Try.func25, Try.ntmps25
    go_wp2
    go_loopw [5] (fun i wr => ∃ k : Nat, k ≤ x.length ∧ i = .int .i64 k ∧ Hid (∀ j, j < k → nth x j = nth y j) ∧ Below w.heap.size w wr) (fun i _ => x.length - (intOf i).toNat)
    case atStart => exact ⟨0, Nat.zero_le _, rfl, Lib.hid (fun j h => by omega), Below.refl _ _⟩
    case round =>
      obtain ⟨k, hk, rfl, HA, hB⟩ := hrel
      by_cases hlt : k < x.length
      · have hlt2 : k < y.length := by have := HL.out; omega
        obtain ⟨a1, rfl, hb1, hc1⟩ := hx.at_ hlt
        obtain ⟨a2, rfl, hb2, hc2⟩ := hy.at_ hlt2
        have d1 := (hB.cell (p := a1.add k) (by rw [block_of_add]; omega)).trans hc1
        have d2 := (hB.cell (p := a2.add k) (by rw [block_of_add]; omega)).trans hc2
        by_cases he : nth x k = nth y k
        · have hb3 : (nth x k != nth y k) = false := by simp [he]
          have HE := Lib.hid he
          clear he hc1 hc2
          go_wp2
          go_quiet (fail)
          go_wp2
          go_roundw
          case rel => exact ⟨k + 1, by omega, by go_num, Lib.hid (fun j hj => by rcases Nat.lt_succ_iff_lt_or_eq.1 hj with h | rfl; exact HA.out j h; exact HE.out), below_drewN hB _⟩
          case measure => simp [intOf]; omega
        · have hb3 : (nth x k != nth y k) = true := by simpa using he
          have HE := Lib.hid he
          clear he hc1 hc2
          go_wp2
          go_quiet (fail)
          go_wp2
          go_ret
          exact ⟨ret_bool' (by symm; rw [decide_eq_false_iff_not]; rintro rfl; exact HE.out rfl), below_drewN hB _⟩
      · obtain rfl : k = x.length := by omega
        go_wp2
        go_ret
        exact ⟨ret_bool' (by symm; rw [decide_eq_true_eq]; exact nth_ext HL.out HA.out), hB⟩
  · have hb0 : ((x.length : Int) != (y.length : Int)) = true := by simp; omega
    have HL := Lib.hid hl
    clear hl
    go_enter Try.func25, Try.ntmps25
    go_wp2
    go_ret
    exact ⟨ret_bool' (by symm; rw [decide_eq_false_iff_not]; rintro rfl; exact HL.out rfl), Below.refl _ _⟩
end Go.Proofs.Ytfjincdlenneaaa

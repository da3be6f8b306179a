/-
  CONTRACT: sum, over numbers from 0 to 3.
-/
import Derived.Test.YtglkjiimmlobbaaPzChp
import Derived.Test.YtglkjiimmlobbaaPzWetC
namespace Go.Proofs.Ytglkjiimmlobbaa
open Go.RowKit Go.Shelf
def sumL : List Int → Nat
  | [] => 0
  | x :: r => x.toNat + sumL r
theorem sumL_append (x y : List Int) : sumL (x ++ y) = sumL x + sumL y := by
  induction x with
  | nil => simp [sumL]
  | cons a r ih => simp only [List.cons_append, sumL, ih]; omega
theorem sumL_take {ss : List Int} {k : Nat} (h : k < ss.length) : sumL (ss.take (k + 1)) = sumL (ss.take k) + (nth ss k).toNat := by
  rw [List.take_succ_eq_append_getElem h, sumL_append, nth_lt h]
  rfl
theorem sumL_le {ss : List Int} (hn : Nums 3 ss) : ∀ k, k ≤ ss.length → sumL (ss.take k) ≤ 3 * k := by
  intro k
  induction k with
  | zero => intro _; simp [sumL]
  | succ k ih =>
    intro hk
    rw [sumL_take (by omega)]
    have := ih (by omega)
    have := (hn.nat (i := k) (by omega)).2
    omega
set_option maxHeartbeats 400000 in
theorem sum_any (A : Option Addr) (c : Nat) (ss : List Int) (w : World) (hx : IntsR w w.heap.size A ss) (hl : ss.length ≤ 1000) (hn : Nums 3 ss) :
    Calls Try.prog 102 #[.slice A ss.length c] w fun e w' => e = .returned (I (sumL ss : Nat)) ∧ w' = w := by
  have HN := Lib.hid hn
  clear hn
  go_enter Try.func102, Try.ntmps102
  go_wp2
  go_loop [3, 8] (fun n i => ∃ k u : Nat, k ≤ ss.length ∧ u ≤ 3000 ∧ i = .int .i64 k ∧ n = .int .i64 u ∧ Hid (u = sumL (ss.take k))) (fun _ i => ss.length - (intOf i).toNat)
  case atStart => exact ⟨0, 0, Nat.zero_le _, by omega, rfl, rfl, Lib.hid rfl⟩
  case round =>
    obtain ⟨k, u, hk, hu, rfl, rfl, HU⟩ := hrel
    by_cases hlt : k < ss.length
    · obtain ⟨ad, rfl, hb, hc⟩ := hx.at_ hlt
      have H1 := Lib.hid (sumL_take hlt)
      have hd := HN.out.nat hlt
      rw [hd.1] at hc
      have hd2 := hd.2
      have hle := sumL_le HN.out (k + 1) (by omega)
      obtain ⟨d, hde⟩ : ∃ d, d = (nth ss k).toNat := ⟨_, rfl⟩
      rw [← hde] at hc hd2
      have HD := Lib.hid hde
      have hb2 : u + d ≤ 3000 := by rw [H1.out, ← HU.out, ← HD.out] at hle; omega
      clear hd hle hde
      go_wp2
      go_round
      case rel => exact ⟨k + 1, u + d, by omega, hb2, by go_num, by go_num, Lib.hid (by rw [H1.out, HU.out, HD.out])⟩
      case measure => simp [intOf]; omega
    · obtain rfl : k = ss.length := by omega
      go_wp2
      go_ret
      exact ⟨ret_int (by rw [HU.out, List.take_length]), rfl⟩
theorem sum_n (A : Option Addr) (c n : Nat) (ss : List Int) (hn : ss.length = n) (hl : n ≤ 1000) (hq : Nums 3 ss) (w : World) (hx : IntsR w w.heap.size A ss) (k : Nat) :
    Calls Try.prog 102 #[.slice A n c] (w.drewN k) fun e w' => e = .returned (I (sumL ss : Nat)) ∧ w' = w.drewN k := by
  subst hn
  exact sum_any A c ss _ hx hl hq
end Go.Proofs.Ytglkjiimmlobbaa

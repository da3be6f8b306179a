/-
  CONTRACTS for melodies: slices.Equal, isMelody, press; Press.
-/
import Derived.Test.YteeppkhlnejfkaaPzRWgh
import Derived.Test.YteeppkhlnejfkaaPzMel
namespace Go.Proofs.Yteeppkhlnejfkaa
open Go.RowKit Go.Shelf
theorem ints_take {w : World} {B : Nat} {A : Option Addr} {xs : List Int} (h : IntsR w B A xs) (k : Nat) : IntsR w B A (xs.take k) := by
  intro h0
  obtain ⟨ad, e, hb, hc⟩ := h (by rw [List.length_take] at h0; omega)
  refine ⟨ad, e, hb, fun j hj => ?_⟩
  rw [List.length_take] at hj
  rw [hc j (by omega)]
  congr 2
  simp only [nth]
  rw [List.getElem?_take_of_lt (by omega)]
theorem ints_tail {w : World} {B : Nat} {ad : Addr} {x : Int} {xs : List Int} (h : IntsR w B (some ad) (x :: xs)) : IntsR w B (some (ad.add 1)) xs := by
  intro h0
  obtain ⟨ad', e, hb, hc⟩ := h (by simp)
  injection e with e
  subst e
  refine ⟨_, rfl, by rw [block_of_add]; exact hb, fun j hj => ?_⟩
  rw [add_of_add, hc (1 + j) (by simp; omega), Nat.add_comm 1 j]
  rfl
set_option maxHeartbeats 400000 in
theorem sEq_any (A1 A2 : Option Addr) (k1 k2 : Nat) (x y : List Int) (w : World) (hx : IntsR w w.heap.size A1 x) (hy : IntsR w w.heap.size A2 y) (lx : x.length ≤ maxLen) (ly : y.length ≤ maxLen) :
    Calls Try.prog 148 #[.slice A1 x.length k1, .slice A2 y.length k2] w fun e w' => e = .returned (.bool (decide (x = y))) ∧ Below w.heap.size w w' := by
  unfold maxLen at lx ly
  by_cases hl : x.length = y.length
  · have hb0 : ((x.length : Int) != (y.length : Int)) = false := by simp [hl]
    have HL := Lib.hid hl
    clear hl
    go_enter Try.func148, Try.ntmps148
    go_wp2
    go_loopw [13] (fun i wr => ∃ k : Nat, k ≤ x.length ∧ i = .int .i64 k ∧ Hid (∀ j, j < k → nth x j = nth y j) ∧ Below w.heap.size w wr) (fun i _ => x.length - (intOf i).toNat)
    case atStart => exact ⟨0, Nat.zero_le _, rfl, Lib.hid (fun j h => by omega), Below.refl _ _⟩
    case round =>
      obtain ⟨k, hk, rfl, HA, hB⟩ := hrel
      by_cases hlt : k < x.length
      · have hlt2 : k < y.length := by have := HL.out; omega
        obtain ⟨a1, rfl, hb1, hc1⟩ := hx.at_ hlt
        obtain ⟨a2, rfl, hb2, hc2⟩ := hy.at_ hlt2
        have d1 := (hB.cell (p := a1.add k) (by rw [block_of_add]; omega)).trans hc1
        have d2 := (hB.cell (p := a2.add k) (by rw [block_of_add]; omega)).trans hc2
        by_cases he : nth x k = nth y k
        · have hb3 : (nth x k != nth y k) = false := by simp [he]
          have HE := Lib.hid he
          clear he hc1 hc2
          go_wp2
          go_quiet (fail)
          go_wp2
          go_roundw
          case rel => exact ⟨k + 1, by omega, by go_num, Lib.hid (fun j hj => by rcases Nat.lt_succ_iff_lt_or_eq.1 hj with h | rfl; exact HA.out j h; exact HE.out), below_drewN hB _⟩
          case measure => simp [intOf]; omega
        · have hb3 : (nth x k != nth y k) = true := by simpa using he
          have HE := Lib.hid he
          clear he hc1 hc2
          go_wp2
          go_quiet (fail)
          go_wp2
          go_ret
          exact ⟨ret_bool' (by symm; rw [decide_eq_false_iff_not]; rintro rfl; exact HE.out rfl), below_drewN hB _⟩
      · obtain rfl : k = x.length := by omega
        go_wp2
        go_ret
        exact ⟨ret_bool' (by symm; rw [decide_eq_true_eq]; exact nth_ext HL.out HA.out), hB⟩
  · have hb0 : ((x.length : Int) != (y.length : Int)) = true := by simp; omega
    have HL := Lib.hid hl
    clear hl
    go_enter Try.func148, Try.ntmps148
    go_wp2
    go_ret
    exact ⟨ret_bool' (by symm; rw [decide_eq_false_iff_not]; rintro rfl; exact HL.out rfl), Below.refl _ _⟩

theorem areNotes_any (A : Option Addr) (c : Nat) (m : List Int) (w : World) (hx : IntsR w w.heap.size A m) (hl : m.length ≤ maxLen) :
    Calls Try.prog 122 #[.slice A m.length c] w fun e w' => e = .returned (.bool (inB 0 9 m)) ∧ Below w.heap.size w w' := by
  go_enter Try.func122, Try.ntmps122
  go_wp2_with fail
  refine (allWithin_any _ _ _ _ m _ hx hl).mono ?_
  rintro e w' ⟨rfl, hb⟩
  go_wp2
  go_ret
  exact ⟨rfl, hb⟩
theorem isNote_any (n : Int) (w : World) :
    Calls Try.prog 118 #[I n] w fun e w' => e = .returned (.bool (wi n 0 9)) ∧ w = w' := by
  go_enter Try.func118, Try.ntmps118
  go_wp2_with fail
  refine (within_any _ _ _ _).mono ?_
  rintro e w' ⟨rfl, rfl⟩
  go_wp2
  go_ret
  exact ⟨rfl, rfl⟩
def melB (m : List Int) : Bool := wi m.length 1 16 && inB 0 9 m
theorem isMelody_any (A : Option Addr) (c : Nat) (m : List Int) (w : World) (hx : IntsR w w.heap.size A m) (hl : m.length ≤ maxLen) :
    Calls Try.prog 117 #[.slice A m.length c] w fun e w' => e = .returned (.bool (melB m)) ∧ Below w.heap.size w w' := by
  have hl' := hl
  unfold maxLen at hl'
  go_enter Try.func117, Try.ntmps117
  go_wp2_with fail
  refine (within_any _ _ _ _).mono ?_
  rintro e w' ⟨rfl, rfl⟩
  cases hq : wi m.length 1 16
  · have HM := Lib.hid (show melB m = false by rw [melB, hq]; rfl)
    clear hq
    go_wp2
    go_ret
    exact ⟨ret_bool HM.out.symm, Below.refl _ _⟩
  · have HM := Lib.hid (show melB m = inB 0 9 m by rw [melB, hq]; rfl)
    clear hq
    go_wp2_with fail
    refine (areNotes_any A c m w hx hl).mono ?_
    rintro e w' ⟨rfl, hb⟩
    go_wp2
    go_ret
    exact ⟨ret_bool HM.out.symm, hb⟩
theorem mel_len {m : List Int} (h : melB m = true) : 1 ≤ m.length ∧ m.length ≤ 16 := by
  simp only [melB, Bool.and_eq_true, wi, decide_eq_true_eq] at h
  omega
theorem tuned_any (A : Option Addr) (c : Nat) (m : List Int) (w : World) (hx : IntsR w w.heap.size A m) (hl : m.length ≤ maxLen) :
    Calls Try.prog 120 #[.slice A m.length c] w fun e w' => e = .returned (.bool (melB m)) ∧ w' = w := by
  unfold maxLen at hl
  go_enter Try.func120, Try.ntmps120
  go_wp2
  go_loop [3] (fun i => ∃ k : Nat, k ≤ m.length ∧ i = .int .i64 k ∧ Hid ((m.take k).all (fun s => wi s 0 9) = true)) (fun i => m.length - (intOf i).toNat)
  case atStart => exact ⟨0, Nat.zero_le _, rfl, Lib.hid rfl⟩
  case round =>
    obtain ⟨k, hk, rfl, HA⟩ := hrel
    by_cases hlt : k < m.length
    · obtain ⟨ad, rfl, hb, hc⟩ := hx.at_ hlt
      cases hp : wi (nth m k) 0 9
      · have h2 : inB 0 9 m = false := not_all (fun s => wi s 0 9) m k hlt hp
        have H2 := Lib.hid (show melB m = false by rw [melB, h2, Bool.and_false])
        clear h2
        go_wp2_with (go_at_call 67; refine (rWithin_any _ _ _ _).mono ?_; rintro e w' ⟨rfl, rfl⟩; rw [hp])
        go_ret
        exact ⟨ret_bool H2.out.symm, rfl⟩
      · go_wp2_with (go_at_call 67; refine (rWithin_any _ _ _ _).mono ?_; rintro e w' ⟨rfl, rfl⟩; rw [hp])
        go_round
        case rel => exact ⟨k + 1, by omega, by go_num, Lib.hid (all_take_snoc _ m k hlt HA.out hp)⟩
        case measure => simp [intOf]; omega
    · obtain rfl : k = m.length := by omega
      have hall := HA.out
      rw [List.take_length] at hall
      have HB := Lib.hid (show melB m = wi m.length 1 16 by rw [melB, show inB 0 9 m = true from hall, Bool.and_true])
      clear hall HA
      go_wp2_with (go_at_call 67; refine (rWithin_any _ _ _ _).mono ?_; rintro e w' ⟨rfl, rfl⟩)
      go_ret
      exact ⟨ret_bool HB.out.symm, rfl⟩
end Go.Proofs.Yteeppkhlnejfkaa

/-
  CONTRACT: sameLists.
-/
import Derived.Test.YthegmomjfbcabaaDoorRShow
namespace Go.Proofs.YthegmomjfbcabaaDoor
open Go.RowKit
theorem keptB {w1 w' w2 : World} {p q : Addr} {v u : Value} (hp : p.block < w1.heap.size) (hq : q.block < w1.heap.size) (h : Below w1.heap.size w1 w' ∧ w'.cell? p = some v ∧ w'.cell? q = some u) (hb : Below w'.heap.size w' w2) :
    Below w1.heap.size w1 w2 ∧ w2.cell? p = some v ∧ w2.cell? q = some u :=
  ⟨h.1.trans (hb.mono h.1.size), (hb.cell (by have := h.1.size; omega)).trans h.2.1, (hb.cell (by have := h.1.size; omega)).trans h.2.2⟩
theorem list_ext_at {α : Type} {xs ys : List α} (hl : xs.length = ys.length) (h : ∀ j (h1 : j < xs.length) (h2 : j < ys.length), xs[j] = ys[j]) : xs = ys := List.ext_getElem hl h

set_option maxRecDepth 100000 in
set_option maxHeartbeats 2000000 in
theorem sameLists_any (A1 A2 : Option Addr) (k1 k2 : Nat) (xs ys : List (List Int)) (w : World) (hx : SlsR w w.heap.size A1 xs) (hy : SlsR w w.heap.size A2 ys) (lx : xs.length ≤ maxLen) (ly : ys.length ≤ maxLen) :
    Calls Tryd.prog 36 #[.slice A1 xs.length k1, .slice A2 ys.length k2] w fun e w' => e = .returned (.bool (decide (xs = ys))) ∧ Below w.heap.size w w' := by
  unfold maxLen at lx ly
  by_cases hl : xs.length = ys.length
  · have hb0 : ((xs.length : Int) != (ys.length : Int)) = false := by simp [hl]
    have HL := Lib.hid hl
    clear hl
    go_enter Tryd.func36, Tryd.ntmps36
    go_wp2
    go_loopw [5] (fun i wr => ∃ k : Nat, k ≤ xs.length ∧ i = .int .i64 k ∧ Hid (∀ j (h1 : j < xs.length) (h2 : j < ys.length), j < k → xs[j] = ys[j]) ∧ Below w.heap.size w wr) (fun i _ => xs.length - (intOf i).toNat)
    case atStart => exact ⟨0, Nat.zero_le _, rfl, Lib.hid (fun j _ _ h => by omega), Below.refl _ _⟩
    case round =>
      obtain ⟨k, hk, rfl, HA, hB⟩ := hrel
      have hx' := sls_call hB hx
      have hy' := sls_call hB hy
      clear hx hy
      by_cases hlt : k < xs.length
      · have hlt2 : k < ys.length := by have := HL.out; omega
        obtain ⟨a1, rfl, hb1, hc1⟩ := hx' (by omega)
        obtain ⟨a2, rfl, hb2, hc2⟩ := hy' (by omega)
        obtain ⟨B1, c1, d1, i1, m1⟩ := hc1 k hlt
        obtain ⟨B2, c2, d2, i2, m2⟩ := hc2 k hlt2
        have HX : ∃ x, x = xs[k] := ⟨_, rfl⟩
        have HY : ∃ y, y = ys[k] := ⟨_, rfl⟩
        obtain ⟨x, hx0⟩ := HX
        obtain ⟨y, hy0⟩ := HY
        rw [← hx0] at d1 i1 m1
        rw [← hy0] at d2 i2 m2
        have HX := Lib.hid hx0
        have HY := Lib.hid hy0
        have p1 : (a1.add k).block < wr.heap.size := by rw [block_of_add]; exact hb1
        have p2 : (a2.add k).block < wr.heap.size := by rw [block_of_add]; exact hb2
        clear hx0 hy0 hc1 hc2
        cases hxy : decide (x = y)
        all_goals
          go_wp2_with fail
          go_region_held3 (fun w' => Below wr.heap.size wr w' ∧ w'.cell? (a1.add k) = some (.slice B1 x.length c1) ∧ w'.cell? (a2.add k) = some (.slice B2 y.length c2))
            (first | exact ⟨(Below.refl _ _).drew, d1, d2⟩ | exact keptB p1 p2 (by assumption) hb | assumption)
            ((go_at_call 41; go_must (refine (SameInts_any _ _ _ _ x y _ ?_ ?_ m1 m2).mono ?_); go_must (exact ints_call (And.left (by assumption : Below wr.heap.size wr _ ∧ _ ∧ _)) i1); go_must (exact ints_call (And.left (by assumption : Below wr.heap.size wr _ ∧ _ ∧ _)) i2); rw [hxy]; rintro e w' ⟨rfl, hb⟩))
          all_goals
            have hb5 := And.left (by assumption : Below wr.heap.size wr _ ∧ _ ∧ _)
            go_wp2
            first
              | (go_ret
                 exact ⟨ret_bool' (by symm; rw [decide_eq_false_iff_not]; rintro rfl; exact (of_decide_eq_false hxy) (by rw [HX.out, HY.out])), hB.trans (hb5.mono hB.size)⟩)
              | (go_roundw
                 case rel => exact ⟨k + 1, by omega, by go_num, Lib.hid (fun j h1 h2 hj => by
                   rcases Nat.lt_succ_iff_lt_or_eq.1 hj with h | rfl
                   · exact HA.out j h1 h2 h
                   · rw [← HX.out, ← HY.out]; exact of_decide_eq_true hxy), hB.trans (hb5.mono hB.size)⟩
                 case measure => simp [intOf]; omega)
      · obtain rfl : k = xs.length := by omega
        go_wp2
        go_ret
        exact ⟨ret_bool' (by symm; rw [decide_eq_true_eq]; exact list_ext_at HL.out (fun j h1 h2 => HA.out j h1 h2 h1)), hB⟩
  · have hb0 : ((xs.length : Int) != (ys.length : Int)) = true := by simp; omega
    have HL := Lib.hid hl
    clear hl
    go_enter Tryd.func36, Tryd.ntmps36
    go_wp2
    go_ret
    exact ⟨ret_bool' (by symm; rw [decide_eq_false_iff_not]; rintro rfl; exact HL.out rfl), Below.refl _ _⟩
end Go.Proofs.YthegmomjfbcabaaDoor

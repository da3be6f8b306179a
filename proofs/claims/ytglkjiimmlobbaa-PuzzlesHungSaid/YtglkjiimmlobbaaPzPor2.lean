/-
  CONTRACTS: says, the document's own True, has, isNonsense. (Written by gen/por2_make.py.)
-/
import Derived.Test.YtglkjiimmlobbaaPzPor
namespace Go.Proofs.Ytglkjiimmlobbaa
open Go.RowKit Go.Shelf
theorem index_n (A : Option Addr) (c : Nat) (h : List Int) (x : Int) (hl : h.length ≤ 1000) (w : World) (hx : IntsR w w.heap.size A h) (k : Nat) :
    Calls Try.prog 163 #[.slice A h.length c, I x] (w.drewN k) fun e w' => e = .returned (I (idxI h x)) ∧ w' = w.drewN k := index_any A c h x _ hx hl
theorem place_n (A : Option Addr) (c : Nat) (h : List Int) (x : Int) (hl : h.length ≤ 1000) (w : World) (hx : IntsR w w.heap.size A h) (k : Nat) :
    Calls Try.prog 124 #[.slice A h.length c, I x] (w.drewN k) fun e w' => e = .returned (I (idxI h x)) ∧ w' = w.drewN k := place_any A c h x _ hx hl
/-- a sentence holds -/
def truB (p : Por) (h : List Int) : Bool := sayB p h != p.neg

set_option maxHeartbeats 2000000 in
theorem says_any (p : Por) (A : Option Addr) (c : Nat) (h : List Int) (w : World) (hx : IntsR w w.heap.size A h) (hl : h.length ≤ 1000) :
    Calls Try.prog 162 #[porV p, .slice A h.length c] w fun e w' => e = .returned (.bool (sayB p h)) ∧ Below w.heap.size w w' := by
  obtain ⟨kd, a, b, n, neg⟩ := p
  obtain ⟨w1, hw1, hs1, y0, hb1⟩ := one_box w (.cells #[I kd, I a, I b, I n, .bool neg] 71)
  have b0 : w1.cell? ⟨w.heap.size, 0, none⟩ = some (I kd) := cell_of_row w1 _ 0 _ _ _ y0
  have b1 : w1.cell? ⟨w.heap.size, 1, none⟩ = some (I a) := cell_of_row w1 _ 1 _ _ _ y0
  have b2 : w1.cell? ⟨w.heap.size, 2, none⟩ = some (I b) := cell_of_row w1 _ 2 _ _ _ y0
  have b3 : w1.cell? ⟨w.heap.size, 3, none⟩ = some (I n) := cell_of_row w1 _ 3 _ _ _ y0
  have b4 : w1.cell? ⟨w.heap.size, 4, none⟩ = some (.bool neg) := cell_of_row w1 _ 4 _ _ _ y0
  have hx1 := ints_call hb1 hx
  have hi := idxI_lo h a
  have hj := idxI_lo h b
  have HS := Lib.hid (show sayB ⟨kd, a, b, n, neg⟩ h = if kd = 1 then decide (idxI h a = n) else if kd = 2 then decide (idxI h a < idxI h b) else if kd = 3 then decide (max (idxI h a) (idxI h b) - min (idxI h a) (idxI h b) - 1 = 0) else decide (n ≤ max (idxI h a) (idxI h b) - min (idxI h a) (idxI h b) - 1) from rfl)
  obtain ⟨R, hR⟩ : ∃ R, R = sayB ⟨kd, a, b, n, neg⟩ h := ⟨_, rfl⟩
  rw [← hR] at HS ⊢
  clear y0 hs1 hR hx
  go_enter Try.func162, Try.ntmps162
  go_upto_region 1 with fail
  rw [← hw1]
  clear hw1
  go_quiet ((first
    | (go_at_call 163; with_reducible exact Calls.quiet_of_same (index_n A c h a hl w1 hx1 _))
    | (go_at_call 163; with_reducible exact Calls.quiet_of_same (index_n A c h b hl w1 hx1 _))))
  generalize idxI h a = i at *
  generalize idxI h b = j at *
  have hi1 := hi.1
  have hi2 := hi.2
  have hj1 := hj.1
  have hj2 := hj.2
  clear hi hj hx1
  rcases Int.lt_trichotomy i j with hij | hij | hij
  case' inr.inl => subst hij
  all_goals
    first
      | (have hmx : max i i = i := by omega
         have hmn : min i i = i := by omega
         rw [hmx, hmn] at HS)
      | (have hmx : max i j = j := by omega
         have hmn : min i j = i := by omega
         rw [hmx, hmn] at HS)
      | (have hmx : max i j = i := by omega
         have hmn : min i j = j := by omega
         rw [hmx, hmn] at HS)
    by_cases k1 : kd = 1
    · have HR := Lib.hid (show R = decide (i = n) by rw [HS.out, if_pos k1])
      subst k1
      clear HS
      go_wp2
      go_ret
      exact ⟨ret_bool (by first | (rw [HR.out]; done) | (rw [HR.out]; exact beq_dec _ _) | (rw [HR.out]; simp; done) | (rw [HR.out]; simp; omega)), below_drewN hb1 _⟩
    · by_cases k2 : kd = 2
      · have HR := Lib.hid (HS.out.trans (by rw [if_neg k1, if_pos k2]))
        subst k2
        clear HS k1
        go_wp2
        go_ret
        exact ⟨ret_bool (by first | (rw [HR.out]; done) | (rw [HR.out]; simp; done) | (rw [HR.out]; simp; omega)), below_drewN hb1 _⟩
      · have g1 : (kd == 1) = false := by simpa using k1
        have g2 : (kd == 2) = false := by simpa using k2
        by_cases k3 : kd = 3
        · have HR := Lib.hid (HS.out.trans (by rw [if_neg k1, if_neg k2, if_pos k3]))
          subst k3
          clear HS k1 k2
          go_wp2
          go_ret
          exact ⟨ret_bool (by first | (rw [HR.out]; done) | (rw [HR.out]; exact beq_dec _ _) | (rw [HR.out]; simp; done) | (rw [HR.out]; simp; omega)), below_drewN hb1 _⟩
        · have HR := Lib.hid (HS.out.trans (by rw [if_neg k1, if_neg k2, if_neg k3]))
          have g3 : (kd == 3) = false := by simpa using k3
          clear HS k1 k2 k3
          go_wp2
          go_ret
          exact ⟨ret_bool (by first | (rw [HR.out]; done) | (rw [HR.out]; simp; done) | (rw [HR.out]; simp; omega)), below_drewN hb1 _⟩
end Go.Proofs.Ytglkjiimmlobbaa

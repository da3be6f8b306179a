/-
  CONTRACTS of the document's own answers: open, turned, beside.
-/
import Derived.Test.YtglkjiimmlobbaaPzWat
import Derived.Test.YtglkjiimmlobbaaPzRWgh
namespace Go.Proofs.Ytglkjiimmlobbaa
open Go.RowKit Go.Shelf
theorem ropen_any (p s : Nat) (w : World) (hp : p ≤ 15) (hs : s ≤ 3) :
    Calls Try.prog 138 #[I p, I s] w fun e w' => e = .returned (.bool (p.testBit s)) ∧ w' = w := by
  go_enter Try.func138, Try.ntmps138
  go_wp2
  go_ret
  exact ⟨ret_bool (open_fin ⟨p, by omega⟩ ⟨s, by omega⟩), rfl⟩
theorem rot_fin : ∀ p : Fin 16, rotN p.val 0 = p.val := by decide +kernel
theorem rot_step : ∀ p : Fin 16, ∀ k : Fin 4, bits BinOp.or IntKind.i64 (bits BinOp.and IntKind.i64 ((rotN p.val k.val : Int) * 2) 15) ((rotN p.val k.val : Int) / 8) = (rotN p.val (k.val + 1) : Int) := by decide +kernel
theorem rturned_any (p q : Nat) (w : World) (hp : p ≤ 15) (hq : q ≤ 3) :
    Calls Try.prog 137 #[I p, I q] w fun e w' => e = .returned (I (rotN p q : Nat)) ∧ w' = w := by
  go_enter Try.func137, Try.ntmps137
  go_wp2_with fail
  go_loop [0, 5] (fun x i => ∃ k : Nat, k ≤ q ∧ i = .int .i64 k ∧ x = .int .i64 (rotN p k : Nat)) (fun x i => q - (intOf i).toNat)
  case atStart => exact ⟨0, Nat.zero_le _, rfl, by rw [rot_fin ⟨p, by omega⟩]⟩
  case round =>
    obtain ⟨k, hk, rfl, rfl⟩ := hrel
    by_cases hlt : k < q
    · have hr := rotN_le p k
      go_wp2
      exact ⟨⟨k + 1, by omega, by go_num, by rw [rot_step ⟨p, by omega⟩ ⟨k, by omega⟩]⟩, by simp [intOf]; omega⟩
    · obtain rfl : k = q := by omega
      go_wp2
      go_ret
      exact ⟨rfl, rfl⟩
/-- the cell beside, or -1 -/
def bsdI (W H c s : Nat) : Int := match nxO W H c s with | some k => k | none => -1
theorem bsd_some {W H c s y : Nat} (h : nxO W H c s = some y) : bsdI W H c s = y := by rw [bsdI, h]
theorem bsd_none {W H c s : Nat} (h : nxO W H c s = none) : bsdI W H c s = -1 := by rw [bsdI, h]

theorem bval {W q r c : Nat} (a b v : Int) (hc : W * q + r = c) (hW : W ≤ 9) (hc9 : c ≤ 9) (h : (a * W = q * W ∨ a * W = q * W - W ∨ a * W = q * W + W) ∧ a * W + b = v ∧ -100 ≤ b ∧ b ≤ 100) : wrap64 (wrap64 (a * W) + b) = v := by
  obtain ⟨h1, h2, h3, h4⟩ := h
  have hq : (q : Int) * W + r = c := by rw [Int.mul_comm]; exact_mod_cast hc
  have e : wrap64 (a * W) = a * W := IntWalk.wrap64_in _ ⟨by omega, by omega⟩
  rw [e, h2]
  exact IntWalk.wrap64_in _ ⟨by omega, by omega⟩
set_option maxHeartbeats 2000000 in
theorem beside_any (W H c s : Nat) (w : World) (hW : 1 ≤ W) (hW9 : W ≤ 9) (hH9 : H ≤ 9) (hc : c < W * H) (hN : W * H ≤ 9) (hs : s ≤ 3) :
    Calls Try.prog 139 #[I W, I H, I c, I s] w fun e w' => e = .returned (I (bsdI W H c s)) ∧ Below w.heap.size w w' := by
  have hn1 : W ≠ 0 := by omega
  have hn2 : ¬ (W : Int) = 0 := by omega
  have hn3 : ((W : Int) == 0) = false := by simp; exact hn1
  obtain ⟨q, hq⟩ : ∃ q, q = c / W := ⟨_, rfl⟩
  obtain ⟨r, hr⟩ : ∃ r, r = c % W := ⟨_, rfl⟩
  have e1 : (c : Int) / (W : Int) = (q : Int) := by rw [hq]; rfl
  have e2 : (c : Int) % (W : Int) = (r : Int) := by rw [hr]; rfl
  have hqH : q < H := by rw [hq]; exact Nat.div_lt_of_lt_mul hc
  have hrW : r < W := by rw [hr]; exact Nat.mod_lt _ hW
  have hcq : W * q + r = c := by rw [hq, hr]; exact Nat.div_add_mod c W
  have hc9 : c ≤ 9 := by omega
  have HX := Lib.hid (show nxO W H c s = if s = 0 then (if 0 < q then some (c - W) else none) else if s = 1 then (if r + 1 < W then some (c + 1) else none) else if s = 2 then (if q + 1 < H then some (c + W) else none) else (if 0 < r then some (c - 1) else none) by rw [hq, hr]; rfl)
  have HC := Lib.hid hcq
  have HI := Lib.hid (show (q : Int) * W + r = c by rw [Int.mul_comm]; exact_mod_cast hcq)
  have HQ := Lib.hid (show 0 < q → W ≤ c from fun h => by
    have : W * 1 ≤ W * q := Nat.mul_le_mul_left W h
    omega)
  have HR := Lib.hid (show 0 < r → 1 ≤ c from fun h => by omega)
  clear hq hr hc hN hcq
  have hs4 : s = 0 ∨ s = 1 ∨ s = 2 ∨ s = 3 := by omega
  rcases hs4 with rfl | rfl | rfl | rfl
  · by_cases h : 0 < q
    · have HB := Lib.hid (bsd_some (W := W) (H := H) (c := c) (s := 0) (y := c - W) (HX.out.trans (by rw [if_pos rfl, if_pos h])))
      have w1 : wi ((r : Int)) 0 ((W : Int) - 1) = true := by simp [wi]; omega
      have w2 : wi ((q : Int) - 1) 0 ((H : Int) - 1) = true := by simp [wi]; omega
      have HV := Lib.hid (bval (W := W) (q := q) (r := r) (c := c) ((q : Int) - 1) ((r : Int)) ((c : Int) - W) HC.out hW9 hc9 (by have hi := HI.out; rw [Int.sub_mul]; omega))
      go_enter Try.func139, Try.ntmps139
      go_wp2
      go_quiet (fail)
      go_wp2_with (go_at_call 67; refine (rWithin_any _ _ _ _).mono ?_; rintro e w' ⟨rfl, hww⟩; rw [hww]; first | rw [w1] | rw [w2]; clear hww)
      go_ret
      exact ⟨by rw [HB.out]; exact ret_int (HV.out.trans (by have a1 := HQ.out; have a2 := HR.out; omega)), below_drewN (Below.refl _ _) _⟩
    · have HB := Lib.hid (bsd_none (W := W) (H := H) (c := c) (s := 0) (HX.out.trans (by rw [if_pos rfl, if_neg h])))
      have w1 : wi ((r : Int)) 0 ((W : Int) - 1) = true := by simp [wi]; omega
      have w2 : wi ((q : Int) - 1) 0 ((H : Int) - 1) = false := by simp [wi]; omega
      go_enter Try.func139, Try.ntmps139
      go_wp2
      go_quiet (fail)
      go_wp2_with (go_at_call 67; refine (rWithin_any _ _ _ _).mono ?_; rintro e w' ⟨rfl, hww⟩; rw [hww]; first | rw [w1] | rw [w2]; clear hww)
      go_ret
      exact ⟨by rw [HB.out]; rfl, below_drewN (Below.refl _ _) _⟩
  · by_cases h : r + 1 < W
    · have HB := Lib.hid (bsd_some (W := W) (H := H) (c := c) (s := 1) (y := c + 1) (HX.out.trans (by rw [if_neg (by decide), if_pos rfl, if_pos h])))
      have w1 : wi ((r : Int) + 1) 0 ((W : Int) - 1) = true := by simp [wi]; omega
      have w2 : wi ((q : Int)) 0 ((H : Int) - 1) = true := by simp [wi]; omega
      have HV := Lib.hid (bval (W := W) (q := q) (r := r) (c := c) ((q : Int)) ((r : Int) + 1) ((c : Int) + 1) HC.out hW9 hc9 (by have hi := HI.out; omega))
      go_enter Try.func139, Try.ntmps139
      go_wp2
      go_quiet (fail)
      go_wp2_with (go_at_call 67; refine (rWithin_any _ _ _ _).mono ?_; rintro e w' ⟨rfl, hww⟩; rw [hww]; first | rw [w1] | rw [w2]; clear hww)
      go_ret
      exact ⟨by rw [HB.out]; exact ret_int (HV.out.trans (by have a1 := HQ.out; have a2 := HR.out; omega)), below_drewN (Below.refl _ _) _⟩
    · have HB := Lib.hid (bsd_none (W := W) (H := H) (c := c) (s := 1) (HX.out.trans (by rw [if_neg (by decide), if_pos rfl, if_neg h])))
      have w1 : wi ((r : Int) + 1) 0 ((W : Int) - 1) = false := by simp [wi]; omega
      go_enter Try.func139, Try.ntmps139
      go_wp2
      go_quiet (fail)
      go_wp2_with (go_at_call 67; refine (rWithin_any _ _ _ _).mono ?_; rintro e w' ⟨rfl, hww⟩; rw [hww]; rw [w1]; clear hww)
      go_ret
      exact ⟨by rw [HB.out]; rfl, below_drewN (Below.refl _ _) _⟩
  · by_cases h : q + 1 < H
    · have HB := Lib.hid (bsd_some (W := W) (H := H) (c := c) (s := 2) (y := c + W) (HX.out.trans (by rw [if_neg (by decide), if_neg (by decide), if_pos rfl, if_pos h])))
      have w1 : wi ((r : Int)) 0 ((W : Int) - 1) = true := by simp [wi]; omega
      have w2 : wi ((q : Int) + 1) 0 ((H : Int) - 1) = true := by simp [wi]; omega
      have HV := Lib.hid (bval (W := W) (q := q) (r := r) (c := c) ((q : Int) + 1) ((r : Int)) ((c : Int) + W) HC.out hW9 hc9 (by have hi := HI.out; rw [Int.add_mul]; omega))
      go_enter Try.func139, Try.ntmps139
      go_wp2
      go_quiet (fail)
      go_wp2_with (go_at_call 67; refine (rWithin_any _ _ _ _).mono ?_; rintro e w' ⟨rfl, hww⟩; rw [hww]; first | rw [w1] | rw [w2]; clear hww)
      go_ret
      exact ⟨by rw [HB.out]; exact ret_int (HV.out.trans (by have a1 := HQ.out; have a2 := HR.out; omega)), below_drewN (Below.refl _ _) _⟩
    · have HB := Lib.hid (bsd_none (W := W) (H := H) (c := c) (s := 2) (HX.out.trans (by rw [if_neg (by decide), if_neg (by decide), if_pos rfl, if_neg h])))
      have w1 : wi ((r : Int)) 0 ((W : Int) - 1) = true := by simp [wi]; omega
      have w2 : wi ((q : Int) + 1) 0 ((H : Int) - 1) = false := by simp [wi]; omega
      go_enter Try.func139, Try.ntmps139
      go_wp2
      go_quiet (fail)
      go_wp2_with (go_at_call 67; refine (rWithin_any _ _ _ _).mono ?_; rintro e w' ⟨rfl, hww⟩; rw [hww]; first | rw [w1] | rw [w2]; clear hww)
      go_ret
      exact ⟨by rw [HB.out]; rfl, below_drewN (Below.refl _ _) _⟩
  · by_cases h : 0 < r
    · have HB := Lib.hid (bsd_some (W := W) (H := H) (c := c) (s := 3) (y := c - 1) (HX.out.trans (by rw [if_neg (by decide), if_neg (by decide), if_neg (by decide), if_pos h])))
      have w1 : wi ((r : Int) - 1) 0 ((W : Int) - 1) = true := by simp [wi]; omega
      have w2 : wi ((q : Int)) 0 ((H : Int) - 1) = true := by simp [wi]; omega
      have HV := Lib.hid (bval (W := W) (q := q) (r := r) (c := c) ((q : Int)) ((r : Int) - 1) ((c : Int) - 1) HC.out hW9 hc9 (by have hi := HI.out; omega))
      go_enter Try.func139, Try.ntmps139
      go_wp2
      go_quiet (fail)
      go_wp2_with (go_at_call 67; refine (rWithin_any _ _ _ _).mono ?_; rintro e w' ⟨rfl, hww⟩; rw [hww]; first | rw [w1] | rw [w2]; clear hww)
      go_ret
      exact ⟨by rw [HB.out]; exact ret_int (HV.out.trans (by have a1 := HQ.out; have a2 := HR.out; omega)), below_drewN (Below.refl _ _) _⟩
    · have HB := Lib.hid (bsd_none (W := W) (H := H) (c := c) (s := 3) (HX.out.trans (by rw [if_neg (by decide), if_neg (by decide), if_neg (by decide), if_neg h])))
      have w1 : wi ((r : Int) - 1) 0 ((W : Int) - 1) = false := by simp [wi]; omega
      go_enter Try.func139, Try.ntmps139
      go_wp2
      go_quiet (fail)
      go_wp2_with (go_at_call 67; refine (rWithin_any _ _ _ _).mono ?_; rintro e w' ⟨rfl, hww⟩; rw [hww]; rw [w1]; clear hww)
      go_ret
      exact ⟨by rw [HB.out]; rfl, below_drewN (Below.refl _ _) _⟩
end Go.Proofs.Ytglkjiimmlobbaa

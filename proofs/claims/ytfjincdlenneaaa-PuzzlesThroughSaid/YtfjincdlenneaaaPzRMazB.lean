/-
  CONTRACTS of the document's own answers: beside, with at most 64 cells (written out of PzRPip); rolls; CheckMaze; Roll.
-/
import Derived.Test.YtfjincdlenneaaaPzMazO
import Derived.Test.YtfjincdlenneaaaPzRWgh
import Derived.Test.YtfjincdlenneaaaPzMazF
namespace Go.Proofs.Ytfjincdlenneaaa
open Go.RowKit Go.Shelf
/-- the cell beside, or -1 -/
def bsdM (W H c s : Nat) : Int := match nxO W H c s with | some k => k | none => -1
theorem bsdM_some {W H c s y : Nat} (h : nxO W H c s = some y) : bsdM W H c s = y := by rw [bsdM, h]
theorem bsdM_none {W H c s : Nat} (h : nxO W H c s = none) : bsdM W H c s = -1 := by rw [bsdM, h]

theorem bvalM {W q r c : Nat} (a b v : Int) (hc : W * q + r = c) (hW : W ≤ 64) (hc9 : c ≤ 64) (h : (a * W = q * W ∨ a * W = q * W - W ∨ a * W = q * W + W) ∧ a * W + b = v ∧ -200 ≤ b ∧ b ≤ 200) : wrap64 (wrap64 (a * W) + b) = v := by
  obtain ⟨h1, h2, h3, h4⟩ := h
  have hq : (q : Int) * W + r = c := by rw [Int.mul_comm]; exact_mod_cast hc
  have e : wrap64 (a * W) = a * W := IntWalk.wrap64_in _ ⟨by omega, by omega⟩
  rw [e, h2]
  exact IntWalk.wrap64_in _ ⟨by omega, by omega⟩
set_option maxHeartbeats 2000000 in
theorem besideM_any (W H c s : Nat) (w : World) (hW : 1 ≤ W) (hW9 : W ≤ 64) (hH9 : H ≤ 64) (hc : c < W * H) (hN : W * H ≤ 64) (hs : s ≤ 3) :
    Calls Try.prog 139 #[I W, I H, I c, I s] w fun e w' => e = .returned (I (bsdM W H c s)) ∧ Below w.heap.size w w' := by
  have hn1 : W ≠ 0 := by omega
  have hn2 : ¬ (W : Int) = 0 := by omega
  have hn3 : ((W : Int) == 0) = false := by simp; exact hn1
  obtain ⟨q, hq⟩ : ∃ q, q = c / W := ⟨_, rfl⟩
  obtain ⟨r, hr⟩ : ∃ r, r = c % W := ⟨_, rfl⟩
  have e1 : (c : Int) / (W : Int) = (q : Int) := by rw [hq]; rfl
  have e2 : (c : Int) % (W : Int) = (r : Int) := by rw [hr]; rfl
  have hqH : q < H := by rw [hq]; exact Nat.div_lt_of_lt_mul hc
  have hrW : r < W := by rw [hr]; exact Nat.mod_lt _ hW
  have hcq : W * q + r = c := by rw [hq, hr]; exact Nat.div_add_mod c W
  have hc9 : c ≤ 64 := by omega
  have HX := Lib.hid (show nxO W H c s = if s = 0 then (if 0 < q then some (c - W) else none) else if s = 1 then (if r + 1 < W then some (c + 1) else none) else if s = 2 then (if q + 1 < H then some (c + W) else none) else (if 0 < r then some (c - 1) else none) by rw [hq, hr]; rfl)
  have HC := Lib.hid hcq
  have HI := Lib.hid (show (q : Int) * W + r = c by rw [Int.mul_comm]; exact_mod_cast hcq)
  have HQ := Lib.hid (show 0 < q → W ≤ c from fun h => by
    have : W * 1 ≤ W * q := Nat.mul_le_mul_left W h
    omega)
  have HR := Lib.hid (show 0 < r → 1 ≤ c from fun h => by omega)
  clear hq hr hc hN hcq
  have hs4 : s = 0 ∨ s = 1 ∨ s = 2 ∨ s = 3 := by omega
  rcases hs4 with rfl | rfl | rfl | rfl
  · by_cases h : 0 < q
    · have HB := Lib.hid (bsdM_some (W := W) (H := H) (c := c) (s := 0) (y := c - W) (HX.out.trans (by rw [if_pos rfl, if_pos h])))
      have w1 : wi ((r : Int)) 0 ((W : Int) - 1) = true := by simp [wi]; omega
      have w2 : wi ((q : Int) - 1) 0 ((H : Int) - 1) = true := by simp [wi]; omega
      have HV := Lib.hid (bvalM (W := W) (q := q) (r := r) (c := c) ((q : Int) - 1) ((r : Int)) ((c : Int) - W) HC.out hW9 hc9 (by have hi := HI.out; rw [Int.sub_mul]; omega))
      go_enter Try.func139, Try.ntmps139
      go_wp2
      go_quiet (fail)
      go_wp2_with (go_at_call 67; refine (rWithin_any _ _ _ _).mono ?_; rintro e w' ⟨rfl, hww⟩; rw [hww]; first | rw [w1] | rw [w2]; clear hww)
      go_ret
      exact ⟨by rw [HB.out]; exact ret_int (HV.out.trans (by have a1 := HQ.out; have a2 := HR.out; omega)), below_drewN (Below.refl _ _) _⟩
    · have HB := Lib.hid (bsdM_none (W := W) (H := H) (c := c) (s := 0) (HX.out.trans (by rw [if_pos rfl, if_neg h])))
      have w1 : wi ((r : Int)) 0 ((W : Int) - 1) = true := by simp [wi]; omega
      have w2 : wi ((q : Int) - 1) 0 ((H : Int) - 1) = false := by simp [wi]; omega
      go_enter Try.func139, Try.ntmps139
      go_wp2
      go_quiet (fail)
      go_wp2_with (go_at_call 67; refine (rWithin_any _ _ _ _).mono ?_; rintro e w' ⟨rfl, hww⟩; rw [hww]; first | rw [w1] | rw [w2]; clear hww)
      go_ret
      exact ⟨by rw [HB.out]; rfl, below_drewN (Below.refl _ _) _⟩
  · by_cases h : r + 1 < W
    · have HB := Lib.hid (bsdM_some (W := W) (H := H) (c := c) (s := 1) (y := c + 1) (HX.out.trans (by rw [if_neg (by decide), if_pos rfl, if_pos h])))
      have w1 : wi ((r : Int) + 1) 0 ((W : Int) - 1) = true := by simp [wi]; omega
      have w2 : wi ((q : Int)) 0 ((H : Int) - 1) = true := by simp [wi]; omega
      have HV := Lib.hid (bvalM (W := W) (q := q) (r := r) (c := c) ((q : Int)) ((r : Int) + 1) ((c : Int) + 1) HC.out hW9 hc9 (by have hi := HI.out; omega))
      go_enter Try.func139, Try.ntmps139
      go_wp2
      go_quiet (fail)
      go_wp2_with (go_at_call 67; refine (rWithin_any _ _ _ _).mono ?_; rintro e w' ⟨rfl, hww⟩; rw [hww]; first | rw [w1] | rw [w2]; clear hww)
      go_ret
      exact ⟨by rw [HB.out]; exact ret_int (HV.out.trans (by have a1 := HQ.out; have a2 := HR.out; omega)), below_drewN (Below.refl _ _) _⟩
    · have HB := Lib.hid (bsdM_none (W := W) (H := H) (c := c) (s := 1) (HX.out.trans (by rw [if_neg (by decide), if_pos rfl, if_neg h])))
      have w1 : wi ((r : Int) + 1) 0 ((W : Int) - 1) = false := by simp [wi]; omega
      go_enter Try.func139, Try.ntmps139
      go_wp2
      go_quiet (fail)
      go_wp2_with (go_at_call 67; refine (rWithin_any _ _ _ _).mono ?_; rintro e w' ⟨rfl, hww⟩; rw [hww]; rw [w1]; clear hww)
      go_ret
      exact ⟨by rw [HB.out]; rfl, below_drewN (Below.refl _ _) _⟩
  · by_cases h : q + 1 < H
    · have HB := Lib.hid (bsdM_some (W := W) (H := H) (c := c) (s := 2) (y := c + W) (HX.out.trans (by rw [if_neg (by decide), if_neg (by decide), if_pos rfl, if_pos h])))
      have w1 : wi ((r : Int)) 0 ((W : Int) - 1) = true := by simp [wi]; omega
      have w2 : wi ((q : Int) + 1) 0 ((H : Int) - 1) = true := by simp [wi]; omega
      have HV := Lib.hid (bvalM (W := W) (q := q) (r := r) (c := c) ((q : Int) + 1) ((r : Int)) ((c : Int) + W) HC.out hW9 hc9 (by have hi := HI.out; rw [Int.add_mul]; omega))
      go_enter Try.func139, Try.ntmps139
      go_wp2
      go_quiet (fail)
      go_wp2_with (go_at_call 67; refine (rWithin_any _ _ _ _).mono ?_; rintro e w' ⟨rfl, hww⟩; rw [hww]; first | rw [w1] | rw [w2]; clear hww)
      go_ret
      exact ⟨by rw [HB.out]; exact ret_int (HV.out.trans (by have a1 := HQ.out; have a2 := HR.out; omega)), below_drewN (Below.refl _ _) _⟩
    · have HB := Lib.hid (bsdM_none (W := W) (H := H) (c := c) (s := 2) (HX.out.trans (by rw [if_neg (by decide), if_neg (by decide), if_pos rfl, if_neg h])))
      have w1 : wi ((r : Int)) 0 ((W : Int) - 1) = true := by simp [wi]; omega
      have w2 : wi ((q : Int) + 1) 0 ((H : Int) - 1) = false := by simp [wi]; omega
      go_enter Try.func139, Try.ntmps139
      go_wp2
      go_quiet (fail)
      go_wp2_with (go_at_call 67; refine (rWithin_any _ _ _ _).mono ?_; rintro e w' ⟨rfl, hww⟩; rw [hww]; first | rw [w1] | rw [w2]; clear hww)
      go_ret
      exact ⟨by rw [HB.out]; rfl, below_drewN (Below.refl _ _) _⟩
  · by_cases h : 0 < r
    · have HB := Lib.hid (bsdM_some (W := W) (H := H) (c := c) (s := 3) (y := c - 1) (HX.out.trans (by rw [if_neg (by decide), if_neg (by decide), if_neg (by decide), if_pos h])))
      have w1 : wi ((r : Int) - 1) 0 ((W : Int) - 1) = true := by simp [wi]; omega
      have w2 : wi ((q : Int)) 0 ((H : Int) - 1) = true := by simp [wi]; omega
      have HV := Lib.hid (bvalM (W := W) (q := q) (r := r) (c := c) ((q : Int)) ((r : Int) - 1) ((c : Int) - 1) HC.out hW9 hc9 (by have hi := HI.out; omega))
      go_enter Try.func139, Try.ntmps139
      go_wp2
      go_quiet (fail)
      go_wp2_with (go_at_call 67; refine (rWithin_any _ _ _ _).mono ?_; rintro e w' ⟨rfl, hww⟩; rw [hww]; first | rw [w1] | rw [w2]; clear hww)
      go_ret
      exact ⟨by rw [HB.out]; exact ret_int (HV.out.trans (by have a1 := HQ.out; have a2 := HR.out; omega)), below_drewN (Below.refl _ _) _⟩
    · have HB := Lib.hid (bsdM_none (W := W) (H := H) (c := c) (s := 3) (HX.out.trans (by rw [if_neg (by decide), if_neg (by decide), if_neg (by decide), if_neg h])))
      have w1 : wi ((r : Int) - 1) 0 ((W : Int) - 1) = false := by simp [wi]; omega
      go_enter Try.func139, Try.ntmps139
      go_wp2
      go_quiet (fail)
      go_wp2_with (go_at_call 67; refine (rWithin_any _ _ _ _).mono ?_; rintro e w' ⟨rfl, hww⟩; rw [hww]; rw [w1]; clear hww)
      go_ret
      exact ⟨by rw [HB.out]; rfl, below_drewN (Below.refl _ _) _⟩
abbrev mazA (W H : Int) (A : Option Addr) (n cap : Nat) (fr tt : Int) : Value := .agg #[I W, I H, .slice A n cap, I fr, I tt]
set_option maxHeartbeats 1000000 in
theorem rolls_any (W H c s n : Nat) (fr tt : Int) (A : Option Addr) (cap : Nat) (wall : Nat → Bool) (w : World) (hW : 1 ≤ W) (hW9 : W ≤ 64) (hH : H ≤ 64) (hn : n = W * H) (hn9 : n ≤ 64) (hc : c < n) (hs : s ≤ 3) (hx : BoosR w w.heap.size A wall n) :
    Calls Try.prog 109 #[mazA W H A n cap fr tt, I c, I s] w fun e w' => e = .returned (I (rolF W H wall c s : Nat)) ∧ Below w.heap.size w w' := by
  obtain ⟨w1, hw1, hs1, y0, hb1⟩ := one_box w (.cells #[I W, I H, .slice A n cap, I fr, I tt] 52)
  have hx1 := boos_call hb1 hx
  have s0 : w.heap.size < w1.heap.size := by omega
  obtain ⟨r, hr⟩ : ∃ r, r = rolF W H wall c s := ⟨_, rfl⟩
  rw [← hr]
  have HR := Lib.hid hr
  have HN := Lib.hid hn
  clear hx hs1 hr hn
  go_enter Try.func109, Try.ntmps109
  go_upto_region 1 with fail
  rw [← hw1]
  clear hw1
  have Y0 := Lib.hid y0
  clear y0
  go_loopw [1] (fun x wr => ∃ k : Nat, k < n ∧ x = I k ∧ Hid (r = rolF W H wall k s) ∧ Below w1.heap.size w1 wr) (fun x _ => ahd W H (intOf x).toNat s)
  case atStart => exact ⟨c, hc, rfl, HR, Below.refl _ _⟩
  case round =>
    obtain ⟨k, hk, rfl, HK, hbr⟩ := hrel
    have y0 := (hbr.block _ s0).trans Y0.out
    have b0 : wr.cell? ⟨w.heap.size, 0, none⟩ = some (I W) := cell_of_row wr _ 0 _ _ _ y0
    have b1 : wr.cell? ⟨w.heap.size, 1, none⟩ = some (I H) := cell_of_row wr _ 1 _ _ _ y0
    clear y0
    have cn := besideM_any W H k s
    have hkW : k < W * H := by rw [← HN.out]; exact hk
    have hNW : W * H ≤ 64 := by rw [← HN.out]; exact hn9
    go_wp2_with fail
    refine (cn wr hW hW9 hH hkW hNW hs).mono ?_
    rintro e w2 ⟨rfl, hb2⟩
    clear cn b0 b1 hNW
    have hB2 := hbr.trans (hb2.mono hbr.size)
    have y0 := (hB2.block _ s0).trans Y0.out
    have b2 : w2.cell? ⟨w.heap.size, 2, none⟩ = some (.slice A n cap) := cell_of_row w2 _ 2 _ _ _ y0
    have hx2 := boos_call hB2 hx1
    clear y0 hbr hb2
    cases hnx : nxO W H k s with
    | none =>
      have HE := Lib.hid (HK.out.trans (rol_none hnx))
      rw [bsdM_none hnx]
      clear hnx HK hkW
      go_wp2
      go_ret
      exact ⟨ret_int (by rw [HE.out]), hb1.trans (hB2.mono hb1.size)⟩
    | some y =>
      have hg := nx_ahd hW hs hkW hnx
      have hy : y < n := by rw [HN.out]; exact hg.1
      obtain ⟨ad, rfl, hbA, hcA⟩ := hx2.at_ hy
      rw [bsdM_some hnx]
      cases hwl : wall y
      · have HE := Lib.hid (HK.out.trans (rol_go hW hs hkW hnx hwl))
        have HG := Lib.hid hg.2
        rw [hwl] at hcA
        clear hnx HK hg hwl hkW
        go_wp2
        go_roundw
        case rel => exact ⟨y, hy, rfl, HE, hB2⟩
        case measure =>
          have := HG.out
          simp [intOf]
          omega
      · have HE := Lib.hid (HK.out.trans (rol_wall hnx hwl))
        rw [hwl] at hcA
        clear hnx HK hg hwl hkW
        go_wp2
        go_ret
        exact ⟨ret_int (by rw [HE.out]), hb1.trans (hB2.mono hb1.size)⟩
theorem mazB_first {W H fr tt : Int} {n : Nat} {wall : Nat → Bool} (h : (wi W 1 64 && (wi H 1 64 && (decide (W * H ≤ 64) && ((n : Int) == W * H)))) = false) : mazB W H fr tt n wall = false := by
  rw [mazB, gridM]
  cases h1 : wi W 1 64
  · rfl
  cases h2 : wi H 1 64
  · rfl
  rw [h1, h2] at h
  cases h3 : decide (W * H ≤ 64)
  · rfl
  · rw [h3] at h
    rw [show ((n : Int) == W * H) = false by simpa using h]
    simp
theorem mazB_second {W H fr tt : Int} {n : Nat} {wall : Nat → Bool} (h1 : 1 ≤ W) (h2 : W ≤ 64) (h3 : 1 ≤ H) (h4 : H ≤ 64) (h5 : W * H ≤ 64) (h6 : (n : Int) = W * H) : mazB W H fr tt n wall = (wi fr 0 ((n : Int) - 1) && (wi tt 0 ((n : Int) - 1) && (!wall fr.toNat && !wall tt.toNat))) := by
  rw [mazB, gridM, ← h6, show wi W 1 64 = true by simp [wi]; omega, show wi H 1 64 = true by simp [wi]; omega, decide_eq_true (show (n : Int) ≤ 64 by omega)]
  simp only [Bool.true_and, BEq.rfl, Bool.and_assoc]
set_option maxRecDepth 100000 in
set_option maxHeartbeats 4000000 in
theorem checkMaze_any (W H fr tt : Int) (A : Option Addr) (n cap : Nat) (wall : Nat → Bool) (w : World) (hx : BoosR w w.heap.size A wall n) (hl : n ≤ maxLen) :
    Calls Try.prog 108 #[mazA W H A n cap fr tt] w fun e w' => e = .returned (I (if mazB W H fr tt n wall then 0 else 30)) ∧ Below w.heap.size w w' := by
  have hl' := hl
  unfold maxLen at hl'
  obtain ⟨E, hE⟩ : ∃ E : Int, E = if mazB W H fr tt n wall then 0 else 30 := ⟨_, rfl⟩
  rw [← hE]
  have HE := Lib.hid hE
  clear hE
  obtain ⟨w1, hw1, hs1, y0, hb1⟩ := one_box w (.cells #[I W, I H, .slice A n cap, I fr, I tt] 52)
  have f0 : w1.cell? ⟨w.heap.size, 0, none⟩ = some (I W) := cell_of_row w1 _ 0 _ _ _ y0
  have f1 : w1.cell? ⟨w.heap.size, 1, none⟩ = some (I H) := cell_of_row w1 _ 1 _ _ _ y0
  have f2 : w1.cell? ⟨w.heap.size, 2, none⟩ = some (.slice A n cap) := cell_of_row w1 _ 2 _ _ _ y0
  have f3 : w1.cell? ⟨w.heap.size, 3, none⟩ = some (I fr) := cell_of_row w1 _ 3 _ _ _ y0
  have f4 : w1.cell? ⟨w.heap.size, 4, none⟩ = some (I tt) := cell_of_row w1 _ 4 _ _ _ y0
  have hx1 := boos_call hb1 hx
  clear y0 hs1 hx
  go_enter Try.func108, Try.ntmps108
  go_upto_region 1 with fail
  rw [← hw1]
  clear hw1
  cases q1 : wi W 1 64
  · have HG := Lib.hid (mazB_first (fr := fr) (tt := tt) (n := n) (wall := wall) (W := W) (H := H) (by rw [q1]; rfl))
    go_wp2_with (go_at_call 67; refine (rWithin_any _ _ _ _).mono ?_; rintro e w' ⟨rfl, hww⟩; rw [hww, q1]; clear hww)
    go_ret
    exact ⟨ret_int (by rw [HE.out, HG.out]; rfl), hb1⟩
  have r1 : 1 ≤ W ∧ W ≤ 64 := by simpa [wi] using q1
  cases q2 : wi H 1 64
  · have HG := Lib.hid (mazB_first (fr := fr) (tt := tt) (n := n) (wall := wall) (W := W) (H := H) (by rw [q1, q2]; rfl))
    go_wp2_with (go_at_call 67; refine (rWithin_any _ _ _ _).mono ?_; rintro e w' ⟨rfl, hww⟩; rw [hww]; first | rw [q1] | rw [q2]; clear hww)
    go_ret
    exact ⟨ret_int (by rw [HE.out, HG.out]; rfl), hb1⟩
  have r2 : 1 ≤ H ∧ H ≤ 64 := by simpa [wi] using q2
  have r1a := r1.1
  have r1b := r1.2
  have r2a := r2.1
  have r2b := r2.2
  have h0 : 0 ≤ W * H := Int.mul_nonneg (by omega) (by omega)
  have h81 : W * H ≤ 4096 := by
    have := Int.mul_le_mul r1b r2b (by omega) (by decide)
    omega
  obtain ⟨N, hN⟩ : ∃ N, N = W * H := ⟨_, rfl⟩
  have ew : IntKind.i64.wrap (W * H) = N := by rw [hN]; exact (IntWalk.i64_left _).trans (IntWalk.wrap64_in _ ⟨by omega, by omega⟩)
  have ew2 : wrap64 (W * H) = N := by rw [hN]; exact IntWalk.wrap64_in _ ⟨by omega, by omega⟩
  rw [← hN] at h0 h81
  have HN := Lib.hid hN
  clear hN r1 r2
  by_cases q3 : N ≤ 64
  · cases q4 : ((n : Int) == N)
    · have HG := Lib.hid (mazB_first (fr := fr) (tt := tt) (n := n) (wall := wall) (W := W) (H := H) (by rw [q1, q2, ← HN.out, q4, Bool.and_false]; rfl))
      have q4' : ((n : Int) != N) = true := by rw [bne, q4]; rfl
      go_wp2_with (go_at_call 67; refine (rWithin_any _ _ _ _).mono ?_; rintro e w' ⟨rfl, hww⟩; rw [hww]; first | rw [q1] | rw [q2]; clear hww)
      go_ret
      exact ⟨ret_int (by rw [HE.out, HG.out]; rfl), hb1⟩
    · have q4' : ((n : Int) != N) = false := by rw [bne, q4]; rfl
      have HL := Lib.hid (show (n : Int) = N by simpa using q4)
      have HP := Lib.hid (mazB_second (fr := fr) (tt := tt) (n := n) (wall := wall) r1a r1b r2a r2b (by rw [← HN.out]; exact q3) (by rw [← HN.out]; exact HL.out))
      have hn9 : n ≤ 64 := by have := HL.out; omega
      have ewl : IntKind.i64.wrap ((n : Int) - 1) = (n : Int) - 1 := (IntWalk.i64_left _).trans (IntWalk.wrap64_in _ ⟨by omega, by omega⟩)
      go_upto_region 4 with (go_at_call 67; refine (rWithin_any _ _ _ _).mono ?_; rintro e w' ⟨rfl, hww⟩; rw [hww]; first | rw [q1] | rw [q2]; clear hww)
      cases p1 : wi fr 0 ((n : Int) - 1)
      · have HG := Lib.hid (show mazB W H fr tt n wall = false by rw [HP.out, p1]; rfl)
        go_wp2_with (go_at_call 67; refine (rWithin_any _ _ _ _).mono ?_; rintro e w' ⟨rfl, hww⟩; rw [hww, p1]; clear hww)
        go_ret
        exact ⟨ret_int (by rw [HE.out, HG.out]; rfl), hb1⟩
      cases p2 : wi tt 0 ((n : Int) - 1)
      · have HG := Lib.hid (show mazB W H fr tt n wall = false by rw [HP.out, p1, p2]; rfl)
        go_wp2_with (go_at_call 67; refine (rWithin_any _ _ _ _).mono ?_; rintro e w' ⟨rfl, hww⟩; rw [hww]; first | rw [p1] | rw [p2]; clear hww)
        go_ret
        exact ⟨ret_int (by rw [HE.out, HG.out]; rfl), hb1⟩
      have i1 : 0 ≤ fr ∧ fr ≤ (n : Int) - 1 := by simpa [wi] using p1
      have i2 : 0 ≤ tt ∧ tt ≤ (n : Int) - 1 := by simpa [wi] using p2
      obtain ⟨f, rfl⟩ : ∃ f : Nat, fr = f := ⟨fr.toNat, by omega⟩
      obtain ⟨t, rfl⟩ : ∃ t : Nat, tt = t := ⟨tt.toNat, by omega⟩
      have hf : f < n := by omega
      have ht : t < n := by omega
      have HP2 := Lib.hid (show mazB W H f t n wall = (!wall f && !wall t) by rw [HP.out, p1, p2]; rfl)
      obtain ⟨ad, rfl, hbA, hcA⟩ := hx1 (by omega)
      have hcf := hcA f hf
      have hct := hcA t ht
      clear hcA HP i1 i2
      cases wf : wall f
      · cases wt : wall t
        · have HG := Lib.hid (show mazB W H f t n wall = true by rw [HP2.out, wf, wt]; rfl)
          rw [wf] at hcf
          rw [wt] at hct
          go_wp2_with (go_at_call 67; refine (rWithin_any _ _ _ _).mono ?_; rintro e w' ⟨rfl, hww⟩; rw [hww]; first | rw [p1] | rw [p2]; clear hww)
          go_ret
          exact ⟨ret_int (by rw [HE.out, HG.out]; rfl), hb1⟩
        · have HG := Lib.hid (show mazB W H f t n wall = false by rw [HP2.out, wf, wt]; rfl)
          rw [wf] at hcf
          rw [wt] at hct
          go_wp2_with (go_at_call 67; refine (rWithin_any _ _ _ _).mono ?_; rintro e w' ⟨rfl, hww⟩; rw [hww]; first | rw [p1] | rw [p2]; clear hww)
          go_ret
          exact ⟨ret_int (by rw [HE.out, HG.out]; rfl), hb1⟩
      · have HG := Lib.hid (show mazB W H f t n wall = false by rw [HP2.out, wf]; rfl)
        rw [wf] at hcf
        go_wp2_with (go_at_call 67; refine (rWithin_any _ _ _ _).mono ?_; rintro e w' ⟨rfl, hww⟩; rw [hww]; first | rw [p1] | rw [p2]; clear hww)
        go_ret
        exact ⟨ret_int (by rw [HE.out, HG.out]; rfl), hb1⟩
  · have HG := Lib.hid (mazB_first (fr := fr) (tt := tt) (n := n) (wall := wall) (W := W) (H := H) (by rw [q1, q2, ← HN.out, decide_eq_false q3]; rfl))
    have g1 : decide (64 < N) = true := decide_eq_true (by omega)
    have g2 : 64 < N := by omega
    go_wp2_with (go_at_call 67; refine (rWithin_any _ _ _ _).mono ?_; rintro e w' ⟨rfl, hww⟩; rw [hww]; first | rw [q1] | rw [q2]; clear hww)
    go_ret
    exact ⟨ret_int (by rw [HE.out, HG.out]; rfl), hb1⟩
end Go.Proofs.Ytfjincdlenneaaa

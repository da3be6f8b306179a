/-
  CONTRACT of the document's own answers: CheckPipes.
-/
import Derived.Test.YtglkjiimmlobbaaPzChkQ
import Derived.Test.YtglkjiimmlobbaaPzRPip
namespace Go.Proofs.Ytglkjiimmlobbaa
open Go.RowKit Go.Shelf
/-- the same as pipB, as the document's answer looks at it -/
theorem pipB_first {W H fr tt : Int} {ps : List Int} (h : (wi W 1 9 && (wi H 1 9 && (decide (W * H ≤ 9) && ((ps.length : Int) == W * H)))) = false) : pipB W H fr tt ps = false := by
  rw [pipB, gridB]
  cases h1 : wi W 1 9
  · rfl
  cases h2 : wi H 1 9
  · rfl
  rw [h1, h2] at h
  by_cases h3 : W * H ≤ 9
  · rw [decide_eq_true h3] at h
    have hw : 1 ≤ W ∧ W ≤ 9 := by simpa [wi] using h1
    have hh : 1 ≤ H ∧ H ≤ 9 := by simpa [wi] using h2
    have h0 : 0 ≤ W * H := Int.mul_nonneg (by omega) (by omega)
    have e : wrap64 (W * H) = W * H := IntWalk.wrap64_in _ ⟨by omega, by omega⟩
    rw [e, show ((ps.length : Int) == W * H) = false by simpa using h]
    simp
  · rw [decide_eq_false h3]; rfl
theorem pipB_second {W H fr tt : Int} {ps : List Int} (h1 : 1 ≤ W) (h2 : W ≤ 9) (h3 : 1 ≤ H) (h4 : H ≤ 9) (h5 : W * H ≤ 9) (h6 : (ps.length : Int) = W * H) : pipB W H fr tt ps = (inB 0 15 ps && (wi fr 0 ((ps.length : Int) - 1) && wi tt 0 ((ps.length : Int) - 1))) := by
  have h0 : 0 ≤ W * H := Int.mul_nonneg (by omega) (by omega)
  have e : wrap64 (W * H) = W * H := IntWalk.wrap64_in _ ⟨by omega, by omega⟩
  rw [pipB, gridB, e, ← h6, show wi W 1 9 = true by simp [wi]; omega, show wi H 1 9 = true by simp [wi]; omega, decide_eq_true (show (ps.length : Int) ≤ 9 by omega)]
  simp only [Bool.true_and, BEq.rfl]
  exact Bool.and_comm _ _

set_option maxRecDepth 100000 in
set_option maxHeartbeats 2000000 in
theorem checkPipes_any (W H fr tt : Int) (A : Option Addr) (c : Nat) (ps : List Int) (w : World) (hx : IntsR w w.heap.size A ps) (hl : ps.length ≤ maxLen) :
    Calls Try.prog 99 #[.agg #[I W, I H, .slice A ps.length c, I fr, I tt]] w fun e w' => e = .returned (I (if pipB W H fr tt ps then 0 else 30)) ∧ Below w.heap.size w w' := by
  have hl' := hl
  unfold maxLen at hl'
  obtain ⟨E, hE⟩ : ∃ E : Int, E = if pipB W H fr tt ps then 0 else 30 := ⟨_, rfl⟩
  rw [← hE]
  have HE := Lib.hid hE
  clear hE
  obtain ⟨w1, hw1, hs1, y0, hb1⟩ := one_box w (.cells #[I W, I H, .slice A ps.length c, I fr, I tt] 43)
  have f0 : w1.cell? ⟨w.heap.size, 0, none⟩ = some (I W) := cell_of_row w1 _ 0 _ _ _ y0
  have f1 : w1.cell? ⟨w.heap.size, 1, none⟩ = some (I H) := cell_of_row w1 _ 1 _ _ _ y0
  have f2 : w1.cell? ⟨w.heap.size, 2, none⟩ = some (.slice A ps.length c) := cell_of_row w1 _ 2 _ _ _ y0
  have f3 : w1.cell? ⟨w.heap.size, 3, none⟩ = some (I fr) := cell_of_row w1 _ 3 _ _ _ y0
  have f4 : w1.cell? ⟨w.heap.size, 4, none⟩ = some (I tt) := cell_of_row w1 _ 4 _ _ _ y0
  have hx1 := ints_call hb1 hx
  clear y0 hs1 hx
  go_enter Try.func99, Try.ntmps99
  go_upto_region 1 with fail
  rw [← hw1]
  clear hw1
  cases q1 : wi W 1 9
  · have HG := Lib.hid (pipB_first (fr := fr) (tt := tt) (ps := ps) (W := W) (H := H) (by rw [q1]; rfl))
    go_wp2_with (go_at_call 67; refine (rWithin_any _ _ _ _).mono ?_; rintro e w' ⟨rfl, hww⟩; rw [hww, q1]; clear hww)
    go_ret
    exact ⟨ret_int (by rw [HE.out, HG.out]; rfl), hb1⟩
  have r1 : 1 ≤ W ∧ W ≤ 9 := by simpa [wi] using q1
  cases q2 : wi H 1 9
  · have HG := Lib.hid (pipB_first (fr := fr) (tt := tt) (ps := ps) (W := W) (H := H) (by rw [q1, q2]; rfl))
    go_wp2_with (go_at_call 67; refine (rWithin_any _ _ _ _).mono ?_; rintro e w' ⟨rfl, hww⟩; rw [hww]; first | rw [q1] | rw [q2]; clear hww)
    go_ret
    exact ⟨ret_int (by rw [HE.out, HG.out]; rfl), hb1⟩
  have r2 : 1 ≤ H ∧ H ≤ 9 := by simpa [wi] using q2
  have r1a := r1.1
  have r1b := r1.2
  have r2a := r2.1
  have r2b := r2.2
  have h0 : 0 ≤ W * H := Int.mul_nonneg (by omega) (by omega)
  have h81 : W * H ≤ 81 := by
    have := Int.mul_le_mul r1b r2b (by omega) (by decide)
    omega
  obtain ⟨N, hN⟩ : ∃ N, N = W * H := ⟨_, rfl⟩
  have ew : IntKind.i64.wrap (W * H) = N := by rw [hN]; exact (IntWalk.i64_left _).trans (IntWalk.wrap64_in _ ⟨by omega, by omega⟩)
  have ew2 : wrap64 (W * H) = N := by rw [hN]; exact IntWalk.wrap64_in _ ⟨by omega, by omega⟩
  rw [← hN] at h0 h81
  have HN := Lib.hid hN
  clear hN r1 r2
  by_cases q3 : N ≤ 9
  · cases q4 : ((ps.length : Int) == N)
    · have HG := Lib.hid (pipB_first (fr := fr) (tt := tt) (ps := ps) (W := W) (H := H) (by rw [q1, q2, ← HN.out, q4, Bool.and_false]; rfl))
      have q4' : ((ps.length : Int) != N) = true := by rw [bne, q4]; rfl
      go_wp2_with (go_at_call 67; refine (rWithin_any _ _ _ _).mono ?_; rintro e w' ⟨rfl, hww⟩; rw [hww]; first | rw [q1] | rw [q2]; clear hww)
      go_ret
      exact ⟨ret_int (by rw [HE.out, HG.out]; rfl), hb1⟩
    · have q4' : ((ps.length : Int) != N) = false := by rw [bne, q4]; rfl
      have HL := Lib.hid (show (ps.length : Int) = N by simpa using q4)
      have HP := Lib.hid (pipB_second (fr := fr) (tt := tt) (ps := ps) r1a r1b r2a r2b (by rw [← HN.out]; exact q3) (by rw [← HN.out]; exact HL.out))
      have hn9 : ps.length ≤ 9 := by have := HL.out; omega
      go_wp2_with (go_at_call 67; refine (rWithin_any _ _ _ _).mono ?_; rintro e w' ⟨rfl, hww⟩; rw [hww]; first | rw [q1] | rw [q2]; clear hww)
      go_loopw [3] (fun i wr => ∃ k : Nat, k ≤ ps.length ∧ i = .int .i64 k ∧ Hid ((ps.take k).all (fun s => wi s 0 15) = true) ∧ wr = w1) (fun i _ => ps.length - (intOf i).toNat)
      case atStart => exact ⟨0, Nat.zero_le _, rfl, Lib.hid rfl, rfl⟩
      case round =>
        obtain ⟨k, hk, rfl, HA, rfl⟩ := hrel
        by_cases hlt : k < ps.length
        · obtain ⟨ad, rfl, hb, hc⟩ := hx1.at_ hlt
          cases hp : wi (nth ps k) 0 15
          · have h2 : inB 0 15 ps = false := not_all (fun s => wi s 0 15) ps k hlt hp
            have HG := Lib.hid (show pipB W H fr tt ps = false by rw [HP.out, h2]; rfl)
            clear h2
            go_wp2_with (go_at_call 67; refine (rWithin_any _ _ _ _).mono ?_; rintro e w' ⟨rfl, hww⟩; rw [hww, hp]; clear hww)
            go_ret
            exact ⟨ret_int (by rw [HE.out, HG.out]; rfl), hb1⟩
          · go_wp2_with (go_at_call 67; refine (rWithin_any _ _ _ _).mono ?_; rintro e w' ⟨rfl, hww⟩; rw [hww, hp]; clear hww)
            go_roundw
            case rel => exact ⟨k + 1, by omega, by go_num, Lib.hid (all_take_snoc (fun s => wi s 0 15) ps k hlt HA.out hp), trivial⟩
            case measure => simp [intOf]; omega
        · obtain rfl : k = ps.length := by omega
          have hall := HA.out
          rw [List.take_length] at hall
          have HP2 := Lib.hid (show pipB W H fr tt ps = (wi fr 0 ((ps.length : Int) - 1) && wi tt 0 ((ps.length : Int) - 1)) by rw [HP.out, show inB 0 15 ps = true from hall]; rfl)
          clear hall HA
          have ewl : IntKind.i64.wrap ((ps.length : Int) - 1) = (ps.length : Int) - 1 := (IntWalk.i64_left _).trans (IntWalk.wrap64_in _ ⟨by omega, by omega⟩)
          cases p1 : wi fr 0 ((ps.length : Int) - 1)
          · have HG := Lib.hid (show pipB W H fr tt ps = false by rw [HP2.out, p1]; rfl)
            go_wp2_with (go_at_call 67; refine (rWithin_any _ _ _ _).mono ?_; rintro e w' ⟨rfl, hww⟩; rw [hww, p1]; clear hww)
            go_ret
            exact ⟨ret_int (by rw [HE.out, HG.out]; rfl), hb1⟩
          · cases p2 : wi tt 0 ((ps.length : Int) - 1)
            · have HG := Lib.hid (show pipB W H fr tt ps = false by rw [HP2.out, p1, p2]; rfl)
              go_wp2_with (go_at_call 67; refine (rWithin_any _ _ _ _).mono ?_; rintro e w' ⟨rfl, hww⟩; rw [hww]; first | rw [p1] | rw [p2]; clear hww)
              go_ret
              exact ⟨ret_int (by rw [HE.out, HG.out]; rfl), hb1⟩
            · have HG := Lib.hid (show pipB W H fr tt ps = true by rw [HP2.out, p1, p2]; rfl)
              go_wp2_with (go_at_call 67; refine (rWithin_any _ _ _ _).mono ?_; rintro e w' ⟨rfl, hww⟩; rw [hww]; first | rw [p1] | rw [p2]; clear hww)
              go_ret
              exact ⟨ret_int (by rw [HE.out, HG.out]; rfl), hb1⟩
  · have HG := Lib.hid (pipB_first (fr := fr) (tt := tt) (ps := ps) (W := W) (H := H) (by rw [q1, q2, ← HN.out, decide_eq_false q3]; rfl))
    have g1 : decide (9 < N) = true := decide_eq_true (by omega)
    have g2 : 9 < N := by omega
    go_wp2_with (go_at_call 67; refine (rWithin_any _ _ _ _).mono ?_; rintro e w' ⟨rfl, hww⟩; rw [hww]; first | rw [q1] | rw [q2]; clear hww)
    go_ret
    exact ⟨ret_int (by rw [HE.out, HG.out]; rfl), hb1⟩
end Go.Proofs.Ytglkjiimmlobbaa

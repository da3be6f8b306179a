/-
  CONTRACT: the law PuzzlesWeighs.
-/
import Derived.Test.YtglkjiimmlobbaaPzRWgs
namespace Go.Proofs.Ytglkjiimmlobbaa
open Go.RowKit Go.Shelf
theorem bne_self (a : Int) : (a != a) = false := by simp
theorem beq_self' (a : Int) : (a == a) = true := by simp

set_option maxRecDepth 100000 in
set_option maxHeartbeats 4000000 in
theorem weighs_any (A1 A2 : Option Addr) (c1 c2 : Nat) (ws ss : List Int) (load : Int) (w : World) (hx : IntsR w w.heap.size A1 ws) (hy : IntsR w w.heap.size A2 ss) (hl : ws.length ≤ maxLen) (hls : ss.length ≤ maxLen) :
    Calls Try.prog 5 #[.slice A1 ws.length c1, .slice A2 ss.length c2, I load] w fun e w' => e = .returned (.bool true) ∧ Below w.heap.size w w' := by
  go_enter Try.func5, Try.ntmps5
  go_upto_region 1 with fail
  go_cut [20] from 13 to 20 (fun s wx => (∃ b : Bool, s = .bool b) ∧ wx = w)
  case first =>
    by_cases h1 : ws.length ≤ 8
    · have d1 : decide ((8 : Int) < (ws.length : Int)) = false := decide_eq_false (by omega)
      have d2 : decide (8 < ws.length) = false := decide_eq_false (by omega)
      go_wp2_with fail
      go_meet
      exact ⟨⟨_, rfl⟩, rfl⟩
    · have d1 : decide ((8 : Int) < (ws.length : Int)) = true := decide_eq_true (by omega)
      have d2 : decide (8 < ws.length) = true := decide_eq_true (by omega)
      go_wp2_with fail
      go_meet
      exact ⟨⟨_, rfl⟩, rfl⟩
  case rest =>
    obtain ⟨⟨b, rfl⟩, hwc⟩ := hcut
    rw [hwc]
    clear hwc
    cases b
    · go_wp2_with fail
      refine (Tips_any A1 A2 c1 c2 ws ss load w hx hy hl hls).mono ?_
      rintro e w1 ⟨rfl, hb1⟩
      have hx1 := ints_call hb1 hx
      have hy1 := ints_call hb1 hy
      go_wp2_with fail
      refine (rTips_any A1 A2 c1 c2 ws ss load w1 hx1 hy1 hl hls).mono ?_
      rintro e w2 ⟨rfl, hb2⟩
      have hx2 := ints_call hb2 hx1
      have hB2 : Below w.heap.size w w2 := hb1.trans (hb2.mono hb1.size)
      have g1 := bne_self (tipsN ws ss load)
      have g2 := bne_self (tipsE ws ss load)
      generalize tipsN ws ss load = q1 at *
      generalize tipsE ws ss load = q2 at *
      clear hb1 hb2 hx1 hy1
      go_wp2_with fail
      refine (Weigh_any A1 c1 ws load w2 hx2 hl).mono ?_
      rintro e w3 ⟨A3, c3, rfl, i3, m3, hb3⟩
      have hx3 := ints_call hb3 hx2
      have hB3 : Below w.heap.size w w3 := hB2.trans (hb3.mono hB2.size)
      clear hb3 hx2 hB2
      go_wp2_with fail
      refine (rWeigh_any A1 c1 ws load w3 hx3 hl).mono ?_
      rintro e w4 ⟨A4, c4, rfl, i4, m4, hb4⟩
      have hx4 := ints_call hb4 hx3
      have i3' := ints_call hb4 i3
      have hB4 : Below w.heap.size w w4 := hB3.trans (hb4.mono hB3.size)
      clear hb4 hx3 i3 hB3
      have g3 := bne_self (wghE ws load)
      go_wp2_with fail
      refine (sameInts_any A3 A4 c3 c4 (wghL ws load) (wghL ws load) w4 i3' i4 m3 m4).mono ?_
      rintro e w5 ⟨rfl, hb5⟩
      rw [decide_eq_true (rfl : wghL ws load = wghL ws load)]
      have hx5 := ints_call hb5 hx4
      have hB5 : Below w.heap.size w w5 := hB4.trans (hb5.mono hB4.size)
      clear hb5 hx4 i3' i4 hB4
      go_wp2_with fail
      refine (Weighings_any A1 c1 ws load w5 hx5 hl).mono ?_
      rintro e w6 ⟨rfl, hb6⟩
      have hx6 := ints_call hb6 hx5
      have hB6 : Below w.heap.size w w6 := hB5.trans (hb6.mono hB5.size)
      clear hb6 hx5 hB5
      go_wp2_with fail
      refine (rWeighings_any A1 c1 ws load w6 hx6 hl).mono ?_
      rintro e w7 ⟨rfl, hb7⟩
      have hB7 : Below w.heap.size w w7 := hB6.trans (hb7.mono hB6.size)
      have g4 := beq_self' (wghN ws load)
      have g5 := beq_self' (wghF ws load)
      generalize ((wghN ws load : Nat) : Int) = q3 at *
      generalize wghF ws load = q4 at *
      clear hb7 hx6 hB6
      go_wp2_with fail
      refine (works_any w7).mono ?_
      rintro e w8 ⟨rfl, hb8⟩
      go_wp2
      go_ret
      exact ⟨rfl, hB7.trans (hb8.mono hB7.size)⟩
    · go_wp2_with fail
      refine (works_any w).mono ?_
      rintro e w3 ⟨rfl, hb3⟩
      go_wp2
      go_ret
      exact ⟨rfl, hb3⟩
end Go.Proofs.Ytglkjiimmlobbaa

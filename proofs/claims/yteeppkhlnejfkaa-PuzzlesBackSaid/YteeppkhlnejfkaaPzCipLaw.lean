/-
  CONTRACT: the law PuzzlesCiphers.
-/
import Derived.Test.YteeppkhlnejfkaaPzCrkB
import Derived.Test.YteeppkhlnejfkaaPzWorks
import Derived.Test.YteeppkhlnejfkaaPzWei
import Derived.Test.YteeppkhlnejfkaaPzSame
namespace Go.Proofs.Yteeppkhlnejfkaa
open Go.RowKit Go.Shelf
theorem bne_self_int (a : Int) : (a != a) = false := by simp
theorem beq_self_int (a : Int) : (a == a) = true := by simp
theorem beq_self_bytes (a : ByteArray) : (a.toList == a.toList) = true := by simp
theorem g4_no {n : Nat} (h : n ≤ 400) : decide ((400 : Int) < (n : Int)) = false ∧ ¬ (400 : Int) < (n : Int) ∧ decide (400 < n) = false ∧ ¬ 400 < n :=
  ⟨decide_eq_false (by omega), by omega, decide_eq_false (by omega), by omega⟩
theorem g4_yes {n : Nat} (h : ¬ n ≤ 400) : decide ((400 : Int) < (n : Int)) = true ∧ (400 : Int) < (n : Int) ∧ decide (400 < n) = true ∧ 400 < n :=
  ⟨decide_eq_true (by omega), by omega, decide_eq_true (by omega), by omega⟩

set_option maxRecDepth 100000 in
set_option maxHeartbeats 2000000 in
theorem ciphers_any (s key p : ByteArray) (n m : Int) (back : Bool) (w : World) (hm : w.cell? ⟨0, 0, none⟩ = some (.int .i64 m)) (hm0 : 0 < w.heap.size) (hs : s.size ≤ maxLen) (hk : key.size ≤ maxLen) (hp : p.size ≤ maxLen) :
    Calls Try.prog 3 #[.string s, .agg #[I n, .string key, .bool back], .string p] w fun e w' => e = .returned (.bool true) ∧ Below w.heap.size w w' := by
  have hs' := hs
  have hp' := hp
  unfold maxLen at hs' hp'
  go_enter Try.func3, Try.ntmps3
  obtain ⟨w1, hw1, hs1, y0, hb1⟩ := one_box w (.cells #[I n, .string key, .bool back] 23)
  have b0 : w1.cell? ⟨w.heap.size, 0, none⟩ = some (I n) := cell_of_row w1 _ 0 _ _ _ y0
  have b1 : w1.cell? ⟨w.heap.size, 1, none⟩ = some (.string key) := cell_of_row w1 _ 1 _ _ _ y0
  have b2 : w1.cell? ⟨w.heap.size, 2, none⟩ = some (.bool back) := cell_of_row w1 _ 2 _ _ _ y0
  go_upto_region 1 with fail
  rw [← hw1]
  have Y0 := Lib.hid y0
  have hm1 := (hb1.cell (p := ⟨0, 0, none⟩) hm0).trans hm
  clear hw1 y0
  by_cases h1 : s.size ≤ 400
  · obtain ⟨g1, g2, g3, g4⟩ := g4_no h1
    by_cases h2 : p.size ≤ 400
    · obtain ⟨k1, k2, k3, k4⟩ := g4_no h2
      go_wp2_with fail
      refine (pShift_any n s w1 hs).mono ?_
      rintro e w2 ⟨rfl, hb2⟩
      have z0 := (hb2.block _ (by omega)).trans Y0.out
      have b0 : w2.cell? ⟨w.heap.size, 0, none⟩ = some (I n) := cell_of_row w2 _ 0 _ _ _ z0
      have hB2 : Below w.heap.size w w2 := hb1.trans (hb2.mono (by omega))
      have hs2 : w.heap.size + 1 ≤ w2.heap.size := by have := hb2.size; omega
      clear hb1 hb2 b1 b2
      go_wp2_with fail
      refine (rShift_any n s w2 hs).mono ?_
      rintro e w3 ⟨rfl, hb3⟩
      have x0 := (hb3.block _ (by omega)).trans z0
      have b1 : w3.cell? ⟨w.heap.size, 1, none⟩ = some (.string key) := cell_of_row w3 _ 1 _ _ _ x0
      have b2 : w3.cell? ⟨w.heap.size, 2, none⟩ = some (.bool back) := cell_of_row w3 _ 2 _ _ _ x0
      have hB3 : Below w.heap.size w w3 := hB2.trans (hb3.mono hB2.size)
      have hs3 : w.heap.size + 1 ≤ w3.heap.size := by have := hb3.size; omega
      have X0 := Lib.hid x0
      have e1 := bne_self_int (shE s n)
      have e2 := beq_self_bytes (shV s n)
      generalize shE s n = q1 at *
      generalize shV s n = q2 at *
      clear hb3 hB2 b0 z0 x0 Y0
      go_wp2_with fail
      refine (pMix_any s key back w3 hs hk).mono ?_
      rintro e w4 ⟨rfl, hb4⟩
      have z0 := (hb4.block _ (by omega)).trans X0.out
      have b1 : w4.cell? ⟨w.heap.size, 1, none⟩ = some (.string key) := cell_of_row w4 _ 1 _ _ _ z0
      have b2 : w4.cell? ⟨w.heap.size, 2, none⟩ = some (.bool back) := cell_of_row w4 _ 2 _ _ _ z0
      have hB4 : Below w.heap.size w w4 := hB3.trans (hb4.mono hB3.size)
      clear z0 hb4 hB3 e1 e2 X0
      go_wp2_with fail
      refine (rMix_any s key back w4 hs hk).mono ?_
      rintro e w5 ⟨rfl, hb5⟩
      have hB5 : Below w.heap.size w w5 := hB4.trans (hb5.mono hB4.size)
      have e1 := bne_self_int (mxE s key)
      have e2 := beq_self_bytes (mxV s key back)
      generalize mxE s key = q3 at *
      generalize mxV s key back = q4 at *
      have hm5 := (hB5.cell (p := ⟨0, 0, none⟩) hm0).trans hm
      clear hb5 hB4 b1 b2
      go_wp2_with fail
      refine (pCrack_any s p m w5 hm5 (by have := hB5.size; omega) hs hp).mono ?_
      rintro e w6 ⟨A1, c1, rfl, hi1, hb6⟩
      have hB6 : Below w.heap.size w w6 := hB5.trans (hb6.mono hB5.size)
      clear hb6 hB5 hm5 e1 e2
      go_wp2_with fail
      refine (rCrack_any s p w6 hs hp).mono ?_
      rintro e w7 ⟨A2, c2, rfl, hi2, hb7⟩
      have hi1' := ints_call hb7 hi1
      have hB7 : Below w.heap.size w w7 := hB6.trans (hb7.mono hB6.size)
      have e1 := beq_self_int (ckE s p)
      have hlen : (ckV s p).length ≤ 26 := by
        rw [ckV]; split
        · exact hits_len s p 26
        · simp
      generalize ckE s p = q5 at *
      generalize ckV s p = L at *
      have hlm : L.length ≤ maxLen := by unfold maxLen; omega
      clear hb7 hi1 hB6
      go_wp2_with fail
      refine (sameInts_any A1 A2 c1 c2 L L w7 hi1' hi2 hlm hlm).mono ?_
      rintro e w8 ⟨rfl, hb8⟩
      have hB8 : Below w.heap.size w w8 := hB7.trans (hb8.mono hB7.size)
      clear hb8 hi1' hi2 hB7
      go_wp2_with fail
      refine (works_any w8).mono ?_
      rintro e w9 ⟨rfl, hb9⟩
      go_wp2
      go_ret
      exact ⟨rfl, hB8.trans (hb9.mono hB8.size)⟩
    · obtain ⟨k1, k2, k3, k4⟩ := g4_yes h2
      go_wp2_with fail
      refine (works_any w1).mono ?_
      rintro e w9 ⟨rfl, hb9⟩
      go_wp2
      go_ret
      exact ⟨rfl, hb1.trans (hb9.mono hb1.size)⟩
  · obtain ⟨g1, g2, g3, g4⟩ := g4_yes h1
    go_wp2_with fail
    refine (works_any w1).mono ?_
    rintro e w9 ⟨rfl, hb9⟩
    go_wp2
    go_ret
    exact ⟨rfl, hb1.trans (hb9.mono hb1.size)⟩
end Go.Proofs.Yteeppkhlnejfkaa

/-
  CONTRACT: the law CodesReads.
-/
import Derived.Test.YthegmomjfbcabaaDoorShows
namespace Go.Proofs.YthegmomjfbcabaaDoor
open Go.RowKit

set_option maxRecDepth 100000 in
set_option maxHeartbeats 4000000 in
theorem reads_law (W S : Int) (A : Option Addr) (c : Nat) (cs : List Cl) (most : Int) (w : World) (hT : Tab w) (hx : ClsR w w.heap.size A cs) (hl : cs.length ≤ maxLen) :
    Calls Tryd.prog 6 #[lockV W S, .slice A cs.length c, .int .i64 most] w fun e w' => e = .returned (.bool true) ∧ Below w.heap.size w w' := by
  go_enter Tryd.func6, Tryd.ntmps6
  go_wp2_with fail
  obtain ⟨w1, hw1⟩ : ∃ w1, w1 = w.alloc (.cells #[I W, I S] 23) := ⟨_, rfl⟩
  rw [← hw1]
  have l0 : w1.cell? ⟨w.heap.size, 0, none⟩ = some (I W) := by rw [hw1]; exact alloc_cell _ _ _ 0
  have l1 : w1.cell? ⟨w.heap.size, 1, none⟩ = some (I S) := by rw [hw1]; exact alloc_cell _ _ _ 1
  have hb1 : Below w.heap.size w w1 := by rw [hw1]; exact (Below.refl _ _).alloc (Nat.le_refl _) _
  have s1 : w.heap.size < w1.heap.size := by rw [hw1]; simp
  have hx1 := cls_call hb1 hx
  have hT1 := hT.below hb1
  clear hw1 hx hT
  refine (Count_any W S A c cs w1 hT1 hx1 hl).mono ?_
  rintro e w2 ⟨rfl, hb2⟩
  have l0 := (hb2.cell (p := ⟨w.heap.size, 0, none⟩) s1).trans l0
  have l1 := (hb2.cell (p := ⟨w.heap.size, 1, none⟩) s1).trans l1
  have hx2 := cls_call hb2 hx1
  have hT2 := hT1.below hb2
  have s2 : w.heap.size < w2.heap.size := by have := hb2.size; omega
  have hbb2 : Below w.heap.size w w2 := hb1.trans (hb2.mono (by omega))
  clear hb1 hb2 hx1 hT1
  go_wp2_with fail
  refine (rCount_any W S A c cs w2 hx2 hl).mono ?_
  rintro e w3 ⟨rfl, hb3⟩
  have l0 := (hb3.cell (p := ⟨w.heap.size, 0, none⟩) s2).trans l0
  have l1 := (hb3.cell (p := ⟨w.heap.size, 1, none⟩) s2).trans l1
  have hx3 := cls_call hb3 hx2
  have hT3 := hT2.below hb3
  have s3 : w.heap.size < w3.heap.size := by have := hb3.size; omega
  have hbb3 : Below w.heap.size w w3 := hbb2.trans (hb3.mono (by omega))
  clear hbb2 hb3 hx2 hT2
  have e1 : (cntN W S cs != cntN W S cs) = false := by simp
  have e2 : (cntE W S cs != cntE W S cs) = false := by simp
  go_wp2_with fail
  refine (Readings_any W S A c cs most w3 hT3 hx3 hl).mono ?_
  rintro e w4 ⟨A4, c4, rfl, r4, m4, hb4⟩
  have l0 := (hb4.cell (p := ⟨w.heap.size, 0, none⟩) s3).trans l0
  have l1 := (hb4.cell (p := ⟨w.heap.size, 1, none⟩) s3).trans l1
  have hx4 := cls_call hb4 hx3
  have hT4 := hT3.below hb4
  have s4 : w.heap.size < w4.heap.size := by have := hb4.size; omega
  have hbb4 : Below w.heap.size w w4 := hbb3.trans (hb4.mono (by omega))
  clear hbb3 hb4 hx3 hT3
  go_wp2_with fail
  refine (rReadings_any W S A c cs most w4 hx4 hl).mono ?_
  rintro e w5 ⟨A5, c5, rfl, r5, m5, hb5⟩
  have l0 := (hb5.cell (p := ⟨w.heap.size, 0, none⟩) s4).trans l0
  have l1 := (hb5.cell (p := ⟨w.heap.size, 1, none⟩) s4).trans l1
  have hx5 := cls_call hb5 hx4
  have hT5 := hT4.below hb5
  have s5 : w.heap.size < w5.heap.size := by have := hb5.size; omega
  have hbb5 : Below w.heap.size w w5 := hbb4.trans (hb5.mono (by omega))
  have r4 := sls_call hb5 r4
  clear hbb4 hb5 hx4 hT4
  have e3 : (rdE W S cs most != rdE W S cs most) = false := by simp
  go_wp2_with fail
  refine (sameLists_any A4 A5 c4 c5 (rdL W S cs most) (rdL W S cs most) w5 r4 r5 m4 m5).mono ?_
  rintro e w6 ⟨rfl, hb6⟩
  rw [decide_eq_true (rfl : rdL W S cs most = rdL W S cs most)]
  have l0 := (hb6.cell (p := ⟨w.heap.size, 0, none⟩) s5).trans l0
  have l1 := (hb6.cell (p := ⟨w.heap.size, 1, none⟩) s5).trans l1
  have hx6 := cls_call hb6 hx5
  have hT6 := hT5.below hb6
  have s6 : w.heap.size < w6.heap.size := by have := hb6.size; omega
  have hbb6 : Below w.heap.size w w6 := hbb5.trans (hb6.mono (by omega))
  clear hbb5 hb6 hx5 hT5
  go_wp2_with fail
  refine (Shows_any W S A c cs w6 hT6 hx6 hl).mono ?_
  rintro e w7 ⟨A7, c7, rfl, r7, m7, hb7⟩
  have l0 := (hb7.cell (p := ⟨w.heap.size, 0, none⟩) s6).trans l0
  have l1 := (hb7.cell (p := ⟨w.heap.size, 1, none⟩) s6).trans l1
  have hx7 := cls_call hb7 hx6
  have hT7 := hT6.below hb7
  have s7 : w.heap.size < w7.heap.size := by have := hb7.size; omega
  have hbb7 : Below w.heap.size w w7 := hbb6.trans (hb7.mono (by omega))
  clear hbb6 hb7 hx6 hT6
  go_wp2_with fail
  refine (rShows_any W S A c cs w7 hx7 hl).mono ?_
  rintro e w8 ⟨A8, c8, rfl, r8, m8, hb8⟩
  have l0 := (hb8.cell (p := ⟨w.heap.size, 0, none⟩) s7).trans l0
  have l1 := (hb8.cell (p := ⟨w.heap.size, 1, none⟩) s7).trans l1
  have hx8 := cls_call hb8 hx7
  have hT8 := hT7.below hb8
  have s8 : w.heap.size < w8.heap.size := by have := hb8.size; omega
  have hbb8 : Below w.heap.size w w8 := hbb7.trans (hb8.mono (by omega))
  have r7 := sls_call hb8 r7
  clear hbb7 hb8 hx7 hT7
  have e4 : (cntE W S cs == cntE W S cs) = true := by simp
  go_wp2_with fail
  refine (sameLists_any A7 A8 c7 c8 (shwL W S cs) (shwL W S cs) w8 r7 r8 m7 m8).mono ?_
  rintro e w9 ⟨rfl, hb9⟩
  rw [decide_eq_true (rfl : shwL W S cs = shwL W S cs)]
  have l0 := (hb9.cell (p := ⟨w.heap.size, 0, none⟩) s8).trans l0
  have l1 := (hb9.cell (p := ⟨w.heap.size, 1, none⟩) s8).trans l1
  have hx9 := cls_call hb9 hx8
  have hT9 := hT8.below hb9
  have s9 : w.heap.size < w9.heap.size := by have := hb9.size; omega
  have hbb9 : Below w.heap.size w w9 := hbb8.trans (hb9.mono (by omega))
  clear hbb8 hb9 hx8 hT8
  go_wp2_with fail
  refine (works_any w9 hT9).mono ?_
  rintro e w10 ⟨rfl, hb10⟩
  go_wp2
  go_ret
  exact ⟨rfl, hbb9.trans (hb10.mono (by omega))⟩
end Go.Proofs.YthegmomjfbcabaaDoor

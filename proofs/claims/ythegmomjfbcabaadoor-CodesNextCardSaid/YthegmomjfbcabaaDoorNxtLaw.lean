/-
  CONTRACT: the law CodesNext.
-/
import Derived.Test.YthegmomjfbcabaaDoorNext
namespace Go.Proofs.YthegmomjfbcabaaDoor
open Go.RowKit

set_option maxRecDepth 100000 in
set_option maxHeartbeats 4000000 in
theorem next_law (W S : Int) (A : Option Addr) (c : Nat) (cs : List Cl) (w : World) (hT : Tab w) (hx : ClsR w w.heap.size A cs) (hl : cs.length ≤ maxLen) :
    Calls Tryd.prog 10 #[lockV W S, .slice A cs.length c] w fun e w' => e = .returned (.bool true) ∧ Below w.heap.size w w' := by
  go_enter Tryd.func10, Tryd.ntmps10
  go_wp2_with fail
  obtain ⟨w1, hw1⟩ : ∃ w1, w1 = w.alloc (.cells #[I W, I S] 23) := ⟨_, rfl⟩
  rw [← hw1]
  have l0 : w1.cell? ⟨w.heap.size, 0, none⟩ = some (I W) := by rw [hw1]; exact alloc_cell _ _ _ 0
  have l1 : w1.cell? ⟨w.heap.size, 1, none⟩ = some (I S) := by rw [hw1]; exact alloc_cell _ _ _ 1
  have hb1 : Below w.heap.size w w1 := by rw [hw1]; exact (Below.refl _ _).alloc (Nat.le_refl _) _
  have s1 : w.heap.size < w1.heap.size := by rw [hw1]; simp
  have hx1 := cls_call hb1 hx
  have hT1 := hT.below hb1
  clear hw1 hx hT
  refine (rCount_any W S A c cs w1 hx1 hl).mono ?_
  rintro e w2 ⟨rfl, hb2⟩
  have l0 := (hb2.cell (p := ⟨w.heap.size, 0, none⟩) s1).trans l0
  have l1 := (hb2.cell (p := ⟨w.heap.size, 1, none⟩) s1).trans l1
  have hx2 := cls_call hb2 hx1
  have hT2 := hT1.below hb2
  have s2 : w.heap.size < w2.heap.size := by have := hb2.size; omega
  have hbb2 : Below w.heap.size w w2 := hb1.trans (hb2.mono (by omega))
  clear hb1 hb2 hx1 hT1
  go_upto_region 2 with fail
  go_cut [28] (fun s wx => (∃ b : Bool, s = .bool b) ∧ wx = w2)
  case first =>
    by_cases he : cntE W S cs = 0
    · have g1 : (cntE W S cs == 0) = true := by simp [he]
      clear he
      by_cases h1 : (60 : Int) < cntN W S cs
      · have g2 : decide ((60 : Int) < cntN W S cs) = true := decide_eq_true h1
        by_cases h2 : cntN W S cs ≤ 200
        · have g3 : decide (cntN W S cs ≤ 200) = true := decide_eq_true h2
          go_wp2_with fail
          go_meet
          exact ⟨⟨_, rfl⟩, rfl⟩
        · have g3 : decide (cntN W S cs ≤ 200) = false := decide_eq_false h2
          go_wp2_with fail
          go_meet
          exact ⟨⟨_, rfl⟩, rfl⟩
      · have g2 : decide ((60 : Int) < cntN W S cs) = false := decide_eq_false h1
        go_wp2_with fail
        go_meet
        exact ⟨⟨_, rfl⟩, rfl⟩
    · have g1 : (cntE W S cs == 0) = false := by simpa using he
      clear he
      go_wp2_with fail
      go_meet
      exact ⟨⟨_, rfl⟩, rfl⟩
  case rest =>
    obtain ⟨⟨b, rfl⟩, hw2⟩ := hcut
    rw [hw2]
    clear hw2
    cases b
    · go_wp2_with fail
      refine (Next_any W S A c cs w2 hT2 hx2 hl).mono ?_
      rintro e w3 ⟨A3, c3, rfl, i3, m3, hb3⟩
      have l0 := (hb3.cell (p := ⟨w.heap.size, 0, none⟩) s2).trans l0
      have l1 := (hb3.cell (p := ⟨w.heap.size, 1, none⟩) s2).trans l1
      have hx3 := cls_call hb3 hx2
      have hT3 := hT2.below hb3
      have s3 : w.heap.size < w3.heap.size := by have := hb3.size; omega
      have hbb3 : Below w.heap.size w w3 := hbb2.trans (hb3.mono (by omega))
      clear hbb2 hb3 hx2 hT2
      go_wp2_with fail
      refine (rNext_any W S A c cs w3 hx3 hl).mono ?_
      rintro e w4 ⟨A4, c4, rfl, i4, m4, hb4⟩
      have i3 := ints_call hb4 i3
      have hT4 := hT3.below hb4
      have hbb4 : Below w.heap.size w w4 := hbb3.trans (hb4.mono (by omega))
      have s4 := hbb4.size
      clear hbb3 hb4 hx3 hT3 l0 l1
      have e1 : (nxN W S cs == nxN W S cs) = true := by simp
      have e2 : (nxE W S cs == nxE W S cs) = true := by simp
      go_wp2_with fail
      refine (SameInts_any A3 A4 c3 c4 (nxG W S cs) (nxG W S cs) w4 i3 i4 m3 m4).mono ?_
      rintro e w5 ⟨rfl, hb5⟩
      rw [decide_eq_true (rfl : nxG W S cs = nxG W S cs)]
      have hT5 := hT4.below hb5
      have hbb5 : Below w.heap.size w w5 := hbb4.trans (hb5.mono (by omega))
      have s5 := hbb5.size
      clear hbb4 hb5 hT4
      go_wp2_with fail
      refine (works_any w5 hT5).mono ?_
      rintro e w6 ⟨rfl, hb6⟩
      go_wp2
      go_ret
      exact ⟨rfl, hbb5.trans (hb6.mono (by omega))⟩
    · go_wp2_with fail
      refine (works_any w2 hT2).mono ?_
      rintro e w3 ⟨rfl, hb3⟩
      go_wp2
      go_ret
      exact ⟨rfl, hbb2.trans (hb3.mono (by omega))⟩
end Go.Proofs.YthegmomjfbcabaaDoor

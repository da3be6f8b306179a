/-
  CONTRACT: padlockref01.isClue at kind 6 and at none.
-/
import Derived.Test.YthegmomjfbcabaaDoorSameClue
namespace Go.Proofs.YthegmomjfbcabaaDoor
open Go.RowKit
set_option maxRecDepth 100000 in
set_option maxHeartbeats 4000000 in
theorem isClue_6 (W S a b n m : Int) (g : List Int) (ng : Bool) (A : Option Addr) (cap : Nat) (w : World) (hg : IntsR w w.heap.size A g) (lg : g.length ≤ maxLen) :
    Calls Tryd.prog 65 #[lockV W S, clV ⟨6, a, b, n, m, g, ng⟩ A cap] w fun e w' => e = .returned (.bool (clueB W S ⟨6, a, b, n, m, g, ng⟩)) ∧ Below w.heap.size w w' := by
  obtain ⟨w1, hw1⟩ : ∃ w1, w1 = (w.alloc (.cells #[I W, I S] 23)).alloc (.cells #[I 6, I a, I b, I n, I m, .slice A g.length cap, .bool ng] 26) := ⟨_, rfl⟩
  have l0 : w1.cell? ⟨w.heap.size, 0, none⟩ = some (I W) := by rw [hw1]; exact (World.cell?_alloc_lt _ _ _ (by simp)).trans (alloc_cell _ _ _ 0)
  have l1 : w1.cell? ⟨w.heap.size, 1, none⟩ = some (I S) := by rw [hw1]; exact (World.cell?_alloc_lt _ _ _ (by simp)).trans (alloc_cell _ _ _ 1)
  have bc := fun i => (by rw [hw1]; exact alloc_cell' _ _ _ _ i (by simp) : w1.cell? ⟨w.heap.size + 1, i, none⟩ = (#[I 6, I a, I b, I n, I m, .slice A g.length cap, .bool ng] : Array Value)[i]?)
  have q0 : w1.cell? ⟨w.heap.size + 1, 0, none⟩ = some (I 6) := bc 0
  have q1 : w1.cell? ⟨w.heap.size + 1, 1, none⟩ = some (I a) := bc 1
  have q2 : w1.cell? ⟨w.heap.size + 1, 2, none⟩ = some (I b) := bc 2
  have q3 : w1.cell? ⟨w.heap.size + 1, 3, none⟩ = some (I n) := bc 3
  have q4 : w1.cell? ⟨w.heap.size + 1, 4, none⟩ = some (I m) := bc 4
  have q5 : w1.cell? ⟨w.heap.size + 1, 5, none⟩ = some (.slice A g.length cap) := bc 5
  have q6 : w1.cell? ⟨w.heap.size + 1, 6, none⟩ = some (.bool ng) := bc 6
  have hb1 : Below w.heap.size w w1 := by rw [hw1]; exact two_boxes _ _ _
  have s0 : w.heap.size < w1.heap.size := by rw [hw1]; simp; omega
  have s1 : w.heap.size + 1 < w1.heap.size := by rw [hw1]; simp
  have hg1 := ints_call hb1 hg
  have HW := Lib.hid hw1
  clear bc hw1 hg
  have eW := IntWalk.i64_left (W - 1)
  go_enter Tryd.func65, Tryd.ntmps65
  go_upto_region 1 with fail
  try rw [← HW.out]
  go_cut [5, 6] (fun s5 s6 wx => s5 = .bool (wi a 0 (wrap64 (W - 1))) ∧ s6 = .bool (wi b 0 (wrap64 (W - 1))) ∧ KeptS w1 wx)
  case first =>
    go_region_held3 (fun w' => Below w1.heap.size w1 w' ∧ (∀ b o, b < w1.heap.size → w'.cell? ⟨b, o, none⟩ = w1.cell? ⟨b, o, none⟩))
      (first | exact keptS_drew _ | exact keptS_call (by assumption) hb | assumption)
      ((go_at_call 62; go_must (refine (Within_any _ _ _ _).mono ?_); rintro e w' ⟨rfl, rfl⟩))
    all_goals
      go_wp2_with fail
      go_meet
      exact ⟨rfl, rfl, by assumption⟩
  case rest =>
    obtain ⟨rfl, rfl, hk⟩ := hcut
    have hkb := hk.1
    have hg2 := kept_ints hk hg1
    have k0 := (hk.2 _ 0 s0).trans l0
    have k1 := (hk.2 _ 1 s0).trans l1
    have p0 := (hk.2 _ 0 s1).trans q0
    have p1 := (hk.2 _ 1 s1).trans q1
    have p2 := (hk.2 _ 2 s1).trans q2
    have p3 := (hk.2 _ 3 s1).trans q3
    have p4 := (hk.2 _ 4 s1).trans q4
    have p5 := (hk.2 _ 5 s1).trans q5
    have p6 := (hk.2 _ 6 s1).trans q6
    have hbc : Below w.heap.size w wc := hb1.trans (hkb.mono (by omega))
    have t0 : w.heap.size < wc.heap.size := by have := hkb.size; omega
    have t1 : w.heap.size + 1 < wc.heap.size := by have := hkb.size; omega
    clear hk hkb l0 l1 q0 q1 q2 q3 q4 q5 q6 hg1 HW hb1
    go_wp2_with fail
    obtain ⟨wa, hwa⟩ : ∃ wa, wa = wc.alloc (.cells #[I 6, I 0, I 0, I 0, I 0, .slice none 0 0, .bool ng] 26) := ⟨_, rfl⟩
    rw [← hwa]
    have hba : Below wc.heap.size wc wa := by rw [hwa]; exact (Below.refl _ _).alloc (Nat.le_refl _) _
    have hua : wa.heap[wc.heap.size]? = some (.cells #[I 6, I 0, I 0, I 0, I 0, .slice none 0 0, .bool ng] 26 (0, 0)) := by rw [hwa]; exact alloc_obj _ _ _ rfl
    have hsa : wa.heap.size = wc.heap.size + 1 := by rw [hwa]; simp
    clear hwa
    have hga := ints_call hba hg2
    refine (isCode_any W S A cap g wa hga lg).mono ?_
    rintro e w2 ⟨rfl, hb2⟩
    have hbb := hba.trans (hb2.mono (by omega))
    have k0 := (hbb.cell (p := ⟨w.heap.size, 0, none⟩) t0).trans k0
    have k1 := (hbb.cell (p := ⟨w.heap.size, 1, none⟩) t0).trans k1
    have p0 := (hbb.cell (p := ⟨w.heap.size + 1, 0, none⟩) t1).trans p0
    have p1 := (hbb.cell (p := ⟨w.heap.size + 1, 1, none⟩) t1).trans p1
    have p2 := (hbb.cell (p := ⟨w.heap.size + 1, 2, none⟩) t1).trans p2
    have p3 := (hbb.cell (p := ⟨w.heap.size + 1, 3, none⟩) t1).trans p3
    have p4 := (hbb.cell (p := ⟨w.heap.size + 1, 4, none⟩) t1).trans p4
    have p5 := (hbb.cell (p := ⟨w.heap.size + 1, 5, none⟩) t1).trans p5
    have p6 := (hbb.cell (p := ⟨w.heap.size + 1, 6, none⟩) t1).trans p6
    have hu2 := (hb2.block _ (by omega)).trans hua
    have u0 : w2.cell? ⟨wc.heap.size, 0, none⟩ = some (I 6) := cell_of_row w2 _ 0 _ _ _ hu2
    have u1 : w2.cell? ⟨wc.heap.size, 1, none⟩ = some (I 0) := cell_of_row w2 _ 1 _ _ _ hu2
    have u2 : w2.cell? ⟨wc.heap.size, 2, none⟩ = some (I 0) := cell_of_row w2 _ 2 _ _ _ hu2
    have u3 : w2.cell? ⟨wc.heap.size, 3, none⟩ = some (I 0) := cell_of_row w2 _ 3 _ _ _ hu2
    have u4 : w2.cell? ⟨wc.heap.size, 4, none⟩ = some (I 0) := cell_of_row w2 _ 4 _ _ _ hu2
    have u5 : w2.cell? ⟨wc.heap.size, 5, none⟩ = some (.slice none 0 0) := cell_of_row w2 _ 5 _ _ _ hu2
    have u6 : w2.cell? ⟨wc.heap.size, 6, none⟩ = some (.bool ng) := cell_of_row w2 _ 6 _ _ _ hu2
    have uf := fun i => frozen_of_row hu2 i
    have hg3 := hg2.below hbb (Nat.le_refl _)
    have hbc2 : Below w.heap.size w w2 := hbc.trans (hbb.mono (by omega))
    have s2 : wc.heap.size < w2.heap.size := by have := hb2.size; omega
    clear hb2 hbb hba hua hsa hga hg2 hbc
    cases hc : codeB W S g
    · have V := Lib.hid (show clueB W S ⟨6, a, b, n, m, g, ng⟩ = false by simp [clueB, rangeB, hc])
      go_wp2_with fail
      go_ret
      exact ⟨ret_bool V.out.symm, ((hbc2.setCell (by show w.heap.size ≤ wc.heap.size; omega) _).setCell (by show w.heap.size ≤ wc.heap.size; omega) _).setCell (by show w.heap.size ≤ wc.heap.size; omega) _⟩
    cases hn : wi n 0 W
    · have V := Lib.hid (show clueB W S ⟨6, a, b, n, m, g, ng⟩ = false by simp [clueB, rangeB, hn])
      go_wp2_with fail
      refine (Within_any _ _ _ _).mono ?_
      rw [hn]
      rintro e w' ⟨rfl, rfl⟩
      go_wp2_with fail
      go_ret
      exact ⟨ret_bool V.out.symm, ((hbc2.setCell (by show w.heap.size ≤ wc.heap.size; omega) _).setCell (by show w.heap.size ≤ wc.heap.size; omega) _).setCell (by show w.heap.size ≤ wc.heap.size; omega) _⟩
    cases hm : wi m 0 W
    · have V := Lib.hid (show clueB W S ⟨6, a, b, n, m, g, ng⟩ = false by simp [clueB, rangeB, hm])
      go_wp2_with fail
      refine (Within_any _ _ _ _).mono ?_
      rw [hn]
      rintro e w' ⟨rfl, rfl⟩
      go_wp2_with fail
      refine (Within_any _ _ _ _).mono ?_
      rw [hm]
      rintro e w' ⟨rfl, rfl⟩
      go_wp2_with fail
      go_ret
      exact ⟨ret_bool V.out.symm, ((hbc2.setCell (by show w.heap.size ≤ wc.heap.size; omega) _).setCell (by show w.heap.size ≤ wc.heap.size; omega) _).setCell (by show w.heap.size ≤ wc.heap.size; omega) _⟩
    have V := Lib.hid (show clueB W S ⟨6, a, b, n, m, g, ng⟩ = sameB ⟨6, a, b, n, m, g, ng⟩ ⟨6, 0, 0, n, m, g, ng⟩ by
      simp [clueB, spareB, rangeB, sameB, hc, hn, hm]
      try simp [wi])
    go_wp2_with fail
    refine (Within_any _ _ _ _).mono ?_
    rw [hn]
    rintro e w' ⟨rfl, rfl⟩
    go_wp2_with fail
    refine (Within_any _ _ _ _).mono ?_
    rw [hm]
    rintro e w' ⟨rfl, rfl⟩
    go_wp2_with fail
    have hbs : Below wc.heap.size w2 (((w2.setCell ⟨wc.heap.size, 3, none⟩ (I n)).setCell ⟨wc.heap.size, 4, none⟩ (I m)).setCell ⟨wc.heap.size, 5, none⟩ (.slice A g.length cap)) := (((Below.refl _ _).setCell (p := ⟨wc.heap.size, 3, none⟩) (Nat.le_refl _) _).setCell (p := ⟨wc.heap.size, 4, none⟩) (Nat.le_refl _) _).setCell (p := ⟨wc.heap.size, 5, none⟩) (Nat.le_refl _) _
    have hg4 := (hg3.below hbs (Nat.le_refl _)).more (B' := (((w2.setCell ⟨wc.heap.size, 3, none⟩ (I n)).setCell ⟨wc.heap.size, 4, none⟩ (I m)).setCell ⟨wc.heap.size, 5, none⟩ (.slice A g.length cap)).heap.size) (by have := hbs.size; omega)
    refine (SameClue_any 6 a b n m g ng 6 0 0 n m g ng A A cap cap _ hg4 hg4 lg lg).mono ?_
    rintro e w3 ⟨rfl, hb3⟩
    go_wp2_with fail
    go_ret
    exact ⟨ret_bool V.out.symm, (hbc2.trans (hbs.mono (by omega))).trans (hb3.mono (by have := hbs.size; omega))⟩

set_option maxRecDepth 100000 in
set_option maxHeartbeats 4000000 in
theorem isClue_0 (W S k a b n m : Int) (hk : ¬(1 ≤ k ∧ k ≤ 7)) (g : List Int) (ng : Bool) (A : Option Addr) (cap : Nat) (w : World) (hg : IntsR w w.heap.size A g) (_lg : g.length ≤ maxLen) :
    Calls Tryd.prog 65 #[lockV W S, clV ⟨k, a, b, n, m, g, ng⟩ A cap] w fun e w' => e = .returned (.bool (clueB W S ⟨k, a, b, n, m, g, ng⟩)) ∧ Below w.heap.size w w' := by
  obtain ⟨w1, hw1⟩ : ∃ w1, w1 = (w.alloc (.cells #[I W, I S] 23)).alloc (.cells #[I k, I a, I b, I n, I m, .slice A g.length cap, .bool ng] 26) := ⟨_, rfl⟩
  have l0 : w1.cell? ⟨w.heap.size, 0, none⟩ = some (I W) := by rw [hw1]; exact (World.cell?_alloc_lt _ _ _ (by simp)).trans (alloc_cell _ _ _ 0)
  have l1 : w1.cell? ⟨w.heap.size, 1, none⟩ = some (I S) := by rw [hw1]; exact (World.cell?_alloc_lt _ _ _ (by simp)).trans (alloc_cell _ _ _ 1)
  have bc := fun i => (by rw [hw1]; exact alloc_cell' _ _ _ _ i (by simp) : w1.cell? ⟨w.heap.size + 1, i, none⟩ = (#[I k, I a, I b, I n, I m, .slice A g.length cap, .bool ng] : Array Value)[i]?)
  have q0 : w1.cell? ⟨w.heap.size + 1, 0, none⟩ = some (I k) := bc 0
  have q1 : w1.cell? ⟨w.heap.size + 1, 1, none⟩ = some (I a) := bc 1
  have q2 : w1.cell? ⟨w.heap.size + 1, 2, none⟩ = some (I b) := bc 2
  have q3 : w1.cell? ⟨w.heap.size + 1, 3, none⟩ = some (I n) := bc 3
  have q4 : w1.cell? ⟨w.heap.size + 1, 4, none⟩ = some (I m) := bc 4
  have q5 : w1.cell? ⟨w.heap.size + 1, 5, none⟩ = some (.slice A g.length cap) := bc 5
  have q6 : w1.cell? ⟨w.heap.size + 1, 6, none⟩ = some (.bool ng) := bc 6
  have hb1 : Below w.heap.size w w1 := by rw [hw1]; exact two_boxes _ _ _
  have s0 : w.heap.size < w1.heap.size := by rw [hw1]; simp; omega
  have s1 : w.heap.size + 1 < w1.heap.size := by rw [hw1]; simp
  have hg1 := ints_call hb1 hg
  have HW := Lib.hid hw1
  clear bc hw1 hg
  have eW := IntWalk.i64_left (W - 1)
  have n1 : (k == 1) = false := by simp; omega
  have n2 : (k == 2) = false := by simp; omega
  have n3 : (k == 3) = false := by simp; omega
  have n4 : (k == 4) = false := by simp; omega
  have n5 : (k == 5) = false := by simp; omega
  have n6 : (k == 6) = false := by simp; omega
  have n7 : (k == 7) = false := by simp; omega
  go_enter Tryd.func65, Tryd.ntmps65
  go_upto_region 1 with fail
  try rw [← HW.out]
  go_cut [5, 6] (fun s5 s6 wx => s5 = .bool (wi a 0 (wrap64 (W - 1))) ∧ s6 = .bool (wi b 0 (wrap64 (W - 1))) ∧ KeptS w1 wx)
  case first =>
    go_region_held3 (fun w' => Below w1.heap.size w1 w' ∧ (∀ b o, b < w1.heap.size → w'.cell? ⟨b, o, none⟩ = w1.cell? ⟨b, o, none⟩))
      (first | exact keptS_drew _ | exact keptS_call (by assumption) hb | assumption)
      ((go_at_call 62; go_must (refine (Within_any _ _ _ _).mono ?_); rintro e w' ⟨rfl, rfl⟩))
    all_goals
      go_wp2_with fail
      go_meet
      exact ⟨rfl, rfl, by assumption⟩
  case rest =>
    obtain ⟨rfl, rfl, hk⟩ := hcut
    have hkb := hk.1
    have hg2 := kept_ints hk hg1
    have k0 := (hk.2 _ 0 s0).trans l0
    have k1 := (hk.2 _ 1 s0).trans l1
    have p0 := (hk.2 _ 0 s1).trans q0
    have p1 := (hk.2 _ 1 s1).trans q1
    have p2 := (hk.2 _ 2 s1).trans q2
    have p3 := (hk.2 _ 3 s1).trans q3
    have p4 := (hk.2 _ 4 s1).trans q4
    have p5 := (hk.2 _ 5 s1).trans q5
    have p6 := (hk.2 _ 6 s1).trans q6
    have hbc : Below w.heap.size w wc := hb1.trans (hkb.mono (by omega))
    have t0 : w.heap.size < wc.heap.size := by have := hkb.size; omega
    have t1 : w.heap.size + 1 < wc.heap.size := by have := hkb.size; omega
    clear hk hkb l0 l1 q0 q1 q2 q3 q4 q5 q6 hg1 HW hb1
    have V := Lib.hid (show clueB W S ⟨k, a, b, n, m, g, ng⟩ = false by
      have e : wi k 1 7 = false := by simp [wi]; omega
      simp [clueB, e])
    go_wp2_with fail
    go_ret
    exact ⟨ret_bool V.out.symm, hbc.alloc (by omega) _⟩
end Go.Proofs.YthegmomjfbcabaaDoor

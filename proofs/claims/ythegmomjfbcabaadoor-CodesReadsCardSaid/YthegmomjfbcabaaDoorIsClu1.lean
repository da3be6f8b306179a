/-
  CONTRACT: padlockref01.isClue, kinds 1, 2, 3.
-/
import Derived.Test.YthegmomjfbcabaaDoorSameClue
namespace Go.Proofs.YthegmomjfbcabaaDoor
open Go.RowKit

set_option maxRecDepth 100000 in
set_option maxHeartbeats 4000000 in
theorem isClue_1 (W S a b n m : Int) (g : List Int) (ng : Bool) (A : Option Addr) (cap : Nat) (w : World) (hg : IntsR w w.heap.size A g) (lg : g.length ≤ maxLen) :
    Calls Tryd.prog 65 #[lockV W S, clV ⟨1, a, b, n, m, g, ng⟩ A cap] w fun e w' => e = .returned (.bool (clueB W S ⟨1, a, b, n, m, g, ng⟩)) ∧ Below w.heap.size w w' := by
  obtain ⟨w1, hw1⟩ : ∃ w1, w1 = (w.alloc (.cells #[I W, I S] 23)).alloc (.cells #[I 1, I a, I b, I n, I m, .slice A g.length cap, .bool ng] 26) := ⟨_, rfl⟩
  have l0 : w1.cell? ⟨w.heap.size, 0, none⟩ = some (I W) := by rw [hw1]; exact (World.cell?_alloc_lt _ _ _ (by simp)).trans (alloc_cell _ _ _ 0)
  have l1 : w1.cell? ⟨w.heap.size, 1, none⟩ = some (I S) := by rw [hw1]; exact (World.cell?_alloc_lt _ _ _ (by simp)).trans (alloc_cell _ _ _ 1)
  have bc := fun i => (by rw [hw1]; exact alloc_cell' _ _ _ _ i (by simp) : w1.cell? ⟨w.heap.size + 1, i, none⟩ = (#[I 1, I a, I b, I n, I m, .slice A g.length cap, .bool ng] : Array Value)[i]?)
  have q0 : w1.cell? ⟨w.heap.size + 1, 0, none⟩ = some (I 1) := bc 0
  have q1 : w1.cell? ⟨w.heap.size + 1, 1, none⟩ = some (I a) := bc 1
  have q2 : w1.cell? ⟨w.heap.size + 1, 2, none⟩ = some (I b) := bc 2
  have q3 : w1.cell? ⟨w.heap.size + 1, 3, none⟩ = some (I n) := bc 3
  have q4 : w1.cell? ⟨w.heap.size + 1, 4, none⟩ = some (I m) := bc 4
  have q5 : w1.cell? ⟨w.heap.size + 1, 5, none⟩ = some (.slice A g.length cap) := bc 5
  have q6 : w1.cell? ⟨w.heap.size + 1, 6, none⟩ = some (.bool ng) := bc 6
  have hb1 : Below w.heap.size w w1 := by rw [hw1]; exact two_boxes _ _ _
  have s0 : w.heap.size < w1.heap.size := by rw [hw1]; simp; omega
  have s1 : w.heap.size + 1 < w1.heap.size := by rw [hw1]; simp
  have hg1 := ints_call hb1 hg
  have HW := Lib.hid hw1
  clear bc hw1 hg
  have eW := IntWalk.i64_left (W - 1)
  go_enter Tryd.func65, Tryd.ntmps65
  go_upto_region 1 with fail
  try rw [← HW.out]
  go_cut [5, 6] (fun s5 s6 wx => s5 = .bool (wi a 0 (wrap64 (W - 1))) ∧ s6 = .bool (wi b 0 (wrap64 (W - 1))) ∧ KeptS w1 wx)
  case first =>
    go_region_held3 (fun w' => Below w1.heap.size w1 w' ∧ (∀ b o, b < w1.heap.size → w'.cell? ⟨b, o, none⟩ = w1.cell? ⟨b, o, none⟩))
      (first | exact keptS_drew _ | exact keptS_call (by assumption) hb | assumption)
      ((go_at_call 62; go_must (refine (Within_any _ _ _ _).mono ?_); rintro e w' ⟨rfl, rfl⟩))
    all_goals
      go_wp2_with fail
      go_meet
      exact ⟨rfl, rfl, by assumption⟩
  case rest =>
    obtain ⟨rfl, rfl, hk⟩ := hcut
    have hkb := hk.1
    have hg2 := kept_ints hk hg1
    have k0 := (hk.2 _ 0 s0).trans l0
    have k1 := (hk.2 _ 1 s0).trans l1
    have p0 := (hk.2 _ 0 s1).trans q0
    have p1 := (hk.2 _ 1 s1).trans q1
    have p2 := (hk.2 _ 2 s1).trans q2
    have p3 := (hk.2 _ 3 s1).trans q3
    have p4 := (hk.2 _ 4 s1).trans q4
    have p5 := (hk.2 _ 5 s1).trans q5
    have p6 := (hk.2 _ 6 s1).trans q6
    have hbc : Below w.heap.size w wc := hb1.trans (hkb.mono (by omega))
    have t0 : w.heap.size < wc.heap.size := by have := hkb.size; omega
    have t1 : w.heap.size + 1 < wc.heap.size := by have := hkb.size; omega
    clear hk hkb l0 l1 q0 q1 q2 q3 q4 q5 q6 hg1 HW hb1
    cases ha : wi a 0 (wrap64 (W - 1))
    · have V := Lib.hid (show clueB W S ⟨1, a, b, n, m, g, ng⟩ = false by simp [clueB, rangeB, ha])
      go_wp2_with fail
      go_ret
      exact ⟨ret_bool V.out.symm, hbc.alloc (by omega) _⟩
    cases hn : wi n 0 (wrap64 (S - 1))
    · have V := Lib.hid (show clueB W S ⟨1, a, b, n, m, g, ng⟩ = false by simp [clueB, rangeB, hn])
      go_wp2_with fail
      refine (Within_any _ _ _ _).mono ?_
      rw [hn]
      rintro e w' ⟨rfl, rfl⟩
      go_wp2_with fail
      go_ret
      exact ⟨ret_bool V.out.symm, hbc.alloc (by omega) _⟩
    have V := Lib.hid (show clueB W S ⟨1, a, b, n, m, g, ng⟩ = sameB ⟨1, a, b, n, m, g, ng⟩ ⟨1, a, 0, n, 0, [], ng⟩ by
      simp [clueB, spareB, rangeB, sameB, ha, hn, empty_dec]
      try simp [wi, Bool.and_assoc])
    go_wp2_with fail
    refine (Within_any _ _ _ _).mono ?_
    rw [hn]
    rintro e w' ⟨rfl, rfl⟩
    go_wp2_with fail
    have hbe : Below wc.heap.size wc (wc.alloc (.cells #[I 1, I a, I 0, I n, I 0, .slice none 0 0, .bool ng] 26)) := (Below.refl _ _).alloc (Nat.le_refl _) _
    refine (SameClue_any 1 a b n m g ng 1 a 0 n 0 [] ng A none cap 0 _ (ints_call hbe hg2) (fun h => absurd h (Nat.lt_irrefl 0)) lg (Nat.zero_le _)).mono ?_
    rintro e w3 ⟨rfl, hb3⟩
    go_wp2_with fail
    go_ret
    exact ⟨ret_bool V.out.symm, (hbc.trans (hbe.mono (by omega))).trans (hb3.mono (by simp; omega))⟩

set_option maxRecDepth 100000 in
set_option maxHeartbeats 4000000 in
theorem isClue_2 (W S a b n m : Int) (g : List Int) (ng : Bool) (A : Option Addr) (cap : Nat) (w : World) (hg : IntsR w w.heap.size A g) (lg : g.length ≤ maxLen) :
    Calls Tryd.prog 65 #[lockV W S, clV ⟨2, a, b, n, m, g, ng⟩ A cap] w fun e w' => e = .returned (.bool (clueB W S ⟨2, a, b, n, m, g, ng⟩)) ∧ Below w.heap.size w w' := by
  obtain ⟨w1, hw1⟩ : ∃ w1, w1 = (w.alloc (.cells #[I W, I S] 23)).alloc (.cells #[I 2, I a, I b, I n, I m, .slice A g.length cap, .bool ng] 26) := ⟨_, rfl⟩
  have l0 : w1.cell? ⟨w.heap.size, 0, none⟩ = some (I W) := by rw [hw1]; exact (World.cell?_alloc_lt _ _ _ (by simp)).trans (alloc_cell _ _ _ 0)
  have l1 : w1.cell? ⟨w.heap.size, 1, none⟩ = some (I S) := by rw [hw1]; exact (World.cell?_alloc_lt _ _ _ (by simp)).trans (alloc_cell _ _ _ 1)
  have bc := fun i => (by rw [hw1]; exact alloc_cell' _ _ _ _ i (by simp) : w1.cell? ⟨w.heap.size + 1, i, none⟩ = (#[I 2, I a, I b, I n, I m, .slice A g.length cap, .bool ng] : Array Value)[i]?)
  have q0 : w1.cell? ⟨w.heap.size + 1, 0, none⟩ = some (I 2) := bc 0
  have q1 : w1.cell? ⟨w.heap.size + 1, 1, none⟩ = some (I a) := bc 1
  have q2 : w1.cell? ⟨w.heap.size + 1, 2, none⟩ = some (I b) := bc 2
  have q3 : w1.cell? ⟨w.heap.size + 1, 3, none⟩ = some (I n) := bc 3
  have q4 : w1.cell? ⟨w.heap.size + 1, 4, none⟩ = some (I m) := bc 4
  have q5 : w1.cell? ⟨w.heap.size + 1, 5, none⟩ = some (.slice A g.length cap) := bc 5
  have q6 : w1.cell? ⟨w.heap.size + 1, 6, none⟩ = some (.bool ng) := bc 6
  have hb1 : Below w.heap.size w w1 := by rw [hw1]; exact two_boxes _ _ _
  have s0 : w.heap.size < w1.heap.size := by rw [hw1]; simp; omega
  have s1 : w.heap.size + 1 < w1.heap.size := by rw [hw1]; simp
  have hg1 := ints_call hb1 hg
  have HW := Lib.hid hw1
  clear bc hw1 hg
  have eW := IntWalk.i64_left (W - 1)
  go_enter Tryd.func65, Tryd.ntmps65
  go_upto_region 1 with fail
  try rw [← HW.out]
  go_cut [5, 6] (fun s5 s6 wx => s5 = .bool (wi a 0 (wrap64 (W - 1))) ∧ s6 = .bool (wi b 0 (wrap64 (W - 1))) ∧ KeptS w1 wx)
  case first =>
    go_region_held3 (fun w' => Below w1.heap.size w1 w' ∧ (∀ b o, b < w1.heap.size → w'.cell? ⟨b, o, none⟩ = w1.cell? ⟨b, o, none⟩))
      (first | exact keptS_drew _ | exact keptS_call (by assumption) hb | assumption)
      ((go_at_call 62; go_must (refine (Within_any _ _ _ _).mono ?_); rintro e w' ⟨rfl, rfl⟩))
    all_goals
      go_wp2_with fail
      go_meet
      exact ⟨rfl, rfl, by assumption⟩
  case rest =>
    obtain ⟨rfl, rfl, hk⟩ := hcut
    have hkb := hk.1
    have hg2 := kept_ints hk hg1
    have k0 := (hk.2 _ 0 s0).trans l0
    have k1 := (hk.2 _ 1 s0).trans l1
    have p0 := (hk.2 _ 0 s1).trans q0
    have p1 := (hk.2 _ 1 s1).trans q1
    have p2 := (hk.2 _ 2 s1).trans q2
    have p3 := (hk.2 _ 3 s1).trans q3
    have p4 := (hk.2 _ 4 s1).trans q4
    have p5 := (hk.2 _ 5 s1).trans q5
    have p6 := (hk.2 _ 6 s1).trans q6
    have hbc : Below w.heap.size w wc := hb1.trans (hkb.mono (by omega))
    have t0 : w.heap.size < wc.heap.size := by have := hkb.size; omega
    have t1 : w.heap.size + 1 < wc.heap.size := by have := hkb.size; omega
    clear hk hkb l0 l1 q0 q1 q2 q3 q4 q5 q6 hg1 HW hb1
    cases ha : wi a 0 (wrap64 (W - 1))
    · have V := Lib.hid (show clueB W S ⟨2, a, b, n, m, g, ng⟩ = false by simp [clueB, rangeB, ha])
      go_wp2_with fail
      go_ret
      exact ⟨ret_bool V.out.symm, hbc.alloc (by omega) _⟩
    cases hb : wi b 0 (wrap64 (W - 1))
    · have V := Lib.hid (show clueB W S ⟨2, a, b, n, m, g, ng⟩ = false by simp [clueB, rangeB, hb])
      go_wp2_with fail
      go_ret
      exact ⟨ret_bool V.out.symm, hbc.alloc (by omega) _⟩
    cases hab : decide (a ≤ b)
    · have V := Lib.hid (show clueB W S ⟨2, a, b, n, m, g, ng⟩ = false by simp [clueB, rangeB, hab])
      go_wp2_with fail
      go_ret
      exact ⟨ret_bool V.out.symm, hbc.alloc (by omega) _⟩
    cases hn : wi n 0 100
    · have V := Lib.hid (show clueB W S ⟨2, a, b, n, m, g, ng⟩ = false by simp [clueB, rangeB, hn])
      go_wp2_with fail
      refine (Within_any _ _ _ _).mono ?_
      rw [hn]
      rintro e w' ⟨rfl, rfl⟩
      go_wp2_with fail
      go_ret
      exact ⟨ret_bool V.out.symm, hbc.alloc (by omega) _⟩
    have V := Lib.hid (show clueB W S ⟨2, a, b, n, m, g, ng⟩ = sameB ⟨2, a, b, n, m, g, ng⟩ ⟨2, a, b, n, 0, [], ng⟩ by
      simp [clueB, spareB, rangeB, sameB, ha, hb, hab, hn, empty_dec]
      try simp [wi])
    go_wp2_with fail
    refine (Within_any _ _ _ _).mono ?_
    rw [hn]
    rintro e w' ⟨rfl, rfl⟩
    go_wp2_with fail
    have hbe : Below wc.heap.size wc (wc.alloc (.cells #[I 2, I a, I b, I n, I 0, .slice none 0 0, .bool ng] 26)) := (Below.refl _ _).alloc (Nat.le_refl _) _
    refine (SameClue_any 2 a b n m g ng 2 a b n 0 [] ng A none cap 0 _ (ints_call hbe hg2) (fun h => absurd h (Nat.lt_irrefl 0)) lg (Nat.zero_le _)).mono ?_
    rintro e w3 ⟨rfl, hb3⟩
    go_wp2_with fail
    go_ret
    exact ⟨ret_bool V.out.symm, (hbc.trans (hbe.mono (by omega))).trans (hb3.mono (by simp; omega))⟩

set_option maxRecDepth 100000 in
set_option maxHeartbeats 4000000 in
theorem isClue_3 (W S a b n m : Int) (g : List Int) (ng : Bool) (A : Option Addr) (cap : Nat) (w : World) (hg : IntsR w w.heap.size A g) (lg : g.length ≤ maxLen) :
    Calls Tryd.prog 65 #[lockV W S, clV ⟨3, a, b, n, m, g, ng⟩ A cap] w fun e w' => e = .returned (.bool (clueB W S ⟨3, a, b, n, m, g, ng⟩)) ∧ Below w.heap.size w w' := by
  obtain ⟨w1, hw1⟩ : ∃ w1, w1 = (w.alloc (.cells #[I W, I S] 23)).alloc (.cells #[I 3, I a, I b, I n, I m, .slice A g.length cap, .bool ng] 26) := ⟨_, rfl⟩
  have l0 : w1.cell? ⟨w.heap.size, 0, none⟩ = some (I W) := by rw [hw1]; exact (World.cell?_alloc_lt _ _ _ (by simp)).trans (alloc_cell _ _ _ 0)
  have l1 : w1.cell? ⟨w.heap.size, 1, none⟩ = some (I S) := by rw [hw1]; exact (World.cell?_alloc_lt _ _ _ (by simp)).trans (alloc_cell _ _ _ 1)
  have bc := fun i => (by rw [hw1]; exact alloc_cell' _ _ _ _ i (by simp) : w1.cell? ⟨w.heap.size + 1, i, none⟩ = (#[I 3, I a, I b, I n, I m, .slice A g.length cap, .bool ng] : Array Value)[i]?)
  have q0 : w1.cell? ⟨w.heap.size + 1, 0, none⟩ = some (I 3) := bc 0
  have q1 : w1.cell? ⟨w.heap.size + 1, 1, none⟩ = some (I a) := bc 1
  have q2 : w1.cell? ⟨w.heap.size + 1, 2, none⟩ = some (I b) := bc 2
  have q3 : w1.cell? ⟨w.heap.size + 1, 3, none⟩ = some (I n) := bc 3
  have q4 : w1.cell? ⟨w.heap.size + 1, 4, none⟩ = some (I m) := bc 4
  have q5 : w1.cell? ⟨w.heap.size + 1, 5, none⟩ = some (.slice A g.length cap) := bc 5
  have q6 : w1.cell? ⟨w.heap.size + 1, 6, none⟩ = some (.bool ng) := bc 6
  have hb1 : Below w.heap.size w w1 := by rw [hw1]; exact two_boxes _ _ _
  have s0 : w.heap.size < w1.heap.size := by rw [hw1]; simp; omega
  have s1 : w.heap.size + 1 < w1.heap.size := by rw [hw1]; simp
  have hg1 := ints_call hb1 hg
  have HW := Lib.hid hw1
  clear bc hw1 hg
  have eW := IntWalk.i64_left (W - 1)
  go_enter Tryd.func65, Tryd.ntmps65
  go_upto_region 1 with fail
  try rw [← HW.out]
  go_cut [5, 6] (fun s5 s6 wx => s5 = .bool (wi a 0 (wrap64 (W - 1))) ∧ s6 = .bool (wi b 0 (wrap64 (W - 1))) ∧ KeptS w1 wx)
  case first =>
    go_region_held3 (fun w' => Below w1.heap.size w1 w' ∧ (∀ b o, b < w1.heap.size → w'.cell? ⟨b, o, none⟩ = w1.cell? ⟨b, o, none⟩))
      (first | exact keptS_drew _ | exact keptS_call (by assumption) hb | assumption)
      ((go_at_call 62; go_must (refine (Within_any _ _ _ _).mono ?_); rintro e w' ⟨rfl, rfl⟩))
    all_goals
      go_wp2_with fail
      go_meet
      exact ⟨rfl, rfl, by assumption⟩
  case rest =>
    obtain ⟨rfl, rfl, hk⟩ := hcut
    have hkb := hk.1
    have hg2 := kept_ints hk hg1
    have k0 := (hk.2 _ 0 s0).trans l0
    have k1 := (hk.2 _ 1 s0).trans l1
    have p0 := (hk.2 _ 0 s1).trans q0
    have p1 := (hk.2 _ 1 s1).trans q1
    have p2 := (hk.2 _ 2 s1).trans q2
    have p3 := (hk.2 _ 3 s1).trans q3
    have p4 := (hk.2 _ 4 s1).trans q4
    have p5 := (hk.2 _ 5 s1).trans q5
    have p6 := (hk.2 _ 6 s1).trans q6
    have hbc : Below w.heap.size w wc := hb1.trans (hkb.mono (by omega))
    have t0 : w.heap.size < wc.heap.size := by have := hkb.size; omega
    have t1 : w.heap.size + 1 < wc.heap.size := by have := hkb.size; omega
    clear hk hkb l0 l1 q0 q1 q2 q3 q4 q5 q6 hg1 HW hb1
    cases ha : wi a 0 (wrap64 (W - 1))
    · have V := Lib.hid (show clueB W S ⟨3, a, b, n, m, g, ng⟩ = false by simp [clueB, rangeB, ha])
      go_wp2_with fail
      go_ret
      exact ⟨ret_bool V.out.symm, hbc.alloc (by omega) _⟩
    cases hb : wi b 0 (wrap64 (W - 1))
    · have V := Lib.hid (show clueB W S ⟨3, a, b, n, m, g, ng⟩ = false by simp [clueB, rangeB, hb])
      go_wp2_with fail
      go_ret
      exact ⟨ret_bool V.out.symm, hbc.alloc (by omega) _⟩
    cases hab : (a != b)
    · have V := Lib.hid (show clueB W S ⟨3, a, b, n, m, g, ng⟩ = false by simp [clueB, rangeB, hab])
      go_wp2_with fail
      go_ret
      exact ⟨ret_bool V.out.symm, hbc.alloc (by omega) _⟩
    have V := Lib.hid (show clueB W S ⟨3, a, b, n, m, g, ng⟩ = sameB ⟨3, a, b, n, m, g, ng⟩ ⟨3, a, b, 0, 0, [], ng⟩ by
      simp [clueB, spareB, rangeB, sameB, ha, hb, hab, empty_dec]
      try simp [wi, Bool.and_assoc])
    go_wp2_with fail
    have hbe : Below wc.heap.size wc (wc.alloc (.cells #[I 3, I a, I b, I 0, I 0, .slice none 0 0, .bool ng] 26)) := (Below.refl _ _).alloc (Nat.le_refl _) _
    refine (SameClue_any 3 a b n m g ng 3 a b 0 0 [] ng A none cap 0 _ (ints_call hbe hg2) (fun h => absurd h (Nat.lt_irrefl 0)) lg (Nat.zero_le _)).mono ?_
    rintro e w3 ⟨rfl, hb3⟩
    go_wp2_with fail
    go_ret
    exact ⟨ret_bool V.out.symm, (hbc.trans (hbe.mono (by omega))).trans (hb3.mono (by simp; omega))⟩
end Go.Proofs.YthegmomjfbcabaaDoor

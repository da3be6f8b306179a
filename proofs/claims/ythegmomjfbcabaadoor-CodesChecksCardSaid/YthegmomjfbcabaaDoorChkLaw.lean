/-
  CONTRACT: the law CodesChecks.
-/
import Derived.Test.YthegmomjfbcabaaDoorChk
namespace Go.Proofs.YthegmomjfbcabaaDoor
open Go.RowKit Go.Shelf

set_option maxRecDepth 100000 in
set_option maxHeartbeats 4000000 in
theorem checks_law (W S : Int) (cl : Cl) (Ag A2 : Option Addr) (cap k2 : Nat) (x : List Int) (w : World) (hT : Tab w) (hg : IntsR w w.heap.size Ag cl.guess) (lg : cl.guess.length ≤ maxLen) (hx : IntsR w w.heap.size A2 x) (lx : x.length ≤ maxLen) :
    Calls Tryd.prog 3 #[lockV W S, clV cl Ag cap, .slice A2 x.length k2] w fun e w' => e = .returned (.bool true) ∧ Below w.heap.size w w' := by
  obtain ⟨k, a, b, n, m, g, ng⟩ := cl
  go_enter Tryd.func3, Tryd.ntmps3
  go_upto_region 1 with fail
  obtain ⟨w1, hw1⟩ : ∃ w1, w1 = (w.alloc (.cells #[I W, I S] 23)).alloc (.cells #[I k, I a, I b, I n, I m, .slice Ag g.length cap, .bool ng] 26) := ⟨_, rfl⟩
  rw [← hw1]
  have l0 : w1.cell? ⟨w.heap.size, 0, none⟩ = some (I W) := by rw [hw1]; exact (World.cell?_alloc_lt _ _ _ (by simp)).trans (alloc_cell _ _ _ 0)
  have l1 : w1.cell? ⟨w.heap.size, 1, none⟩ = some (I S) := by rw [hw1]; exact (World.cell?_alloc_lt _ _ _ (by simp)).trans (alloc_cell _ _ _ 1)
  have bc := fun i => (by rw [hw1]; exact alloc_cell' _ _ _ _ i (by simp) : w1.cell? ⟨w.heap.size + 1, i, none⟩ = (#[I k, I a, I b, I n, I m, .slice Ag g.length cap, .bool ng] : Array Value)[i]?)
  have q0 : w1.cell? ⟨w.heap.size + 1, 0, none⟩ = some (I k) := bc 0
  have q1 : w1.cell? ⟨w.heap.size + 1, 1, none⟩ = some (I a) := bc 1
  have q2 : w1.cell? ⟨w.heap.size + 1, 2, none⟩ = some (I b) := bc 2
  have q3 : w1.cell? ⟨w.heap.size + 1, 3, none⟩ = some (I n) := bc 3
  have q4 : w1.cell? ⟨w.heap.size + 1, 4, none⟩ = some (I m) := bc 4
  have q5 : w1.cell? ⟨w.heap.size + 1, 5, none⟩ = some (.slice Ag g.length cap) := bc 5
  have q6 : w1.cell? ⟨w.heap.size + 1, 6, none⟩ = some (.bool ng) := bc 6
  have hb1 : Below w.heap.size w w1 := by rw [hw1]; exact two_boxes _ _ _
  have s0 : w.heap.size < w1.heap.size := by rw [hw1]; simp; omega
  have s1 : w.heap.size + 1 < w1.heap.size := by rw [hw1]; simp
  have hg1 := ints_call hb1 hg
  have hx1 := ints_call hb1 hx
  have hT1 := hT.below hb1
  clear hw1 hg hx hT
  obtain ⟨r1, hr1⟩ : ∃ r, r = lockErr W S := ⟨_, rfl⟩
  obtain ⟨r2, hr2⟩ : ∃ r, r = lockErr W S := ⟨_, rfl⟩
  obtain ⟨c1, hc1⟩ : ∃ r, r = rClueErr W S ⟨k, a, b, n, m, g, ng⟩ := ⟨_, rfl⟩
  obtain ⟨c2, hc2⟩ : ∃ r, r = rClueErr W S ⟨k, a, b, n, m, g, ng⟩ := ⟨_, rfl⟩
  obtain ⟨d1, hd1⟩ : ∃ r, r = rCodeErr W S x := ⟨_, rfl⟩
  obtain ⟨d2, hd2⟩ : ∃ r, r = rCodeErr W S x := ⟨_, rfl⟩
  have e1 : (r1 != r2) = false := by rw [hr1, hr2]; simp
  have e2 : (c1 != c2) = false := by rw [hc1, hc2]; simp
  have e3 : (d1 != d2) = false := by rw [hd1, hd2]; simp
  have R1 := Lib.hid hr1
  have R2 := Lib.hid hr2
  have C1 := Lib.hid hc1
  have C2 := Lib.hid hc2
  have D1 := Lib.hid hd1
  have D2 := Lib.hid hd2
  clear hr1 hr2 hc1 hc2 hd1 hd2
  have BC := Lib.hid bc
  clear bc
  go_cut [33] (fun s33 wx => s33 = .bool false ∧ KeptS w1 wx)
  case first =>
    go_region_held3 (fun w' => Below w1.heap.size w1 w' ∧ (∀ b o, b < w1.heap.size → w'.cell? ⟨b, o, none⟩ = w1.cell? ⟨b, o, none⟩))
      (first | exact keptS_drew _ | exact keptS_call (by assumption) hb | assumption)
      (first
        | (go_at_call 19; refine (Check_any _ _ _).mono ?_; rw [← R1.out]; rintro e w' ⟨rfl, hb⟩)
        | (go_at_call 20; refine (rCheck_any _ _ _).mono ?_; rw [← R2.out]; rintro e w' ⟨rfl, hb⟩)
        | (go_at_call 21; go_must (refine (CheckClue_any _ _ ⟨k, a, b, n, m, g, ng⟩ Ag cap _ ?_ ?_ lg).mono ?_); go_must (exact hT1.below (And.left (by assumption : KeptS w1 _))); go_must (exact kept_ints (by assumption) hg1); rw [← C1.out]; rintro e w' ⟨rfl, hb⟩)
        | (go_at_call 22; go_must (refine (rCheckClue_any _ _ ⟨k, a, b, n, m, g, ng⟩ Ag cap _ ?_ lg).mono ?_); go_must (exact kept_ints (by assumption) hg1); rw [← C2.out]; rintro e w' ⟨rfl, hb⟩)
        | (go_at_call 23; go_must (refine (CheckCode_any _ _ _ _ x _ ?_ lx).mono ?_); go_must (exact kept_ints (by assumption) hx1); rw [← D1.out]; rintro e w' ⟨rfl, hb⟩)
        | (go_at_call 24; go_must (refine (rCheckCode_any _ _ _ _ x _ ?_ lx).mono ?_); go_must (exact kept_ints (by assumption) hx1); rw [← D2.out]; rintro e w' ⟨rfl, hb⟩))
    all_goals
      go_wp2_with fail
      go_meet
      exact ⟨rfl, by assumption⟩
  case rest =>
    obtain ⟨rfl, hk⟩ := hcut
    have l0 := (hk.2 _ 0 s0).trans l0
    have l1 := (hk.2 _ 1 s0).trans l1
    have q0 := (hk.2 _ 0 s1).trans q0
    have q1 := (hk.2 _ 1 s1).trans q1
    have q2 := (hk.2 _ 2 s1).trans q2
    have q3 := (hk.2 _ 3 s1).trans q3
    have q4 := (hk.2 _ 4 s1).trans q4
    have q5 := (hk.2 _ 5 s1).trans q5
    have q6 := (hk.2 _ 6 s1).trans q6
    have hkb := hk.1
    have hx2 := kept_ints hk hx1
    have hg2 := kept_ints hk hg1
    have hT2 := hT1.below hkb
    have hbc : Below w.heap.size w wc := hb1.trans (hkb.mono (by omega))
    have t0 : w.heap.size < wc.heap.size := by have := hkb.size; omega
    have t1 : w.heap.size + 1 < wc.heap.size := by have := hkb.size; omega
    clear hk hkb hx1 hg1 hT1 s0 s1 e1 e2 e3 R1 R2 C1 C2 D1 D2
    go_wp2_with fail
    refine (Holds_any W S ⟨k, a, b, n, m, g, ng⟩ Ag A2 cap k2 x wc hT2 hg2 lg hx2 lx).mono ?_
    rintro e w3 ⟨rfl, hb3⟩
    have l0 := (hb3.cell (p := ⟨w.heap.size, 0, none⟩) t0).trans l0
    have l1 := (hb3.cell (p := ⟨w.heap.size, 1, none⟩) t0).trans l1
    have q0 := (hb3.cell (p := ⟨w.heap.size + 1, 0, none⟩) t1).trans q0
    have q1 := (hb3.cell (p := ⟨w.heap.size + 1, 1, none⟩) t1).trans q1
    have q2 := (hb3.cell (p := ⟨w.heap.size + 1, 2, none⟩) t1).trans q2
    have q3 := (hb3.cell (p := ⟨w.heap.size + 1, 3, none⟩) t1).trans q3
    have q4 := (hb3.cell (p := ⟨w.heap.size + 1, 4, none⟩) t1).trans q4
    have q5 := (hb3.cell (p := ⟨w.heap.size + 1, 5, none⟩) t1).trans q5
    have q6 := (hb3.cell (p := ⟨w.heap.size + 1, 6, none⟩) t1).trans q6
    have hx3 := ints_call hb3 hx2
    have hg3 := ints_call hb3 hg2
    have hT3 := hT2.below hb3
    have hbb3 : Below w.heap.size w w3 := hbc.trans (hb3.mono (by omega))
    clear hb3 hx2 hg2 hT2 hbc
    go_wp2_with fail
    refine (rHolds_any W S ⟨k, a, b, n, m, g, ng⟩ Ag A2 cap k2 x w3 hg3 lg hx3 lx).mono ?_
    rintro e w4 ⟨rfl, hb4⟩
    have hT4 := hT3.below hb4
    have hbb4 : Below w.heap.size w w4 := hbb3.trans (hb4.mono (by have := hbb3.size; omega))
    clear hb4 hx3 hg3 hT3 hbb3 l0 l1 q0 q1 q2 q3 q4 q5 q6
    obtain ⟨r, hr⟩ : ∃ r, r = hldB W S ⟨k, a, b, n, m, g, ng⟩ x := ⟨_, rfl⟩
    obtain ⟨d, hd⟩ : ∃ d, d = hldE W S ⟨k, a, b, n, m, g, ng⟩ x := ⟨_, rfl⟩
    rw [← hr, ← hd]
    have h1 : (r == r) = true := by simp
    have h3 : (d == d) = true := by simp
    clear hr hd
    go_wp2_with fail
    refine (works_any w4 hT4).mono ?_
    rintro e w5 ⟨rfl, hb5⟩
    go_wp2
    go_ret
    exact ⟨rfl, hbb4.trans (hb5.mono (by have := hbb4.size; omega))⟩
end Go.Proofs.YthegmomjfbcabaaDoor

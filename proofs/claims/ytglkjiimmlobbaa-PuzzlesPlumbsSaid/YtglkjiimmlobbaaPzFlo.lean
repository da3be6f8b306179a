/-
  CONTRACT: puzzles.Flows. (Written by gen/flo_make.py.)
-/
import Derived.Test.YtglkjiimmlobbaaPzChk
import Derived.Test.YtglkjiimmlobbaaPzWetC
import Derived.Deep.RegionHeld3
namespace Go.Proofs.Ytglkjiimmlobbaa
open Go.RowKit Go.Shelf
/-- what Flows answers -/
def floE (W H fr tt : Int) (ps ts : List Int) : Int := fstErr [if pipB W H fr tt ps then 0 else 30, if turnB W H ts then 0 else 1]
noncomputable def floL (W H fr tt : Int) (ps ts : List Int) : List Int := if floE W H fr tt ps ts = 0 then numsF (wetC W.toNat H.toNat (opF ps ts ps.length) fr.toNat) ps.length else []
noncomputable def floN (W H fr tt : Int) (ps ts : List Int) : Nat := if floE W H fr tt ps ts = 0 then lkC W.toNat H.toNat (opF ps ts ps.length) fr.toNat else 0
theorem nums_of {b : Nat} {l : List Int} (h : inB 0 b l = true) : Nums b l := by
  intro i hi
  simp only [inB, List.all_eq_true, wi, Bool.and_eq_true, decide_eq_true_eq] at h
  exact h (nth l i) (by rw [nth_lt hi]; exact List.getElem_mem _)
theorem pip_facts {W H fr tt : Int} {ps : List Int} (h : pipB W H fr tt ps = true) : ∃ a b f t : Nat, W = a ∧ H = b ∧ fr = f ∧ tt = t ∧ 1 ≤ a ∧ a ≤ 9 ∧ 1 ≤ b ∧ b ≤ 9 ∧ a * b ≤ 9 ∧ f < a * b ∧ t < a * b ∧ ps.length = a * b ∧ Nums 15 ps := by
  rw [pipB, gridB] at h
  simp only [Bool.and_eq_true, wi, decide_eq_true_eq, beq_iff_eq] at h
  obtain ⟨⟨⟨h1, h2⟩, ⟨h3, h4⟩, h5, ⟨h6, h7⟩, h8, h9⟩, h10, h11⟩ := h
  obtain ⟨a, rfl⟩ := Int.eq_ofNat_of_zero_le (show 0 ≤ W by omega)
  obtain ⟨b, rfl⟩ := Int.eq_ofNat_of_zero_le (show 0 ≤ H by omega)
  obtain ⟨f, rfl⟩ := Int.eq_ofNat_of_zero_le h6
  obtain ⟨t, rfl⟩ := Int.eq_ofNat_of_zero_le h8
  have e : (a : Int) * (b : Int) = ((a * b : Nat) : Int) := by simp
  rw [e] at h5 h7 h9 h10
  rw [show wrap64 ((a * b : Nat) : Int) = ((a * b : Nat) : Int) from IntWalk.wrap64_in _ ⟨by omega, by omega⟩] at h10
  exact ⟨a, b, f, t, rfl, rfl, rfl, rfl, by omega, by omega, by omega, by omega, by omega, by omega, by omega, by omega, nums_of h11⟩
theorem turn_facts {a b : Nat} {ts : List Int} (h : turnB a b ts = true) (hN : a * b ≤ 9) : ts.length = a * b ∧ Nums 3 ts := by
  rw [turnB] at h
  simp only [Bool.and_eq_true, beq_iff_eq] at h
  have e : (a : Int) * (b : Int) = ((a * b : Nat) : Int) := by simp
  rw [e, show wrap64 ((a * b : Nat) : Int) = ((a * b : Nat) : Int) from IntWalk.wrap64_in _ ⟨by omega, by omega⟩] at h
  exact ⟨by omega, nums_of h.2⟩
theorem fst_two (a b : Int) : fstErr [a, b] = if a = 0 then b else a := by
  simp only [fstErr]
  by_cases h : a = 0
  · rw [if_pos h, if_pos h]
    by_cases h2 : b = 0
    · rw [if_pos h2, h2]
    · rw [if_neg h2]
  · rw [if_neg h, if_neg h]
theorem floE_zero {W H fr tt : Int} {ps ts : List Int} (h : floE W H fr tt ps ts = 0) : pipB W H fr tt ps = true ∧ turnB W H ts = true := by
  rw [floE, fst_two] at h
  cases h1 : pipB W H fr tt ps
  · rw [h1] at h; simp at h
  · cases h2 : turnB W H ts
    · rw [h1, h2] at h; simp at h
    · exact ⟨rfl, rfl⟩

set_option maxRecDepth 100000 in
set_option maxHeartbeats 4000000 in
theorem Flows_no (W H fr tt : Int) (A A2 : Option Addr) (c c2 : Nat) (ps ts : List Int) (w : World) (hx : IntsR w w.heap.size A ps) (hl : ps.length ≤ maxLen) (hy : IntsR w w.heap.size A2 ts) (hl2 : ts.length ≤ maxLen) (HNE : Hid (floE W H fr tt ps ts ≠ 0)) :
    Calls Try.prog 34 #[.agg #[I W, I H, .slice A ps.length c, I fr, I tt], .slice A2 ts.length c2] w fun e w' => e = .returned (.tuple #[.slice none 0 0, I 0, I (floE W H fr tt ps ts)]) ∧ Below w.heap.size w w' := by
  obtain ⟨wa, ha, sa, ya, ba⟩ := one_box w (.cells #[I W, I H, .slice A ps.length c, I fr, I tt] 43)
  have f0 : wa.cell? ⟨w.heap.size, 0, none⟩ = some (I W) := cell_of_row wa _ 0 _ _ _ ya
  have f1 : wa.cell? ⟨w.heap.size, 1, none⟩ = some (I H) := cell_of_row wa _ 1 _ _ _ ya
  have f2 : wa.cell? ⟨w.heap.size, 2, none⟩ = some (.slice A ps.length c) := cell_of_row wa _ 2 _ _ _ ya
  have f3 : wa.cell? ⟨w.heap.size, 3, none⟩ = some (I fr) := cell_of_row wa _ 3 _ _ _ ya
  have f4 : wa.cell? ⟨w.heap.size, 4, none⟩ = some (I tt) := cell_of_row wa _ 4 _ _ _ ya
  have hx1 := ints_call ba hx
  have hy1 := ints_call ba hy
  obtain ⟨E1, hE1⟩ : ∃ E1 : Int, E1 = if pipB W H fr tt ps then 0 else 30 := ⟨_, rfl⟩
  obtain ⟨b2, hb2⟩ : ∃ b2, b2 = turnB W H ts := ⟨_, rfl⟩
  obtain ⟨E2, hE2⟩ : ∃ E2 : Int, E2 = if b2 then 0 else 1 := ⟨_, rfl⟩
  have C1 : ∀ V, IntsR V V.heap.size A ps → Calls Try.prog 94 #[pipesI W H fr tt A ps.length c] V fun e w' => e = .returned (I E1) ∧ Below V.heap.size V w' := fun V h => by rw [hE1]; exact pcheck_any _ _ _ _ _ _ _ V h hl
  have C2 : ∀ V, IntsR V V.heap.size A2 ts → Calls Try.prog 95 #[pipesI W H fr tt A ps.length c, .slice A2 ts.length c2] V fun e w' => e = .returned (.bool b2) ∧ Below V.heap.size V w' := fun V h => by rw [hb2]; exact canTurn_any _ _ _ _ _ _ _ _ _ ts V h hl2
  have C3 : ∀ V, Calls Try.prog 64 #[.bool b2, I 1] V fun e w' => e = .returned (I E2) ∧ w' = V := fun V => by rw [hE2]; exact unless_any b2 1 V
  obtain ⟨E, hE⟩ : ∃ E, E = fstErr [E1, E2] := ⟨_, rfl⟩
  have C4 : ∀ (V : World) (B : Option Addr) (k : Nat), IntsR V V.heap.size B [E1, E2] → Calls Try.prog 62 #[.slice B 2 k] V fun e w' => e = .returned (I E) ∧ w' = V := fun V B k h => by
    rw [hE]; exact (first_any B k [E1, E2] V h (by simp [maxLen])).mono fun e w' ⟨p, q⟩ => ⟨p, q.symm⟩
  have HEE := Lib.hid (show E = floE W H fr tt ps ts by rw [hE, hE1, hE2, hb2, floE])
  clear ya hx hy hE1 hb2 hE2 hE
  go_enter Try.func34, Try.ntmps34
  go_upto_region 1 with fail
  rw [← ha]
  clear ha
  go_wp2_with fail
  refine (pipesOf_any W H fr tt A ps.length c wa).mono ?_
  rintro e w2 ⟨rfl, hb2⟩
  go_upto_region 2 with fail
  obtain ⟨w3, hw3, hs3, r3, hb3⟩ := one_box w2 (.cells #[I W, I H, I fr, I tt, .slice A ps.length c] 103)
  rw [← hw3]
  have hx3 := ints_call hb3 (ints_call hb2 hx1)
  have hy3 := ints_call hb3 (ints_call hb2 hy1)
  have hB3 : Below w.heap.size w w3 := ba.trans ((hb2.mono (by omega)).trans (hb3.mono (by have := hb2.size; omega)))
  obtain ⟨g, hg⟩ : ∃ g, g = w2.heap.size := ⟨_, rfl⟩
  rw [← hg] at r3 hs3
  rw [← hg]
  have hgs : g < w3.heap.size := by omega
  have hgw : w.heap.size < g := by have := hb2.size; omega
  have p0 : w3.cell? ⟨g, 0, none⟩ = some (I W) := cell_of_row w3 _ 0 _ _ _ r3
  have p1 : w3.cell? ⟨g, 1, none⟩ = some (I H) := cell_of_row w3 _ 1 _ _ _ r3
  have p2 : w3.cell? ⟨g, 2, none⟩ = some (I fr) := cell_of_row w3 _ 2 _ _ _ r3
  have p3 : w3.cell? ⟨g, 3, none⟩ = some (I tt) := cell_of_row w3 _ 3 _ _ _ r3
  have p4 : w3.cell? ⟨g, 4, none⟩ = some (.slice A ps.length c) := cell_of_row w3 _ 4 _ _ _ r3
  have R3 := Lib.hid r3
  have HS3 := Lib.hid hs3
  clear hw3 hs3 r3 hb3 hb2 hg f0 f1 f2 f3 f4 hx1 hy1 ba sa
  go_cut [8] from 8 to 19 (fun s8 wx => s8 = I E ∧ KeptS w3 wx)
  case first =>
    go_region_held3 (fun w' => Below w3.heap.size w3 w' ∧ (∀ b o, b < w3.heap.size → w'.cell? ⟨b, o, none⟩ = w3.cell? ⟨b, o, none⟩))
      (first | exact keptS_drew _ | exact keptS_call (by assumption) hb | exact keptS_alloc (by assumption) _ | assumption)
      (first
        | (go_at_call 94; go_must (refine (C1 _ ?_).mono ?_); go_must (exact kept_ints (by assumption) hx3); rintro e w' ⟨rfl, hb⟩)
        | (go_at_call 95; go_must (refine (C2 _ ?_).mono ?_); go_must (exact kept_ints (by assumption) hy3); rintro e w' ⟨rfl, hb⟩)
        | (go_at_call 64; refine (C3 _).mono ?_; rintro e w' ⟨rfl, rfl⟩)
        | (go_at_call 62; go_must (refine (C4 _ _ _ ?_).mono ?_); go_must (exact ints_new _ [E1, E2] _); rintro e w' ⟨rfl, rfl⟩))
    all_goals
      go_wp2_with fail
      go_meet
      exact ⟨rfl, by assumption⟩
  case rest =>
    obtain ⟨rfl, hkk⟩ := hcut
    have HKK := Lib.hid hkk.1
    clear hkk C1 C2 C3 C4 p0 p1 p2 p3 p4
    have hne : (E != 0) = true := by have := HNE.out; rw [← HEE.out] at this; simpa using this
    go_wp2
    go_ret3
    exact ⟨by rw [HEE.out]; rfl, hB3.trans (HKK.out.mono hB3.size)⟩

set_option maxRecDepth 100000 in
set_option maxHeartbeats 4000000 in
theorem Flows_yes (W H fr N : Nat) (tt : Int) (A A2 : Option Addr) (c c2 : Nat) (ps ts : List Int) (w : World) (hx : IntsR w w.heap.size A ps) (hl : ps.length ≤ maxLen) (hy : IntsR w w.heap.size A2 ts) (hl2 : ts.length ≤ maxLen)
    (hW : 1 ≤ W) (hW9 : W ≤ 9) (hH : H ≤ 9) (HNW : Hid (N = W * H)) (hN : N ≤ 9) (hfr : fr < N) (HPL : Hid (ps.length = N)) (HTL : Hid (ts.length = N)) (HP : Hid (Nums 15 ps)) (HT : Hid (Nums 3 ts)) (HZ : Hid (floE W H fr tt ps ts = 0)) :
    Calls Try.prog 34 #[.agg #[I W, I H, .slice A ps.length c, I fr, I tt], .slice A2 ts.length c2] w fun e w' => ∃ A' c', e = .returned (.tuple #[.slice A' (numsF (wetC W H (opF ps ts N) fr) N).length c', I (lkC W H (opF ps ts N) fr : Nat), I 0]) ∧ IntsR w' w'.heap.size A' (numsF (wetC W H (opF ps ts N) fr) N) ∧ Below w.heap.size w w' := by
  obtain ⟨wa, ha, sa, ya, ba⟩ := one_box w (.cells #[I W, I H, .slice A ps.length c, I fr, I tt] 43)
  have f0 : wa.cell? ⟨w.heap.size, 0, none⟩ = some (I W) := cell_of_row wa _ 0 _ _ _ ya
  have f1 : wa.cell? ⟨w.heap.size, 1, none⟩ = some (I H) := cell_of_row wa _ 1 _ _ _ ya
  have f2 : wa.cell? ⟨w.heap.size, 2, none⟩ = some (.slice A ps.length c) := cell_of_row wa _ 2 _ _ _ ya
  have f3 : wa.cell? ⟨w.heap.size, 3, none⟩ = some (I fr) := cell_of_row wa _ 3 _ _ _ ya
  have f4 : wa.cell? ⟨w.heap.size, 4, none⟩ = some (I tt) := cell_of_row wa _ 4 _ _ _ ya
  have hx1 := ints_call ba hx
  have hy1 := ints_call ba hy
  obtain ⟨E1, hE1⟩ : ∃ E1 : Int, E1 = if pipB W H fr tt ps then 0 else 30 := ⟨_, rfl⟩
  obtain ⟨b2, hb2⟩ : ∃ b2, b2 = turnB W H ts := ⟨_, rfl⟩
  obtain ⟨E2, hE2⟩ : ∃ E2 : Int, E2 = if b2 then 0 else 1 := ⟨_, rfl⟩
  have C1 : ∀ V, IntsR V V.heap.size A ps → Calls Try.prog 94 #[pipesI W H fr tt A ps.length c] V fun e w' => e = .returned (I E1) ∧ Below V.heap.size V w' := fun V h => by rw [hE1]; exact pcheck_any _ _ _ _ _ _ _ V h hl
  have C2 : ∀ V, IntsR V V.heap.size A2 ts → Calls Try.prog 95 #[pipesI W H fr tt A ps.length c, .slice A2 ts.length c2] V fun e w' => e = .returned (.bool b2) ∧ Below V.heap.size V w' := fun V h => by rw [hb2]; exact canTurn_any _ _ _ _ _ _ _ _ _ ts V h hl2
  have C3 : ∀ V, Calls Try.prog 64 #[.bool b2, I 1] V fun e w' => e = .returned (I E2) ∧ w' = V := fun V => by rw [hE2]; exact unless_any b2 1 V
  obtain ⟨E, hE⟩ : ∃ E, E = fstErr [E1, E2] := ⟨_, rfl⟩
  have C4 : ∀ (V : World) (B : Option Addr) (k : Nat), IntsR V V.heap.size B [E1, E2] → Calls Try.prog 62 #[.slice B 2 k] V fun e w' => e = .returned (I E) ∧ w' = V := fun V B k h => by
    rw [hE]; exact (first_any B k [E1, E2] V h (by simp [maxLen])).mono fun e w' ⟨p, q⟩ => ⟨p, q.symm⟩
  have HEE := Lib.hid (show E = floE W H fr tt ps ts by rw [hE, hE1, hE2, hb2, floE])
  clear ya hx hy hE1 hb2 hE2 hE
  go_enter Try.func34, Try.ntmps34
  go_upto_region 1 with fail
  rw [← ha]
  clear ha
  go_wp2_with fail
  refine (pipesOf_any W H fr tt A ps.length c wa).mono ?_
  rintro e w2 ⟨rfl, hb2⟩
  go_upto_region 2 with fail
  obtain ⟨w3, hw3, hs3, r3, hb3⟩ := one_box w2 (.cells #[I W, I H, I fr, I tt, .slice A ps.length c] 103)
  rw [← hw3]
  have hx3 := ints_call hb3 (ints_call hb2 hx1)
  have hy3 := ints_call hb3 (ints_call hb2 hy1)
  have hB3 : Below w.heap.size w w3 := ba.trans ((hb2.mono (by omega)).trans (hb3.mono (by have := hb2.size; omega)))
  obtain ⟨g, hg⟩ : ∃ g, g = w2.heap.size := ⟨_, rfl⟩
  rw [← hg] at r3 hs3
  rw [← hg]
  have hgs : g < w3.heap.size := by omega
  have hgw : w.heap.size < g := by have := hb2.size; omega
  have p0 : w3.cell? ⟨g, 0, none⟩ = some (I W) := cell_of_row w3 _ 0 _ _ _ r3
  have p1 : w3.cell? ⟨g, 1, none⟩ = some (I H) := cell_of_row w3 _ 1 _ _ _ r3
  have p2 : w3.cell? ⟨g, 2, none⟩ = some (I fr) := cell_of_row w3 _ 2 _ _ _ r3
  have p3 : w3.cell? ⟨g, 3, none⟩ = some (I tt) := cell_of_row w3 _ 3 _ _ _ r3
  have p4 : w3.cell? ⟨g, 4, none⟩ = some (.slice A ps.length c) := cell_of_row w3 _ 4 _ _ _ r3
  have R3 := Lib.hid r3
  have HS3 := Lib.hid hs3
  clear hw3 hs3 r3 hb3 hb2 hg f0 f1 f2 f3 f4 hx1 hy1 ba sa
  go_cut [8] from 8 to 19 (fun s8 wx => s8 = I E ∧ KeptS w3 wx)
  case first =>
    go_region_held3 (fun w' => Below w3.heap.size w3 w' ∧ (∀ b o, b < w3.heap.size → w'.cell? ⟨b, o, none⟩ = w3.cell? ⟨b, o, none⟩))
      (first | exact keptS_drew _ | exact keptS_call (by assumption) hb | exact keptS_alloc (by assumption) _ | assumption)
      (first
        | (go_at_call 94; go_must (refine (C1 _ ?_).mono ?_); go_must (exact kept_ints (by assumption) hx3); rintro e w' ⟨rfl, hb⟩)
        | (go_at_call 95; go_must (refine (C2 _ ?_).mono ?_); go_must (exact kept_ints (by assumption) hy3); rintro e w' ⟨rfl, hb⟩)
        | (go_at_call 64; refine (C3 _).mono ?_; rintro e w' ⟨rfl, rfl⟩)
        | (go_at_call 62; go_must (refine (C4 _ _ _ ?_).mono ?_); go_must (exact ints_new _ [E1, E2] _); rintro e w' ⟨rfl, rfl⟩))
    all_goals
      go_wp2_with fail
      go_meet
      exact ⟨rfl, by assumption⟩
  case rest =>
    obtain ⟨rfl, hkk⟩ := hcut
    have HKK := Lib.hid hkk.1
    clear hkk C1 C2 C3 C4 p0 p1 p2 p3 p4
    have hne : (E != 0) = false := by rw [HEE.out, HZ.out]; rfl
    have HR := Lib.hid ((HKK.out.block _ hgs).trans R3.out)
    have p0 : wc.cell? ⟨g, 0, none⟩ = some (I W) := cell_of_row wc _ 0 _ _ _ HR.out
    have p1 : wc.cell? ⟨g, 1, none⟩ = some (I H) := cell_of_row wc _ 1 _ _ _ HR.out
    have p2 : wc.cell? ⟨g, 2, none⟩ = some (I fr) := cell_of_row wc _ 2 _ _ _ HR.out
    have p3 : wc.cell? ⟨g, 3, none⟩ = some (I tt) := cell_of_row wc _ 3 _ _ _ HR.out
    have p4 : wc.cell? ⟨g, 4, none⟩ = some (.slice A ps.length c) := cell_of_row wc _ 4 _ _ _ HR.out
    have hB4 := hB3.trans (HKK.out.mono hB3.size)
    have hxc := ints_call HKK.out hx3
    have hyc := ints_call HKK.out hy3
    have hgc : g < wc.heap.size := Nat.lt_of_lt_of_le hgs HKK.out.size
    obtain ⟨T, hT⟩ : ∃ T, T = wetC W H (opF ps ts N) fr := ⟨_, rfl⟩
    obtain ⟨lk, hlk⟩ : ∃ lk, lk = lkC W H (opF ps ts N) fr := ⟨_, rfl⟩
    have hcall := water_w W H fr N tt A A2 c c2 ps ts wc hW hW9 hH HNW.out hN hfr HPL.out HTL.out HP.out HT.out hxc hyc
    rw [← hT, ← hlk] at hcall
    have hcall : Calls Try.prog 96 #[pipesV W H fr tt A ps.length c, .slice A2 ts.length c2] wc fun e w' => e = .returned (.agg (fcells T lk)) ∧ Below wc.heap.size wc w' := by rw [HPL.out, HTL.out]; exact hcall
    have HTT := Lib.hid hT
    have HLK := Lib.hid hlk
    clear hT hlk hxc hyc hx3 hy3
    go_wp2_with fail
    refine hcall.mono ?_
    rintro e w5 ⟨rfl, hb5⟩
    simp only [fcells]
    go_upto_region 6 with fail
    obtain ⟨w6, hw6, hs6, r6, hb6⟩ := one_box w5 (.cells (fcells T lk) 108)
    have hw6' : w6 = w5.alloc (.cells #[.bool (T 0), .bool (T 1), .bool (T 2), .bool (T 3), .bool (T 4), .bool (T 5), .bool (T 6), .bool (T 7), .bool (T 8), I lk] 108) := hw6
    rw [← hw6']
    obtain ⟨k, hk⟩ : ∃ k, k = w5.heap.size := ⟨_, rfl⟩
    rw [← hk] at r6 hs6
    rw [← hk]
    have hF : FlowAt w6 k T lk := r6
    have hgk : g < k := by have := hb5.size; omega
    have hks : k < w6.heap.size := by omega
    have hg6 : g < w6.heap.size := by omega
    have r7 := (hb6.block g (by omega)).trans ((hb5.block g hgc).trans HR.out)
    have p0 : w6.cell? ⟨g, 0, none⟩ = some (I W) := cell_of_row w6 _ 0 _ _ _ r7
    have p1 : w6.cell? ⟨g, 1, none⟩ = some (I H) := cell_of_row w6 _ 1 _ _ _ r7
    have p2 : w6.cell? ⟨g, 2, none⟩ = some (I fr) := cell_of_row w6 _ 2 _ _ _ r7
    have p3 : w6.cell? ⟨g, 3, none⟩ = some (I tt) := cell_of_row w6 _ 3 _ _ _ r7
    have q9 : w6.cell? ⟨k, 9, none⟩ = some (I lk) := cell_of_row w6 _ 9 _ _ _ r6
    have hB6 : Below w.heap.size w w6 := (hB4.trans (hb5.mono (by omega))).trans (hb6.mono (by have := hb5.size; omega))
    have C1 : ∀ V, Calls Try.prog 97 #[gridI W H fr tt] V fun e w' => e = .returned (I (N : Nat)) ∧ Below V.heap.size V w' := fun V => by
      rw [HNW.out]; exact cells_any W H fr tt V (by omega) (by omega) (by omega) (by omega)
    have C2 : ∀ V, KeptS w6 V → Calls Try.prog 74 #[I N, .func (.func 98) #[] #[.pointer (some ⟨k, 0, none⟩)]] V fun e w' => ∃ A c, e = .returned (.slice A (numsF T N).length c) ∧ IntsR w' w'.heap.size A (numsF T N) ∧ Below V.heap.size V w' := fun V h =>
      numbersWet_any T N lk k V ((h.1.block k hks).trans hF) (by have := h.1.size; omega) hN
    clear hw6 hw6' hk r6 hs6 r7 hb5 hb6 hcall HR hF hne
    go_cut [4, 5, 6] from 4 to 32 (fun s4 s5 s6 wx => ∃ A' c', s4 = .slice A' (numsF T N).length c' ∧ s5 = I lk ∧ s6 = I 0 ∧ IntsR wx wx.heap.size A' (numsF T N) ∧ KeptS w6 wx)
    case first =>
      go_region_held3 (fun w' => Below w6.heap.size w6 w' ∧ (∀ b o, b < w6.heap.size → w'.cell? ⟨b, o, none⟩ = w6.cell? ⟨b, o, none⟩))
        (first | exact keptS_drew _ | exact keptS_call (by assumption) hb | exact keptS_alloc (by assumption) _ | assumption)
        (first
          | (go_at_call 97; refine (C1 _).mono ?_; rintro e w' ⟨rfl, hb⟩)
          | (go_at_call 74; go_must (refine (C2 _ ?_).mono ?_); go_must (assumption); rintro e w' ⟨A', c', rfl, hi, hb⟩))
      all_goals
        go_wp2_with fail
        go_meet
        exact ⟨_, _, rfl, rfl, rfl, by assumption, by assumption⟩
    case rest =>
      obtain ⟨A', c', rfl, rfl, rfl, hi, hkk⟩ := hcut
      have HI := Lib.hid hi
      have HK2 := Lib.hid hkk.1
      clear hi hkk C1 C2 p0 p1 p2 p3 q9
      go_wp2_with fail
      go_ret3
      rw [← HTT.out, ← HLK.out]
      exact ⟨A', c', rfl, HI.out, hB6.trans (HK2.out.mono hB6.size)⟩
end Go.Proofs.Ytglkjiimmlobbaa

/-
  LAYER 6, CONTRACTS: Check, Wrong, Widths, Choices. (Written by gen/gen_srly.py.)
-/
import Derived.Test.YtehoaenkkmmobaaSrLx
namespace Go.Proofs.Ytehoaenkkmmobaa
open Go.RowKit Go.Shelf
theorem mapB_bnd {nP : Nat} {G : List (List Ed)} {D : List Int} (h : mapB nP G D = true) : ∀ k, -1 ≤ nth D k ∧ nth D k ≤ 1000 := by
  obtain ⟨rfl, hv, ho⟩ := mapB_vld h
  rw [okB, Bool.and_eq_true] at ho
  exact inB_bnd ho.1 hv.many
theorem chkE_zero {nP : Nat} {G : List (List Ed)} {D : List Int} (h : chkE nP G D = 0) : mapB nP G D = true := by
  cases hq : mapB nP G D with
  | true => rfl
  | false => rw [chkE, hq] at h; exact absurd h (by decide)
set_option maxRecDepth 100000 in
set_option maxHeartbeats 4000000 in
theorem Wrong_ok (AP AE AD : Option Addr) (nP cP cE cD : Nat) (G : List (List Ed)) (D : List Int) (w : World) (hm : MdR w AE AD G D) (hz : Szd nP G D) (h0 : mapB nP G D = true) :
    Calls Try.prog 19 #[grV AP AE nP cP G.length cE, .slice AD D.length cD] w fun e w' => ∃ A c, e = .returned (.tuple #[.slice A G.length c, I 0]) ∧ IntsR w' w'.heap.size A (wrL G D) ∧ Below w.heap.size w w' := by
  obtain ⟨w1, hw1, hs1, y1, hb1⟩ := one_box w (.cells #[.slice AP nP cP, .slice AE G.length cE] 25)
  obtain ⟨w2, hw2, hs2, y2, hb2⟩ := one_box w1 (.cells #[.slice AP nP cP, .slice AE G.length cE, .slice AD D.length cD] 64)
  have a0 : w1.cell? ⟨w.heap.size, 0, none⟩ = some (.slice AP nP cP) := cell_of_row w1 _ 0 _ _ _ y1
  have a1 : w1.cell? ⟨w.heap.size, 1, none⟩ = some (.slice AE G.length cE) := cell_of_row w1 _ 1 _ _ _ y1
  rw [hs1] at y2
  have m0 : w2.cell? ⟨w.heap.size + 1, 0, none⟩ = some (.slice AP nP cP) := cell_of_row w2 _ 0 _ _ _ y2
  have m1 : w2.cell? ⟨w.heap.size + 1, 1, none⟩ = some (.slice AE G.length cE) := cell_of_row w2 _ 1 _ _ _ y2
  have m2 : w2.cell? ⟨w.heap.size + 1, 2, none⟩ = some (.slice AD D.length cD) := cell_of_row w2 _ 2 _ _ _ y2
  have hB2 := hb1.trans (hb2.mono hb1.size)
  have hck := check_any AP AE AD nP cP cE cD G D w2 (hm.call hB2) hz
  have s1 : w.heap.size + 1 < w2.heap.size := by omega
  have W2 := hw2
  rw [hw1] at W2
  have HB := Lib.hid hB2
  have hbd := mapB_bnd h0
  have hE : chkE nP G D = 0 := by rw [chkE, h0]; rfl
  rw [hE] at hck
  obtain ⟨rfl, hv, ho⟩ := mapB_vld h0
  have HF := Lib.hid (fun V (hV : Below w2.heap.size w2 V) => wrong_any AP AE AD G.length cP cE cD G D V ((hm.call hB2).call hV) hv hbd)
  clear hm hz h0 hv ho hbd hE hw1 hw2 y1 y2 hb1 hb2 hB2 hs1
  go_enter Try.func19, Try.ntmps19
  go_upto_region 2 with fail
  rw [← W2]
  clear W2 a0 a1
  go_wp2_with (first
    | (go_at_call 45; refine hck.mono ?_; rintro e w4 ⟨rfl, hb4⟩; have n0 := (hb4.cell (p := ⟨w.heap.size + 1, 0, none⟩) s1).trans m0; have n1 := (hb4.cell (p := ⟨w.heap.size + 1, 1, none⟩) s1).trans m1; have n2 := (hb4.cell (p := ⟨w.heap.size + 1, 2, none⟩) s1).trans m2; have hf4 := HF.out w4 hb4)
    | (go_at_call 47; refine hf4.mono ?_; rintro e w5 ⟨A, c, rfl, hi, hb5⟩))
  go_ret2
  have hB4 := HB.out.trans (hb4.mono HB.out.size)
  exact ⟨_, _, rfl, hi, hB4.trans (hb5.mono hB4.size)⟩
set_option maxRecDepth 100000 in
set_option maxHeartbeats 4000000 in
theorem Wrong_err (AP AE AD : Option Addr) (nP cP cE cD : Nat) (G : List (List Ed)) (D : List Int) (w : World) (hm : MdR w AE AD G D) (hz : Szd nP G D) (h0 : chkE nP G D ≠ 0) :
    Calls Try.prog 19 #[grV AP AE nP cP G.length cE, .slice AD D.length cD] w fun e w' => e = .returned (.tuple #[.slice none 0 0, I (chkE nP G D)]) ∧ Below w.heap.size w w' := by
  obtain ⟨w1, hw1, hs1, y1, hb1⟩ := one_box w (.cells #[.slice AP nP cP, .slice AE G.length cE] 25)
  obtain ⟨w2, hw2, hs2, y2, hb2⟩ := one_box w1 (.cells #[.slice AP nP cP, .slice AE G.length cE, .slice AD D.length cD] 64)
  have a0 : w1.cell? ⟨w.heap.size, 0, none⟩ = some (.slice AP nP cP) := cell_of_row w1 _ 0 _ _ _ y1
  have a1 : w1.cell? ⟨w.heap.size, 1, none⟩ = some (.slice AE G.length cE) := cell_of_row w1 _ 1 _ _ _ y1
  rw [hs1] at y2
  have m0 : w2.cell? ⟨w.heap.size + 1, 0, none⟩ = some (.slice AP nP cP) := cell_of_row w2 _ 0 _ _ _ y2
  have m1 : w2.cell? ⟨w.heap.size + 1, 1, none⟩ = some (.slice AE G.length cE) := cell_of_row w2 _ 1 _ _ _ y2
  have m2 : w2.cell? ⟨w.heap.size + 1, 2, none⟩ = some (.slice AD D.length cD) := cell_of_row w2 _ 2 _ _ _ y2
  have hB2 := hb1.trans (hb2.mono hb1.size)
  have hck := check_any AP AE AD nP cP cE cD G D w2 (hm.call hB2) hz
  have s1 : w.heap.size + 1 < w2.heap.size := by omega
  have W2 := hw2
  rw [hw1] at W2
  have HB := Lib.hid hB2
  obtain ⟨E, hE⟩ : ∃ E, E = chkE nP G D := ⟨_, rfl⟩
  rw [← hE] at hck h0
  rw [← hE]
  have q1 : (E != 0) = true := by simpa using h0
  have q2 : decide (E = 0) = false := decide_eq_false h0
  clear hm hz h0 hE hw1 hw2 y1 y2 hb1 hb2 hB2 hs1
  go_enter Try.func19, Try.ntmps19
  go_upto_region 2 with fail
  rw [← W2]
  clear W2 a0 a1
  go_wp2_with (go_at_call 45; refine hck.mono ?_; rintro e w4 ⟨rfl, hb4⟩; have n0 := (hb4.cell (p := ⟨w.heap.size + 1, 0, none⟩) s1).trans m0; have n1 := (hb4.cell (p := ⟨w.heap.size + 1, 1, none⟩) s1).trans m1; have n2 := (hb4.cell (p := ⟨w.heap.size + 1, 2, none⟩) s1).trans m2)
  go_ret2
  exact ⟨rfl, HB.out.trans (hb4.mono HB.out.size)⟩
set_option maxRecDepth 100000 in
set_option maxHeartbeats 4000000 in
theorem Widths_ok (AP AE AD : Option Addr) (nP cP cE cD : Nat) (G : List (List Ed)) (D : List Int) (w : World) (hm : MdR w AE AD G D) (hz : Szd nP G D) (h0 : mapB nP G D = true) :
    Calls Try.prog 22 #[grV AP AE nP cP G.length cE, .slice AD D.length cD] w fun e w' => ∃ A c N, e = .returned (.tuple #[.slice A N c, I 0]) ∧ MaxD D N ∧ IntsR w' w'.heap.size A (wdL D N) ∧ Below w.heap.size w w' := by
  obtain ⟨w1, hw1, hs1, y1, hb1⟩ := one_box w (.cells #[.slice AP nP cP, .slice AE G.length cE] 25)
  obtain ⟨w2, hw2, hs2, y2, hb2⟩ := one_box w1 (.cells #[.slice AP nP cP, .slice AE G.length cE, .slice AD D.length cD] 64)
  have a0 : w1.cell? ⟨w.heap.size, 0, none⟩ = some (.slice AP nP cP) := cell_of_row w1 _ 0 _ _ _ y1
  have a1 : w1.cell? ⟨w.heap.size, 1, none⟩ = some (.slice AE G.length cE) := cell_of_row w1 _ 1 _ _ _ y1
  rw [hs1] at y2
  have m0 : w2.cell? ⟨w.heap.size + 1, 0, none⟩ = some (.slice AP nP cP) := cell_of_row w2 _ 0 _ _ _ y2
  have m1 : w2.cell? ⟨w.heap.size + 1, 1, none⟩ = some (.slice AE G.length cE) := cell_of_row w2 _ 1 _ _ _ y2
  have m2 : w2.cell? ⟨w.heap.size + 1, 2, none⟩ = some (.slice AD D.length cD) := cell_of_row w2 _ 2 _ _ _ y2
  have hB2 := hb1.trans (hb2.mono hb1.size)
  have hck := check_any AP AE AD nP cP cE cD G D w2 (hm.call hB2) hz
  have s1 : w.heap.size + 1 < w2.heap.size := by omega
  have W2 := hw2
  rw [hw1] at W2
  have HB := Lib.hid hB2
  have hbd := mapB_bnd h0
  have hE : chkE nP G D = 0 := by rw [chkE, h0]; rfl
  rw [hE] at hck
  obtain ⟨rfl, hv, ho⟩ := mapB_vld h0
  have HF := Lib.hid (fun V (hV : Below w2.heap.size w2 V) => widths_any AP AE AD G.length cP cE cD G D V ((hm.call hB2).call hV) hv hbd)
  clear hm hz h0 hv ho hbd hE hw1 hw2 y1 y2 hb1 hb2 hB2 hs1
  go_enter Try.func22, Try.ntmps22
  go_upto_region 2 with fail
  rw [← W2]
  clear W2 a0 a1
  go_wp2_with (first
    | (go_at_call 45; refine hck.mono ?_; rintro e w4 ⟨rfl, hb4⟩; have n0 := (hb4.cell (p := ⟨w.heap.size + 1, 0, none⟩) s1).trans m0; have n1 := (hb4.cell (p := ⟨w.heap.size + 1, 1, none⟩) s1).trans m1; have n2 := (hb4.cell (p := ⟨w.heap.size + 1, 2, none⟩) s1).trans m2; have hf4 := HF.out w4 hb4)
    | (go_at_call 49; refine hf4.mono ?_; rintro e w5 ⟨A, c, N, rfl, hx, hi, hb5⟩))
  go_ret2
  have hB4 := HB.out.trans (hb4.mono HB.out.size)
  exact ⟨_, _, N, rfl, hx, hi, hB4.trans (hb5.mono hB4.size)⟩
set_option maxRecDepth 100000 in
set_option maxHeartbeats 4000000 in
theorem Widths_err (AP AE AD : Option Addr) (nP cP cE cD : Nat) (G : List (List Ed)) (D : List Int) (w : World) (hm : MdR w AE AD G D) (hz : Szd nP G D) (h0 : chkE nP G D ≠ 0) :
    Calls Try.prog 22 #[grV AP AE nP cP G.length cE, .slice AD D.length cD] w fun e w' => e = .returned (.tuple #[.slice none 0 0, I (chkE nP G D)]) ∧ Below w.heap.size w w' := by
  obtain ⟨w1, hw1, hs1, y1, hb1⟩ := one_box w (.cells #[.slice AP nP cP, .slice AE G.length cE] 25)
  obtain ⟨w2, hw2, hs2, y2, hb2⟩ := one_box w1 (.cells #[.slice AP nP cP, .slice AE G.length cE, .slice AD D.length cD] 64)
  have a0 : w1.cell? ⟨w.heap.size, 0, none⟩ = some (.slice AP nP cP) := cell_of_row w1 _ 0 _ _ _ y1
  have a1 : w1.cell? ⟨w.heap.size, 1, none⟩ = some (.slice AE G.length cE) := cell_of_row w1 _ 1 _ _ _ y1
  rw [hs1] at y2
  have m0 : w2.cell? ⟨w.heap.size + 1, 0, none⟩ = some (.slice AP nP cP) := cell_of_row w2 _ 0 _ _ _ y2
  have m1 : w2.cell? ⟨w.heap.size + 1, 1, none⟩ = some (.slice AE G.length cE) := cell_of_row w2 _ 1 _ _ _ y2
  have m2 : w2.cell? ⟨w.heap.size + 1, 2, none⟩ = some (.slice AD D.length cD) := cell_of_row w2 _ 2 _ _ _ y2
  have hB2 := hb1.trans (hb2.mono hb1.size)
  have hck := check_any AP AE AD nP cP cE cD G D w2 (hm.call hB2) hz
  have s1 : w.heap.size + 1 < w2.heap.size := by omega
  have W2 := hw2
  rw [hw1] at W2
  have HB := Lib.hid hB2
  obtain ⟨E, hE⟩ : ∃ E, E = chkE nP G D := ⟨_, rfl⟩
  rw [← hE] at hck h0
  rw [← hE]
  have q1 : (E != 0) = true := by simpa using h0
  have q2 : decide (E = 0) = false := decide_eq_false h0
  clear hm hz h0 hE hw1 hw2 y1 y2 hb1 hb2 hB2 hs1
  go_enter Try.func22, Try.ntmps22
  go_upto_region 2 with fail
  rw [← W2]
  clear W2 a0 a1
  go_wp2_with (go_at_call 45; refine hck.mono ?_; rintro e w4 ⟨rfl, hb4⟩; have n0 := (hb4.cell (p := ⟨w.heap.size + 1, 0, none⟩) s1).trans m0; have n1 := (hb4.cell (p := ⟨w.heap.size + 1, 1, none⟩) s1).trans m1; have n2 := (hb4.cell (p := ⟨w.heap.size + 1, 2, none⟩) s1).trans m2)
  go_ret2
  exact ⟨rfl, HB.out.trans (hb4.mono HB.out.size)⟩
set_option maxRecDepth 100000 in
set_option maxHeartbeats 4000000 in
theorem Choices_err (AP AE AD : Option Addr) (nP cP cE cD : Nat) (G : List (List Ed)) (D : List Int) (w : World) (hm : MdR w AE AD G D) (hz : Szd nP G D) (h0 : chkE nP G D ≠ 0) :
    Calls Try.prog 24 #[grV AP AE nP cP G.length cE, .slice AD D.length cD] w fun e w' => e = .returned (.tuple #[.slice none 0 0, I (chkE nP G D)]) ∧ Below w.heap.size w w' := by
  obtain ⟨w1, hw1, hs1, y1, hb1⟩ := one_box w (.cells #[.slice AP nP cP, .slice AE G.length cE] 25)
  obtain ⟨w2, hw2, hs2, y2, hb2⟩ := one_box w1 (.cells #[.slice AP nP cP, .slice AE G.length cE, .slice AD D.length cD] 64)
  have a0 : w1.cell? ⟨w.heap.size, 0, none⟩ = some (.slice AP nP cP) := cell_of_row w1 _ 0 _ _ _ y1
  have a1 : w1.cell? ⟨w.heap.size, 1, none⟩ = some (.slice AE G.length cE) := cell_of_row w1 _ 1 _ _ _ y1
  rw [hs1] at y2
  have m0 : w2.cell? ⟨w.heap.size + 1, 0, none⟩ = some (.slice AP nP cP) := cell_of_row w2 _ 0 _ _ _ y2
  have m1 : w2.cell? ⟨w.heap.size + 1, 1, none⟩ = some (.slice AE G.length cE) := cell_of_row w2 _ 1 _ _ _ y2
  have m2 : w2.cell? ⟨w.heap.size + 1, 2, none⟩ = some (.slice AD D.length cD) := cell_of_row w2 _ 2 _ _ _ y2
  have hB2 := hb1.trans (hb2.mono hb1.size)
  have hck := check_any AP AE AD nP cP cE cD G D w2 (hm.call hB2) hz
  have s1 : w.heap.size + 1 < w2.heap.size := by omega
  have W2 := hw2
  rw [hw1] at W2
  have HB := Lib.hid hB2
  obtain ⟨E, hE⟩ : ∃ E, E = chkE nP G D := ⟨_, rfl⟩
  rw [← hE] at hck h0
  rw [← hE]
  have q1 : (E != 0) = true := by simpa using h0
  have q2 : decide (E = 0) = false := decide_eq_false h0
  clear hm hz h0 hE hw1 hw2 y1 y2 hb1 hb2 hB2 hs1
  go_enter Try.func24, Try.ntmps24
  go_upto_region 2 with fail
  rw [← W2]
  clear W2 a0 a1
  go_wp2_with (go_at_call 45; refine hck.mono ?_; rintro e w4 ⟨rfl, hb4⟩; have n0 := (hb4.cell (p := ⟨w.heap.size + 1, 0, none⟩) s1).trans m0; have n1 := (hb4.cell (p := ⟨w.heap.size + 1, 1, none⟩) s1).trans m1; have n2 := (hb4.cell (p := ⟨w.heap.size + 1, 2, none⟩) s1).trans m2)
  go_ret2
  exact ⟨rfl, HB.out.trans (hb4.mono HB.out.size)⟩
theorem unlE_below (b : Bool) (n : Int) (w : World) : Calls Try.prog 51 #[.bool b, I n] w fun e w' => e = .returned (I (unlE b n)) ∧ Below w.heap.size w w' := (unlE_any b n w).mono (by
  rintro e w' ⟨rfl, rfl⟩
  exact ⟨rfl, Below.refl _ _⟩)
theorem bcellL {w1 w' : World} (h : Below w1.heap.size w1 w') : ∀ a : Addr, a.block < w1.heap.size → w'.cell? a = w1.cell? a := fun _ hb => h.cell hb
set_option maxRecDepth 100000 in
set_option maxHeartbeats 8000000 in
theorem Choices_ok (AP AE AD : Option Addr) (nP cP cE cD : Nat) (G : List (List Ed)) (D : List Int) (w : World) (hm : MdR w AE AD G D) (hz : Szd nP G D) (h0 : mapB nP G D = true) :
    Calls Try.prog 24 #[grV AP AE nP cP G.length cE, .slice AD D.length cD] w fun e w' => ∃ v, e = .returned (.tuple #[v, I (unlE (nth D 0 != -1) 3)]) ∧ TrR w' w.heap.size v (chL G D (nth D 0).toNat) ∧ Below w.heap.size w w' := by
  obtain ⟨w1, hw1, hs1, y1, hb1⟩ := one_box w (.cells #[.slice AP nP cP, .slice AE G.length cE] 25)
  obtain ⟨w2, hw2, hs2, y2, hb2⟩ := one_box w1 (.cells #[.slice AP nP cP, .slice AE G.length cE, .slice AD D.length cD] 64)
  have a0 : w1.cell? ⟨w.heap.size, 0, none⟩ = some (.slice AP nP cP) := cell_of_row w1 _ 0 _ _ _ y1
  have a1 : w1.cell? ⟨w.heap.size, 1, none⟩ = some (.slice AE G.length cE) := cell_of_row w1 _ 1 _ _ _ y1
  rw [hs1] at y2
  have m0 : w2.cell? ⟨w.heap.size + 1, 0, none⟩ = some (.slice AP nP cP) := cell_of_row w2 _ 0 _ _ _ y2
  have m1 : w2.cell? ⟨w.heap.size + 1, 1, none⟩ = some (.slice AE G.length cE) := cell_of_row w2 _ 1 _ _ _ y2
  have m2 : w2.cell? ⟨w.heap.size + 1, 2, none⟩ = some (.slice AD D.length cD) := cell_of_row w2 _ 2 _ _ _ y2
  have hB2 := hb1.trans (hb2.mono hb1.size)
  have hck := check_any AP AE AD nP cP cE cD G D w2 (hm.call hB2) hz
  have s1 : w.heap.size + 1 < w2.heap.size := by omega
  have W2 := hw2
  rw [hw1] at W2
  have HB := Lib.hid hB2
  have hbd := mapB_bnd h0
  have hE : chkE nP G D = 0 := by rw [chkE, h0]; rfl
  rw [hE] at hck
  obtain ⟨rfl, hv, ho⟩ := mapB_vld h0
  have hpos := hv.pos
  have hlD := hv.len
  have HF0 := Lib.hid (fun V (hV : Below w2.heap.size w2 V) => choices_any AP AE AD G.length cP cE cD G D V ((hm.call hB2).call hV) hv ho hbd)
  obtain ⟨gA, oA, e1, hbA, hcell⟩ := (hm.call hB2).d.plain (by omega)
  subst e1
  have hcA := hcell 0 (by omega)
  rw [Nat.add_zero] at hcA
  have hD0 : 0 < D.length := by omega
  obtain ⟨z, hzz⟩ : ∃ z, z = nth D 0 := ⟨_, rfl⟩
  rw [← hzz] at hcA
  have HZZ := Lib.hid hzz
  clear hm hz h0 hv ho hbd hE hw1 hw2 y1 y2 hb1 hb2 hB2 hs1 hlD hpos hcell hzz
  go_enter Try.func24, Try.ntmps24
  go_upto_region 2 with fail
  rw [← W2]
  clear W2 a0 a1
  go_upto_region 5 with (go_at_call 45; refine hck.mono ?_; rintro e w4 ⟨rfl, hb4⟩; have n0 := (hb4.cell (p := ⟨w.heap.size + 1, 0, none⟩) s1).trans m0; have n1 := (hb4.cell (p := ⟨w.heap.size + 1, 1, none⟩) s1).trans m1; have n2 := (hb4.cell (p := ⟨w.heap.size + 1, 2, none⟩) s1).trans m2; have c0 := (hb4.cell (p := ⟨gA, oA, none⟩) hbA).trans hcA)
  obtain ⟨wx, hwx⟩ : ∃ wx, wx = w4 := ⟨_, rfl⟩
  rw [← hwx] at hb4 n0 n1 n2 c0
  rw [← hwx]
  clear hwx
  have hHF : ∀ V, Below wx.heap.size wx V → Calls Try.prog 50 #[mdlV (.slice AP G.length cP) AE (some ⟨gA, oA, none⟩) G.length cE D.length cD] V fun e w' => ∃ v, e = .returned v ∧ TrR w' V.heap.size v (chL G D (nth D 0).toNat) ∧ Below V.heap.size V w' := fun V hV => HF0.out V (hb4.trans (hV.mono hb4.size))
  have HF := Lib.hid hHF
  have sX : w.heap.size + 1 < wx.heap.size := Nat.lt_of_lt_of_le s1 hb4.size
  have sA : gA < wx.heap.size := Nat.lt_of_lt_of_le hbA hb4.size
  clear hHF hcA hbA m0 m1 m2 s1 hck
  refine wp_region_inv (by kernel_rfl) (fun L a w' => L.size = 10 ∧ ∃ u16 u17 u18 u19 u20 u21 u22 u23 u4 u5 : Value, a = { tmps := #[grV AP AE G.length cP G.length cE, .slice (some ⟨gA, oA, none⟩) D.length cD, .pointer (some ⟨w.heap.size, 0, none⟩), undef, u4, u5, .pointer (some ⟨w.heap.size + 1, 0, none⟩), I 0, .agg #[.slice AP G.length cP, .slice AE G.length cE], .slice (some ⟨gA, oA, none⟩) D.length cD, mdlV (.slice AP G.length cP) AE (some ⟨gA, oA, none⟩) G.length cE D.length cD, mdlV (.slice AP G.length cP) AE (some ⟨gA, oA, none⟩) G.length cE D.length cD, I 0, I 0, .bool false, undef, u16, u17, u18, u19, u20, u21, u22, u23], defers := [] } ∧ Below wx.heap.size wx w' ∧ (L.getD 0 false = true → u16 = mdlV (.slice AP G.length cP) AE (some ⟨gA, oA, none⟩) G.length cE D.length cD) ∧ (L.getD 1 false = true → TrR w' wx.heap.size u17 (chL G D (nth D 0).toNat)) ∧ (L.getD 2 false = true → u18 = .pointer (some ⟨w.heap.size + 1, 2, none⟩)) ∧ (L.getD 3 false = true → u19 = .slice (some ⟨gA, oA, none⟩) D.length cD) ∧ (L.getD 4 false = true → u20 = .pointer (some ⟨gA, oA, none⟩)) ∧ (L.getD 5 false = true → u21 = I z) ∧ (L.getD 6 false = true → u22 = .bool (z != -1)) ∧ (L.getD 7 false = true → u23 = I (unlE (z != -1) 3)) ∧ (L.getD 8 false = true → TrR w' wx.heap.size u4 (chL G D (nth D 0).toNat)) ∧ (L.getD 9 false = true → u5 = I (unlE (z != -1) 3))) ?_ ?_ ?_
  · exact ⟨by simp, _, _, _, _, _, _, _, _, _, _, rfl, (Below.refl _ _).drew, by simp, by simp, by simp, by simp, by simp, by simp, by simp, by simp, by simp, by simp⟩
  · rintro i L a w' ⟨hL, u16, u17, u18, u19, u20, u21, u22, u23, u4, u5, rfl, hbw', h0, h1, h2, h3, h4, h5, h6, h7, h8, h9⟩ hi
    have hcases : i = 0 ∨ i = 1 ∨ i = 2 ∨ i = 3 ∨ i = 4 ∨ i = 5 ∨ i = 6 ∨ i = 7 ∨ i = 8 ∨ i = 9 := by
      have : i < 10 := ready_lt hi
      omega
    have hc' := bcellL hbw'
    rcases hcases with rfl | rfl | rfl | rfl | rfl | rfl | rfl | rfl | rfl | rfl
    · refine wpOp_val (mdlV (.slice AP G.length cP) AE (some ⟨gA, oA, none⟩) G.length cE D.length cD) rfl (by rfl) (by go_simp) ?_
      exact ⟨by simpa using hL, _, _, _, _, _, _, _, _, _, _, rfl, hbw', fun _ => rfl, (fun h => h1 ((set_other (by decide)).symm.trans h)), (fun h => h2 ((set_other (by decide)).symm.trans h)), (fun h => h3 ((set_other (by decide)).symm.trans h)), (fun h => h4 ((set_other (by decide)).symm.trans h)), (fun h => h5 ((set_other (by decide)).symm.trans h)), (fun h => h6 ((set_other (by decide)).symm.trans h)), (fun h => h7 ((set_other (by decide)).symm.trans h)), (fun h => h8 ((set_other (by decide)).symm.trans h)), (fun h => h9 ((set_other (by decide)).symm.trans h))⟩
    · obtain rfl := h0 (ready_dep hi 0 (by kernel_rfl))
      refine wpOp_wp rfl (by rfl) (wp_call_fns (vs := #[mdlV (.slice AP G.length cP) AE (some ⟨gA, oA, none⟩) G.length cE D.length cD]) rfl (by simp [Act.eval]) (enters_of Try.func50 (by kernel_rfl) rfl) ((HF.out w' hbw').mono ?_))
      rintro e w2 ⟨v, rfl, ht, hb⟩
      exact ⟨by simpa using hL, _, _, _, _, _, _, _, _, _, _, rfl, (hbw'.trans (hb.mono hbw'.size)), (fun h => h0 ((set_other (by decide)).symm.trans h)), fun _ => ht.rebase hbw'.size, (fun h => h2 ((set_other (by decide)).symm.trans h)), (fun h => h3 ((set_other (by decide)).symm.trans h)), (fun h => h4 ((set_other (by decide)).symm.trans h)), (fun h => h5 ((set_other (by decide)).symm.trans h)), (fun h => h6 ((set_other (by decide)).symm.trans h)), (fun h => h7 ((set_other (by decide)).symm.trans h)), (fun h => (h8 ((set_other (by decide)).symm.trans h)).call hb), (fun h => h9 ((set_other (by decide)).symm.trans h))⟩
    · refine wpOp_val (.pointer (some ⟨w.heap.size + 1, 2, none⟩)) rfl (by rfl) (by go_simp) ?_
      exact ⟨by simpa using hL, _, _, _, _, _, _, _, _, _, _, rfl, hbw', (fun h => h0 ((set_other (by decide)).symm.trans h)), (fun h => h1 ((set_other (by decide)).symm.trans h)), fun _ => rfl, (fun h => h3 ((set_other (by decide)).symm.trans h)), (fun h => h4 ((set_other (by decide)).symm.trans h)), (fun h => h5 ((set_other (by decide)).symm.trans h)), (fun h => h6 ((set_other (by decide)).symm.trans h)), (fun h => h7 ((set_other (by decide)).symm.trans h)), (fun h => h8 ((set_other (by decide)).symm.trans h)), (fun h => h9 ((set_other (by decide)).symm.trans h))⟩
    · obtain rfl := h2 (ready_dep hi 2 (by kernel_rfl))
      refine wpOp_val (.slice (some ⟨gA, oA, none⟩) D.length cD) rfl (by rfl) (by go_simp) ?_
      exact ⟨by simpa using hL, _, _, _, _, _, _, _, _, _, _, rfl, hbw', (fun h => h0 ((set_other (by decide)).symm.trans h)), (fun h => h1 ((set_other (by decide)).symm.trans h)), (fun h => h2 ((set_other (by decide)).symm.trans h)), fun _ => rfl, (fun h => h4 ((set_other (by decide)).symm.trans h)), (fun h => h5 ((set_other (by decide)).symm.trans h)), (fun h => h6 ((set_other (by decide)).symm.trans h)), (fun h => h7 ((set_other (by decide)).symm.trans h)), (fun h => h8 ((set_other (by decide)).symm.trans h)), (fun h => h9 ((set_other (by decide)).symm.trans h))⟩
    · obtain rfl := h3 (ready_dep hi 3 (by kernel_rfl))
      refine wpOp_val (.pointer (some ⟨gA, oA, none⟩)) rfl (by rfl) (by go_simp) ?_
      exact ⟨by simpa using hL, _, _, _, _, _, _, _, _, _, _, rfl, hbw', (fun h => h0 ((set_other (by decide)).symm.trans h)), (fun h => h1 ((set_other (by decide)).symm.trans h)), (fun h => h2 ((set_other (by decide)).symm.trans h)), (fun h => h3 ((set_other (by decide)).symm.trans h)), fun _ => rfl, (fun h => h5 ((set_other (by decide)).symm.trans h)), (fun h => h6 ((set_other (by decide)).symm.trans h)), (fun h => h7 ((set_other (by decide)).symm.trans h)), (fun h => h8 ((set_other (by decide)).symm.trans h)), (fun h => h9 ((set_other (by decide)).symm.trans h))⟩
    · obtain rfl := h4 (ready_dep hi 4 (by kernel_rfl))
      refine wpOp_val (I z) rfl (by rfl) (by go_simp) ?_
      exact ⟨by simpa using hL, _, _, _, _, _, _, _, _, _, _, rfl, hbw', (fun h => h0 ((set_other (by decide)).symm.trans h)), (fun h => h1 ((set_other (by decide)).symm.trans h)), (fun h => h2 ((set_other (by decide)).symm.trans h)), (fun h => h3 ((set_other (by decide)).symm.trans h)), (fun h => h4 ((set_other (by decide)).symm.trans h)), fun _ => rfl, (fun h => h6 ((set_other (by decide)).symm.trans h)), (fun h => h7 ((set_other (by decide)).symm.trans h)), (fun h => h8 ((set_other (by decide)).symm.trans h)), (fun h => h9 ((set_other (by decide)).symm.trans h))⟩
    · obtain rfl := h5 (ready_dep hi 5 (by kernel_rfl))
      refine wpOp_val (.bool (z != -1)) rfl (by rfl) (by go_simp) ?_
      exact ⟨by simpa using hL, _, _, _, _, _, _, _, _, _, _, rfl, hbw', (fun h => h0 ((set_other (by decide)).symm.trans h)), (fun h => h1 ((set_other (by decide)).symm.trans h)), (fun h => h2 ((set_other (by decide)).symm.trans h)), (fun h => h3 ((set_other (by decide)).symm.trans h)), (fun h => h4 ((set_other (by decide)).symm.trans h)), (fun h => h5 ((set_other (by decide)).symm.trans h)), fun _ => rfl, (fun h => h7 ((set_other (by decide)).symm.trans h)), (fun h => h8 ((set_other (by decide)).symm.trans h)), (fun h => h9 ((set_other (by decide)).symm.trans h))⟩
    · obtain rfl := h6 (ready_dep hi 6 (by kernel_rfl))
      refine wpOp_wp rfl (by rfl) (wp_call_fns (vs := #[.bool (z != -1), I 3]) rfl (by simp [Act.eval]) (enters_of Try.func51 (by kernel_rfl) rfl) ((unlE_below (z != -1) 3 w').mono ?_))
      rintro e w2 ⟨rfl, hb⟩
      exact ⟨by simpa using hL, _, _, _, _, _, _, _, _, _, _, rfl, (hbw'.trans (hb.mono hbw'.size)), (fun h => h0 ((set_other (by decide)).symm.trans h)), (fun h => (h1 ((set_other (by decide)).symm.trans h)).call hb), (fun h => h2 ((set_other (by decide)).symm.trans h)), (fun h => h3 ((set_other (by decide)).symm.trans h)), (fun h => h4 ((set_other (by decide)).symm.trans h)), (fun h => h5 ((set_other (by decide)).symm.trans h)), (fun h => h6 ((set_other (by decide)).symm.trans h)), fun _ => rfl, (fun h => (h8 ((set_other (by decide)).symm.trans h)).call hb), (fun h => h9 ((set_other (by decide)).symm.trans h))⟩
    · have hsl := h1 (ready_dep hi 1 (by kernel_rfl))
      refine wpOp_val (u17) rfl (by rfl) (by go_simp) ?_
      exact ⟨by simpa using hL, _, _, _, _, _, _, _, _, _, _, rfl, hbw', (fun h => h0 ((set_other (by decide)).symm.trans h)), (fun h => h1 ((set_other (by decide)).symm.trans h)), (fun h => h2 ((set_other (by decide)).symm.trans h)), (fun h => h3 ((set_other (by decide)).symm.trans h)), (fun h => h4 ((set_other (by decide)).symm.trans h)), (fun h => h5 ((set_other (by decide)).symm.trans h)), (fun h => h6 ((set_other (by decide)).symm.trans h)), (fun h => h7 ((set_other (by decide)).symm.trans h)), fun _ => hsl, (fun h => h9 ((set_other (by decide)).symm.trans h))⟩
    · obtain rfl := h7 (ready_dep hi 7 (by kernel_rfl))
      refine wpOp_val (I (unlE (z != -1) 3)) rfl (by rfl) (by go_simp) ?_
      exact ⟨by simpa using hL, _, _, _, _, _, _, _, _, _, _, rfl, hbw', (fun h => h0 ((set_other (by decide)).symm.trans h)), (fun h => h1 ((set_other (by decide)).symm.trans h)), (fun h => h2 ((set_other (by decide)).symm.trans h)), (fun h => h3 ((set_other (by decide)).symm.trans h)), (fun h => h4 ((set_other (by decide)).symm.trans h)), (fun h => h5 ((set_other (by decide)).symm.trans h)), (fun h => h6 ((set_other (by decide)).symm.trans h)), (fun h => h7 ((set_other (by decide)).symm.trans h)), (fun h => h8 ((set_other (by decide)).symm.trans h)), fun _ => rfl⟩
  · rintro L a w' ⟨hL, u16, u17, u18, u19, u20, u21, u22, u23, u4, u5, rfl, hbw', h0, h1, h2, h3, h4, h5, h6, h7, h8, h9⟩ hr
    have hall := all_listed hL (by kernel_rfl) hr
    obtain rfl := h0 (hall 0 (by decide))
    have g1 := h1 (hall 1 (by decide))
    obtain rfl := h2 (hall 2 (by decide))
    obtain rfl := h3 (hall 3 (by decide))
    obtain rfl := h4 (hall 4 (by decide))
    obtain rfl := h5 (hall 5 (by decide))
    obtain rfl := h6 (hall 6 (by decide))
    obtain rfl := h7 (hall 7 (by decide))
    have g8 := h8 (hall 8 (by decide))
    obtain rfl := h9 (hall 9 (by decide))
    clear hall hr hL
    try dsimp only
    go_wp2_with fail
    go_ret2
    have hB4 := HB.out.trans (hb4.mono HB.out.size)
    rw [← HZZ.out] at g8 ⊢
    exact ⟨_, rfl, g8.rebase hB4.size, hB4.trans (hbw'.mono hB4.size)⟩
theorem scheck_any (AP AE AD : Option Addr) (nP cP cE cD : Nat) (G : List (List Ed)) (D : List Int) (w : World) (hm : MdR w AE AD G D) (hz : Szd nP G D) : Calls Try.prog 17 #[grV AP AE nP cP G.length cE, .slice AD D.length cD] w fun e w' => e = .returned (I (chkE nP G D)) ∧ Below w.heap.size w w' := by
  obtain ⟨w1, hw1, hs1, y1, hb1⟩ := one_box w (.cells #[.slice AP nP cP, .slice AE G.length cE] 25)
  have a0 : w1.cell? ⟨w.heap.size, 0, none⟩ = some (.slice AP nP cP) := cell_of_row w1 _ 0 _ _ _ y1
  have a1 : w1.cell? ⟨w.heap.size, 1, none⟩ = some (.slice AE G.length cE) := cell_of_row w1 _ 1 _ _ _ y1
  have hck := check_any AP AE AD nP cP cE cD G D w1 (hm.call hb1) hz
  clear hm hz y1
  go_enter Try.func17, Try.ntmps17
  go_upto_region 1 with fail
  rw [← hw1]
  clear hw1
  go_wp2_with (go_at_call 45; refine hck.mono ?_; rintro e w4 ⟨rfl, hb4⟩)
  go_ret
  exact ⟨rfl, hb1.trans (hb4.mono hb1.size)⟩
end Go.Proofs.Ytehoaenkkmmobaa

/-
  LAYER 6, CONTRACT: Chance.
-/
import Derived.Test.YtehoaenkkmmobaaSrCh
import Derived.Test.YtehoaenkkmmobaaSrLy
namespace Go.Proofs.Ytehoaenkkmmobaa
open Go.RowKit Go.Shelf
def chcE (nP : Nat) (G : List (List Ed)) (D : List Int) (moves : Int) : Int := fstErr [chkE nP G D, unlE (wi moves 0 20) 1]
theorem chcE_zero {nP : Nat} {G : List (List Ed)} {D : List Int} {moves : Int} (h : chcE nP G D moves = 0) : mapB nP G D = true ∧ 0 ≤ moves ∧ moves ≤ 20 := by
  unfold chcE chkE unlE at h
  cases h1 : mapB nP G D
  · rw [h1] at h; exact absurd h (by simp [fstErr])
  · cases h2 : wi moves 0 20
    · rw [h1, h2] at h; exact absurd h (by simp [fstErr])
    · refine ⟨rfl, ?_⟩
      simpa [wi] using h2
theorem chcE_of {nP : Nat} {G : List (List Ed)} {D : List Int} {moves : Int} (h1 : mapB nP G D = true) (h2 : 0 ≤ moves ∧ moves ≤ 20) : chcE nP G D moves = 0 := by
  have h3 : wi moves 0 20 = true := by simp [wi, h2]
  unfold chcE chkE unlE
  rw [h1, h3]; rfl
set_option maxRecDepth 100000 in
set_option maxHeartbeats 8000000 in
theorem Chance_gen (AP AE AD : Option Addr) (nP cP cE cD : Nat) (G : List (List Ed)) (D : List Int) (moves r1 r2 r3 : Int) (w : World) (hm : MdR w AE AD G D) (hz : Szd nP G D)
    (h : (chcE nP G D moves ≠ 0 ∧ r1 = 0 ∧ r2 = 0 ∧ r3 = chcE nP G D moves) ∨ (chcE nP G D moves = 0 ∧ ∀ V, MdR V AE AD G D → Calls Try.prog 56 #[mdlV (.slice AP nP cP) AE AD G.length cE D.length cD, I moves] V fun e w' => e = .returned (.tuple #[I r1, I r2, I r3]) ∧ Below V.heap.size V w')) :
    Calls Try.prog 28 #[grV AP AE nP cP G.length cE, .slice AD D.length cD, I moves] w fun e w' => e = .returned (.tuple #[I r1, I r2, I r3]) ∧ Below w.heap.size w w' := by
  obtain ⟨w1, hw1, hs1, y1, hb1⟩ := one_box w (.cells #[.slice AP nP cP, .slice AE G.length cE] 25)
  obtain ⟨w2, hw2, hs2, y2, hb2⟩ := one_box w1 (.cells #[.slice AP nP cP, .slice AE G.length cE, .slice AD D.length cD] 64)
  have a0 : w1.cell? ⟨w.heap.size, 0, none⟩ = some (.slice AP nP cP) := cell_of_row w1 _ 0 _ _ _ y1
  have a1 : w1.cell? ⟨w.heap.size, 1, none⟩ = some (.slice AE G.length cE) := cell_of_row w1 _ 1 _ _ _ y1
  rw [hs1] at y2
  have m0 : w2.cell? ⟨w.heap.size + 1, 0, none⟩ = some (.slice AP nP cP) := cell_of_row w2 _ 0 _ _ _ y2
  have m1 : w2.cell? ⟨w.heap.size + 1, 1, none⟩ = some (.slice AE G.length cE) := cell_of_row w2 _ 1 _ _ _ y2
  have m2 : w2.cell? ⟨w.heap.size + 1, 2, none⟩ = some (.slice AD D.length cD) := cell_of_row w2 _ 2 _ _ _ y2
  have hB2 := hb1.trans (hb2.mono hb1.size)
  have hck := check_any AP AE AD nP cP cE cD G D w2 (hm.call hB2) hz
  have s1 : w.heap.size + 1 < w2.heap.size := by omega
  have W2 := hw2
  rw [hw1] at W2
  have HB := Lib.hid hB2
  have HMR := Lib.hid (fun V (hV : Below w2.heap.size w2 V) => (hm.call hB2).call hV)
  obtain ⟨E1, hE1⟩ : ∃ E1, E1 = chkE nP G D := ⟨_, rfl⟩
  obtain ⟨b1, q1⟩ : ∃ b, b = wi moves 0 20 := ⟨_, rfl⟩
  have C1 : ∀ V, Calls Try.prog 55 #[I moves, I 0, I 20] V fun e w' => e = .returned (.bool b1) ∧ V = w' := fun V => by rw [q1]; exact within_any _ _ _ _
  obtain ⟨E2, hE2⟩ : ∃ E2, E2 = unlE b1 1 := ⟨_, rfl⟩
  obtain ⟨E, hE⟩ : ∃ E, E = fstErr [E1, E2] := ⟨_, rfl⟩
  have hEE : E = chcE nP G D moves := by rw [hE, hE2, hE1, q1]; rfl
  rw [← hEE] at h
  have C4 : ∀ (V : World) (B : Option Addr) (k : Nat), IntsR V V.heap.size B [E1, E2] → Calls Try.prog 54 #[.slice B 2 k] V fun e w' => e = .returned (I E) ∧ w' = V := fun V B k h => by
    rw [hE]; exact (first_any B k [E1, E2] V h (by simp [maxLen])).mono fun e w' ⟨p, q⟩ => ⟨p, q.symm⟩
  have C5 : ∀ V, Calls Try.prog 51 #[.bool b1, I 1] V fun e w' => e = .returned (I E2) ∧ w' = V := fun V => by rw [hE2]; exact unlE_any _ 1 V
  rw [← hE1] at hck
  clear hm hz hw1 hw2 y1 y2 hb1 hb2 hB2 hs1 q1 hE1 hE2 hE hEE
  go_enter Try.func28, Try.ntmps28
  go_upto_region 2 with fail
  rw [← W2]
  clear W2 a0 a1
  go_upto_region 3 with (first
      | (go_at_call 55; with_reducible refine (C1 _).mono ?_; rintro e w' ⟨rfl, rfl⟩)
      | (go_at_call 45; refine hck.mono ?_; rintro e w3 ⟨rfl, hb3⟩; have n0 := (hb3.cell (p := ⟨w.heap.size + 1, 0, none⟩) s1).trans m0; have n1 := (hb3.cell (p := ⟨w.heap.size + 1, 1, none⟩) s1).trans m1; have n2 := (hb3.cell (p := ⟨w.heap.size + 1, 2, none⟩) s1).trans m2)
      | (go_at_call 51; refine (C5 _).mono ?_; rintro e w' ⟨rfl, rfl⟩)
      | (go_at_call 54; go_must (refine (C4 _ _ _ ?_).mono ?_); go_must (exact ints_new _ [E1, E2] _); rintro e w' ⟨rfl, rfl⟩))
  rcases h with ⟨h0, rfl, rfl, rfl⟩ | ⟨h0, hin⟩
  · have c1 : (r3 != 0) = true := by simpa using h0
    have c1' : decide (r3 = 0) = false := decide_eq_false h0
    clear h0
    go_wp2_with fail
    go_ret3
    exact ⟨rfl, (HB.out.trans (hb3.mono HB.out.size)).alloc (by have := HB.out.size; have := hb3.size; omega) _⟩
  · subst h0
    obtain ⟨wx, hwx⟩ : ∃ wx, wx = w'.alloc (.cells #[I E1, I E2] 29) := ⟨_, rfl⟩
    have hBx : Below w2.heap.size w2 wx := by rw [hwx]; exact hb3.alloc hb3.size _
    rw [← hwx]
    have hi := hin wx (HMR.out wx hBx)
    have k0 := (hBx.cell (p := ⟨w.heap.size + 1, 0, none⟩) s1).trans m0
    have k1 := (hBx.cell (p := ⟨w.heap.size + 1, 1, none⟩) s1).trans m1
    have k2 := (hBx.cell (p := ⟨w.heap.size + 1, 2, none⟩) s1).trans m2
    have HBX := Lib.hid hBx
    clear hwx n0 n1 n2 m0 m1 m2 hb3 hin hck hBx
    go_wp2_with (go_at_call 56; refine hi.mono ?_; rintro e w5 ⟨rfl, hb5⟩)
    go_ret3
    exact ⟨rfl, (HB.out.trans (HBX.out.mono HB.out.size)).trans (hb5.mono (Nat.le_trans HB.out.size HBX.out.size))⟩
/-- the error of Chance: of the map, of moves, or that there are too many parts -/
def chcR (nP : Nat) (G : List (List Ed)) (D : List Int) (moves : Int) : Int := if chcE nP G D moves ≠ 0 then chcE nP G D moves else if prtN G D ^ moves.toNat ≤ 1000000000000000 then 0 else 2
def chcA (G : List (List Ed)) (D : List Int) (m : Nat) : Nat := chN G D m / Nat.gcd (chN G D m) (prtN G D ^ m)
def chcB (G : List (List Ed)) (D : List Int) (m : Nat) : Nat := prtN G D ^ m / Nat.gcd (chN G D m) (prtN G D ^ m)
def chcX (nP : Nat) (G : List (List Ed)) (D : List Int) (moves : Int) : Int := if chcR nP G D moves = 0 then chcA G D moves.toNat else 0
def chcY (nP : Nat) (G : List (List Ed)) (D : List Int) (moves : Int) : Int := if chcR nP G D moves = 0 then chcB G D moves.toNat else 0
theorem Chance_any (AP AE AD : Option Addr) (nP cP cE cD : Nat) (G : List (List Ed)) (D : List Int) (moves : Int) (w : World) (hm : MdR w AE AD G D) (hz : Szd nP G D) :
    Calls Try.prog 28 #[grV AP AE nP cP G.length cE, .slice AD D.length cD, I moves] w fun e w' => e = .returned (.tuple #[I (chcX nP G D moves), I (chcY nP G D moves), I (chcR nP G D moves)]) ∧ Below w.heap.size w w' := by
  refine Chance_gen AP AE AD nP cP cE cD G D moves _ _ _ w hm hz ?_
  unfold chcX chcY
  by_cases h0 : chcE nP G D moves = 0
  · refine .inr ⟨h0, fun V hV => ?_⟩
    obtain ⟨h1, h2, h3⟩ := chcE_zero h0
    obtain ⟨rfl, hv, -⟩ := mapB_vld h1
    obtain ⟨m, rfl⟩ : ∃ m : Nat, moves = m := ⟨moves.toNat, by omega⟩
    by_cases hle : prtN G D ^ m ≤ 1000000000000000
    · have hR : chcR G.length G D m = 0 := by rw [chcR, if_neg (by simp [h0]), if_pos (by simpa using hle)]
      rw [if_pos hR, if_pos hR, hR]
      exact chance_ok AP AE AD G.length cP cE cD m G D V hV hv (by omega) hle
    · have hR : chcR G.length G D m = 2 := by rw [chcR, if_neg (by simp [h0]), if_neg (by simpa using hle)]
      rw [if_neg (by rw [hR]; decide), if_neg (by rw [hR]; decide), hR]
      exact chance_many AP AE AD G.length cP cE cD m G D V hV hv (by omega) hle
  · have hR : chcR nP G D moves = chcE nP G D moves := by rw [chcR, if_pos h0]
    refine .inl ⟨h0, ?_, ?_, hR⟩
    · rw [if_neg (by rw [hR]; exact h0)]
    · rw [if_neg (by rw [hR]; exact h0)]
end Go.Proofs.Ytehoaenkkmmobaa

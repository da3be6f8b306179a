/-
  LAYER 6: the document's Chance in all cases.
-/
import Derived.Test.YtehoaenkkmmobaaSrRh
import Derived.Test.YtehoaenkkmmobaaSrOp
namespace Go.Proofs.Ytehoaenkkmmobaa
open Go.RowKit Go.Shelf
set_option maxRecDepth 100000 in
set_option maxHeartbeats 8000000 in
theorem rChance_e1 (AP AE AD : Option Addr) (nP cP cE cD : Nat) (G : List (List Ed)) (D : List Int) (moves : Int) (w : World) (hm : MdR w AE AD G D) (hz : Szd nP G D) (h0 : chkR nP G D ≠ 0) :
    Calls Try.prog 29 #[grV AP AE nP cP G.length cE, .slice AD D.length cD, I moves] w fun e w' => e = .returned (.tuple #[I 0, I 0, I (chkR nP G D)]) ∧ Below w.heap.size w w' := by
  obtain ⟨w1, hw1, hs1, y1, hb1⟩ := one_box w (.cells #[.slice AP nP cP, .slice AE G.length cE] 25)
  have c0 : w1.cell? ⟨w.heap.size, 0, none⟩ = some (.slice AP nP cP) := cell_of_row w1 _ 0 _ _ _ y1
  have c1 : w1.cell? ⟨w.heap.size, 1, none⟩ = some (.slice AE G.length cE) := cell_of_row w1 _ 1 _ _ _ y1
  have hrc := rCheck_any AP AE AD nP cP cE cD G D w1 (hm.call hb1) hz
  have HB1 := Lib.hid hb1
  obtain ⟨E, hE⟩ : ∃ E, E = chkR nP G D := ⟨_, rfl⟩
  rw [← hE] at hrc h0 ⊢
  have q1 : (E != 0) = true := by simpa using h0
  clear hE h0 hm hz y1 hb1
  go_enter Try.func29, Try.ntmps29
  go_upto_region 1 with fail
  rw [← hw1]
  clear hw1
  go_wp2_with (go_at_call 18; refine hrc.mono ?_; rintro e w2 ⟨rfl, hb2⟩)
  go_ret3
  exact ⟨rfl, HB1.out.trans (hb2.mono HB1.out.size)⟩
set_option maxRecDepth 100000 in
set_option maxHeartbeats 8000000 in
theorem rChance_e2 (AP AE AD : Option Addr) (nP cP cE cD : Nat) (G : List (List Ed)) (D : List Int) (moves : Int) (w : World) (hm : MdR w AE AD G D) (hz : Szd nP G D) (h0 : chkR nP G D = 0) (h1 : wi moves 0 20 = false) :
    Calls Try.prog 29 #[grV AP AE nP cP G.length cE, .slice AD D.length cD, I moves] w fun e w' => e = .returned (.tuple #[I 0, I 0, I 1]) ∧ Below w.heap.size w w' := by
  obtain ⟨w1, hw1, hs1, y1, hb1⟩ := one_box w (.cells #[.slice AP nP cP, .slice AE G.length cE] 25)
  have c0 : w1.cell? ⟨w.heap.size, 0, none⟩ = some (.slice AP nP cP) := cell_of_row w1 _ 0 _ _ _ y1
  have c1 : w1.cell? ⟨w.heap.size, 1, none⟩ = some (.slice AE G.length cE) := cell_of_row w1 _ 1 _ _ _ y1
  have hrc := rCheck_any AP AE AD nP cP cE cD G D w1 (hm.call hb1) hz
  have HB1 := Lib.hid hb1
  rw [h0] at hrc
  have hwi : ∀ V, Calls Try.prog 46 #[I moves, I 0, I 20] V fun e w' => e = .returned (.bool false) ∧ V = w' := fun V => by
    have := rWithin_any moves 0 20 V
    rw [h1] at this
    exact this
  clear h0 h1 hm hz y1 hb1
  go_enter Try.func29, Try.ntmps29
  go_upto_region 1 with fail
  rw [← hw1]
  clear hw1
  go_wp2_with (first
    | (go_at_call 18; refine hrc.mono ?_; rintro e w2 ⟨rfl, hb2⟩)
    | (go_at_call 46; with_reducible refine (hwi _).mono ?_; rintro e w' ⟨rfl, rfl⟩))
  go_ret3
  exact ⟨rfl, HB1.out.trans (hb2.mono HB1.out.size)⟩
theorem rChance_any (AP AE AD : Option Addr) (nP cP cE cD : Nat) (G : List (List Ed)) (D : List Int) (moves : Int) (w : World) (hm : MdR w AE AD G D) (hz : Szd nP G D) (hwf : ∀ k, -9223372036854775808 ≤ nth D k ∧ nth D k ≤ 9223372036854775807) :
    Calls Try.prog 29 #[grV AP AE nP cP G.length cE, .slice AD D.length cD, I moves] w fun e w' => e = .returned (.tuple #[I (chcX nP G D moves), I (chcY nP G D moves), I (chcR nP G D moves)]) ∧ Below w.heap.size w w' := by
  have hEq := chk_eq (nP := nP) (G := G) hwf
  by_cases h0 : chkR nP G D = 0
  · have hmap : mapB nP G D = true := chkE_zero (by rw [← hEq]; exact h0)
    obtain ⟨hnp, hv, -⟩ := mapB_vld hmap
    cases h1 : wi moves 0 20 with
    | false =>
      have hc : chcE nP G D moves = 1 := by rw [chcE, ← hEq, h0, h1]; rfl
      have hR : chcR nP G D moves = 1 := by rw [chcR, if_pos (by rw [hc]; decide), hc]
      rw [chcX, chcY, if_neg (by rw [hR]; decide), if_neg (by rw [hR]; decide), hR]
      exact rChance_e2 AP AE AD nP cP cE cD G D moves w hm hz h0 h1
    | true =>
      have h2 : 0 ≤ moves ∧ moves ≤ 20 := by simpa [wi] using h1
      obtain ⟨m, rfl⟩ : ∃ m : Nat, moves = m := ⟨moves.toNat, by omega⟩
      have hc : chcE nP G D m = 0 := chcE_of hmap h2
      refine rChance_in AP AE AD nP cP cE cD m G D _ _ _ w hm hz h0 hv (by omega) (fun h => ?_) (fun h => ?_)
      · have hR : chcR nP G D m = 2 := by rw [chcR, if_neg (by simp [hc]), if_neg (by simpa using h)]
        exact ⟨by rw [chcX, if_neg (by rw [hR]; decide)], by rw [chcY, if_neg (by rw [hR]; decide)], hR⟩
      · have hR : chcR nP G D m = 0 := by rw [chcR, if_neg (by simp [hc]), if_pos (by simpa using h)]
        exact ⟨by rw [chcX, if_pos hR]; simp, by rw [chcY, if_pos hR]; simp, hR⟩
  · have hc : chcE nP G D moves = chkR nP G D := by
      rw [chcE, ← hEq]
      simp [fstErr, h0]
    have hR : chcR nP G D moves = chkR nP G D := by rw [chcR, hc, if_pos h0]
    rw [chcX, chcY, if_neg (by rw [hR]; exact h0), if_neg (by rw [hR]; exact h0), hR]
    exact rChance_e1 AP AE AD nP cP cE cD G D moves w hm hz h0
section
variable {H : Type} {enc : TypeId × Value → H} {W : World} {fuel : Nat}
set_option maxRecDepth 100000 in
open Go.ChangeShapes Go.WideShapes Go.ChangeAt in
theorem open_list2 {r : Reach} {b0 : Nat} {v : Value} {d : DataW H} {p : List MemPlace} (hv : Value.okWide Try.prog W r b0 26 v) (h : DataW.Trod enc Try.prog W 0 (fun _ => true) true 26 v d p) :
    ∃ (AD : Option Addr) (cD : Nat) (D : List Int), v = .slice AD D.length cD ∧ IntsR W W.heap.size AD D ∧ D.length ≤ maxLen ∧ ∀ k, -9223372036854775808 ≤ nth D k ∧ nth D k ≤ 9223372036854775807 := by
  obtain ⟨a0, len, cap, rfl⟩ := okWide_slice Try.underlying26 hv
  obtain ⟨fuel, hf⟩ := h
  rcases open_ints Try.underlying26 Try.underlying3 cellsInt hf with ⟨e, _⟩ | ⟨a, len, cap, zs, e, _, hl, hm, hz, _, hcell, hwz⟩
  · refine ⟨none, 0, [], by simpa [Value.cells] using e, fun h => absurd h (Nat.lt_irrefl 0), Nat.zero_le _, fun k => by simp [nth]⟩
  · simp only [if_true] at hz
    have hlen : (zs.take len).length = len := by simp; omega
    refine ⟨some a, cap, zs.take len, by rw [hlen]; simpa [Value.cells] using e, fun h0 => ⟨a, rfl, ?_, fun j hj => ?_⟩, by rw [hlen]; omega, fun k => ?_⟩
    · have := heap_pos (hcell 0 (by omega))
      rwa [block_of_add] at this
    · rw [hcell j (by rw [hlen] at hj; omega)]
      simp only [nth]
      rw [List.getD_eq_getElem?_getD, List.getElem?_take_of_lt (by rw [hlen] at hj; exact hj)]
      try rfl
    · by_cases hk : k < (zs.take len).length
      · rw [nth_lt hk]
        have h1 := hwz _ (List.mem_of_mem_take (List.getElem_mem hk))
        exact bounds_i64 h1
      · simp [nth, List.getElem?_eq_none (by omega : (zs.take len).length ≤ k)]
end
set_option maxRecDepth 100000 in
set_option maxHeartbeats 8000000 in
theorem chances_law (AP AE AD : Option Addr) (nP cP cE cD : Nat) (G : List (List Ed)) (D : List Int) (moves : Int) (w : World) (hm : MdR w AE AD G D) (hz : Szd nP G D) (hwf : ∀ k, -9223372036854775808 ≤ nth D k ∧ nth D k ≤ 9223372036854775807) :
    Calls Try.prog 4 #[grV AP AE nP cP G.length cE, .slice AD D.length cD, I moves] w fun e w' => e = .returned (.bool true) ∧ Below w.heap.size w w' := by
  obtain ⟨w1, hw1, hs1, y1, hb1⟩ := one_box w (.cells #[.slice AP nP cP, .slice AE G.length cE] 25)
  have hc : ∀ V, Below w1.heap.size w1 V → V.cell? ⟨w.heap.size, 0, none⟩ = some (.slice AP nP cP) ∧ V.cell? ⟨w.heap.size, 1, none⟩ = some (.slice AE G.length cE) ∧ MdR V AE AD G D := fun V hV =>
    ⟨(hV.cell (p := ⟨w.heap.size, 0, none⟩) (by show w.heap.size < _; omega)).trans (cell_of_row w1 _ 0 _ _ _ y1), (hV.cell (p := ⟨w.heap.size, 1, none⟩) (by show w.heap.size < _; omega)).trans (cell_of_row w1 _ 1 _ _ _ y1), (hm.call hb1).call hV⟩
  have hla := large_any AP AE nP cP cE G w1 (hm.call hb1).g hz.p hz.e hz.es
  have hwk : ∀ V, Calls Try.prog 16 #[] V fun e w' => e = .returned (.bool true) ∧ Below V.heap.size V w' := fun V => works_any V
  obtain ⟨c0, c1, -⟩ := hc w1 (Below.refl _ _)
  have HC := Lib.hid hc
  have HB1 := Lib.hid hb1
  have HZ := Lib.hid hz
  clear y1 hb1 hc hm hz
  obtain ⟨X, hX⟩ : ∃ X, X = chcX nP G D moves := ⟨_, rfl⟩
  obtain ⟨Y, hY⟩ : ∃ Y, Y = chcY nP G D moves := ⟨_, rfl⟩
  obtain ⟨R, hR⟩ : ∃ R, R = chcR nP G D moves := ⟨_, rfl⟩
  have hch : ∀ V, Below w1.heap.size w1 V → Calls Try.prog 28 #[grV AP AE nP cP G.length cE, .slice AD D.length cD, I moves] V fun e w' => e = .returned (.tuple #[I X, I Y, I R]) ∧ Below V.heap.size V w' := fun V hV => by
    rw [hX, hY, hR]; exact Chance_any AP AE AD nP cP cE cD G D moves V (HC.out V hV).2.2 HZ.out
  have hrc : ∀ V, Below w1.heap.size w1 V → Calls Try.prog 29 #[grV AP AE nP cP G.length cE, .slice AD D.length cD, I moves] V fun e w' => e = .returned (.tuple #[I X, I Y, I R]) ∧ Below V.heap.size V w' := fun V hV => by
    rw [hX, hY, hR]; exact rChance_any AP AE AD nP cP cE cD G D moves V (HC.out V hV).2.2 HZ.out hwf
  have t1 : (X == X) = true := beq_self_eq_true X
  have t2 : (Y == Y) = true := beq_self_eq_true Y
  have t3 : (R == R) = true := beq_self_eq_true R
  obtain ⟨bl, hbl⟩ : ∃ b, b = larB nP G := ⟨_, rfl⟩
  rw [← hbl] at hla
  clear hbl hX hY hR hwf
  cases bl with
  | true =>
    go_enter Try.func4, Try.ntmps4
    go_upto_region 1 with fail
    rw [← hw1]
    clear hw1
    go_wp2_with (first
      | (go_at_call 15; refine hla.mono ?_; rintro e w3 ⟨rfl, hb3⟩)
      | (go_at_call 16; refine (hwk _).mono ?_; rintro e w9 ⟨rfl, hb9⟩))
    go_ret
    have hB3 := HB1.out.trans (hb3.mono HB1.out.size)
    exact ⟨rfl, hB3.trans (hb9.mono hB3.size)⟩
  | false =>
    go_enter Try.func4, Try.ntmps4
    go_upto_region 1 with fail
    rw [← hw1]
    clear hw1
    go_wp2_with (first
      | (go_at_call 15; refine hla.mono ?_; rintro e w3 ⟨rfl, hb3⟩; obtain ⟨c0, c1, -⟩ := HC.out w3 hb3; have hch3 := hch w3 hb3)
      | (go_at_call 28; refine hch3.mono ?_; rintro e w4 ⟨rfl, hb4'⟩; have hb4 := hb3.trans (hb4'.mono hb3.size); clear hb4' c0 c1; obtain ⟨c0, c1, -⟩ := HC.out w4 hb4; have hrc4 := hrc w4 hb4)
      | (go_at_call 29; refine hrc4.mono ?_; rintro e w5 ⟨rfl, hb5'⟩; have hb5 := hb4.trans (hb5'.mono hb4.size); clear hb5')
      | (go_at_call 16; refine (hwk _).mono ?_; rintro e w9 ⟨rfl, hb9⟩))
    go_ret
    have hB5 := HB1.out.trans (hb5.mono HB1.out.size)
    exact ⟨rfl, hB5.trans (hb9.mono hB5.size)⟩
end Go.Proofs.Ytehoaenkkmmobaa

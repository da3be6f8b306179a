/-
  LAYER 6, CONTRACTS: slices.Max, slices.Index at numbers; Worst, needs, Needs. (Written by gen/gen_srwo.py.)
-/
import Derived.Test.YtehoaenkkmmobaaSrAb
namespace Go.Proofs.Ytehoaenkkmmobaa
open Go.RowKit Go.Shelf
set_option maxRecDepth 100000 in
set_option maxHeartbeats 2000000 in
theorem max_any (A : Option Addr) (c : Nat) (xs : List Int) (w : World) (hx : IntsR w w.heap.size A xs) (h0 : 0 < xs.length) (hl : xs.length ≤ 1000) :
    Calls Try.prog 63 #[.slice A xs.length c] w fun e w' => ∃ m, e = .returned (I m) ∧ (∃ j, j < xs.length ∧ m = nth xs j) ∧ (∀ j, j < xs.length → nth xs j ≤ m) ∧ w' = w := by
  obtain ⟨ad, rfl, hbl, hc0⟩ := hx.at_ (k := 0) h0
  have HX := Lib.hid hx
  have e0 : ad.add 0 = ad := by unfold Addr.add; split <;> simp_all
  rw [e0] at hc0
  clear hx e0
  go_enter Try.func63, Try.ntmps63
  go_wp2_with fail
  go_loopw [3, 4] (fun m i wr => ∃ (k : Nat) (v : Int), 1 ≤ k ∧ k ≤ xs.length ∧ i = .int .i64 k ∧ m = I v ∧ wr = w ∧ Hid ((∃ j, j < xs.length ∧ v = nth xs j) ∧ ∀ j, j < k → nth xs j ≤ v)) (fun _ i _ => xs.length - (intOf i).toNat)
  case atStart => exact ⟨1, nth xs 0, Nat.le_refl _, h0, by go_num, rfl, rfl, Lib.hid ⟨⟨0, h0, rfl⟩, fun j hj => by rw [show j = 0 by omega]; exact Int.le_refl _⟩⟩
  case round =>
    obtain ⟨k, v, hk1, hk, rfl, rfl, rfl, HM⟩ := hrel
    by_cases hlt : k < xs.length
    · obtain ⟨ad', e, -, hck⟩ := HX.out.at_ (k := k) hlt
      injection e with e
      subst e
      obtain ⟨y, hy⟩ : ∃ y, y = nth xs k := ⟨_, rfl⟩
      rw [← hy] at hck
      have HY := Lib.hid hy
      clear hy
      go_wp2_with fail
      all_goals go_roundw
      case rel => exact ⟨k + 1, max v y, by omega, by omega, by go_num, by first | rfl | (simp; omega), by simp, Lib.hid ⟨by
        rcases Int.le_total v y with h | h
        · rw [Int.max_eq_right h]; exact ⟨k, hlt, HY.out⟩
        · rw [Int.max_eq_left h]; exact HM.out.1, fun j hj => by
        rcases Nat.lt_or_ge j k with h | h
        · exact Int.le_trans (HM.out.2 j h) (Int.le_max_left _ _)
        · obtain rfl : j = k := by omega
          rw [← HY.out]; exact Int.le_max_right _ _⟩⟩
      case measure => simp [intOf]; omega
    · obtain rfl : k = xs.length := by omega
      go_wp2_with fail
      go_ret
      exact ⟨v, rfl, HM.out.1, HM.out.2, rfl⟩
set_option maxRecDepth 100000 in
set_option maxHeartbeats 2000000 in
theorem index_any (A : Option Addr) (c : Nat) (xs : List Int) (y : Int) (w : World) (hx : IntsR w w.heap.size A xs) (hl : xs.length ≤ 1000) (hy : ∃ j, j < xs.length ∧ nth xs j = y) :
    Calls Try.prog 64 #[.slice A xs.length c, I y] w fun e w' => ∃ k : Nat, e = .returned (I k) ∧ k < xs.length ∧ nth xs k = y ∧ (∀ j, j < k → nth xs j ≠ y) ∧ w' = w := by
  have HX := Lib.hid hx
  have HY := Lib.hid hy
  clear hx hy
  go_enter Try.func64, Try.ntmps64
  go_wp2_with fail
  go_loopw [8] (fun i wr => ∃ k : Nat, k ≤ xs.length ∧ i = .int .i64 k ∧ wr = w ∧ Hid (∀ j, j < k → nth xs j ≠ y)) (fun i _ => xs.length - (intOf i).toNat)
  case atStart => exact ⟨0, Nat.zero_le _, rfl, rfl, Lib.hid fun j hj => absurd hj (Nat.not_lt_zero _)⟩
  case round =>
    obtain ⟨k, hk, rfl, rfl, HM⟩ := hrel
    by_cases hlt : k < xs.length
    · obtain ⟨ad, rfl, -, hck⟩ := HX.out.at_ (k := k) hlt
      obtain ⟨z, hz⟩ : ∃ z, z = nth xs k := ⟨_, rfl⟩
      rw [← hz] at hck
      have HZ := Lib.hid hz
      clear hz
      by_cases he : y = z
      · have c1 : (y == z) = true := by simp [he]
        have c2 : decide (y = z) = true := decide_eq_true he
        have HE := Lib.hid he
        clear he
        go_wp2_with fail
        go_ret
        exact ⟨k, rfl, hlt, by rw [HE.out, HZ.out], HM.out, rfl⟩
      · have c1 : (y == z) = false := by simpa using he
        have c2 : decide (y = z) = false := decide_eq_false he
        have HE := Lib.hid he
        clear he
        go_wp2_with fail
        go_roundw
        case rel => exact ⟨k + 1, by omega, by go_num, trivial, Lib.hid fun j hj => by
          rcases Nat.lt_or_ge j k with h | h
          · exact HM.out j h
          · obtain rfl : j = k := by omega
            rw [← HZ.out]; exact fun h => HE.out h.symm⟩
        case measure => simp [intOf]; omega
    · obtain rfl : k = xs.length := by omega
      exact absurd HY.out (fun ⟨j, hj, e⟩ => HM.out j hj e)
/-- the greatest of a list and where it stands first -/
def Wor (L : List Nat) (s t : Nat) : Prop := t < L.length ∧ L[t]? = some s ∧ (∀ j : Nat, j < t → L[j]? ≠ some s) ∧ ∀ (j x : Nat), L[j]? = some x → x ≤ s
theorem nth_numI {L : List Nat} {j : Nat} (h : j < L.length) : nth (numI L) j = (L[j] : Nat) := numI_nth h
set_option maxRecDepth 100000 in
set_option maxHeartbeats 4000000 in
theorem Worst_ok (AP AE AD : Option Addr) (nP cP cE cD : Nat) (G : List (List Ed)) (D : List Int) (mo most : Int) (w : World) (hm : MdR w AE AD G D) (hz : Szd nP G D) (h0 : meanE nP G D mo most = 0) :
    Calls Try.prog 33 #[grV AP AE nP cP G.length cE, .slice AD D.length cD, I mo, I most] w fun e w' => ∃ s t : Nat, e = .returned (.tuple #[I s, I t, I 0]) ∧ Wor (stpL G D mo most) s t ∧ Below w.heap.size w w' := by
  obtain ⟨w1, hw1, hs1, y0, hb1⟩ := one_box w (.cells #[.slice AP nP cP, .slice AE G.length cE] 25)
  have a0 : w1.cell? ⟨w.heap.size, 0, none⟩ = some (.slice AP nP cP) := cell_of_row w1 _ 0 _ _ _ y0
  have a1 : w1.cell? ⟨w.heap.size, 1, none⟩ = some (.slice AE G.length cE) := cell_of_row w1 _ 1 _ _ _ y0
  have hall := allSteps_any AP AE AD nP cP cE cD G D mo most w1 (hm.call hb1) hz
  rw [h0] at hall
  obtain ⟨hs0, hst⟩ := meanE_zero h0
  obtain ⟨hmap, hmnd⟩ := srchE_zero hs0
  obtain ⟨rfl, hv, -⟩ := mapB_vld hmap
  have hlen := stpL_len G D mo most
  have hb := turN_bnd hv
  obtain ⟨L, hL⟩ : ∃ L, L = stpL G D mo most := ⟨_, rfl⟩
  rw [← hL] at hall hlen
  rw [← hL]
  have hmax := fun (A : Option Addr) (c : Nat) (V : World) (hx : IntsR V V.heap.size A (numI L)) => max_any A c (numI L) V hx (by rw [numI_length]; omega) (by rw [numI_length]; omega)
  have hind := fun (A : Option Addr) (c : Nat) (y : Int) (V : World) (hx : IntsR V V.heap.size A (numI L)) (hy : ∃ j, j < (numI L).length ∧ nth (numI L) j = y) => index_any A c (numI L) y V hx (by rw [numI_length]; omega) hy
  simp only [numI_length] at hmax hind
  have HB1 := Lib.hid hb1
  have HMAX := Lib.hid hmax
  have HIND := Lib.hid hind
  clear hm hz y0 hb1 h0 hs0 hst hmap hmnd hv hlen hb hL hmax hind
  go_enter Try.func33, Try.ntmps33
  go_upto_region 1 with fail
  rw [← hw1]
  clear hw1
  go_wp2_with (first
    | (go_at_call 62; refine hall.mono ?_; rintro e w2 ⟨v, rfl, ht, -, hb2⟩; obtain ⟨A2, c2, e2, hx2⟩ := (ht rfl).ints; subst e2; have hmax2 := HMAX.out A2 c2 w2 hx2; have HX2 := Lib.hid hx2; clear ht hx2)
    | (go_at_call 63; refine hmax2.mono ?_; rintro e w' ⟨m, rfl, ⟨jm, hj1, hj2⟩, hge, rfl⟩; have hind2 := HIND.out A2 c2 m w' HX2.out ⟨jm, hj1, hj2.symm⟩; have HGE := Lib.hid hge; have HJ := Lib.hid (⟨hj1, hj2⟩ : jm < L.length ∧ m = nth (numI L) jm); clear hge hj1 hj2)
    | (go_at_call 64; refine hind2.mono ?_; rintro e w' ⟨k, rfl, hk1, hk2, hk3, rfl⟩; have HK := Lib.hid (⟨hk1, hk2, hk3⟩ : k < L.length ∧ nth (numI L) k = m ∧ ∀ j, j < k → nth (numI L) j ≠ m); clear hk1 hk2 hk3))
  go_ret3
  obtain ⟨k1, k2, k3⟩ := HK.out
  have e1 : m = ((L[k] : Nat) : Int) := by rw [← k2, nth_numI k1]
  refine ⟨L[k], k, by rw [e1]; rfl, ⟨k1, by rw [List.getElem?_eq_getElem k1], fun j hj h => ?_, fun j x h => ?_⟩, HB1.out.trans (hb2.mono HB1.out.size)⟩
  · have hjl : j < L.length := by omega
    rw [List.getElem?_eq_getElem hjl, Option.some.injEq] at h
    refine k3 j hj ?_
    rw [nth_numI hjl, e1, h]
  · obtain ⟨hjl, rfl⟩ := List.getElem?_eq_some_iff.1 h
    have := HGE.out j hjl
    rw [nth_numI hjl, e1] at this
    omega
set_option maxRecDepth 100000 in
set_option maxHeartbeats 4000000 in
theorem Worst_err (AP AE AD : Option Addr) (nP cP cE cD : Nat) (G : List (List Ed)) (D : List Int) (mo most : Int) (w : World) (hm : MdR w AE AD G D) (hz : Szd nP G D) (h0 : meanE nP G D mo most ≠ 0) :
    Calls Try.prog 33 #[grV AP AE nP cP G.length cE, .slice AD D.length cD, I mo, I most] w fun e w' => e = .returned (.tuple #[I 0, I 0, I (meanE nP G D mo most)]) ∧ Below w.heap.size w w' := by
  obtain ⟨w1, hw1, hs1, y0, hb1⟩ := one_box w (.cells #[.slice AP nP cP, .slice AE G.length cE] 25)
  have a0 : w1.cell? ⟨w.heap.size, 0, none⟩ = some (.slice AP nP cP) := cell_of_row w1 _ 0 _ _ _ y0
  have a1 : w1.cell? ⟨w.heap.size, 1, none⟩ = some (.slice AE G.length cE) := cell_of_row w1 _ 1 _ _ _ y0
  have hall := allSteps_any AP AE AD nP cP cE cD G D mo most w1 (hm.call hb1) hz
  obtain ⟨E, hE⟩ : ∃ E, E = meanE nP G D mo most := ⟨_, rfl⟩
  rw [← hE] at hall h0
  rw [← hE]
  have q1 : (E != 0) = true := by simpa using h0
  have q2 : decide (E = 0) = false := decide_eq_false h0
  have HB1 := Lib.hid hb1
  clear hm hz y0 hb1 h0 hE
  go_enter Try.func33, Try.ntmps33
  go_upto_region 1 with fail
  rw [← hw1]
  clear hw1
  go_wp2_with (go_at_call 62; refine hall.mono ?_; rintro e w2 ⟨v, rfl, -, -, hb2⟩)
  go_ret3
  exact ⟨rfl, HB1.out.trans (hb2.mono HB1.out.size)⟩
/-- the least memory with which all turns are done -/
def Nds (G : List (List Ed)) (D : List Int) (most n e : Int) : Prop := (e = 0 ∧ ∃ k : Nat, n = k ∧ k ≤ 200 ∧ stpD G D k most = true ∧ ∀ m : Nat, m < k → stpD G D m most = false) ∨ (e = 3 ∧ n = 0 ∧ ∀ m : Nat, m ≤ 200 → stpD G D m most = false)
set_option maxRecDepth 100000 in
set_option maxHeartbeats 4000000 in
theorem needs_any (AP AE AD : Option Addr) (nP cP cE cD : Nat) (G : List (List Ed)) (D : List Int) (most : Int) (w : World) (hm : MdR w AE AD G D) (hv : Vld G D) (h3 : 0 ≤ most ∧ most ≤ 2000) :
    Calls Try.prog 68 #[mdlV (.slice AP nP cP) AE AD G.length cE D.length cD, I most] w fun e w' => ∃ n er : Int, e = .returned (.tuple #[I n, I er]) ∧ Nds G D most n er ∧ Below w.heap.size w w' := by
  obtain ⟨w1, hw1, hs1, y0, hb1⟩ := one_box w (.cells #[.slice AP nP cP, .slice AE G.length cE, .slice AD D.length cD] 64)
  have a0 : w1.cell? ⟨w.heap.size, 0, none⟩ = some (.slice AP nP cP) := cell_of_row w1 _ 0 _ _ _ y0
  have a1 : w1.cell? ⟨w.heap.size, 1, none⟩ = some (.slice AE G.length cE) := cell_of_row w1 _ 1 _ _ _ y0
  have a2 : w1.cell? ⟨w.heap.size, 2, none⟩ = some (.slice AD D.length cD) := cell_of_row w1 _ 2 _ _ _ y0
  have s0 : w.heap.size < w1.heap.size := by omega
  have HST := Lib.hid (fun V (k : Nat) (hV : Below w1.heap.size w1 V) (hk : k ≤ 200) => steps_any AP AE AD nP cP cE cD G D k most V ((hm.call hb1).call hV) hv (by omega) h3)
  have HB1 := Lib.hid hb1
  clear hm hv y0 hb1 h3
  go_enter Try.func68, Try.ntmps68
  go_upto_region 1 with fail
  rw [← hw1]
  clear hw1
  go_wp2_with fail
  go_loopw [9] (fun i wr => ∃ k : Nat, k ≤ 201 ∧ i = .int .i64 k ∧ Below w1.heap.size w1 wr ∧ Hid (∀ m : Nat, m < k → stpD G D m most = false)) (fun i _ => 201 - (intOf i).toNat)
  case atStart => exact ⟨0, Nat.zero_le _, rfl, Below.refl _ _, Lib.hid fun j hj => absurd hj (Nat.not_lt_zero _)⟩
  case round =>
    obtain ⟨k, hk, rfl, hB, HA⟩ := hrel
    obtain ⟨wo, hwo⟩ : ∃ wo : World, wo = wr := ⟨_, rfl⟩
    rw [← hwo] at hB
    rw [← hwo]
    clear hwo
    by_cases hlt : k < 201
    · have b0 := (hB.cell (p := ⟨w.heap.size, 0, none⟩) s0).trans a0
      have b1 := (hB.cell (p := ⟨w.heap.size, 1, none⟩) s0).trans a1
      have b2 := (hB.cell (p := ⟨w.heap.size, 2, none⟩) s0).trans a2
      have hcall := HST.out wo k hB (by omega)
      obtain ⟨dn, hdn⟩ : ∃ dn, dn = stpD G D k most := ⟨_, rfl⟩
      rw [← hdn] at hcall
      have HD := Lib.hid hdn
      clear hdn
      cases dn with
      | true =>
        go_wp2_with (go_at_call 87; refine hcall.mono ?_; rintro e w3 ⟨v, rfl, -, -, hb3⟩)
        go_ret2
        exact ⟨k, 0, rfl, .inl ⟨rfl, k, rfl, by omega, HD.out.symm, HA.out⟩, HB1.out.trans ((hB.trans (hb3.mono hB.size)).mono HB1.out.size)⟩
      | false =>
        go_wp2_with (go_at_call 87; refine hcall.mono ?_; rintro e w3 ⟨v, rfl, -, -, hb3⟩)
        go_roundw
        case rel => exact ⟨k + 1, by omega, by go_num, hB.trans (hb3.mono hB.size), Lib.hid fun m hm => by
          rcases Nat.lt_or_ge m k with h | h
          · exact HA.out m h
          · obtain rfl : m = k := by omega
            exact HD.out.symm⟩
        case measure => simp [intOf]; omega
    · obtain rfl : k = 201 := by omega
      go_wp2_with fail
      go_ret2
      exact ⟨0, 3, rfl, .inr ⟨rfl, rfl, fun m hm => HA.out m (by omega)⟩, HB1.out.trans (hB.mono HB1.out.size)⟩
set_option maxRecDepth 100000 in
set_option maxHeartbeats 4000000 in
theorem Needs_ok (AP AE AD : Option Addr) (nP cP cE cD : Nat) (G : List (List Ed)) (D : List Int) (most : Int) (w : World) (hm : MdR w AE AD G D) (hz : Szd nP G D) (h0 : srchE nP G D 0 0 most = 0) :
    Calls Try.prog 38 #[grV AP AE nP cP G.length cE, .slice AD D.length cD, I most] w fun e w' => ∃ n er : Int, e = .returned (.tuple #[I n, I er]) ∧ Nds G D most n er ∧ Below w.heap.size w w' := by
  obtain ⟨w1, hw1, hs1, y1, hb1⟩ := one_box w (.cells #[.slice AP nP cP, .slice AE G.length cE] 25)
  obtain ⟨w2, hw2, hs2, y2, hb2⟩ := one_box w1 (.cells #[.slice AP nP cP, .slice AE G.length cE, .slice AD D.length cD] 64)
  have a0 : w1.cell? ⟨w.heap.size, 0, none⟩ = some (.slice AP nP cP) := cell_of_row w1 _ 0 _ _ _ y1
  have a1 : w1.cell? ⟨w.heap.size, 1, none⟩ = some (.slice AE G.length cE) := cell_of_row w1 _ 1 _ _ _ y1
  rw [hs1] at y2
  have m0 : w2.cell? ⟨w.heap.size + 1, 0, none⟩ = some (.slice AP nP cP) := cell_of_row w2 _ 0 _ _ _ y2
  have m1 : w2.cell? ⟨w.heap.size + 1, 1, none⟩ = some (.slice AE G.length cE) := cell_of_row w2 _ 1 _ _ _ y2
  have m2 : w2.cell? ⟨w.heap.size + 1, 2, none⟩ = some (.slice AD D.length cD) := cell_of_row w2 _ 2 _ _ _ y2
  have hB2 := hb1.trans (hb2.mono hb1.size)
  have hck := checkSearch_any AP AE AD nP cP cE cD G D 0 0 most w2 (hm.call hB2) hz
  rw [h0] at hck
  obtain ⟨hmap, hmnd⟩ := srchE_zero h0
  obtain ⟨rfl, hv, -⟩ := mapB_vld hmap
  simp only [mndB, wi, Bool.and_eq_true, decide_eq_true_eq] at hmnd
  have HN := Lib.hid (fun V (hV : Below w2.heap.size w2 V) => needs_any AP AE AD G.length cP cE cD G D most V ((hm.call hB2).call hV) hv hmnd.2)
  have HB := Lib.hid hB2
  have W2 := hw2
  rw [hw1] at W2
  have s1 : w.heap.size + 1 < w2.heap.size := by omega
  clear hm hz h0 hmap hmnd hv hw1 hw2 y1 y2 hb1 hb2 hB2 hs1
  go_enter Try.func38, Try.ntmps38
  go_upto_region 2 with fail
  rw [← W2]
  clear W2 a0 a1
  go_wp2_with (first
    | (go_at_call 58; refine hck.mono ?_; rintro e w4 ⟨rfl, hb4⟩; have n0 := (hb4.cell (p := ⟨w.heap.size + 1, 0, none⟩) s1).trans m0; have n1 := (hb4.cell (p := ⟨w.heap.size + 1, 1, none⟩) s1).trans m1; have n2 := (hb4.cell (p := ⟨w.heap.size + 1, 2, none⟩) s1).trans m2; have hs := HN.out _ hb4)
    | (go_at_call 68; refine hs.mono ?_; rintro e w5 ⟨n, er, rfl, ht, hb5⟩; have HT := Lib.hid ht; clear ht))
  go_ret2
  have hB4 := HB.out.trans (hb4.mono HB.out.size)
  exact ⟨n, er, rfl, HT.out, hB4.trans (hb5.mono hB4.size)⟩
set_option maxRecDepth 100000 in
set_option maxHeartbeats 4000000 in
theorem Needs_err (AP AE AD : Option Addr) (nP cP cE cD : Nat) (G : List (List Ed)) (D : List Int) (most : Int) (w : World) (hm : MdR w AE AD G D) (hz : Szd nP G D) (h0 : srchE nP G D 0 0 most ≠ 0) :
    Calls Try.prog 38 #[grV AP AE nP cP G.length cE, .slice AD D.length cD, I most] w fun e w' => e = .returned (.tuple #[I 0, I (srchE nP G D 0 0 most)]) ∧ Below w.heap.size w w' := by
  obtain ⟨w1, hw1, hs1, y1, hb1⟩ := one_box w (.cells #[.slice AP nP cP, .slice AE G.length cE] 25)
  obtain ⟨w2, hw2, hs2, y2, hb2⟩ := one_box w1 (.cells #[.slice AP nP cP, .slice AE G.length cE, .slice AD D.length cD] 64)
  have a0 : w1.cell? ⟨w.heap.size, 0, none⟩ = some (.slice AP nP cP) := cell_of_row w1 _ 0 _ _ _ y1
  have a1 : w1.cell? ⟨w.heap.size, 1, none⟩ = some (.slice AE G.length cE) := cell_of_row w1 _ 1 _ _ _ y1
  rw [hs1] at y2
  have m0 : w2.cell? ⟨w.heap.size + 1, 0, none⟩ = some (.slice AP nP cP) := cell_of_row w2 _ 0 _ _ _ y2
  have m1 : w2.cell? ⟨w.heap.size + 1, 1, none⟩ = some (.slice AE G.length cE) := cell_of_row w2 _ 1 _ _ _ y2
  have m2 : w2.cell? ⟨w.heap.size + 1, 2, none⟩ = some (.slice AD D.length cD) := cell_of_row w2 _ 2 _ _ _ y2
  have hB2 := hb1.trans (hb2.mono hb1.size)
  have hck := checkSearch_any AP AE AD nP cP cE cD G D 0 0 most w2 (hm.call hB2) hz
  obtain ⟨E, hE⟩ : ∃ E, E = srchE nP G D 0 0 most := ⟨_, rfl⟩
  rw [← hE] at hck h0
  rw [← hE]
  have q1 : (E != 0) = true := by simpa using h0
  have q2 : decide (E = 0) = false := decide_eq_false h0
  have HB := Lib.hid hB2
  have W2 := hw2
  rw [hw1] at W2
  clear hm hz h0 hw1 hw2 y1 y2 hb1 hb2 hB2 hE hs1
  go_enter Try.func38, Try.ntmps38
  go_upto_region 2 with fail
  rw [← W2]
  clear W2 a0 a1
  go_wp2_with (go_at_call 58; refine hck.mono ?_; rintro e w4 ⟨rfl, hb4⟩)
  go_ret2
  exact ⟨rfl, HB.out.trans (hb4.mono HB.out.size)⟩
end Go.Proofs.Ytehoaenkkmmobaa

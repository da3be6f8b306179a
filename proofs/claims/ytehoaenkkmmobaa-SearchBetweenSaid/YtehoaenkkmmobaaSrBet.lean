/-
  LAYER 6: the law SearchBetween. (Written by gen/gen_srbet.py.)
-/
import Derived.Test.YtehoaenkkmmobaaSrRea
import Derived.Test.YtehoaenkkmmobaaSrWo
namespace Go.Proofs.Ytehoaenkkmmobaa
open Go.RowKit Go.Shelf
theorem stpL_at {G : List (List Ed)} {D : List Int} {mo most : Int} {t : Nat} (h : t < turN G) : (stpL G D mo most)[t]? = some (lenS G D mo most t) := by
  simp [stpL, h]
theorem sum_lo {B : Int} : ∀ {L : List Nat}, (∀ x ∈ L, B ≤ (x : Int)) → B * L.length ≤ (L.sum : Nat) := by
  intro L
  induction L with
  | nil => intro _; simp
  | cons a t ih =>
    intro h
    have h1 := h a (by simp)
    have h2 := ih (fun x hx => h x (by simp [hx]))
    rw [List.sum_cons, List.length_cons]
    have e : B * ((t.length + 1 : Nat) : Int) = B * (t.length : Int) + B := by rw [Int.natCast_add, Int.mul_add]; simp
    rw [e]
    omega
/-- what Mean and Worst are to each other -/
theorem between {G : List (List Ed)} {D : List Int} {mo most : Int} {nP s t : Nat} (h0 : meanE nP G D mo most = 0) (hw : Wor (stpL G D mo most) s t) :
    1 ≤ meanD G D mo most ∧ meanD G D mo most ≤ 100 ∧ meanN G D mo most ≤ s * meanD G D mo most ∧ 0 ≤ nth D 0 ∧ nth D 0 * (meanD G D mo most : Nat) ≤ (meanN G D mo most : Nat) ∧ t ≤ 99 ∧ t < turN G ∧ s ≤ 2000 ∧ nth D 0 ≤ 2000 := by
  obtain ⟨hs0, hst⟩ := meanE_zero h0
  obtain ⟨hmap, hmnd⟩ := srchE_zero hs0
  obtain ⟨rfl, hv, hok⟩ := mapB_vld hmap
  simp only [mndB, wi, Bool.and_eq_true, decide_eq_true_eq] at hmnd
  have hlen := stpL_len G D mo most
  have hb := turN_bnd hv
  have hnr := near_of hv hok
  have hdn : ∀ u, u < turN G → 0 ≤ nth D 0 ∧ nth D 0 ≤ (lenS G D mo most u : Nat) := fun u hu => by
    have hse : srchE G.length G D mo u most = 0 := srchE_of hmap (by
      simp only [mndB, wi, Bool.and_eq_true, decide_eq_true_eq]; omega)
    obtain ⟨hT, -⟩ := endS_ok hse
    rw [stpD, List.all_eq_true] at hst
    have h := hst u (List.mem_range.2 hu)
    rw [dnS, beq_iff_eq] at h
    have := near_trail hnr hT h _ (Nat.le_refl _)
    rw [Nat.sub_self] at this
    exact this
  have hpos := Nat.gcd_pos_of_pos_right (stpL G D mo most).sum (show 0 < (stpL G D mo most).length by omega)
  obtain ⟨a, ha⟩ := Nat.gcd_dvd_left (stpL G D mo most).sum (stpL G D mo most).length
  obtain ⟨b, hbb⟩ := Nat.gcd_dvd_right (stpL G D mo most).sum (stpL G D mo most).length
  obtain ⟨g, hg⟩ : ∃ g, g = Nat.gcd (stpL G D mo most).sum (stpL G D mo most).length := ⟨_, rfl⟩
  rw [← hg] at ha hbb hpos
  have e1 : meanN G D mo most = a := by rw [meanN, ← hg]; exact Nat.div_eq_of_eq_mul_right hpos ha
  have e2 : meanD G D mo most = b := by rw [meanD, ← hg]; exact Nat.div_eq_of_eq_mul_right hpos hbb
  have hsum := sum_bnd (B := s) (L := stpL G D mo most) (fun x hx => by
    obtain ⟨j, hj, rfl⟩ := List.mem_iff_getElem.1 hx
    exact hw.2.2.2 j _ (List.getElem?_eq_getElem hj))
  have hlo := sum_lo (B := nth D 0) (L := stpL G D mo most) (fun x hx => by
    rw [stpL, List.mem_map] at hx
    obtain ⟨u, hu, rfl⟩ := hx
    exact (hdn u (List.mem_range.1 hu)).2)
  rw [ha, hbb] at hsum hlo
  have ht : t < turN G := by rw [← hlen]; exact hw.1
  have hs2 : s ≤ 2000 := by
    have h1 := hw.2.1
    rw [stpL_at ht] at h1
    injection h1 with h1
    have := endS_len G D mo t most
    unfold lenS at h1
    omega
  have h00 := hdn 0 (by omega)
  have hle0 : nth D 0 ≤ s := by
    have := hw.2.2.2 0 _ (stpL_at (by omega))
    omega
  rw [e1, e2]
  refine ⟨?_, ?_, ?_, h00.1, ?_, by omega, ht, hs2, by omega⟩
  · rcases Nat.eq_zero_or_pos b with h | h
    · rw [h] at hbb; omega
    · exact h
  · have : b ≤ g * b := Nat.le_mul_of_pos_left _ hpos
    omega
  · have h1 : g * a ≤ g * (s * b) := by rw [Nat.mul_left_comm]; exact hsum
    exact Nat.le_of_mul_le_mul_left h1 hpos
  · have h1 : (g : Int) * (nth D 0 * (b : Int)) ≤ (g : Int) * (a : Int) := by
      rw [Int.mul_left_comm, ← Int.natCast_mul, ← Int.natCast_mul]; exact hlo
    exact Int.le_of_mul_le_mul_left h1 (by omega)
set_option maxRecDepth 100000 in
set_option maxHeartbeats 8000000 in
theorem between_law (AP AE AD : Option Addr) (nP cP cE cD : Nat) (G : List (List Ed)) (D : List Int) (mo tu most : Int) (w : World) (hm : MdR w AE AD G D) (hz : Szd nP G D) :
    Calls Try.prog 12 #[grV AP AE nP cP G.length cE, .slice AD D.length cD, .agg #[I mo, I tu, I most]] w fun e w' => e = .returned (.bool true) ∧ Below w.heap.size w w' := by
  obtain ⟨w1, hw1, hs1, y1, hb1⟩ := one_box w (.cells #[.slice AP nP cP, .slice AE G.length cE] 25)
  obtain ⟨w2, hw2, hs2, y2, hb2⟩ := one_box w1 (.cells #[I mo, I tu, I most] 42)
  have s0 : w.heap.size < w1.heap.size := by omega
  have hB2 := hb1.trans (hb2.mono hb1.size)
  have hc : ∀ V, Below w2.heap.size w2 V → V.cell? ⟨w.heap.size, 0, none⟩ = some (.slice AP nP cP) ∧ V.cell? ⟨w.heap.size, 1, none⟩ = some (.slice AE G.length cE) ∧ V.cell? ⟨w.heap.size + 1, 0, none⟩ = some (I mo) ∧ V.cell? ⟨w.heap.size + 1, 1, none⟩ = some (I tu) ∧ V.cell? ⟨w.heap.size + 1, 2, none⟩ = some (I most) ∧ MdR V AE AD G D := fun V hV => by
    rw [hs1] at y2
    refine ⟨(hV.cell (p := ⟨w.heap.size, 0, none⟩) (by show w.heap.size < _; omega)).trans ((hb2.cell (p := ⟨w.heap.size, 0, none⟩) s0).trans (cell_of_row w1 _ 0 _ _ _ y1)),
      (hV.cell (p := ⟨w.heap.size, 1, none⟩) (by show w.heap.size < _; omega)).trans ((hb2.cell (p := ⟨w.heap.size, 1, none⟩) s0).trans (cell_of_row w1 _ 1 _ _ _ y1)),
      (hV.cell (p := ⟨w.heap.size + 1, 0, none⟩) (by show w.heap.size + 1 < _; omega)).trans (cell_of_row w2 _ 0 _ _ _ y2),
      (hV.cell (p := ⟨w.heap.size + 1, 1, none⟩) (by show w.heap.size + 1 < _; omega)).trans (cell_of_row w2 _ 1 _ _ _ y2),
      (hV.cell (p := ⟨w.heap.size + 1, 2, none⟩) (by show w.heap.size + 1 < _; omega)).trans (cell_of_row w2 _ 2 _ _ _ y2), (hm.call hB2).call hV⟩
  have hla := large_any AP AE nP cP cE G w2 (hm.call hB2).g hz.p hz.e hz.es
  have hrc : ∀ V, Below w2.heap.size w2 V → Calls Try.prog 18 #[grV AP AE nP cP G.length cE, .slice AD D.length cD] V fun e w' => e = .returned (I (chkR nP G D)) ∧ Below V.heap.size V w' := fun V hV => rCheck_any AP AE AD nP cP cE cD G D V ((hm.call hB2).call hV) hz
  have hmu : ∀ V, Calls Try.prog 30 #[I most] V fun e w' => e = .returned (.bool (mchB most)) ∧ w' = V := fun V => much_any most V
  have hwk : ∀ V, Calls Try.prog 16 #[] V fun e w' => e = .returned (.bool true) ∧ Below V.heap.size V w' := fun V => works_any V
  obtain ⟨c0, c1, r0, r1, r2, -⟩ := hc w2 (Below.refl _ _)
  have W2 := hw2
  rw [hw1] at W2
  have HC := Lib.hid hc
  have HB2 := Lib.hid hB2
  have HM := Lib.hid hm
  have HZ := Lib.hid hz
  clear hw1 hw2 y1 y2 hb1 hb2 hc hm hz hB2
  obtain ⟨bl, hbl⟩ : ∃ b, b = larB nP G := ⟨_, rfl⟩
  rw [← hbl] at hla
  clear hbl
  cases bl with
  | true =>
    go_enter Try.func12, Try.ntmps12
    go_upto_region 1 with fail
    rw [← W2]
    clear W2
    go_wp2_with (first
      | (go_at_call 15; refine hla.mono ?_; rintro e w3 ⟨rfl, hb3⟩)
      | (go_at_call 16; refine (hwk _).mono ?_; rintro e w9 ⟨rfl, hb9⟩))
    go_ret
    have hB3 := HB2.out.trans (hb3.mono HB2.out.size)
    exact ⟨rfl, hB3.trans (hb9.mono hB3.size)⟩
  | false =>
    obtain ⟨E, hE⟩ : ∃ E, E = chkR nP G D := ⟨_, rfl⟩
    rw [← hE] at hrc
    clear hE
    by_cases hE0 : E = 0
    · subst hE0
      obtain ⟨bm, hbm⟩ : ∃ b, b = mchB most := ⟨_, rfl⟩
      rw [← hbm] at hmu
      clear hbm
      cases bm with
      | true =>
        go_enter Try.func12, Try.ntmps12
        go_upto_region 1 with fail
        rw [← W2]
        clear W2
        go_wp2_with (first
          | (go_at_call 15; refine hla.mono ?_; rintro e w3 ⟨rfl, hb3⟩; obtain ⟨c0, c1, r0, r1, r2, -⟩ := HC.out w3 hb3; have hrc3 := hrc w3 hb3)
          | (go_at_call 18; refine hrc3.mono ?_; rintro e w4 ⟨rfl, hb4'⟩; have hb4 := hb3.trans (hb4'.mono hb3.size); clear hb4' c0 c1 r0 r1 r2; obtain ⟨c0, c1, r0, r1, r2, -⟩ := HC.out w4 hb4)
          | (go_at_call 30; refine (hmu _).mono ?_; rintro e w' ⟨rfl, rfl⟩)
          | (go_at_call 16; refine (hwk _).mono ?_; rintro e w9 ⟨rfl, hb9⟩))
        go_ret
        have hB4 := HB2.out.trans (hb4.mono HB2.out.size)
        exact ⟨rfl, hB4.trans (hb9.mono hB4.size)⟩
      | false =>
        by_cases hse : meanE nP G D mo most = 0
        · have hme : ∀ V, Below w2.heap.size w2 V → Calls Try.prog 35 #[grV AP AE nP cP G.length cE, .slice AD D.length cD, I mo, I most] V fun e w' => e = .returned (.tuple #[I (meanN G D mo most), I (meanD G D mo most), I 0]) ∧ Below V.heap.size V w' := fun V hV => Mean_ok AP AE AD nP cP cE cD G D mo most V (HC.out V hV).2.2.2.2.2 HZ.out hse
          have hwo : ∀ V, Below w2.heap.size w2 V → Calls Try.prog 33 #[grV AP AE nP cP G.length cE, .slice AD D.length cD, I mo, I most] V fun e w' => ∃ s t : Nat, e = .returned (.tuple #[I s, I t, I 0]) ∧ Wor (stpL G D mo most) s t ∧ Below V.heap.size V w' := fun V hV => Worst_ok AP AE AD nP cP cE cD G D mo most V (HC.out V hV).2.2.2.2.2 HZ.out hse
          have HBE := Lib.hid (fun (s t : Nat) (h : Wor (stpL G D mo most) s t) => between hse h)
          obtain ⟨hs0, hst⟩ := meanE_zero hse
          obtain ⟨hmap, hmnd⟩ := srchE_zero hs0
          obtain ⟨rfl, hv, -⟩ := mapB_vld hmap
          have hpos := hv.pos
          have hvl := hv.len
          have htn := turN_bnd hv
          simp only [mndB, wi, Bool.and_eq_true, decide_eq_true_eq] at hmnd
          have hsc : ∀ V (u : Nat), Below w2.heap.size w2 V → u < turN G → Calls Try.prog 31 #[grV AP AE G.length cP G.length cE, .slice AD D.length cD, .agg #[I mo, I u], I most] V fun e w' => ∃ A c, e = .returned (.tuple #[.slice A (lenS G D mo most u) c, .bool true, I 0]) ∧ Below V.heap.size V w' := fun V u hV hu => (Search_ok AP AE AD G.length cP cE cD G D mo u most V (HC.out V hV).2.2.2.2.2 HZ.out (srchE_of hmap (by simp only [mndB, wi, Bool.and_eq_true, decide_eq_true_eq]; omega))).mono (by
            rintro e w' ⟨v, rfl, ht, hb⟩
            obtain ⟨A, c, rfl, hi⟩ := ht.ints
            rw [stpD, List.all_eq_true] at hst
            have hd : (dOf D (endS G D mo u most).at_ == 0) = true := hst u (List.mem_range.2 hu)
            rw [hd]
            exact ⟨A, c, rfl, hb⟩)
          obtain ⟨Nn, hN⟩ : ∃ Nn, Nn = meanN G D mo most := ⟨_, rfl⟩
          obtain ⟨Dd, hDd⟩ : ∃ Dd, Dd = meanD G D mo most := ⟨_, rfl⟩
          rw [← hN, ← hDd] at hme
          rw [← hN, ← hDd] at HBE
          have HSC := Lib.hid hsc
          have HV := Lib.hid hvl
          clear hse hs0 hst hmap hmnd hv hsc hN hDd hvl htn
          go_enter Try.func12, Try.ntmps12
          go_upto_region 1 with fail
          rw [← W2]
          clear W2
          go_upto_region 7 with (first
            | (go_at_call 15; refine hla.mono ?_; rintro e w3 ⟨rfl, hb3⟩; obtain ⟨c0, c1, r0, r1, r2, -⟩ := HC.out w3 hb3; have hrc3 := hrc w3 hb3)
            | (go_at_call 18; refine hrc3.mono ?_; rintro e w4 ⟨rfl, hb4'⟩; have hb4 := hb3.trans (hb4'.mono hb3.size); clear hb4' c0 c1 r0 r1 r2; obtain ⟨c0, c1, r0, r1, r2, -⟩ := HC.out w4 hb4; have hme4 := hme w4 hb4)
            | (go_at_call 30; refine (hmu _).mono ?_; rintro e w' ⟨rfl, rfl⟩)
            | (go_at_call 35; refine hme4.mono ?_; rintro e w5 ⟨rfl, hb5'⟩; have hb5 := hb4.trans (hb5'.mono hb4.size); clear hb5' c0 c1 r0 r1 r2; obtain ⟨c0, c1, r0, r1, r2, -⟩ := HC.out w5 hb5; have hwo5 := hwo w5 hb5)
            | (go_at_call 33; refine hwo5.mono ?_; rintro e w6 ⟨s, t, rfl, hW, hb6'⟩; have hb6 := hb5.trans (hb6'.mono hb5.size); clear hb6' c0 c1 r0 r1 r2))
          obtain ⟨g1, g2, g3, g4, g5, g6, g7, g8, g9⟩ := HBE.out s t hW
          obtain ⟨c0, c1, r0, r1, r2, hmo⟩ := HC.out w6 hb6
          obtain ⟨aD, e2, hbD, hcD⟩ := hmo.d.at_ (k := 0) (by have := HV.out; omega)
          subst e2
          have hD0 : 0 < D.length := by have := HV.out; omega
          have hcD' : w6.cell? aD = some (I (nth D 0)) := by rw [← add_zero' aD]; exact hcD
          obtain ⟨z, hz'⟩ : ∃ z : Nat, nth D 0 = z := ⟨(nth D 0).toNat, by omega⟩
          rw [hz'] at g4 g5 g9 hcD hcD'
          obtain ⟨X, hX⟩ : ∃ X, X = s * Dd := ⟨_, rfl⟩
          obtain ⟨Y, hY⟩ : ∃ Y, Y = z * Dd := ⟨_, rfl⟩
          have hX' : (s : Int) * (Dd : Int) = (X : Int) := by rw [hX]; simp
          have hY' : (z : Int) * (Dd : Int) = (Y : Int) := by rw [hY]; simp
          have hXb : X ≤ 200000 := by rw [hX]; exact Nat.le_trans (Nat.mul_le_mul g8 g2) (by decide)
          have hYb : Y ≤ 200000 := by rw [hY]; exact Nat.le_trans (Nat.mul_le_mul (show z ≤ 2000 by omega) g2) (by decide)
          rw [← hX] at g3
          rw [hY'] at g5
          have d1 : decide ((Dd : Int) < 1) = false := decide_eq_false (by omega)
          have d1' : decide (Dd < 1) = false := decide_eq_false (by omega)
          have d2 : decide ((X : Int) < (Nn : Int)) = false := decide_eq_false (by omega)
          have d2' : decide (X < Nn) = false := decide_eq_false (by omega)
          have d3 : decide ((Nn : Int) < (Y : Int)) = false := decide_eq_false (by omega)
          have d3' : decide (Nn < Y) = false := decide_eq_false (by omega)
          have d4 : decide ((t : Int) < 0) = false := decide_eq_false (by omega)
          have d5 : decide (99 < (t : Int)) = false := decide_eq_false (by omega)
          have d5' : decide (99 < t) = false := decide_eq_false (by omega)
          have HW := Lib.hid hW
          have HB6 := Lib.hid hb6
          clear hX hY hz' hmo hW HBE g1 g2 g3 g4 g5 g9
          go_wp2_with fail
          go_loopw [13] (fun i wr => ∃ k : Nat, k ≤ t + 1 ∧ i = .int .i64 k ∧ Below w6.heap.size w6 wr) (fun i _ => t + 1 - (intOf i).toNat)
          case atStart => exact ⟨0, Nat.zero_le _, rfl, Below.refl _ _⟩
          case round =>
            obtain ⟨k, hk, rfl, hB⟩ := hrel
            obtain ⟨wo, hwo'⟩ : ∃ wo : World, wo = wr := ⟨_, rfl⟩
            rw [← hwo'] at hB
            rw [← hwo']
            clear hwo' c0 c1 r0 r1 r2
            have hB2o := HB6.out.trans (hB.mono HB6.out.size)
            obtain ⟨c0, c1, r0, r1, r2, -⟩ := HC.out wo hB2o
            have HB2o := Lib.hid hB2o
            have HBo := Lib.hid hB
            clear hB hB2o
            by_cases hlt : k ≤ t
            · have hsc := HSC.out wo k HB2o.out (by omega)
              have hat := stpL_at (G := G) (D := D) (mo := mo) (most := most) (t := k) (by omega)
              obtain ⟨l, hl⟩ : ∃ l, l = lenS G D mo most k := ⟨_, rfl⟩
              rw [← hl] at hsc hat
              have hls := HW.out.2.2.2 k l hat
              have l1 : decide ((s : Int) < (l : Int)) = false := decide_eq_false (by omega)
              have l1' : decide (s < l) = false := decide_eq_false (by omega)
              by_cases hkt : k = t
              · obtain rfl : l = s := by
                  have h1 := HW.out.2.1
                  rw [← hkt, hat] at h1
                  exact Option.some.inj h1
                subst hkt
                clear hl hat hls
                go_wp2_with (go_at_call 31; refine hsc.mono ?_; rintro e w7 ⟨A, c, rfl, hb7⟩)
                go_roundw
                case rel => exact ⟨k + 1, by omega, by go_num, HBo.out.trans (hb7.mono HBo.out.size)⟩
                case measure => simp [intOf] <;> omega
              · have hne : l ≠ s := fun e => HW.out.2.2.1 k (by omega) (by rw [hat, e])
                have e1 : ((l : Int) == (s : Int)) = false := beq_eq_false_iff_ne.2 (by omega)
                have e1' : decide ((l : Int) = (s : Int)) = false := decide_eq_false (by omega)
                have e2 : ((k : Int) == (t : Int)) = false := beq_eq_false_iff_ne.2 (by omega)
                have e2' : decide ((k : Int) = (t : Int)) = false := decide_eq_false (by omega)
                clear hl hat hls
                go_wp2_with (go_at_call 31; refine hsc.mono ?_; rintro e w7 ⟨A, c, rfl, hb7⟩)
                go_roundw
                case rel => exact ⟨k + 1, by omega, by go_num, HBo.out.trans (hb7.mono HBo.out.size)⟩
                case measure => simp [intOf] <;> omega
            · obtain rfl : k = t + 1 := by omega
              go_wp2_with (go_at_call 16; refine (hwk _).mono ?_; rintro e w9 ⟨rfl, hb9⟩)
              go_ret
              have hB6 := HB2.out.trans (HB6.out.mono HB2.out.size)
              have hBo := hB6.trans (HBo.out.mono hB6.size)
              exact ⟨rfl, hBo.trans (hb9.mono hBo.size)⟩
        · have hme : ∀ V, Below w2.heap.size w2 V → Calls Try.prog 35 #[grV AP AE nP cP G.length cE, .slice AD D.length cD, I mo, I most] V fun e w' => e = .returned (.tuple #[I 0, I 0, I (meanE nP G D mo most)]) ∧ Below V.heap.size V w' := fun V hV => Mean_err AP AE AD nP cP cE cD G D mo most V (HC.out V hV).2.2.2.2.2 HZ.out hse
          have hwo : ∀ V, Below w2.heap.size w2 V → Calls Try.prog 33 #[grV AP AE nP cP G.length cE, .slice AD D.length cD, I mo, I most] V fun e w' => e = .returned (.tuple #[I 0, I 0, I (meanE nP G D mo most)]) ∧ Below V.heap.size V w' := fun V hV => Worst_err AP AE AD nP cP cE cD G D mo most V (HC.out V hV).2.2.2.2.2 HZ.out hse
          obtain ⟨F, hF⟩ : ∃ F, F = meanE nP G D mo most := ⟨_, rfl⟩
          rw [← hF] at hme hwo hse
          have q1 : (F != 0) = true := by simpa using hse
          clear hF hse
          go_enter Try.func12, Try.ntmps12
          go_upto_region 1 with fail
          rw [← W2]
          clear W2
          go_wp2_with (first
            | (go_at_call 15; refine hla.mono ?_; rintro e w3 ⟨rfl, hb3⟩; obtain ⟨c0, c1, r0, r1, r2, -⟩ := HC.out w3 hb3; have hrc3 := hrc w3 hb3)
            | (go_at_call 18; refine hrc3.mono ?_; rintro e w4 ⟨rfl, hb4'⟩; have hb4 := hb3.trans (hb4'.mono hb3.size); clear hb4' c0 c1 r0 r1 r2; obtain ⟨c0, c1, r0, r1, r2, -⟩ := HC.out w4 hb4; have hme4 := hme w4 hb4)
            | (go_at_call 30; refine (hmu _).mono ?_; rintro e w' ⟨rfl, rfl⟩)
            | (go_at_call 35; refine hme4.mono ?_; rintro e w5 ⟨rfl, hb5'⟩; have hb5 := hb4.trans (hb5'.mono hb4.size); clear hb5' c0 c1 r0 r1 r2; obtain ⟨c0, c1, r0, r1, r2, -⟩ := HC.out w5 hb5; have hwo5 := hwo w5 hb5)
            | (go_at_call 33; refine hwo5.mono ?_; rintro e w6 ⟨rfl, hb6'⟩; have hb6 := hb5.trans (hb6'.mono hb5.size); clear hb6')
            | (go_at_call 16; refine (hwk _).mono ?_; rintro e w9 ⟨rfl, hb9⟩))
          go_ret
          have hB6 := HB2.out.trans (hb6.mono HB2.out.size)
          exact ⟨rfl, hB6.trans (hb9.mono hB6.size)⟩
    · have q1 : (E != 0) = true := by simpa using hE0
      clear hE0
      go_enter Try.func12, Try.ntmps12
      go_upto_region 1 with fail
      rw [← W2]
      clear W2
      go_wp2_with (first
        | (go_at_call 15; refine hla.mono ?_; rintro e w3 ⟨rfl, hb3⟩; obtain ⟨c0, c1, r0, r1, r2, -⟩ := HC.out w3 hb3; have hrc3 := hrc w3 hb3)
        | (go_at_call 18; refine hrc3.mono ?_; rintro e w4 ⟨rfl, hb4'⟩; have hb4 := hb3.trans (hb4'.mono hb3.size); clear hb4' c0 c1 r0 r1 r2; obtain ⟨c0, c1, r0, r1, r2, -⟩ := HC.out w4 hb4)
        | (go_at_call 16; refine (hwk _).mono ?_; rintro e w9 ⟨rfl, hb9⟩))
      go_ret
      have hB4 := HB2.out.trans (hb4.mono HB2.out.size)
      exact ⟨rfl, hB4.trans (hb9.mono hB4.size)⟩
end Go.Proofs.Ytehoaenkkmmobaa

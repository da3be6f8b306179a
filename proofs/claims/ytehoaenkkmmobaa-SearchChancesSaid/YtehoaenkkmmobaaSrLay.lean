/-
  LAYER 6: the law SearchLayers. (Written by gen/gen_srlay.py.)
-/
import Derived.BigQuiet
import Derived.Test.YtehoaenkkmmobaaSrLy
import Derived.Test.YtehoaenkkmmobaaSrRea
namespace Go.Proofs.Ytehoaenkkmmobaa
open Go.RowKit Go.Shelf
theorem wct_all {G : List (List Ed)} {D : List Int} {p : Nat} : ∀ k, (∀ j, j < k → nrB G D p j = false) → wct G D p k = k := by
  intro k
  induction k with
  | zero => intro _; rfl
  | succ k ih =>
    intro h
    rw [wct, ih (fun j hj => h j (by omega)), h k (by omega)]
    rfl
theorem wct_some {G : List (List Ed)} {D : List Int} {p : Nat} : ∀ k, (∃ j, j < k ∧ nrB G D p j = true) → wct G D p k < k := by
  intro k
  induction k with
  | zero => rintro ⟨j, hj, -⟩; omega
  | succ k ih =>
    rintro ⟨j, hj, h⟩
    have hle := wct_le G D p k
    rw [wct]
    by_cases e : j = k
    · subst e; rw [h, if_pos rfl]; omega
    · have := ih ⟨j, by omega, h⟩
      split <;> omega
/-- how many of the first k positions are not dead -/
def alv (D : List Int) : Nat → Nat
  | 0 => 0
  | k + 1 => alv D k + if 0 ≤ nth D k then 1 else 0
theorem alv_le (D : List Int) : ∀ k, alv D k ≤ k := by
  intro k
  induction k with
  | zero => exact Nat.le_refl _
  | succ k ih => rw [alv]; split <;> omega
/-- how many of all positions have one of the first distances -/
def sumC (D : List Int) : Nat → Nat
  | 0 => 0
  | v + 1 => sumC D v + cntD D v D.length
def sumK (D : List Int) (k : Nat) : Nat → Nat
  | 0 => 0
  | v + 1 => sumK D k v + cntD D v k
theorem sumK_len (D : List Int) : ∀ N, sumK D D.length N = sumC D N := by
  intro N
  induction N with
  | zero => rfl
  | succ N ih => rw [sumK, sumC, ih]
theorem sumK_zero (D : List Int) : ∀ N, sumK D 0 N = 0 := by
  intro N
  induction N with
  | zero => rfl
  | succ N ih => rw [sumK, ih]; rfl
theorem sumK_succ (D : List Int) (k : Nat) : ∀ N, sumK D (k + 1) N = sumK D k N + if 0 ≤ nth D k ∧ nth D k < N then 1 else 0 := by
  intro N
  induction N with
  | zero => rw [sumK, sumK, if_neg (by omega)]
  | succ N ih =>
    rw [sumK, sumK, ih, cntD]
    by_cases h1 : nth D k = N
    · rw [if_pos h1, if_neg (by omega), if_pos (by omega)]; omega
    · rw [if_neg h1]
      by_cases h2 : 0 ≤ nth D k ∧ nth D k < N
      · rw [if_pos h2, if_pos (by omega)]; omega
      · rw [if_neg h2, if_neg (by omega)]; omega
theorem sumK_alv {D : List Int} {N : Nat} : ∀ k, (∀ j, j < k → nth D j < N) → sumK D k N = alv D k := by
  intro k
  induction k with
  | zero => intro _; exact sumK_zero D N
  | succ k ih =>
    intro h
    rw [sumK_succ, alv, ih (fun j hj => h j (by omega))]
    have := h k (by omega)
    by_cases h1 : 0 ≤ nth D k
    · rw [if_pos ⟨h1, this⟩, if_pos h1]
    · rw [if_neg (by omega), if_neg h1]
theorem cntD_pos {D : List Int} {v j : Nat} : ∀ k, j < k → nth D j = v → 1 ≤ cntD D v k := by
  intro k
  induction k with
  | zero => intro h; omega
  | succ k ih =>
    intro hj h
    rw [cntD]
    by_cases e : j = k
    · subst e; rw [if_pos h]; omega
    · have := ih (by omega) h; omega
/-- each distance below the greatest is somebody's -/
theorem widths_pos {G : List (List Ed)} {D : List Int} (hv : Vld G D) (ho : okB G D = true) {N : Nat} (hN : MaxD D N) : ∀ i, i < N → 1 ≤ cntD D (N - 1 - i) D.length := by
  have hex : ∀ i, i < N → ∃ j, j < D.length ∧ nth D j = ((N - 1 - i : Nat) : Int) := by
    intro i
    induction i with
    | zero =>
      intro hi
      obtain ⟨j, hj, h⟩ := hN.1
      exact ⟨j, hj, by omega⟩
    | succ i ih =>
      intro hi
      obtain ⟨j, hj, h⟩ := ih (by omega)
      have hjG : j < G.length := by rw [← hv.len]; exact hj
      obtain ⟨k, hk1, hk2⟩ := near_ex hv ho hjG (by omega)
      have ht := (eOf_tgt hv hjG (by rw [← eOf_len hjG]; exact hk1)).2
      rw [nrB, Bool.and_eq_true, beq_iff_eq] at hk2
      exact ⟨tgt (eOf G) j k, by rw [hv.len]; exact ht, by rw [hk2.2]; omega⟩
  intro i hi
  obtain ⟨j, hj, h⟩ := hex i hi
  exact cntD_pos _ hj h
theorem sumC_le {D : List Int} {N : Nat} (hN : MaxD D N) : ∀ v, v ≤ N → sumC D v ≤ alv D D.length := by
  have hall : sumC D N = alv D D.length := by rw [← sumK_len, sumK_alv _ hN.2]
  have hmono : ∀ k v, v + k = N → sumC D v ≤ sumC D N := by
    intro k
    induction k with
    | zero => intro v h; rw [← h]; exact Nat.le_refl _
    | succ k ih =>
      intro v h
      have := ih (v + 1) (by omega)
      rw [sumC] at this
      omega
  intro v hv
  rw [← hall]
  exact hmono (N - v) v (by omega)
theorem sumC_all {D : List Int} {N : Nat} (hN : MaxD D N) : sumC D N = alv D D.length := by rw [← sumK_len, sumK_alv _ hN.2]
set_option maxRecDepth 100000 in
set_option maxHeartbeats 16000000 in
theorem layers_law (AP AE AD : Option Addr) (nP cP cE cD : Nat) (G : List (List Ed)) (D : List Int) (w : World) (hm : MdR w AE AD G D) (hz : Szd nP G D) :
    Calls Try.prog 13 #[grV AP AE nP cP G.length cE, .slice AD D.length cD] w fun e w' => e = .returned (.bool true) ∧ Below w.heap.size w w' := by
  obtain ⟨w1, hw1, hs1, y1, hb1⟩ := one_box w (.cells #[.slice AP nP cP, .slice AE G.length cE] 25)
  have hc : ∀ V, Below w1.heap.size w1 V → V.cell? ⟨w.heap.size, 0, none⟩ = some (.slice AP nP cP) ∧ V.cell? ⟨w.heap.size, 1, none⟩ = some (.slice AE G.length cE) ∧ MdR V AE AD G D := fun V hV =>
    ⟨(hV.cell (p := ⟨w.heap.size, 0, none⟩) (by show w.heap.size < _; omega)).trans (cell_of_row w1 _ 0 _ _ _ y1), (hV.cell (p := ⟨w.heap.size, 1, none⟩) (by show w.heap.size < _; omega)).trans (cell_of_row w1 _ 1 _ _ _ y1), (hm.call hb1).call hV⟩
  have hla := large_any AP AE nP cP cE G w1 (hm.call hb1).g hz.p hz.e hz.es
  have hrc : ∀ V, Below w1.heap.size w1 V → Calls Try.prog 18 #[grV AP AE nP cP G.length cE, .slice AD D.length cD] V fun e w' => e = .returned (I (chkR nP G D)) ∧ Below V.heap.size V w' := fun V hV => rCheck_any AP AE AD nP cP cE cD G D V ((hm.call hb1).call hV) hz
  have hwk : ∀ V, Calls Try.prog 16 #[] V fun e w' => e = .returned (.bool true) ∧ Below V.heap.size V w' := fun V => works_any V
  obtain ⟨c0, c1, -⟩ := hc w1 (Below.refl _ _)
  have HC := Lib.hid hc
  have HB1 := Lib.hid hb1
  have HZ := Lib.hid hz
  clear y1 hb1 hc hm hz
  obtain ⟨bl, hbl⟩ : ∃ b, b = larB nP G := ⟨_, rfl⟩
  rw [← hbl] at hla
  clear hbl
  cases bl with
  | true =>
    go_enter Try.func13, Try.ntmps13
    go_upto_region 1 with fail
    rw [← hw1]
    clear hw1
    go_wp2_with (first
      | (go_at_call 15; refine hla.mono ?_; rintro e w3 ⟨rfl, hb3⟩)
      | (go_at_call 16; refine (hwk _).mono ?_; rintro e w9 ⟨rfl, hb9⟩))
    go_ret
    have hB3 := HB1.out.trans (hb3.mono HB1.out.size)
    exact ⟨rfl, hB3.trans (hb9.mono hB3.size)⟩
  | false =>
    obtain ⟨E, hE⟩ : ∃ E, E = chkR nP G D := ⟨_, rfl⟩
    rw [← hE] at hrc
    clear hE
    by_cases hE0 : E = 0
    · subst hE0
      by_cases hse : chkE nP G D = 0
      · have hmap := chkE_zero hse
        clear hse
        have hwi : ∀ V, Below w1.heap.size w1 V → Calls Try.prog 22 #[grV AP AE nP cP G.length cE, .slice AD D.length cD] V fun e w' => ∃ A c N, e = .returned (.tuple #[.slice A N c, I 0]) ∧ MaxD D N ∧ IntsR w' w'.heap.size A (wdL D N) ∧ Below V.heap.size V w' := fun V hV => Widths_ok AP AE AD nP cP cE cD G D V (HC.out V hV).2.2 HZ.out hmap
        have hwr : ∀ V, Below w1.heap.size w1 V → Calls Try.prog 19 #[grV AP AE nP cP G.length cE, .slice AD D.length cD] V fun e w' => ∃ A c, e = .returned (.tuple #[.slice A G.length c, I 0]) ∧ IntsR w' w'.heap.size A (wrL G D) ∧ Below V.heap.size V w' := fun V hV => Wrong_ok AP AE AD nP cP cE cD G D V (HC.out V hV).2.2 HZ.out hmap
        have hch : ∀ V, Below w1.heap.size w1 V → Calls Try.prog 24 #[grV AP AE nP cP G.length cE, .slice AD D.length cD] V fun e w' => ∃ A c, e = .returned (.tuple #[.slice A (chL G D (nth D 0).toNat).length c, I (unlE (nth D 0 != -1) 3)]) ∧ IntsR w' w'.heap.size A (numI (chL G D (nth D 0).toNat)) ∧ Below V.heap.size V w' := fun V hV => (Choices_ok AP AE AD nP cP cE cD G D V (HC.out V hV).2.2 HZ.out hmap).mono (by
          rintro e w' ⟨v, rfl, ht, hb⟩
          obtain ⟨A, c, rfl, hi⟩ := ht.ints
          exact ⟨A, c, rfl, hi, hb⟩)
        have hbd := mapB_bnd hmap
        obtain ⟨rfl, hv, ho⟩ := mapB_vld hmap
        have hmx := hv.many
        have hpos := hv.pos
        have hlD := hv.len
        have hDl : D.length ≤ 300 := by omega
        have hD0 : 0 < D.length := by omega
        have hb0 := hbd 0
        have HLD := Lib.hid hlD
        have HBD := Lib.hid hbd
        have HFW := Lib.hid hv.few
        have HWR := Lib.hid (fun (p : Nat) (hp : p < G.length) => (⟨wct_le G D p _, fun h0 => by
            have h := near_ex hv ho hp h0
            rw [eOf_len hp, ← gAt_eq hp] at h
            exact wct_some _ h, fun h0 => wct_all _ (fun j _ => by rw [nrB, decide_eq_false (by omega)]; rfl)⟩ : wrP G D p ≤ (gAt G p).length ∧ (0 < nth D p → wrP G D p < (gAt G p).length) ∧ (nth D p ≤ 0 → wrP G D p = (gAt G p).length)))
        have HWD := Lib.hid (fun (N : Nat) (hN : MaxD D N) (v : Nat) (h : v < N) => (by
            have := widths_pos hv ho hN (N - 1 - v) (by omega)
            rwa [show N - 1 - (N - 1 - v) = v by omega] at this : 1 ≤ cntD D v D.length))
        have HCH := Lib.hid (fun (k : Nat) (h : k < (nth D 0).toNat) => (by
            obtain ⟨h1, h2⟩ := posC_ok hv ho k (by omega)
            obtain ⟨j, hj, -⟩ := near_ex hv ho h1 (by omega)
            rw [eOf_len h1, ← gAt_eq h1] at hj
            omega : 1 ≤ (gAt G (posC G D k)).length))
        clear hmap hbd hv ho hlD
        go_enter Try.func13, Try.ntmps13
        go_upto_region 1 with fail
        rw [← hw1]
        clear hw1
        go_upto_region 9 with (first
          | (go_at_call 15; refine hla.mono ?_; rintro e w3 ⟨rfl, hb3⟩; obtain ⟨c0, c1, -⟩ := HC.out w3 hb3; have hrc3 := hrc w3 hb3)
          | (go_at_call 18; refine hrc3.mono ?_; rintro e w4 ⟨rfl, hb4'⟩; have hb4 := hb3.trans (hb4'.mono hb3.size); clear hb4' c0 c1; obtain ⟨c0, c1, -⟩ := HC.out w4 hb4; have hwi4 := hwi w4 hb4)
          | (go_at_call 22; refine hwi4.mono ?_; rintro e w5 ⟨A5, k5, N, rfl, hMX, hi5, hb5'⟩; have hb5 := hb4.trans (hb5'.mono hb4.size); clear hb5' c0 c1; obtain ⟨c0, c1, -⟩ := HC.out w5 hb5; have hwr5 := hwr w5 hb5; have HMX := Lib.hid hMX; have HI5 := Lib.hid hi5; clear hMX hi5)
          | (go_at_call 19; refine hwr5.mono ?_; rintro e w6 ⟨A6, k6, rfl, hi6, hb6'⟩; have hi5 := ints_call hb6' HI5.out; have hb6 := hb5.trans (hb6'.mono hb5.size); clear hb6' c0 c1))
        have HJ5 := Lib.hid hi5
        have HJ6 := Lib.hid hi6
        have HB6 := Lib.hid hb6
        have hNb : N ≤ 1001 := by
          obtain ⟨j, -, h⟩ := HMX.out.1
          have := HBD.out j
          omega
        clear hi5 hi6 hb6
        go_wp2_with fail
        go_loopw [10, 9] (fun i s wr => ∃ k : Nat, k ≤ D.length ∧ i = .int .i64 k ∧ s = .int .i64 (alv D k : Nat) ∧ Below w6.heap.size w6 wr) (fun i _ _ => D.length - (intOf i).toNat)
        case atStart => exact ⟨0, Nat.zero_le _, rfl, rfl, Below.refl _ _⟩
        case round =>
          obtain ⟨k, hk, rfl, rfl, hB⟩ := hrel
          obtain ⟨wo, hwo⟩ : ∃ wo : World, wo = wr := ⟨_, rfl⟩
          rw [← hwo] at hB
          rw [← hwo]
          clear hwo
          have hB1o := HB6.out.trans (hB.mono HB6.out.size)
          obtain ⟨c0, c1, hmo⟩ := HC.out wo hB1o
          have HBo := Lib.hid hB
          by_cases hlt : k < D.length
          · have hkG : k < G.length := by have := HLD.out; omega
            obtain ⟨gA, oA, e1, hbA, hcell⟩ := hmo.d.plain hD0
            subst e1
            have hcA := hcell k hlt
            obtain ⟨g, o, e1, hgl, Ap, cp, hcG, -⟩ := hmo.g.at_ hkG
            subst e1
            rw [← gAt_eq hkG] at hcG
            obtain ⟨gW, oW, e1, hbW, hcW⟩ := (ints_call hB HJ6.out).plain (by simp [wrL]; omega)
            subst e1
            have hcw := hcW k (by simp [wrL]; exact hkG)
            rw [show nth (wrL G D) k = (wrP G D k : Nat) by rw [nth_lt (by simp [wrL]; exact hkG)]; simp [wrL]] at hcw
            obtain ⟨hw1, hw2, hw3⟩ := HWR.out k hkG
            have hfw := HFW.out k hkG
            rw [← gAt_eq hkG] at hfw
            have hbk := HBD.out k
            have hal := alv_le D k
            have HAS := Lib.hid (show alv D (k + 1) = alv D k + if 0 ≤ nth D k then 1 else 0 from rfl)
            obtain ⟨n, hn⟩ : ∃ n, n = (gAt G k).length := ⟨_, rfl⟩
            obtain ⟨x, hx⟩ : ∃ x, x = wrP G D k := ⟨_, rfl⟩
            obtain ⟨d, hd⟩ : ∃ d, d = nth D k := ⟨_, rfl⟩
            obtain ⟨a, ha⟩ : ∃ a, a = alv D k := ⟨_, rfl⟩
            rw [← hn] at hcG hw1 hw2 hw3 hfw
            rw [← hx] at hcw hw1 hw2 hw3
            rw [← hd] at hcA hw2 hw3 hbk HAS
            rw [← ha] at hal HAS ⊢
            have g0 : ((G.length : Int) != (D.length : Int)) = false := by have := HLD.out; simp; omega
            have t1 : decide ((n : Int) < (x : Int)) = false := decide_eq_false (by omega)
            have t1' : decide (n < x) = false := decide_eq_false (by omega)
            clear hn hx hd ha hmo hcell hcW hB
            by_cases h1 : 0 < d
            · have c2 : decide (0 < d) = true := decide_eq_true h1
              have c3 : decide (d ≤ 0) = false := decide_eq_false (by omega)
              have c4 : decide (0 ≤ d) = true := decide_eq_true (by omega)
              have hlt2 := hw2 h1
              have t2 : decide ((n : Int) ≤ (x : Int)) = false := decide_eq_false (by omega)
              have t2' : decide (n ≤ x) = false := decide_eq_false (by omega)
              have HN := Lib.hid (show alv D (k + 1) = a + 1 by rw [HAS.out, if_pos (by omega)])
              clear hw2 hw3 h1 hlt2
              go_wp2_with fail
              go_quiet (fail)
              go_wp2_with fail
              go_roundw
              case rel => exact ⟨k + 1, by omega, by go_num, by rw [HN.out]; go_num, below_drewN HBo.out _⟩
              case measure => simp [intOf] <;> omega
            · have c2 : decide (0 < d) = false := decide_eq_false h1
              have c3 : decide (d ≤ 0) = true := decide_eq_true (by omega)
              have hxn := hw3 (by omega)
              subst hxn
              have t3 : ((x : Int) != (x : Int)) = false := by simp
              by_cases h2 : 0 ≤ d
              · have c4 : decide (0 ≤ d) = true := decide_eq_true h2
                have HN := Lib.hid (show alv D (k + 1) = a + 1 by rw [HAS.out, if_pos h2])
                clear hw2 hw3 h1 h2
                go_wp2_with fail
                go_quiet (fail)
                go_wp2_with fail
                go_roundw
                case rel => exact ⟨k + 1, by omega, by go_num, by rw [HN.out]; go_num, below_drewN HBo.out _⟩
                case measure => simp [intOf] <;> omega
              · have c4 : decide (0 ≤ d) = false := decide_eq_false h2
                have HN := Lib.hid (show alv D (k + 1) = a by rw [HAS.out, if_neg h2]; rfl)
                clear hw2 hw3 h1 h2
                go_wp2_with fail
                go_quiet (fail)
                go_wp2_with fail
                go_roundw
                case rel => exact ⟨k + 1, by omega, by go_num, by rw [HN.out], below_drewN HBo.out _⟩
                case measure => simp [intOf] <;> omega
          · obtain rfl : k = D.length := by omega
            have hi5 := ints_call hB HJ5.out
            have HI5o := Lib.hid hi5
            have HB1o := Lib.hid hB1o
            have hal := alv_le D D.length
            obtain ⟨a, ha⟩ : ∃ a, a = alv D D.length := ⟨_, rfl⟩
            rw [← ha] at hal ⊢
            have HA := Lib.hid ha
            clear ha hi5 hB hB1o hmo c0 c1
            go_wp2_with fail
            go_loopw [11, 9] (fun i s wr => ∃ v r : Nat, v ≤ N ∧ i = .int .i64 v ∧ s = .int .i64 r ∧ Hid (r + sumC D v = a) ∧ Below wo.heap.size wo wr) (fun i _ _ => N - (intOf i).toNat)
            case atStart => exact ⟨0, a, Nat.zero_le _, rfl, rfl, Lib.hid rfl, Below.refl _ _⟩
            case round =>
              obtain ⟨v, r, hv, rfl, rfl, HRS, hB2⟩ := hrel
              obtain ⟨wp, hwp⟩ : ∃ wp : World, wp = wr := ⟨_, rfl⟩
              rw [← hwp] at hB2
              rw [← hwp]
              clear hwp
              by_cases hvN : v < N
              · obtain ⟨gW, oW, e1, hbW, hcW⟩ := (ints_call hB2 HI5o.out).plain (by simp [wdL]; omega)
                subst e1
                have hcw := hcW v (by simp [wdL]; exact hvN)
                rw [show nth (wdL D N) v = (cntD D v D.length : Nat) by rw [nth_lt (by simp [wdL]; exact hvN)]; simp [wdL]] at hcw
                have h1 := HWD.out N HMX.out v hvN
                have h2 := sumC_le HMX.out (v + 1) hvN
                have h3 := HRS.out
                rw [sumC, ← HA.out] at h2
                have hsu : sumC D (v + 1) = sumC D v + cntD D v D.length := rfl
                obtain ⟨x, hx⟩ : ∃ x, x = cntD D v D.length := ⟨_, rfl⟩
                rw [← hx] at hcw h1 h2 hsu
                have HRN := Lib.hid (show (r - x) + sumC D (v + 1) = a by rw [hsu]; omega)
                have hxr : x ≤ r := by omega
                have e2 : (r : Int) - (x : Int) = ((r - x : Nat) : Int) := by omega
                have hra : r ≤ 300 := by omega
                have t1 : decide ((x : Int) < 1) = false := decide_eq_false (by omega)
                have t1' : decide (x < 1) = false := decide_eq_false (by omega)
                obtain ⟨y, hy⟩ : ∃ y, y = r - x := ⟨_, rfl⟩
                rw [← hy] at e2 HRN
                have hyb : y ≤ 300 := by omega
                clear hcW hx h2 h3 hsu hy h1 hxr
                go_wp2_with fail
                go_roundw
                case rel => exact ⟨v + 1, y, by omega, by go_num, by first | rfl | (rw [← e2]), HRN, hB2⟩
                case measure => simp [intOf] <;> omega
              · obtain rfl : v = N := by omega
                obtain rfl : r = 0 := by
                  have h1 := HRS.out
                  rw [sumC_all HMX.out, ← HA.out] at h1
                  omega
                have hB1p := HB1o.out.trans (hB2.mono HB1o.out.size)
                obtain ⟨c0, c1, hmp⟩ := HC.out wp hB1p
                obtain ⟨gA, oA, e1, hbA, hcell⟩ := hmp.d.plain hD0
                subst e1
                have hch7 := hch wp hB1p
                have hcA := hcell 0 hD0
                rw [Nat.add_zero] at hcA
                obtain ⟨z, hz⟩ : ∃ z, z = nth D 0 := ⟨_, rfl⟩
                rw [← hz] at hcA hb0 hch7
                have HCH2 := HCH
                rw [← hz] at HCH2
                have HB1p := Lib.hid hB1p
                clear hz hcell hmp hB1p hB2
                by_cases hz0 : z < 0
                · obtain rfl : z = -1 := by omega
                  rw [show unlE ((-1 : Int) != -1) 3 = 3 from rfl] at hch7
                  go_wp2_with (first
                    | (go_at_call 24; refine hch7.mono ?_; rintro e w7 ⟨A7, k7, rfl, hi7, hb7'⟩; have c0A := (hb7'.cell (p := ⟨gA, oA, none⟩) hbA).trans hcA; have hb7 := HB1p.out.trans (hb7'.mono HB1p.out.size); clear hb7' c0 c1 hi7)
                    | (go_at_call 16; refine (hwk _).mono ?_; rintro e w9 ⟨rfl, hb9⟩))
                  go_ret
                  have hB7 := HB1.out.trans (hb7.mono HB1.out.size)
                  exact ⟨rfl, hB7.trans (hb9.mono hB7.size)⟩
                · obtain ⟨K, hK⟩ : ∃ K : Nat, z = K := ⟨z.toNat, by omega⟩
                  subst hK
                  rw [show unlE ((K : Int) != -1) 3 = 0 by rw [show ((K : Int) != -1) = true from bne_iff_ne.2 (by omega)]; rfl] at hch7
                  simp only [Int.toNat_natCast] at hch7 HCH2
                  have hln : (chL G D K).length = K := by simp [chL]
                  simp only [hln] at hch7
                  have z1 : decide ((K : Int) < 0) = false := decide_eq_false (by omega)
                  clear hz0
                  go_upto_region 25 with (go_at_call 24; refine hch7.mono ?_; rintro e w7 ⟨A7, k7, rfl, hi7, hb7'⟩; have c0A := (hb7'.cell (p := ⟨gA, oA, none⟩) hbA).trans hcA; have sA7 : gA < w7.heap.size := Nat.lt_of_lt_of_le hbA hb7'.size; have hb7 := HB1p.out.trans (hb7'.mono HB1p.out.size); clear hb7' c0 c1)
                  have HB7 := Lib.hid hb7
                  have HI7 := Lib.hid hi7
                  have HL := Lib.hid hln
                  clear hb7 hi7 hln
                  go_wp2_with fail
                  go_loopw [13] (fun i wr => ∃ k : Nat, k ≤ K ∧ i = .int .i64 k ∧ wr = w7) (fun i _ => K - (intOf i).toNat)
                  case atStart => exact ⟨0, Nat.zero_le _, rfl, rfl⟩
                  case round =>
                    obtain ⟨k, hk, rfl, rfl⟩ := hrel
                    by_cases hkK : k < K
                    · obtain ⟨gC, oC, e1, hbC, hcC⟩ := HI7.out.plain (by rw [numI_length, HL.out]; omega)
                      subst e1
                      have hcc := hcC k (by rw [numI_length, HL.out]; exact hkK)
                      rw [numI_nth (by rw [HL.out]; exact hkK), show (chL G D K)[k]'(by rw [HL.out]; exact hkK) = (gAt G (posC G D k)).length by simp [chL]] at hcc
                      have h1 := HCH2.out k hkK
                      obtain ⟨x, hx⟩ : ∃ x, x = (gAt G (posC G D k)).length := ⟨_, rfl⟩
                      rw [← hx] at hcc h1
                      have t1 : decide ((x : Int) < 1) = false := decide_eq_false (by omega)
                      have t1' : decide (x < 1) = false := decide_eq_false (by omega)
                      clear hcC hx h1
                      go_wp2_with fail
                      go_roundw
                      case rel => exact ⟨k + 1, by omega, by go_num, trivial⟩
                      case measure => simp [intOf] <;> omega
                    · obtain rfl : k = K := by omega
                      go_wp2_with (go_at_call 16; refine (hwk _).mono ?_; rintro e w9 ⟨rfl, hb9⟩)
                      go_ret
                      have hB7 := HB1.out.trans (HB7.out.mono HB1.out.size)
                      exact ⟨rfl, hB7.trans (hb9.mono hB7.size)⟩
      · have hwi : ∀ V, Below w1.heap.size w1 V → Calls Try.prog 22 #[grV AP AE nP cP G.length cE, .slice AD D.length cD] V fun e w' => e = .returned (.tuple #[.slice none 0 0, I (chkE nP G D)]) ∧ Below V.heap.size V w' := fun V hV => Widths_err AP AE AD nP cP cE cD G D V (HC.out V hV).2.2 HZ.out hse
        have hwr : ∀ V, Below w1.heap.size w1 V → Calls Try.prog 19 #[grV AP AE nP cP G.length cE, .slice AD D.length cD] V fun e w' => e = .returned (.tuple #[.slice none 0 0, I (chkE nP G D)]) ∧ Below V.heap.size V w' := fun V hV => Wrong_err AP AE AD nP cP cE cD G D V (HC.out V hV).2.2 HZ.out hse
        obtain ⟨F, hF⟩ : ∃ F, F = chkE nP G D := ⟨_, rfl⟩
        rw [← hF] at hwi hwr hse
        have q1 : (F != 0) = true := by simpa using hse
        clear hF hse
        go_enter Try.func13, Try.ntmps13
        go_upto_region 1 with fail
        rw [← hw1]
        clear hw1
        go_wp2_with (first
          | (go_at_call 15; refine hla.mono ?_; rintro e w3 ⟨rfl, hb3⟩; obtain ⟨c0, c1, -⟩ := HC.out w3 hb3; have hrc3 := hrc w3 hb3)
          | (go_at_call 18; refine hrc3.mono ?_; rintro e w4 ⟨rfl, hb4'⟩; have hb4 := hb3.trans (hb4'.mono hb3.size); clear hb4' c0 c1; obtain ⟨c0, c1, -⟩ := HC.out w4 hb4; have hwi4 := hwi w4 hb4)
          | (go_at_call 22; refine hwi4.mono ?_; rintro e w5 ⟨rfl, hb5'⟩; have hb5 := hb4.trans (hb5'.mono hb4.size); clear hb5' c0 c1; obtain ⟨c0, c1, -⟩ := HC.out w5 hb5; have hwr5 := hwr w5 hb5)
          | (go_at_call 19; refine hwr5.mono ?_; rintro e w6 ⟨rfl, hb6'⟩; have hb6 := hb5.trans (hb6'.mono hb5.size); clear hb6')
          | (go_at_call 16; refine (hwk _).mono ?_; rintro e w9 ⟨rfl, hb9⟩))
        go_ret
        have hB6 := HB1.out.trans (hb6.mono HB1.out.size)
        exact ⟨rfl, hB6.trans (hb9.mono hB6.size)⟩
    · have q1 : (E != 0) = true := by simpa using hE0
      clear hE0
      go_enter Try.func13, Try.ntmps13
      go_upto_region 1 with fail
      rw [← hw1]
      clear hw1
      go_wp2_with (first
        | (go_at_call 15; refine hla.mono ?_; rintro e w3 ⟨rfl, hb3⟩; obtain ⟨c0, c1, -⟩ := HC.out w3 hb3; have hrc3 := hrc w3 hb3)
        | (go_at_call 18; refine hrc3.mono ?_; rintro e w4 ⟨rfl, hb4'⟩; have hb4 := hb3.trans (hb4'.mono hb3.size); clear hb4' c0 c1; obtain ⟨c0, c1, -⟩ := HC.out w4 hb4)
        | (go_at_call 16; refine (hwk _).mono ?_; rintro e w9 ⟨rfl, hb9⟩))
      go_ret
      have hB4 := HB1.out.trans (hb4.mono HB1.out.size)
      exact ⟨rfl, hB4.trans (hb9.mono hB4.size)⟩
end Go.Proofs.Ytehoaenkkmmobaa

/-
  LAYER 6, CONTRACT: chance.
-/
import Derived.Test.YtehoaenkkmmobaaSrMw
import Derived.Test.YtehoaenkkmmobaaSrAa
namespace Go.Proofs.Ytehoaenkkmmobaa
open Go.RowKit Go.Shelf
/-- the weights behind m moves -/
def wtN (G : List (List Ed)) (D : List Int) (P : Nat) : Nat → Nat → Nat
  | 0 => fun c => if c = 0 then 1 else 0
  | m + 1 => mvP G D (wtN G D P m) P G.length
/-- the weights of the finished ones among the first k -/
def finN (D : List Int) (W : Nat → Nat) : Nat → Nat
  | 0 => 0
  | k + 1 => finN D W k + if dOf D k == 0 then W k else 0
theorem finN_le (D : List Int) (W : Nat → Nat) : ∀ k, finN D W k ≤ tot k W := by
  intro k
  induction k with
  | zero => exact Nat.le_refl _
  | succ k ih => rw [finN, tot]; split <;> omega
theorem tot_wt {G : List (List Ed)} {D : List Int} (hv : Vld G D) {P : Nat} (hd : Div G D P) : ∀ m, tot G.length (wtN G D P m) = P ^ m := by
  intro m
  induction m with
  | zero =>
    have h : wtN G D P 0 = addN (fun _ => 0) 0 1 := by funext c; simp [wtN, addN]
    rw [h, tot_add _ _ _ _ hv.pos, tot_zero]; rfl
  | succ m ih => rw [wtN, tot_mvP hv hd _ _ (Nat.le_refl _), ih, Nat.pow_succ]
theorem div_prt {G : List (List Ed)} {D : List Int} (h : prtN G D ≤ 1000000000000000) : Div G D (prtN G D) := fun p hp hs => prtT_dvd G.length h p hp hs
/-- the numerator behind m moves -/
def chN (G : List (List Ed)) (D : List Int) (m : Nat) : Nat := finN D (wtN G D (prtN G D) m) G.length
theorem tot_wt0 {G : List (List Ed)} {D : List Int} (hv : Vld G D) {P m : Nat} (h : m = 0 ∨ Div G D P) : tot G.length (wtN G D P m) = P ^ m := by
  rcases h with rfl | h
  · have e : wtN G D P 0 = addN (fun _ => 0) 0 1 := by funext c; simp [wtN, addN]
    rw [e, tot_add _ _ _ _ hv.pos, tot_zero]; rfl
  · exact tot_wt hv h m
set_option maxRecDepth 100000 in
set_option maxHeartbeats 8000000 in
theorem chance_ok (AP AE AD : Option Addr) (nP cP cE cD m : Nat) (G : List (List Ed)) (D : List Int) (w : World) (hm : MdR w AE AD G D) (hv : Vld G D) (hmv : m ≤ 20) (hle : prtN G D ^ m ≤ 1000000000000000) :
    Calls Try.prog 56 #[mdlV (.slice AP nP cP) AE AD G.length cE D.length cD, I m] w fun e w' => e = .returned (.tuple #[I (chN G D m / Nat.gcd (chN G D m) (prtN G D ^ m) : Nat), I (prtN G D ^ m / Nat.gcd (chN G D m) (prtN G D ^ m) : Nat), I 0]) ∧ Below w.heap.size w w' := by
  obtain ⟨w1, hw1, hs1, y0, hb1⟩ := one_box w (.cells #[.slice AP nP cP, .slice AE G.length cE, .slice AD D.length cD] 64)
  have hc : ∀ V, Below w1.heap.size w1 V → V.cell? ⟨w.heap.size, 0, none⟩ = some (.slice AP nP cP) ∧ V.cell? ⟨w.heap.size, 1, none⟩ = some (.slice AE G.length cE) ∧ V.cell? ⟨w.heap.size, 2, none⟩ = some (.slice AD D.length cD) ∧ MdR V AE AD G D := fun V hV =>
    ⟨(hV.cell (p := ⟨w.heap.size, 0, none⟩) (by show w.heap.size < _; omega)).trans (cell_of_row w1 _ 0 _ _ _ y0), (hV.cell (p := ⟨w.heap.size, 1, none⟩) (by show w.heap.size < _; omega)).trans (cell_of_row w1 _ 1 _ _ _ y0), (hV.cell (p := ⟨w.heap.size, 2, none⟩) (by show w.heap.size < _; omega)).trans (cell_of_row w1 _ 2 _ _ _ y0), (hm.call hb1).call hV⟩
  obtain ⟨a0, a1, a2, -⟩ := hc w1 (Below.refl _ _)
  have hmx := hv.many
  have hpos := hv.pos
  have hpr := parts_any AP AE AD nP cP cE cD G D w1 (hm.call hb1) hv
  have hP1 : 1 ≤ prtN G D := prtT_pos G D G.length
  have hP2 : prtN G D ≤ 100000000000000000 := prtT_bnd hv G.length (Nat.le_refl _)
  have hDv : prtN G D ≤ 1000000000000000 → Div G D (prtN G D) := div_prt
  have hCN : chN G D m = finN D (wtN G D (prtN G D) m) G.length := rfl
  obtain ⟨P, hP⟩ : ∃ P, P = prtN G D := ⟨_, rfl⟩
  rw [← hP] at hpr hP1 hP2 hDv hCN hle ⊢
  have hpw := fun V => power_any P m V hP1 hmv
  have HFI := Lib.hid (fun V (p : Nat) (hV : Below w1.heap.size w1 V) (hp : p < G.length) => isFinished_any (.slice AP nP cP) AE AD cE cD G D p V ((hm.call hb1).call hV) hv hp)
  have HMV := Lib.hid (fun V AW cW W T (hV : Below w1.heap.size w1 V) hw hd hW hT hP => move_any AP AE AD AW nP cP cE cD cW G D W P T V ((hm.call hb1).call hV) hv hw hd hW hT hP)
  have HTW := Lib.hid (fun k (h : k = 0 ∨ Div G D P) => tot_wt0 hv (m := k) h)
  have HC := Lib.hid hc
  have HB1 := Lib.hid hb1
  have hmk := run_make_row' (P := Try.prog) 26 3 (.int .i64 0) 8 Try.underlying26 info_int rfl .i64 .i64 G.length (by omega) (by omega)
  simp only [madeF] at hmk
  clear hm hv y0 hb1 hc hP
  have hpw2 := fun V => (hpw V).mono (R' := fun e w' => e = .returned (.tuple #[I (P ^ m : Nat), I 0]) ∧ w' = V) fun e w' h => ⟨h.1 hle, h.2.2⟩
  have HPM := Lib.hid (show ∀ k, k < m → P ^ k * P ≤ 1000000000000000 from fun k hk => by rw [← Nat.pow_succ]; exact Nat.le_trans (Nat.pow_le_pow_right hP1 hk) hle)
  have HPX := Lib.hid (show ∀ k, k < m → P ≤ 1000000000000000 from fun k hk => by
    have h1 := HPM.out 0 (by omega)
    simpa using h1)
  have HDV := Lib.hid (show ∀ k, k < m → Div G D P from fun k hk => hDv (HPX.out k hk))
  have hMp : 1 ≤ P ^ m := Nat.one_le_pow _ _ hP1
  obtain ⟨M, hM⟩ : ∃ M, M = P ^ m := ⟨_, rfl⟩
  rw [← hM] at hpw2 hle hMp ⊢
  have hfb : chN G D m ≤ M := by
    rw [hCN, hM]
    refine Nat.le_trans (finN_le _ _ _) (Nat.le_of_eq (HTW.out m ?_))
    rcases Nat.eq_zero_or_pos m with h | h
    · exact .inl h
    · exact .inr (HDV.out 0 h)
  have hlow := fun V => lowest_any (chN G D m) M V (by omega) (by omega) (by omega)
  obtain ⟨C, hCq⟩ : ∃ C, C = chN G D m := ⟨_, rfl⟩
  rw [← hCq] at hCN hfb hlow ⊢
  obtain ⟨r1, hr1⟩ : ∃ r1, r1 = C / Nat.gcd C M := ⟨_, rfl⟩
  obtain ⟨r2, hr2⟩ : ∃ r2, r2 = M / Nat.gcd C M := ⟨_, rfl⟩
  rw [← hr1, ← hr2] at hlow ⊢
  have HM := Lib.hid hM
  have HCN := Lib.hid hCN
  have HDV2 := Lib.hid hDv
  clear hpw hM hCN hCq hr1 hr2 hDv
  go_enter Try.func56, Try.ntmps56
  go_upto_region 1 with fail
  rw [← hw1]
  clear hw1
  go_upto_region 2 with (go_at_call 76; refine hpr.mono ?_; rintro e wp ⟨rfl, hbp⟩; obtain ⟨b0, b1, b2, -⟩ := HC.out wp hbp)
  clear a0 a1 a2
  go_upto_region 6 with (go_at_call 77; refine (hpw2 _).mono ?_; rintro e wq ⟨rfl, rfl⟩)
  obtain ⟨w2, hw2⟩ : ∃ w2, w2 = wq.alloc (.cells (rowF (fun _ => Value.int .i64 0) G.length) 3) := ⟨_, rfl⟩
  rw [← hw2]
  have hR2 : RowAt w2 wq.heap.size 3 (intV (fun _ => 0)) G.length := by rw [hw2]; exact alloc_obj wq _ _ rfl
  have hB2 : Below w1.heap.size w1 w2 := by rw [hw2]; exact hbp.alloc hbp.size _
  have q0 : w2.cell? ⟨wq.heap.size, 0, none⟩ = some (.int .i64 0) := hR2.at_ hpos
  have qf : w2.frozen? ⟨wq.heap.size, 0, none⟩ = false := hR2.free 0
  have ql := hR2.lt
  have HR2 := Lib.hid hR2
  have HBP := Lib.hid hbp
  clear hR2 hw2 hmk
  go_upto_region 7 with fail
  obtain ⟨w3, hw3⟩ : ∃ w3, w3 = w2.setCell ⟨wq.heap.size, 0, none⟩ (.int .i64 1) := ⟨_, rfl⟩
  rw [← hw3]
  have hI3 : IntsR w3 w3.heap.size (some ⟨wq.heap.size, 0, none⟩) ((List.range G.length).map fun p => (wtN G D P 0 p : Int)) := by
    rw [hw3]
    exact (intV_set (G := fun p => (wtN G D P 0 p : Int)) HR2.out fun c _ => by simp only [wtN]; split <;> rfl).ints
  have hB3 : Below w1.heap.size w1 w3 := by
    rw [hw3]
    exact hB2.grown (grown_setCell _ _ _) (by have := hB2.size; omega) (fun j hj => by injection hj with hj; rw [← hj]; exact HBP.out.size)
  clear hw3 q0 qf ql b0 b1 b2
  have HI3 := Lib.hid hI3
  clear hI3
  go_wp2_with fail
  go_loopw [8, 30] (fun s i wr => ∃ (k : Nat) (A : Option Addr) (c : Nat), k ≤ m ∧ i = .int .i64 k ∧ s = .slice A G.length c ∧ Below w1.heap.size w1 wr ∧ Hid (IntsR wr wr.heap.size A ((List.range G.length).map fun p => (wtN G D P k p : Int)))) (fun _ i _ => m - (intOf i).toNat)
  case atStart => exact ⟨0, _, _, Nat.zero_le _, rfl, rfl, hB3, HI3⟩
  case round =>
    obtain ⟨k, A, c, hk, rfl, rfl, hB, HI⟩ := hrel
    obtain ⟨wo, hwo⟩ : ∃ wo : World, wo = wr := ⟨_, rfl⟩
    rw [← hwo] at hB HI
    rw [← hwo]
    clear hwo
    obtain ⟨b0, b1, b2, -⟩ := HC.out wo hB
    by_cases hlt : k < m
    · have hcall := HMV.out wo A c (wtN G D P k) (P ^ k) hB HI.out (HDV.out k hlt) (HTW.out k (.inr (HDV.out k hlt))) (HPM.out k hlt) (HPX.out k hlt)
      have HBo := Lib.hid hB
      clear hB
      go_wp2_with (go_at_call 78; refine hcall.mono ?_; rintro e w4 ⟨A', c', rfl, hI4, hb4⟩; have HI4 := Lib.hid hI4; clear hI4)
      go_roundw
      case rel => exact ⟨k + 1, A', c', by omega, by go_num, rfl, HBo.out.trans (hb4.mono HBo.out.size), HI4⟩
      case measure => simp [intOf] <;> omega
    · obtain rfl : k = m := by omega
      have hwt : tot G.length (wtN G D P k) = M := by
        rw [HM.out]
        refine HTW.out k ?_
        rcases Nat.eq_zero_or_pos k with h | h
        · exact .inl h
        · exact .inr (HDV2.out (by have h1 : P ^ 1 ≤ P ^ k := Nat.pow_le_pow_right hP1 h; rw [Nat.pow_one, ← HM.out] at h1; omega))
      have HFB := Lib.hid (show ∀ j, j ≤ G.length → finN D (wtN G D P k) j ≤ M from fun j hj => Nat.le_trans (finN_le _ _ _) (hwt ▸ tot_le _ _ hj))
      have HWB := Lib.hid (show ∀ j, j < G.length → wtN G D P k j ≤ M from fun j hj => hwt ▸ le_tot _ _ hj)
      obtain ⟨W, hWq⟩ : ∃ W, W = wtN G D P k := ⟨_, rfl⟩
      rw [← hWq] at HI HFB HWB HCN
      have HIK := Lib.hid (fun V (hV : Below wo.heap.size wo V) => ints_call hV HI.out)
      have HBo := Lib.hid hB
      clear hwt hWq
      go_wp2_with fail
      go_loopw [4, 39] (fun s i ws => ∃ j : Nat, j ≤ G.length ∧ i = .int .i64 j ∧ s = .int .i64 (finN D W j : Nat) ∧ Below wo.heap.size wo ws) (fun _ i _ => G.length - (intOf i).toNat)
      case atStart => exact ⟨0, Nat.zero_le _, rfl, rfl, Below.refl _ _⟩
      case round =>
        obtain ⟨j, hj, rfl, rfl, hB'⟩ := hrel
        obtain ⟨wi', hwi⟩ : ∃ wi' : World, wi' = wr := ⟨_, rfl⟩
        rw [← hwi] at hB'
        rw [← hwi]
        clear hwi
        have hBB := HBo.out.trans (hB'.mono HBo.out.size)
        obtain ⟨d0, d1, d2, -⟩ := HC.out wi' hBB
        by_cases hjl : j < G.length
        · have hcall := HFI.out wi' j hBB hjl
          obtain ⟨adw, eW, hbw, hcW⟩ := (HIK.out wi' hB').at_ (k := j) (by simpa using hjl)
          rw [nth_lt (by simpa using hjl)] at hcW
          simp only [List.getElem_map, List.getElem_range] at hcW
          obtain rfl := eW
          have h1 := HFB.out j hj
          have h2 := HFB.out (j + 1) hjl
          have h3 := HWB.out j hjl
          have HN := Lib.hid (show finN D W (j + 1) = finN D W j + if dOf D j == 0 then W j else 0 from rfl)
          obtain ⟨x, hx⟩ : ∃ x, x = W j := ⟨_, rfl⟩
          rw [← hx] at hcW h3 HN
          obtain ⟨f1, hf1⟩ : ∃ f1, f1 = finN D W (j + 1) := ⟨_, rfl⟩
          rw [← hf1] at h2 HN
          obtain ⟨f, hf⟩ : ∃ f, f = finN D W j := ⟨_, rfl⟩
          rw [← hf] at h1 HN ⊢
          obtain ⟨b, hb⟩ : ∃ b, b = (dOf D j == 0) := ⟨_, rfl⟩
          rw [← hb] at hcall HN
          have HF1 := Lib.hid hf1
          clear hx hf hb hf1 hBB
          cases b with
          | true =>
            have hq := HN.out
            rw [if_pos rfl] at hq
            have HQ := Lib.hid (show finN D W (j + 1) = f + x by rw [← HF1.out]; exact hq)
            clear HN
            go_wp2_with (go_at_call 79; refine hcall.mono ?_; rintro e w4 ⟨rfl, hb4⟩)
            go_roundw
            case rel => exact ⟨j + 1, by omega, by go_num, by rw [HQ.out]; go_num, hB'.trans (hb4.mono hB'.size)⟩
            case measure => simp [intOf] <;> omega
          | false =>
            have hq := HN.out
            rw [if_neg (by simp)] at hq
            have HQ := Lib.hid (show finN D W (j + 1) = f by rw [← HF1.out]; exact hq)
            clear HN
            go_wp2_with (go_at_call 79; refine hcall.mono ?_; rintro e w4 ⟨rfl, hb4⟩)
            go_roundw
            case rel => exact ⟨j + 1, by omega, by go_num, by rw [HQ.out], hB'.trans (hb4.mono hB'.size)⟩
            case measure => simp [intOf] <;> omega
        · obtain rfl : j = G.length := by omega
          rw [← HCN.out]
          go_wp2_with (go_at_call 66; refine (hlow _).mono ?_; rintro e w4 ⟨rfl, hb4⟩)
          go_ret3
          exact ⟨rfl, HB1.out.trans ((hBB.trans (hb4.mono hBB.size)).mono HB1.out.size)⟩
set_option maxRecDepth 100000 in
set_option maxHeartbeats 8000000 in
theorem chance_many (AP AE AD : Option Addr) (nP cP cE cD m : Nat) (G : List (List Ed)) (D : List Int) (w : World) (hm : MdR w AE AD G D) (hv : Vld G D) (hmv : m ≤ 20) (hle : ¬ prtN G D ^ m ≤ 1000000000000000) :
    Calls Try.prog 56 #[mdlV (.slice AP nP cP) AE AD G.length cE D.length cD, I m] w fun e w' => e = .returned (.tuple #[I 0, I 0, I 2]) ∧ Below w.heap.size w w' := by
  obtain ⟨w1, hw1, hs1, y0, hb1⟩ := one_box w (.cells #[.slice AP nP cP, .slice AE G.length cE, .slice AD D.length cD] 64)
  have hc : ∀ V, Below w1.heap.size w1 V → V.cell? ⟨w.heap.size, 0, none⟩ = some (.slice AP nP cP) ∧ V.cell? ⟨w.heap.size, 1, none⟩ = some (.slice AE G.length cE) ∧ V.cell? ⟨w.heap.size, 2, none⟩ = some (.slice AD D.length cD) ∧ MdR V AE AD G D := fun V hV =>
    ⟨(hV.cell (p := ⟨w.heap.size, 0, none⟩) (by show w.heap.size < _; omega)).trans (cell_of_row w1 _ 0 _ _ _ y0), (hV.cell (p := ⟨w.heap.size, 1, none⟩) (by show w.heap.size < _; omega)).trans (cell_of_row w1 _ 1 _ _ _ y0), (hV.cell (p := ⟨w.heap.size, 2, none⟩) (by show w.heap.size < _; omega)).trans (cell_of_row w1 _ 2 _ _ _ y0), (hm.call hb1).call hV⟩
  obtain ⟨a0, a1, a2, -⟩ := hc w1 (Below.refl _ _)
  have hmx := hv.many
  have hpos := hv.pos
  have hpr := parts_any AP AE AD nP cP cE cD G D w1 (hm.call hb1) hv
  have hP1 : 1 ≤ prtN G D := prtT_pos G D G.length
  have hP2 : prtN G D ≤ 100000000000000000 := prtT_bnd hv G.length (Nat.le_refl _)
  have hDv : prtN G D ≤ 1000000000000000 → Div G D (prtN G D) := div_prt
  have hCN : chN G D m = finN D (wtN G D (prtN G D) m) G.length := rfl
  obtain ⟨P, hP⟩ : ∃ P, P = prtN G D := ⟨_, rfl⟩
  rw [← hP] at hpr hP1 hP2 hDv hCN hle
  have hpw := fun V => power_any P m V hP1 hmv
  have HFI := Lib.hid (fun V (p : Nat) (hV : Below w1.heap.size w1 V) (hp : p < G.length) => isFinished_any (.slice AP nP cP) AE AD cE cD G D p V ((hm.call hb1).call hV) hv hp)
  have HMV := Lib.hid (fun V AW cW W T (hV : Below w1.heap.size w1 V) hw hd hW hT hP => move_any AP AE AD AW nP cP cE cD cW G D W P T V ((hm.call hb1).call hV) hv hw hd hW hT hP)
  have HTW := Lib.hid (fun k (h : k = 0 ∨ Div G D P) => tot_wt0 hv (m := k) h)
  have HC := Lib.hid hc
  have HB1 := Lib.hid hb1
  have hmk := run_make_row' (P := Try.prog) 26 3 (.int .i64 0) 8 Try.underlying26 info_int rfl .i64 .i64 G.length (by omega) (by omega)
  simp only [madeF] at hmk
  clear hm hv y0 hb1 hc hP
  have hpw2 := fun V => (hpw V).mono (R' := fun e w' => e = .returned (.tuple #[I 0, I 2]) ∧ w' = V) fun e w' h => ⟨h.2.1 hle, h.2.2⟩
  clear hpw hle HMV HTW HFI hmk hDv hCN
  go_enter Try.func56, Try.ntmps56
  go_upto_region 1 with fail
  rw [← hw1]
  clear hw1
  go_upto_region 2 with (go_at_call 76; refine hpr.mono ?_; rintro e wp ⟨rfl, hbp⟩; obtain ⟨b0, b1, b2, -⟩ := HC.out wp hbp)
  clear a0 a1 a2
  go_wp2_with (go_at_call 77; refine (hpw2 _).mono ?_; rintro e wq ⟨rfl, rfl⟩)
  go_ret3
  exact ⟨rfl, HB1.out.trans (hbp.mono HB1.out.size)⟩
end Go.Proofs.Ytehoaenkkmmobaa

/-
  LAYER 6: the document's Chance. (Written by gen/gen_srrh.py over srrh_head.txt.)
-/
import Derived.BigQuiet
import Derived.Test.YtehoaenkkmmobaaSrRg
namespace Go.Proofs.Ytehoaenkkmmobaa
open Go.RowKit Go.Shelf
/-- the weights that lie in a row of the document's -/
def rwt' (G : List (List Ed)) (D : List Int) (P m j : Nat) : Nat → Nat := fun c => wtN G D P j c * P ^ (m - j)
set_option maxRecDepth 100000 in
set_option maxHeartbeats 16000000 in
theorem rChance_in (AP AE AD : Option Addr) (nP cP cE cD m : Nat) (G : List (List Ed)) (D : List Int) (X Y R : Int) (w : World) (hm : MdR w AE AD G D) (hz : Szd nP G D) (h0 : chkR nP G D = 0) (hv : Vld G D) (hm20 : m ≤ 20)
    (hM : ¬ prtN G D ^ m ≤ 1000000000000000 → X = 0 ∧ Y = 0 ∧ R = 2) (hO : prtN G D ^ m ≤ 1000000000000000 → X = (chcA G D m : Nat) ∧ Y = (chcB G D m : Nat) ∧ R = 0) :
    Calls Try.prog 29 #[grV AP AE nP cP G.length cE, .slice AD D.length cD, I m] w fun e w' => e = .returned (.tuple #[I X, I Y, I R]) ∧ Below w.heap.size w w' := by
  obtain ⟨w1, hw1, hs1, y1, hb1⟩ := one_box w (.cells #[.slice AP nP cP, .slice AE G.length cE] 25)
  have hm1 := hm.call hb1
  have hpos := hv.pos
  have hmx := hv.many
  have hlD := hv.len
  have hD0 : 0 < D.length := by omega
  have hDx : D.length ≤ 300 := by omega
  obtain ⟨gA, oA, e1, hbA, hcA⟩ := hm1.d.plain hD0
  subst e1
  obtain ⟨g, o, e2, hgl, hgc⟩ := hm1.g hpos
  subst e2
  have hc : ∀ V, Below w1.heap.size w1 V → V.cell? ⟨w.heap.size, 0, none⟩ = some (.slice AP nP cP) ∧ V.cell? ⟨w.heap.size, 1, none⟩ = some (.slice (some ⟨g, o, none⟩) G.length cE) ∧ (∀ k, k < D.length → V.cell? ⟨gA, oA + k, none⟩ = some (I (nth D k))) ∧ MdR V (some ⟨g, o, none⟩) (some ⟨gA, oA, none⟩) G D := fun V hV =>
    ⟨(hV.cell (p := ⟨w.heap.size, 0, none⟩) (by show w.heap.size < _; omega)).trans (cell_of_row w1 _ 0 _ _ _ y1), (hV.cell (p := ⟨w.heap.size, 1, none⟩) (by show w.heap.size < _; omega)).trans (cell_of_row w1 _ 1 _ _ _ y1), fun k hk => (hV.cell (p := ⟨gA, oA + k, none⟩) hbA).trans (hcA k hk), hm1.call hV⟩
  have hgcell : ∀ p, p < G.length → ∃ (Ap : Option Addr) (cp : Nat), ∀ V, Below w1.heap.size w1 V → V.cell? ⟨g, o + p, none⟩ = some (.slice Ap (gAt G p).length cp) ∧ EdR V V.heap.size Ap (gAt G p) := fun p hp => by
    obtain ⟨Ap, cp, h1, h2⟩ := hgc p hp
    rw [← gAt_eq hp] at h1 h2
    exact ⟨Ap, cp, fun V hV => ⟨(hV.cell (p := ⟨g, o + p, none⟩) hgl).trans h1, edr_call hV h2⟩⟩
  have hfew : ∀ p, p < G.length → (gAt G p).length ≤ 100 := fun p hp => by rw [gAt_eq hp]; exact hv.few p hp
  have htg : ∀ p, p < G.length → ∀ k (hk : k < (gAt G p).length), ((gAt G p)[k]).to = (tgt (eOf G) p k : Nat) ∧ tgt (eOf G) p k < G.length := fun p hp => by
    rw [gAt_eq hp]; exact fun k hk => eOf_tgt hv hp hk
  have hst : ∀ p, stay (eOf G) (dOf D) p = (decide (nth D p = 0) || decide ((gAt G p).length = 0)) := fun p => by
    rw [stay, dOf]
    have e : (eOf G p).isEmpty = decide ((gAt G p).length = 0) := by
      rw [← eOf_len_gAt]; cases eOf G p <;> simp
    rw [e]
    congr 1
  have hrc := rCheck_any AP (some ⟨g, o, none⟩) (some ⟨gA, oA, none⟩) nP cP cE cD G D w1 hm1 hz
  rw [h0] at hrc
  have hwi : ∀ V, Calls Try.prog 46 #[I m, I 0, I 20] V fun e w' => e = .returned (.bool true) ∧ V = w' := fun V => by
    have := rWithin_any m 0 20 V
    rw [show wi (m : Int) 0 20 = true by simp [wi]; omega] at this
    exact this
  have hmk := run_make_row' (P := Try.prog) 26 3 (.int .i64 0) 8 Try.underlying26 info_int rfl .i64 .i64 D.length (by omega) (by omega)
  simp only [madeF] at hmk
  obtain ⟨c0, c1, -⟩ := hc w1 (Below.refl _ _)
  have HC := Lib.hid hc
  have HGC := Lib.hid hgcell
  have HFE := Lib.hid hfew
  have HTG := Lib.hid htg
  have HST := Lib.hid hst
  have HB1 := Lib.hid hb1
  have HLD := Lib.hid hlD
  have HV := Lib.hid hv
  have HMN := Lib.hid hM
  have HOK := Lib.hid hO
  have HG300 := Lib.hid hmx
  have HCM := Lib.hid (fun k => cmn_pos G D m k)
  clear hm hz h0 hv hm1 hb1 y1 hgc hcA hc hgcell hfew htg hst hlD hM hO hmx hpos
  go_enter Try.func29, Try.ntmps29
  go_upto_region 1 with fail
  rw [← hw1]
  clear hw1
  go_upto_region 7 with (first
    | (go_at_call 18; refine hrc.mono ?_; rintro e w2 ⟨rfl, hb2⟩)
    | (go_at_call 46; with_reducible refine (hwi _).mono ?_; rintro e w' ⟨rfl, rfl⟩))
  clear c0 c1 hrc hwi
  go_wp2_with fail
  go_loopw [10, 11] (fun s i wr => ∃ k c : Nat, k ≤ D.length ∧ i = .int .i64 k ∧ s = .int .i64 c ∧ Hid (c = cmn G D m k) ∧ 1 ≤ c ∧ c ≤ 1000000000000000 ∧ Below w1.heap.size w1 wr) (fun _ i _ => D.length - (intOf i).toNat)
  case atStart => exact ⟨0, 1, Nat.zero_le _, rfl, rfl, Lib.hid (by unfold cmn; split <;> rfl), by omega, by omega, hb2⟩
  case round =>
    obtain ⟨k, c, hk, rfl, rfl, HCK, hc1, hcx, hB⟩ := hrel
    obtain ⟨wo, hwo⟩ : ∃ wo : World, wo = wr := ⟨_, rfl⟩
    rw [← hwo] at hB
    rw [← hwo]
    clear hwo
    by_cases hlt : k < D.length
    · have hkG : k < G.length := by have := HLD.out; omega
      obtain ⟨Ap, cp, hq⟩ := HGC.out k hkG
      have hgk := (hq wo hB).1
      obtain ⟨c0, c1, hdk, -⟩ := HC.out wo hB
      have hdc := hdk k hlt
      have hfw := HFE.out k hkG
      have hs := HST.out k
      have hnl : nE G k = (gAt G k).length := rfl
      obtain ⟨n, hn⟩ : ∃ n, n = (gAt G k).length := ⟨_, rfl⟩
      obtain ⟨d, hd⟩ : ∃ d, d = nth D k := ⟨_, rfl⟩
      rw [← hn] at hgk hfw hs hnl
      rw [← hd] at hdc hs
      have HBo := Lib.hid hB
      have HNL := Lib.hid hnl
      clear hq hn hd hdk hnl hB
      by_cases hm0 : m = 0
      · have HN := Lib.hid (show c = cmn G D m (k + 1) by rw [HCK.out]; exact (cmn_same (.inl hm0)).symm)
        have t1 : decide ((0 : Int) < (m : Int)) = false := decide_eq_false (by omega)
        have t1' : decide (0 < m) = false := decide_eq_false (by omega)
        clear hm0 hs
        go_wp2_with fail
        go_roundw
        case rel => exact ⟨k + 1, c, by omega, by go_num, rfl, HN, hc1, hcx, HBo.out⟩
        case measure => simp [intOf] <;> omega
      · have t1 : decide ((0 : Int) < (m : Int)) = true := decide_eq_true (by omega)
        have t1' : decide (0 < m) = true := decide_eq_true (by omega)
        have HM0 := Lib.hid (show 0 < m by omega)
        clear hm0
        by_cases hd0 : d = 0
        · have HN := Lib.hid (show c = cmn G D m (k + 1) by rw [HCK.out]; exact (cmn_same (.inr (by rw [hs, hd0]; rfl))).symm)
          have t2 : (d != 0) = false := by simp [hd0]
          have t2' : decide (d = 0) = true := decide_eq_true hd0
          clear hd0 hs
          go_wp2_with fail
          go_roundw
          case rel => exact ⟨k + 1, c, by omega, by go_num, rfl, HN, hc1, hcx, HBo.out⟩
          case measure => simp [intOf] <;> omega
        · have t2 : (d != 0) = true := by simpa using hd0
          have t2' : decide (d = 0) = false := decide_eq_false hd0
          by_cases hn0 : n = 0
          · have HN := Lib.hid (show c = cmn G D m (k + 1) by rw [HCK.out]; exact (cmn_same (.inr (by rw [hs, hn0]; simp))).symm)
            have t3 : decide ((0 : Int) < (n : Int)) = false := decide_eq_false (by omega)
            have t3' : decide (0 < n) = false := decide_eq_false (by omega)
            clear hd0 hs hn0
            go_wp2_with fail
            go_roundw
            case rel => exact ⟨k + 1, c, by omega, by go_num, rfl, HN, hc1, hcx, HBo.out⟩
            case measure => simp [intOf] <;> omega
          · have t3 : decide ((0 : Int) < (n : Int)) = true := decide_eq_true (by omega)
            have t3' : decide (0 < n) = true := decide_eq_true (by omega)
            have hsf : stay (eOf G) (dOf D) k = false := by rw [hs]; simp [hd0, hn0]
            have hmo := cmn_more HM0.out hsf (by rw [← HCK.out]; exact hcx)
            rw [← HCK.out, HNL.out] at hmo
            have hcall := fun V => rgcd_any c n V (by omega) (by omega)
            have hgp := Nat.gcd_pos_of_pos_left n (show 0 < c by omega)
            have hgx := Nat.gcd_le_right c (show 0 < n by omega)
            obtain ⟨h, hh⟩ : ∃ h, h = Nat.gcd c n := ⟨_, rfl⟩
            rw [← hh] at hcall hgp hgx hmo
            have q1 : (c : Int).tdiv (h : Int) = ((c / h : Nat) : Int) := Int.ofNat_tdiv _ _
            have hqb : c / h ≤ c := Nat.div_le_self _ _
            obtain ⟨q, hq⟩ : ∃ q, q = c / h := ⟨_, rfl⟩
            rw [← hq] at q1 hqb hmo
            have q2 : (q : Int) * (n : Int) = ((q * n : Nat) : Int) := (Int.natCast_mul _ _).symm
            have hxb : q * n ≤ 1000000000000000 * 100 := Nat.mul_le_mul (by omega) hfw
            have hx1 : 1 ≤ q * n := by rw [← hmo]; exact HCM.out _
            obtain ⟨x, hx⟩ : ∃ x, x = q * n := ⟨_, rfl⟩
            rw [← hx] at q2 hxb hx1 hmo
            have HMO := Lib.hid hmo
            have c2 : ((h : Int) == 0) = false := beq_eq_false_iff_ne.2 (by omega)
            have c3 : decide ((h : Int) = 0) = false := decide_eq_false (by omega)
            have c4 : ¬ (h : Int) = 0 := by omega
            have c5 : ¬ h = 0 := by omega
            clear hh hq hx hmo hd0 hn0 hs hsf
            by_cases hbig : 1000000000000000 < x
            · have t4 : decide ((1000000000000000 : Int) < (x : Int)) = true := decide_eq_true (by omega)
              have t4' : decide (1000000000000000 < x) = true := decide_eq_true hbig
              have HX := Lib.hid (HMN.out (cmn_many HM0.out hkG (by rw [HMO.out]; exact hbig)))
              clear hbig
              go_wp2_with (go_at_call 57; refine (hcall _).mono ?_; rintro e w4 ⟨rfl, hb4⟩)
              go_ret3
              obtain ⟨rfl, rfl, rfl⟩ := HX.out
              have hB2 := HB1.out.trans (HBo.out.mono HB1.out.size)
              exact ⟨rfl, hB2.trans (hb4.mono hB2.size)⟩
            · have t4 : decide ((1000000000000000 : Int) < (x : Int)) = false := decide_eq_false (by omega)
              have t4' : decide (1000000000000000 < x) = false := decide_eq_false hbig
              have HN := Lib.hid (show x = cmn G D m (k + 1) by rw [HMO.out])
              have hxs : x ≤ 1000000000000000 := by omega
              clear hbig
              go_wp2_with (go_at_call 57; refine (hcall _).mono ?_; rintro e w4 ⟨rfl, hb4⟩)
              go_roundw
              case rel => exact ⟨k + 1, x, by omega, by go_num, by first | rfl | go_num, HN, hx1, hxs, HBo.out.trans (hb4.mono HBo.out.size)⟩
              case measure => simp [intOf] <;> omega
    · obtain rfl : k = D.length := by omega
      have hP : c = cmn G D m G.length := by rw [HCK.out, HLD.out]
      have HP := Lib.hid hP
      have HPM := Lib.hid (show c ^ m = prtN G D ^ m by rw [hP]; exact cmn_pow G D m)
      have HBo := Lib.hid hB
      clear hP hB
      go_upto_region 16 with fail
      go_wp2_with fail
      go_loopw [13, 14] (fun s i wr => ∃ j al : Nat, j ≤ m ∧ i = .int .i64 j ∧ s = .int .i64 al ∧ Hid (al = c ^ j) ∧ 1 ≤ al ∧ al ≤ 1000000000000000 ∧ wr = wo) (fun _ i _ => m - (intOf i).toNat)
      case atStart => exact ⟨0, 1, Nat.zero_le _, rfl, rfl, Lib.hid rfl, by omega, by omega, rfl⟩
      case round =>
        obtain ⟨j, al, hj, rfl, rfl, HA, ha1, hax, rfl⟩ := hrel
        by_cases hlt : j < m
        · have q1 : (1000000000000000 : Int).tdiv (c : Int) = ((1000000000000000 / c : Nat) : Int) := by
            have := Int.ofNat_tdiv 1000000000000000 c
            exact this
          have hdl : (1000000000000000 / c < al) ↔ 1000000000000000 < c * al := div_lt (by omega)
          rw [Nat.mul_comm] at hdl
          have hqb : 1000000000000000 / c ≤ 1000000000000000 := Nat.div_le_self _ _
          obtain ⟨q, hq⟩ : ∃ q, q = 1000000000000000 / c := ⟨_, rfl⟩
          rw [← hq] at q1 hdl hqb
          have c2 : ((c : Int) == 0) = false := beq_eq_false_iff_ne.2 (by omega)
          have c3 : decide ((c : Int) = 0) = false := decide_eq_false (by omega)
          have c4 : ¬ (c : Int) = 0 := by omega
          have c5 : ¬ c = 0 := by omega
          have HS : c ^ (j + 1) = al * c := by rw [Nat.pow_succ, ← HA.out]
          have q2 : (al : Int) * (c : Int) = ((al * c : Nat) : Int) := (Int.natCast_mul _ _).symm
          obtain ⟨y, hy⟩ : ∃ y, y = al * c := ⟨_, rfl⟩
          rw [← hy] at hdl HS q2
          have hy1 : 1 ≤ y := by rw [hy]; exact Nat.mul_pos ha1 hc1
          clear hq hy
          by_cases hlq : q < al
          · have t1 : decide ((q : Int) < (al : Int)) = true := decide_eq_true (by omega)
            have t1' : decide (q < al) = true := decide_eq_true hlq
            have HX := Lib.hid (HMN.out (by rw [← HPM.out]; exact pow_lo hc1 hlt (by rw [HS]; exact hdl.1 hlq)))
            clear hdl HS hlq
            go_wp2_with fail
            go_ret3
            obtain ⟨rfl, rfl, rfl⟩ := HX.out
            exact ⟨rfl, HB1.out.trans (HBo.out.mono HB1.out.size)⟩
          · have t1 : decide ((q : Int) < (al : Int)) = false := decide_eq_false (by omega)
            have t1' : decide (q < al) = false := decide_eq_false hlq
            have hyb : y ≤ 1000000000000000 := by
              rcases Nat.lt_or_ge 1000000000000000 y with h | h
              · exact absurd (hdl.2 h) hlq
              · exact h
            have HY := Lib.hid HS.symm
            clear hdl HS hlq
            go_wp2_with fail
            go_roundw
            case rel => exact ⟨j + 1, y, by omega, by go_num, by first | rfl | go_num, HY, hy1, hyb, trivial⟩
            case measure => simp [intOf] <;> omega
        · obtain rfl : m = j := by omega
          obtain ⟨w9, hw9⟩ : ∃ w9 : World, w9 = wr := ⟨_, rfl⟩
          rw [← hw9] at HBo
          rw [← hw9]
          clear hw9
          go_upto_region 23 with fail
          obtain ⟨wk, hwk⟩ : ∃ wk, wk = w9.alloc (.cells (rowF (fun _ => Value.int .i64 0) D.length) 3) := ⟨_, rfl⟩
          rw [← hwk]
          have hR2 : RowAt wk w9.heap.size 3 (intV (fun _ => 0)) D.length := by rw [hwk]; exact alloc_obj w9 _ _ rfl
          have hB2 : Below w1.heap.size w1 wk := by rw [hwk]; exact HBo.out.alloc HBo.out.size _
          have q0 : wk.cell? ⟨w9.heap.size, 0, none⟩ = some (.int .i64 0) := hR2.at_ hD0
          have qf : wk.frozen? ⟨w9.heap.size, 0, none⟩ = false := hR2.free 0
          have ql := hR2.lt
          have HR2 := Lib.hid hR2
          clear hR2 hwk
          go_upto_region 24 with fail
          have hAm := HA.out
          obtain ⟨w3, hw3⟩ : ∃ w3, w3 = wk.setCell ⟨w9.heap.size, 0, none⟩ (.int .i64 al) := ⟨_, rfl⟩
          rw [← hw3]
          have hI3 : IntsR w3 w3.heap.size (some ⟨w9.heap.size, 0, none⟩) ((List.range D.length).map fun p => (rwt' G D c m 0 p : Int)) := by
            rw [hw3]
            exact (intV_set (G := fun p => (rwt' G D c m 0 p : Int)) HR2.out fun x _ => by simp only [rwt', wtN, Nat.sub_zero]; split <;> simp [hAm]).ints
          have hB3 : Below w1.heap.size w1 w3 := by
            rw [hw3]
            exact hB2.grown (grown_setCell _ _ _) (by have := hB2.size; omega) (fun j hj => by injection hj with hj; rw [← hj]; exact HBo.out.size)
          have HI3 := Lib.hid hI3
          have HAM := Lib.hid hAm
          clear hw3 q0 qf ql hI3 hAm
          go_wp2_with fail
          go_loopw [15, 16] (fun s i wr => ∃ (j : Nat) (A : Option Addr) (cc : Nat), j ≤ m ∧ i = .int .i64 j ∧ s = .slice A D.length cc ∧ Below w1.heap.size w1 wr ∧ Hid (IntsR wr wr.heap.size A ((List.range D.length).map fun p => (rwt' G D c m j p : Int)))) (fun _ i _ => m - (intOf i).toNat)
          case atStart => exact ⟨0, _, _, Nat.zero_le _, rfl, rfl, hB3, HI3⟩
          case round =>
            obtain ⟨j, A, cc, hj, rfl, rfl, hBj, HI⟩ := hrel
            obtain ⟨wo, hwo⟩ : ∃ wo : World, wo = wr := ⟨_, rfl⟩
            rw [← hwo] at hBj HI
            rw [← hwo]
            clear hwo
            obtain ⟨gW, oW, e3, hbW, hcW⟩ := HI.out.plain (by simpa using hD0)
            subst e3
            by_cases hlt : j < m
            · have hcP : c = prtN G D := HP.out.trans (cmn_prt (by omega))
              have hdv : Div G D c := by rw [hcP]; exact div_prt (by rw [← hcP]; exact hcx)
              obtain ⟨Q, hQ⟩ : ∃ Q, Q = c ^ (m - (j + 1)) := ⟨_, rfl⟩
              have hQ2 : c ^ (m - j) = c * Q := by rw [hQ, show m - j = (m - (j + 1)) + 1 by omega, Nat.pow_succ, Nat.mul_comm]
              have hTT : c ^ j * c * Q ≤ 1000000000000000 := by
                rw [Nat.mul_assoc, ← hQ2, ← Nat.pow_add, show j + (m - j) = m by omega, ← HAM.out]; exact hax
              obtain ⟨W, hWq⟩ : ∃ W, W = wtN G D c j := ⟨_, rfl⟩
              have hWt : tot G.length W = c ^ j := by rw [hWq]; exact tot_wt HV.out hdv j
              have HPW := Lib.hid (show ∀ V, Below wo.heap.size wo V → ∀ p, p < D.length → V.cell? ⟨gW, oW + p, none⟩ = some (I (W p * (c * Q) : Nat)) from fun V hV p hp => by
                have h := (hV.cell (p := ⟨gW, oW + p, none⟩) hbW).trans (hcW p (by simpa using hp))
                rw [nth_lt (by simpa using hp)] at h
                simp only [List.getElem_map, List.getElem_range, rwt', ← hWq, hQ2] at h
                exact h)
              have HBE := Lib.hid (fun p (hp : p < G.length) (hs : stay (eOf G) (dOf D) p = false) k (hk : k < nE G p) x (hx : x < G.length) => mvE_bndQ (Q := Q) HV.out hdv hWt hTT hp hs hk x hx)
              have HBP := Lib.hid (fun p (hp : p < G.length) x (hx : x < G.length) => mvP_bndQ (Q := Q) HV.out hdv hWt hTT hp x hx)
              have HNX := Lib.hid (show ∀ x, mvP G D W c D.length x * Q = rwt' G D c m (j + 1) x from fun x => by rw [rwt', wtN, ← hWq, HLD.out, hQ])
              have HDV := Lib.hid hdv
              have HBj := Lib.hid hBj
              clear hcP hdv hQ hQ2 hTT hWq hWt hcW hBj
              go_upto_region 28 with fail
              obtain ⟨w4, hw4⟩ : ∃ w4, w4 = wo.alloc (.cells (rowF (fun _ => Value.int .i64 0) D.length) 3) := ⟨_, rfl⟩
              rw [← hw4]
              have HR4 : Hid (RowAt w4 wo.heap.size 3 (intV (fun x => (mvP G D W c 0 x * Q : Nat))) D.length) := by
                rw [hw4]
                have h0 : RowAt (wo.alloc (.cells (rowF (fun _ => Value.int .i64 0) D.length) 3)) wo.heap.size 3 (fun _ => Value.int .i64 0) D.length := alloc_obj wo _ _ rfl
                exact Lib.hid (h0.congr fun i _ => by simp [intV, mvP])
              have hB4 : Below wo.heap.size wo w4 := by rw [hw4]; exact (Below.refl _ _).alloc (Nat.le_refl _) _
              clear hw4
              go_wp2_with fail
              go_loopw [18] (fun i ws => ∃ p : Nat, p ≤ D.length ∧ i = .int .i64 p ∧ Below wo.heap.size wo ws ∧ Hid (RowAt ws wo.heap.size 3 (intV (fun x => (mvP G D W c p x * Q : Nat))) D.length)) (fun i _ => D.length - (intOf i).toNat)
              case atStart => exact ⟨0, Nat.zero_le _, rfl, hB4, HR4⟩
              case round =>
                obtain ⟨p, hp, rfl, hB, HR⟩ := hrel
                obtain ⟨wp, hwp⟩ : ∃ wp : World, wp = wr := ⟨_, rfl⟩
                rw [← hwp] at hB HR
                rw [← hwp]
                clear hwp
                by_cases hlt : p < D.length
                · have hpG : p < G.length := by have := HLD.out; omega
                  obtain ⟨Ap, cp, hq⟩ := HGC.out p hpG
                  have hB1p := HBj.out.trans (hB.mono HBj.out.size)
                  have hgp := (hq wp hB1p).1
                  obtain ⟨c0, c1, hdk, -⟩ := HC.out wp hB1p
                  have hdp := hdk p hlt
                  have hpw := HPW.out wp hB p hlt
                  have hfw := HFE.out p hpG
                  have hs := HST.out p
                  have hbp := HBP.out p hpG p hpG
                  have hbe := HBE.out p hpG
                  have hdv := HDV.out p hpG
                  have hnl : nE G p = (gAt G p).length := rfl
                  have htg := HTG.out p hpG
                  have HQ := Lib.hid hq
                  obtain ⟨es, hes⟩ : ∃ es, es = gAt G p := ⟨_, rfl⟩
                  rw [← hes] at hgp hfw hs hnl htg HQ
                  rw [hnl] at hbe hdv
                  obtain ⟨n, hn⟩ : ∃ n, n = es.length := ⟨_, rfl⟩
                  rw [← hn] at hgp hfw hs hnl hbe hdv
                  obtain ⟨d, hd⟩ : ∃ d, d = nth D p := ⟨_, rfl⟩
                  rw [← hd] at hdp hs
                  have HBo' := Lib.hid hB
                  have HB1P := Lib.hid hB1p
                  have HNL := Lib.hid hnl
                  have HNE := Lib.hid hn
                  have HTP := Lib.hid htg
                  have r0 : wp.cell? ⟨wo.heap.size, p, none⟩ = some (.int .i64 (mvP G D W c p p * Q : Nat)) := HR.out.at_ hlt
                  have f0 : wp.frozen? ⟨wo.heap.size, p, none⟩ = false := HR.out.free p
                  have s3 := HR.out.lt
                  have sW : gW < wp.heap.size := Nat.lt_of_lt_of_le hbW hB.size
                  have sA : gA < wp.heap.size := Nat.lt_of_lt_of_le hbA hB1p.size
                  have sG : g < wp.heap.size := Nat.lt_of_lt_of_le hgl hB1p.size
                  obtain ⟨v, hvq⟩ : ∃ v, v = W p * (c * Q) := ⟨_, rfl⟩
                  rw [← hvq] at hpw hbp
                  obtain ⟨F0, hF0⟩ : ∃ F0, F0 = mvP G D W c p := ⟨_, rfl⟩
                  have HST' := Lib.hid (show stay (eOf G) (dOf D) p = true → ∀ x, mvP G D W c (p + 1) x * Q = if x = p then F0 p * Q + v else F0 x * Q from fun h x => by
                    rw [mvP_stay h, addN, hF0, hvq]
                    split
                    · rename_i e; subst e; rw [Nat.add_mul, Nat.mul_assoc]
                    · rfl)
                  have HGO := Lib.hid (show stay (eOf G) (dOf D) p = false → mvP G D W c (p + 1) = mvE G p (W p * (c / n)) F0 n from fun h => by rw [mvP_go h, hF0, HNL.out])
                  rw [← hF0] at r0 hbp hbe HR
                  obtain ⟨z, hz'⟩ : ∃ z, z = F0 p * Q := ⟨_, rfl⟩
                  rw [← hz'] at r0 hbp HST'
                  have HZ' := Lib.hid hz'
                  have HVQ := Lib.hid hvq
                  have wv : IntKind.i64.wrap ((z : Int) + (v : Int)) = (z : Int) + (v : Int) := (IntWalk.i64_left _).trans (IntWalk.wrap64_in _ ⟨by omega, by omega⟩)
                  clear hq hdk hnl htg hes hn hd hB hB1p hvq hF0 hz'
                  by_cases hd0 : d = 0
                  · have hst := HST'.out (by rw [hs, hd0]; rfl)
                    have t2 : (d == 0) = true := by simp [hd0]
                    have t2' : decide (d = 0) = true := decide_eq_true hd0
                    have HS1 := Lib.hid hst
                    clear hs hst hbe hdv hd0
                    go_upto_region 33 with fail
                    refine wp_region_cl (by kernel_rfl) (fun L a w' => L.size = 11 ∧ ∃ u114 u115 u116 u117 u118 u119 u120 u121 u122 u123 : Value, a = { tmps := #[grV AP (some ⟨g, o, none⟩) nP cP G.length cE, .slice (some ⟨gA, oA, none⟩) D.length cD, I m, .pointer (some ⟨w.heap.size, 0, none⟩), undef, undef, u6, u7, u8, I 0, I c, I D.length, u12, I al, I m, .slice (some ⟨gW, oW, none⟩) D.length cc, I j, .slice (some ⟨wo.heap.size, 0, none⟩) D.length D.length, I p, I n, u20, undef, undef, undef, .agg #[.slice AP nP cP, .slice (some ⟨g, o, none⟩) G.length cE], .slice (some ⟨gA, oA, none⟩) D.length cD, I 0, I 0, .bool false, undef, I m, .bool true, .bool false, I D.length, .slice (some ⟨gA, oA, none⟩) D.length cD, I D.length, .bool false, u37, u38, u39, u40, u41, u42, u43, u44, u45, u46, u47, u48, u49, u50, u51, u52, u53, u54, u55, u56, u57, u58, u59, u60, u61, u62, u63, u64, u65, u66, I m, I m, .bool false, u70, u71, u72, u73, u74, u75, u76, u77, u78, .slice (some ⟨gA, oA, none⟩) D.length cD, I D.length, .slice (some ⟨w9.heap.size, 0, none⟩) D.length D.length, .slice (some ⟨w9.heap.size, 0, none⟩) D.length D.length, I al, .pointer (some ⟨w9.heap.size, 0, none⟩), I j, I m, .bool true, u88, u89, .slice (some ⟨gA, oA, none⟩) D.length cD, I D.length, .slice (some ⟨wo.heap.size, 0, none⟩) D.length D.length, I p, .slice (some ⟨gA, oA, none⟩) D.length cD, I D.length, .bool true, u97, u98, .pointer (some ⟨w.heap.size, 1, none⟩), .slice (some ⟨g, o, none⟩) G.length cE, I p, .pointer (some ⟨g, o + p, none⟩), .slice Ap n cp, I n, .slice (some ⟨gA, oA, none⟩) D.length cD, I p, .pointer (some ⟨gA, oA + p, none⟩), I d, .bool true, .bool true, undef, undef, .bool true, u114, u115, u116, u117, u118, u119, u120, u121, u122, u123, u124, u125, u126, u127, u128, u129, u130, u131, u132, u133, u134, u135, u136, u137, u138, u139, u140, u141, u142, u143, u144, u145, u146, u147, u148, u149, undef, undef, undef, undef, undef, undef, undef, undef, undef, undef, undef, undef, undef, undef, undef, undef, undef, undef, undef, undef, undef, undef, undef, undef, undef, undef], defers := [] } ∧ (L.getD 10 false = false → Below wp.heap.size wp w') ∧ (L.getD 0 false = true → u114 = .slice (some ⟨wo.heap.size, 0, none⟩) D.length D.length) ∧ (L.getD 1 false = true → u115 = I p) ∧ (L.getD 2 false = true → u116 = .pointer (some ⟨wo.heap.size, p, none⟩)) ∧ (L.getD 3 false = true → u117 = I z) ∧ (L.getD 4 false = true → u118 = .slice (some ⟨gW, oW, none⟩) D.length cc) ∧ (L.getD 5 false = true → u119 = I p) ∧ (L.getD 6 false = true → u120 = .pointer (some ⟨gW, oW + p, none⟩)) ∧ (L.getD 7 false = true → u121 = I v) ∧ (L.getD 8 false = true → u122 = I ((z : Int) + v)) ∧ (L.getD 9 false = true → u123 = .pointer (some ⟨wo.heap.size, p, none⟩)) ∧ (L.getD 10 false = true → (Below wo.heap.size wo w' ∧ Hid (RowAt w' wo.heap.size 3 (intV (fun x => (mvP G D W c (p + 1) x * Q : Nat))) D.length)))) ?_ ?_ ?_
                    · exact ⟨by simp, _, _, _, _, _, _, _, _, _, _, rfl, fun _ => (Below.refl _ _).drew, by simp, by simp, by simp, by simp, by simp, by simp, by simp, by simp, by simp, by simp, by simp⟩
                    · rintro i L a w' hcl ⟨hL, u114, u115, u116, u117, u118, u119, u120, u121, u122, u123, rfl, hbw, h0, h1, h2, h3, h4, h5, h6, h7, h8, h9, h10⟩ hi
                      have hcases : i = 0 ∨ i = 1 ∨ i = 2 ∨ i = 3 ∨ i = 4 ∨ i = 5 ∨ i = 6 ∨ i = 7 ∨ i = 8 ∨ i = 9 ∨ i = 10 := by
                        have : i < 11 := ready_lt hi
                        omega
                      have hni := ready_not' hi (by rw [hL]; exact ready_lt hi)
                      rcases hcases with rfl | rfl | rfl | rfl | rfl | rfl | rfl | rfl | rfl | rfl | rfl
                      · refine wpOp_val (.slice (some ⟨wo.heap.size, 0, none⟩) D.length D.length) rfl (by rfl) (by go_simp) ?_
                        exact ⟨by simpa using hL, _, _, _, _, _, _, _, _, _, _, rfl, fun h' => hbw ((set_other (by decide)).symm.trans h'), fun _ => rfl, (fun h => h1 ((set_other (by decide)).symm.trans h)), (fun h => h2 ((set_other (by decide)).symm.trans h)), (fun h => h3 ((set_other (by decide)).symm.trans h)), (fun h => h4 ((set_other (by decide)).symm.trans h)), (fun h => h5 ((set_other (by decide)).symm.trans h)), (fun h => h6 ((set_other (by decide)).symm.trans h)), (fun h => h7 ((set_other (by decide)).symm.trans h)), (fun h => h8 ((set_other (by decide)).symm.trans h)), (fun h => h9 ((set_other (by decide)).symm.trans h)), (fun h => by have h' := h10 ((set_other (by decide)).symm.trans h); exact h')⟩
                      · refine wpOp_val (I p) rfl (by rfl) (by go_simp) ?_
                        exact ⟨by simpa using hL, _, _, _, _, _, _, _, _, _, _, rfl, fun h' => hbw ((set_other (by decide)).symm.trans h'), (fun h => h0 ((set_other (by decide)).symm.trans h)), fun _ => rfl, (fun h => h2 ((set_other (by decide)).symm.trans h)), (fun h => h3 ((set_other (by decide)).symm.trans h)), (fun h => h4 ((set_other (by decide)).symm.trans h)), (fun h => h5 ((set_other (by decide)).symm.trans h)), (fun h => h6 ((set_other (by decide)).symm.trans h)), (fun h => h7 ((set_other (by decide)).symm.trans h)), (fun h => h8 ((set_other (by decide)).symm.trans h)), (fun h => h9 ((set_other (by decide)).symm.trans h)), (fun h => by have h' := h10 ((set_other (by decide)).symm.trans h); exact h')⟩
                      · obtain rfl := h0 (ready_dep hi 0 (by kernel_rfl))
                        obtain rfl := h1 (ready_dep hi 1 (by kernel_rfl))
                        refine wpOp_val (.pointer (some ⟨wo.heap.size, p, none⟩)) rfl (by rfl) (by go_simp) ?_
                        exact ⟨by simpa using hL, _, _, _, _, _, _, _, _, _, _, rfl, fun h' => hbw ((set_other (by decide)).symm.trans h'), (fun h => h0 ((set_other (by decide)).symm.trans h)), (fun h => h1 ((set_other (by decide)).symm.trans h)), fun _ => rfl, (fun h => h3 ((set_other (by decide)).symm.trans h)), (fun h => h4 ((set_other (by decide)).symm.trans h)), (fun h => h5 ((set_other (by decide)).symm.trans h)), (fun h => h6 ((set_other (by decide)).symm.trans h)), (fun h => h7 ((set_other (by decide)).symm.trans h)), (fun h => h8 ((set_other (by decide)).symm.trans h)), (fun h => h9 ((set_other (by decide)).symm.trans h)), (fun h => by have h' := h10 ((set_other (by decide)).symm.trans h); exact h')⟩
                      · obtain rfl := h2 (ready_dep hi 2 (by kernel_rfl))
                        have hk0 : L.getD 10 false = false := by
                          cases hq : L.getD 10 false with
                          | false => rfl
                          | true => exact absurd (hcl 10 hq 3 (by kernel_rfl)) (by rw [hni]; simp)
                        have hb' := hbw hk0
                        have hc' := bcellS hb'
                        have hsz : wp.heap.size ≤ w'.heap.size := hb'.size
                        have r1 := (hc'.1 _ _ s3).trans r0
                        refine wpOp_val (I z) rfl (by rfl) (by go_simp) ?_
                        exact ⟨by simpa using hL, _, _, _, _, _, _, _, _, _, _, rfl, fun h' => hbw ((set_other (by decide)).symm.trans h'), (fun h => h0 ((set_other (by decide)).symm.trans h)), (fun h => h1 ((set_other (by decide)).symm.trans h)), (fun h => h2 ((set_other (by decide)).symm.trans h)), fun _ => rfl, (fun h => h4 ((set_other (by decide)).symm.trans h)), (fun h => h5 ((set_other (by decide)).symm.trans h)), (fun h => h6 ((set_other (by decide)).symm.trans h)), (fun h => h7 ((set_other (by decide)).symm.trans h)), (fun h => h8 ((set_other (by decide)).symm.trans h)), (fun h => h9 ((set_other (by decide)).symm.trans h)), (fun h => by have h' := h10 ((set_other (by decide)).symm.trans h); exact h')⟩
                      · refine wpOp_val (.slice (some ⟨gW, oW, none⟩) D.length cc) rfl (by rfl) (by go_simp) ?_
                        exact ⟨by simpa using hL, _, _, _, _, _, _, _, _, _, _, rfl, fun h' => hbw ((set_other (by decide)).symm.trans h'), (fun h => h0 ((set_other (by decide)).symm.trans h)), (fun h => h1 ((set_other (by decide)).symm.trans h)), (fun h => h2 ((set_other (by decide)).symm.trans h)), (fun h => h3 ((set_other (by decide)).symm.trans h)), fun _ => rfl, (fun h => h5 ((set_other (by decide)).symm.trans h)), (fun h => h6 ((set_other (by decide)).symm.trans h)), (fun h => h7 ((set_other (by decide)).symm.trans h)), (fun h => h8 ((set_other (by decide)).symm.trans h)), (fun h => h9 ((set_other (by decide)).symm.trans h)), (fun h => by have h' := h10 ((set_other (by decide)).symm.trans h); exact h')⟩
                      · refine wpOp_val (I p) rfl (by rfl) (by go_simp) ?_
                        exact ⟨by simpa using hL, _, _, _, _, _, _, _, _, _, _, rfl, fun h' => hbw ((set_other (by decide)).symm.trans h'), (fun h => h0 ((set_other (by decide)).symm.trans h)), (fun h => h1 ((set_other (by decide)).symm.trans h)), (fun h => h2 ((set_other (by decide)).symm.trans h)), (fun h => h3 ((set_other (by decide)).symm.trans h)), (fun h => h4 ((set_other (by decide)).symm.trans h)), fun _ => rfl, (fun h => h6 ((set_other (by decide)).symm.trans h)), (fun h => h7 ((set_other (by decide)).symm.trans h)), (fun h => h8 ((set_other (by decide)).symm.trans h)), (fun h => h9 ((set_other (by decide)).symm.trans h)), (fun h => by have h' := h10 ((set_other (by decide)).symm.trans h); exact h')⟩
                      · obtain rfl := h4 (ready_dep hi 4 (by kernel_rfl))
                        obtain rfl := h5 (ready_dep hi 5 (by kernel_rfl))
                        refine wpOp_val (.pointer (some ⟨gW, oW + p, none⟩)) rfl (by rfl) (by go_simp) ?_
                        exact ⟨by simpa using hL, _, _, _, _, _, _, _, _, _, _, rfl, fun h' => hbw ((set_other (by decide)).symm.trans h'), (fun h => h0 ((set_other (by decide)).symm.trans h)), (fun h => h1 ((set_other (by decide)).symm.trans h)), (fun h => h2 ((set_other (by decide)).symm.trans h)), (fun h => h3 ((set_other (by decide)).symm.trans h)), (fun h => h4 ((set_other (by decide)).symm.trans h)), (fun h => h5 ((set_other (by decide)).symm.trans h)), fun _ => rfl, (fun h => h7 ((set_other (by decide)).symm.trans h)), (fun h => h8 ((set_other (by decide)).symm.trans h)), (fun h => h9 ((set_other (by decide)).symm.trans h)), (fun h => by have h' := h10 ((set_other (by decide)).symm.trans h); exact h')⟩
                      · obtain rfl := h6 (ready_dep hi 6 (by kernel_rfl))
                        have hk0 : L.getD 10 false = false := by
                          cases hq : L.getD 10 false with
                          | false => rfl
                          | true => exact absurd (hcl 10 hq 7 (by kernel_rfl)) (by rw [hni]; simp)
                        have hb' := hbw hk0
                        have hc' := bcellS hb'
                        have hsz : wp.heap.size ≤ w'.heap.size := hb'.size
                        have r1 := (hc'.1 _ _ sW).trans hpw
                        refine wpOp_val (I v) rfl (by rfl) (by go_simp) ?_
                        exact ⟨by simpa using hL, _, _, _, _, _, _, _, _, _, _, rfl, fun h' => hbw ((set_other (by decide)).symm.trans h'), (fun h => h0 ((set_other (by decide)).symm.trans h)), (fun h => h1 ((set_other (by decide)).symm.trans h)), (fun h => h2 ((set_other (by decide)).symm.trans h)), (fun h => h3 ((set_other (by decide)).symm.trans h)), (fun h => h4 ((set_other (by decide)).symm.trans h)), (fun h => h5 ((set_other (by decide)).symm.trans h)), (fun h => h6 ((set_other (by decide)).symm.trans h)), fun _ => rfl, (fun h => h8 ((set_other (by decide)).symm.trans h)), (fun h => h9 ((set_other (by decide)).symm.trans h)), (fun h => by have h' := h10 ((set_other (by decide)).symm.trans h); exact h')⟩
                      · obtain rfl := h3 (ready_dep hi 3 (by kernel_rfl))
                        obtain rfl := h7 (ready_dep hi 7 (by kernel_rfl))
                        refine wpOp_val (I ((z : Int) + v)) rfl (by rfl) (by go_simp) ?_
                        exact ⟨by simpa using hL, _, _, _, _, _, _, _, _, _, _, rfl, fun h' => hbw ((set_other (by decide)).symm.trans h'), (fun h => h0 ((set_other (by decide)).symm.trans h)), (fun h => h1 ((set_other (by decide)).symm.trans h)), (fun h => h2 ((set_other (by decide)).symm.trans h)), (fun h => h3 ((set_other (by decide)).symm.trans h)), (fun h => h4 ((set_other (by decide)).symm.trans h)), (fun h => h5 ((set_other (by decide)).symm.trans h)), (fun h => h6 ((set_other (by decide)).symm.trans h)), (fun h => h7 ((set_other (by decide)).symm.trans h)), fun _ => rfl, (fun h => h9 ((set_other (by decide)).symm.trans h)), (fun h => by have h' := h10 ((set_other (by decide)).symm.trans h); exact h')⟩
                      · obtain rfl := h0 (ready_dep hi 0 (by kernel_rfl))
                        obtain rfl := h1 (ready_dep hi 1 (by kernel_rfl))
                        refine wpOp_val (.pointer (some ⟨wo.heap.size, p, none⟩)) rfl (by rfl) (by go_simp) ?_
                        exact ⟨by simpa using hL, _, _, _, _, _, _, _, _, _, _, rfl, fun h' => hbw ((set_other (by decide)).symm.trans h'), (fun h => h0 ((set_other (by decide)).symm.trans h)), (fun h => h1 ((set_other (by decide)).symm.trans h)), (fun h => h2 ((set_other (by decide)).symm.trans h)), (fun h => h3 ((set_other (by decide)).symm.trans h)), (fun h => h4 ((set_other (by decide)).symm.trans h)), (fun h => h5 ((set_other (by decide)).symm.trans h)), (fun h => h6 ((set_other (by decide)).symm.trans h)), (fun h => h7 ((set_other (by decide)).symm.trans h)), (fun h => h8 ((set_other (by decide)).symm.trans h)), fun _ => rfl, (fun h => by have h' := h10 ((set_other (by decide)).symm.trans h); exact h')⟩
                      · obtain rfl := h8 (ready_dep hi 8 (by kernel_rfl))
                        obtain rfl := h9 (ready_dep hi 9 (by kernel_rfl))
                        have hk0 : L.getD 10 false = false := hni
                        have hb' := hbw hk0
                        have hc' := bcellS hb'
                        have hsz : wp.heap.size ≤ w'.heap.size := hb'.size
                        have rV := HR.out.below hb' HR.out.lt
                        have fV := rV.free p
                        have cV := (hc'.1 _ _ s3).trans r0
                        refine wpOp_st (w'.setCell ⟨wo.heap.size, p, none⟩ (I ((z : Int) + v))) rfl (by rfl) (by go_simp) ?_
                        exact ⟨by simpa using hL, _, _, _, _, _, _, _, _, _, _, rfl, (fun h' => by rw [set_same (by omega)] at h'; cases h'), (fun h => h0 ((set_other (by decide)).symm.trans h)), (fun h => h1 ((set_other (by decide)).symm.trans h)), (fun h => h2 ((set_other (by decide)).symm.trans h)), (fun h => h3 ((set_other (by decide)).symm.trans h)), (fun h => h4 ((set_other (by decide)).symm.trans h)), (fun h => h5 ((set_other (by decide)).symm.trans h)), (fun h => h6 ((set_other (by decide)).symm.trans h)), (fun h => h7 ((set_other (by decide)).symm.trans h)), (fun h => h8 ((set_other (by decide)).symm.trans h)), (fun h => h9 ((set_other (by decide)).symm.trans h)), fun _ => ⟨(HBo'.out.trans (hb'.mono HBo'.out.size)).grown (grown_setCell _ _ _) (Nat.le_trans HBo'.out.size hb'.size) (fun j hj => by injection hj with hj; rw [← hj]; exact Nat.le_refl _), Lib.hid (intV_set rV fun i _ => by
        rw [HS1.out i]
        by_cases e : i = p
        · rw [if_pos e, if_pos e]; simp
        · rw [if_neg e, if_neg e])⟩⟩
                    · rintro L a w' ⟨hL, u114, u115, u116, u117, u118, u119, u120, u121, u122, u123, rfl, hbw, h0, h1, h2, h3, h4, h5, h6, h7, h8, h9, h10⟩ hr
                      have hall := all_listed hL (by kernel_rfl) hr
                      obtain rfl := h0 (hall 0 (by decide))
                      obtain rfl := h1 (hall 1 (by decide))
                      obtain rfl := h2 (hall 2 (by decide))
                      obtain rfl := h3 (hall 3 (by decide))
                      obtain rfl := h4 (hall 4 (by decide))
                      obtain rfl := h5 (hall 5 (by decide))
                      obtain rfl := h6 (hall 6 (by decide))
                      obtain rfl := h7 (hall 7 (by decide))
                      obtain rfl := h8 (hall 8 (by decide))
                      obtain rfl := h9 (hall 9 (by decide))
                      have g10 := h10 (hall 10 (by decide))
                      clear hall hr hL hbw h0 h1 h2 h3 h4 h5 h6 h7 h8 h9 h10
                      try dsimp only
                      obtain ⟨hB5, HR5⟩ := g10
                      clear hdp hpw hgp r0 f0 wv c0 c1
                      go_wp2_with fail
                      go_roundw
                      case rel => exact ⟨_, _, _, _, _, _, _, _, _, _, _, _, _, _, _, _, _, _, _, _, _, _, _, _, _, _, _, _, _, _, _, _, _, _, _, _, _, _, _, _, _, _, _, _, _, _, _, _, _, _, _, _, _, _, _, _, _, _, _, ⟨p + 1, by omega, by go_num, hB5, HR5⟩, rfl⟩
                      case measure => simp [intOf] <;> omega
                  · have t2 : (d == 0) = false := by simpa using hd0
                    have t2' : decide (d = 0) = false := decide_eq_false hd0
                    by_cases hn0 : n = 0
                    · have hst := HST'.out (by rw [hs, hn0]; simp)
                      have t3 : ((n : Int) == 0) = true := by simp [hn0]
                      have t3' : decide ((n : Int) = 0) = true := decide_eq_true (by omega)
                      have t3'' : decide (n = 0) = true := decide_eq_true hn0
                      have HS1 := Lib.hid hst
                      clear hs hst hbe hdv hd0 hn0
                      go_upto_region 33 with fail
                      refine wp_region_cl (by kernel_rfl) (fun L a w' => L.size = 11 ∧ ∃ u114 u115 u116 u117 u118 u119 u120 u121 u122 u123 : Value, a = { tmps := #[grV AP (some ⟨g, o, none⟩) nP cP G.length cE, .slice (some ⟨gA, oA, none⟩) D.length cD, I m, .pointer (some ⟨w.heap.size, 0, none⟩), undef, undef, u6, u7, u8, I 0, I c, I D.length, u12, I al, I m, .slice (some ⟨gW, oW, none⟩) D.length cc, I j, .slice (some ⟨wo.heap.size, 0, none⟩) D.length D.length, I p, I n, u20, undef, undef, undef, .agg #[.slice AP nP cP, .slice (some ⟨g, o, none⟩) G.length cE], .slice (some ⟨gA, oA, none⟩) D.length cD, I 0, I 0, .bool false, undef, I m, .bool true, .bool false, I D.length, .slice (some ⟨gA, oA, none⟩) D.length cD, I D.length, .bool false, u37, u38, u39, u40, u41, u42, u43, u44, u45, u46, u47, u48, u49, u50, u51, u52, u53, u54, u55, u56, u57, u58, u59, u60, u61, u62, u63, u64, u65, u66, I m, I m, .bool false, u70, u71, u72, u73, u74, u75, u76, u77, u78, .slice (some ⟨gA, oA, none⟩) D.length cD, I D.length, .slice (some ⟨w9.heap.size, 0, none⟩) D.length D.length, .slice (some ⟨w9.heap.size, 0, none⟩) D.length D.length, I al, .pointer (some ⟨w9.heap.size, 0, none⟩), I j, I m, .bool true, u88, u89, .slice (some ⟨gA, oA, none⟩) D.length cD, I D.length, .slice (some ⟨wo.heap.size, 0, none⟩) D.length D.length, I p, .slice (some ⟨gA, oA, none⟩) D.length cD, I D.length, .bool true, u97, u98, .pointer (some ⟨w.heap.size, 1, none⟩), .slice (some ⟨g, o, none⟩) G.length cE, I p, .pointer (some ⟨g, o + p, none⟩), .slice Ap n cp, I n, .slice (some ⟨gA, oA, none⟩) D.length cD, I p, .pointer (some ⟨gA, oA + p, none⟩), I d, .bool false, .bool false, I n, .bool true, .bool true, u114, u115, u116, u117, u118, u119, u120, u121, u122, u123, u124, u125, u126, u127, u128, u129, u130, u131, u132, u133, u134, u135, u136, u137, u138, u139, u140, u141, u142, u143, u144, u145, u146, u147, u148, u149, undef, undef, undef, undef, undef, undef, undef, undef, undef, undef, undef, undef, undef, undef, undef, undef, undef, undef, undef, undef, undef, undef, undef, undef, undef, undef], defers := [] } ∧ (L.getD 10 false = false → Below wp.heap.size wp w') ∧ (L.getD 0 false = true → u114 = .slice (some ⟨wo.heap.size, 0, none⟩) D.length D.length) ∧ (L.getD 1 false = true → u115 = I p) ∧ (L.getD 2 false = true → u116 = .pointer (some ⟨wo.heap.size, p, none⟩)) ∧ (L.getD 3 false = true → u117 = I z) ∧ (L.getD 4 false = true → u118 = .slice (some ⟨gW, oW, none⟩) D.length cc) ∧ (L.getD 5 false = true → u119 = I p) ∧ (L.getD 6 false = true → u120 = .pointer (some ⟨gW, oW + p, none⟩)) ∧ (L.getD 7 false = true → u121 = I v) ∧ (L.getD 8 false = true → u122 = I ((z : Int) + v)) ∧ (L.getD 9 false = true → u123 = .pointer (some ⟨wo.heap.size, p, none⟩)) ∧ (L.getD 10 false = true → (Below wo.heap.size wo w' ∧ Hid (RowAt w' wo.heap.size 3 (intV (fun x => (mvP G D W c (p + 1) x * Q : Nat))) D.length)))) ?_ ?_ ?_
                      · exact ⟨by simp, _, _, _, _, _, _, _, _, _, _, rfl, fun _ => (Below.refl _ _).drew, by simp, by simp, by simp, by simp, by simp, by simp, by simp, by simp, by simp, by simp, by simp⟩
                      · rintro i L a w' hcl ⟨hL, u114, u115, u116, u117, u118, u119, u120, u121, u122, u123, rfl, hbw, h0, h1, h2, h3, h4, h5, h6, h7, h8, h9, h10⟩ hi
                        have hcases : i = 0 ∨ i = 1 ∨ i = 2 ∨ i = 3 ∨ i = 4 ∨ i = 5 ∨ i = 6 ∨ i = 7 ∨ i = 8 ∨ i = 9 ∨ i = 10 := by
                          have : i < 11 := ready_lt hi
                          omega
                        have hni := ready_not' hi (by rw [hL]; exact ready_lt hi)
                        rcases hcases with rfl | rfl | rfl | rfl | rfl | rfl | rfl | rfl | rfl | rfl | rfl
                        · refine wpOp_val (.slice (some ⟨wo.heap.size, 0, none⟩) D.length D.length) rfl (by rfl) (by go_simp) ?_
                          exact ⟨by simpa using hL, _, _, _, _, _, _, _, _, _, _, rfl, fun h' => hbw ((set_other (by decide)).symm.trans h'), fun _ => rfl, (fun h => h1 ((set_other (by decide)).symm.trans h)), (fun h => h2 ((set_other (by decide)).symm.trans h)), (fun h => h3 ((set_other (by decide)).symm.trans h)), (fun h => h4 ((set_other (by decide)).symm.trans h)), (fun h => h5 ((set_other (by decide)).symm.trans h)), (fun h => h6 ((set_other (by decide)).symm.trans h)), (fun h => h7 ((set_other (by decide)).symm.trans h)), (fun h => h8 ((set_other (by decide)).symm.trans h)), (fun h => h9 ((set_other (by decide)).symm.trans h)), (fun h => by have h' := h10 ((set_other (by decide)).symm.trans h); exact h')⟩
                        · refine wpOp_val (I p) rfl (by rfl) (by go_simp) ?_
                          exact ⟨by simpa using hL, _, _, _, _, _, _, _, _, _, _, rfl, fun h' => hbw ((set_other (by decide)).symm.trans h'), (fun h => h0 ((set_other (by decide)).symm.trans h)), fun _ => rfl, (fun h => h2 ((set_other (by decide)).symm.trans h)), (fun h => h3 ((set_other (by decide)).symm.trans h)), (fun h => h4 ((set_other (by decide)).symm.trans h)), (fun h => h5 ((set_other (by decide)).symm.trans h)), (fun h => h6 ((set_other (by decide)).symm.trans h)), (fun h => h7 ((set_other (by decide)).symm.trans h)), (fun h => h8 ((set_other (by decide)).symm.trans h)), (fun h => h9 ((set_other (by decide)).symm.trans h)), (fun h => by have h' := h10 ((set_other (by decide)).symm.trans h); exact h')⟩
                        · obtain rfl := h0 (ready_dep hi 0 (by kernel_rfl))
                          obtain rfl := h1 (ready_dep hi 1 (by kernel_rfl))
                          refine wpOp_val (.pointer (some ⟨wo.heap.size, p, none⟩)) rfl (by rfl) (by go_simp) ?_
                          exact ⟨by simpa using hL, _, _, _, _, _, _, _, _, _, _, rfl, fun h' => hbw ((set_other (by decide)).symm.trans h'), (fun h => h0 ((set_other (by decide)).symm.trans h)), (fun h => h1 ((set_other (by decide)).symm.trans h)), fun _ => rfl, (fun h => h3 ((set_other (by decide)).symm.trans h)), (fun h => h4 ((set_other (by decide)).symm.trans h)), (fun h => h5 ((set_other (by decide)).symm.trans h)), (fun h => h6 ((set_other (by decide)).symm.trans h)), (fun h => h7 ((set_other (by decide)).symm.trans h)), (fun h => h8 ((set_other (by decide)).symm.trans h)), (fun h => h9 ((set_other (by decide)).symm.trans h)), (fun h => by have h' := h10 ((set_other (by decide)).symm.trans h); exact h')⟩
                        · obtain rfl := h2 (ready_dep hi 2 (by kernel_rfl))
                          have hk0 : L.getD 10 false = false := by
                            cases hq : L.getD 10 false with
                            | false => rfl
                            | true => exact absurd (hcl 10 hq 3 (by kernel_rfl)) (by rw [hni]; simp)
                          have hb' := hbw hk0
                          have hc' := bcellS hb'
                          have hsz : wp.heap.size ≤ w'.heap.size := hb'.size
                          have r1 := (hc'.1 _ _ s3).trans r0
                          refine wpOp_val (I z) rfl (by rfl) (by go_simp) ?_
                          exact ⟨by simpa using hL, _, _, _, _, _, _, _, _, _, _, rfl, fun h' => hbw ((set_other (by decide)).symm.trans h'), (fun h => h0 ((set_other (by decide)).symm.trans h)), (fun h => h1 ((set_other (by decide)).symm.trans h)), (fun h => h2 ((set_other (by decide)).symm.trans h)), fun _ => rfl, (fun h => h4 ((set_other (by decide)).symm.trans h)), (fun h => h5 ((set_other (by decide)).symm.trans h)), (fun h => h6 ((set_other (by decide)).symm.trans h)), (fun h => h7 ((set_other (by decide)).symm.trans h)), (fun h => h8 ((set_other (by decide)).symm.trans h)), (fun h => h9 ((set_other (by decide)).symm.trans h)), (fun h => by have h' := h10 ((set_other (by decide)).symm.trans h); exact h')⟩
                        · refine wpOp_val (.slice (some ⟨gW, oW, none⟩) D.length cc) rfl (by rfl) (by go_simp) ?_
                          exact ⟨by simpa using hL, _, _, _, _, _, _, _, _, _, _, rfl, fun h' => hbw ((set_other (by decide)).symm.trans h'), (fun h => h0 ((set_other (by decide)).symm.trans h)), (fun h => h1 ((set_other (by decide)).symm.trans h)), (fun h => h2 ((set_other (by decide)).symm.trans h)), (fun h => h3 ((set_other (by decide)).symm.trans h)), fun _ => rfl, (fun h => h5 ((set_other (by decide)).symm.trans h)), (fun h => h6 ((set_other (by decide)).symm.trans h)), (fun h => h7 ((set_other (by decide)).symm.trans h)), (fun h => h8 ((set_other (by decide)).symm.trans h)), (fun h => h9 ((set_other (by decide)).symm.trans h)), (fun h => by have h' := h10 ((set_other (by decide)).symm.trans h); exact h')⟩
                        · refine wpOp_val (I p) rfl (by rfl) (by go_simp) ?_
                          exact ⟨by simpa using hL, _, _, _, _, _, _, _, _, _, _, rfl, fun h' => hbw ((set_other (by decide)).symm.trans h'), (fun h => h0 ((set_other (by decide)).symm.trans h)), (fun h => h1 ((set_other (by decide)).symm.trans h)), (fun h => h2 ((set_other (by decide)).symm.trans h)), (fun h => h3 ((set_other (by decide)).symm.trans h)), (fun h => h4 ((set_other (by decide)).symm.trans h)), fun _ => rfl, (fun h => h6 ((set_other (by decide)).symm.trans h)), (fun h => h7 ((set_other (by decide)).symm.trans h)), (fun h => h8 ((set_other (by decide)).symm.trans h)), (fun h => h9 ((set_other (by decide)).symm.trans h)), (fun h => by have h' := h10 ((set_other (by decide)).symm.trans h); exact h')⟩
                        · obtain rfl := h4 (ready_dep hi 4 (by kernel_rfl))
                          obtain rfl := h5 (ready_dep hi 5 (by kernel_rfl))
                          refine wpOp_val (.pointer (some ⟨gW, oW + p, none⟩)) rfl (by rfl) (by go_simp) ?_
                          exact ⟨by simpa using hL, _, _, _, _, _, _, _, _, _, _, rfl, fun h' => hbw ((set_other (by decide)).symm.trans h'), (fun h => h0 ((set_other (by decide)).symm.trans h)), (fun h => h1 ((set_other (by decide)).symm.trans h)), (fun h => h2 ((set_other (by decide)).symm.trans h)), (fun h => h3 ((set_other (by decide)).symm.trans h)), (fun h => h4 ((set_other (by decide)).symm.trans h)), (fun h => h5 ((set_other (by decide)).symm.trans h)), fun _ => rfl, (fun h => h7 ((set_other (by decide)).symm.trans h)), (fun h => h8 ((set_other (by decide)).symm.trans h)), (fun h => h9 ((set_other (by decide)).symm.trans h)), (fun h => by have h' := h10 ((set_other (by decide)).symm.trans h); exact h')⟩
                        · obtain rfl := h6 (ready_dep hi 6 (by kernel_rfl))
                          have hk0 : L.getD 10 false = false := by
                            cases hq : L.getD 10 false with
                            | false => rfl
                            | true => exact absurd (hcl 10 hq 7 (by kernel_rfl)) (by rw [hni]; simp)
                          have hb' := hbw hk0
                          have hc' := bcellS hb'
                          have hsz : wp.heap.size ≤ w'.heap.size := hb'.size
                          have r1 := (hc'.1 _ _ sW).trans hpw
                          refine wpOp_val (I v) rfl (by rfl) (by go_simp) ?_
                          exact ⟨by simpa using hL, _, _, _, _, _, _, _, _, _, _, rfl, fun h' => hbw ((set_other (by decide)).symm.trans h'), (fun h => h0 ((set_other (by decide)).symm.trans h)), (fun h => h1 ((set_other (by decide)).symm.trans h)), (fun h => h2 ((set_other (by decide)).symm.trans h)), (fun h => h3 ((set_other (by decide)).symm.trans h)), (fun h => h4 ((set_other (by decide)).symm.trans h)), (fun h => h5 ((set_other (by decide)).symm.trans h)), (fun h => h6 ((set_other (by decide)).symm.trans h)), fun _ => rfl, (fun h => h8 ((set_other (by decide)).symm.trans h)), (fun h => h9 ((set_other (by decide)).symm.trans h)), (fun h => by have h' := h10 ((set_other (by decide)).symm.trans h); exact h')⟩
                        · obtain rfl := h3 (ready_dep hi 3 (by kernel_rfl))
                          obtain rfl := h7 (ready_dep hi 7 (by kernel_rfl))
                          refine wpOp_val (I ((z : Int) + v)) rfl (by rfl) (by go_simp) ?_
                          exact ⟨by simpa using hL, _, _, _, _, _, _, _, _, _, _, rfl, fun h' => hbw ((set_other (by decide)).symm.trans h'), (fun h => h0 ((set_other (by decide)).symm.trans h)), (fun h => h1 ((set_other (by decide)).symm.trans h)), (fun h => h2 ((set_other (by decide)).symm.trans h)), (fun h => h3 ((set_other (by decide)).symm.trans h)), (fun h => h4 ((set_other (by decide)).symm.trans h)), (fun h => h5 ((set_other (by decide)).symm.trans h)), (fun h => h6 ((set_other (by decide)).symm.trans h)), (fun h => h7 ((set_other (by decide)).symm.trans h)), fun _ => rfl, (fun h => h9 ((set_other (by decide)).symm.trans h)), (fun h => by have h' := h10 ((set_other (by decide)).symm.trans h); exact h')⟩
                        · obtain rfl := h0 (ready_dep hi 0 (by kernel_rfl))
                          obtain rfl := h1 (ready_dep hi 1 (by kernel_rfl))
                          refine wpOp_val (.pointer (some ⟨wo.heap.size, p, none⟩)) rfl (by rfl) (by go_simp) ?_
                          exact ⟨by simpa using hL, _, _, _, _, _, _, _, _, _, _, rfl, fun h' => hbw ((set_other (by decide)).symm.trans h'), (fun h => h0 ((set_other (by decide)).symm.trans h)), (fun h => h1 ((set_other (by decide)).symm.trans h)), (fun h => h2 ((set_other (by decide)).symm.trans h)), (fun h => h3 ((set_other (by decide)).symm.trans h)), (fun h => h4 ((set_other (by decide)).symm.trans h)), (fun h => h5 ((set_other (by decide)).symm.trans h)), (fun h => h6 ((set_other (by decide)).symm.trans h)), (fun h => h7 ((set_other (by decide)).symm.trans h)), (fun h => h8 ((set_other (by decide)).symm.trans h)), fun _ => rfl, (fun h => by have h' := h10 ((set_other (by decide)).symm.trans h); exact h')⟩
                        · obtain rfl := h8 (ready_dep hi 8 (by kernel_rfl))
                          obtain rfl := h9 (ready_dep hi 9 (by kernel_rfl))
                          have hk0 : L.getD 10 false = false := hni
                          have hb' := hbw hk0
                          have hc' := bcellS hb'
                          have hsz : wp.heap.size ≤ w'.heap.size := hb'.size
                          have rV := HR.out.below hb' HR.out.lt
                          have fV := rV.free p
                          have cV := (hc'.1 _ _ s3).trans r0
                          refine wpOp_st (w'.setCell ⟨wo.heap.size, p, none⟩ (I ((z : Int) + v))) rfl (by rfl) (by go_simp) ?_
                          exact ⟨by simpa using hL, _, _, _, _, _, _, _, _, _, _, rfl, (fun h' => by rw [set_same (by omega)] at h'; cases h'), (fun h => h0 ((set_other (by decide)).symm.trans h)), (fun h => h1 ((set_other (by decide)).symm.trans h)), (fun h => h2 ((set_other (by decide)).symm.trans h)), (fun h => h3 ((set_other (by decide)).symm.trans h)), (fun h => h4 ((set_other (by decide)).symm.trans h)), (fun h => h5 ((set_other (by decide)).symm.trans h)), (fun h => h6 ((set_other (by decide)).symm.trans h)), (fun h => h7 ((set_other (by decide)).symm.trans h)), (fun h => h8 ((set_other (by decide)).symm.trans h)), (fun h => h9 ((set_other (by decide)).symm.trans h)), fun _ => ⟨(HBo'.out.trans (hb'.mono HBo'.out.size)).grown (grown_setCell _ _ _) (Nat.le_trans HBo'.out.size hb'.size) (fun j hj => by injection hj with hj; rw [← hj]; exact Nat.le_refl _), Lib.hid (intV_set rV fun i _ => by
        rw [HS1.out i]
        by_cases e : i = p
        · rw [if_pos e, if_pos e]; simp
        · rw [if_neg e, if_neg e])⟩⟩
                      · rintro L a w' ⟨hL, u114, u115, u116, u117, u118, u119, u120, u121, u122, u123, rfl, hbw, h0, h1, h2, h3, h4, h5, h6, h7, h8, h9, h10⟩ hr
                        have hall := all_listed hL (by kernel_rfl) hr
                        obtain rfl := h0 (hall 0 (by decide))
                        obtain rfl := h1 (hall 1 (by decide))
                        obtain rfl := h2 (hall 2 (by decide))
                        obtain rfl := h3 (hall 3 (by decide))
                        obtain rfl := h4 (hall 4 (by decide))
                        obtain rfl := h5 (hall 5 (by decide))
                        obtain rfl := h6 (hall 6 (by decide))
                        obtain rfl := h7 (hall 7 (by decide))
                        obtain rfl := h8 (hall 8 (by decide))
                        obtain rfl := h9 (hall 9 (by decide))
                        have g10 := h10 (hall 10 (by decide))
                        clear hall hr hL hbw h0 h1 h2 h3 h4 h5 h6 h7 h8 h9 h10
                        try dsimp only
                        obtain ⟨hB5, HR5⟩ := g10
                        clear hdp hpw hgp r0 f0 wv c0 c1
                        go_wp2_with fail
                        go_roundw
                        case rel => exact ⟨_, _, _, _, _, _, _, _, _, _, _, _, _, _, _, _, _, _, _, _, _, _, _, _, _, _, _, _, _, _, _, _, _, _, _, _, _, _, _, _, _, _, _, _, _, _, _, _, _, _, _, _, _, _, _, _, _, _, _, ⟨p + 1, by omega, by go_num, hB5, HR5⟩, rfl⟩
                        case measure => simp [intOf] <;> omega
                    · have t3 : ((n : Int) == 0) = false := beq_eq_false_iff_ne.2 (by omega)
                      have t3' : decide ((n : Int) = 0) = false := decide_eq_false (by omega)
                      have t3'' : decide (n = 0) = false := decide_eq_false hn0
                      have hsf : stay (eOf G) (dOf D) p = false := by rw [hs]; simp [hd0, hn0]
                      have hgo := HGO.out hsf
                      have hbe := hbe hsf
                      have hdv := hdv hsf
                      have hsh : v / n = W p * (c / n) * Q := by rw [HVQ.out]; exact share hdv (by omega)
                      obtain ⟨y, hy⟩ : ∃ y, y = W p * (c / n) := ⟨_, rfl⟩
                      rw [← hy] at hgo hbe hsh
                      have HGO' := Lib.hid hgo
                      have HBB := Lib.hid hbe
                      have q1 : (v : Int).tdiv (n : Int) = ((v / n : Nat) : Int) := Int.ofNat_tdiv _ _
                      rw [hsh] at q1
                      have hyb : y * Q ≤ 1000000000000000 := Nat.le_trans (Nat.le_add_left _ _) (hbe 0 (by omega) p hpG)
                      obtain ⟨yq, hyq⟩ : ∃ yq, yq = y * Q := ⟨_, rfl⟩
                      rw [← hyq] at q1 hyb HBB
                      have HYQ := Lib.hid hyq
                      have n0 : ¬ n = 0 := hn0
                      have n1 : ¬ (n : Int) = 0 := by omega
                      have wq : IntKind.i64.wrap (yq : Int) = (yq : Int) := (IntWalk.i64_left _).trans (IntWalk.wrap64_in _ ⟨by omega, by omega⟩)
                      clear hs hsf hgo hbe hdv hsh hy hyq hd0 hn0 r0 f0 wv
                      go_upto_region 34 with fail
                      go_wp2_with fail
                      go_loopw [20] (fun i ws => ∃ k : Nat, k ≤ n ∧ i = .int .i64 k ∧ Below wo.heap.size wo ws ∧ Hid (RowAt ws wo.heap.size 3 (intV (fun x => (mvE G p y F0 k x * Q : Nat))) D.length)) (fun i _ => n - (intOf i).toNat)
                      case atStart => exact ⟨0, Nat.zero_le _, rfl, HBo'.out, HR⟩
                      case round =>
                        obtain ⟨k, hk, rfl, hB', HR'⟩ := hrel
                        obtain ⟨wi', hwi⟩ : ∃ wi' : World, wi' = wr := ⟨_, rfl⟩
                        rw [← hwi] at hB' HR'
                        rw [← hwi]
                        clear hwi
                        by_cases hkl : k < n
                        · have hkl' : k < es.length := by rw [← HNE.out]; exact hkl
                          have hB1k := HBj.out.trans (hB'.mono HBj.out.size)
                          obtain ⟨dG, hE⟩ := HQ.out wi' hB1k
                          rw [← HNE.out] at dG
                          obtain ⟨b, qo, rfl, hbl, -, -, -, e3⟩ := hE.at_ hkl'
                          obtain ⟨ht1, ht2⟩ := HTP.out k hkl'
                          obtain ⟨t, ht⟩ : ∃ t, t = tgt (eOf G) p k := ⟨_, rfl⟩
                          rw [← ht] at ht1 ht2
                          rw [ht1] at e3
                          have ht3 : t < D.length := by have := HLD.out; omega
                          obtain ⟨d0, d1, -, -⟩ := HC.out wi' hB1k
                          have dW := HPW.out wi' hB' p hlt
                          rw [← HVQ.out] at dW
                          have hbc := HBB.out k hkl t ht2
                          obtain ⟨cu, hcu⟩ : ∃ cu, cu = mvE G p y F0 k t * Q := ⟨_, rfl⟩
                          rw [← hcu] at hbc
                          have r0 : wi'.cell? ⟨wo.heap.size, t, none⟩ = some (.int .i64 (cu : Int)) := (HR'.out.at_ ht3).trans (by simp only [intV]; rw [hcu])
                          have s4 := HR'.out.lt
                          have f0 := HR'.out.free t
                          have s5 : w.heap.size < wi'.heap.size := by have := hB1k.size; omega
                          have s6 : g < wi'.heap.size := Nat.lt_of_lt_of_le hgl hB1k.size
                          have s7 : gW < wi'.heap.size := Nat.lt_of_lt_of_le hbW hB'.size
                          have wc : IntKind.i64.wrap ((cu : Int) + (yq : Int)) = (cu : Int) + (yq : Int) := (IntWalk.i64_left _).trans (IntWalk.wrap64_in _ ⟨by omega, by omega⟩)
                          have HB4' := Lib.hid hB'
                          have HT := Lib.hid ht
                          have HCC := Lib.hid hcu
                          clear hcu ht hB' hB1k hE ht1
                          go_upto_region 37 with fail
                          refine wp_region_cl (by kernel_rfl) (fun L a w' => L.size = 21 ∧ ∃ u129 u130 u131 u132 u133 u134 u135 u136 u137 u138 u139 u140 u141 u142 u143 u144 u145 u146 u147 u148 : Value, a = { tmps := #[grV AP (some ⟨g, o, none⟩) nP cP G.length cE, .slice (some ⟨gA, oA, none⟩) D.length cD, I m, .pointer (some ⟨w.heap.size, 0, none⟩), undef, undef, u6, u7, u8, I 0, I c, I D.length, u12, I al, I m, .slice (some ⟨gW, oW, none⟩) D.length cc, I j, .slice (some ⟨wo.heap.size, 0, none⟩) D.length D.length, I p, I n, I k, undef, undef, undef, .agg #[.slice AP nP cP, .slice (some ⟨g, o, none⟩) G.length cE], .slice (some ⟨gA, oA, none⟩) D.length cD, I 0, I 0, .bool false, undef, I m, .bool true, .bool false, I D.length, .slice (some ⟨gA, oA, none⟩) D.length cD, I D.length, .bool false, u37, u38, u39, u40, u41, u42, u43, u44, u45, u46, u47, u48, u49, u50, u51, u52, u53, u54, u55, u56, u57, u58, u59, u60, u61, u62, u63, u64, u65, u66, I m, I m, .bool false, u70, u71, u72, u73, u74, u75, u76, u77, u78, .slice (some ⟨gA, oA, none⟩) D.length cD, I D.length, .slice (some ⟨w9.heap.size, 0, none⟩) D.length D.length, .slice (some ⟨w9.heap.size, 0, none⟩) D.length D.length, I al, .pointer (some ⟨w9.heap.size, 0, none⟩), I j, I m, .bool true, u88, u89, .slice (some ⟨gA, oA, none⟩) D.length cD, I D.length, .slice (some ⟨wo.heap.size, 0, none⟩) D.length D.length, I p, .slice (some ⟨gA, oA, none⟩) D.length cD, I D.length, .bool true, u97, u98, .pointer (some ⟨w.heap.size, 1, none⟩), .slice (some ⟨g, o, none⟩) G.length cE, I p, .pointer (some ⟨g, o + p, none⟩), .slice (some ⟨b, qo, none⟩) n cp, I n, .slice (some ⟨gA, oA, none⟩) D.length cD, I p, .pointer (some ⟨gA, oA + p, none⟩), I d, .bool false, .bool false, I n, .bool false, .bool false, u114, u115, u116, u117, u118, u119, u120, u121, u122, u123, I k, I n, .bool true, u127, u128, u129, u130, u131, u132, u133, u134, u135, u136, u137, u138, u139, u140, u141, u142, u143, u144, u145, u146, u147, u148, u149, undef, undef, undef, undef, undef, undef, undef, undef, undef, undef, undef, undef, undef, undef, undef, undef, undef, undef, undef, undef, undef, undef, undef, undef, undef, undef], defers := [] } ∧ (L.getD 20 false = false → Below wi'.heap.size wi' w') ∧ (L.getD 0 false = true → u129 = .slice (some ⟨wo.heap.size, 0, none⟩) D.length D.length) ∧ (L.getD 1 false = true → u130 = .pointer (some ⟨w.heap.size, 1, none⟩)) ∧ (L.getD 2 false = true → u131 = .slice (some ⟨g, o, none⟩) G.length cE) ∧ (L.getD 3 false = true → u132 = I p) ∧ (L.getD 4 false = true → u133 = .pointer (some ⟨g, o + p, none⟩)) ∧ (L.getD 5 false = true → u134 = .slice (some ⟨b, qo, none⟩) n cp) ∧ (L.getD 6 false = true → u135 = I k) ∧ (L.getD 7 false = true → u136 = .pointer (some ⟨b, qo + k * 4, none⟩)) ∧ (L.getD 8 false = true → u137 = .pointer (some ⟨b, qo + k * 4 + 3, none⟩)) ∧ (L.getD 9 false = true → u138 = I t) ∧ (L.getD 10 false = true → u139 = .pointer (some ⟨wo.heap.size, t, none⟩)) ∧ (L.getD 11 false = true → u140 = I cu) ∧ (L.getD 12 false = true → u141 = .slice (some ⟨gW, oW, none⟩) D.length cc) ∧ (L.getD 13 false = true → u142 = I p) ∧ (L.getD 14 false = true → u143 = .pointer (some ⟨gW, oW + p, none⟩)) ∧ (L.getD 15 false = true → u144 = I v) ∧ (L.getD 16 false = true → u145 = I n) ∧ (L.getD 17 false = true → u146 = I yq) ∧ (L.getD 18 false = true → u147 = I ((cu : Int) + yq)) ∧ (L.getD 19 false = true → u148 = .pointer (some ⟨wo.heap.size, t, none⟩)) ∧ (L.getD 20 false = true → (Below wo.heap.size wo w' ∧ Hid (RowAt w' wo.heap.size 3 (intV (fun x => (mvE G p y F0 (k + 1) x * Q : Nat))) D.length)))) ?_ ?_ ?_
                          · exact ⟨by simp, _, _, _, _, _, _, _, _, _, _, _, _, _, _, _, _, _, _, _, _, rfl, fun _ => (Below.refl _ _).drew, by simp, by simp, by simp, by simp, by simp, by simp, by simp, by simp, by simp, by simp, by simp, by simp, by simp, by simp, by simp, by simp, by simp, by simp, by simp, by simp, by simp⟩
                          · rintro i L a w' hcl ⟨hL, u129, u130, u131, u132, u133, u134, u135, u136, u137, u138, u139, u140, u141, u142, u143, u144, u145, u146, u147, u148, rfl, hbw, h0, h1, h2, h3, h4, h5, h6, h7, h8, h9, h10, h11, h12, h13, h14, h15, h16, h17, h18, h19, h20⟩ hi
                            have hcases : i = 0 ∨ i = 1 ∨ i = 2 ∨ i = 3 ∨ i = 4 ∨ i = 5 ∨ i = 6 ∨ i = 7 ∨ i = 8 ∨ i = 9 ∨ i = 10 ∨ i = 11 ∨ i = 12 ∨ i = 13 ∨ i = 14 ∨ i = 15 ∨ i = 16 ∨ i = 17 ∨ i = 18 ∨ i = 19 ∨ i = 20 := by
                              have : i < 21 := ready_lt hi
                              omega
                            have hni := ready_not' hi (by rw [hL]; exact ready_lt hi)
                            rcases hcases with rfl | rfl | rfl | rfl | rfl | rfl | rfl | rfl | rfl | rfl | rfl | rfl | rfl | rfl | rfl | rfl | rfl | rfl | rfl | rfl | rfl
                            · refine wpOp_val (.slice (some ⟨wo.heap.size, 0, none⟩) D.length D.length) rfl (by rfl) (by go_simp) ?_
                              exact ⟨by simpa using hL, _, _, _, _, _, _, _, _, _, _, _, _, _, _, _, _, _, _, _, _, rfl, fun h' => hbw ((set_other (by decide)).symm.trans h'), fun _ => rfl, (fun h => h1 ((set_other (by decide)).symm.trans h)), (fun h => h2 ((set_other (by decide)).symm.trans h)), (fun h => h3 ((set_other (by decide)).symm.trans h)), (fun h => h4 ((set_other (by decide)).symm.trans h)), (fun h => h5 ((set_other (by decide)).symm.trans h)), (fun h => h6 ((set_other (by decide)).symm.trans h)), (fun h => h7 ((set_other (by decide)).symm.trans h)), (fun h => h8 ((set_other (by decide)).symm.trans h)), (fun h => h9 ((set_other (by decide)).symm.trans h)), (fun h => h10 ((set_other (by decide)).symm.trans h)), (fun h => h11 ((set_other (by decide)).symm.trans h)), (fun h => h12 ((set_other (by decide)).symm.trans h)), (fun h => h13 ((set_other (by decide)).symm.trans h)), (fun h => h14 ((set_other (by decide)).symm.trans h)), (fun h => h15 ((set_other (by decide)).symm.trans h)), (fun h => h16 ((set_other (by decide)).symm.trans h)), (fun h => h17 ((set_other (by decide)).symm.trans h)), (fun h => h18 ((set_other (by decide)).symm.trans h)), (fun h => h19 ((set_other (by decide)).symm.trans h)), (fun h => by have h' := h20 ((set_other (by decide)).symm.trans h); exact h')⟩
                            · refine wpOp_val (.pointer (some ⟨w.heap.size, 1, none⟩)) rfl (by rfl) (by go_simp) ?_
                              exact ⟨by simpa using hL, _, _, _, _, _, _, _, _, _, _, _, _, _, _, _, _, _, _, _, _, rfl, fun h' => hbw ((set_other (by decide)).symm.trans h'), (fun h => h0 ((set_other (by decide)).symm.trans h)), fun _ => rfl, (fun h => h2 ((set_other (by decide)).symm.trans h)), (fun h => h3 ((set_other (by decide)).symm.trans h)), (fun h => h4 ((set_other (by decide)).symm.trans h)), (fun h => h5 ((set_other (by decide)).symm.trans h)), (fun h => h6 ((set_other (by decide)).symm.trans h)), (fun h => h7 ((set_other (by decide)).symm.trans h)), (fun h => h8 ((set_other (by decide)).symm.trans h)), (fun h => h9 ((set_other (by decide)).symm.trans h)), (fun h => h10 ((set_other (by decide)).symm.trans h)), (fun h => h11 ((set_other (by decide)).symm.trans h)), (fun h => h12 ((set_other (by decide)).symm.trans h)), (fun h => h13 ((set_other (by decide)).symm.trans h)), (fun h => h14 ((set_other (by decide)).symm.trans h)), (fun h => h15 ((set_other (by decide)).symm.trans h)), (fun h => h16 ((set_other (by decide)).symm.trans h)), (fun h => h17 ((set_other (by decide)).symm.trans h)), (fun h => h18 ((set_other (by decide)).symm.trans h)), (fun h => h19 ((set_other (by decide)).symm.trans h)), (fun h => by have h' := h20 ((set_other (by decide)).symm.trans h); exact h')⟩
                            · obtain rfl := h1 (ready_dep hi 1 (by kernel_rfl))
                              have hk0 : L.getD 20 false = false := by
                                cases hq : L.getD 20 false with
                                | false => rfl
                                | true => exact absurd (hcl 20 hq 2 (by kernel_rfl)) (by rw [hni]; simp)
                              have hb' := hbw hk0
                              have hc' := bcellS hb'
                              have hsz : wi'.heap.size ≤ w'.heap.size := hb'.size
                              have r1 := (hc'.1 _ _ s5).trans d1
                              refine wpOp_val (.slice (some ⟨g, o, none⟩) G.length cE) rfl (by rfl) (by go_simp) ?_
                              exact ⟨by simpa using hL, _, _, _, _, _, _, _, _, _, _, _, _, _, _, _, _, _, _, _, _, rfl, fun h' => hbw ((set_other (by decide)).symm.trans h'), (fun h => h0 ((set_other (by decide)).symm.trans h)), (fun h => h1 ((set_other (by decide)).symm.trans h)), fun _ => rfl, (fun h => h3 ((set_other (by decide)).symm.trans h)), (fun h => h4 ((set_other (by decide)).symm.trans h)), (fun h => h5 ((set_other (by decide)).symm.trans h)), (fun h => h6 ((set_other (by decide)).symm.trans h)), (fun h => h7 ((set_other (by decide)).symm.trans h)), (fun h => h8 ((set_other (by decide)).symm.trans h)), (fun h => h9 ((set_other (by decide)).symm.trans h)), (fun h => h10 ((set_other (by decide)).symm.trans h)), (fun h => h11 ((set_other (by decide)).symm.trans h)), (fun h => h12 ((set_other (by decide)).symm.trans h)), (fun h => h13 ((set_other (by decide)).symm.trans h)), (fun h => h14 ((set_other (by decide)).symm.trans h)), (fun h => h15 ((set_other (by decide)).symm.trans h)), (fun h => h16 ((set_other (by decide)).symm.trans h)), (fun h => h17 ((set_other (by decide)).symm.trans h)), (fun h => h18 ((set_other (by decide)).symm.trans h)), (fun h => h19 ((set_other (by decide)).symm.trans h)), (fun h => by have h' := h20 ((set_other (by decide)).symm.trans h); exact h')⟩
                            · refine wpOp_val (I p) rfl (by rfl) (by go_simp) ?_
                              exact ⟨by simpa using hL, _, _, _, _, _, _, _, _, _, _, _, _, _, _, _, _, _, _, _, _, rfl, fun h' => hbw ((set_other (by decide)).symm.trans h'), (fun h => h0 ((set_other (by decide)).symm.trans h)), (fun h => h1 ((set_other (by decide)).symm.trans h)), (fun h => h2 ((set_other (by decide)).symm.trans h)), fun _ => rfl, (fun h => h4 ((set_other (by decide)).symm.trans h)), (fun h => h5 ((set_other (by decide)).symm.trans h)), (fun h => h6 ((set_other (by decide)).symm.trans h)), (fun h => h7 ((set_other (by decide)).symm.trans h)), (fun h => h8 ((set_other (by decide)).symm.trans h)), (fun h => h9 ((set_other (by decide)).symm.trans h)), (fun h => h10 ((set_other (by decide)).symm.trans h)), (fun h => h11 ((set_other (by decide)).symm.trans h)), (fun h => h12 ((set_other (by decide)).symm.trans h)), (fun h => h13 ((set_other (by decide)).symm.trans h)), (fun h => h14 ((set_other (by decide)).symm.trans h)), (fun h => h15 ((set_other (by decide)).symm.trans h)), (fun h => h16 ((set_other (by decide)).symm.trans h)), (fun h => h17 ((set_other (by decide)).symm.trans h)), (fun h => h18 ((set_other (by decide)).symm.trans h)), (fun h => h19 ((set_other (by decide)).symm.trans h)), (fun h => by have h' := h20 ((set_other (by decide)).symm.trans h); exact h')⟩
                            · obtain rfl := h2 (ready_dep hi 2 (by kernel_rfl))
                              obtain rfl := h3 (ready_dep hi 3 (by kernel_rfl))
                              refine wpOp_val (.pointer (some ⟨g, o + p, none⟩)) rfl (by rfl) (by go_simp) ?_
                              exact ⟨by simpa using hL, _, _, _, _, _, _, _, _, _, _, _, _, _, _, _, _, _, _, _, _, rfl, fun h' => hbw ((set_other (by decide)).symm.trans h'), (fun h => h0 ((set_other (by decide)).symm.trans h)), (fun h => h1 ((set_other (by decide)).symm.trans h)), (fun h => h2 ((set_other (by decide)).symm.trans h)), (fun h => h3 ((set_other (by decide)).symm.trans h)), fun _ => rfl, (fun h => h5 ((set_other (by decide)).symm.trans h)), (fun h => h6 ((set_other (by decide)).symm.trans h)), (fun h => h7 ((set_other (by decide)).symm.trans h)), (fun h => h8 ((set_other (by decide)).symm.trans h)), (fun h => h9 ((set_other (by decide)).symm.trans h)), (fun h => h10 ((set_other (by decide)).symm.trans h)), (fun h => h11 ((set_other (by decide)).symm.trans h)), (fun h => h12 ((set_other (by decide)).symm.trans h)), (fun h => h13 ((set_other (by decide)).symm.trans h)), (fun h => h14 ((set_other (by decide)).symm.trans h)), (fun h => h15 ((set_other (by decide)).symm.trans h)), (fun h => h16 ((set_other (by decide)).symm.trans h)), (fun h => h17 ((set_other (by decide)).symm.trans h)), (fun h => h18 ((set_other (by decide)).symm.trans h)), (fun h => h19 ((set_other (by decide)).symm.trans h)), (fun h => by have h' := h20 ((set_other (by decide)).symm.trans h); exact h')⟩
                            · obtain rfl := h4 (ready_dep hi 4 (by kernel_rfl))
                              have hk0 : L.getD 20 false = false := by
                                cases hq : L.getD 20 false with
                                | false => rfl
                                | true => exact absurd (hcl 20 hq 5 (by kernel_rfl)) (by rw [hni]; simp)
                              have hb' := hbw hk0
                              have hc' := bcellS hb'
                              have hsz : wi'.heap.size ≤ w'.heap.size := hb'.size
                              have r1 := (hc'.1 _ _ s6).trans dG
                              refine wpOp_val (.slice (some ⟨b, qo, none⟩) n cp) rfl (by rfl) (by go_simp) ?_
                              exact ⟨by simpa using hL, _, _, _, _, _, _, _, _, _, _, _, _, _, _, _, _, _, _, _, _, rfl, fun h' => hbw ((set_other (by decide)).symm.trans h'), (fun h => h0 ((set_other (by decide)).symm.trans h)), (fun h => h1 ((set_other (by decide)).symm.trans h)), (fun h => h2 ((set_other (by decide)).symm.trans h)), (fun h => h3 ((set_other (by decide)).symm.trans h)), (fun h => h4 ((set_other (by decide)).symm.trans h)), fun _ => rfl, (fun h => h6 ((set_other (by decide)).symm.trans h)), (fun h => h7 ((set_other (by decide)).symm.trans h)), (fun h => h8 ((set_other (by decide)).symm.trans h)), (fun h => h9 ((set_other (by decide)).symm.trans h)), (fun h => h10 ((set_other (by decide)).symm.trans h)), (fun h => h11 ((set_other (by decide)).symm.trans h)), (fun h => h12 ((set_other (by decide)).symm.trans h)), (fun h => h13 ((set_other (by decide)).symm.trans h)), (fun h => h14 ((set_other (by decide)).symm.trans h)), (fun h => h15 ((set_other (by decide)).symm.trans h)), (fun h => h16 ((set_other (by decide)).symm.trans h)), (fun h => h17 ((set_other (by decide)).symm.trans h)), (fun h => h18 ((set_other (by decide)).symm.trans h)), (fun h => h19 ((set_other (by decide)).symm.trans h)), (fun h => by have h' := h20 ((set_other (by decide)).symm.trans h); exact h')⟩
                            · refine wpOp_val (I k) rfl (by rfl) (by go_simp) ?_
                              exact ⟨by simpa using hL, _, _, _, _, _, _, _, _, _, _, _, _, _, _, _, _, _, _, _, _, rfl, fun h' => hbw ((set_other (by decide)).symm.trans h'), (fun h => h0 ((set_other (by decide)).symm.trans h)), (fun h => h1 ((set_other (by decide)).symm.trans h)), (fun h => h2 ((set_other (by decide)).symm.trans h)), (fun h => h3 ((set_other (by decide)).symm.trans h)), (fun h => h4 ((set_other (by decide)).symm.trans h)), (fun h => h5 ((set_other (by decide)).symm.trans h)), fun _ => rfl, (fun h => h7 ((set_other (by decide)).symm.trans h)), (fun h => h8 ((set_other (by decide)).symm.trans h)), (fun h => h9 ((set_other (by decide)).symm.trans h)), (fun h => h10 ((set_other (by decide)).symm.trans h)), (fun h => h11 ((set_other (by decide)).symm.trans h)), (fun h => h12 ((set_other (by decide)).symm.trans h)), (fun h => h13 ((set_other (by decide)).symm.trans h)), (fun h => h14 ((set_other (by decide)).symm.trans h)), (fun h => h15 ((set_other (by decide)).symm.trans h)), (fun h => h16 ((set_other (by decide)).symm.trans h)), (fun h => h17 ((set_other (by decide)).symm.trans h)), (fun h => h18 ((set_other (by decide)).symm.trans h)), (fun h => h19 ((set_other (by decide)).symm.trans h)), (fun h => by have h' := h20 ((set_other (by decide)).symm.trans h); exact h')⟩
                            · obtain rfl := h5 (ready_dep hi 5 (by kernel_rfl))
                              obtain rfl := h6 (ready_dep hi 6 (by kernel_rfl))
                              refine wpOp_val (.pointer (some ⟨b, qo + k * 4, none⟩)) rfl (by rfl) (by go_simp) ?_
                              exact ⟨by simpa using hL, _, _, _, _, _, _, _, _, _, _, _, _, _, _, _, _, _, _, _, _, rfl, fun h' => hbw ((set_other (by decide)).symm.trans h'), (fun h => h0 ((set_other (by decide)).symm.trans h)), (fun h => h1 ((set_other (by decide)).symm.trans h)), (fun h => h2 ((set_other (by decide)).symm.trans h)), (fun h => h3 ((set_other (by decide)).symm.trans h)), (fun h => h4 ((set_other (by decide)).symm.trans h)), (fun h => h5 ((set_other (by decide)).symm.trans h)), (fun h => h6 ((set_other (by decide)).symm.trans h)), fun _ => rfl, (fun h => h8 ((set_other (by decide)).symm.trans h)), (fun h => h9 ((set_other (by decide)).symm.trans h)), (fun h => h10 ((set_other (by decide)).symm.trans h)), (fun h => h11 ((set_other (by decide)).symm.trans h)), (fun h => h12 ((set_other (by decide)).symm.trans h)), (fun h => h13 ((set_other (by decide)).symm.trans h)), (fun h => h14 ((set_other (by decide)).symm.trans h)), (fun h => h15 ((set_other (by decide)).symm.trans h)), (fun h => h16 ((set_other (by decide)).symm.trans h)), (fun h => h17 ((set_other (by decide)).symm.trans h)), (fun h => h18 ((set_other (by decide)).symm.trans h)), (fun h => h19 ((set_other (by decide)).symm.trans h)), (fun h => by have h' := h20 ((set_other (by decide)).symm.trans h); exact h')⟩
                            · obtain rfl := h7 (ready_dep hi 7 (by kernel_rfl))
                              refine wpOp_val (.pointer (some ⟨b, qo + k * 4 + 3, none⟩)) rfl (by rfl) (by go_simp) ?_
                              exact ⟨by simpa using hL, _, _, _, _, _, _, _, _, _, _, _, _, _, _, _, _, _, _, _, _, rfl, fun h' => hbw ((set_other (by decide)).symm.trans h'), (fun h => h0 ((set_other (by decide)).symm.trans h)), (fun h => h1 ((set_other (by decide)).symm.trans h)), (fun h => h2 ((set_other (by decide)).symm.trans h)), (fun h => h3 ((set_other (by decide)).symm.trans h)), (fun h => h4 ((set_other (by decide)).symm.trans h)), (fun h => h5 ((set_other (by decide)).symm.trans h)), (fun h => h6 ((set_other (by decide)).symm.trans h)), (fun h => h7 ((set_other (by decide)).symm.trans h)), fun _ => rfl, (fun h => h9 ((set_other (by decide)).symm.trans h)), (fun h => h10 ((set_other (by decide)).symm.trans h)), (fun h => h11 ((set_other (by decide)).symm.trans h)), (fun h => h12 ((set_other (by decide)).symm.trans h)), (fun h => h13 ((set_other (by decide)).symm.trans h)), (fun h => h14 ((set_other (by decide)).symm.trans h)), (fun h => h15 ((set_other (by decide)).symm.trans h)), (fun h => h16 ((set_other (by decide)).symm.trans h)), (fun h => h17 ((set_other (by decide)).symm.trans h)), (fun h => h18 ((set_other (by decide)).symm.trans h)), (fun h => h19 ((set_other (by decide)).symm.trans h)), (fun h => by have h' := h20 ((set_other (by decide)).symm.trans h); exact h')⟩
                            · obtain rfl := h8 (ready_dep hi 8 (by kernel_rfl))
                              have hk0 : L.getD 20 false = false := by
                                cases hq : L.getD 20 false with
                                | false => rfl
                                | true => exact absurd (hcl 20 hq 9 (by kernel_rfl)) (by rw [hni]; simp)
                              have hb' := hbw hk0
                              have hc' := bcellS hb'
                              have hsz : wi'.heap.size ≤ w'.heap.size := hb'.size
                              have r1 := (hc'.1 _ _ hbl).trans e3
                              refine wpOp_val (I t) rfl (by rfl) (by go_simp) ?_
                              exact ⟨by simpa using hL, _, _, _, _, _, _, _, _, _, _, _, _, _, _, _, _, _, _, _, _, rfl, fun h' => hbw ((set_other (by decide)).symm.trans h'), (fun h => h0 ((set_other (by decide)).symm.trans h)), (fun h => h1 ((set_other (by decide)).symm.trans h)), (fun h => h2 ((set_other (by decide)).symm.trans h)), (fun h => h3 ((set_other (by decide)).symm.trans h)), (fun h => h4 ((set_other (by decide)).symm.trans h)), (fun h => h5 ((set_other (by decide)).symm.trans h)), (fun h => h6 ((set_other (by decide)).symm.trans h)), (fun h => h7 ((set_other (by decide)).symm.trans h)), (fun h => h8 ((set_other (by decide)).symm.trans h)), fun _ => rfl, (fun h => h10 ((set_other (by decide)).symm.trans h)), (fun h => h11 ((set_other (by decide)).symm.trans h)), (fun h => h12 ((set_other (by decide)).symm.trans h)), (fun h => h13 ((set_other (by decide)).symm.trans h)), (fun h => h14 ((set_other (by decide)).symm.trans h)), (fun h => h15 ((set_other (by decide)).symm.trans h)), (fun h => h16 ((set_other (by decide)).symm.trans h)), (fun h => h17 ((set_other (by decide)).symm.trans h)), (fun h => h18 ((set_other (by decide)).symm.trans h)), (fun h => h19 ((set_other (by decide)).symm.trans h)), (fun h => by have h' := h20 ((set_other (by decide)).symm.trans h); exact h')⟩
                            · obtain rfl := h0 (ready_dep hi 0 (by kernel_rfl))
                              obtain rfl := h9 (ready_dep hi 9 (by kernel_rfl))
                              refine wpOp_val (.pointer (some ⟨wo.heap.size, t, none⟩)) rfl (by rfl) (by go_simp) ?_
                              exact ⟨by simpa using hL, _, _, _, _, _, _, _, _, _, _, _, _, _, _, _, _, _, _, _, _, rfl, fun h' => hbw ((set_other (by decide)).symm.trans h'), (fun h => h0 ((set_other (by decide)).symm.trans h)), (fun h => h1 ((set_other (by decide)).symm.trans h)), (fun h => h2 ((set_other (by decide)).symm.trans h)), (fun h => h3 ((set_other (by decide)).symm.trans h)), (fun h => h4 ((set_other (by decide)).symm.trans h)), (fun h => h5 ((set_other (by decide)).symm.trans h)), (fun h => h6 ((set_other (by decide)).symm.trans h)), (fun h => h7 ((set_other (by decide)).symm.trans h)), (fun h => h8 ((set_other (by decide)).symm.trans h)), (fun h => h9 ((set_other (by decide)).symm.trans h)), fun _ => rfl, (fun h => h11 ((set_other (by decide)).symm.trans h)), (fun h => h12 ((set_other (by decide)).symm.trans h)), (fun h => h13 ((set_other (by decide)).symm.trans h)), (fun h => h14 ((set_other (by decide)).symm.trans h)), (fun h => h15 ((set_other (by decide)).symm.trans h)), (fun h => h16 ((set_other (by decide)).symm.trans h)), (fun h => h17 ((set_other (by decide)).symm.trans h)), (fun h => h18 ((set_other (by decide)).symm.trans h)), (fun h => h19 ((set_other (by decide)).symm.trans h)), (fun h => by have h' := h20 ((set_other (by decide)).symm.trans h); exact h')⟩
                            · obtain rfl := h10 (ready_dep hi 10 (by kernel_rfl))
                              have hk0 : L.getD 20 false = false := by
                                cases hq : L.getD 20 false with
                                | false => rfl
                                | true => exact absurd (hcl 20 hq 11 (by kernel_rfl)) (by rw [hni]; simp)
                              have hb' := hbw hk0
                              have hc' := bcellS hb'
                              have hsz : wi'.heap.size ≤ w'.heap.size := hb'.size
                              have r1 := (hc'.1 _ _ s4).trans r0
                              refine wpOp_val (I cu) rfl (by rfl) (by go_simp) ?_
                              exact ⟨by simpa using hL, _, _, _, _, _, _, _, _, _, _, _, _, _, _, _, _, _, _, _, _, rfl, fun h' => hbw ((set_other (by decide)).symm.trans h'), (fun h => h0 ((set_other (by decide)).symm.trans h)), (fun h => h1 ((set_other (by decide)).symm.trans h)), (fun h => h2 ((set_other (by decide)).symm.trans h)), (fun h => h3 ((set_other (by decide)).symm.trans h)), (fun h => h4 ((set_other (by decide)).symm.trans h)), (fun h => h5 ((set_other (by decide)).symm.trans h)), (fun h => h6 ((set_other (by decide)).symm.trans h)), (fun h => h7 ((set_other (by decide)).symm.trans h)), (fun h => h8 ((set_other (by decide)).symm.trans h)), (fun h => h9 ((set_other (by decide)).symm.trans h)), (fun h => h10 ((set_other (by decide)).symm.trans h)), fun _ => rfl, (fun h => h12 ((set_other (by decide)).symm.trans h)), (fun h => h13 ((set_other (by decide)).symm.trans h)), (fun h => h14 ((set_other (by decide)).symm.trans h)), (fun h => h15 ((set_other (by decide)).symm.trans h)), (fun h => h16 ((set_other (by decide)).symm.trans h)), (fun h => h17 ((set_other (by decide)).symm.trans h)), (fun h => h18 ((set_other (by decide)).symm.trans h)), (fun h => h19 ((set_other (by decide)).symm.trans h)), (fun h => by have h' := h20 ((set_other (by decide)).symm.trans h); exact h')⟩
                            · refine wpOp_val (.slice (some ⟨gW, oW, none⟩) D.length cc) rfl (by rfl) (by go_simp) ?_
                              exact ⟨by simpa using hL, _, _, _, _, _, _, _, _, _, _, _, _, _, _, _, _, _, _, _, _, rfl, fun h' => hbw ((set_other (by decide)).symm.trans h'), (fun h => h0 ((set_other (by decide)).symm.trans h)), (fun h => h1 ((set_other (by decide)).symm.trans h)), (fun h => h2 ((set_other (by decide)).symm.trans h)), (fun h => h3 ((set_other (by decide)).symm.trans h)), (fun h => h4 ((set_other (by decide)).symm.trans h)), (fun h => h5 ((set_other (by decide)).symm.trans h)), (fun h => h6 ((set_other (by decide)).symm.trans h)), (fun h => h7 ((set_other (by decide)).symm.trans h)), (fun h => h8 ((set_other (by decide)).symm.trans h)), (fun h => h9 ((set_other (by decide)).symm.trans h)), (fun h => h10 ((set_other (by decide)).symm.trans h)), (fun h => h11 ((set_other (by decide)).symm.trans h)), fun _ => rfl, (fun h => h13 ((set_other (by decide)).symm.trans h)), (fun h => h14 ((set_other (by decide)).symm.trans h)), (fun h => h15 ((set_other (by decide)).symm.trans h)), (fun h => h16 ((set_other (by decide)).symm.trans h)), (fun h => h17 ((set_other (by decide)).symm.trans h)), (fun h => h18 ((set_other (by decide)).symm.trans h)), (fun h => h19 ((set_other (by decide)).symm.trans h)), (fun h => by have h' := h20 ((set_other (by decide)).symm.trans h); exact h')⟩
                            · refine wpOp_val (I p) rfl (by rfl) (by go_simp) ?_
                              exact ⟨by simpa using hL, _, _, _, _, _, _, _, _, _, _, _, _, _, _, _, _, _, _, _, _, rfl, fun h' => hbw ((set_other (by decide)).symm.trans h'), (fun h => h0 ((set_other (by decide)).symm.trans h)), (fun h => h1 ((set_other (by decide)).symm.trans h)), (fun h => h2 ((set_other (by decide)).symm.trans h)), (fun h => h3 ((set_other (by decide)).symm.trans h)), (fun h => h4 ((set_other (by decide)).symm.trans h)), (fun h => h5 ((set_other (by decide)).symm.trans h)), (fun h => h6 ((set_other (by decide)).symm.trans h)), (fun h => h7 ((set_other (by decide)).symm.trans h)), (fun h => h8 ((set_other (by decide)).symm.trans h)), (fun h => h9 ((set_other (by decide)).symm.trans h)), (fun h => h10 ((set_other (by decide)).symm.trans h)), (fun h => h11 ((set_other (by decide)).symm.trans h)), (fun h => h12 ((set_other (by decide)).symm.trans h)), fun _ => rfl, (fun h => h14 ((set_other (by decide)).symm.trans h)), (fun h => h15 ((set_other (by decide)).symm.trans h)), (fun h => h16 ((set_other (by decide)).symm.trans h)), (fun h => h17 ((set_other (by decide)).symm.trans h)), (fun h => h18 ((set_other (by decide)).symm.trans h)), (fun h => h19 ((set_other (by decide)).symm.trans h)), (fun h => by have h' := h20 ((set_other (by decide)).symm.trans h); exact h')⟩
                            · obtain rfl := h12 (ready_dep hi 12 (by kernel_rfl))
                              obtain rfl := h13 (ready_dep hi 13 (by kernel_rfl))
                              refine wpOp_val (.pointer (some ⟨gW, oW + p, none⟩)) rfl (by rfl) (by go_simp) ?_
                              exact ⟨by simpa using hL, _, _, _, _, _, _, _, _, _, _, _, _, _, _, _, _, _, _, _, _, rfl, fun h' => hbw ((set_other (by decide)).symm.trans h'), (fun h => h0 ((set_other (by decide)).symm.trans h)), (fun h => h1 ((set_other (by decide)).symm.trans h)), (fun h => h2 ((set_other (by decide)).symm.trans h)), (fun h => h3 ((set_other (by decide)).symm.trans h)), (fun h => h4 ((set_other (by decide)).symm.trans h)), (fun h => h5 ((set_other (by decide)).symm.trans h)), (fun h => h6 ((set_other (by decide)).symm.trans h)), (fun h => h7 ((set_other (by decide)).symm.trans h)), (fun h => h8 ((set_other (by decide)).symm.trans h)), (fun h => h9 ((set_other (by decide)).symm.trans h)), (fun h => h10 ((set_other (by decide)).symm.trans h)), (fun h => h11 ((set_other (by decide)).symm.trans h)), (fun h => h12 ((set_other (by decide)).symm.trans h)), (fun h => h13 ((set_other (by decide)).symm.trans h)), fun _ => rfl, (fun h => h15 ((set_other (by decide)).symm.trans h)), (fun h => h16 ((set_other (by decide)).symm.trans h)), (fun h => h17 ((set_other (by decide)).symm.trans h)), (fun h => h18 ((set_other (by decide)).symm.trans h)), (fun h => h19 ((set_other (by decide)).symm.trans h)), (fun h => by have h' := h20 ((set_other (by decide)).symm.trans h); exact h')⟩
                            · obtain rfl := h14 (ready_dep hi 14 (by kernel_rfl))
                              have hk0 : L.getD 20 false = false := by
                                cases hq : L.getD 20 false with
                                | false => rfl
                                | true => exact absurd (hcl 20 hq 15 (by kernel_rfl)) (by rw [hni]; simp)
                              have hb' := hbw hk0
                              have hc' := bcellS hb'
                              have hsz : wi'.heap.size ≤ w'.heap.size := hb'.size
                              have r1 := (hc'.1 _ _ s7).trans dW
                              refine wpOp_val (I v) rfl (by rfl) (by go_simp) ?_
                              exact ⟨by simpa using hL, _, _, _, _, _, _, _, _, _, _, _, _, _, _, _, _, _, _, _, _, rfl, fun h' => hbw ((set_other (by decide)).symm.trans h'), (fun h => h0 ((set_other (by decide)).symm.trans h)), (fun h => h1 ((set_other (by decide)).symm.trans h)), (fun h => h2 ((set_other (by decide)).symm.trans h)), (fun h => h3 ((set_other (by decide)).symm.trans h)), (fun h => h4 ((set_other (by decide)).symm.trans h)), (fun h => h5 ((set_other (by decide)).symm.trans h)), (fun h => h6 ((set_other (by decide)).symm.trans h)), (fun h => h7 ((set_other (by decide)).symm.trans h)), (fun h => h8 ((set_other (by decide)).symm.trans h)), (fun h => h9 ((set_other (by decide)).symm.trans h)), (fun h => h10 ((set_other (by decide)).symm.trans h)), (fun h => h11 ((set_other (by decide)).symm.trans h)), (fun h => h12 ((set_other (by decide)).symm.trans h)), (fun h => h13 ((set_other (by decide)).symm.trans h)), (fun h => h14 ((set_other (by decide)).symm.trans h)), fun _ => rfl, (fun h => h16 ((set_other (by decide)).symm.trans h)), (fun h => h17 ((set_other (by decide)).symm.trans h)), (fun h => h18 ((set_other (by decide)).symm.trans h)), (fun h => h19 ((set_other (by decide)).symm.trans h)), (fun h => by have h' := h20 ((set_other (by decide)).symm.trans h); exact h')⟩
                            · refine wpOp_val (I n) rfl (by rfl) (by go_simp) ?_
                              exact ⟨by simpa using hL, _, _, _, _, _, _, _, _, _, _, _, _, _, _, _, _, _, _, _, _, rfl, fun h' => hbw ((set_other (by decide)).symm.trans h'), (fun h => h0 ((set_other (by decide)).symm.trans h)), (fun h => h1 ((set_other (by decide)).symm.trans h)), (fun h => h2 ((set_other (by decide)).symm.trans h)), (fun h => h3 ((set_other (by decide)).symm.trans h)), (fun h => h4 ((set_other (by decide)).symm.trans h)), (fun h => h5 ((set_other (by decide)).symm.trans h)), (fun h => h6 ((set_other (by decide)).symm.trans h)), (fun h => h7 ((set_other (by decide)).symm.trans h)), (fun h => h8 ((set_other (by decide)).symm.trans h)), (fun h => h9 ((set_other (by decide)).symm.trans h)), (fun h => h10 ((set_other (by decide)).symm.trans h)), (fun h => h11 ((set_other (by decide)).symm.trans h)), (fun h => h12 ((set_other (by decide)).symm.trans h)), (fun h => h13 ((set_other (by decide)).symm.trans h)), (fun h => h14 ((set_other (by decide)).symm.trans h)), (fun h => h15 ((set_other (by decide)).symm.trans h)), fun _ => rfl, (fun h => h17 ((set_other (by decide)).symm.trans h)), (fun h => h18 ((set_other (by decide)).symm.trans h)), (fun h => h19 ((set_other (by decide)).symm.trans h)), (fun h => by have h' := h20 ((set_other (by decide)).symm.trans h); exact h')⟩
                            · obtain rfl := h15 (ready_dep hi 15 (by kernel_rfl))
                              obtain rfl := h16 (ready_dep hi 16 (by kernel_rfl))
                              refine wpOp_val (I yq) rfl (by rfl) (by go_simp) ?_
                              exact ⟨by simpa using hL, _, _, _, _, _, _, _, _, _, _, _, _, _, _, _, _, _, _, _, _, rfl, fun h' => hbw ((set_other (by decide)).symm.trans h'), (fun h => h0 ((set_other (by decide)).symm.trans h)), (fun h => h1 ((set_other (by decide)).symm.trans h)), (fun h => h2 ((set_other (by decide)).symm.trans h)), (fun h => h3 ((set_other (by decide)).symm.trans h)), (fun h => h4 ((set_other (by decide)).symm.trans h)), (fun h => h5 ((set_other (by decide)).symm.trans h)), (fun h => h6 ((set_other (by decide)).symm.trans h)), (fun h => h7 ((set_other (by decide)).symm.trans h)), (fun h => h8 ((set_other (by decide)).symm.trans h)), (fun h => h9 ((set_other (by decide)).symm.trans h)), (fun h => h10 ((set_other (by decide)).symm.trans h)), (fun h => h11 ((set_other (by decide)).symm.trans h)), (fun h => h12 ((set_other (by decide)).symm.trans h)), (fun h => h13 ((set_other (by decide)).symm.trans h)), (fun h => h14 ((set_other (by decide)).symm.trans h)), (fun h => h15 ((set_other (by decide)).symm.trans h)), (fun h => h16 ((set_other (by decide)).symm.trans h)), fun _ => rfl, (fun h => h18 ((set_other (by decide)).symm.trans h)), (fun h => h19 ((set_other (by decide)).symm.trans h)), (fun h => by have h' := h20 ((set_other (by decide)).symm.trans h); exact h')⟩
                            · obtain rfl := h11 (ready_dep hi 11 (by kernel_rfl))
                              obtain rfl := h17 (ready_dep hi 17 (by kernel_rfl))
                              refine wpOp_val (I ((cu : Int) + yq)) rfl (by rfl) (by go_simp) ?_
                              exact ⟨by simpa using hL, _, _, _, _, _, _, _, _, _, _, _, _, _, _, _, _, _, _, _, _, rfl, fun h' => hbw ((set_other (by decide)).symm.trans h'), (fun h => h0 ((set_other (by decide)).symm.trans h)), (fun h => h1 ((set_other (by decide)).symm.trans h)), (fun h => h2 ((set_other (by decide)).symm.trans h)), (fun h => h3 ((set_other (by decide)).symm.trans h)), (fun h => h4 ((set_other (by decide)).symm.trans h)), (fun h => h5 ((set_other (by decide)).symm.trans h)), (fun h => h6 ((set_other (by decide)).symm.trans h)), (fun h => h7 ((set_other (by decide)).symm.trans h)), (fun h => h8 ((set_other (by decide)).symm.trans h)), (fun h => h9 ((set_other (by decide)).symm.trans h)), (fun h => h10 ((set_other (by decide)).symm.trans h)), (fun h => h11 ((set_other (by decide)).symm.trans h)), (fun h => h12 ((set_other (by decide)).symm.trans h)), (fun h => h13 ((set_other (by decide)).symm.trans h)), (fun h => h14 ((set_other (by decide)).symm.trans h)), (fun h => h15 ((set_other (by decide)).symm.trans h)), (fun h => h16 ((set_other (by decide)).symm.trans h)), (fun h => h17 ((set_other (by decide)).symm.trans h)), fun _ => rfl, (fun h => h19 ((set_other (by decide)).symm.trans h)), (fun h => by have h' := h20 ((set_other (by decide)).symm.trans h); exact h')⟩
                            · obtain rfl := h0 (ready_dep hi 0 (by kernel_rfl))
                              obtain rfl := h9 (ready_dep hi 9 (by kernel_rfl))
                              refine wpOp_val (.pointer (some ⟨wo.heap.size, t, none⟩)) rfl (by rfl) (by go_simp) ?_
                              exact ⟨by simpa using hL, _, _, _, _, _, _, _, _, _, _, _, _, _, _, _, _, _, _, _, _, rfl, fun h' => hbw ((set_other (by decide)).symm.trans h'), (fun h => h0 ((set_other (by decide)).symm.trans h)), (fun h => h1 ((set_other (by decide)).symm.trans h)), (fun h => h2 ((set_other (by decide)).symm.trans h)), (fun h => h3 ((set_other (by decide)).symm.trans h)), (fun h => h4 ((set_other (by decide)).symm.trans h)), (fun h => h5 ((set_other (by decide)).symm.trans h)), (fun h => h6 ((set_other (by decide)).symm.trans h)), (fun h => h7 ((set_other (by decide)).symm.trans h)), (fun h => h8 ((set_other (by decide)).symm.trans h)), (fun h => h9 ((set_other (by decide)).symm.trans h)), (fun h => h10 ((set_other (by decide)).symm.trans h)), (fun h => h11 ((set_other (by decide)).symm.trans h)), (fun h => h12 ((set_other (by decide)).symm.trans h)), (fun h => h13 ((set_other (by decide)).symm.trans h)), (fun h => h14 ((set_other (by decide)).symm.trans h)), (fun h => h15 ((set_other (by decide)).symm.trans h)), (fun h => h16 ((set_other (by decide)).symm.trans h)), (fun h => h17 ((set_other (by decide)).symm.trans h)), (fun h => h18 ((set_other (by decide)).symm.trans h)), fun _ => rfl, (fun h => by have h' := h20 ((set_other (by decide)).symm.trans h); exact h')⟩
                            · obtain rfl := h18 (ready_dep hi 18 (by kernel_rfl))
                              obtain rfl := h19 (ready_dep hi 19 (by kernel_rfl))
                              have hk0 : L.getD 20 false = false := hni
                              have hb' := hbw hk0
                              have hc' := bcellS hb'
                              have hsz : wi'.heap.size ≤ w'.heap.size := hb'.size
                              have rV := HR'.out.below hb' HR'.out.lt
                              have fV := rV.free t
                              have cV := (hc'.1 _ _ s4).trans r0
                              refine wpOp_st (w'.setCell ⟨wo.heap.size, t, none⟩ (I ((cu : Int) + yq))) rfl (by rfl) (by go_simp) ?_
                              exact ⟨by simpa using hL, _, _, _, _, _, _, _, _, _, _, _, _, _, _, _, _, _, _, _, _, rfl, (fun h' => by rw [set_same (by omega)] at h'; cases h'), (fun h => h0 ((set_other (by decide)).symm.trans h)), (fun h => h1 ((set_other (by decide)).symm.trans h)), (fun h => h2 ((set_other (by decide)).symm.trans h)), (fun h => h3 ((set_other (by decide)).symm.trans h)), (fun h => h4 ((set_other (by decide)).symm.trans h)), (fun h => h5 ((set_other (by decide)).symm.trans h)), (fun h => h6 ((set_other (by decide)).symm.trans h)), (fun h => h7 ((set_other (by decide)).symm.trans h)), (fun h => h8 ((set_other (by decide)).symm.trans h)), (fun h => h9 ((set_other (by decide)).symm.trans h)), (fun h => h10 ((set_other (by decide)).symm.trans h)), (fun h => h11 ((set_other (by decide)).symm.trans h)), (fun h => h12 ((set_other (by decide)).symm.trans h)), (fun h => h13 ((set_other (by decide)).symm.trans h)), (fun h => h14 ((set_other (by decide)).symm.trans h)), (fun h => h15 ((set_other (by decide)).symm.trans h)), (fun h => h16 ((set_other (by decide)).symm.trans h)), (fun h => h17 ((set_other (by decide)).symm.trans h)), (fun h => h18 ((set_other (by decide)).symm.trans h)), (fun h => h19 ((set_other (by decide)).symm.trans h)), fun _ => ⟨(HB4'.out.trans (hb'.mono HB4'.out.size)).grown (grown_setCell _ _ _) (Nat.le_trans HB4'.out.size hb'.size) (fun j hj => by injection hj with hj; rw [← hj]; exact Nat.le_refl _), Lib.hid (intV_set rV fun i _ => by
        rw [mvE, addN, ← HT.out]
        by_cases e : i = t
        · subst e; rw [if_pos rfl, if_pos rfl, Nat.add_mul, ← HCC.out, ← HYQ.out]; simp
        · rw [if_neg e, if_neg e])⟩⟩
                          · rintro L a w' ⟨hL, u129, u130, u131, u132, u133, u134, u135, u136, u137, u138, u139, u140, u141, u142, u143, u144, u145, u146, u147, u148, rfl, hbw, h0, h1, h2, h3, h4, h5, h6, h7, h8, h9, h10, h11, h12, h13, h14, h15, h16, h17, h18, h19, h20⟩ hr
                            have hall := all_listed hL (by kernel_rfl) hr
                            obtain rfl := h0 (hall 0 (by decide))
                            obtain rfl := h1 (hall 1 (by decide))
                            obtain rfl := h2 (hall 2 (by decide))
                            obtain rfl := h3 (hall 3 (by decide))
                            obtain rfl := h4 (hall 4 (by decide))
                            obtain rfl := h5 (hall 5 (by decide))
                            obtain rfl := h6 (hall 6 (by decide))
                            obtain rfl := h7 (hall 7 (by decide))
                            obtain rfl := h8 (hall 8 (by decide))
                            obtain rfl := h9 (hall 9 (by decide))
                            obtain rfl := h10 (hall 10 (by decide))
                            obtain rfl := h11 (hall 11 (by decide))
                            obtain rfl := h12 (hall 12 (by decide))
                            obtain rfl := h13 (hall 13 (by decide))
                            obtain rfl := h14 (hall 14 (by decide))
                            obtain rfl := h15 (hall 15 (by decide))
                            obtain rfl := h16 (hall 16 (by decide))
                            obtain rfl := h17 (hall 17 (by decide))
                            obtain rfl := h18 (hall 18 (by decide))
                            obtain rfl := h19 (hall 19 (by decide))
                            have g20 := h20 (hall 20 (by decide))
                            clear hall hr hL hbw h0 h1 h2 h3 h4 h5 h6 h7 h8 h9 h10 h11 h12 h13 h14 h15 h16 h17 h18 h19 h20
                            try dsimp only
                            obtain ⟨hB5, HR5⟩ := g20
                            clear d0 d1 dG dW r0 wc e3
                            go_wp2_with fail
                            go_roundw
                            case rel => exact ⟨_, _, _, _, _, _, _, _, _, _, _, _, _, _, _, _, _, _, _, _, _, _, _, _, _, _, ⟨k + 1, by omega, by go_num, hB5, HR5⟩, rfl⟩
                            case measure => simp [intOf] <;> omega
                        · obtain rfl : k = n := by omega
                          go_wp2_with fail
                          go_roundw
                          case rel => exact ⟨p + 1, by omega, by go_num, hB', by rw [HGO'.out]; exact HR'⟩
                          case measure => simp [intOf] <;> omega
                · obtain rfl : p = D.length := by omega
                  have HI4 := Lib.hid (show IntsR wp wp.heap.size (some ⟨wo.heap.size, 0, none⟩) ((List.range D.length).map fun p => (rwt' G D c m (j + 1) p : Int)) from by
                    have h := HR.out.ints
                    simp only [HNX.out] at h
                    exact h)
                  have hB1p := HBj.out.trans (hB.mono HBj.out.size)
                  go_wp2_with fail
                  go_roundw
                  case rel => exact ⟨j + 1, _, _, by omega, by go_num, rfl, hB1p, HI4⟩
                  case measure => simp [intOf] <;> omega
            · obtain rfl : m = j := by omega
              have HBj := Lib.hid hBj
              obtain ⟨W, hWq⟩ : ∃ W, W = wtN G D c m := ⟨_, rfl⟩
              have hmd : m = 0 ∨ Div G D c := by
                rcases Nat.eq_zero_or_pos m with h | h
                · exact .inl h
                · have hcP : c = prtN G D := HP.out.trans (cmn_prt h)
                  exact .inr (by rw [hcP]; exact div_prt (by rw [← hcP]; exact hcx))
              have hwt : tot G.length W = al := by rw [hWq, HAM.out]; exact tot_wt0 HV.out hmd
              have hCN : chN G D m = finN D W D.length := by
                rw [hWq, HLD.out]
                rcases Nat.eq_zero_or_pos m with h | h
                · subst h; rfl
                · have hcP : c = prtN G D := HP.out.trans (cmn_prt h)
                  rw [chN, hcP]
              have HPW := Lib.hid (show ∀ p, p < D.length → wo.cell? ⟨gW, oW + p, none⟩ = some (I (W p : Nat)) from fun p hp => by
                have h := hcW p (by simpa using hp)
                rw [nth_lt (by simpa using hp)] at h
                simp only [List.getElem_map, List.getElem_range, rwt', ← hWq, Nat.sub_self, Nat.pow_zero, Nat.mul_one] at h
                exact h)
              have HFB := Lib.hid (show ∀ j, j ≤ D.length → finN D W j ≤ al from fun j hj => Nat.le_trans (finN_le _ _ _) (hwt ▸ tot_le _ _ (by rw [← HLD.out]; exact hj)))
              have HWB := Lib.hid (show ∀ j, j < D.length → W j ≤ al from fun j hj => hwt ▸ le_tot _ _ (by rw [← HLD.out]; exact hj))
              have HCN := Lib.hid hCN
              clear hWq hmd hwt hcW hCN hBj
              go_wp2_with fail
              go_loopw [21, 22] (fun s i ws => ∃ p : Nat, p ≤ D.length ∧ i = .int .i64 p ∧ s = .int .i64 (finN D W p : Nat) ∧ ws = wo) (fun _ i _ => D.length - (intOf i).toNat)
              case atStart => exact ⟨0, Nat.zero_le _, rfl, rfl, rfl⟩
              case round =>
                obtain ⟨p, hp, rfl, rfl, rfl⟩ := hrel
                obtain ⟨c0, c1, hdk, -⟩ := HC.out _ HBj.out
                by_cases hlt : p < D.length
                · have hdp := hdk p hlt
                  have hpw := HPW.out p hlt
                  have h1 := HFB.out p hp
                  have h2 := HFB.out (p + 1) hlt
                  have h3 := HWB.out p hlt
                  have hN : finN D W (p + 1) = finN D W p + if dOf D p == 0 then W p else 0 := rfl
                  rw [dOf] at hN
                  obtain ⟨d, hd⟩ : ∃ d, d = nth D p := ⟨_, rfl⟩
                  rw [← hd] at hdp hN
                  obtain ⟨x, hx⟩ : ∃ x, x = W p := ⟨_, rfl⟩
                  rw [← hx] at hpw h3 hN
                  obtain ⟨f1, hf1⟩ : ∃ f1, f1 = finN D W (p + 1) := ⟨_, rfl⟩
                  rw [← hf1] at h2 hN
                  obtain ⟨f, hf⟩ : ∃ f, f = finN D W p := ⟨_, rfl⟩
                  rw [← hf] at h1 hN ⊢
                  have HF1 := Lib.hid hf1
                  clear hx hf hf1 hdk hd
                  by_cases hd0 : d = 0
                  · have t2 : (d == 0) = true := by simp [hd0]
                    have t2' : decide (d = 0) = true := decide_eq_true hd0
                    rw [t2, if_pos rfl] at hN
                    have HQ := Lib.hid (show finN D W (p + 1) = f + x by rw [← HF1.out]; exact hN)
                    clear hN hd0
                    go_wp2_with fail
                    go_roundw
                    case rel => exact ⟨p + 1, by omega, by go_num, by rw [HQ.out]; go_num, trivial⟩
                    case measure => simp [intOf] <;> omega
                  · have t2 : (d == 0) = false := by simpa using hd0
                    have t2' : decide (d = 0) = false := decide_eq_false hd0
                    rw [t2, if_neg (by simp)] at hN
                    have HQ := Lib.hid (show finN D W (p + 1) = f by rw [← HF1.out]; exact hN)
                    clear hN hd0
                    go_wp2_with fail
                    go_roundw
                    case rel => exact ⟨p + 1, by omega, by go_num, by rw [HQ.out], trivial⟩
                    case measure => simp [intOf] <;> omega
                · obtain rfl : p = D.length := by omega
                  rw [← HCN.out]
                  have hfb : chN G D m ≤ al := by rw [HCN.out]; exact HFB.out _ (Nat.le_refl _)
                  have hXY := HOK.out (by rw [← HPM.out, ← HAM.out]; exact hax)
                  rw [chcA, chcB, ← HPM.out, ← HAM.out] at hXY
                  have hcall := fun V => rgcd_any al (chN G D m) V (by omega) (by omega)
                  have hgp := Nat.gcd_pos_of_pos_left (chN G D m) (show 0 < al by omega)
                  rw [Nat.gcd_comm] at hXY
                  obtain ⟨N, hNq⟩ : ∃ N, N = chN G D m := ⟨_, rfl⟩
                  rw [← hNq] at hfb hXY hcall hgp ⊢
                  obtain ⟨h, hh⟩ : ∃ h, h = Nat.gcd al N := ⟨_, rfl⟩
                  rw [← hh] at hcall hgp hXY
                  have q1 : (N : Int).tdiv (h : Int) = ((N / h : Nat) : Int) := Int.ofNat_tdiv _ _
                  have q2 : (al : Int).tdiv (h : Int) = ((al / h : Nat) : Int) := Int.ofNat_tdiv _ _
                  have b1 : N / h ≤ N := Nat.div_le_self _ _
                  have b2 : al / h ≤ al := Nat.div_le_self _ _
                  obtain ⟨r1, hr1⟩ : ∃ r1, r1 = N / h := ⟨_, rfl⟩
                  obtain ⟨r2, hr2⟩ : ∃ r2, r2 = al / h := ⟨_, rfl⟩
                  rw [← hr1] at q1 b1 hXY
                  rw [← hr2] at q2 b2 hXY
                  obtain ⟨rfl, rfl, rfl⟩ := hXY
                  have c2 : ((h : Int) == 0) = false := beq_eq_false_iff_ne.2 (by omega)
                  have c3 : decide ((h : Int) = 0) = false := decide_eq_false (by omega)
                  have c4 : ¬ (h : Int) = 0 := by omega
                  have c5 : ¬ h = 0 := by omega
                  clear hNq hh hr1 hr2
                  go_upto_region 46 with (go_at_call 57; refine (hcall _).mono ?_; rintro e w5 ⟨rfl, hb5⟩)
                  go_quiet (fail)
                  go_wp2_with fail
                  go_ret3
                  have hB2 := HB1.out.trans (HBj.out.mono HB1.out.size)
                  exact ⟨rfl, below_drewN (hB2.trans (hb5.mono hB2.size)) _⟩
end Go.Proofs.Ytehoaenkkmmobaa

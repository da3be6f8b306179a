/-
  LAYER 6: the law SearchReaches.
-/
import Derived.BigQuiet
import Derived.Test.YtehoaenkkmmobaaSrTa
namespace Go.Proofs.Ytehoaenkkmmobaa
open Go.RowKit Go.Shelf
theorem endS_ok {nP : Nat} {G : List (List Ed)} {D : List Int} {mo tu most : Int} (h0 : srchE nP G D mo tu most = 0) :
    TrOK (eOf G) G.length (dOf D) (endS G D mo tu most) ∧ ((endS G D mo tu most).trail.length < most.toNat → stay (eOf G) (dOf D) (endS G D mo tu most).at_ = true) := by
  obtain ⟨hmap, hmnd⟩ := srchE_zero h0
  obtain ⟨rfl, hv, -⟩ := mapB_vld hmap
  have htg : ∀ p, p < G.length → ∀ j, j < (eOf G p).length → tgt (eOf G) p j < G.length := fun p hp j hj => (eOf_tgt hv hp (by rw [← eOf_len hp]; exact hj)).2
  have h := run_ok (d := dOf D) (tu := tu.toNat) (mo := mo.toNat) htg most.toNat iniP (PInv.start hv.pos) (TrOK.start hv.pos)
  refine ⟨h.2.1, fun hl => h.2.2 ?_⟩
  rw [show iniP.trail.length = 0 from rfl, Nat.zero_add]
  exact hl
theorem add_zero' (a : Addr) : a.add 0 = a := by cases a; rename_i b o s; cases s <;> simp [Addr.add]
theorem eOf_len_gAt (G : List (List Ed)) (p : Nat) : (eOf G p).length = (gAt G p).length := by simp [eOf, gAt]
set_option maxRecDepth 100000 in
set_option maxHeartbeats 8000000 in
theorem reaches_law (AP AE AD : Option Addr) (nP cP cE cD : Nat) (G : List (List Ed)) (D : List Int) (mo tu most : Int) (w : World) (hm : MdR w AE AD G D) (hz : Szd nP G D) :
    Calls Try.prog 9 #[grV AP AE nP cP G.length cE, .slice AD D.length cD, .agg #[I mo, I tu, I most]] w fun e w' => e = .returned (.bool true) ∧ Below w.heap.size w w' := by
  obtain ⟨w1, hw1, hs1, y1, hb1⟩ := one_box w (.cells #[.slice AP nP cP, .slice AE G.length cE] 25)
  obtain ⟨w2, hw2, hs2, y2, hb2⟩ := one_box w1 (.cells #[I mo, I tu, I most] 42)
  have s0 : w.heap.size < w1.heap.size := by omega
  have hB2 := hb1.trans (hb2.mono hb1.size)
  have hc : ∀ V, Below w2.heap.size w2 V → V.cell? ⟨w.heap.size, 0, none⟩ = some (.slice AP nP cP) ∧ V.cell? ⟨w.heap.size, 1, none⟩ = some (.slice AE G.length cE) ∧ V.cell? ⟨w.heap.size + 1, 0, none⟩ = some (I mo) ∧ V.cell? ⟨w.heap.size + 1, 1, none⟩ = some (I tu) ∧ V.cell? ⟨w.heap.size + 1, 2, none⟩ = some (I most) ∧ MdR V AE AD G D := fun V hV => by
    rw [hs1] at y2
    refine ⟨(hV.cell (p := ⟨w.heap.size, 0, none⟩) (by show w.heap.size < _; omega)).trans ((hb2.cell (p := ⟨w.heap.size, 0, none⟩) s0).trans (cell_of_row w1 _ 0 _ _ _ y1)),
      (hV.cell (p := ⟨w.heap.size, 1, none⟩) (by show w.heap.size < _; omega)).trans ((hb2.cell (p := ⟨w.heap.size, 1, none⟩) s0).trans (cell_of_row w1 _ 1 _ _ _ y1)),
      (hV.cell (p := ⟨w.heap.size + 1, 0, none⟩) (by show w.heap.size + 1 < _; omega)).trans (cell_of_row w2 _ 0 _ _ _ y2),
      (hV.cell (p := ⟨w.heap.size + 1, 1, none⟩) (by show w.heap.size + 1 < _; omega)).trans (cell_of_row w2 _ 1 _ _ _ y2),
      (hV.cell (p := ⟨w.heap.size + 1, 2, none⟩) (by show w.heap.size + 1 < _; omega)).trans (cell_of_row w2 _ 2 _ _ _ y2), (hm.call hB2).call hV⟩
  have hla := large_any AP AE nP cP cE G w2 (hm.call hB2).g hz.p hz.e hz.es
  have hrc : ∀ V, Below w2.heap.size w2 V → Calls Try.prog 18 #[grV AP AE nP cP G.length cE, .slice AD D.length cD] V fun e w' => e = .returned (I (chkR nP G D)) ∧ Below V.heap.size V w' := fun V hV => rCheck_any AP AE AD nP cP cE cD G D V ((hm.call hB2).call hV) hz
  have hmu : ∀ V, Calls Try.prog 30 #[I most] V fun e w' => e = .returned (.bool (mchB most)) ∧ w' = V := fun V => much_any most V
  have hwk : ∀ V, Calls Try.prog 16 #[] V fun e w' => e = .returned (.bool true) ∧ Below V.heap.size V w' := fun V => works_any V
  obtain ⟨c0, c1, r0, r1, r2, -⟩ := hc w2 (Below.refl _ _)
  have W2 := hw2
  rw [hw1] at W2
  have HC := Lib.hid hc
  have HB2 := Lib.hid hB2
  have HM := Lib.hid hm
  have HZ := Lib.hid hz
  clear hw1 hw2 y1 y2 hb1 hb2 hc hm hz hB2
  obtain ⟨bl, hbl⟩ : ∃ b, b = larB nP G := ⟨_, rfl⟩
  rw [← hbl] at hla
  clear hbl
  cases bl with
  | true =>
    go_enter Try.func9, Try.ntmps9
    go_upto_region 1 with fail
    rw [← W2]
    clear W2
    go_wp2_with (first
      | (go_at_call 15; refine hla.mono ?_; rintro e w3 ⟨rfl, hb3⟩)
      | (go_at_call 16; refine (hwk _).mono ?_; rintro e w9 ⟨rfl, hb9⟩))
    go_ret
    have hB3 := HB2.out.trans (hb3.mono HB2.out.size)
    exact ⟨rfl, hB3.trans (hb9.mono hB3.size)⟩
  | false =>
    obtain ⟨E, hE⟩ : ∃ E, E = chkR nP G D := ⟨_, rfl⟩
    rw [← hE] at hrc
    clear hE
    by_cases hE0 : E = 0
    · subst hE0
      obtain ⟨bm, hbm⟩ : ∃ b, b = mchB most := ⟨_, rfl⟩
      rw [← hbm] at hmu
      clear hbm
      cases bm with
      | true =>
        go_enter Try.func9, Try.ntmps9
        go_upto_region 1 with fail
        rw [← W2]
        clear W2
        go_wp2_with (first
          | (go_at_call 15; refine hla.mono ?_; rintro e w3 ⟨rfl, hb3⟩; obtain ⟨c0, c1, r0, r1, r2, -⟩ := HC.out w3 hb3; have hrc3 := hrc w3 hb3)
          | (go_at_call 18; refine hrc3.mono ?_; rintro e w4 ⟨rfl, hb4'⟩; have hb4 := hb3.trans (hb4'.mono hb3.size); clear hb4' c0 c1 r0 r1 r2; obtain ⟨c0, c1, r0, r1, r2, -⟩ := HC.out w4 hb4)
          | (go_at_call 30; refine (hmu _).mono ?_; rintro e w' ⟨rfl, rfl⟩)
          | (go_at_call 16; refine (hwk _).mono ?_; rintro e w9 ⟨rfl, hb9⟩))
        go_ret
        have hB4 := HB2.out.trans (hb4.mono HB2.out.size)
        exact ⟨rfl, hB4.trans (hb9.mono hB4.size)⟩
      | false =>
        by_cases hse : srchE nP G D mo tu most = 0
        · obtain ⟨hmap, hmnd⟩ := srchE_zero hse
          obtain ⟨rfl, hv, hok⟩ := mapB_vld hmap
          obtain ⟨hT, hst⟩ := endS_ok hse
          have hlen := endS_len G D mo tu most
          simp only [mndB, wi, Bool.and_eq_true, decide_eq_true_eq] at hmnd
          have hsc : ∀ V, Below w2.heap.size w2 V → Calls Try.prog 31 #[grV AP AE G.length cP G.length cE, .slice AD D.length cD, .agg #[I mo, I tu], I most] V fun e w' => ∃ A c, e = .returned (.tuple #[.slice A (endS G D mo tu most).trail.length c, .bool (dOf D (endS G D mo tu most).at_ == 0), I 0]) ∧ IntsR w' w'.heap.size A (numI (endS G D mo tu most).trail) ∧ Below V.heap.size V w' := fun V hV => (Search_ok AP AE AD G.length cP cE cD G D mo tu most V (HC.out V hV).2.2.2.2.2 HZ.out hse).mono (by
            rintro e w' ⟨v, rfl, ht, hb⟩
            obtain ⟨A, c, rfl, hi⟩ := ht.ints
            exact ⟨A, c, rfl, hi, hb⟩)
          have hnr := near_of hv hok
          obtain ⟨S, hS⟩ : ∃ S, S = endS G D mo tu most := ⟨_, rfl⟩
          rw [← hS] at hT hst hlen hsc
          obtain ⟨L, hL⟩ : ∃ L, L = S.trail := ⟨_, rfl⟩
          rw [← hL] at hst hlen hsc
          obtain ⟨dn, hdn⟩ : ∃ dn, dn = (dOf D S.at_ == 0) := ⟨_, rfl⟩
          rw [← hdn] at hsc
          have hmx := hv.many
          have hpos := hv.pos
          have hfew := hv.few
          have hvl := hv.len
          have hat : S.at_ = posP (eOf G) L L.length := by rw [hL]; exact hT.at_
          have hed : ∀ k (h : k < L.length), L[k] < (gAt G (posP (eOf G) L k)).length ∧ nth D (posP (eOf G) L k) ≠ 0 ∧ posP (eOf G) L k < G.length ∧ ((gAt G (posP (eOf G) L k))[L[k]]?.map (·.to)) = some ((posP (eOf G) L (k + 1) : Nat) : Int) := fun k h => by
            subst hL
            have h1 := hT.ed k h
            have h2 := hT.lt k (by omega)
            rw [eOf_len h2] at h1
            have e1 := eOf_tgt hv h2 h1.1
            refine ⟨by rw [gAt_eq h2]; exact h1.1, h1.2, h2, ?_⟩
            rw [gAt_eq h2, List.getElem?_eq_getElem h1.1, Option.map_some, e1.1, posP_succ _ _ h]
          have hplt : posP (eOf G) L L.length < G.length := by subst hL; exact hT.lt _ (Nat.le_refl _)
          have hdone : dn = true → 0 ≤ nth D 0 ∧ nth D 0 ≤ L.length := fun h => by
            rw [hdn, beq_iff_eq] at h
            have := near_trail hnr hT h S.trail.length (Nat.le_refl _)
            rw [Nat.sub_self] at this
            rw [hL]
            exact this
          have hstop : dn = false → L.length < most.toNat → (gAt G (posP (eOf G) L L.length)).length = 0 := fun h1 h2 => by
            have := hst h2
            rw [stay, ← hdn, h1, Bool.false_or, hat] at this
            rw [← eOf_len_gAt]
            exact List.length_eq_zero_iff.2 (List.isEmpty_iff.1 this)
          have HED := Lib.hid hed
          have HPL := Lib.hid hplt
          have HDN := Lib.hid hdone
          have HST := Lib.hid hstop
          have HDP := Lib.hid (show nth D (posP (eOf G) L L.length) = dOf D S.at_ by rw [hat]; rfl)
          have HDE := Lib.hid hdn
          have HV := Lib.hid hvl
          clear hmap hok hT hst hS hL hdn hnr hat hed hplt hdone hstop hv hvl hse
          have hLm : (L.length : Int) ≤ most := by omega
          have hLl : L.length ≤ 2000 := by omega
          have hn0 : 0 ≤ most ∧ most ≤ 2000 := by omega
          clear hmnd hlen
          go_enter Try.func9, Try.ntmps9
          go_upto_region 1 with fail
          rw [← W2]
          clear W2
          go_upto_region 8 with (first
            | (go_at_call 15; refine hla.mono ?_; rintro e w3 ⟨rfl, hb3⟩; obtain ⟨c0, c1, r0, r1, r2, -⟩ := HC.out w3 hb3; have hrc3 := hrc w3 hb3)
            | (go_at_call 18; refine hrc3.mono ?_; rintro e w4 ⟨rfl, hb4'⟩; have hb4 := hb3.trans (hb4'.mono hb3.size); clear hb4' c0 c1 r0 r1 r2; obtain ⟨c0, c1, r0, r1, r2, -⟩ := HC.out w4 hb4; have hsc4 := hsc w4 hb4)
            | (go_at_call 30; refine (hmu _).mono ?_; rintro e w' ⟨rfl, rfl⟩)
            | (go_at_call 31; refine hsc4.mono ?_; rintro e w5 ⟨A, c, rfl, hi, hb5'⟩; have hb5 := hb4.trans (hb5'.mono hb4.size); clear hb5' c0 c1 r0 r1 r2))
          go_wp2_with fail
          have HB5 := Lib.hid hb5
          have HI := Lib.hid hi
          clear hi
          go_loopw [11, 10] (fun i p wr => ∃ k : Nat, k ≤ L.length ∧ i = .int .i64 k ∧ p = .int .i64 (posP (eOf G) L k : Nat) ∧ Below w5.heap.size w5 wr) (fun i _ _ => L.length - (intOf i).toNat)
          case atStart => exact ⟨0, Nat.zero_le _, rfl, rfl, Below.refl _ _⟩
          case round =>
            obtain ⟨k, hk, rfl, rfl, hB⟩ := hrel
            obtain ⟨wo, hwo⟩ : ∃ wo : World, wo = wr := ⟨_, rfl⟩
            rw [← hwo] at hB
            rw [← hwo]
            clear hwo
            have hB2o := HB5.out.trans (hB.mono HB5.out.size)
            obtain ⟨c0, c1, r0, r1, r2, hmo⟩ := HC.out wo hB2o
            have hio := ints_call hB HI.out
            have HBo := Lib.hid hB
            have HB2o := Lib.hid hB2o
            clear hB hB2o
            by_cases hlt : k < L.length
            · obtain ⟨he, hd, hp, hto⟩ := HED.out k hlt
              obtain ⟨e, hee⟩ : ∃ e, e = L[k] := ⟨_, rfl⟩
              obtain ⟨p, hpp⟩ : ∃ p, p = posP (eOf G) L k := ⟨_, rfl⟩
              obtain ⟨q, hqq⟩ : ∃ q, q = posP (eOf G) L (k + 1) := ⟨_, rfl⟩
              obtain ⟨ad, rfl, hbA, hcA⟩ := hio.at_ (k := k) (by rw [numI_length]; exact hlt)
              rw [numI_nth hlt, ← hee] at hcA
              rw [← hee, ← hpp] at he
              rw [← hpp] at hd hp
              rw [← hee, ← hpp, ← hqq] at hto
              rw [← hpp]
              obtain ⟨g, o, e1, hgl, Ap, cp, hcG, hEd⟩ := hmo.g.at_ hp
              subst e1
              rw [← gAt_eq hp] at hcG hEd
              have hq1 : p < D.length := by have := HV.out; omega
              obtain ⟨aD, e2, hbD, hcD⟩ := hmo.d.at_ hq1
              subst e2
              obtain ⟨es, hes⟩ : ∃ es, es = gAt G p := ⟨_, rfl⟩
              rw [← hes] at he hto hcG hEd
              obtain ⟨g2, o2, e3, hg2, -, -, -, x3⟩ := hEd.at_ he
              subst e3
              have x3' : wo.cell? ⟨g2, o2 + e * 4 + 3, none⟩ = some (I q) := by
                rw [List.getElem?_eq_getElem he] at hto
                simp only [Option.map_some, Option.some.injEq] at hto
                rw [x3, hto]
              obtain ⟨d, hdd⟩ : ∃ d, d = nth D p := ⟨_, rfl⟩
              rw [← hdd] at hd hcD
              have hfe : es.length ≤ 100000 := by rw [hes, gAt_eq hp]; have := hfew p hp; omega
              have d1 : decide ((e : Int) < 0) = false := decide_eq_false (by omega)
              have d2 : decide ((es.length : Int) ≤ (e : Int)) = false := decide_eq_false (by omega)
              have d2' : decide (es.length ≤ e) = false := decide_eq_false (by omega)
              have d3 : (d == 0) = false := by simpa using hd
              have d3' : decide (d = 0) = false := decide_eq_false hd
              have HQQ := Lib.hid hqq
              clear x3 hto hEd hdd hes hee hpp hqq hmo hio hd
              go_upto_region 10 with fail
              go_quiet (fail)
              go_wp2_with fail
              go_quiet (fail)
              go_wp2_with fail
              go_roundw
              case rel => exact ⟨k + 1, by omega, by go_num, by rw [← HQQ.out], below_drewN HBo.out _⟩
              case measure => simp [intOf]; omega
            · obtain rfl : k = L.length := by omega
              obtain ⟨p, hpp⟩ : ∃ p, p = posP (eOf G) L L.length := ⟨_, rfl⟩
              have hp := HPL.out
              have hst := HST.out
              have hdp := HDP.out
              rw [← hpp] at hp hst hdp
              rw [← hpp]
              obtain ⟨g, o, e1, hgl, Ap, cp, hcG, -⟩ := hmo.g.at_ hp
              subst e1
              rw [← gAt_eq hp] at hcG
              have hq1 : p < D.length := by have := HV.out; omega
              obtain ⟨aD, e2, hbD, hcD⟩ := hmo.d.at_ hq1
              subst e2
              obtain ⟨aD', e2, -, hc0⟩ := hmo.d.at_ (k := 0) (by omega)
              obtain rfl : aD = aD' := by injection e2
              have hc0' : wo.cell? aD = some (I (nth D 0)) := by rw [← add_zero' aD]; exact hc0
              have hde := HDE.out
              rw [← hdp] at hde
              obtain ⟨d, hdd⟩ : ∃ d, d = nth D p := ⟨_, rfl⟩
              rw [← hdd] at hcD hde
              obtain ⟨el, hel⟩ : ∃ el, el = (gAt G p).length := ⟨_, rfl⟩
              rw [← hel] at hcG hst
              obtain ⟨z, hz⟩ : ∃ z, z = nth D 0 := ⟨_, rfl⟩
              have hdn := HDN.out
              rw [← hz] at hdn hc0 hc0'
              clear e2 hdd hel hpp hz hmo hdp hio
              have l1 : decide (most < (L.length : Int)) = false := decide_eq_false (by omega)
              cases dn with
              | true =>
                obtain ⟨z0, z1⟩ := hdn rfl
                have hd0 : d = 0 := by simpa using hde.symm
                subst hd0
                have k1 : decide (0 ≤ z) = true := decide_eq_true z0
                have k2 : decide (z ≤ (L.length : Int)) = true := decide_eq_true z1
                clear hde hst hdn z0 z1
                go_wp2_with (go_at_call 16; refine (hwk _).mono ?_; rintro e w9 ⟨rfl, hb9⟩)
                go_ret
                have hB5 := HB2.out.trans (HB5.out.mono HB2.out.size)
                have hBo := hB5.trans (HBo.out.mono hB5.size)
                exact ⟨rfl, hBo.trans (hb9.mono hBo.size)⟩
              | false =>
                have hd0 : (d == 0) = false := hde.symm
                have hd0' : decide (d = 0) = false := by simpa using hd0
                clear hdn hde
                by_cases hlm : (L.length : Int) < most
                · have hel0 : el = 0 := hst rfl (by omega)
                  subst hel0
                  have l2 : decide ((L.length : Int) < most) = true := decide_eq_true hlm
                  clear hst hlm
                  go_wp2_with (go_at_call 16; refine (hwk _).mono ?_; rintro e w9 ⟨rfl, hb9⟩)
                  go_ret
                  have hB5 := HB2.out.trans (HB5.out.mono HB2.out.size)
                  have hBo := hB5.trans (HBo.out.mono hB5.size)
                  exact ⟨rfl, hBo.trans (hb9.mono hBo.size)⟩
                · have l2 : decide ((L.length : Int) < most) = false := decide_eq_false hlm
                  clear hst hlm
                  go_wp2_with (go_at_call 16; refine (hwk _).mono ?_; rintro e w9 ⟨rfl, hb9⟩)
                  go_ret
                  have hB5 := HB2.out.trans (HB5.out.mono HB2.out.size)
                  have hBo := hB5.trans (HBo.out.mono hB5.size)
                  exact ⟨rfl, hBo.trans (hb9.mono hBo.size)⟩
        · have hsc : ∀ V, Below w2.heap.size w2 V → Calls Try.prog 31 #[grV AP AE nP cP G.length cE, .slice AD D.length cD, .agg #[I mo, I tu], I most] V fun e w' => e = .returned (.tuple #[.slice none 0 0, .bool false, I (srchE nP G D mo tu most)]) ∧ Below V.heap.size V w' := fun V hV => Search_err AP AE AD nP cP cE cD G D mo tu most V (HC.out V hV).2.2.2.2.2 HZ.out hse
          obtain ⟨F, hF⟩ : ∃ F, F = srchE nP G D mo tu most := ⟨_, rfl⟩
          rw [← hF] at hsc hse
          have q1 : (F != 0) = true := by simpa using hse
          clear hF hse
          go_enter Try.func9, Try.ntmps9
          go_upto_region 1 with fail
          rw [← W2]
          clear W2
          go_wp2_with (first
            | (go_at_call 15; refine hla.mono ?_; rintro e w3 ⟨rfl, hb3⟩; obtain ⟨c0, c1, r0, r1, r2, -⟩ := HC.out w3 hb3; have hrc3 := hrc w3 hb3)
            | (go_at_call 18; refine hrc3.mono ?_; rintro e w4 ⟨rfl, hb4'⟩; have hb4 := hb3.trans (hb4'.mono hb3.size); clear hb4' c0 c1 r0 r1 r2; obtain ⟨c0, c1, r0, r1, r2, -⟩ := HC.out w4 hb4; have hsc4 := hsc w4 hb4)
            | (go_at_call 30; refine (hmu _).mono ?_; rintro e w' ⟨rfl, rfl⟩)
            | (go_at_call 31; refine hsc4.mono ?_; rintro e w5 ⟨rfl, hb5⟩)
            | (go_at_call 16; refine (hwk _).mono ?_; rintro e w9 ⟨rfl, hb9⟩))
          go_ret
          have hB4 := HB2.out.trans (hb4.mono HB2.out.size)
          have hB5 := hB4.trans (hb5.mono hB4.size)
          exact ⟨rfl, hB5.trans (hb9.mono hB5.size)⟩
    · have q1 : (E != 0) = true := by simpa using hE0
      clear hE0
      go_enter Try.func9, Try.ntmps9
      go_upto_region 1 with fail
      rw [← W2]
      clear W2
      go_wp2_with (first
        | (go_at_call 15; refine hla.mono ?_; rintro e w3 ⟨rfl, hb3⟩; obtain ⟨c0, c1, r0, r1, r2, -⟩ := HC.out w3 hb3; have hrc3 := hrc w3 hb3)
        | (go_at_call 18; refine hrc3.mono ?_; rintro e w4 ⟨rfl, hb4'⟩; have hb4 := hb3.trans (hb4'.mono hb3.size); clear hb4')
        | (go_at_call 16; refine (hwk _).mono ?_; rintro e w9 ⟨rfl, hb9⟩))
      go_ret
      have hB4 := HB2.out.trans (hb4.mono HB2.out.size)
      exact ⟨rfl, hB4.trans (hb9.mono hB4.size)⟩
end Go.Proofs.Ytehoaenkkmmobaa

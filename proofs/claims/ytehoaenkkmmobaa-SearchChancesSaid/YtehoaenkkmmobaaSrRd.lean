/-
  LAYER 6, CONTRACT: the document's Check.
-/
import Derived.Test.YtehoaenkkmmobaaSrRc
namespace Go.Proofs.Ytehoaenkkmmobaa
open Go.RowKit Go.Shelf
def rst (D : List Int) (l : Int) (e : Ed) : Int := if decide (0 ≤ nth D e.to.toNat) && (decide (l < 0) || decide (nth D e.to.toNat < l)) then nth D e.to.toNat else l
def rlt (D : List Int) (es : List Ed) (k : Nat) : Int := (es.take k).foldl (rst D) (-1)
theorem rlt_succ (D : List Int) (es : List Ed) {k : Nat} (h : k < es.length) : rlt D es (k + 1) = rst D (rlt D es k) es[k] := by
  rw [rlt, rlt, List.take_succ_eq_append_getElem h, List.foldl_append]; rfl
def rwt (D : List Int) (es : List Ed) : Int := if 0 ≤ rlt D es es.length then wrap64 (rlt D es es.length + 1) else -1
def inE (nP : Nat) (e : Ed) : Bool := wi e.to 0 ((nP : Int) - 1)
def okR (nP : Nat) (G : List (List Ed)) (D : List Int) (p : Nat) : Bool := decide ((gAt G p).length ≤ 100) && (gAt G p).all (inE nP) && ((nth D p == 0) || (nth D p == rwt D (gAt G p)))
def rhB (nP : Nat) (G : List (List Ed)) (D : List Int) : Bool := wi nP 1 300 && decide (G.length = nP) && decide (D.length = nP)
def chkR (nP : Nat) (G : List (List Ed)) (D : List Int) : Int := if rhB nP G D && (List.range nP).all (okR nP G D) then 0 else 60
theorem chkR_bad {nP : Nat} {G : List (List Ed)} {D : List Int} {p : Nat} (hp : p < nP) (h : okR nP G D p = false) : chkR nP G D = 60 := by
  have : (List.range nP).all (okR nP G D) = false := by
    rw [List.all_eq_false]
    exact ⟨p, List.mem_range.2 hp, by rw [h]; simp⟩
  rw [chkR, this, Bool.and_false]; rfl
set_option maxRecDepth 100000 in
set_option maxHeartbeats 8000000 in
theorem rCheck_any (AP AE AD : Option Addr) (nP cP cE cD : Nat) (G : List (List Ed)) (D : List Int) (w : World) (hm : MdR w AE AD G D) (hz : Szd nP G D) :
    Calls Try.prog 18 #[grV AP AE nP cP G.length cE, .slice AD D.length cD] w fun e w' => e = .returned (I (chkR nP G D)) ∧ Below w.heap.size w w' := by
  obtain ⟨w1, hw1, hs1, y0, hb1⟩ := one_box w (.cells #[.slice AP nP cP, .slice AE G.length cE] 25)
  have a0 : w1.cell? ⟨w.heap.size, 0, none⟩ = some (.slice AP nP cP) := cell_of_row w1 _ 0 _ _ _ y0
  have a1 : w1.cell? ⟨w.heap.size, 1, none⟩ = some (.slice AE G.length cE) := cell_of_row w1 _ 1 _ _ _ y0
  have hm1 := hm.call hb1
  have HG := Lib.hid hm1.g
  have HD := Lib.hid hm1.d
  have HES := Lib.hid hz.es
  have hP' := hz.p
  have hE' := hz.e
  have hD' := hz.d
  unfold maxLen at hP' hE' hD'
  have hwi : ∀ V, Calls Try.prog 46 #[I nP, I 1, I 300] V fun e w' => e = .returned (.bool (wi nP 1 300)) ∧ V = w' := fun V => rWithin_any _ _ _ _
  clear hm hm1 hz y0
  cases q1 : wi nP 1 300 with
  | false =>
    have HQ := Lib.hid (show chkR nP G D = 60 by rw [chkR, rhB, q1]; rfl)
    rw [q1] at hwi
    clear q1
    go_enter Try.func18, Try.ntmps18
    go_upto_region 1 with fail
    rw [← hw1]
    clear hw1
    go_wp2_with (go_at_call 46; refine (hwi _).mono ?_; rintro e w' ⟨rfl, rfl⟩)
    go_ret
    exact ⟨ret_int HQ.out.symm, hb1⟩
  | true =>
    have hn : 1 ≤ nP ∧ nP ≤ 300 := by
      have : (1 : Int) ≤ nP ∧ (nP : Int) ≤ 300 := by simpa [wi] using q1
      omega
    have Q1 := Lib.hid q1
    rw [q1] at hwi
    clear q1
    by_cases q2 : G.length = nP
    · by_cases q3 : D.length = nP
      · subst q2
        have HQ := Lib.hid (show rhB G.length G D = true by rw [rhB, Q1.out, decide_eq_true q3]; simp)
        have d3 : ((G.length : Int) != (G.length : Int)) = false := by simp
        have e3 : ((D.length : Int) != (G.length : Int)) = false := by simp; omega
        have hDl : D.length ≤ 300 := by omega
        have Q3 := Lib.hid q3
        clear q3
        go_enter Try.func18, Try.ntmps18
        go_upto_region 1 with fail
        rw [← hw1]
        clear hw1
        go_wp2_with (go_at_call 46; refine (hwi _).mono ?_; rintro e w' ⟨rfl, rfl⟩)
        clear hwi
        go_loopw [6] (fun i wr => ∃ k : Nat, k ≤ G.length ∧ i = .int .i64 k ∧ wr = w1 ∧ Hid ((List.range k).all (okR G.length G D) = true)) (fun i _ => G.length - (intOf i).toNat)
        case atStart => exact ⟨0, Nat.zero_le _, rfl, rfl, Lib.hid rfl⟩
        case round =>
          obtain ⟨k, hk, rfl, rfl, HA⟩ := hrel
          by_cases hlt : k < G.length
          · obtain ⟨g, o, rfl, hgl, Ap, cp, hc, hcE⟩ := HG.out.at_ hlt
            have hltD : k < D.length := by have := Q3.out; omega
            obtain ⟨ad, rfl, hbA, hcD⟩ := HD.out.at_ hltD
            have hgk := gAt_eq hlt
            have hel := HES.out _ (List.getElem_mem hlt)
            obtain ⟨es, hes⟩ : ∃ es, es = G[k] := ⟨_, rfl⟩
            rw [← hes] at hc hcE hgk hel
            have hO : okR G.length G D k = (decide (es.length ≤ 100) && es.all (inE G.length) && ((nth D k == 0) || (nth D k == rwt D es))) := by rw [okR, hgk]
            have HO := Lib.hid hO
            have HCE := Lib.hid hcE
            have HBAD := Lib.hid (fun (h : okR G.length G D k = false) => chkR_bad hlt h)
            clear hes hgk hO hcE
            unfold maxLen at hel
            by_cases h100 : 100 < es.length
            · have c1 : decide ((100 : Int) < (es.length : Int)) = true := decide_eq_true (by omega)
              have c2 : decide (100 < es.length) = true := decide_eq_true h100
              have HN := Lib.hid (HBAD.out (by rw [HO.out, decide_eq_false (by omega)]; rfl))
              clear h100
              go_wp2_with fail
              go_ret
              exact ⟨ret_int HN.out.symm, hb1⟩
            · have c1 : decide ((100 : Int) < (es.length : Int)) = false := decide_eq_false (by omega)
              have c2 : decide (100 < es.length) = false := decide_eq_false h100
              go_wp2_with fail
              obtain ⟨wy, hwy⟩ : ∃ wy : World, wy = wr := ⟨_, rfl⟩
              rw [← hwy]
              go_loopw [8, 7] (fun i l ws => ∃ j : Nat, j ≤ es.length ∧ i = .int .i64 j ∧ l = .int .i64 (rlt D es j) ∧ ws = wy ∧ Hid ((es.take j).all (inE G.length) = true)) (fun i _ _ => es.length - (intOf i).toNat)
              case atStart => exact ⟨0, Nat.zero_le _, rfl, rfl, rfl, Lib.hid rfl⟩
              case round =>
                obtain ⟨j, hj, rfl, rfl, rfl, HJ⟩ := hrel
                subst hwy
                by_cases hjl : j < es.length
                · obtain ⟨g2, o2, rfl, hb2, x0, x1, x2, x3⟩ := HCE.out.at_ hjl
                  have HS := Lib.hid (rlt_succ D es hjl)
                  obtain ⟨x, hx⟩ : ∃ x, x = es[j] := ⟨_, rfl⟩
                  rw [← hx] at x0 x1 x2 x3 HS
                  have HX := Lib.hid hx
                  clear hx x0 x1 x2
                  obtain ⟨l, hl⟩ : ∃ l, l = rlt D es j := ⟨_, rfl⟩
                  rw [← hl] at HS ⊢
                  clear hl
                  cases hq : inE G.length x with
                  | false =>
                    have HN := Lib.hid (HBAD.out (by
                      have : es.all (inE G.length) = false := by
                        rw [List.all_eq_false]
                        exact ⟨es[j], List.getElem_mem hjl, by rw [← HX.out, hq]; simp⟩
                      rw [HO.out, this, Bool.and_false]; rfl))
                    have hwx : ∀ V, Calls Try.prog 46 #[I x.to, I 0, I ((G.length : Int) - 1)] V fun e w' => e = .returned (.bool false) ∧ V = w' := fun V => by
                      have := rWithin_any x.to 0 ((G.length : Int) - 1) V
                      rw [show wi x.to 0 ((G.length : Int) - 1) = false from hq] at this
                      exact this
                    clear hq
                    go_wp2_with (go_at_call 46; refine (hwx _).mono ?_; rintro e w' ⟨rfl, rfl⟩)
                    go_ret
                    exact ⟨ret_int HN.out.symm, hb1⟩
                  | true =>
                    have HJ2 := Lib.hid (show (es.take (j + 1)).all (inE G.length) = true from all_take_snocL _ es j hjl HJ.out (by rw [← HX.out]; exact hq))
                    have hwx : ∀ V, Calls Try.prog 46 #[I x.to, I 0, I ((G.length : Int) - 1)] V fun e w' => e = .returned (.bool true) ∧ V = w' := fun V => by
                      have := rWithin_any x.to 0 ((G.length : Int) - 1) V
                      rw [show wi x.to 0 ((G.length : Int) - 1) = true from hq] at this
                      exact this
                    have hto : 0 ≤ x.to ∧ x.to ≤ (G.length : Int) - 1 := by simpa [inE, wi] using hq
                    obtain ⟨t, hte⟩ : ∃ t : Nat, x.to = t := ⟨x.to.toNat, by omega⟩
                    have HT := Lib.hid (show x.to.toNat = t by rw [hte]; rfl)
                    rw [hte] at x3 hwx hto
                    have htD : t < D.length := by have := Q3.out; omega
                    obtain ⟨ad2, e2, hbA2, hcD2⟩ := HD.out.at_ htD
                    obtain rfl : ad = ad2 := by injection e2
                    clear e2
                    obtain ⟨d, hd⟩ : ∃ d, d = nth D t := ⟨_, rfl⟩
                    rw [← hd] at hcD2
                    have HSd := Lib.hid (show rlt D es (j + 1) = if decide (0 ≤ d) && (decide (l < 0) || decide (d < l)) then d else l by rw [HS.out, rst, HT.out, ← hd])
                    clear hq hte hd HS
                    by_cases h1 : 0 ≤ d
                    · have c1 : decide (0 ≤ d) = true := decide_eq_true h1
                      by_cases h2 : l < 0
                      · have c2 : decide (l < 0) = true := decide_eq_true h2
                        have HN := Lib.hid (show rlt D es (j + 1) = d by rw [HSd.out, c1, c2]; rfl)
                        clear h1 h2
                        go_wp2_with (go_at_call 46; refine (hwx _).mono ?_; rintro e w' ⟨rfl, rfl⟩)
                        go_roundw
                        case rel => exact ⟨j + 1, by omega, by go_num, by rw [HN.out], trivial, HJ2⟩
                        case measure => simp [intOf]; omega
                      · have c2 : decide (l < 0) = false := decide_eq_false h2
                        by_cases h3 : d < l
                        · have c3 : decide (d < l) = true := decide_eq_true h3
                          have HN := Lib.hid (show rlt D es (j + 1) = d by rw [HSd.out, c1, c2, c3]; rfl)
                          clear h1 h2 h3
                          go_wp2_with (go_at_call 46; refine (hwx _).mono ?_; rintro e w' ⟨rfl, rfl⟩)
                          go_roundw
                          case rel => exact ⟨j + 1, by omega, by go_num, by rw [HN.out], trivial, HJ2⟩
                          case measure => simp [intOf]; omega
                        · have c3 : decide (d < l) = false := decide_eq_false h3
                          have HN := Lib.hid (show rlt D es (j + 1) = l by rw [HSd.out, c1, c2, c3]; rfl)
                          clear h1 h2 h3
                          go_wp2_with (go_at_call 46; refine (hwx _).mono ?_; rintro e w' ⟨rfl, rfl⟩)
                          go_roundw
                          case rel => exact ⟨j + 1, by omega, by go_num, by rw [HN.out], trivial, HJ2⟩
                          case measure => simp [intOf]; omega
                    · have c1 : decide (0 ≤ d) = false := decide_eq_false h1
                      have HN := Lib.hid (show rlt D es (j + 1) = l by rw [HSd.out, c1]; rfl)
                      clear h1
                      go_wp2_with (go_at_call 46; refine (hwx _).mono ?_; rintro e w' ⟨rfl, rfl⟩)
                      go_roundw
                      case rel => exact ⟨j + 1, by omega, by go_num, by rw [HN.out], trivial, HJ2⟩
                      case measure => simp [intOf]; omega
                · obtain rfl : j = es.length := by omega
                  have HAL := Lib.hid (show es.all (inE G.length) = true by have := HJ.out; rwa [List.take_length] at this)
                  have HO2 := Lib.hid (show okR G.length G D k = ((nth D k == 0) || (nth D k == rwt D es)) by rw [HO.out, HAL.out, decide_eq_true (by omega)]; rfl)
                  obtain ⟨l, hl⟩ : ∃ l, l = rlt D es es.length := ⟨_, rfl⟩
                  rw [← hl]
                  obtain ⟨wt, hwt⟩ : ∃ wt, wt = rwt D es := ⟨_, rfl⟩
                  obtain ⟨d, hd⟩ : ∃ d, d = nth D k := ⟨_, rfl⟩
                  have HW := Lib.hid (show wt = if 0 ≤ l then wrap64 (l + 1) else -1 by rw [hwt, rwt, ← hl])
                  rw [← hd] at hcD
                  have HO3 := Lib.hid (show okR G.length G D k = ((d == 0) || (d == wt)) by rw [HO2.out, ← hd, ← hwt])
                  clear hl hwt hd
                  have HGOOD := Lib.hid (fun (h : okR G.length G D k = true) => (Lib.hid (range_all_succ HA.out h) : Hid ((List.range (k + 1)).all (okR G.length G D) = true)))
                  by_cases h1 : 0 ≤ l
                  · have c1 : decide (0 ≤ l) = true := decide_eq_true h1
                    have w1' : wrap64 (l + 1) = wt := by rw [HW.out, if_pos h1]
                    have w2' : IntKind.i64.wrap (l + 1) = wt := by rw [← w1']; exact IntWalk.i64_left _
                    clear h1
                    by_cases h2 : d = 0
                    · have c2 : (d != 0) = false := by simp [h2]
                      have HN := HGOOD.out (by rw [HO3.out, h2]; rfl)
                      clear h2
                      go_wp2_with fail
                      go_roundw
                      case rel => exact ⟨k + 1, by omega, by go_num, trivial, HN⟩
                      case measure => simp [intOf]; omega
                    · have c2 : (d != 0) = true := by simpa using h2
                      by_cases h3 : d = wt
                      · have c3 : (d != wt) = false := by simp [h3]
                        have HN := HGOOD.out (by rw [HO3.out, h3]; simp)
                        clear h2 h3
                        go_wp2_with fail
                        go_roundw
                        case rel => exact ⟨k + 1, by omega, by go_num, trivial, HN⟩
                        case measure => simp [intOf]; omega
                      · have c3 : (d != wt) = true := by simpa using h3
                        have HN := Lib.hid (HBAD.out (by rw [HO3.out]; simp [h2, h3]))
                        clear h2 h3
                        go_wp2_with fail
                        go_ret
                        exact ⟨ret_int HN.out.symm, hb1⟩
                  · have c1 : decide (0 ≤ l) = false := decide_eq_false h1
                    have w1' : wt = -1 := by rw [HW.out, if_neg h1]
                    subst w1'
                    clear h1
                    by_cases h2 : d = 0
                    · have c2 : (d != 0) = false := by simp [h2]
                      have HN := HGOOD.out (by rw [HO3.out, h2]; rfl)
                      clear h2
                      go_wp2_with fail
                      go_roundw
                      case rel => exact ⟨k + 1, by omega, by go_num, trivial, HN⟩
                      case measure => simp [intOf]; omega
                    · have c2 : (d != 0) = true := by simpa using h2
                      by_cases h3 : d = -1
                      · have c3 : (d != -1) = false := by simp [h3]
                        have HN := HGOOD.out (by rw [HO3.out, h3]; simp)
                        clear h2 h3
                        go_wp2_with fail
                        go_roundw
                        case rel => exact ⟨k + 1, by omega, by go_num, trivial, HN⟩
                        case measure => simp [intOf]; omega
                      · have c3 : (d != -1) = true := by simpa using h3
                        have HN := Lib.hid (HBAD.out (by rw [HO3.out]; simp [h2, h3]))
                        clear h2 h3
                        go_wp2_with fail
                        go_ret
                        exact ⟨ret_int HN.out.symm, hb1⟩
          · obtain rfl : k = G.length := by omega
            have HN := Lib.hid (show chkR G.length G D = 0 by rw [chkR, HQ.out, HA.out]; rfl)
            go_wp2_with fail
            go_ret
            exact ⟨ret_int HN.out.symm, hb1⟩
      · have HQ := Lib.hid (show chkR nP G D = 60 by rw [chkR, rhB, decide_eq_false q3]; simp)
        have d3 : ((G.length : Int) != (nP : Int)) = false := by simp; omega
        have e3 : ((D.length : Int) != (nP : Int)) = true := by simp; omega
        clear q2 q3
        go_enter Try.func18, Try.ntmps18
        go_upto_region 1 with fail
        rw [← hw1]
        clear hw1
        go_wp2_with (go_at_call 46; refine (hwi _).mono ?_; rintro e w' ⟨rfl, rfl⟩)
        go_ret
        exact ⟨ret_int HQ.out.symm, hb1⟩
    · have HQ := Lib.hid (show chkR nP G D = 60 by rw [chkR, rhB, decide_eq_false q2]; simp)
      have d3 : ((G.length : Int) != (nP : Int)) = true := by simp; omega
      clear q2
      go_enter Try.func18, Try.ntmps18
      go_upto_region 1 with fail
      rw [← hw1]
      clear hw1
      go_wp2_with (go_at_call 46; refine (hwi _).mono ?_; rintro e w' ⟨rfl, rfl⟩)
      go_ret
      exact ⟨ret_int HQ.out.symm, hb1⟩
end Go.Proofs.Ytehoaenkkmmobaa

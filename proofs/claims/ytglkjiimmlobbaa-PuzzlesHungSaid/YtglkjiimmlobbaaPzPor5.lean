/-
  CONTRACTS: the gallery's check, CheckPortraits. (Written by gen/por5_make.py.)
-/
import Derived.Test.YtglkjiimmlobbaaPzPor4
namespace Go.Proofs.Ytglkjiimmlobbaa
open Go.RowKit Go.Shelf
theorem fst_three (a b c : Int) : fstErr [a, b, c] = if a = 0 then (if b = 0 then c else b) else a := by
  simp only [fstErr]
  by_cases h : a = 0
  · rw [if_pos h, if_pos h]
    by_cases h2 : b = 0
    · rw [if_pos h2, if_pos h2]
      by_cases h3 : c = 0
      · rw [if_pos h3, h3]
      · rw [if_neg h3]
    · rw [if_neg h2, if_neg h2]
  · rw [if_neg h, if_neg h]
/-- the errors of portraits -/
def porE (n : Int) (ps : List Por) : Int := if wi n 1 6 then (if ps.length ≤ 20 then (if ps.all (porM (n - 1) n) then 0 else 31) else 2) else 1
theorem any_not2 (f : Por → Bool) (ps : List Por) : (!ps.any fun p => !f p) = ps.all f := by
  induction ps with
  | nil => rfl
  | cons p r ih => simp only [List.any_cons, List.all_cons, Bool.not_or, Bool.not_not]; rw [ih]
theorem porE_ok {n : Int} {ps : List Por} (h : porE n ps = 0) : (1 ≤ n ∧ n ≤ 6) ∧ ps.length ≤ 20 ∧ ps.all (porM (n - 1) n) = true := by
  rw [porE] at h
  cases h1 : wi n 1 6
  · rw [h1] at h; simp at h
  · rw [h1, if_pos rfl] at h
    by_cases h2 : ps.length ≤ 20
    · rw [if_pos h2] at h
      cases h3 : ps.all (porM (n - 1) n)
      · rw [h3] at h; simp at h
      · exact ⟨by simpa [wi] using h1, h2, rfl⟩
    · rw [if_neg h2] at h; simp at h

set_option maxRecDepth 100000 in
set_option maxHeartbeats 4000000 in
theorem gcheck_any (n : Int) (A : Option Addr) (c : Nat) (ps : List Por) (w : World) (hp : PorR w w.heap.size A ps) (hpl : ps.length ≤ maxLen) :
    Calls Try.prog 113 #[galV n A ps.length c] w fun e w' => e = .returned (I (porE n ps)) ∧ Below w.heap.size w w' := by
  have hpl' := hpl
  unfold maxLen at hpl'
  obtain ⟨w1, hw1, s1, y1, hb1⟩ := one_box w (.cells #[I n, .slice A ps.length c] 127)
  have g0 : w1.cell? ⟨w.heap.size, 0, none⟩ = some (I n) := cell_of_row w1 _ 0 _ _ _ y1
  have g1 : w1.cell? ⟨w.heap.size, 1, none⟩ = some (.slice A ps.length c) := cell_of_row w1 _ 1 _ _ _ y1
  have hsw : w.heap.size < w1.heap.size := by omega
  have hp1 := por_call hb1 hp
  obtain ⟨M, hM⟩ : ∃ M, M = wrap64 (n - 1) := ⟨_, rfl⟩
  obtain ⟨b1, hb1e⟩ : ∃ b1, b1 = wi n 1 6 := ⟨_, rfl⟩
  obtain ⟨b2, hb2e⟩ : ∃ b2, b2 = decide ((ps.length : Int) ≤ 20) := ⟨_, rfl⟩
  obtain ⟨q3, hq3⟩ : ∃ q3, q3 = ps.any (fun p => !porM M n p) := ⟨_, rfl⟩
  obtain ⟨b3, hb3e⟩ : ∃ b3, b3 = !q3 := ⟨_, rfl⟩
  obtain ⟨E1, hE1⟩ : ∃ E1 : Int, E1 = if b1 then 0 else 1 := ⟨_, rfl⟩
  obtain ⟨E2, hE2⟩ : ∃ E2 : Int, E2 = if b2 then 0 else 2 := ⟨_, rfl⟩
  obtain ⟨E3, hE3⟩ : ∃ E3 : Int, E3 = if b3 then 0 else 31 := ⟨_, rfl⟩
  obtain ⟨E, hE⟩ : ∃ E, E = fstErr [E1, E2, E3] := ⟨_, rfl⟩
  have C0 : ∀ V, Calls Try.prog 65 #[I n, I 1, I 6] V fun e w' => e = .returned (.bool b1) ∧ V = w' := fun V => by rw [hb1e]; exact within_any _ _ _ _
  have C1 : ∀ V, Calls Try.prog 64 #[.bool b1, I 1] V fun e w' => e = .returned (I E1) ∧ w' = V := fun V => by rw [hE1]; exact unless_any b1 1 V
  have C2 : ∀ V, Calls Try.prog 64 #[.bool b2, I 2] V fun e w' => e = .returned (I E2) ∧ w' = V := fun V => by rw [hE2]; exact unless_any b2 2 V
  have C3 : ∀ V, Calls Try.prog 64 #[.bool b3, I 31] V fun e w' => e = .returned (I E3) ∧ w' = V := fun V => by rw [hE3]; exact unless_any b3 31 V
  have C4 : ∀ V, PorR V V.heap.size A ps → Calls Try.prog 143 #[.slice A ps.length c, .func (.func 144) #[galV n A ps.length c] #[]] V fun e w' => e = .returned (.bool q3) ∧ Below V.heap.size V w' := fun V hV => by
    rw [hq3]; exact hasf_non n M A ps.length c A c ps V hV hpl (Lib.hid hM.symm)
  have C5 : ∀ (V : World) (B : Option Addr) (k : Nat), IntsR V V.heap.size B [E1, E2, E3] → Calls Try.prog 62 #[.slice B 3 k] V fun e w' => e = .returned (I E) ∧ w' = V := fun V B k h => by
    rw [hE]; exact (first_any B k [E1, E2, E3] V h (by simp [maxLen])).mono fun e w' ⟨p, q⟩ => ⟨p, q.symm⟩
  have HEE := Lib.hid (show E = porE n ps by
    rw [hE, fst_three, hE1, hE2, hE3, hb3e, hq3, hb2e, hb1e, porE]
    cases h1 : wi n 1 6
    · rfl
    · have hn : 1 ≤ n ∧ n ≤ 6 := by simpa [wi] using h1
      have e : M = n - 1 := by rw [hM]; exact IntWalk.wrap64_in _ ⟨by omega, by omega⟩
      rw [e, any_not2]
      simp only [if_true]
      by_cases h2 : ps.length ≤ 20
      · rw [decide_eq_true (show (ps.length : Int) ≤ 20 by omega), if_pos h2]; simp
      · rw [decide_eq_false (show ¬ (ps.length : Int) ≤ 20 by omega), if_neg h2]; simp)
  have d1 : decide ((ps.length : Int) ≤ 20) = b2 := hb2e.symm
  have d2 : decide (ps.length ≤ 20) = b2 := by rw [hb2e]; exact decide_eq_decide.2 (by omega)
  have d3 : (!q3) = b3 := hb3e.symm
  clear y1 s1 hp hM hb1e hb2e hq3 hb3e hE1 hE2 hE3 hE
  go_enter Try.func113, Try.ntmps113
  go_upto_region 1 with fail
  rw [← hw1]
  clear hw1
  go_region_held3 (fun w' => Below w1.heap.size w1 w' ∧ (∀ b o, b < w1.heap.size → w'.cell? ⟨b, o, none⟩ = w1.cell? ⟨b, o, none⟩))
    (first | exact keptS_drew _ | exact keptS_call (by assumption) hb | exact keptS_alloc (by assumption) _ | assumption)
    (first
      | (go_at_call 65; refine (C0 _).mono ?_; rintro e w' ⟨rfl, rfl⟩)
      | (go_at_call 64; ((with_reducible refine (C1 _).mono ?_); rintro e w' ⟨rfl, rfl⟩))
      | (go_at_call 64; ((with_reducible refine (C2 _).mono ?_); rintro e w' ⟨rfl, rfl⟩))
      | (go_at_call 64; ((with_reducible refine (C3 _).mono ?_); rintro e w' ⟨rfl, rfl⟩))
      | (go_at_call 143; go_must (refine (C4 _ ?_).mono ?_); go_must (exact por_call (And.left (by assumption : KeptS w1 _)) hp1); rintro e w' ⟨rfl, hb⟩)
      | (go_at_call 62; go_must (refine (C5 _ _ _ ?_).mono ?_); go_must (exact ints_new _ [E1, E2, E3] _); rintro e w' ⟨rfl, rfl⟩))
  all_goals
    go_wp2_with fail
    go_ret
    rw [← HEE.out]
    exact ⟨rfl, hb1.trans (Below.mono (And.left (by assumption : KeptS w1 _)) (by omega))⟩

set_option maxRecDepth 100000 in
set_option maxHeartbeats 8000000 in
theorem checkPor_any (n : Int) (A : Option Addr) (c : Nat) (ps : List Por) (w : World) (hp : PorR w w.heap.size A ps) (hpl : ps.length ≤ maxLen) :
    Calls Try.prog 59 #[I n, .slice A ps.length c] w fun e w' => e = .returned (I (porE n ps)) ∧ Below w.heap.size w w' := by
  have hpl' := hpl
  unfold maxLen at hpl'
  cases hw : wi n 1 6
  · have HE := Lib.hid (show porE n ps = 1 by rw [porE, hw]; rfl)
    go_enter Try.func59, Try.ntmps59
    go_wp2_with (go_at_call 67; refine (rWithin_any _ _ _ _).mono ?_; rintro e w' ⟨rfl, hww⟩; rw [hww, hw]; clear hww)
    go_ret
    exact ⟨ret_int HE.out.symm, Below.refl _ _⟩
  have HW := Lib.hid hw
  have hn : 1 ≤ n ∧ n ≤ 6 := by simpa [wi] using hw
  have hn1 := hn.1
  have hn2 := hn.2
  clear hn
  by_cases hl20 : ps.length ≤ 20
  · have l1 : decide ((20 : Int) < (ps.length : Int)) = false := decide_eq_false (by omega)
    have l2 : decide (20 < ps.length) = false := decide_eq_false (by omega)
    go_enter Try.func59, Try.ntmps59
    go_wp2_with (go_at_call 67; refine (rWithin_any _ _ _ _).mono ?_; rintro e w' ⟨rfl, hww⟩; rw [hww, hw]; clear hww)
    clear hw
    go_loopw [5] (fun i wr => ∃ k : Nat, k ≤ ps.length ∧ i = .int .i64 k ∧ Hid ((ps.take k).all (porM (n - 1) n) = true) ∧ Below w.heap.size w wr) (fun i _ => ps.length - (intOf i).toNat)
    case atStart => exact ⟨0, Nat.zero_le _, rfl, Lib.hid rfl, Below.refl _ _⟩
    case round =>
      obtain ⟨k, hk, rfl, HA, hB⟩ := hrel
      by_cases hlt : k < ps.length
      · obtain ⟨gb, go, rfl, hb, d0, d1, d2, d3, d4⟩ := (por_call hB hp).at_ hlt
        obtain ⟨p, hpe⟩ : ∃ p, p = ps[k] := ⟨_, rfl⟩
        rw [← hpe] at d0 d1 d2 d3 d4
        have HPE := Lib.hid hpe
        clear hpe hp
        obtain ⟨kd, a, b, q, neg⟩ := p
        simp only at d0 d1 d2 d3 d4
        obtain ⟨o, ho⟩ : ∃ o, o = (wi b 0 (n - 1) && (a != b)) := ⟨_, rfl⟩
        have HO := Lib.hid ho
        have HP := Lib.hid (show porM (n - 1) n ⟨kd, a, b, q, neg⟩ = if kd = 1 then wi a 0 (n - 1) && ((b == 0) && wi q 0 (n - 1)) else if kd = 2 ∨ kd = 3 then (wi a 0 (n - 1) && o) && (q == 0) else if kd = 4 then (wi a 0 (n - 1) && o) && wi q 0 n else false by rw [ho]; rfl)
        clear ho
        go_upto_region 9 with fail
        obtain ⟨w1, hw1, s1, y1, hb1⟩ := one_box wr (.cells #[I kd, I a, I b, I q, .bool neg] 71)
        rw [← hw1]
        have b0 : w1.cell? ⟨wr.heap.size, 0, none⟩ = some (I kd) := cell_of_row w1 _ 0 _ _ _ y1
        have b1 : w1.cell? ⟨wr.heap.size, 1, none⟩ = some (I a) := cell_of_row w1 _ 1 _ _ _ y1
        have b2 : w1.cell? ⟨wr.heap.size, 2, none⟩ = some (I b) := cell_of_row w1 _ 2 _ _ _ y1
        have b3 : w1.cell? ⟨wr.heap.size, 3, none⟩ = some (I q) := cell_of_row w1 _ 3 _ _ _ y1
        have b4 : w1.cell? ⟨wr.heap.size, 4, none⟩ = some (.bool neg) := cell_of_row w1 _ 4 _ _ _ y1
        have hBc : Below w.heap.size w w1 := hB.trans (hb1.mono hB.size)
        clear hw1 s1 y1 hb1 d0 d1 d2 d3 d4
        cases q1 : wi b 0 (n - 1)
        · have HO1 := Lib.hid (HO.out.trans (by rw [q1]; rfl) : o = false)
          rw [HO1.out] at HP
          by_cases k1 : kd = 1
          · have g1 : (kd == 1) = true := by simpa using k1
            have HP1 := Lib.hid (HP.out.trans (if_pos k1))
            clear k1
            cases q4 : (b == 0)
            · have HN := Lib.hid (show ps.all (porM (n - 1) n) = false from not_allL (porM (n - 1) n) ps k hlt (by rw [← HPE.out]; rw [HP1.out, q4]; simp))
              clear HA
              go_wp2_with (go_at_call 67; refine (rWithin_any _ _ _ _).mono ?_; rintro e w' ⟨rfl, hww⟩; rw [hww]; first | rw [q1] | rw [q3] | rw [q5] | skip; clear hww)
              go_ret
              exact ⟨ret_int (by rw [porE, HW.out, if_pos rfl, if_pos hl20, HN.out]; rfl), hBc⟩
            · cases q5 : wi q 0 (n - 1)
              · have HN := Lib.hid (show ps.all (porM (n - 1) n) = false from not_allL (porM (n - 1) n) ps k hlt (by rw [← HPE.out]; rw [HP1.out, q5]; simp))
                clear HA
                go_wp2_with (go_at_call 67; refine (rWithin_any _ _ _ _).mono ?_; rintro e w' ⟨rfl, hww⟩; rw [hww]; first | rw [q1] | rw [q3] | rw [q5] | skip; clear hww)
                go_ret
                exact ⟨ret_int (by rw [porE, HW.out, if_pos rfl, if_pos hl20, HN.out]; rfl), hBc⟩
              · cases q3 : wi a 0 (n - 1)
                · have HN := Lib.hid (show ps.all (porM (n - 1) n) = false from not_allL (porM (n - 1) n) ps k hlt (by rw [← HPE.out]; rw [HP1.out, q3]; simp))
                  clear HA
                  go_wp2_with (go_at_call 67; refine (rWithin_any _ _ _ _).mono ?_; rintro e w' ⟨rfl, hww⟩; rw [hww]; first | rw [q1] | rw [q3] | rw [q5] | skip; clear hww)
                  go_ret
                  exact ⟨ret_int (by rw [porE, HW.out, if_pos rfl, if_pos hl20, HN.out]; rfl), hBc⟩
                · have HN := Lib.hid (all_take_snocL (porM (n - 1) n) ps k hlt HA.out (by rw [← HPE.out]; rw [HP1.out, q3, q4, q5]; rfl))
                  clear HA
                  go_wp2_with (go_at_call 67; refine (rWithin_any _ _ _ _).mono ?_; rintro e w' ⟨rfl, hww⟩; rw [hww]; first | rw [q1] | rw [q3] | rw [q5] | skip; clear hww)
                  go_roundw
                  case rel => exact ⟨k + 1, by omega, by go_num, HN, hBc⟩
                  case measure => simp [intOf]; omega
          · have g1 : (kd == 1) = false := by simpa using k1
            by_cases k2 : kd = 2 ∨ kd = 3
            · have HP1 := Lib.hid (HP.out.trans (by rw [if_neg k1, if_pos k2]))
              have g2 : (kd == 2) = true ∨ (kd == 2) = false ∧ (kd == 3) = true := by
                rcases k2 with rfl | rfl
                · exact .inl rfl
                · exact .inr ⟨rfl, rfl⟩
              clear k1 k2
              rcases g2 with g2 | ⟨g2, g3⟩
              all_goals
                have HN := Lib.hid (show ps.all (porM (n - 1) n) = false from not_allL (porM (n - 1) n) ps k hlt (by rw [← HPE.out]; rw [HP1.out]; simp))
                clear HA
                go_wp2_with (go_at_call 67; refine (rWithin_any _ _ _ _).mono ?_; rintro e w' ⟨rfl, hww⟩; rw [hww]; first | rw [q1] | rw [q3] | rw [q5] | skip; clear hww)
                go_ret
                exact ⟨ret_int (by rw [porE, HW.out, if_pos rfl, if_pos hl20, HN.out]; rfl), hBc⟩
            · have g2 : (kd == 2) = false := by simp; omega
              have g3 : (kd == 3) = false := by simp; omega
              have HP2 := Lib.hid (HP.out.trans (by rw [if_neg k1, if_neg k2]))
              by_cases k4 : kd = 4
              · have g4 : (kd == 4) = true := by simpa using k4
                have HP1 := Lib.hid (HP2.out.trans (if_pos k4))
                clear k1 k2 k4
                have HN := Lib.hid (show ps.all (porM (n - 1) n) = false from not_allL (porM (n - 1) n) ps k hlt (by rw [← HPE.out]; rw [HP1.out]; simp))
                clear HA
                go_wp2_with (go_at_call 67; refine (rWithin_any _ _ _ _).mono ?_; rintro e w' ⟨rfl, hww⟩; rw [hww]; first | rw [q1] | rw [q3] | rw [q5] | skip; clear hww)
                go_ret
                exact ⟨ret_int (by rw [porE, HW.out, if_pos rfl, if_pos hl20, HN.out]; rfl), hBc⟩
              · have g4 : (kd == 4) = false := by simpa using k4
                have HP1 := Lib.hid (HP2.out.trans (if_neg k4))
                clear k1 k2 k4
                have HN := Lib.hid (show ps.all (porM (n - 1) n) = false from not_allL (porM (n - 1) n) ps k hlt (by rw [← HPE.out]; rw [HP1.out]))
                clear HA
                go_wp2_with (go_at_call 67; refine (rWithin_any _ _ _ _).mono ?_; rintro e w' ⟨rfl, hww⟩; rw [hww]; first | rw [q1] | rw [q3] | rw [q5] | skip; clear hww)
                go_ret
                exact ⟨ret_int (by rw [porE, HW.out, if_pos rfl, if_pos hl20, HN.out]; rfl), hBc⟩
        · cases q2 : (a != b)
          · have HO1 := Lib.hid (HO.out.trans (by rw [q1, q2]; rfl) : o = false)
            rw [HO1.out] at HP
            by_cases k1 : kd = 1
            · have g1 : (kd == 1) = true := by simpa using k1
              have HP1 := Lib.hid (HP.out.trans (if_pos k1))
              clear k1
              cases q4 : (b == 0)
              · have HN := Lib.hid (show ps.all (porM (n - 1) n) = false from not_allL (porM (n - 1) n) ps k hlt (by rw [← HPE.out]; rw [HP1.out, q4]; simp))
                clear HA
                go_wp2_with (go_at_call 67; refine (rWithin_any _ _ _ _).mono ?_; rintro e w' ⟨rfl, hww⟩; rw [hww]; first | rw [q1] | rw [q3] | rw [q5] | skip; clear hww)
                go_ret
                exact ⟨ret_int (by rw [porE, HW.out, if_pos rfl, if_pos hl20, HN.out]; rfl), hBc⟩
              · cases q5 : wi q 0 (n - 1)
                · have HN := Lib.hid (show ps.all (porM (n - 1) n) = false from not_allL (porM (n - 1) n) ps k hlt (by rw [← HPE.out]; rw [HP1.out, q5]; simp))
                  clear HA
                  go_wp2_with (go_at_call 67; refine (rWithin_any _ _ _ _).mono ?_; rintro e w' ⟨rfl, hww⟩; rw [hww]; first | rw [q1] | rw [q3] | rw [q5] | skip; clear hww)
                  go_ret
                  exact ⟨ret_int (by rw [porE, HW.out, if_pos rfl, if_pos hl20, HN.out]; rfl), hBc⟩
                · cases q3 : wi a 0 (n - 1)
                  · have HN := Lib.hid (show ps.all (porM (n - 1) n) = false from not_allL (porM (n - 1) n) ps k hlt (by rw [← HPE.out]; rw [HP1.out, q3]; simp))
                    clear HA
                    go_wp2_with (go_at_call 67; refine (rWithin_any _ _ _ _).mono ?_; rintro e w' ⟨rfl, hww⟩; rw [hww]; first | rw [q1] | rw [q3] | rw [q5] | skip; clear hww)
                    go_ret
                    exact ⟨ret_int (by rw [porE, HW.out, if_pos rfl, if_pos hl20, HN.out]; rfl), hBc⟩
                  · have HN := Lib.hid (all_take_snocL (porM (n - 1) n) ps k hlt HA.out (by rw [← HPE.out]; rw [HP1.out, q3, q4, q5]; rfl))
                    clear HA
                    go_wp2_with (go_at_call 67; refine (rWithin_any _ _ _ _).mono ?_; rintro e w' ⟨rfl, hww⟩; rw [hww]; first | rw [q1] | rw [q3] | rw [q5] | skip; clear hww)
                    go_roundw
                    case rel => exact ⟨k + 1, by omega, by go_num, HN, hBc⟩
                    case measure => simp [intOf]; omega
            · have g1 : (kd == 1) = false := by simpa using k1
              by_cases k2 : kd = 2 ∨ kd = 3
              · have HP1 := Lib.hid (HP.out.trans (by rw [if_neg k1, if_pos k2]))
                have g2 : (kd == 2) = true ∨ (kd == 2) = false ∧ (kd == 3) = true := by
                  rcases k2 with rfl | rfl
                  · exact .inl rfl
                  · exact .inr ⟨rfl, rfl⟩
                clear k1 k2
                rcases g2 with g2 | ⟨g2, g3⟩
                all_goals
                  have HN := Lib.hid (show ps.all (porM (n - 1) n) = false from not_allL (porM (n - 1) n) ps k hlt (by rw [← HPE.out]; rw [HP1.out]; simp))
                  clear HA
                  go_wp2_with (go_at_call 67; refine (rWithin_any _ _ _ _).mono ?_; rintro e w' ⟨rfl, hww⟩; rw [hww]; first | rw [q1] | rw [q3] | rw [q5] | skip; clear hww)
                  go_ret
                  exact ⟨ret_int (by rw [porE, HW.out, if_pos rfl, if_pos hl20, HN.out]; rfl), hBc⟩
              · have g2 : (kd == 2) = false := by simp; omega
                have g3 : (kd == 3) = false := by simp; omega
                have HP2 := Lib.hid (HP.out.trans (by rw [if_neg k1, if_neg k2]))
                by_cases k4 : kd = 4
                · have g4 : (kd == 4) = true := by simpa using k4
                  have HP1 := Lib.hid (HP2.out.trans (if_pos k4))
                  clear k1 k2 k4
                  have HN := Lib.hid (show ps.all (porM (n - 1) n) = false from not_allL (porM (n - 1) n) ps k hlt (by rw [← HPE.out]; rw [HP1.out]; simp))
                  clear HA
                  go_wp2_with (go_at_call 67; refine (rWithin_any _ _ _ _).mono ?_; rintro e w' ⟨rfl, hww⟩; rw [hww]; first | rw [q1] | rw [q3] | rw [q5] | skip; clear hww)
                  go_ret
                  exact ⟨ret_int (by rw [porE, HW.out, if_pos rfl, if_pos hl20, HN.out]; rfl), hBc⟩
                · have g4 : (kd == 4) = false := by simpa using k4
                  have HP1 := Lib.hid (HP2.out.trans (if_neg k4))
                  clear k1 k2 k4
                  have HN := Lib.hid (show ps.all (porM (n - 1) n) = false from not_allL (porM (n - 1) n) ps k hlt (by rw [← HPE.out]; rw [HP1.out]))
                  clear HA
                  go_wp2_with (go_at_call 67; refine (rWithin_any _ _ _ _).mono ?_; rintro e w' ⟨rfl, hww⟩; rw [hww]; first | rw [q1] | rw [q3] | rw [q5] | skip; clear hww)
                  go_ret
                  exact ⟨ret_int (by rw [porE, HW.out, if_pos rfl, if_pos hl20, HN.out]; rfl), hBc⟩
          · have HO1 := Lib.hid (HO.out.trans (by rw [q1, q2]; rfl) : o = true)
            rw [HO1.out] at HP
            by_cases k1 : kd = 1
            · have g1 : (kd == 1) = true := by simpa using k1
              have HP1 := Lib.hid (HP.out.trans (if_pos k1))
              clear k1
              cases q4 : (b == 0)
              · have HN := Lib.hid (show ps.all (porM (n - 1) n) = false from not_allL (porM (n - 1) n) ps k hlt (by rw [← HPE.out]; rw [HP1.out, q4]; simp))
                clear HA
                go_wp2_with (go_at_call 67; refine (rWithin_any _ _ _ _).mono ?_; rintro e w' ⟨rfl, hww⟩; rw [hww]; first | rw [q1] | rw [q3] | rw [q5] | skip; clear hww)
                go_ret
                exact ⟨ret_int (by rw [porE, HW.out, if_pos rfl, if_pos hl20, HN.out]; rfl), hBc⟩
              · cases q5 : wi q 0 (n - 1)
                · have HN := Lib.hid (show ps.all (porM (n - 1) n) = false from not_allL (porM (n - 1) n) ps k hlt (by rw [← HPE.out]; rw [HP1.out, q5]; simp))
                  clear HA
                  go_wp2_with (go_at_call 67; refine (rWithin_any _ _ _ _).mono ?_; rintro e w' ⟨rfl, hww⟩; rw [hww]; first | rw [q1] | rw [q3] | rw [q5] | skip; clear hww)
                  go_ret
                  exact ⟨ret_int (by rw [porE, HW.out, if_pos rfl, if_pos hl20, HN.out]; rfl), hBc⟩
                · cases q3 : wi a 0 (n - 1)
                  · have HN := Lib.hid (show ps.all (porM (n - 1) n) = false from not_allL (porM (n - 1) n) ps k hlt (by rw [← HPE.out]; rw [HP1.out, q3]; simp))
                    clear HA
                    go_wp2_with (go_at_call 67; refine (rWithin_any _ _ _ _).mono ?_; rintro e w' ⟨rfl, hww⟩; rw [hww]; first | rw [q1] | rw [q3] | rw [q5] | skip; clear hww)
                    go_ret
                    exact ⟨ret_int (by rw [porE, HW.out, if_pos rfl, if_pos hl20, HN.out]; rfl), hBc⟩
                  · have HN := Lib.hid (all_take_snocL (porM (n - 1) n) ps k hlt HA.out (by rw [← HPE.out]; rw [HP1.out, q3, q4, q5]; rfl))
                    clear HA
                    go_wp2_with (go_at_call 67; refine (rWithin_any _ _ _ _).mono ?_; rintro e w' ⟨rfl, hww⟩; rw [hww]; first | rw [q1] | rw [q3] | rw [q5] | skip; clear hww)
                    go_roundw
                    case rel => exact ⟨k + 1, by omega, by go_num, HN, hBc⟩
                    case measure => simp [intOf]; omega
            · have g1 : (kd == 1) = false := by simpa using k1
              by_cases k2 : kd = 2 ∨ kd = 3
              · have HP1 := Lib.hid (HP.out.trans (by rw [if_neg k1, if_pos k2]))
                have g2 : (kd == 2) = true ∨ (kd == 2) = false ∧ (kd == 3) = true := by
                  rcases k2 with rfl | rfl
                  · exact .inl rfl
                  · exact .inr ⟨rfl, rfl⟩
                clear k1 k2
                rcases g2 with g2 | ⟨g2, g3⟩
                all_goals
                  cases q4 : (q == 0)
                  · have HN := Lib.hid (show ps.all (porM (n - 1) n) = false from not_allL (porM (n - 1) n) ps k hlt (by rw [← HPE.out]; rw [HP1.out, q4]; simp))
                    clear HA
                    go_wp2_with (go_at_call 67; refine (rWithin_any _ _ _ _).mono ?_; rintro e w' ⟨rfl, hww⟩; rw [hww]; first | rw [q1] | rw [q3] | rw [q5] | skip; clear hww)
                    go_ret
                    exact ⟨ret_int (by rw [porE, HW.out, if_pos rfl, if_pos hl20, HN.out]; rfl), hBc⟩
                  · cases q3 : wi a 0 (n - 1)
                    · have HN := Lib.hid (show ps.all (porM (n - 1) n) = false from not_allL (porM (n - 1) n) ps k hlt (by rw [← HPE.out]; rw [HP1.out, q3]; simp))
                      clear HA
                      go_wp2_with (go_at_call 67; refine (rWithin_any _ _ _ _).mono ?_; rintro e w' ⟨rfl, hww⟩; rw [hww]; first | rw [q1] | rw [q3] | rw [q5] | skip; clear hww)
                      go_ret
                      exact ⟨ret_int (by rw [porE, HW.out, if_pos rfl, if_pos hl20, HN.out]; rfl), hBc⟩
                    · have HN := Lib.hid (all_take_snocL (porM (n - 1) n) ps k hlt HA.out (by rw [← HPE.out]; rw [HP1.out, q3, q4]; rfl))
                      clear HA
                      go_wp2_with (go_at_call 67; refine (rWithin_any _ _ _ _).mono ?_; rintro e w' ⟨rfl, hww⟩; rw [hww]; first | rw [q1] | rw [q3] | rw [q5] | skip; clear hww)
                      go_roundw
                      case rel => exact ⟨k + 1, by omega, by go_num, HN, hBc⟩
                      case measure => simp [intOf]; omega
              · have g2 : (kd == 2) = false := by simp; omega
                have g3 : (kd == 3) = false := by simp; omega
                have HP2 := Lib.hid (HP.out.trans (by rw [if_neg k1, if_neg k2]))
                by_cases k4 : kd = 4
                · have g4 : (kd == 4) = true := by simpa using k4
                  have HP1 := Lib.hid (HP2.out.trans (if_pos k4))
                  clear k1 k2 k4
                  cases q5 : wi q 0 n
                  · have HN := Lib.hid (show ps.all (porM (n - 1) n) = false from not_allL (porM (n - 1) n) ps k hlt (by rw [← HPE.out]; rw [HP1.out, q5]; simp))
                    clear HA
                    go_wp2_with (go_at_call 67; refine (rWithin_any _ _ _ _).mono ?_; rintro e w' ⟨rfl, hww⟩; rw [hww]; first | rw [q1] | rw [q3] | rw [q5] | skip; clear hww)
                    go_ret
                    exact ⟨ret_int (by rw [porE, HW.out, if_pos rfl, if_pos hl20, HN.out]; rfl), hBc⟩
                  · cases q3 : wi a 0 (n - 1)
                    · have HN := Lib.hid (show ps.all (porM (n - 1) n) = false from not_allL (porM (n - 1) n) ps k hlt (by rw [← HPE.out]; rw [HP1.out, q3]; simp))
                      clear HA
                      go_wp2_with (go_at_call 67; refine (rWithin_any _ _ _ _).mono ?_; rintro e w' ⟨rfl, hww⟩; rw [hww]; first | rw [q1] | rw [q3] | rw [q5] | skip; clear hww)
                      go_ret
                      exact ⟨ret_int (by rw [porE, HW.out, if_pos rfl, if_pos hl20, HN.out]; rfl), hBc⟩
                    · have HN := Lib.hid (all_take_snocL (porM (n - 1) n) ps k hlt HA.out (by rw [← HPE.out]; rw [HP1.out, q3, q5]; rfl))
                      clear HA
                      go_wp2_with (go_at_call 67; refine (rWithin_any _ _ _ _).mono ?_; rintro e w' ⟨rfl, hww⟩; rw [hww]; first | rw [q1] | rw [q3] | rw [q5] | skip; clear hww)
                      go_roundw
                      case rel => exact ⟨k + 1, by omega, by go_num, HN, hBc⟩
                      case measure => simp [intOf]; omega
                · have g4 : (kd == 4) = false := by simpa using k4
                  have HP1 := Lib.hid (HP2.out.trans (if_neg k4))
                  clear k1 k2 k4
                  have HN := Lib.hid (show ps.all (porM (n - 1) n) = false from not_allL (porM (n - 1) n) ps k hlt (by rw [← HPE.out]; rw [HP1.out]))
                  clear HA
                  go_wp2_with (go_at_call 67; refine (rWithin_any _ _ _ _).mono ?_; rintro e w' ⟨rfl, hww⟩; rw [hww]; first | rw [q1] | rw [q3] | rw [q5] | skip; clear hww)
                  go_ret
                  exact ⟨ret_int (by rw [porE, HW.out, if_pos rfl, if_pos hl20, HN.out]; rfl), hBc⟩
      · obtain rfl : k = ps.length := by omega
        have HN := Lib.hid (show ps.all (porM (n - 1) n) = true by have h := HA.out; rw [List.take_length] at h; exact h)
        go_wp2
        go_ret
        exact ⟨ret_int (by rw [porE, HW.out, if_pos rfl, if_pos hl20, HN.out]; rfl), hB⟩
  · have HE := Lib.hid (show porE n ps = 2 by rw [porE, hw, if_pos rfl, if_neg hl20])
    have d1 : decide ((20 : Int) < (ps.length : Int)) = true := by simp; omega
    have d2 : decide (20 < ps.length) = true := by simp; omega
    go_enter Try.func59, Try.ntmps59
    go_wp2_with (go_at_call 67; refine (rWithin_any _ _ _ _).mono ?_; rintro e w' ⟨rfl, hww⟩; rw [hww, hw]; clear hww)
    go_ret
    exact ⟨ret_int HE.out.symm, Below.refl _ _⟩
end Go.Proofs.Ytglkjiimmlobbaa

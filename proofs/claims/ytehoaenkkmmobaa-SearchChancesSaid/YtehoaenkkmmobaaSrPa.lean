/-
  LAYER 6, CONTRACTS: parts, power.
-/
import Derived.Test.YtehoaenkkmmobaaSrCk
namespace Go.Proofs.Ytehoaenkkmmobaa
open Go.RowKit Go.Shelf
/-- how many edges position p has -/
def nE (G : List (List Ed)) (p : Nat) : Nat := (gAt G p).length
def prtT (G : List (List Ed)) (D : List Int) : Nat → Nat
  | 0 => 1
  | k + 1 => if stay (eOf G) (dOf D) k = false ∧ prtT G D k ≤ 1000000000000000 then prtT G D k * (nE G k / Nat.gcd (prtT G D k) (nE G k)) else prtT G D k
def prtN (G : List (List Ed)) (D : List Int) : Nat := prtT G D G.length
theorem stay_ne {G : List (List Ed)} {D : List Int} {p : Nat} (h : stay (eOf G) (dOf D) p = false) : 0 < nE G p := by
  unfold nE
  rw [← eOf_len_gAt]
  cases hq : eOf G p with
  | nil => rw [stay, hq] at h; simp at h
  | cons a b => simp
theorem prtT_pos (G : List (List Ed)) (D : List Int) : ∀ k, 1 ≤ prtT G D k := by
  intro k
  induction k with
  | zero => exact Nat.le_refl _
  | succ k ih =>
    rw [prtT]
    split
    · rename_i h
      have h0 := stay_ne h.1
      have hg := Nat.gcd_pos_of_pos_right (prtT G D k) h0
      have : 1 ≤ nE G k / Nat.gcd (prtT G D k) (nE G k) := by
        rw [Nat.le_div_iff_mul_le hg, Nat.one_mul]
        exact Nat.gcd_le_right _ h0
      exact Nat.le_trans ih (Nat.le_mul_of_pos_right _ this)
    · exact ih
theorem prtT_bnd {G : List (List Ed)} {D : List Int} (hv : Vld G D) : ∀ k, k ≤ G.length → prtT G D k ≤ 100000000000000000 := by
  intro k
  induction k with
  | zero => intro _; simp [prtT]
  | succ k ih =>
    intro hk
    rw [prtT]
    split
    · rename_i h
      have h1 : nE G k / Nat.gcd (prtT G D k) (nE G k) ≤ 100 := by
        refine Nat.le_trans (Nat.div_le_self _ _) ?_
        unfold nE
        rw [gAt_eq (by omega)]
        exact hv.few k (by omega)
      exact Nat.le_trans (Nat.mul_le_mul h.2 h1) (by decide)
    · exact ih (by omega)
theorem prtT_dvd {G : List (List Ed)} {D : List Int} : ∀ k, prtT G D k ≤ 1000000000000000 → ∀ p, p < k → stay (eOf G) (dOf D) p = false → nE G p ∣ prtT G D k := by
  intro k
  induction k with
  | zero => intro _ p hp; omega
  | succ k ih =>
    intro hM p hp hs
    rw [prtT] at hM ⊢
    split at hM
    · rename_i h
      rw [if_pos h]
      have hd : prtT G D k * (nE G k / Nat.gcd (prtT G D k) (nE G k)) = Nat.lcm (prtT G D k) (nE G k) := by
        rw [Nat.lcm, Nat.mul_div_assoc _ (Nat.gcd_dvd_right _ _)]
      rw [hd]
      by_cases e : p = k
      · subst e; exact Nat.dvd_lcm_right _ _
      · exact Nat.dvd_trans (ih h.2 p (by omega) hs) (Nat.dvd_lcm_left _ _)
    · rename_i h
      rw [if_neg h]
      by_cases e : p = k
      · subst e; exact absurd ⟨hs, hM⟩ h
      · exact ih hM p (by omega) hs
set_option maxRecDepth 100000 in
set_option maxHeartbeats 8000000 in
theorem parts_any (AP AE AD : Option Addr) (nP cP cE cD : Nat) (G : List (List Ed)) (D : List Int) (w : World) (hm : MdR w AE AD G D) (hv : Vld G D) :
    Calls Try.prog 76 #[mdlV (.slice AP nP cP) AE AD G.length cE D.length cD] w fun e w' => e = .returned (I (prtN G D : Nat)) ∧ Below w.heap.size w w' := by
  obtain ⟨w1, hw1, hs1, y0, hb1⟩ := one_box w (.cells #[.slice AP nP cP, .slice AE G.length cE, .slice AD D.length cD] 64)
  have hc : ∀ V, Below w1.heap.size w1 V → V.cell? ⟨w.heap.size, 0, none⟩ = some (.slice AP nP cP) ∧ V.cell? ⟨w.heap.size, 1, none⟩ = some (.slice AE G.length cE) ∧ V.cell? ⟨w.heap.size, 2, none⟩ = some (.slice AD D.length cD) ∧ MdR V AE AD G D := fun V hV =>
    ⟨(hV.cell (p := ⟨w.heap.size, 0, none⟩) (by show w.heap.size < _; omega)).trans (cell_of_row w1 _ 0 _ _ _ y0), (hV.cell (p := ⟨w.heap.size, 1, none⟩) (by show w.heap.size < _; omega)).trans (cell_of_row w1 _ 1 _ _ _ y0), (hV.cell (p := ⟨w.heap.size, 2, none⟩) (by show w.heap.size < _; omega)).trans (cell_of_row w1 _ 2 _ _ _ y0), (hm.call hb1).call hV⟩
  obtain ⟨a0, a1, a2, -⟩ := hc w1 (Below.refl _ _)
  have hmx := hv.many
  have HF := Lib.hid hv.few
  have HBD := Lib.hid (prtT_bnd hv)
  have HS := Lib.hid (fun V (p : Nat) (hV : Below w1.heap.size w1 V) (hp : p < G.length) => stays_any (.slice AP nP cP) AE AD cE cD G D p V ((hm.call hb1).call hV) hv hp)
  have HC := Lib.hid hc
  have HB1 := Lib.hid hb1
  clear hm hv y0 hb1 hc
  go_enter Try.func76, Try.ntmps76
  go_upto_region 1 with fail
  rw [← hw1]
  clear hw1
  go_wp2_with fail
  clear a0 a1 a2
  go_loopw [10, 3] (fun i s wr => ∃ k n : Nat, k ≤ G.length ∧ i = .int .i64 k ∧ s = .int .i64 n ∧ Hid (n = prtT G D k) ∧ Below w1.heap.size w1 wr) (fun i _ _ => G.length - (intOf i).toNat)
  case atStart => exact ⟨0, 1, Nat.zero_le _, rfl, rfl, Lib.hid rfl, Below.refl _ _⟩
  case round =>
    obtain ⟨k, n, hk, rfl, rfl, HN, hB⟩ := hrel
    obtain ⟨wo, hwo⟩ : ∃ wo : World, wo = wr := ⟨_, rfl⟩
    rw [← hwo] at hB
    rw [← hwo]
    clear hwo
    by_cases hlt : k < G.length
    · obtain ⟨b0, b1, b2, hmo⟩ := HC.out wo hB
      obtain ⟨g, o, e1, hgl, Ap, cp, hcG, -⟩ := hmo.g.at_ hlt
      subst e1
      have hfp := HF.out k hlt
      rw [← gAt_eq hlt] at hcG hfp
      have hst := HS.out wo k hB hlt
      have hbn := HBD.out k (by omega)
      have hbn2 := HBD.out (k + 1) (by omega)
      rw [← HN.out] at hbn
      have HSU : prtT G D (k + 1) = if stay (eOf G) (dOf D) k = false ∧ n ≤ 1000000000000000 then n * (nE G k / Nat.gcd n (nE G k)) else n := by rw [prtT, ← HN.out]
      have hne := fun h => stay_ne (G := G) (D := D) (p := k) h
      have hnl : nE G k = (gAt G k).length := rfl
      obtain ⟨l, hl⟩ : ∃ l, l = (gAt G k).length := ⟨_, rfl⟩
      rw [← hl] at hcG hfp hnl
      rw [hnl] at HSU hne
      obtain ⟨b, hb⟩ : ∃ b, b = stay (eOf G) (dOf D) k := ⟨_, rfl⟩
      rw [← hb] at hst HSU hne
      have HBo := Lib.hid hB
      clear hl hb hnl hmo hB
      cases b with
      | true =>
        have HX := Lib.hid (show n = prtT G D (k + 1) by rw [HSU, if_neg (by simp)])
        clear HSU hne
        go_wp2_with (go_at_call 80; refine hst.mono ?_; rintro e w3 ⟨rfl, hb3⟩)
        go_roundw
        case rel => exact ⟨k + 1, n, by omega, by go_num, rfl, HX, HBo.out.trans (hb3.mono HBo.out.size)⟩
        case measure => simp [intOf] <;> omega
      | false =>
        by_cases hM : n ≤ 1000000000000000
        · have hl0 := hne rfl
          have hgp := Nat.gcd_pos_of_pos_right n hl0
          have hgl2 := Nat.gcd_le_right n hl0
          have hcall := fun V => gcd_any n l V (by omega) (by omega)
          rw [HSU, if_pos ⟨rfl, hM⟩] at hbn2
          rw [if_pos ⟨rfl, hM⟩] at HSU
          obtain ⟨d, hd⟩ : ∃ d, d = Nat.gcd n l := ⟨_, rfl⟩
          rw [← hd] at hgp hgl2 hcall hbn2 HSU
          have q1 : (l : Int).tdiv (d : Int) = ((l / d : Nat) : Int) := Int.ofNat_tdiv _ _
          have hqb : l / d ≤ l := Nat.div_le_self _ _
          obtain ⟨q, hq⟩ : ∃ q, q = l / d := ⟨_, rfl⟩
          rw [← hq] at q1 hqb hbn2 HSU
          have q2 : (n : Int) * (q : Int) = ((n * q : Nat) : Int) := (Int.natCast_mul _ _).symm
          obtain ⟨X, hX⟩ : ∃ X, X = n * q := ⟨_, rfl⟩
          rw [← hX] at q2 hbn2 HSU
          have HX := Lib.hid HSU.symm
          have t1 : decide ((n : Int) ≤ 1000000000000000) = true := decide_eq_true (by omega)
          have t1' : decide (n ≤ 1000000000000000) = true := decide_eq_true hM
          have c2 : ((d : Int) == 0) = false := beq_eq_false_iff_ne.2 (by omega)
          have c3 : decide ((d : Int) = 0) = false := decide_eq_false (by omega)
          have c4 : ¬ (d : Int) = 0 := by omega
          clear HSU hd hq hX hne
          go_wp2_with (first
            | (go_at_call 80; refine hst.mono ?_; rintro e w3 ⟨rfl, hb3⟩)
            | (go_at_call 89; refine (hcall _).mono ?_; rintro e w4 ⟨rfl, hb4⟩))
          go_roundw
          case rel => exact ⟨k + 1, X, by omega, by go_num, by first | rfl | go_num, HX, HBo.out.trans ((hb3.trans (hb4.mono hb3.size)).mono HBo.out.size)⟩
          case measure => simp [intOf] <;> omega
        · have HX := Lib.hid (show n = prtT G D (k + 1) by rw [HSU, if_neg (fun h => hM h.2)])
          have t1 : decide ((n : Int) ≤ 1000000000000000) = false := decide_eq_false (by omega)
          have t1' : decide (n ≤ 1000000000000000) = false := decide_eq_false hM
          clear HSU hne
          go_wp2_with (go_at_call 80; refine hst.mono ?_; rintro e w3 ⟨rfl, hb3⟩)
          go_roundw
          case rel => exact ⟨k + 1, n, by omega, by go_num, rfl, HX, HBo.out.trans (hb3.mono HBo.out.size)⟩
          case measure => simp [intOf] <;> omega
    · obtain rfl : k = G.length := by omega
      have HE := Lib.hid (show n = prtN G D from HN.out)
      go_wp2_with fail
      go_ret
      rw [HE.out]
      exact ⟨rfl, HB1.out.trans (hB.mono HB1.out.size)⟩
/-- whether all powers up to one are small -/
def powB (P : Nat) (m : Nat) : Bool := decide (m = 0) || decide (P ^ m ≤ 1000000000000000)
theorem div_lt {P x M : Nat} (hx : 0 < x) : (M / x < P) ↔ M < x * P := by
  rw [Nat.div_lt_iff_lt_mul hx, Nat.mul_comm]
set_option maxRecDepth 100000 in
set_option maxHeartbeats 8000000 in
theorem power_any (P m : Nat) (w : World) (hP : 1 ≤ P) (hm : m ≤ 20) :
    Calls Try.prog 77 #[I P, I m] w fun e w' => (P ^ m ≤ 1000000000000000 → e = .returned (.tuple #[I (P ^ m : Nat), I 0])) ∧ (¬ P ^ m ≤ 1000000000000000 → e = .returned (.tuple #[I 0, I 2])) ∧ w' = w := by
  have hmono : ∀ k, k ≤ m → P ^ k ≤ P ^ m := fun k hk => Nat.pow_le_pow_right hP hk
  have HMO := Lib.hid hmono
  clear hmono
  go_enter Try.func77, Try.ntmps77
  go_wp2_with fail
  go_loopw [8, 6] (fun i s wr => ∃ k x : Nat, k ≤ m ∧ i = .int .i64 k ∧ s = .int .i64 x ∧ Hid (x = P ^ k) ∧ 1 ≤ x ∧ x ≤ 1000000000000000 ∧ wr = w) (fun i _ _ => m - (intOf i).toNat)
  case atStart => exact ⟨0, 1, Nat.zero_le _, rfl, rfl, Lib.hid rfl, Nat.le_refl _, by decide, rfl⟩
  case round =>
    obtain ⟨k, x, hk, rfl, rfl, HX, hx1, hx2, rfl⟩ := hrel
    by_cases hlt : k < m
    · have q1 : (1000000000000000 : Int).tdiv (x : Int) = ((1000000000000000 / x : Nat) : Int) := by
        have := Int.ofNat_tdiv 1000000000000000 x
        exact this
      have hdl : (1000000000000000 / x < P) ↔ 1000000000000000 < x * P := div_lt (by omega)
      have hqb : 1000000000000000 / x ≤ 1000000000000000 := Nat.div_le_self _ _
      obtain ⟨q, hq⟩ : ∃ q, q = 1000000000000000 / x := ⟨_, rfl⟩
      rw [← hq] at q1 hdl hqb
      have c2 : ((x : Int) == 0) = false := beq_eq_false_iff_ne.2 (by omega)
      have c3 : decide ((x : Int) = 0) = false := decide_eq_false (by omega)
      have c4 : ¬ (x : Int) = 0 := by omega
      have HS : P ^ (k + 1) = x * P := by rw [Nat.pow_succ, ← HX.out]
      have q2 : (x : Int) * (P : Int) = ((x * P : Nat) : Int) := (Int.natCast_mul _ _).symm
      obtain ⟨y, hy⟩ : ∃ y, y = x * P := ⟨_, rfl⟩
      rw [← hy] at hdl HS q2
      have hy1 : 1 ≤ y := by rw [hy]; exact Nat.mul_pos hx1 hP
      clear hq hy
      by_cases hlq : q < P
      · have t1 : decide ((q : Int) < (P : Int)) = true := decide_eq_true (by omega)
        have t1' : decide (q < P) = true := decide_eq_true hlq
        have HB := Lib.hid (show ¬ P ^ m ≤ 1000000000000000 from fun h => by
          have h1 := HMO.out (k + 1) (by omega)
          rw [HS] at h1
          have := hdl.1 hlq
          omega)
        clear hdl HS hlq
        go_wp2_with fail
        go_ret2
        exact ⟨fun h => absurd h HB.out, fun _ => rfl, rfl⟩
      · have t1 : decide ((q : Int) < (P : Int)) = false := decide_eq_false (by omega)
        have t1' : decide (q < P) = false := decide_eq_false hlq
        have hyb : y ≤ 1000000000000000 := by
          rcases Nat.lt_or_ge 1000000000000000 y with h | h
          · exact absurd (hdl.2 h) hlq
          · exact h
        have HY := Lib.hid HS.symm
        clear hdl HS hlq
        go_wp2_with fail
        go_roundw
        case rel => exact ⟨k + 1, y, by omega, by go_num, by first | rfl | go_num, HY, hy1, hyb, trivial⟩
        case measure => simp [intOf] <;> omega
    · obtain rfl : k = m := by omega
      have HB := Lib.hid (show P ^ k ≤ 1000000000000000 by rw [← HX.out]; exact hx2)
      go_wp2_with fail
      go_ret2
      exact ⟨fun _ => by rw [← HX.out]; rfl, fun h => absurd HB.out h, rfl⟩
end Go.Proofs.Ytehoaenkkmmobaa

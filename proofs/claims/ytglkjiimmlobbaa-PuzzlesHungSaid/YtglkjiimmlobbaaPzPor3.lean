/-
  CONTRACTS: the document's own True, has, isNonsense. (Written by gen/por3_make.py.)
-/
import Derived.Test.YtglkjiimmlobbaaPzPor2
import Derived.Test.YtglkjiimmlobbaaPzWei
namespace Go.Proofs.Ytglkjiimmlobbaa
open Go.RowKit Go.Shelf
set_option maxHeartbeats 2000000 in
theorem true_any (p : Por) (A : Option Addr) (c : Nat) (h : List Int) (w : World) (hx : IntsR w w.heap.size A h) (hl : h.length ≤ 1000) (hk : p.kind = 1 ∨ p.kind = 2 ∨ p.kind = 3 ∨ p.kind = 4) :
    Calls Try.prog 60 #[porV p, .slice A h.length c] w fun e w' => e = .returned (.bool (truB p h)) ∧ Below w.heap.size w w' := by
  obtain ⟨kd, a, b, n, neg⟩ := p
  obtain ⟨w1, hw1, hs1, y0, hb1⟩ := one_box w (.cells #[I kd, I a, I b, I n, .bool neg] 71)
  have b0 : w1.cell? ⟨w.heap.size, 0, none⟩ = some (I kd) := cell_of_row w1 _ 0 _ _ _ y0
  have b1 : w1.cell? ⟨w.heap.size, 1, none⟩ = some (I a) := cell_of_row w1 _ 1 _ _ _ y0
  have b2 : w1.cell? ⟨w.heap.size, 2, none⟩ = some (I b) := cell_of_row w1 _ 2 _ _ _ y0
  have b3 : w1.cell? ⟨w.heap.size, 3, none⟩ = some (I n) := cell_of_row w1 _ 3 _ _ _ y0
  have b4 : w1.cell? ⟨w.heap.size, 4, none⟩ = some (.bool neg) := cell_of_row w1 _ 4 _ _ _ y0
  have hx1 := ints_call hb1 hx
  have hi := idxI_lo h a
  have hj := idxI_lo h b
  have HS := Lib.hid (show sayB ⟨kd, a, b, n, neg⟩ h = if kd = 1 then decide (idxI h a = n) else if kd = 2 then decide (idxI h a < idxI h b) else if kd = 3 then decide (max (idxI h a) (idxI h b) - min (idxI h a) (idxI h b) - 1 = 0) else decide (n ≤ max (idxI h a) (idxI h b) - min (idxI h a) (idxI h b) - 1) from rfl)
  obtain ⟨R, hR⟩ : ∃ R, R = sayB ⟨kd, a, b, n, neg⟩ h := ⟨_, rfl⟩
  have HT := Lib.hid (show truB ⟨kd, a, b, n, neg⟩ h = (R != neg) by rw [hR]; rfl)
  obtain ⟨T, hT⟩ : ∃ T, T = truB ⟨kd, a, b, n, neg⟩ h := ⟨_, rfl⟩
  rw [← hR] at HS
  rw [← hT] at HT ⊢
  simp only at hk
  clear y0 hs1 hR hx hT
  go_enter Try.func60, Try.ntmps60
  go_upto_region 1 with fail
  rw [← hw1]
  clear hw1
  go_quiet ((first
    | (go_at_call 124; with_reducible exact Calls.quiet_of_same (place_n A c h a hl w1 hx1 _))
    | (go_at_call 124; with_reducible exact Calls.quiet_of_same (place_n A c h b hl w1 hx1 _))))
  generalize idxI h a = i at *
  generalize idxI h b = j at *
  have hi1 := hi.1
  have hi2 := hi.2
  have hj1 := hj.1
  have hj2 := hj.2
  clear hi hj hx1
  rcases Int.lt_trichotomy i j with hij | hij | hij
  case' inr.inl => subst hij
  all_goals
    first
      | (have hmx : max i i = i := by omega
         have hmn : min i i = i := by omega
         rw [hmx, hmn] at HS
         clear hmx hmn)
      | (have hmx : max i j = j := by omega
         have hmn : min i j = i := by omega
         rw [hmx, hmn] at HS
         clear hmx hmn)
      | (have hmx : max i j = i := by omega
         have hmn : min i j = j := by omega
         rw [hmx, hmn] at HS
         clear hmx hmn)
    rcases hk with k1 | k1 | k1 | k1
    all_goals
      subst k1
      have HR := Lib.hid (HS.out.trans (by first | rw [if_pos rfl] | rw [if_neg (by decide), if_pos rfl] | rw [if_neg (by decide), if_neg (by decide), if_pos rfl] | rw [if_neg (by decide), if_neg (by decide), if_neg (by decide)]))
      clear HS
      cases neg
      all_goals
        go_wp2
        go_ret
        refine ⟨ret_bool ?_, below_drewN hb1 _⟩
        rw [HT.out, HR.out]
        first | (simp; done) | (rw [Bool.eq_iff_iff]; simp; omega) | (simp; omega) | (rw [beq_dec]; cases decide (i = n) <;> rfl)
def twoM (M : Int) (p : Por) : Bool := wi p.a 0 M && (wi p.b 0 M && (p.a != p.b))
/-- a valid sentence; M is the number of portraits less 1 -/
def porM (M n : Int) (p : Por) : Bool :=
  if p.kind = 1 then wi p.a 0 M && ((p.b == 0) && wi p.n 0 M)
  else if p.kind = 2 ∨ p.kind = 3 then twoM M p && (p.n == 0)
  else if p.kind = 4 then twoM M p && wi p.n 0 n
  else false
abbrev galV (n : Int) (A : Option Addr) (ln c : Nat) : Value := .agg #[I n, .slice A ln c]
theorem ghas_any (n M x : Int) (A : Option Addr) (ln c : Nat) (hM : Hid (wrap64 (n - 1) = M)) (w : World) :
    Calls Try.prog 160 #[galV n A ln c, I x] w fun e w' => e = .returned (.bool (wi x 0 M)) ∧ Below w.heap.size w w' := by
  obtain ⟨w1, hw1, hs1, y0, hb1⟩ := one_box w (.cells #[I n, .slice A ln c] 127)
  have b0 : w1.cell? ⟨w.heap.size, 0, none⟩ = some (I n) := cell_of_row w1 _ 0 _ _ _ y0
  clear y0 hs1
  go_enter Try.func160, Try.ntmps160
  go_upto_region 1 with fail
  rw [← hw1]
  clear hw1
  go_wp2_with fail
  refine (within_any _ _ _ _).mono ?_
  rintro e w3 ⟨rfl, rfl⟩
  go_wp2
  go_ret
  exact ⟨by rw [← hM.out]; rfl, hb1⟩

set_option maxRecDepth 100000 in
set_option maxHeartbeats 4000000 in
theorem nonsense_any (n M : Int) (p : Por) (A : Option Addr) (ln c : Nat) (hM : Hid (wrap64 (n - 1) = M)) (w : World) :
    Calls Try.prog 144 #[galV n A ln c, porV p] w fun e w' => e = .returned (.bool (!porM M n p)) ∧ Below w.heap.size w w' := by
  obtain ⟨kd, a, b, q, neg⟩ := p
  obtain ⟨wa, ha, sa, ya, ba⟩ := one_box w (.cells #[I n, .slice A ln c] 127)
  obtain ⟨w1, hw1, s1, y1, hb1⟩ := one_box wa (.cells #[I kd, I a, I b, I q, .bool neg] 71)
  rw [sa] at y1
  rw [ha] at hw1
  have HGw1 := Lib.hid ((hb1.block _ (by omega)).trans ya)
  have HSw1 := Lib.hid y1
  have hzw1 : w.heap.size + 1 < w1.heap.size := by omega
  have hBw1 : Below w.heap.size w w1 := ba.trans (hb1.mono (by omega))
  obtain ⟨T, hT⟩ : ∃ T, T = twoM M ⟨kd, a, b, q, neg⟩ := ⟨_, rfl⟩
  have HT := Lib.hid (hT.trans (show twoM M ⟨kd, a, b, q, neg⟩ = (wi a 0 M && (wi b 0 M && (a != b))) from rfl))
  have HP := Lib.hid (show porM M n ⟨kd, a, b, q, neg⟩ = if kd = 1 then wi a 0 M && ((b == 0) && wi q 0 M) else if kd = 2 ∨ kd = 3 then T && (q == 0) else if kd = 4 then T && wi q 0 n else false by rw [hT]; rfl)
  obtain ⟨P, hP⟩ : ∃ P, P = porM M n ⟨kd, a, b, q, neg⟩ := ⟨_, rfl⟩
  rw [← hP] at HP ⊢
  clear ha sa ya ba s1 y1 hb1 hT hP wa
  go_enter Try.func144, Try.ntmps144
  go_upto_region 1 with fail
  rw [← hw1]
  clear hw1
  have g0 : w1.cell? ⟨w.heap.size, 0, none⟩ = some (I n) := cell_of_row w1 _ 0 _ _ _ HGw1.out
  have g1 : w1.cell? ⟨w.heap.size, 1, none⟩ = some (.slice A ln c) := cell_of_row w1 _ 1 _ _ _ HGw1.out
  have b0 : w1.cell? ⟨w.heap.size + 1, 0, none⟩ = some (I kd) := cell_of_row w1 _ 0 _ _ _ HSw1.out
  have b1 : w1.cell? ⟨w.heap.size + 1, 1, none⟩ = some (I a) := cell_of_row w1 _ 1 _ _ _ HSw1.out
  have b2 : w1.cell? ⟨w.heap.size + 1, 2, none⟩ = some (I b) := cell_of_row w1 _ 2 _ _ _ HSw1.out
  have b3 : w1.cell? ⟨w.heap.size + 1, 3, none⟩ = some (I q) := cell_of_row w1 _ 3 _ _ _ HSw1.out
  have b4 : w1.cell? ⟨w.heap.size + 1, 4, none⟩ = some (.bool neg) := cell_of_row w1 _ 4 _ _ _ HSw1.out
  go_cut [5] from 5 to 22 (fun s wx => s = .bool T ∧ KeptS w1 wx)
  case first =>
    have HK := Lib.hid (Below.refl w1.heap.size w1)
    cases q1 : wi a 0 M
    · have HTT := Lib.hid (HT.out.trans (by rw [q1, Bool.false_and]))
      go_wp2_with fail
      refine (ghas_any n M a A ln c hM w1).mono ?_
      rintro e w2 ⟨rfl, hbw2⟩
      rw [q1]
      have HK2 := Lib.hid hbw2
      have HGw2 := Lib.hid ((hbw2.block _ (by omega)).trans HGw1.out)
      have HSw2 := Lib.hid ((hbw2.block _ (by omega)).trans HSw1.out)
      have hzw2 : w.heap.size + 1 < w2.heap.size := by have := hbw2.size; omega
      have hBw2 : Below w.heap.size w w2 := hBw1.trans (hbw2.mono (by omega))
      clear hbw2 g0 g1 b0 b1 b2 b3 b4
      have g0 : w2.cell? ⟨w.heap.size, 0, none⟩ = some (I n) := cell_of_row w2 _ 0 _ _ _ HGw2.out
      have g1 : w2.cell? ⟨w.heap.size, 1, none⟩ = some (.slice A ln c) := cell_of_row w2 _ 1 _ _ _ HGw2.out
      have b0 : w2.cell? ⟨w.heap.size + 1, 0, none⟩ = some (I kd) := cell_of_row w2 _ 0 _ _ _ HSw2.out
      have b1 : w2.cell? ⟨w.heap.size + 1, 1, none⟩ = some (I a) := cell_of_row w2 _ 1 _ _ _ HSw2.out
      have b2 : w2.cell? ⟨w.heap.size + 1, 2, none⟩ = some (I b) := cell_of_row w2 _ 2 _ _ _ HSw2.out
      have b3 : w2.cell? ⟨w.heap.size + 1, 3, none⟩ = some (I q) := cell_of_row w2 _ 3 _ _ _ HSw2.out
      have b4 : w2.cell? ⟨w.heap.size + 1, 4, none⟩ = some (.bool neg) := cell_of_row w2 _ 4 _ _ _ HSw2.out
      clear q1
      go_wp2_with fail
      go_meet
      exact ⟨by rw [HTT.out], keptS_of HK2.out⟩
    · cases q2 : wi b 0 M
      · have HTT := Lib.hid (HT.out.trans (by rw [q1, q2, Bool.false_and, Bool.and_false]))
        go_wp2_with fail
        refine (ghas_any n M a A ln c hM w1).mono ?_
        rintro e w2 ⟨rfl, hbw2⟩
        rw [q1]
        have HK2 := Lib.hid hbw2
        have HGw2 := Lib.hid ((hbw2.block _ (by omega)).trans HGw1.out)
        have HSw2 := Lib.hid ((hbw2.block _ (by omega)).trans HSw1.out)
        have hzw2 : w.heap.size + 1 < w2.heap.size := by have := hbw2.size; omega
        have hBw2 : Below w.heap.size w w2 := hBw1.trans (hbw2.mono (by omega))
        clear hbw2 g0 g1 b0 b1 b2 b3 b4
        have g0 : w2.cell? ⟨w.heap.size, 0, none⟩ = some (I n) := cell_of_row w2 _ 0 _ _ _ HGw2.out
        have g1 : w2.cell? ⟨w.heap.size, 1, none⟩ = some (.slice A ln c) := cell_of_row w2 _ 1 _ _ _ HGw2.out
        have b0 : w2.cell? ⟨w.heap.size + 1, 0, none⟩ = some (I kd) := cell_of_row w2 _ 0 _ _ _ HSw2.out
        have b1 : w2.cell? ⟨w.heap.size + 1, 1, none⟩ = some (I a) := cell_of_row w2 _ 1 _ _ _ HSw2.out
        have b2 : w2.cell? ⟨w.heap.size + 1, 2, none⟩ = some (I b) := cell_of_row w2 _ 2 _ _ _ HSw2.out
        have b3 : w2.cell? ⟨w.heap.size + 1, 3, none⟩ = some (I q) := cell_of_row w2 _ 3 _ _ _ HSw2.out
        have b4 : w2.cell? ⟨w.heap.size + 1, 4, none⟩ = some (.bool neg) := cell_of_row w2 _ 4 _ _ _ HSw2.out
        go_wp2_with fail
        refine (ghas_any n M b A ln c hM w2).mono ?_
        rintro e w3 ⟨rfl, hbw3⟩
        rw [q2]
        have HK3 := Lib.hid (HK2.out.trans (hbw3.mono HK2.out.size))
        have HGw3 := Lib.hid ((hbw3.block _ (by omega)).trans HGw2.out)
        have HSw3 := Lib.hid ((hbw3.block _ (by omega)).trans HSw2.out)
        have hzw3 : w.heap.size + 1 < w3.heap.size := by have := hbw3.size; omega
        have hBw3 : Below w.heap.size w w3 := hBw2.trans (hbw3.mono (by omega))
        clear hbw3 g0 g1 b0 b1 b2 b3 b4
        have g0 : w3.cell? ⟨w.heap.size, 0, none⟩ = some (I n) := cell_of_row w3 _ 0 _ _ _ HGw3.out
        have g1 : w3.cell? ⟨w.heap.size, 1, none⟩ = some (.slice A ln c) := cell_of_row w3 _ 1 _ _ _ HGw3.out
        have b0 : w3.cell? ⟨w.heap.size + 1, 0, none⟩ = some (I kd) := cell_of_row w3 _ 0 _ _ _ HSw3.out
        have b1 : w3.cell? ⟨w.heap.size + 1, 1, none⟩ = some (I a) := cell_of_row w3 _ 1 _ _ _ HSw3.out
        have b2 : w3.cell? ⟨w.heap.size + 1, 2, none⟩ = some (I b) := cell_of_row w3 _ 2 _ _ _ HSw3.out
        have b3 : w3.cell? ⟨w.heap.size + 1, 3, none⟩ = some (I q) := cell_of_row w3 _ 3 _ _ _ HSw3.out
        have b4 : w3.cell? ⟨w.heap.size + 1, 4, none⟩ = some (.bool neg) := cell_of_row w3 _ 4 _ _ _ HSw3.out
        clear q1 q2
        go_wp2_with fail
        go_meet
        exact ⟨by rw [HTT.out], keptS_of HK3.out⟩
      · have HTT := Lib.hid (show T = (a != b) by rw [HT.out, q1, q2, Bool.true_and, Bool.true_and])
        go_wp2_with fail
        refine (ghas_any n M a A ln c hM w1).mono ?_
        rintro e w2 ⟨rfl, hbw2⟩
        rw [q1]
        have HK2 := Lib.hid hbw2
        have HGw2 := Lib.hid ((hbw2.block _ (by omega)).trans HGw1.out)
        have HSw2 := Lib.hid ((hbw2.block _ (by omega)).trans HSw1.out)
        have hzw2 : w.heap.size + 1 < w2.heap.size := by have := hbw2.size; omega
        have hBw2 : Below w.heap.size w w2 := hBw1.trans (hbw2.mono (by omega))
        clear hbw2 g0 g1 b0 b1 b2 b3 b4
        have g0 : w2.cell? ⟨w.heap.size, 0, none⟩ = some (I n) := cell_of_row w2 _ 0 _ _ _ HGw2.out
        have g1 : w2.cell? ⟨w.heap.size, 1, none⟩ = some (.slice A ln c) := cell_of_row w2 _ 1 _ _ _ HGw2.out
        have b0 : w2.cell? ⟨w.heap.size + 1, 0, none⟩ = some (I kd) := cell_of_row w2 _ 0 _ _ _ HSw2.out
        have b1 : w2.cell? ⟨w.heap.size + 1, 1, none⟩ = some (I a) := cell_of_row w2 _ 1 _ _ _ HSw2.out
        have b2 : w2.cell? ⟨w.heap.size + 1, 2, none⟩ = some (I b) := cell_of_row w2 _ 2 _ _ _ HSw2.out
        have b3 : w2.cell? ⟨w.heap.size + 1, 3, none⟩ = some (I q) := cell_of_row w2 _ 3 _ _ _ HSw2.out
        have b4 : w2.cell? ⟨w.heap.size + 1, 4, none⟩ = some (.bool neg) := cell_of_row w2 _ 4 _ _ _ HSw2.out
        go_wp2_with fail
        refine (ghas_any n M b A ln c hM w2).mono ?_
        rintro e w3 ⟨rfl, hbw3⟩
        rw [q2]
        have HK3 := Lib.hid (HK2.out.trans (hbw3.mono HK2.out.size))
        have HGw3 := Lib.hid ((hbw3.block _ (by omega)).trans HGw2.out)
        have HSw3 := Lib.hid ((hbw3.block _ (by omega)).trans HSw2.out)
        have hzw3 : w.heap.size + 1 < w3.heap.size := by have := hbw3.size; omega
        have hBw3 : Below w.heap.size w w3 := hBw2.trans (hbw3.mono (by omega))
        clear hbw3 g0 g1 b0 b1 b2 b3 b4
        have g0 : w3.cell? ⟨w.heap.size, 0, none⟩ = some (I n) := cell_of_row w3 _ 0 _ _ _ HGw3.out
        have g1 : w3.cell? ⟨w.heap.size, 1, none⟩ = some (.slice A ln c) := cell_of_row w3 _ 1 _ _ _ HGw3.out
        have b0 : w3.cell? ⟨w.heap.size + 1, 0, none⟩ = some (I kd) := cell_of_row w3 _ 0 _ _ _ HSw3.out
        have b1 : w3.cell? ⟨w.heap.size + 1, 1, none⟩ = some (I a) := cell_of_row w3 _ 1 _ _ _ HSw3.out
        have b2 : w3.cell? ⟨w.heap.size + 1, 2, none⟩ = some (I b) := cell_of_row w3 _ 2 _ _ _ HSw3.out
        have b3 : w3.cell? ⟨w.heap.size + 1, 3, none⟩ = some (I q) := cell_of_row w3 _ 3 _ _ _ HSw3.out
        have b4 : w3.cell? ⟨w.heap.size + 1, 4, none⟩ = some (.bool neg) := cell_of_row w3 _ 4 _ _ _ HSw3.out
        clear q1 q2
        go_wp2_with fail
        go_meet
        exact ⟨by rw [HTT.out], keptS_of HK3.out⟩
  case rest =>
    obtain ⟨rfl, hkk⟩ := hcut
    have HGwc := Lib.hid ((hkk.1.block _ (by omega)).trans HGw1.out)
    have HSwc := Lib.hid ((hkk.1.block _ (by omega)).trans HSw1.out)
    have hzwc : w.heap.size + 1 < wc.heap.size := by have := hkk.1.size; omega
    have hBwc : Below w.heap.size w wc := hBw1.trans (hkk.1.mono hBw1.size)
    clear hkk g0 g1 b0 b1 b2 b3 b4
    have g0 : wc.cell? ⟨w.heap.size, 0, none⟩ = some (I n) := cell_of_row wc _ 0 _ _ _ HGwc.out
    have g1 : wc.cell? ⟨w.heap.size, 1, none⟩ = some (.slice A ln c) := cell_of_row wc _ 1 _ _ _ HGwc.out
    have b0 : wc.cell? ⟨w.heap.size + 1, 0, none⟩ = some (I kd) := cell_of_row wc _ 0 _ _ _ HSwc.out
    have b1 : wc.cell? ⟨w.heap.size + 1, 1, none⟩ = some (I a) := cell_of_row wc _ 1 _ _ _ HSwc.out
    have b2 : wc.cell? ⟨w.heap.size + 1, 2, none⟩ = some (I b) := cell_of_row wc _ 2 _ _ _ HSwc.out
    have b3 : wc.cell? ⟨w.heap.size + 1, 3, none⟩ = some (I q) := cell_of_row wc _ 3 _ _ _ HSwc.out
    have b4 : wc.cell? ⟨w.heap.size + 1, 4, none⟩ = some (.bool neg) := cell_of_row wc _ 4 _ _ _ HSwc.out
    by_cases k1 : kd = 1
    · have g2 : (kd == 1) = true := by simpa using k1
      have HP1 := Lib.hid (HP.out.trans (if_pos k1))
      clear k1
      cases q1 : wi a 0 M
      · have HR := Lib.hid (show P = false by rw [HP1.out, q1]; rfl)
        go_wp2_with fail
        refine (ghas_any n M a A ln c hM wc).mono ?_
        rintro e w4 ⟨rfl, hbw4⟩
        rw [q1]
        have HGw4 := Lib.hid ((hbw4.block _ (by omega)).trans HGwc.out)
        have HSw4 := Lib.hid ((hbw4.block _ (by omega)).trans HSwc.out)
        have hzw4 : w.heap.size + 1 < w4.heap.size := by have := hbw4.size; omega
        have hBw4 : Below w.heap.size w w4 := hBwc.trans (hbw4.mono (by omega))
        clear hbw4 g0 g1 b0 b1 b2 b3 b4
        have g0 : w4.cell? ⟨w.heap.size, 0, none⟩ = some (I n) := cell_of_row w4 _ 0 _ _ _ HGw4.out
        have g1 : w4.cell? ⟨w.heap.size, 1, none⟩ = some (.slice A ln c) := cell_of_row w4 _ 1 _ _ _ HGw4.out
        have b0 : w4.cell? ⟨w.heap.size + 1, 0, none⟩ = some (I kd) := cell_of_row w4 _ 0 _ _ _ HSw4.out
        have b1 : w4.cell? ⟨w.heap.size + 1, 1, none⟩ = some (I a) := cell_of_row w4 _ 1 _ _ _ HSw4.out
        have b2 : w4.cell? ⟨w.heap.size + 1, 2, none⟩ = some (I b) := cell_of_row w4 _ 2 _ _ _ HSw4.out
        have b3 : w4.cell? ⟨w.heap.size + 1, 3, none⟩ = some (I q) := cell_of_row w4 _ 3 _ _ _ HSw4.out
        have b4 : w4.cell? ⟨w.heap.size + 1, 4, none⟩ = some (.bool neg) := cell_of_row w4 _ 4 _ _ _ HSw4.out
        clear q1
        go_wp2
        go_ret
        exact ⟨ret_bool (by first | (rw [HR.out]; done) | (rw [HR.out]; rfl)), hBw4⟩
      · by_cases q2 : b = 0
        · have e1 : (b == 0) = true := by simpa using q2
          have e2 : (b != 0) = false := by simpa using q2
          have HR := Lib.hid (show P = wi q 0 M by rw [HP1.out, q1, e1]; rfl)
          clear q2
          go_wp2_with fail
          refine (ghas_any n M a A ln c hM wc).mono ?_
          rintro e w4 ⟨rfl, hbw4⟩
          rw [q1]
          have HGw4 := Lib.hid ((hbw4.block _ (by omega)).trans HGwc.out)
          have HSw4 := Lib.hid ((hbw4.block _ (by omega)).trans HSwc.out)
          have hzw4 : w.heap.size + 1 < w4.heap.size := by have := hbw4.size; omega
          have hBw4 : Below w.heap.size w w4 := hBwc.trans (hbw4.mono (by omega))
          clear hbw4 g0 g1 b0 b1 b2 b3 b4
          have g0 : w4.cell? ⟨w.heap.size, 0, none⟩ = some (I n) := cell_of_row w4 _ 0 _ _ _ HGw4.out
          have g1 : w4.cell? ⟨w.heap.size, 1, none⟩ = some (.slice A ln c) := cell_of_row w4 _ 1 _ _ _ HGw4.out
          have b0 : w4.cell? ⟨w.heap.size + 1, 0, none⟩ = some (I kd) := cell_of_row w4 _ 0 _ _ _ HSw4.out
          have b1 : w4.cell? ⟨w.heap.size + 1, 1, none⟩ = some (I a) := cell_of_row w4 _ 1 _ _ _ HSw4.out
          have b2 : w4.cell? ⟨w.heap.size + 1, 2, none⟩ = some (I b) := cell_of_row w4 _ 2 _ _ _ HSw4.out
          have b3 : w4.cell? ⟨w.heap.size + 1, 3, none⟩ = some (I q) := cell_of_row w4 _ 3 _ _ _ HSw4.out
          have b4 : w4.cell? ⟨w.heap.size + 1, 4, none⟩ = some (.bool neg) := cell_of_row w4 _ 4 _ _ _ HSw4.out
          go_wp2_with fail
          refine (ghas_any n M q A ln c hM w4).mono ?_
          rintro e w5 ⟨rfl, hbw5⟩
          have HGw5 := Lib.hid ((hbw5.block _ (by omega)).trans HGw4.out)
          have HSw5 := Lib.hid ((hbw5.block _ (by omega)).trans HSw4.out)
          have hzw5 : w.heap.size + 1 < w5.heap.size := by have := hbw5.size; omega
          have hBw5 : Below w.heap.size w w5 := hBw4.trans (hbw5.mono (by omega))
          clear hbw5 g0 g1 b0 b1 b2 b3 b4
          have g0 : w5.cell? ⟨w.heap.size, 0, none⟩ = some (I n) := cell_of_row w5 _ 0 _ _ _ HGw5.out
          have g1 : w5.cell? ⟨w.heap.size, 1, none⟩ = some (.slice A ln c) := cell_of_row w5 _ 1 _ _ _ HGw5.out
          have b0 : w5.cell? ⟨w.heap.size + 1, 0, none⟩ = some (I kd) := cell_of_row w5 _ 0 _ _ _ HSw5.out
          have b1 : w5.cell? ⟨w.heap.size + 1, 1, none⟩ = some (I a) := cell_of_row w5 _ 1 _ _ _ HSw5.out
          have b2 : w5.cell? ⟨w.heap.size + 1, 2, none⟩ = some (I b) := cell_of_row w5 _ 2 _ _ _ HSw5.out
          have b3 : w5.cell? ⟨w.heap.size + 1, 3, none⟩ = some (I q) := cell_of_row w5 _ 3 _ _ _ HSw5.out
          have b4 : w5.cell? ⟨w.heap.size + 1, 4, none⟩ = some (.bool neg) := cell_of_row w5 _ 4 _ _ _ HSw5.out
          clear q1
          go_wp2
          go_ret
          exact ⟨ret_bool (by first | (rw [HR.out]; done) | (rw [HR.out]; rfl)), hBw5⟩
        · have e1 : (b == 0) = false := by simpa using q2
          have e2 : (b != 0) = true := by simpa using q2
          have HR := Lib.hid (show P = false by rw [HP1.out, e1]; simp)
          go_wp2_with fail
          refine (ghas_any n M a A ln c hM wc).mono ?_
          rintro e w4 ⟨rfl, hbw4⟩
          rw [q1]
          have HGw4 := Lib.hid ((hbw4.block _ (by omega)).trans HGwc.out)
          have HSw4 := Lib.hid ((hbw4.block _ (by omega)).trans HSwc.out)
          have hzw4 : w.heap.size + 1 < w4.heap.size := by have := hbw4.size; omega
          have hBw4 : Below w.heap.size w w4 := hBwc.trans (hbw4.mono (by omega))
          clear hbw4 g0 g1 b0 b1 b2 b3 b4
          have g0 : w4.cell? ⟨w.heap.size, 0, none⟩ = some (I n) := cell_of_row w4 _ 0 _ _ _ HGw4.out
          have g1 : w4.cell? ⟨w.heap.size, 1, none⟩ = some (.slice A ln c) := cell_of_row w4 _ 1 _ _ _ HGw4.out
          have b0 : w4.cell? ⟨w.heap.size + 1, 0, none⟩ = some (I kd) := cell_of_row w4 _ 0 _ _ _ HSw4.out
          have b1 : w4.cell? ⟨w.heap.size + 1, 1, none⟩ = some (I a) := cell_of_row w4 _ 1 _ _ _ HSw4.out
          have b2 : w4.cell? ⟨w.heap.size + 1, 2, none⟩ = some (I b) := cell_of_row w4 _ 2 _ _ _ HSw4.out
          have b3 : w4.cell? ⟨w.heap.size + 1, 3, none⟩ = some (I q) := cell_of_row w4 _ 3 _ _ _ HSw4.out
          have b4 : w4.cell? ⟨w.heap.size + 1, 4, none⟩ = some (.bool neg) := cell_of_row w4 _ 4 _ _ _ HSw4.out
          clear q1 q2
          go_wp2
          go_ret
          exact ⟨ret_bool (by first | (rw [HR.out]; done) | (rw [HR.out]; rfl)), hBw4⟩
    · have g2 : (kd == 1) = false := by simpa using k1
      by_cases k2 : kd = 2 ∨ kd = 3
      · have HP1 := Lib.hid (HP.out.trans (by rw [if_neg k1, if_pos k2]))
        cases T
        · have HR := Lib.hid (show P = false by rw [HP1.out]; rfl)
          rcases k2 with rfl | rfl
          all_goals
            go_wp2
            go_ret
            exact ⟨ret_bool (by first | (rw [HR.out]; done) | (rw [HR.out]; rfl)), hBwc⟩
        · by_cases q2 : q = 0
          · subst q2
            have HR := Lib.hid (show P = true by rw [HP1.out]; rfl)
            rcases k2 with rfl | rfl
            all_goals
              go_wp2
              go_ret
              exact ⟨ret_bool (by first | (rw [HR.out]; done) | (rw [HR.out]; rfl)), hBwc⟩
          · have e1 : (q != 0) = true := by simpa using q2
            have HR := Lib.hid (show P = false by rw [HP1.out, show (q == 0) = false by simpa using q2]; rfl)
            clear q2
            rcases k2 with rfl | rfl
            all_goals
              go_wp2
              go_ret
              exact ⟨ret_bool (by first | (rw [HR.out]; done) | (rw [HR.out]; rfl)), hBwc⟩
      · have HP2 := Lib.hid (HP.out.trans (by rw [if_neg k1, if_neg k2]))
        have g3 : (kd == 2) = false := by simp; omega
        have g4 : (kd == 3) = false := by simp; omega
        by_cases k4 : kd = 4
        · have g5 : (kd == 4) = true := by simpa using k4
          have HP3 := Lib.hid (HP2.out.trans (if_pos k4))
          clear k1 k2 k4
          cases T
          · have HR := Lib.hid (show P = false by rw [HP3.out]; rfl)
            go_wp2
            go_ret
            exact ⟨ret_bool (by first | (rw [HR.out]; done) | (rw [HR.out]; rfl)), hBwc⟩
          · have HR := Lib.hid (show P = wi q 0 n by rw [HP3.out]; rfl)
            go_wp2_with fail
            refine (within_any _ _ _ _).mono ?_
            rintro e w6 ⟨rfl, hww⟩
            rw [← hww]
            clear hww
            go_wp2
            go_ret
            exact ⟨ret_bool (by first | (rw [HR.out]; done) | (rw [HR.out]; rfl)), hBwc⟩
        · have HR := Lib.hid (show P = false by rw [HP2.out, if_neg k4])
          have g5 : (kd == 4) = false := by simpa using k4
          clear k1 k2 k4
          go_wp2
          go_ret
          exact ⟨ret_bool (by first | (rw [HR.out]; done) | (rw [HR.out]; rfl)), hBwc⟩
end Go.Proofs.Ytglkjiimmlobbaa

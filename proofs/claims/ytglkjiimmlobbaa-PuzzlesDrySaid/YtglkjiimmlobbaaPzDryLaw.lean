/-
  CONTRACT: the law PuzzlesDry. (Written by gen/dry_make.py.)
-/
import Derived.Test.YtglkjiimmlobbaaPzDry
import Derived.Test.YtglkjiimmlobbaaPzWeiLaw
import Derived.Test.YtglkjiimmlobbaaPzE
namespace Go.Proofs.Ytglkjiimmlobbaa
open Go.RowKit Go.Shelf
theorem plm_cases {W H fr tt : Int} {ps : List Int} (hv : pipB W H fr tt ps = true) : plmF W H fr tt ps = 0 ∧ plmN W H fr tt ps = (plL W H fr tt ps).length ∧ plmL W H fr tt ps = cheap sumL (plL W H fr tt ps) ∧ plmE W H fr tt ps = if 0 < (plL W H fr tt ps).length then 0 else 3 := by
  refine ⟨?_, ?_, ?_, ?_⟩
  · rw [plmF, hv]; rfl
  · rw [plmN, hv]; rfl
  · rw [plmL, hv]; rfl
  · rw [plmE, hv]; rfl

set_option maxRecDepth 100000 in
set_option maxHeartbeats 8000000 in
theorem dry_any (W H fr tt : Int) (A A2 : Option Addr) (c c2 : Nat) (ps ts : List Int) (w : World) (hx : IntsR w w.heap.size A ps) (hl : ps.length ≤ maxLen) (hy : IntsR w w.heap.size A2 ts) (hl2 : ts.length ≤ maxLen) :
    Calls Try.prog 13 #[.agg #[I W, I H, .slice A ps.length c, I fr, I tt], .slice A2 ts.length c2] w fun e w' => e = .returned (.bool true) ∧ Below w.heap.size w w' := by
  obtain ⟨wa, ha, sa, ya, ba⟩ := one_box w (.cells #[I W, I H, .slice A ps.length c, I fr, I tt] 43)
  have f0 : wa.cell? ⟨w.heap.size, 0, none⟩ = some (I W) := cell_of_row wa _ 0 _ _ _ ya
  have f1 : wa.cell? ⟨w.heap.size, 1, none⟩ = some (I H) := cell_of_row wa _ 1 _ _ _ ya
  have f2 : wa.cell? ⟨w.heap.size, 2, none⟩ = some (.slice A ps.length c) := cell_of_row wa _ 2 _ _ _ ya
  have f3 : wa.cell? ⟨w.heap.size, 3, none⟩ = some (I fr) := cell_of_row wa _ 3 _ _ _ ya
  have f4 : wa.cell? ⟨w.heap.size, 4, none⟩ = some (I tt) := cell_of_row wa _ 4 _ _ _ ya
  have hx1 := ints_call ba hx
  have hy1 := ints_call ba hy
  have YA := Lib.hid ya
  have hsw : w.heap.size < wa.heap.size := by omega
  have hl' := hl
  have hl2' := hl2
  unfold maxLen at hl' hl2'
  clear ya hx hy sa
  by_cases h6 : ps.length ≤ 6
  · have d1 : decide ((6 : Int) < (ps.length : Int)) = false := decide_eq_false (by omega)
    have d2 : decide (6 < ps.length) = false := decide_eq_false (by omega)
    go_enter Try.func13, Try.ntmps13
    go_upto_region 1 with fail
    rw [← ha]
    clear ha
    go_wp2_with fail
    refine (Plumb_any W H fr tt A c ps wa hx1 hl).mono ?_
    rintro e w1 ⟨A3, c3, rfl, i3, m3, hb1⟩
    have y1 := Lib.hid ((hb1.block _ hsw).trans YA.out)
    have f0 : w1.cell? ⟨w.heap.size, 0, none⟩ = some (I W) := cell_of_row w1 _ 0 _ _ _ y1.out
    have f1 : w1.cell? ⟨w.heap.size, 1, none⟩ = some (I H) := cell_of_row w1 _ 1 _ _ _ y1.out
    have f2 : w1.cell? ⟨w.heap.size, 2, none⟩ = some (.slice A ps.length c) := cell_of_row w1 _ 2 _ _ _ y1.out
    have f3 : w1.cell? ⟨w.heap.size, 3, none⟩ = some (I fr) := cell_of_row w1 _ 3 _ _ _ y1.out
    have f4 : w1.cell? ⟨w.heap.size, 4, none⟩ = some (I tt) := cell_of_row w1 _ 4 _ _ _ y1.out
    have hx2 := ints_call hb1 hx1
    have hy2 := ints_call hb1 hy1
    have hB1 := ba.trans (hb1.mono ba.size)
    have hs1 : w.heap.size < w1.heap.size := by have := hb1.size; omega
    clear hb1 hx1 hy1 YA
    go_wp2_with fail
    refine (Plumbings_any W H fr tt A c ps w1 hx2 hl).mono ?_
    rintro e w2 ⟨rfl, hb2⟩
    have y2 := Lib.hid ((hb2.block _ hs1).trans y1.out)
    have f0 : w2.cell? ⟨w.heap.size, 0, none⟩ = some (I W) := cell_of_row w2 _ 0 _ _ _ y2.out
    have f1 : w2.cell? ⟨w.heap.size, 1, none⟩ = some (I H) := cell_of_row w2 _ 1 _ _ _ y2.out
    have f2 : w2.cell? ⟨w.heap.size, 2, none⟩ = some (.slice A ps.length c) := cell_of_row w2 _ 2 _ _ _ y2.out
    have f3 : w2.cell? ⟨w.heap.size, 3, none⟩ = some (I fr) := cell_of_row w2 _ 3 _ _ _ y2.out
    have f4 : w2.cell? ⟨w.heap.size, 4, none⟩ = some (I tt) := cell_of_row w2 _ 4 _ _ _ y2.out
    have hx3 := ints_call hb2 hx2
    have hy3 := ints_call hb2 hy2
    have i4 := ints_call hb2 i3
    have hB2 := hB1.trans (hb2.mono hB1.size)
    have hs2 : w.heap.size < w2.heap.size := by have := hb2.size; omega
    clear hb2 hx2 hy2 i3 y1 hB1
    cases hv : pipB W H fr tt ps
    · have e1 : plmE W H fr tt ps = 30 := by rw [plmE, hv]; rfl
      have e2 : plmF W H fr tt ps = 30 := by rw [plmF, hv]; rfl
      rw [e1, e2]
      generalize plmN W H fr tt ps = n at *
      clear e1 e2 hv f0 f1 f2 f3 f4
      go_wp2_with fail
      refine (works_any w2).mono ?_
      rintro e w8 ⟨rfl, hb8⟩
      go_wp2
      go_ret
      exact ⟨rfl, hB2.trans (hb8.mono hB2.size)⟩
    · have HV := Lib.hid hv
      obtain ⟨e1, e2, e3, e4⟩ := plm_cases hv
      rw [e1, e2, e4]
      have HC := Lib.hid e3
      have hbl : (plmL W H fr tt ps).length ≤ maxLen := m3
      obtain ⟨b, hb⟩ : ∃ b, b = plmL W H fr tt ps := ⟨_, rfl⟩
      rw [← hb] at i4 hbl
      rw [← hb]
      have HBC := Lib.hid (show b = cheap sumL (plL W H fr tt ps) by rw [hb]; exact HC.out)
      clear e1 e2 e3 e4 m3 hb hv
      by_cases hp : 0 < (plL W H fr tt ps).length
      · rw [if_pos hp]
        have HIN := Lib.hid (show slvB W H fr tt ps b = true by rw [slv_iff HV.out, HBC.out]; exact cheap_mem hp)
        obtain ⟨n, hn⟩ : ∃ n, n = (plL W H fr tt ps).length := ⟨_, rfl⟩
        rw [← hn] at hp ⊢
        have g1 : decide ((0 : Int) < (n : Int)) = true := by simp; omega
        have g2 : decide (0 < n) = true := by simp; omega
        clear hn hp
        go_wp2_with fail
        refine (solves_any W H fr tt A A3 c c3 ps b w2 hx3 hl i4 hbl).mono ?_
        rintro e w3 ⟨rfl, hb3⟩
        rw [HIN.out]
        have y3 := Lib.hid ((hb3.block _ hs2).trans y2.out)
        have f0 : w3.cell? ⟨w.heap.size, 0, none⟩ = some (I W) := cell_of_row w3 _ 0 _ _ _ y3.out
        have f1 : w3.cell? ⟨w.heap.size, 1, none⟩ = some (I H) := cell_of_row w3 _ 1 _ _ _ y3.out
        have f2 : w3.cell? ⟨w.heap.size, 2, none⟩ = some (.slice A ps.length c) := cell_of_row w3 _ 2 _ _ _ y3.out
        have f3 : w3.cell? ⟨w.heap.size, 3, none⟩ = some (I fr) := cell_of_row w3 _ 3 _ _ _ y3.out
        have f4 : w3.cell? ⟨w.heap.size, 4, none⟩ = some (I tt) := cell_of_row w3 _ 4 _ _ _ y3.out
        have hx4 := ints_call hb3 hx3
        have hy4 := ints_call hb3 hy3
        have i5 := ints_call hb3 i4
        have hB3 := hB2.trans (hb3.mono hB2.size)
        clear hb3 hx3 hy3 i4 y2 hB2
        go_wp2_with fail
        refine (solves_any W H fr tt A A2 c c2 ps ts w3 hx4 hl hy4 hl2).mono ?_
        rintro e w4 ⟨rfl, hb4⟩
        have hy5 := ints_call hb4 hy4
        have i6 := ints_call hb4 i5
        have hB4 := hB3.trans (hb4.mono hB3.size)
        clear hb4 hx4 hy4 i5 y3 hB3 f0 f1 f2 f3 f4
        cases hs : slvB W H fr tt ps ts
        · clear hs
          go_wp2_with fail
          refine (works_any w4).mono ?_
          rintro e w8 ⟨rfl, hb8⟩
          go_wp2
          go_ret
          exact ⟨rfl, hB4.trans (hb8.mono hB4.size)⟩
        · have hin := (slv_iff HV.out).1 hs
          have hle : sumL b ≤ sumL ts := by rw [HBC.out]; exact cheap_least hin
          obtain ⟨N, hN, hbn, htn, hbm, htm, hfst⟩ : ∃ N, N ≤ 9 ∧ b.length = N ∧ ts.length = N ∧ Nums 3 b ∧ Nums 3 ts ∧ (sumL ts ≤ sumL b → ts ≠ b → LtN b ts N) := by
            obtain ⟨a, b', f, t, rfl, rfl, rfl, rfl, k1, k2, k3, k4, k5, k6, k7, k8, k9⟩ := pip_facts HV.out
            have hb2 := (slv_iff HV.out).1 HIN.out
            rw [pl_eq k8] at hin hb2
            refine ⟨a * b', k5, plb_each _ hb2, plb_each _ hin, plb_nums _ hb2, plb_nums _ hin, fun h1 h2 => ?_⟩
            have e := HBC.out
            rw [pl_eq k8] at e
            rw [e] at h1 h2 ⊢
            exact first_of (plb_sorted _ _ _ _ _ _) hin h1 h2
          have HF := Lib.hid hfst
          have HBN := Lib.hid hbn
          have HTN := Lib.hid htn
          have HBM := Lib.hid hbm
          have HTM := Lib.hid htm
          have g3 : ((b.length : Int) != (ts.length : Int)) = false := by rw [hbn, htn]; simp
          clear hs hin hfst hbn htn hbm htm
          go_wp2_with fail
          go_loop [9, 10, 11] (fun x y i => ∃ k p q : Nat, k ≤ ts.length ∧ i = .int .i64 k ∧ x = .int .i64 p ∧ y = .int .i64 q ∧ p ≤ 3 * k ∧ q ≤ 3 * k ∧ Hid (p = sumL (b.take k) ∧ q = sumL (ts.take k))) (fun _ _ i => ts.length - (intOf i).toNat)
          case atStart => exact ⟨0, 0, 0, Nat.zero_le _, rfl, rfl, rfl, Nat.zero_le _, Nat.zero_le _, Lib.hid ⟨rfl, rfl⟩⟩
          case round =>
            obtain ⟨k, p, q, hk, rfl, rfl, rfl, hp3, hq3, HS⟩ := hrel
            clear g3
            have ht9 : ts.length ≤ 9 := by rw [HTN.out]; exact hN
            by_cases hlt : k < ts.length
            · have hkb : k < b.length := by rw [HBN.out, ← HTN.out]; exact hlt
              obtain ⟨a1, rfl, hb1, d1⟩ := hy5.at_ hlt
              obtain ⟨a2, rfl, hb2, d2⟩ := i6.at_ hkb
              have hbk := HBM.out.nat hkb
              have htk := HTM.out.nat hlt
              rw [htk.1] at d1
              rw [hbk.1] at d2
              obtain ⟨x, hx⟩ : ∃ x, x = (nth b k).toNat := ⟨_, rfl⟩
              obtain ⟨y, hy⟩ : ∃ y, y = (nth ts k).toNat := ⟨_, rfl⟩
              rw [← hx] at d2
              rw [← hy] at d1
              have hx3 : x ≤ 3 := by rw [hx]; exact hbk.2
              have hy3 : y ≤ 3 := by rw [hy]; exact htk.2
              have HN := Lib.hid (show p + x = sumL (b.take (k + 1)) ∧ q + y = sumL (ts.take (k + 1)) by
                rw [sumL_take hkb, sumL_take hlt, ← HS.out.1, ← HS.out.2, hx, hy]; exact ⟨rfl, rfl⟩)
              clear hbk htk hx hy HS
              go_wp2
              go_round
              case rel => exact ⟨k + 1, p + x, q + y, by omega, by go_num, by go_num, by go_num, by omega, by omega, HN⟩
              case measure => simp [intOf]; omega
            · obtain rfl : k = ts.length := by omega
              have hp : p = sumL b := by rw [HS.out.1, show ts.length = b.length by rw [HTN.out, HBN.out], List.take_length]
              have hq : q = sumL ts := by rw [HS.out.2, List.take_length]
              have hle2 : p ≤ q := by rw [hp, hq]; exact hle
              have HPQ := Lib.hid (show q ≤ p → ts ≠ b → LtN b ts N by rw [hp, hq]; exact HF.out)
              clear hp hq hle HS HF
              go_wp2_with fail
              go_loopw [12] (fun i wr => ∃ k : Nat, k ≤ ts.length ∧ i = .int .i64 k ∧ Hid (∀ j, j < k → nth b j = nth ts j) ∧ Below w4.heap.size w4 wr) (fun i _ => ts.length - (intOf i).toNat)
              case atStart => exact ⟨0, Nat.zero_le _, rfl, Lib.hid (fun j h => by omega), Below.refl _ _⟩
              case round =>
                obtain ⟨k, hk, rfl, HA, hB⟩ := hrel
                have hyr := ints_call hB hy5
                have hir := ints_call hB i6
                have hBr : Below w.heap.size w wr := hB4.trans (hB.mono hB4.size)
                clear hy5 i6 hB4
                by_cases hlt : k < ts.length
                · have hkb : k < b.length := by rw [HBN.out, ← HTN.out]; exact hlt
                  obtain ⟨a1, rfl, hb1, d1⟩ := hyr.at_ hlt
                  obtain ⟨a2, rfl, hb2, d2⟩ := hir.at_ hkb
                  have hkbI : (k : Int) < (b.length : Int) := by omega
                  by_cases he : nth b k = nth ts k
                  · have hb3 : (nth b k != nth ts k) = false := by simp [he]
                    have HE := Lib.hid he
                    clear he
                    go_wp2
                    go_quiet (fail)
                    go_wp2
                    go_roundw
                    case rel => exact ⟨k + 1, by omega, by go_num, Lib.hid (fun j hj => by rcases Nat.lt_succ_iff_lt_or_eq.1 hj with h | rfl; exact HA.out j h; exact HE.out), below_drewN hB _⟩
                    case measure => simp [intOf]; omega
                  · have hb3 : (nth b k != nth ts k) = true := by simpa using he
                    have HE := Lib.hid he
                    clear he
                    go_wp2
                    go_quiet (fail)
                    go_upto_region 23 with fail
                    refine wp_region_qtail 20 (by kernel_rfl) (by kernel_rfl) ?_
                    simp only [List.take_succ_cons, List.take_zero, List.drop_succ_cons, List.drop_zero]
                    obtain ⟨X, hX⟩ : ∃ X, X = (wr.drewN nq).drew := ⟨_, rfl⟩
                    rw [← hX]
                    have e1 : X.cell? (a1.add k) = some (.int .i64 (nth ts k)) := by rw [hX]; exact d1
                    have e2 : X.cell? (a2.add k) = some (.int .i64 (nth b k)) := by rw [hX]; exact d2
                    have hBX : Below w.heap.size w X := by rw [hX]; exact (below_drewN hBr _).drew
                    clear hX d1 d2 hb3 hyr hir hB hBr
                    by_cases hpq : p < q
                    · have q1 : decide ((p : Int) < (q : Int)) = true := by simpa using hpq
                      have q2 : decide (p < q) = true := by simpa using hpq
                      clear hpq
                      repeat (first | go_big_quiet_skip | (go_big_quiet_want; go_big_quiet_op; go_big_quiet_on))
                      refine wpQuiet_nil ?_
                      go_wp2_with fail
                      refine (works_any X).mono ?_
                      rintro e w8 ⟨rfl, hb8⟩
                      go_wp2
                      go_ret
                      exact ⟨rfl, hBX.trans (hb8.mono hBX.size)⟩
                    · have q1 : decide ((p : Int) < (q : Int)) = false := by simpa using hpq
                      have q2 : decide (p < q) = false := by simpa using hpq
                      have q4 : ((p : Int) == (q : Int)) = true := by simp; omega
                      have q5 : (p == q) = true := by simp; omega
                      obtain ⟨i, hi1, hi2, hi3⟩ := HPQ.out (by omega) (fun e => HE.out (by rw [e]))
                      have hik : i = k := by
                        rcases Nat.lt_trichotomy i k with h | h | h
                        · have := HA.out i h; omega
                        · exact h
                        · exact absurd (hi2 k h) HE.out
                      subst hik
                      have q3 : decide (nth b i < nth ts i) = true := by simpa using hi3
                      clear hpq hi2 hi3
                      repeat (first | go_big_quiet_skip | (go_big_quiet_want; go_big_quiet_op; go_big_quiet_on))
                      refine wpQuiet_nil ?_
                      go_wp2_with fail
                      refine (works_any X).mono ?_
                      rintro e w8 ⟨rfl, hb8⟩
                      go_wp2
                      go_ret
                      exact ⟨rfl, hBX.trans (hb8.mono hBX.size)⟩
                · obtain rfl : k = ts.length := by omega
                  go_wp2_with fail
                  refine (works_any wr).mono ?_
                  rintro e w8 ⟨rfl, hb8⟩
                  go_wp2
                  go_ret
                  exact ⟨rfl, hBr.trans (hb8.mono hBr.size)⟩
      · rw [if_neg hp]
        have hn : (plL W H fr tt ps).length = 0 := by omega
        have HOUT := Lib.hid (show slvB W H fr tt ps ts = false by
          cases e : slvB W H fr tt ps ts
          · rfl
          · have := (slv_iff HV.out).1 e
            rw [List.eq_nil_of_length_eq_zero hn] at this; cases this)
        rw [hn]
        clear hn hp
        go_wp2_with fail
        refine (solves_any W H fr tt A A2 c c2 ps ts w2 hx3 hl hy3 hl2).mono ?_
        rintro e w4 ⟨rfl, hb4⟩
        rw [HOUT.out]
        have hB4 := hB2.trans (hb4.mono hB2.size)
        clear hb4 hx3 hy3 i4 y2 hB2 f0 f1 f2 f3 f4
        go_wp2_with fail
        refine (works_any w4).mono ?_
        rintro e w8 ⟨rfl, hb8⟩
        go_wp2
        go_ret
        exact ⟨rfl, hB4.trans (hb8.mono hB4.size)⟩
  · have d1 : decide ((6 : Int) < (ps.length : Int)) = true := decide_eq_true (by omega)
    have d2 : decide (6 < ps.length) = true := decide_eq_true (by omega)
    go_enter Try.func13, Try.ntmps13
    go_upto_region 1 with fail
    rw [← ha]
    clear ha
    go_wp2_with fail
    refine (works_any wa).mono ?_
    rintro e w8 ⟨rfl, hb8⟩
    go_wp2
    go_ret
    exact ⟨rfl, ba.trans (hb8.mono ba.size)⟩
end Go.Proofs.Ytglkjiimmlobbaa

/-
  CONTRACTS of the document's own answers: flows.
-/
import Derived.Test.YtglkjiimmlobbaaPzRChk
import Derived.Test.YtglkjiimmlobbaaPzWetC
namespace Go.Proofs.Ytglkjiimmlobbaa
open Go.RowKit Go.Shelf
def natV (f : Nat → Nat) : Nat → Value := fun x => I (f x : Nat)
def booV (S : Nat → Bool) : Nat → Value := fun x => .bool (S x)
theorem natV_set (f : Nat → Nat) (k v : Nat) : (fun x => if x = k then I (v : Nat) else natV f x) = natV (fun x => if x = k then v else f x) := by
  funext x
  simp only [natV]
  split <;> rfl
theorem booV_set (S : Nat → Bool) (y : Nat) : (fun x => if x = y then Value.bool true else booV S x) = booV (upd S y) := by
  funext x
  simp only [booV, upd]
  split <;> rfl
theorem opF_zero (ps ts : List Int) : (fun _ => I 0) = natV (opF ps ts 0) := by
  funext x
  simp [natV, opF]

set_option maxRecDepth 100000 in
set_option maxHeartbeats 4000000 in
theorem rflows_any (W H fr N : Nat) (tt : Int) (A1 A2 : Option Addr) (c1 c2 : Nat) (ps ts : List Int) (w : World) (hW : 1 ≤ W) (hW9 : W ≤ 9) (hH : H ≤ 9) (hNW : N = W * H) (hN : N ≤ 9) (hfr : fr < N) (hpl : ps.length = N) (htl : ts.length = N) (hp : Nums 15 ps) (ht : Nums 3 ts)
    (hx : IntsR w w.heap.size A1 ps) (hy : IntsR w w.heap.size A2 ts) :
    Calls Try.prog 100 #[.agg #[I W, I H, .slice A1 N c1, I fr, I tt], .slice A2 N c2] w fun e w' => ∃ g, e = .returned (.tuple #[.slice (some ⟨g, 0, none⟩) N N, I (lkC W H (opF ps ts N) fr : Nat)]) ∧ RowAt w' g 4 (booV (wetC W H (opF ps ts N) fr)) N ∧ Below w.heap.size w w' := by
  obtain ⟨w1, hw1, hs1, y0, hb1⟩ := one_box w (.cells #[I W, I H, .slice A1 N c1, I fr, I tt] 43)
  have f2 : w1.cell? ⟨w.heap.size, 2, none⟩ = some (.slice A1 N c1) := cell_of_row w1 _ 2 _ _ _ y0
  have Y0 := Lib.hid y0
  have HPL := Lib.hid hpl
  have HTL := Lib.hid htl
  have HNW := Lib.hid hNW
  have HX := Lib.hid (ints_call hb1 hx)
  have HY := Lib.hid (ints_call hb1 hy)
  have HP := Lib.hid hp
  have HT := Lib.hid ht
  have HS1 := Lib.hid hs1
  clear hpl htl hNW y0 hx hy hp ht hs1
  have hmk := run_make_row' (P := Try.prog) 29 3 (.int .i64 0) 8 Try.underlying29 info_int rfl .i64 .i64 N (by omega) (by omega)
  simp only [madeF, opF_zero ps ts] at hmk
  have hmb := run_make_row' (P := Try.prog) 50 4 (.bool false) 1 Try.underlying50 info_bool rfl .i64 .i64 N (by omega) (by omega)
  simp only [madeF] at hmb
  go_enter Try.func100, Try.ntmps100
  go_upto_region 1 with fail
  rw [← hw1]
  clear hw1
  go_upto_region 3 with fail
  obtain ⟨w2, hw2, hs2, r2, hb2⟩ := one_box w1 (.cells (rowF (natV (opF ps ts 0)) N) 3)
  rw [← hw2]
  obtain ⟨g1, hg1⟩ : ∃ g1, g1 = w1.heap.size := ⟨_, rfl⟩
  have hs1 := HS1.out
  rw [← hg1] at hs1 hs2 r2 hb2
  rw [← hg1]
  have q1 : w.heap.size < g1 := by omega
  have q2 : g1 < w2.heap.size := by omega
  have HX := Lib.hid (show IntsR w1 g1 A1 ps by rw [hg1]; exact HX.out)
  have HY := Lib.hid (show IntsR w1 g1 A2 ts by rw [hg1]; exact HY.out)
  have hb1 : Below w.heap.size w w1 := hb1
  have hR2 : RowAt w2 g1 3 (natV (opF ps ts 0)) N := r2
  clear hw2 r2 hmk f2 hs1 hs2 hg1
  go_wp2_with fail
  go_loopw [8] (fun i wr => ∃ k : Nat, k ≤ N ∧ i = .int .i64 k ∧ Hid (RowAt wr g1 3 (natV (opF ps ts k)) N) ∧ KB g1 w2 wr) (fun i _ => N - (intOf i).toNat)
  case atStart => exact ⟨0, Nat.zero_le _, rfl, Lib.hid hR2, KB.refl _ _⟩
  case round =>
    obtain ⟨k, hk, rfl, HO, hK⟩ := hrel
    have hbw : Below g1 w1 wr := hb2.trans (hK.below (Nat.le_refl _) (by omega))
    clear hR2 hmb
    by_cases hlt : k < N
    · have hx1 := HX.out.below hbw (Nat.le_refl _)
      have hy1 := HY.out.below hbw (Nat.le_refl _)
      obtain ⟨a1, rfl, hl1, e1⟩ := hx1.at_ (k := k) (by rw [HPL.out]; exact hlt)
      obtain ⟨a2, rfl, hl2, e2⟩ := hy1.at_ (k := k) (by rw [HTL.out]; exact hlt)
      have hpn := HP.out.nat (i := k) (by rw [HPL.out]; exact hlt)
      have htn := HT.out.nat (i := k) (by rw [HTL.out]; exact hlt)
      rw [hpn.1] at e1
      rw [htn.1] at e2
      have p15 := hpn.2
      have t3 := htn.2
      obtain ⟨p, hpe⟩ : ∃ p, p = (nth ps k).toNat := ⟨_, rfl⟩
      obtain ⟨q, hqe⟩ : ∃ q, q = (nth ts k).toNat := ⟨_, rfl⟩
      rw [← hpe] at e1 p15
      rw [← hqe] at e2 t3
      have HPQ := Lib.hid (And.intro hpe hqe)
      have y2 := (hbw.block _ (by omega)).trans Y0.out
      have b2 : wr.cell? ⟨w.heap.size, 2, none⟩ = some (.slice (some a1) N c1) := cell_of_row wr _ 2 _ _ _ y2
      have o1 := HO.out.at_ hlt
      have o2 : wr.frozen? ⟨g1, k, none⟩ = false := HO.out.free k
      clear hpn htn hx1 hy1 hpe hqe y2
      go_upto_region 6 with fail
      refine wp_region_qtail 13 (by kernel_rfl) (by kernel_rfl) ?_
      simp only [List.take_succ_cons, List.take_zero, List.drop_succ_cons, List.drop_zero]
      obtain ⟨V, hV⟩ : ∃ V, V = wr.drew := ⟨_, rfl⟩
      rw [← hV]
      have d1 : V.cell? (a1.add k) = some (I (p : Nat)) := by rw [hV]; exact e1
      have d2 : V.cell? (a2.add k) = some (I (q : Nat)) := by rw [hV]; exact e2
      have d3 : V.cell? ⟨w.heap.size, 2, none⟩ = some (.slice (some a1) N c1) := by rw [hV]; exact b2
      have d4 : V.cell? ⟨g1, k, none⟩ = some (natV (opF ps ts k) k) := by rw [hV]; exact o1
      have d5 : V.frozen? ⟨g1, k, none⟩ = false := by rw [hV]; exact o2
      have HV := Lib.hid (show RowAt V g1 3 (natV (opF ps ts k)) N by rw [hV]; exact HO.out)
      have hKV : KB g1 w2 V := by rw [hV]; exact hK.trans (KB.of_below (below_drewN (Below.refl _ _) 1))
      clear e1 e2 b2 o1 o2 hV HO hK hbw
      repeat (first | go_big_quiet_skip | (go_big_quiet_want; go_big_quiet_op; (first | go_big_quiet_on | (with_reducible refine ⟨_, rturned_any p q V p15 t3, ?_⟩; go_big_quiet_on))))
      refine wpQuiet_nil ?_
      have HN : Hid (RowAt (V.setCell ⟨g1, k, none⟩ (I (rotN p q : Nat))) g1 3 (natV (opF ps ts (k + 1))) N) := Lib.hid (by
        have h := HV.out.set k (I (rotN p q : Nat))
        rw [natV_set] at h
        rw [opF_step, ← HPQ.out.1, ← HPQ.out.2]
        exact h)
      go_wp2_with fail
      go_roundw
      case rel => exact ⟨k + 1, by omega, by go_num, HN, hKV.trans (KB.setCell _ _)⟩
      case measure => simp [intOf]; omega
    · obtain rfl : k = N := by omega
      have hmb := run_make_row' (P := Try.prog) 50 4 (.bool false) 1 Try.underlying50 info_bool rfl .i64 .i64 k (by omega) (by omega)
      simp only [madeF] at hmb
      obtain ⟨op, hop⟩ : ∃ op, op = opF ps ts k := ⟨_, rfl⟩
      have hop15 : ∀ x, op x ≤ 15 := fun x => by rw [hop]; exact opF_le ps ts k x
      rw [← hop] at HO
      have HOP := Lib.hid hop
      clear hop
      go_upto_region 8 with fail
      obtain ⟨w3, hw3, hs3, r3, hb3⟩ := one_box wr (.cells (rowF (fun _ => .bool false) k) 4)
      rw [← hw3]
      have hR3 : RowAt w3 wr.heap.size 4 (booV (fun _ => false)) k := r3
      have hR1 : RowAt w3 g1 3 (natV op) k := (hb3.block _ (by have := HO.out.lt; omega)).trans HO.out
      have hy3 : w3.heap[w.heap.size]? = _ := (hb3.block _ (by have := hK.size; omega)).trans ((hbw.block _ (by omega)).trans Y0.out)
      have hB3 : Below w.heap.size w w3 := (hb1.trans (hbw.mono (by omega))).trans (hb3.mono (by have := hK.size; omega))
      have b3 : w3.cell? ⟨w.heap.size, 3, none⟩ = some (I fr) := cell_of_row w3 _ 3 _ _ _ hy3
      have c1' := hR3.at_ hfr
      have c2' := hR3.free fr
      have hg12 : g1 < wr.heap.size := HO.out.lt
      have hg23 : wr.heap.size < w3.heap.size := by omega
      clear hw3 r3 hmb hb3 HO hK hbw hs3
      go_upto_region 9 with fail
      have hR4 : RowAt (w3.setCell ⟨wr.heap.size, fr, none⟩ (.bool true)) wr.heap.size 4 (booV (upd (fun _ => false) fr)) k := by
        have h := hR3.set fr (.bool true)
        rw [booV_set] at h
        exact h
      have hk4 : KB wr.heap.size w3 (w3.setCell ⟨wr.heap.size, fr, none⟩ (.bool true)) := KB.setCell _ _
      obtain ⟨w4, hw4⟩ : ∃ w4, w4 = w3.setCell ⟨wr.heap.size, fr, none⟩ (.bool true) := ⟨_, rfl⟩
      rw [← hw4] at hR4 hk4
      rw [← hw4]
      obtain ⟨g2, hg2⟩ : ∃ g2, g2 = wr.heap.size := ⟨_, rfl⟩
      rw [← hg2] at hR4 hk4 hg12 hg23
      rw [← hg2]
      have HR1 := Lib.hid (show RowAt w4 g1 3 (natV op) k from (hk4.block _ (by omega) (by omega)).trans hR1)
      have HP0 := Lib.hid ((hk4.block w.heap.size (by omega) (by omega)).trans hy3)
      have hB4 : Below w.heap.size w w4 := hB3.trans (hk4.below (by omega) (by omega))
      have HS0 := Lib.hid (Stp.start (W := W) (H := H) (op := op) (fr := fr) (by rw [← HNW.out]; exact hfr))
      have s4 : g2 < w4.heap.size := hR4.lt
      clear hw4 hR3 hR1 hy3 hB3 b3 c1' c2' hk4 hg2
      go_wp2_with fail
      go_loopw [10, 11] (fun lk st wr => ∃ (n m : Nat) (S : Nat → Bool), n ≤ k ∧ st = .int .i64 n ∧ lk = .int .i64 m ∧ Hid (Stp W H op fr n S m) ∧ Hid (RowAt wr g2 4 (booV S) k) ∧ KB g2 w4 wr) (fun _ st _ => k - (intOf st).toNat)
      case atStart => exact ⟨0, 0, _, Nat.zero_le _, rfl, rfl, HS0, Lib.hid hR4, KB.refl _ _⟩
      case round =>
        obtain ⟨n, m, S, hn, rfl, rfl, HS, HW, hK⟩ := hrel
        obtain ⟨wo, hwo⟩ : ∃ wo : World, wo = wr := ⟨_, rfl⟩
        clear hR4
        by_cases hn1 : n < k
        · have hfS : Hid (S (W * H) = false) := Lib.hid (by
            cases e : S (W * H)
            · rfl
            · exact absurd ((HS.out.only _ e).lt (by rw [← HNW.out]; exact hfr)) (Nat.lt_irrefl _))
          have HP0' := Lib.hid (Pas.start (W := W) (H := H) (op := op) HS.out.here HS.out.only)
          go_wp2_with fail
          go_loopw [10, 12] (fun lk cc wx => ∃ (c m : Nat) (T : Nat → Bool), c ≤ k ∧ cc = .int .i64 c ∧ lk = .int .i64 m ∧ Hid (Pas W H op fr S c 0 T m) ∧ Hid (RowAt wx g2 4 (booV T) k) ∧ KB g2 w4 wx) (fun _ cc _ => k - (intOf cc).toNat)
          case atStart => exact ⟨0, 0, _, Nat.zero_le _, rfl, rfl, HP0', HW, hK⟩
          case round =>
            obtain ⟨c, m, T, hc, rfl, rfl, HQ, HW1, hK1⟩ := hrel
            obtain ⟨wp, hwp⟩ : ∃ wp : World, wp = wr := ⟨_, rfl⟩
            clear HW HP0' hK
            by_cases hc1 : c < k
            · go_wp2_with fail
              go_loopw [10, 13] (fun lk ss wy => ∃ (s m : Nat) (T : Nat → Bool), s ≤ 4 ∧ ss = .int .i64 s ∧ lk = .int .i64 m ∧ Hid (Pas W H op fr S c s T m) ∧ Hid (RowAt wy g2 4 (booV T) k) ∧ KB g2 w4 wy) (fun _ ss _ => 4 - (intOf ss).toNat)
              case atStart => exact ⟨0, _, _, Nat.zero_le _, rfl, rfl, HQ, HW1, hK1⟩
              case round =>
                obtain ⟨s, m, T, hs, rfl, rfl, HQ, HW1, hK1⟩ := hrel
                have hm9 : m ≤ 1000 := by have := HQ.out.room; omega
                have r1 := (hK1.block _ (by omega) (by omega)).trans HR1.out
                have r0 := (hK1.block _ (by omega) (by omega)).trans HP0.out
                have hRp : RowAt wr g1 3 (natV op) k := r1
                have b0 : wr.cell? ⟨w.heap.size, 0, none⟩ = some (I W) := cell_of_row wr _ 0 _ _ _ r0
                have b1 : wr.cell? ⟨w.heap.size, 1, none⟩ = some (I H) := cell_of_row wr _ 1 _ _ _ r0
                have o1 : wr.cell? ⟨g1, c, none⟩ = some (I (op c : Nat)) := hRp.at_ hc1
                have t1 : wr.cell? ⟨g2, c, none⟩ = some (.bool (T c)) := HW1.out.at_ hc1
                clear r0 r1
                have hcN : c < W * H := by rw [← HNW.out]; exact hc1
                have hN9 : W * H ≤ 9 := by rw [← HNW.out]; exact hN
                by_cases hs1 : s < 4
                · cases hT : T c
                  · rw [hT] at t1
                    have hs0 : s = 0 := by
                      rcases Nat.eq_zero_or_pos s with h | h
                      · exact h
                      · rw [HQ.out.on h] at hT; cases hT
                    have HN := Lib.hid (HQ.out.next (.inr ⟨hs0, hT⟩))
                    clear hT hs0 HQ
                    go_wp2_with fail
                    go_roundw
                    case rel => exact ⟨c + 1, m, T, by omega, by go_num, rfl, HN, HW1, hK1⟩
                    case measure => simp [intOf]; omega
                  · rw [hT] at t1
                    have HTC := Lib.hid hT
                    have hp15 := hop15 c
                    clear hT
                    cases hbit : (op c).testBit s
                    · have HN := Lib.hid (HQ.out.skip (by omega) HTC.out hbit)
                      clear HQ
                      go_wp2_with (go_at_call 138; refine (ropen_any (op c) s _ hp15 (by omega)).mono ?_; rintro e w' ⟨rfl, hww⟩; rw [hww, hbit]; clear hww)
                      go_roundw
                      case rel => exact ⟨s + 1, m, T, by omega, by go_num, rfl, HN, HW1, hK1⟩
                      case measure => simp [intOf]; omega
                    · have hcb := hbit
                      clear hbit
                      go_wp2_with (go_at_call 138; refine (ropen_any (op c) s _ hp15 (by omega)).mono ?_; rintro e w' ⟨rfl, hww⟩; rw [hww, hcb]; clear hww)
                      cases hX : nxO W H c s with
                      | none =>
                        have HV := bsd_none hX
                        have HN := Lib.hid (HQ.out.leak (by omega) HTC.out hcb (by rw [adjO, hcb, hX]; rfl))
                        clear HQ hX hcb
                        refine (beside_any W H c s wr hW hW9 hH hcN hN9 (by omega)).mono ?_
                        rintro e w5 ⟨rfl, hb5⟩
                        rw [HV]
                        have HW5 := Lib.hid (show RowAt w5 g2 4 (booV T) k from (hb5.block _ HW1.out.lt).trans HW1.out)
                        have hK5 := hK1.trans (KB.of_below hb5)
                        clear HV hb5 HW1 hK1 b0 b1 o1 t1
                        go_wp2_with fail
                        go_roundw
                        case rel => exact ⟨s + 1, m + 1, T, by omega, by go_num, by go_num, HN, HW5, hK5⟩
                        case measure => simp [intOf]; omega
                      | some y =>
                        have HV := bsd_some hX
                        have hyk : y < k := by rw [HNW.out]; exact nxO_lt hcN hX
                        have hpy := hop15 y
                        have hop2 : ∀ V : World, Calls Try.prog 138 #[I (op y : Nat), I (((s : Int) + 2) % 4)] V fun e w' => e = .returned (.bool ((op y).testBit ((s + 2) % 4))) ∧ w' = V := fun V => by
                          have h := ropen_any (op y) ((s + 2) % 4) V hpy (by omega)
                          rw [show (((s + 2) % 4 : Nat) : Int) = ((s : Int) + 2) % 4 by omega] at h
                          exact h
                        refine (beside_any W H c s wr hW hW9 hH hcN hN9 (by omega)).mono ?_
                        rintro e w5 ⟨rfl, hb5⟩
                        rw [HV]
                        have HW5 := Lib.hid (show RowAt w5 g2 4 (booV T) k from (hb5.block _ HW1.out.lt).trans HW1.out)
                        have hr5 : RowAt w5 g1 3 (natV op) k := (hb5.block _ hRp.lt).trans hRp
                        have o2 : w5.cell? ⟨g1, y, none⟩ = some (I (op y : Nat)) := hr5.at_ hyk
                        have t2 : w5.cell? ⟨g2, y, none⟩ = some (.bool (T y)) := HW5.out.at_ hyk
                        have t3 : w5.frozen? ⟨g2, y, none⟩ = false := HW5.out.free y
                        have hK5 := hK1.trans (KB.of_below hb5)
                        clear HV hb5 HW1 hK1 b0 b1 o1 t1 hr5
                        cases hb2 : (op y).testBit ((s + 2) % 4)
                        · have HN := Lib.hid (HQ.out.leak (by omega) HTC.out hcb (by rw [adjO, hcb, hX]; simp only [hb2]; rfl))
                          clear HQ hX hcb
                          go_wp2_with (go_at_call 138; refine (hop2 _).mono ?_; rintro e w' ⟨rfl, hww⟩; rw [hww, hb2]; clear hww)
                          go_roundw
                          case rel => exact ⟨s + 1, m + 1, T, by omega, by go_num, by go_num, HN, HW5, hK5⟩
                          case measure => simp [intOf]; omega
                        · have HN := Lib.hid (HQ.out.flow (by omega) HTC.out (show adjO W H op c s = some y by rw [adjO, hcb, hX]; simp only [hb2]; rfl))
                          clear HQ hX hcb
                          have HW6 : Hid (RowAt (w5.setCell ⟨g2, y, none⟩ (.bool true)) g2 4 (booV (upd T y)) k) := Lib.hid (by
                            have h := HW5.out.set y (.bool true)
                            rw [booV_set] at h
                            exact h)
                          go_wp2_with (go_at_call 138; refine (hop2 _).mono ?_; rintro e w' ⟨rfl, hww⟩; rw [hww, hb2]; clear hww)
                          go_roundw
                          case rel => exact ⟨s + 1, m, upd T y, by omega, by go_num, rfl, HN, HW6, hK5.trans (KB.setCell _ _)⟩
                          case measure => simp [intOf]; omega
                · obtain rfl : s = 4 := by omega
                  have HN := Lib.hid (HQ.out.next (.inl rfl))
                  clear HQ t1
                  go_wp2_with fail
                  go_roundw
                  case rel => exact ⟨c + 1, m, T, by omega, by go_num, rfl, HN, HW1, hK1⟩
                  case measure => simp [intOf]; omega
            · obtain rfl : k = c := by omega
              have HN := Lib.hid (HS.out.step (by rw [← HNW.out]; exact hfr) (by have h := HQ.out; rw [HNW.out] at h; exact h) hfS.out)
              clear HQ HS
              go_wp2_with fail
              go_roundw
              case rel => exact ⟨n + 1, m, T, by omega, by go_num, rfl, HN, HW1, hK1⟩
              case measure => simp [intOf]; omega
        · obtain rfl : k = n := by omega
          have hN9 : W * H ≤ 9 := by rw [← HNW.out]; exact hN
          obtain ⟨rfl, rfl⟩ := stp_eq hN9 (by rw [← HNW.out]; exact hfr) (by have h := HS.out; rw [HNW.out] at h; exact h)
          have HWO := Lib.hid HW.out
          clear HS HS0
          go_wp2_with fail
          go_ret2
          rw [← HOP.out]
          exact ⟨g2, rfl, HWO.out, hB4.trans (hK.below (by omega) (by omega))⟩
end Go.Proofs.Ytglkjiimmlobbaa

/-
  LAYER 6, CONTRACTS: the law's sameInts, works. (Written by gen/gen_srwk.py.)
-/
import Derived.Test.YtehoaenkkmmobaaSrEy
namespace Go.Proofs.Ytehoaenkkmmobaa
open Go.RowKit Go.Shelf
theorem ret_bool' {b c : Bool} (h : b = c) : Ending.returned (.bool b) = .returned (.bool c) := by rw [h]
theorem nth_ext {x y : List Int} (hl : x.length = y.length) (h : ∀ j, j < x.length → nth x j = nth y j) : x = y := by
  refine List.ext_getElem hl fun i h1 h2 => ?_
  have := h i h1
  rwa [nth_lt h1, nth_lt h2] at this
set_option maxHeartbeats 400000 in
theorem sameInts_any (A1 A2 : Option Addr) (k1 k2 : Nat) (x y : List Int) (w : World) (hx : IntsR w w.heap.size A1 x) (hy : IntsR w w.heap.size A2 y) (lx : x.length ≤ maxLen) (ly : y.length ≤ maxLen) :
    Calls Try.prog 21 #[.slice A1 x.length k1, .slice A2 y.length k2] w fun e w' => e = .returned (.bool (decide (x = y))) ∧ Below w.heap.size w w' := by
  unfold maxLen at lx ly
  by_cases hl : x.length = y.length
  · have hb0 : ((x.length : Int) != (y.length : Int)) = false := by simp [hl]
    have HL := Lib.hid hl
    clear hl
    go_enter Try.func21, Try.ntmps21
    go_wp2
    go_loopw [5] (fun i wr => ∃ k : Nat, k ≤ x.length ∧ i = .int .i64 k ∧ Hid (∀ j, j < k → nth x j = nth y j) ∧ Below w.heap.size w wr) (fun i _ => x.length - (intOf i).toNat)
    case atStart => exact ⟨0, Nat.zero_le _, rfl, Lib.hid (fun j h => by omega), Below.refl _ _⟩
    case round =>
      obtain ⟨k, hk, rfl, HA, hB⟩ := hrel
      by_cases hlt : k < x.length
      · have hlt2 : k < y.length := by have := HL.out; omega
        obtain ⟨a1, rfl, hb1, hc1⟩ := hx.at_ hlt
        obtain ⟨a2, rfl, hb2, hc2⟩ := hy.at_ hlt2
        have d1 := (hB.cell (p := a1.add k) (by rw [block_of_add]; omega)).trans hc1
        have d2 := (hB.cell (p := a2.add k) (by rw [block_of_add]; omega)).trans hc2
        by_cases he : nth x k = nth y k
        · have hb3 : (nth x k != nth y k) = false := by simp [he]
          have HE := Lib.hid he
          clear he hc1 hc2
          go_wp2
          go_quiet (fail)
          go_wp2
          go_roundw
          case rel => exact ⟨k + 1, by omega, by go_num, Lib.hid (fun j hj => by rcases Nat.lt_succ_iff_lt_or_eq.1 hj with h | rfl; exact HA.out j h; exact HE.out), below_drewN hB _⟩
          case measure => simp [intOf]; omega
        · have hb3 : (nth x k != nth y k) = true := by simpa using he
          have HE := Lib.hid he
          clear he hc1 hc2
          go_wp2
          go_quiet (fail)
          go_wp2
          go_ret
          exact ⟨ret_bool' (by symm; rw [decide_eq_false_iff_not]; rintro rfl; exact HE.out rfl), below_drewN hB _⟩
      · obtain rfl : k = x.length := by omega
        go_wp2
        go_ret
        exact ⟨ret_bool' (by symm; rw [decide_eq_true_eq]; exact nth_ext HL.out HA.out), hB⟩
  · have hb0 : ((x.length : Int) != (y.length : Int)) = true := by simp; omega
    have HL := Lib.hid hl
    clear hl
    go_enter Try.func21, Try.ntmps21
    go_wp2
    go_ret
    exact ⟨ret_bool' (by symm; rw [decide_eq_false_iff_not]; rintro rfl; exact HL.out rfl), Below.refl _ _⟩

theorem ex_map : mapB 5 exG exL = true := by decide +kernel
theorem ex_endS : (endS exG exL 10 0 100).trail = [0, 0, 1, 0, 0, 1, 0] ∧ (dOf exL (endS exG exL 10 0 100).at_ == 0) = true := by decide +kernel
theorem ex_mean : meanE 5 exG exL 10 100 = 0 ∧ meanN exG exL 10 100 = 8 ∧ meanD exG exL 10 100 = 1 := by decide +kernel
theorem ex_srch : srchE 5 exG exL 10 0 100 = 0 := by decide +kernel
theorem ex_szd : Szd 5 exG exL := ⟨by decide, by decide, by decide, fun es hes => by
  have h : ∀ es ∈ exG, es.length ≤ 100 := by decide
  have := h es hes
  unfold maxLen; omega⟩
set_option maxRecDepth 100000 in
set_option maxHeartbeats 4000000 in
theorem works_any (w : World) : Calls Try.prog 16 #[] w fun e w' => e = .returned (.bool true) ∧ Below w.heap.size w w' := by
  have hex := Example_any w
  go_enter Try.func16, Try.ntmps16
  go_upto_region 2 with (go_at_call 44; refine hex.mono ?_; rintro e w1 ⟨AP, AE, AD, cP, cE, cD, rfl, hm, hb1⟩)
  obtain ⟨w2, hw2, hs2, y2, hb2⟩ := one_box w1 (.cells #[.slice AP 5 cP, .slice AE 5 cE] 25)
  have a0 : w2.cell? ⟨w1.heap.size, 0, none⟩ = some (.slice AP 5 cP) := cell_of_row w2 _ 0 _ _ _ y2
  have a1 : w2.cell? ⟨w1.heap.size, 1, none⟩ = some (.slice AE 5 cE) := cell_of_row w2 _ 1 _ _ _ y2
  have s1 : w1.heap.size < w2.heap.size := by omega
  have hB2 := Lib.hid (hb1.trans (hb2.mono hb1.size))
  have hm2 := hm.call hb2
  have hse := Search_ok AP AE AD 5 cP cE cD exG exL 10 0 100 w2 hm2 ex_szd ex_srch
  rw [ex_endS.2, ex_endS.1] at hse
  have hme : ∀ V, Below w2.heap.size w2 V → Calls Try.prog 35 #[grV AP AE 5 cP 5 cE, .slice AD 5 cD, I 10, I 100] V fun e w' => e = .returned (.tuple #[I 8, I 1, I 0]) ∧ Below V.heap.size V w' := fun V hV => by
    have h := Mean_ok AP AE AD 5 cP cE cD exG exL 10 100 V (hm2.call hV) ex_szd ex_mean.1
    rw [ex_mean.2.1, ex_mean.2.2] at h
    exact h
  have hse' : Calls Try.prog 31 #[grV AP AE 5 cP 5 cE, .slice AD 5 cD, .agg #[I 10, I 0], I 100] w2 fun e w' => ∃ A c, e = .returned (.tuple #[.slice A 7 c, .bool true, I 0]) ∧ IntsR w' w'.heap.size A [0, 0, 1, 0, 0, 1, 0] ∧ Below w2.heap.size w2 w' := hse.mono (by
    rintro e w' ⟨v, rfl, ht, hb⟩
    obtain ⟨A, c, rfl, hi⟩ := ht.ints
    exact ⟨A, c, rfl, hi, hb⟩)
  have HSE := Lib.hid hse'
  have HME := Lib.hid hme
  clear hex hm hm2 hse hse' hme hb1 hb2 y2
  have hse2 := HSE.out
  rw [← hw2]
  clear hw2
  go_upto_region 4 with (first
    | (go_at_call 31; refine hse2.mono ?_; rintro e w3 ⟨A, c, rfl, hi, hb3⟩; have b0 := (hb3.cell (p := ⟨w1.heap.size, 0, none⟩) s1).trans a0; have b1 := (hb3.cell (p := ⟨w1.heap.size, 1, none⟩) s1).trans a1; have hme3 := HME.out w3 hb3; have HI := Lib.hid hi; clear hi)
    | (go_at_call 35; refine hme3.mono ?_; rintro e w4 ⟨rfl, hb4⟩))
  obtain ⟨wa, hwa⟩ : ∃ wa, wa = w4.alloc (.cells #[Value.int .i64 0, Value.int .i64 0, Value.int .i64 1, Value.int .i64 0, Value.int .i64 0, Value.int .i64 1, Value.int .i64 0] 3) := ⟨_, rfl⟩
  have hba : Below w4.heap.size w4 wa := by rw [hwa]; exact (Below.refl _ _).alloc (Nat.le_refl _) _
  have hia : IntsR wa wa.heap.size (some ⟨w4.heap.size, 0, none⟩) [0, 0, 1, 0, 0, 1, 0] := by rw [hwa]; exact ints_new w4 [0, 0, 1, 0, 0, 1, 0] 3
  have hsa : ∀ k, Calls Try.prog 21 #[.slice A 7 c, .slice (some ⟨w4.heap.size, 0, none⟩) 7 k] wa fun e w' => e = .returned (.bool true) ∧ Below wa.heap.size wa w' := fun k =>
    sameInts_any A (some ⟨w4.heap.size, 0, none⟩) c k [0, 0, 1, 0, 0, 1, 0] [0, 0, 1, 0, 0, 1, 0] wa (ints_call hba (ints_call hb4 HI.out)) hia (by decide) (by decide)
  have HBA := Lib.hid hba
  clear hba hia
  go_wp2_with (go_at_call 21; rw [← hwa]; refine (hsa _).mono ?_; rintro e w5 ⟨rfl, hb5⟩)
  go_ret
  have hB3 := hB2.out.trans (hb3.mono hB2.out.size)
  have hB4 := hB3.trans (hb4.mono hB3.size)
  have hBa := hB4.trans (HBA.out.mono hB4.size)
  exact ⟨rfl, hBa.trans (hb5.mono hBa.size)⟩
end Go.Proofs.Ytehoaenkkmmobaa

/-
  CONTRACTS: Tips; the reference's Used.
-/
import Derived.Test.YtfjincdlenneaaaPzWorks
namespace Go.Proofs.Ytfjincdlenneaaa
open Go.RowKit Go.Shelf
def standB (ws ss : List Int) : Bool := decide (ss.length = ws.length) && inB (-1) 1 ss
def tipsN (ws ss : List Int) (load : Int) : Int := if balB ws load = true ∧ standB ws ss = true then tipL ws ss load else 0
def tipsE (ws ss : List Int) (load : Int) : Int := if balB ws load = true ∧ standB ws ss = true then 0 else 1

set_option maxHeartbeats 1000000 in
theorem canStand_any (A1 A2 : Option Addr) (c1 c2 : Nat) (ws ss : List Int) (load : Int) (w : World) (hy : IntsR w w.heap.size A2 ss) (hl : ws.length ≤ maxLen) (hls : ss.length ≤ maxLen) :
    Calls Try.prog 84 #[balV A1 c1 ws load, .slice A2 ss.length c2] w fun e w' => e = .returned (.bool (standB ws ss)) ∧ Below w.heap.size w w' := by
  have hl' := hl
  have hls' := hls
  unfold maxLen at hl' hls'
  obtain ⟨w1, hw1, hs1, y0, hb1⟩ := one_box w (.cells #[.slice A1 ws.length c1, I load] 93)
  have c0 : w1.cell? ⟨w.heap.size, 0, none⟩ = some (.slice A1 ws.length c1) := cell_of_row w1 _ 0 _ _ _ y0
  have hy1 := ints_call hb1 hy
  clear y0 hy
  by_cases hn : ss.length = ws.length
  · have H2 := Lib.hid (show standB ws ss = inB (-1) 1 ss by rw [standB, decide_eq_true hn, Bool.true_and])
    have g1 : ((ss.length : Int) == (ws.length : Int)) = true := by simp [hn]
    clear hn
    go_enter Try.func84, Try.ntmps84
    go_upto_region 1 with fail
    rw [← hw1]
    clear hw1
    go_wp2_with fail
    refine (allWithin_any _ _ _ _ ss _ hy1 hls).mono ?_
    rintro e w' ⟨rfl, hb⟩
    go_wp2
    go_ret
    exact ⟨ret_bool H2.out.symm, hb1.trans (hb.mono (by omega))⟩
  · have H2 := Lib.hid (show standB ws ss = false by rw [standB, decide_eq_false hn, Bool.false_and])
    have g1 : ((ss.length : Int) == (ws.length : Int)) = false := by simp; omega
    clear hn
    go_enter Try.func84, Try.ntmps84
    go_upto_region 1 with fail
    rw [← hw1]
    clear hw1
    go_wp2
    go_ret
    exact ⟨ret_bool H2.out.symm, hb1⟩
theorem stand_facts {ws ss : List Int} (h : standB ws ss = true) : ss.length = ws.length ∧ ∀ i, i < ws.length → -1 ≤ nth ss i ∧ nth ss i ≤ 1 := by
  simp only [standB, Bool.and_eq_true, decide_eq_true_eq, inB, List.all_eq_true, wi] at h
  refine ⟨h.1, fun i hi => ?_⟩
  exact h.2 (nth ss i) (by rw [nth_lt (by omega)]; exact List.getElem_mem _)

set_option maxHeartbeats 1000000 in
theorem Tips_any (A1 A2 : Option Addr) (c1 c2 : Nat) (ws ss : List Int) (load : Int) (w : World) (hx : IntsR w w.heap.size A1 ws) (hy : IntsR w w.heap.size A2 ss) (hl : ws.length ≤ maxLen) (hls : ss.length ≤ maxLen) :
    Calls Try.prog 28 #[.slice A1 ws.length c1, .slice A2 ss.length c2, I load] w fun e w' => e = .returned (.tuple #[I (tipsN ws ss load), I (tipsE ws ss load)]) ∧ Below w.heap.size w w' := by
  go_enter Try.func28, Try.ntmps28
  go_wp2_with fail
  obtain ⟨w1, hw1, hs1, y0, hb1⟩ := one_box w (.cells #[.slice A1 ws.length c1, I load] 93)
  rw [← hw1]
  have hx1 := ints_call hb1 hx
  have hy1 := ints_call hb1 hy
  clear hw1 hx hy
  refine (isValid_any A1 c1 ws load w1 hx1 hl).mono ?_
  rintro e w2 ⟨rfl, hb2⟩
  have z0 := (hb2.block _ (by omega)).trans y0
  have c0 : w2.cell? ⟨w.heap.size, 0, none⟩ = some (.slice A1 ws.length c1) := cell_of_row w2 _ 0 _ _ _ z0
  have c1' : w2.cell? ⟨w.heap.size, 1, none⟩ = some (I load) := cell_of_row w2 _ 1 _ _ _ z0
  have hx2 := ints_call hb2 hx1
  have hy2 := ints_call hb2 hy1
  have hB2 : Below w.heap.size w w2 := hb1.trans (hb2.mono (by omega))
  have hs2 := hb2.size
  clear y0 hx1 hy1 hb1 hb2
  cases hv : balB ws load
  · have HE := Lib.hid (show tipsN ws ss load = 0 ∧ tipsE ws ss load = 1 by constructor <;> simp [tipsN, tipsE, hv])
    clear hv z0
    go_wp2
    go_ret2
    exact ⟨by rw [HE.out.1, HE.out.2]; rfl, hB2⟩
  · have Z0 := Lib.hid z0
    have HV := Lib.hid hv
    clear hv z0
    go_wp2_with fail
    refine (canStand_any A1 A2 c1 c2 ws ss load w2 hy2 hl hls).mono ?_
    rintro e w3 ⟨rfl, hb3⟩
    have z0 := (hb3.block _ (by omega)).trans Z0.out
    have c0 : w3.cell? ⟨w.heap.size, 0, none⟩ = some (.slice A1 ws.length c1) := cell_of_row w3 _ 0 _ _ _ z0
    have c1' : w3.cell? ⟨w.heap.size, 1, none⟩ = some (I load) := cell_of_row w3 _ 1 _ _ _ z0
    have hx3 := ints_call hb3 hx2
    have hy3 := ints_call hb3 hy2
    have hB3 : Below w.heap.size w w3 := hB2.trans (hb3.mono (by omega))
    clear z0 hx2 hy2 hb3
    cases hq : standB ws ss
    · have HE := Lib.hid (show tipsN ws ss load = 0 ∧ tipsE ws ss load = 1 by constructor <;> simp [tipsN, tipsE, hq])
      clear hq
      go_wp2
      go_ret2
      exact ⟨by rw [HE.out.1, HE.out.2]; rfl, hB3⟩
    · have HE := Lib.hid (show tipsN ws ss load = tipL ws ss load ∧ tipsE ws ss load = 0 by constructor <;> simp [tipsN, tipsE, hq, HV.out])
      obtain ⟨b1, b2, b3, b4⟩ := bal_facts HV.out
      obtain ⟨s1, s2⟩ := stand_facts hq
      have S1 := Lib.hid s1
      have S2 := Lib.hid s2
      have B2 := Lib.hid b2
      clear hq s1 s2 b2
      go_wp2_with fail
      refine (tips_any A1 A2 c1 c2 ws ss load w3 hx3 hy3 b1 S1.out B2.out S2.out b3 b4).mono ?_
      rintro e w4 ⟨rfl, hb4⟩
      have hB4 : Below w.heap.size w w4 := hB3.trans (hb4.mono hB3.size)
      clear hb4 hx3 hy3
      go_wp2
      go_ret2
      exact ⟨by rw [HE.out.1, HE.out.2]; rfl, hB4⟩

set_option maxHeartbeats 400000 in
theorem rUsed_any (A : Option Addr) (c : Nat) (ss : List Int) (w : World) (hx : IntsR w w.heap.size A ss) (hl : ss.length ≤ maxLen) :
    Calls Try.prog 56 #[.slice A ss.length c] w fun e w' => e = .returned (I (usedL ss : Nat)) ∧ w' = w := by
  unfold maxLen at hl
  go_enter Try.func56, Try.ntmps56
  go_wp2
  go_loop [3, 4] (fun n i => ∃ k u : Nat, k ≤ ss.length ∧ u ≤ k ∧ i = .int .i64 k ∧ n = .int .i64 u ∧ Hid (u = usedT ss k)) (fun _ i => ss.length - (intOf i).toNat)
  case atStart => exact ⟨0, 0, Nat.zero_le _, Nat.le_refl _, rfl, rfl, Lib.hid rfl⟩
  case round =>
    obtain ⟨k, u, hk, hu, rfl, rfl, HU⟩ := hrel
    by_cases hlt : k < ss.length
    · obtain ⟨ad, rfl, hb, hc⟩ := hx.at_ hlt
      have H1 := Lib.hid (usedT_nth hlt)
      generalize hs : nth ss k = x at *
      clear hs
      by_cases he : x = 0
      · have hb0 : (x != 0) = false := by simp [he]
        have HE := Lib.hid he
        clear he
        go_wp2
        go_round
        case rel => exact ⟨k + 1, u, by omega, by omega, by go_num, rfl, Lib.hid (by rw [H1.out, if_pos HE.out, HU.out]; rfl)⟩
        case measure => simp [intOf]; omega
      · have hb0 : (x != 0) = true := by simpa using he
        have HE := Lib.hid he
        clear he
        go_wp2
        go_round
        case rel => exact ⟨k + 1, u + 1, by omega, by omega, by go_num, by go_num, Lib.hid (by rw [H1.out, if_neg HE.out, HU.out])⟩
        case measure => simp [intOf]; omega
    · obtain rfl : k = ss.length := by omega
      go_wp2
      go_ret
      exact ⟨ret_int (by rw [HU.out, usedT_all]), rfl⟩
end Go.Proofs.Ytfjincdlenneaaa

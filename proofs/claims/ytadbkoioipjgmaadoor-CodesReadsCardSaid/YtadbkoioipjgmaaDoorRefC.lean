/-
  CONTRACTS of the document's own answers (padlockref01): Count, Readings, Implies.
-/
import Derived.Test.YtadbkoioipjgmaaDoorRAll
import Derived.Test.YtadbkoioipjgmaaDoorRefB
namespace Go.Proofs.YtadbkoioipjgmaaDoor
open Go.RowKit
theorem rd_bound {W S : Nat} (hW4 : W ≤ 4) (hS10 : S ≤ 10) (cs : List Cl) : (readings W S cs).length ≤ 10000 := by
  refine Nat.le_trans (List.length_filter_le _ _) ?_
  rw [allCodes_length]
  exact pow_bound hW4 hS10
/-- the lock as numbers, where nothing is wrong -/
theorem cntE_nat {W S : Int} {cs : List Cl} (h : cntE W S cs = 0) : ∃ W' S' : Nat, W = W' ∧ S = S' ∧ 1 ≤ W' ∧ W' ≤ 4 ∧ 2 ≤ S' ∧ S' ≤ 10 ∧ cluesB W' S' cs = true := by
  obtain ⟨h1, h2⟩ := cntE_facts h
  obtain ⟨W', S', rfl, rfl, a, b, c, d⟩ := lockOk_nat h1
  exact ⟨W', S', rfl, rfl, a, b, c, d, h2⟩

set_option maxRecDepth 100000 in
set_option maxHeartbeats 1000000 in
theorem rCount_any (W S : Int) (A : Option Addr) (c : Nat) (cs : List Cl) (w : World) (hx : ClsR w w.heap.size A cs) (hl : cs.length ≤ maxLen) :
    Calls Tryd.prog 33 #[lockV W S, .slice A cs.length c] w fun e w' => e = .returned (.tuple #[I (cntN W S cs), I (cntE W S cs)]) ∧ Below w.heap.size w w' := by
  go_enter Tryd.func33, Tryd.ntmps33
  go_wp2_with fail
  obtain ⟨w1, hw1⟩ : ∃ w1, w1 = w.alloc (.cells #[I W, I S] 23) := ⟨_, rfl⟩
  rw [← hw1]
  have l0 : w1.cell? ⟨w.heap.size, 0, none⟩ = some (I W) := by rw [hw1]; exact alloc_cell _ _ _ 0
  have l1 : w1.cell? ⟨w.heap.size, 1, none⟩ = some (I S) := by rw [hw1]; exact alloc_cell _ _ _ 1
  have hb1 : Below w.heap.size w w1 := by rw [hw1]; exact (Below.refl _ _).alloc (Nat.le_refl _) _
  have s1 : w.heap.size < w1.heap.size := by rw [hw1]; simp
  have hx1 := cls_call hb1 hx
  clear hw1 hx
  refine (rCheckClues_any W S A c cs w1 hx1 hl).mono ?_
  rintro e w2 ⟨rfl, hb2⟩
  have l0 := (hb2.cell (p := ⟨w.heap.size, 0, none⟩) s1).trans l0
  have l1 := (hb2.cell (p := ⟨w.heap.size, 1, none⟩) s1).trans l1
  have hx2 := cls_call hb2 hx1
  have s2 : w.heap.size < w2.heap.size := by have := hb2.size; omega
  have hbb2 : Below w.heap.size w w2 := hb1.trans (hb2.mono (by omega))
  clear hb1 hb2 hx1
  by_cases he : cntE W S cs = 0
  · have hb0 : (cntE W S cs != 0) = false := by simp [he]
    obtain ⟨W', S', rfl, rfl, hW, hW4, hS, hS10, hC⟩ := cntE_nat he
    have HE := Lib.hid he
    have HN := Lib.hid (show cntN W' S' cs = (readings W' S' cs).length from if_pos he)
    clear he
    go_wp2_with fail
    refine (All_any W' S' hW hW4 hS hS10 A c cs hC w2 hx2 hl).mono ?_
    rintro e w3 ⟨v, rfl, hL, hb3⟩
    obtain ⟨A', c', rfl, hs, hm, hc⟩ := hL.sls
    go_wp2
    go_ret2
    exact ⟨by rw [HN.out, HE.out]; rfl, hbb2.trans (hb3.mono (by omega))⟩
  · have hb0 : (cntE W S cs != 0) = true := by simpa using he
    have HN := Lib.hid (show cntN W S cs = 0 from if_neg he)
    clear he
    go_wp2
    go_ret2
    exact ⟨by rw [HN.out]; rfl, hbb2⟩

/-- what Readings gives: its error, its list -/
def rdE (W S : Int) (cs : List Cl) (most : Int) : Int := if cntE W S cs = 0 then (if wi most 1 64 then 0 else 1) else cntE W S cs
def rdL (W S : Int) (cs : List Cl) (most : Int) : List (List Int) := if rdE W S cs most = 0 then (readings W.toNat S.toNat cs).take most.toNat else []
theorem sls_take {w : World} {B : Nat} {A : Option Addr} {xss : List (List Int)} (h : SlsR w B A xss) (k : Nat) : SlsR w B A (xss.take k) := fun h0 => by
  obtain ⟨ad, e, hl, hc⟩ := h (by simp at h0; omega)
  refine ⟨ad, e, hl, fun j hj => ?_⟩
  rw [List.getElem_take]
  exact hc j (by simp at hj; omega)

set_option maxRecDepth 100000 in
set_option maxHeartbeats 1000000 in
theorem rReadings_any (W S : Int) (A : Option Addr) (c : Nat) (cs : List Cl) (most : Int) (w : World) (hx : ClsR w w.heap.size A cs) (hl : cs.length ≤ maxLen) :
    Calls Tryd.prog 35 #[lockV W S, .slice A cs.length c, .int .i64 most] w fun e w' => ∃ A' c', e = .returned (.tuple #[.slice A' (rdL W S cs most).length c', I (rdE W S cs most)]) ∧ SlsR w' w'.heap.size A' (rdL W S cs most) ∧ (rdL W S cs most).length ≤ maxLen ∧ Below w.heap.size w w' := by
  go_enter Tryd.func35, Tryd.ntmps35
  go_wp2_with fail
  obtain ⟨w1, hw1⟩ : ∃ w1, w1 = w.alloc (.cells #[I W, I S] 23) := ⟨_, rfl⟩
  rw [← hw1]
  have l0 : w1.cell? ⟨w.heap.size, 0, none⟩ = some (I W) := by rw [hw1]; exact alloc_cell _ _ _ 0
  have l1 : w1.cell? ⟨w.heap.size, 1, none⟩ = some (I S) := by rw [hw1]; exact alloc_cell _ _ _ 1
  have hb1 : Below w.heap.size w w1 := by rw [hw1]; exact (Below.refl _ _).alloc (Nat.le_refl _) _
  have s1 : w.heap.size < w1.heap.size := by rw [hw1]; simp
  have hx1 := cls_call hb1 hx
  clear hw1 hx
  refine (rCheckClues_any W S A c cs w1 hx1 hl).mono ?_
  rintro e w2 ⟨rfl, hb2⟩
  have l0 := (hb2.cell (p := ⟨w.heap.size, 0, none⟩) s1).trans l0
  have l1 := (hb2.cell (p := ⟨w.heap.size, 1, none⟩) s1).trans l1
  have hx2 := cls_call hb2 hx1
  have s2 : w.heap.size < w2.heap.size := by have := hb2.size; omega
  have hbb2 : Below w.heap.size w w2 := hb1.trans (hb2.mono (by omega))
  clear hb1 hb2 hx1
  by_cases he : cntE W S cs = 0
  · have hb0 : (cntE W S cs != 0) = false := by simp [he]
    obtain ⟨W', S', rfl, rfl, hW, hW4, hS, hS10, hC⟩ := cntE_nat he
    have HE := Lib.hid he
    clear he
    cases hwi : wi most 1 64
    · have hr : rdE W' S' cs most = 1 := by rw [rdE, if_pos HE.out, hwi]; rfl
      have HR := Lib.hid hr
      have HL := Lib.hid (show rdL W' S' cs most = [] from if_neg (by rw [hr]; decide))
      clear hr
      go_wp2_with fail
      refine (Within_any _ _ _ _).mono ?_
      rw [hwi]
      rintro e w3 ⟨rfl, rfl⟩
      go_wp2
      go_ret2
      refine ⟨none, 0, by rw [HR.out, HL.out]; rfl, by rw [HL.out]; exact fun h => absurd h (Nat.lt_irrefl 0), by rw [HL.out]; exact Nat.zero_le _, hbb2⟩
    · have hr : rdE W' S' cs most = 0 := by rw [rdE, if_pos HE.out, hwi]; rfl
      have hm : 1 ≤ most ∧ most ≤ 64 := by simpa [wi] using hwi
      obtain ⟨m, rfl⟩ : ∃ m : Nat, most = m := ⟨most.toNat, by omega⟩
      have HR := Lib.hid hr
      have HL := Lib.hid (show rdL W' S' cs m = (readings W' S' cs).take m from (if_pos hr).trans (by simp))
      clear hr
      go_wp2_with fail
      refine (Within_any _ _ _ _).mono ?_
      rw [hwi]
      rintro e w3 ⟨rfl, rfl⟩
      go_wp2_with fail
      refine (All_any W' S' hW hW4 hS hS10 A c cs hC w2 hx2 hl).mono ?_
      rintro e w3 ⟨v, rfl, hLs, hb3⟩
      obtain ⟨A', c', rfl, hs, hm2, hc⟩ := hLs.sls
      have hbd := rd_bound hW4 hS10 cs
      generalize hR : readings W' S' cs = R at *
      by_cases hlt : R.length ≤ m
      · have HT := Lib.hid (show R.take m = R from List.take_of_length_le (by omega))
        go_wp2
        go_ret2
        refine ⟨A', c', by rw [HR.out, HL.out, HT.out]; rfl, by rw [HL.out, HT.out]; exact hs, by rw [HL.out, HT.out]; exact hm2, hbb2.trans (hb3.mono (by omega))⟩
      · have HT := Lib.hid (show (R.take m).length = m by simp; omega)
        go_wp2
        go_ret2
        refine ⟨A', c', by rw [HR.out, HL.out, HT.out]; rfl, by rw [HL.out]; exact sls_take hs m, by rw [HL.out, HT.out]; unfold maxLen; omega, hbb2.trans (hb3.mono (by omega))⟩
  · have hb0 : (cntE W S cs != 0) = true := by simpa using he
    have hr : rdE W S cs most = cntE W S cs := if_neg he
    have HR := Lib.hid hr
    have HL := Lib.hid (show rdL W S cs most = [] from if_neg (by rw [hr]; exact he))
    clear hr he
    go_wp2
    go_ret2
    refine ⟨none, 0, by rw [HR.out, HL.out]; rfl, by rw [HL.out]; exact fun h => absurd h (Nat.lt_irrefl 0), by rw [HL.out]; exact Nat.zero_le _, hbb2⟩
end Go.Proofs.YtadbkoioipjgmaaDoor

/-
  CONTRACTS of the document's own answers (padlockref01): Count, Readings, Implies.
-/
import Derived.Test.YthegmomjfbcabaaDoorRAll
import Derived.Test.YthegmomjfbcabaaDoorRefB
namespace Go.Proofs.YthegmomjfbcabaaDoor
open Go.RowKit
theorem rd_bound {W S : Nat} (hW4 : W ≤ 4) (hS10 : S ≤ 10) (cs : List Cl) : (readings W S cs).length ≤ 10000 := by
  refine Nat.le_trans (List.length_filter_le _ _) ?_
  rw [allCodes_length]
  exact pow_bound hW4 hS10
/-- the lock as numbers, where nothing is wrong -/
theorem cntE_nat {W S : Int} {cs : List Cl} (h : cntE W S cs = 0) : ∃ W' S' : Nat, W = W' ∧ S = S' ∧ 1 ≤ W' ∧ W' ≤ 4 ∧ 2 ≤ S' ∧ S' ≤ 10 ∧ cluesB W' S' cs = true := by
  obtain ⟨h1, h2⟩ := cntE_facts h
  obtain ⟨W', S', rfl, rfl, a, b, c, d⟩ := lockOk_nat h1
  exact ⟨W', S', rfl, rfl, a, b, c, d, h2⟩

set_option maxRecDepth 100000 in
set_option maxHeartbeats 1000000 in
theorem rCount_any (W S : Int) (A : Option Addr) (c : Nat) (cs : List Cl) (w : World) (hx : ClsR w w.heap.size A cs) (hl : cs.length ≤ maxLen) :
    Calls Tryd.prog 33 #[lockV W S, .slice A cs.length c] w fun e w' => e = .returned (.tuple #[I (cntN W S cs), I (cntE W S cs)]) ∧ Below w.heap.size w w' := by
  go_enter Tryd.func33, Tryd.ntmps33
  go_wp2_with fail
  obtain ⟨w1, hw1⟩ : ∃ w1, w1 = w.alloc (.cells #[I W, I S] 23) := ⟨_, rfl⟩
  rw [← hw1]
  have l0 : w1.cell? ⟨w.heap.size, 0, none⟩ = some (I W) := by rw [hw1]; exact alloc_cell _ _ _ 0
  have l1 : w1.cell? ⟨w.heap.size, 1, none⟩ = some (I S) := by rw [hw1]; exact alloc_cell _ _ _ 1
  have hb1 : Below w.heap.size w w1 := by rw [hw1]; exact (Below.refl _ _).alloc (Nat.le_refl _) _
  have s1 : w.heap.size < w1.heap.size := by rw [hw1]; simp
  have hx1 := cls_call hb1 hx
  clear hw1 hx
  refine (rCheckClues_any W S A c cs w1 hx1 hl).mono ?_
  rintro e w2 ⟨rfl, hb2⟩
  have l0 := (hb2.cell (p := ⟨w.heap.size, 0, none⟩) s1).trans l0
  have l1 := (hb2.cell (p := ⟨w.heap.size, 1, none⟩) s1).trans l1
  have hx2 := cls_call hb2 hx1
  have s2 : w.heap.size < w2.heap.size := by have := hb2.size; omega
  have hbb2 : Below w.heap.size w w2 := hb1.trans (hb2.mono (by omega))
  clear hb1 hb2 hx1
  by_cases he : cntE W S cs = 0
  · have hb0 : (cntE W S cs != 0) = false := by simp [he]
    obtain ⟨W', S', rfl, rfl, hW, hW4, hS, hS10, hC⟩ := cntE_nat he
    have HE := Lib.hid he
    have HN := Lib.hid (show cntN W' S' cs = (readings W' S' cs).length from if_pos he)
    clear he
    go_wp2_with fail
    refine (All_any W' S' hW hW4 hS hS10 A c cs hC w2 hx2 hl).mono ?_
    rintro e w3 ⟨v, rfl, hL, hb3⟩
    obtain ⟨A', c', rfl, hs, hm, hc⟩ := hL.sls
    go_wp2
    go_ret2
    exact ⟨by rw [HN.out, HE.out]; rfl, hbb2.trans (hb3.mono (by omega))⟩
  · have hb0 : (cntE W S cs != 0) = true := by simpa using he
    have HN := Lib.hid (show cntN W S cs = 0 from if_neg he)
    clear he
    go_wp2
    go_ret2
    exact ⟨by rw [HN.out]; rfl, hbb2⟩

/-- what Readings gives: its error, its list -/
def rdE (W S : Int) (cs : List Cl) (most : Int) : Int := if cntE W S cs = 0 then (if wi most 1 64 then 0 else 1) else cntE W S cs
def rdL (W S : Int) (cs : List Cl) (most : Int) : List (List Int) := if rdE W S cs most = 0 then (readings W.toNat S.toNat cs).take most.toNat else []
theorem sls_take {w : World} {B : Nat} {A : Option Addr} {xss : List (List Int)} (h : SlsR w B A xss) (k : Nat) : SlsR w B A (xss.take k) := fun h0 => by
  obtain ⟨ad, e, hl, hc⟩ := h (by simp at h0; omega)
  refine ⟨ad, e, hl, fun j hj => ?_⟩
  rw [List.getElem_take]
  exact hc j (by simp at hj; omega)

set_option maxRecDepth 100000 in
set_option maxHeartbeats 1000000 in
theorem rReadings_any (W S : Int) (A : Option Addr) (c : Nat) (cs : List Cl) (most : Int) (w : World) (hx : ClsR w w.heap.size A cs) (hl : cs.length ≤ maxLen) :
    Calls Tryd.prog 35 #[lockV W S, .slice A cs.length c, .int .i64 most] w fun e w' => ∃ A' c', e = .returned (.tuple #[.slice A' (rdL W S cs most).length c', I (rdE W S cs most)]) ∧ SlsR w' w'.heap.size A' (rdL W S cs most) ∧ (rdL W S cs most).length ≤ maxLen ∧ Below w.heap.size w w' := by
  go_enter Tryd.func35, Tryd.ntmps35
  go_wp2_with fail
  obtain ⟨w1, hw1⟩ : ∃ w1, w1 = w.alloc (.cells #[I W, I S] 23) := ⟨_, rfl⟩
  rw [← hw1]
  have l0 : w1.cell? ⟨w.heap.size, 0, none⟩ = some (I W) := by rw [hw1]; exact alloc_cell _ _ _ 0
  have l1 : w1.cell? ⟨w.heap.size, 1, none⟩ = some (I S) := by rw [hw1]; exact alloc_cell _ _ _ 1
  have hb1 : Below w.heap.size w w1 := by rw [hw1]; exact (Below.refl _ _).alloc (Nat.le_refl _) _
  have s1 : w.heap.size < w1.heap.size := by rw [hw1]; simp
  have hx1 := cls_call hb1 hx
  clear hw1 hx
  refine (rCheckClues_any W S A c cs w1 hx1 hl).mono ?_
  rintro e w2 ⟨rfl, hb2⟩
  have l0 := (hb2.cell (p := ⟨w.heap.size, 0, none⟩) s1).trans l0
  have l1 := (hb2.cell (p := ⟨w.heap.size, 1, none⟩) s1).trans l1
  have hx2 := cls_call hb2 hx1
  have s2 : w.heap.size < w2.heap.size := by have := hb2.size; omega
  have hbb2 : Below w.heap.size w w2 := hb1.trans (hb2.mono (by omega))
  clear hb1 hb2 hx1
  by_cases he : cntE W S cs = 0
  · have hb0 : (cntE W S cs != 0) = false := by simp [he]
    obtain ⟨W', S', rfl, rfl, hW, hW4, hS, hS10, hC⟩ := cntE_nat he
    have HE := Lib.hid he
    clear he
    cases hwi : wi most 1 64
    · have hr : rdE W' S' cs most = 1 := by rw [rdE, if_pos HE.out, hwi]; rfl
      have HR := Lib.hid hr
      have HL := Lib.hid (show rdL W' S' cs most = [] from if_neg (by rw [hr]; decide))
      clear hr
      go_wp2_with fail
      refine (Within_any _ _ _ _).mono ?_
      rw [hwi]
      rintro e w3 ⟨rfl, rfl⟩
      go_wp2
      go_ret2
      refine ⟨none, 0, by rw [HR.out, HL.out]; rfl, by rw [HL.out]; exact fun h => absurd h (Nat.lt_irrefl 0), by rw [HL.out]; exact Nat.zero_le _, hbb2⟩
    · have hr : rdE W' S' cs most = 0 := by rw [rdE, if_pos HE.out, hwi]; rfl
      have hm : 1 ≤ most ∧ most ≤ 64 := by simpa [wi] using hwi
      obtain ⟨m, rfl⟩ : ∃ m : Nat, most = m := ⟨most.toNat, by omega⟩
      have HR := Lib.hid hr
      have HL := Lib.hid (show rdL W' S' cs m = (readings W' S' cs).take m from (if_pos hr).trans (by simp))
      clear hr
      go_wp2_with fail
      refine (Within_any _ _ _ _).mono ?_
      rw [hwi]
      rintro e w3 ⟨rfl, rfl⟩
      go_wp2_with fail
      refine (All_any W' S' hW hW4 hS hS10 A c cs hC w2 hx2 hl).mono ?_
      rintro e w3 ⟨v, rfl, hLs, hb3⟩
      obtain ⟨A', c', rfl, hs, hm2, hc⟩ := hLs.sls
      have hbd := rd_bound hW4 hS10 cs
      generalize hR : readings W' S' cs = R at *
      by_cases hlt : R.length ≤ m
      · have HT := Lib.hid (show R.take m = R from List.take_of_length_le (by omega))
        go_wp2
        go_ret2
        refine ⟨A', c', by rw [HR.out, HL.out, HT.out]; rfl, by rw [HL.out, HT.out]; exact hs, by rw [HL.out, HT.out]; exact hm2, hbb2.trans (hb3.mono (by omega))⟩
      · have HT := Lib.hid (show (R.take m).length = m by simp; omega)
        go_wp2
        go_ret2
        refine ⟨A', c', by rw [HR.out, HL.out, HT.out]; rfl, by rw [HL.out]; exact sls_take hs m, by rw [HL.out, HT.out]; unfold maxLen; omega, hbb2.trans (hb3.mono (by omega))⟩
  · have hb0 : (cntE W S cs != 0) = true := by simpa using he
    have hr : rdE W S cs most = cntE W S cs := if_neg he
    have HR := Lib.hid hr
    have HL := Lib.hid (show rdL W S cs most = [] from if_neg (by rw [hr]; exact he))
    clear hr he
    go_wp2
    go_ret2
    refine ⟨none, 0, by rw [HR.out, HL.out]; rfl, by rw [HL.out]; exact fun h => absurd h (Nat.lt_irrefl 0), by rw [HL.out]; exact Nat.zero_le _, hbb2⟩
end Go.Proofs.YthegmomjfbcabaaDoor
/-
  CONTRACT of the document's own answer padlockref01.Implies.
-/
namespace Go.Proofs.YthegmomjfbcabaaDoor
open Go.RowKit
def impE (W S : Int) (cs : List Cl) (c : Cl) : Int := fstErr [lockErr W S, cluesErr W S 20 cs, clueErr W S c]
def impF (W S : Int) (cs : List Cl) (c : Cl) : Option (List Int) := (readings W.toNat S.toNat cs).find? (fun r => !holdB W.toNat c r)
def impR (W S : Int) (cs : List Cl) (c : Cl) : List Int := if impE W S cs c = 0 then (impF W S cs c).getD [] else []
def impB (W S : Int) (cs : List Cl) (c : Cl) : Bool := decide (impE W S cs c = 0) && (impF W S cs c).isNone
theorem impE_eq (W S : Int) (cs : List Cl) (c : Cl) : impE W S cs c = if cntE W S cs = 0 then (if clueB W S c then 0 else 11) else cntE W S cs := by
  rw [impE, fst3', cntE_eq]
  by_cases h : lockErr W S = 0
  · rw [if_pos h, if_pos h]
    rfl
  · rw [if_neg h, if_neg h, if_neg h]
theorem rd_mem {W S : Nat} (hS : 2 ≤ S) (hS10 : S ≤ 10) {cs : List Cl} {x : List Int} (h : x ∈ readings W S cs) : x.length = W ∧ Sym x W ∧ (∀ i, i < W → 0 ≤ nth x i ∧ nth x i ≤ S - 1) ∧ good W cs x = true ∧ ∃ k, k < S ^ W ∧ x = dig S W k := by
  obtain ⟨h1, h2⟩ := List.mem_filter.1 h
  obtain ⟨k, hk, rfl⟩ := List.mem_map.1 h1
  refine ⟨dig_length _ _ _, dig_Sym S W k (by omega) hS10, fun i hi => ?_, h2, k, List.mem_range.1 hk, rfl⟩
  have hm := dig_bounds (s := S) (by omega) W k (nth (dig S W k) i) (by rw [nth_lt (by rw [dig_length]; exact hi)]; exact List.getElem_mem _)
  omega
theorem find_hit {α : Type} {p : α → Bool} {xs : List α} {k : Nat} (hk : k < xs.length) (h0 : (xs.take k).all (fun x => !p x) = true) (h1 : p xs[k] = true) : xs.find? p = some xs[k] := by
  have e : xs = xs.take k ++ xs[k] :: xs.drop (k + 1) := by rw [← List.drop_eq_getElem_cons hk, List.take_append_drop]
  have h2 : (xs.take k ++ xs[k] :: xs.drop (k + 1)).find? p = some xs[k] := by
    rw [List.find?_append, List.find?_eq_none.2 (fun x hx => by have := List.all_eq_true.1 h0 x hx; simpa using this)]
    rw [List.find?_cons_of_pos h1]; rfl
  rwa [← e] at h2
/-- kept cells, and one more, over a call -/
theorem keptA {w1 w' w2 : World} {p : Addr} {v : Value} (hp : p.block < w1.heap.size) (h : Below w1.heap.size w1 w' ∧ (∀ b o, b < w1.heap.size → w'.cell? ⟨b, o, none⟩ = w1.cell? ⟨b, o, none⟩) ∧ w'.cell? p = some v) (hb : Below w'.heap.size w' w2) :
    Below w1.heap.size w1 w2 ∧ (∀ b o, b < w1.heap.size → w2.cell? ⟨b, o, none⟩ = w1.cell? ⟨b, o, none⟩) ∧ w2.cell? p = some v :=
  ⟨(keptS_call ⟨h.1, h.2.1⟩ hb).1, (keptS_call ⟨h.1, h.2.1⟩ hb).2, (hb.cell (by have := h.1.size; omega)).trans h.2.2⟩
theorem find_no {α : Type} {p : α → Bool} {xs : List α} (h0 : xs.all (fun x => !p x) = true) : xs.find? p = none :=
  List.find?_eq_none.2 (fun x hx => by have := List.all_eq_true.1 h0 x hx; simpa using this)

set_option maxRecDepth 100000 in
set_option maxHeartbeats 2000000 in
theorem rImplies_any (W S : Int) (A : Option Addr) (c : Nat) (cs : List Cl) (cl : Cl) (Ag : Option Addr) (cap : Nat) (w : World) (hx : ClsR w w.heap.size A cs) (hl : cs.length ≤ maxLen) (hg : IntsR w w.heap.size Ag cl.guess) (lg : cl.guess.length ≤ maxLen) :
    Calls Tryd.prog 40 #[lockV W S, .slice A cs.length c, clV cl Ag cap] w fun e w' => ∃ A' c', e = .returned (.tuple #[.slice A' (impR W S cs cl).length c', .bool (impB W S cs cl), I (impE W S cs cl)]) ∧ IntsR w' w'.heap.size A' (impR W S cs cl) ∧ (impR W S cs cl).length ≤ maxLen ∧ Below w.heap.size w w' := by
  obtain ⟨k, a, b, n, m, g, ng⟩ := cl
  go_enter Tryd.func40, Tryd.ntmps40
  go_wp2_with fail
  obtain ⟨w1, hw1⟩ : ∃ w1, w1 = (w.alloc (.cells #[I W, I S] 23)).alloc (.cells #[I k, I a, I b, I n, I m, .slice Ag g.length cap, .bool ng] 26) := ⟨_, rfl⟩
  rw [← hw1]
  have l0 : w1.cell? ⟨w.heap.size, 0, none⟩ = some (I W) := by rw [hw1]; exact (World.cell?_alloc_lt _ _ _ (by simp)).trans (alloc_cell _ _ _ 0)
  have l1 : w1.cell? ⟨w.heap.size, 1, none⟩ = some (I S) := by rw [hw1]; exact (World.cell?_alloc_lt _ _ _ (by simp)).trans (alloc_cell _ _ _ 1)
  have bc := fun i => (by rw [hw1]; exact alloc_cell' _ _ _ _ i (by simp) : w1.cell? ⟨w.heap.size + 1, i, none⟩ = (#[I k, I a, I b, I n, I m, .slice Ag g.length cap, .bool ng] : Array Value)[i]?)
  have hb1 : Below w.heap.size w w1 := by rw [hw1]; exact two_boxes _ _ _
  have s0 : w.heap.size < w1.heap.size := by rw [hw1]; simp; omega
  have s1 : w.heap.size + 1 < w1.heap.size := by rw [hw1]; simp
  have hg1 := ints_call hb1 hg
  have hx1 := cls_call hb1 hx
  clear hw1 hg hx
  refine (rCheckClues_any W S A c cs w1 hx1 hl).mono ?_
  rintro e w2 ⟨rfl, hb2⟩
  have l0 := (hb2.cell (p := ⟨w.heap.size, 0, none⟩) s0).trans l0
  have l1 := (hb2.cell (p := ⟨w.heap.size, 1, none⟩) s0).trans l1
  have bc := fun i => (hb2.cell (p := ⟨w.heap.size + 1, i, none⟩) s1).trans (bc i)
  have hg2 := ints_call hb2 hg1
  have hx2 := cls_call hb2 hx1
  have hbb2 : Below w.heap.size w w2 := hb1.trans (hb2.mono (by omega))
  have t0 : w.heap.size < w2.heap.size := by have := hb2.size; omega
  have t1 : w.heap.size + 1 < w2.heap.size := by have := hb2.size; omega
  clear hb1 hb2 hg1 hx1 s0 s1
  have q0 : w2.cell? ⟨w.heap.size + 1, 0, none⟩ = some (I k) := bc 0
  have q1 : w2.cell? ⟨w.heap.size + 1, 1, none⟩ = some (I a) := bc 1
  have q2 : w2.cell? ⟨w.heap.size + 1, 2, none⟩ = some (I b) := bc 2
  have q3 : w2.cell? ⟨w.heap.size + 1, 3, none⟩ = some (I n) := bc 3
  have q4 : w2.cell? ⟨w.heap.size + 1, 4, none⟩ = some (I m) := bc 4
  have q5 : w2.cell? ⟨w.heap.size + 1, 5, none⟩ = some (.slice Ag g.length cap) := bc 5
  have q6 : w2.cell? ⟨w.heap.size + 1, 6, none⟩ = some (.bool ng) := bc 6
  have BC := Lib.hid bc
  clear bc
  by_cases he : cntE W S cs = 0
  · have hb0 : (cntE W S cs != 0) = false := by simp [he]
    obtain ⟨W', S', rfl, rfl, hW, hW4, hS, hS10, hC⟩ := cntE_nat he
    have HE := Lib.hid he
    clear he
    cases hc : clueB W' S' ⟨k, a, b, n, m, g, ng⟩
    · have hE : impE W' S' cs ⟨k, a, b, n, m, g, ng⟩ = 11 := by rw [impE_eq, if_pos HE.out, hc]; rfl
      have HI := Lib.hid hE
      have HR := Lib.hid (show impR W' S' cs ⟨k, a, b, n, m, g, ng⟩ = [] from if_neg (by rw [hE]; decide))
      have HB := Lib.hid (show impB W' S' cs ⟨k, a, b, n, m, g, ng⟩ = false by rw [impB, hE]; rfl)
      clear hE
      go_wp2_with fail
      refine (isClue_any W' S' ⟨k, a, b, n, m, g, ng⟩ Ag cap w2 hg2 lg).mono ?_
      rintro e w3 ⟨rfl, hb3⟩
      rw [hc]
      go_wp2
      go_ret3
      refine ⟨none, 0, by rw [HR.out, HB.out, HI.out]; rfl, by rw [HR.out]; exact fun h => absurd h (Nat.lt_irrefl 0), by rw [HR.out]; exact Nat.zero_le _, hbb2.trans (hb3.mono (by omega))⟩
    · have hE : impE W' S' cs ⟨k, a, b, n, m, g, ng⟩ = 0 := by rw [impE_eq, if_pos HE.out, hc]; rfl
      have HI := Lib.hid hE
      have HR := Lib.hid (show impR W' S' cs ⟨k, a, b, n, m, g, ng⟩ = ((readings W' S' cs).find? (fun r => !holdB W' ⟨k, a, b, n, m, g, ng⟩ r)).getD [] from if_pos hE)
      have HB := Lib.hid (show impB W' S' cs ⟨k, a, b, n, m, g, ng⟩ = ((readings W' S' cs).find? (fun r => !holdB W' ⟨k, a, b, n, m, g, ng⟩ r)).isNone by rw [impB, hE]; rfl)
      have HC := Lib.hid hc
      clear hE
      go_wp2_with fail
      refine (isClue_any W' S' ⟨k, a, b, n, m, g, ng⟩ Ag cap w2 hg2 lg).mono ?_
      rintro e w3 ⟨rfl, hb3⟩
      rw [hc]
      clear hc
      have l0 := (hb3.cell (p := ⟨w.heap.size, 0, none⟩) t0).trans l0
      have l1 := (hb3.cell (p := ⟨w.heap.size, 1, none⟩) t0).trans l1
      have BC := Lib.hid (fun i => (hb3.cell (p := ⟨w.heap.size + 1, i, none⟩) t1).trans (BC.out i))
      have hg3 := ints_call hb3 hg2
      have hx3 := cls_call hb3 hx2
      have hbb3 : Below w.heap.size w w3 := hbb2.trans (hb3.mono (by omega))
      have t1 : w.heap.size + 1 < w3.heap.size := by have := hb3.size; omega
      clear q0 q1 q2 q3 q4 q5 q6 hb3 hg2 hx2
      go_wp2_with fail
      refine (All_any W' S' hW hW4 hS hS10 A c cs hC w3 hx3 hl).mono ?_
      rintro e w4 ⟨v, rfl, hLs, hb4⟩
      have BC := Lib.hid (fun i => (hb4.cell (p := ⟨w.heap.size + 1, i, none⟩) t1).trans (BC.out i))
      have hg4 := ints_call hb4 hg3
      have hbb4 : Below w.heap.size w w4 := hbb3.trans (hb4.mono (by omega))
      have t1 : w.heap.size + 1 < w4.heap.size := by have := hb4.size; omega
      obtain ⟨A', c', rfl, hs, hm2, hcap⟩ := hLs.sls
      have hbd := rd_bound hW4 hS10 cs
      have hmem := fun x (h : x ∈ readings W' S' cs) => rd_mem hS hS10 h
      generalize hR : readings W' S' cs = R at *
      clear l0 l1 hg3 hx3 hb4 hLs
      go_wp2
      go_loopw [11] (fun i wr => ∃ j : Nat, j ≤ R.length ∧ i = .int .i64 j ∧ Hid ((R.take j).all (holdB W' ⟨k, a, b, n, m, g, ng⟩) = true) ∧ Below w4.heap.size w4 wr) (fun i _ => R.length - (intOf i).toNat)
      case atStart => exact ⟨0, Nat.zero_le _, rfl, rfl, Below.refl _ _⟩
      case round =>
        obtain ⟨j, hj, rfl, HA, hB⟩ := hrel
        have BC := Lib.hid (fun i => (hB.cell (p := ⟨w.heap.size + 1, i, none⟩) t1).trans (BC.out i))
        have q0 : wr.cell? ⟨w.heap.size + 1, 0, none⟩ = some (I k) := BC.out 0
        have q1 : wr.cell? ⟨w.heap.size + 1, 1, none⟩ = some (I a) := BC.out 1
        have q2 : wr.cell? ⟨w.heap.size + 1, 2, none⟩ = some (I b) := BC.out 2
        have q3 : wr.cell? ⟨w.heap.size + 1, 3, none⟩ = some (I n) := BC.out 3
        have q4 : wr.cell? ⟨w.heap.size + 1, 4, none⟩ = some (I m) := BC.out 4
        have q5 : wr.cell? ⟨w.heap.size + 1, 5, none⟩ = some (.slice Ag g.length cap) := BC.out 5
        have q6 : wr.cell? ⟨w.heap.size + 1, 6, none⟩ = some (.bool ng) := BC.out 6
        have hg5 := ints_call hB hg4
        have hs5 := sls_call hB hs
        have hbw : Below w.heap.size w wr := hbb4.trans (hB.mono (by omega))
        have t2 : w.heap.size + 1 < wr.heap.size := by have := hB.size; omega
        clear hs hg4
        by_cases hlt : j < R.length
        · obtain ⟨ad, rfl, hab, hcc⟩ := hs5 (by omega)
          obtain ⟨A2, c2, d1, d2, d3⟩ := hcc j hlt
          obtain ⟨m1, m2, _, _, _⟩ := hmem R[j] (List.getElem_mem hlt)
          have hfh := fun h0 => find_hit (p := fun r => !holdB W' ⟨k, a, b, n, m, g, ng⟩ r) hlt h0
          generalize hx0 : R[j] = x at *
          have HX := Lib.hid hx0
          have HFH := Lib.hid hfh
          have HM := Lib.hid m1
          have hLx : lockOk x.length S' = true := by rw [m1]; simp [lockOk, wi]; omega
          have hCx : clueB x.length S' ⟨k, a, b, n, m, g, ng⟩ = true := by rw [m1]; exact HC.out
          have hsx : Sym x x.length := by rw [m1]; exact m2
          have H1 := Lib.hid hLx
          have H2 := Lib.hid hCx
          have H3 := Lib.hid hsx
          clear hx0 hcc hfh m1 m2 hLx hCx hsx hmem
          have hpb : (ad.add j).block < wr.heap.size := by rw [block_of_add]; exact hab
          cases hp : holdB W' ⟨k, a, b, n, m, g, ng⟩ x
          all_goals
            go_wp2_with fail
            go_region_held3 (fun w' => Below wr.heap.size wr w' ∧ (∀ b o, b < wr.heap.size → w'.cell? ⟨b, o, none⟩ = wr.cell? ⟨b, o, none⟩) ∧ w'.cell? (ad.add j) = some (.slice A2 x.length c2))
              (first | exact ⟨(Below.refl _ _).drew, fun _ _ _ => rfl, d1⟩ | exact keptA hpb (by assumption) hb | assumption)
              ((go_at_call 70; go_must (refine (True_any S' x H1.out ⟨k, a, b, n, m, g, ng⟩ H2.out H3.out Ag A2 cap c2 _ ?_ ?_).mono ?_); go_must (exact ints_call (And.left (by assumption : Below wr.heap.size wr _ ∧ (∀ b o, b < wr.heap.size → _) ∧ _)) hg5); go_must (exact ints_call (And.left (by assumption : Below wr.heap.size wr _ ∧ (∀ b o, b < wr.heap.size → _) ∧ _)) d2); rw [HM.out, hp]; rintro e w' ⟨rfl, hb⟩))
            all_goals
              have hk5 := (by assumption : Below wr.heap.size wr _ ∧ (∀ b o, b < wr.heap.size → _) ∧ _)
              have hb5 := hk5.1
              have d1' := hk5.2.2
              clear hk5
              go_wp2
              first
                | (go_ret3
                   have hf := HFH.out (by simpa using HA.out) (by simp [hp])
                   exact ⟨A2, c2, by rw [HR.out, HB.out, HI.out, hf]; rfl, by rw [HR.out, hf]; exact ints_call hb5 d2, by rw [HR.out, hf]; exact d3, hbw.trans (hb5.mono hbw.size)⟩)
                | (go_roundw
                   case rel => exact ⟨j + 1, by omega, by go_num, Lib.hid (all_take_snocL _ R j hlt HA.out (by rw [HX.out]; exact hp)), hB.trans (hb5.mono hB.size)⟩
                   case measure => simp [intOf]; omega)
        · obtain rfl : j = R.length := by omega
          have hf : R.find? (fun r => !holdB W' ⟨k, a, b, n, m, g, ng⟩ r) = none := find_no (by have := HA.out; rw [List.take_length] at this; simpa using this)
          have HF := Lib.hid hf
          clear hf
          go_wp2
          go_ret3
          refine ⟨none, 0, by rw [HR.out, HB.out, HI.out, HF.out]; rfl, by rw [HR.out, HF.out]; exact fun h => absurd h (Nat.lt_irrefl 0), by rw [HR.out, HF.out]; exact Nat.zero_le _, hbw⟩
  · have hb0 : (cntE W S cs != 0) = true := by simpa using he
    have hE : impE W S cs ⟨k, a, b, n, m, g, ng⟩ = cntE W S cs := by rw [impE_eq, if_neg he]
    have hne : ¬ impE W S cs ⟨k, a, b, n, m, g, ng⟩ = 0 := by rw [hE]; exact he
    have HI := Lib.hid hE
    have HR := Lib.hid (show impR W S cs ⟨k, a, b, n, m, g, ng⟩ = [] from if_neg hne)
    have HB := Lib.hid (show impB W S cs ⟨k, a, b, n, m, g, ng⟩ = false by rw [impB, decide_eq_false hne]; rfl)
    clear he hE hne
    go_wp2
    go_ret3
    refine ⟨none, 0, by rw [HR.out, HB.out, HI.out]; rfl, by rw [HR.out]; exact fun h => absurd h (Nat.lt_irrefl 0), by rw [HR.out]; exact Nat.zero_le _, hbb2⟩
end Go.Proofs.YthegmomjfbcabaaDoor

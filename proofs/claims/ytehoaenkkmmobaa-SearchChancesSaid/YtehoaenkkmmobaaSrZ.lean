/-
  LAYER 6, CONTRACTS: Check, checkSearch, Search.
-/
import Derived.Test.YtehoaenkkmmobaaSrY
import Derived.Test.YtehoaenkkmmobaaSrW
namespace Go.Proofs.Ytehoaenkkmmobaa
open Go.RowKit Go.Shelf
def mndB (mo tu most : Int) : Bool := wi mo 0 200 && wi tu 0 99 && wi most 0 2000
def srchE (nP : Nat) (G : List (List Ed)) (D : List Int) (mo tu most : Int) : Int := fstErr [chkE nP G D, unlE (mndB mo tu most) 1]
set_option maxRecDepth 100000 in
set_option maxHeartbeats 4000000 in
theorem checkSearch_any (AP AE AD : Option Addr) (nP cP cE cD : Nat) (G : List (List Ed)) (D : List Int) (mo tu most : Int) (w : World) (hm : MdR w AE AD G D) (hz : Szd nP G D) :
    Calls Try.prog 58 #[mdlV (.slice AP nP cP) AE AD G.length cE D.length cD, .agg #[I mo, I tu], I most] w fun e w' => e = .returned (I (srchE nP G D mo tu most)) ∧ Below w.heap.size w w' := by
  obtain ⟨w1, hw1, hs1, y0, hb1⟩ := one_box w (.cells #[.slice AP nP cP, .slice AE G.length cE, .slice AD D.length cD] 64)
  obtain ⟨w2, hw2, hs2, y2, hb2⟩ := one_box w1 (.cells #[I mo, I tu] 40)
  have s0 : w.heap.size < w1.heap.size := by omega
  have a0 : w2.cell? ⟨w.heap.size, 0, none⟩ = some (.slice AP nP cP) := (hb2.cell (p := ⟨w.heap.size, 0, none⟩) s0).trans (cell_of_row w1 _ 0 _ _ _ y0)
  have a1 : w2.cell? ⟨w.heap.size, 1, none⟩ = some (.slice AE G.length cE) := (hb2.cell (p := ⟨w.heap.size, 1, none⟩) s0).trans (cell_of_row w1 _ 1 _ _ _ y0)
  have a2 : w2.cell? ⟨w.heap.size, 2, none⟩ = some (.slice AD D.length cD) := (hb2.cell (p := ⟨w.heap.size, 2, none⟩) s0).trans (cell_of_row w1 _ 2 _ _ _ y0)
  have i0 : w2.cell? ⟨w.heap.size + 1, 0, none⟩ = some (I mo) := by rw [← hs1]; exact cell_of_row w2 _ 0 _ _ _ y2
  have i1 : w2.cell? ⟨w.heap.size + 1, 1, none⟩ = some (I tu) := by rw [← hs1]; exact cell_of_row w2 _ 1 _ _ _ y2
  have hchk := check_any AP AE AD nP cP cE cD G D w2 ((hm.call hb1).call hb2) hz
  have HB := Lib.hid (hb1.trans (hb2.mono hb1.size))
  obtain ⟨E1, hE1⟩ : ∃ E1, E1 = chkE nP G D := ⟨_, rfl⟩
  obtain ⟨b1, q1⟩ : ∃ b, b = wi mo 0 200 := ⟨_, rfl⟩
  obtain ⟨b2, q2⟩ : ∃ b, b = wi tu 0 99 := ⟨_, rfl⟩
  obtain ⟨b3, q3⟩ : ∃ b, b = wi most 0 2000 := ⟨_, rfl⟩
  have C1 : ∀ V, Calls Try.prog 55 #[I mo, I 0, I 200] V fun e w' => e = .returned (.bool b1) ∧ V = w' := fun V => by rw [q1]; exact within_any _ _ _ _
  have C2 : ∀ V, Calls Try.prog 55 #[I tu, I 0, I 99] V fun e w' => e = .returned (.bool b2) ∧ V = w' := fun V => by rw [q2]; exact within_any _ _ _ _
  have C3 : ∀ V, Calls Try.prog 55 #[I most, I 0, I 2000] V fun e w' => e = .returned (.bool b3) ∧ V = w' := fun V => by rw [q3]; exact within_any _ _ _ _
  obtain ⟨E2, hE2⟩ : ∃ E2, E2 = unlE (b1 && b2 && b3) 1 := ⟨_, rfl⟩
  obtain ⟨E, hE⟩ : ∃ E, E = fstErr [E1, E2] := ⟨_, rfl⟩
  have HE := Lib.hid (show E = srchE nP G D mo tu most by rw [hE, hE2, hE1, q1, q2, q3]; rfl)
  have C4 : ∀ (V : World) (B : Option Addr) (k : Nat), IntsR V V.heap.size B [E1, E2] → Calls Try.prog 54 #[.slice B 2 k] V fun e w' => e = .returned (I E) ∧ w' = V := fun V B k h => by
    rw [hE]; exact (first_any B k [E1, E2] V h (by simp [maxLen])).mono fun e w' ⟨p, q⟩ => ⟨p, q.symm⟩
  have C5 : ∀ V, Calls Try.prog 51 #[.bool (b1 && b2 && b3), I 1] V fun e w' => e = .returned (I E2) ∧ w' = V := fun V => by rw [hE2]; exact unlE_any _ 1 V
  rw [← hE1] at hchk
  clear hm hz y0 y2 hb1 hb2 q1 q2 q3 hE1 hE2 hE
  have W1 := hw1
  have W2 := hw2
  clear hw1 hw2
  rw [W1] at W2
  clear W1
  cases b1 <;> cases b2 <;> cases b3
  all_goals
    go_enter Try.func58, Try.ntmps58
    go_upto_region 1 with fail
    rw [← W2]
    clear W2
    go_wp2_with (first
      | (go_at_call 55; with_reducible refine (C1 _).mono ?_; rintro e w' ⟨rfl, rfl⟩)
      | (go_at_call 55; with_reducible refine (C2 _).mono ?_; rintro e w' ⟨rfl, rfl⟩)
      | (go_at_call 55; with_reducible refine (C3 _).mono ?_; rintro e w' ⟨rfl, rfl⟩)
      | (go_at_call 45; refine hchk.mono ?_; rintro e w3 ⟨rfl, hb3⟩)
      | (go_at_call 51; refine (C5 _).mono ?_; rintro e w' ⟨rfl, rfl⟩)
      | (go_at_call 54; go_must (refine (C4 _ _ _ ?_).mono ?_); go_must (exact ints_new _ [E1, E2] _); rintro e w' ⟨rfl, rfl⟩))
    go_ret
    refine ⟨ret_int HE.out, ?_⟩
    exact ((HB.out.trans (hb3.mono HB.out.size)).alloc (by have := HB.out.size; have := hb3.size; omega) _)
theorem QRow.rebase {w : World} {base b : Nat} {v : Value} {L : List Int} (h : QRow w base v L) (hb : b ≤ base) : QRow w b v L := by
  obtain ⟨g, off, c, cur, e, h1, h2, h3⟩ := h
  exact ⟨g, off, c, cur, e, h1, Nat.le_trans hb h2, h3⟩
theorem TrR.rebase {w : World} {base b : Nat} {v : Value} {L : List Nat} (h : TrR w base v L) (hb : b ≤ base) : TrR w b v L := h.imp id fun h => h.rebase hb
/-- where a search ends -/
def endS (G : List (List Ed)) (D : List Int) (mo tu most : Int) : PSt := runS (eOf G) G.length tu.toNat mo.toNat (dOf D) most.toNat iniP
theorem srchE_zero {nP : Nat} {G : List (List Ed)} {D : List Int} {mo tu most : Int} (h : srchE nP G D mo tu most = 0) : mapB nP G D = true ∧ mndB mo tu most = true := by
  unfold srchE chkE unlE at h
  cases h1 : mapB nP G D
  · rw [h1] at h; exact absurd h (by simp [fstErr])
  · cases h2 : mndB mo tu most
    · rw [h1, h2] at h; exact absurd h (by simp [fstErr])
    · exact ⟨rfl, rfl⟩
theorem srchE_of {nP : Nat} {G : List (List Ed)} {D : List Int} {mo tu most : Int} (h1 : mapB nP G D = true) (h2 : mndB mo tu most = true) : srchE nP G D mo tu most = 0 := by
  unfold srchE chkE unlE
  rw [h1, h2]; rfl
theorem mapB_vld {nP : Nat} {G : List (List Ed)} {D : List Int} (h : mapB nP G D = true) : nP = G.length ∧ Vld G D ∧ okB G D = true := by
  rw [mapB, Bool.and_eq_true] at h
  exact ⟨(whB_vld h.1).1, (whB_vld h.1).2, h.2⟩
abbrev grV (AP AE : Option Addr) (nP cP nE cE : Nat) : Value := .agg #[.slice AP nP cP, .slice AE nE cE]
theorem three_boxes {w : World} (a b c : Obj) : ∃ w1 w2 w3, w1 = w.alloc a ∧ w2 = w1.alloc b ∧ w3 = w2.alloc c ∧ w1.heap.size = w.heap.size + 1 ∧ w2.heap.size = w.heap.size + 1 + 1 ∧ w3.heap.size = w.heap.size + 1 + 1 + 1 ∧ w2.heap[w.heap.size]? = some a ∧ w2.heap[w.heap.size + 1]? = some b ∧ w3.heap[w.heap.size]? = some a ∧ w3.heap[w.heap.size + 1]? = some b ∧ w3.heap[w.heap.size + 1 + 1]? = some c ∧ Below w.heap.size w w1 ∧ Below w.heap.size w w2 ∧ Below w.heap.size w w3 := by
  obtain ⟨w1, hw1, hs1, y1, hb1⟩ := one_box w a
  obtain ⟨w2, hw2, hs2, y2, hb2⟩ := one_box w1 b
  obtain ⟨w3, hw3, hs3, y3, hb3⟩ := one_box w2 c
  rw [hs1] at hs2 y2
  rw [hs2] at hs3 y3
  have hB2 := hb1.trans (hb2.mono hb1.size)
  exact ⟨w1, w2, w3, hw1, hw2, hw3, hs1, hs2, hs3, (hb2.block _ (by omega)).trans y1, y2, (hb3.block _ (by omega)).trans ((hb2.block _ (by omega)).trans y1), (hb3.block _ (by omega)).trans y2, y3, hb1, hB2, hB2.trans (hb3.mono hB2.size)⟩
set_option maxRecDepth 100000 in
set_option maxHeartbeats 4000000 in
theorem Search_ok (AP AE AD : Option Addr) (nP cP cE cD : Nat) (G : List (List Ed)) (D : List Int) (mo tu most : Int) (w : World) (hm : MdR w AE AD G D) (hz : Szd nP G D) (h0 : srchE nP G D mo tu most = 0) :
    Calls Try.prog 31 #[grV AP AE nP cP G.length cE, .slice AD D.length cD, .agg #[I mo, I tu], I most] w fun e w' => ∃ v, e = .returned (.tuple #[v, .bool (dOf D (endS G D mo tu most).at_ == 0), I 0]) ∧ TrR w' w.heap.size v (endS G D mo tu most).trail ∧ Below w.heap.size w w' := by
  obtain ⟨w1, w2, w3, hw1, hw2, hw3, hs1, hs2, hs3, x1, x2, y1, y2, y3, -, -, hb3⟩ := three_boxes (w := w) (.cells #[.slice AP nP cP, .slice AE G.length cE] 25) (.cells #[I mo, I tu] 40) (.cells #[.slice AP nP cP, .slice AE G.length cE, .slice AD D.length cD] 64)
  have a0 : w2.cell? ⟨w.heap.size, 0, none⟩ = some (.slice AP nP cP) := cell_of_row w2 _ 0 _ _ _ x1
  have a1 : w2.cell? ⟨w.heap.size, 1, none⟩ = some (.slice AE G.length cE) := cell_of_row w2 _ 1 _ _ _ x1
  have hck := checkSearch_any AP AE AD nP cP cE cD G D mo tu most w3 (hm.call hb3) hz
  have m0 : w3.cell? ⟨w.heap.size + 1 + 1, 0, none⟩ = some (.slice AP nP cP) := cell_of_row w3 _ 0 _ _ _ y3
  have m1 : w3.cell? ⟨w.heap.size + 1 + 1, 1, none⟩ = some (.slice AE G.length cE) := cell_of_row w3 _ 1 _ _ _ y3
  have m2 : w3.cell? ⟨w.heap.size + 1 + 1, 2, none⟩ = some (.slice AD D.length cD) := cell_of_row w3 _ 2 _ _ _ y3
  have i0 : w3.cell? ⟨w.heap.size + 1, 0, none⟩ = some (I mo) := cell_of_row w3 _ 0 _ _ _ y2
  have i1 : w3.cell? ⟨w.heap.size + 1, 1, none⟩ = some (I tu) := cell_of_row w3 _ 1 _ _ _ y2
  have W3 := hw3
  rw [hw2, hw1] at W3
  obtain ⟨hmap, hmnd⟩ := srchE_zero h0
  obtain ⟨rfl, hv, -⟩ := mapB_vld hmap
  simp only [mndB, wi, Bool.and_eq_true, decide_eq_true_eq] at hmnd
  have hse : ∀ V, Below w3.heap.size w3 V → Calls Try.prog 59 #[mdlV (.slice AP G.length cP) AE AD G.length cE D.length cD, .agg #[I mo, I tu], I most] V fun e w' => ∃ v, e = .returned (.tuple #[v, .bool (dOf D (endS G D mo tu most).at_ == 0)]) ∧ TrR w' V.heap.size v (endS G D mo tu most).trail ∧ Below V.heap.size V w' := fun V hV => by
    have h := search_any AP AE AD G.length cP cE cD tu.toNat mo.toNat most.toNat G D V ((hm.call hb3).call hV) hv (by omega) (by omega) (by omega)
    rw [show ((mo.toNat : Nat) : Int) = mo by omega, show ((tu.toNat : Nat) : Int) = tu by omega, show ((most.toNat : Nat) : Int) = most by omega] at h
    exact h
  rw [h0] at hck
  obtain ⟨S, hS⟩ : ∃ S, S = endS G D mo tu most := ⟨_, rfl⟩
  rw [← hS] at hse
  rw [← hS]
  obtain ⟨dn, hdn⟩ : ∃ dn, dn = (dOf D S.at_ == 0) := ⟨_, rfl⟩
  rw [← hdn] at hse
  rw [← hdn]
  have HB := Lib.hid hb3
  have s3 : w.heap.size + 1 + 1 < w3.heap.size := by omega
  have s2 : w.heap.size + 1 < w3.heap.size := by omega
  clear hm hz h0 hmap hmnd hv hw1 hw2 hw3 x1 x2 y1 y2 y3 hb3 hS hdn hs1
  go_enter Try.func31, Try.ntmps31
  go_upto_region 1 with fail
  go_upto_region 2 with fail
  rw [← W3]
  clear W3 a0 a1
  go_wp2_with (first
    | (go_at_call 58; refine hck.mono ?_; rintro e w4 ⟨rfl, hb4⟩; have n0 := (hb4.cell (p := ⟨w.heap.size + 1 + 1, 0, none⟩) s3).trans m0; have n1 := (hb4.cell (p := ⟨w.heap.size + 1 + 1, 1, none⟩) s3).trans m1; have n2 := (hb4.cell (p := ⟨w.heap.size + 1 + 1, 2, none⟩) s3).trans m2; have j0 := (hb4.cell (p := ⟨w.heap.size + 1, 0, none⟩) s2).trans i0; have j1 := (hb4.cell (p := ⟨w.heap.size + 1, 1, none⟩) s2).trans i1; have hs := hse _ hb4)
    | (go_at_call 59; refine hs.mono ?_; rintro e w5 ⟨v, rfl, ht, hb5⟩))
  go_ret3
  have hB4 := HB.out.trans (hb4.mono HB.out.size)
  exact ⟨_, rfl, ht.rebase hB4.size, hB4.trans (hb5.mono hB4.size)⟩
set_option maxRecDepth 100000 in
set_option maxHeartbeats 4000000 in
theorem Search_err (AP AE AD : Option Addr) (nP cP cE cD : Nat) (G : List (List Ed)) (D : List Int) (mo tu most : Int) (w : World) (hm : MdR w AE AD G D) (hz : Szd nP G D) (h0 : srchE nP G D mo tu most ≠ 0) :
    Calls Try.prog 31 #[grV AP AE nP cP G.length cE, .slice AD D.length cD, .agg #[I mo, I tu], I most] w fun e w' => e = .returned (.tuple #[.slice none 0 0, .bool false, I (srchE nP G D mo tu most)]) ∧ Below w.heap.size w w' := by
  obtain ⟨w1, w2, w3, hw1, hw2, hw3, hs1, hs2, hs3, x1, x2, y1, y2, y3, -, -, hb3⟩ := three_boxes (w := w) (.cells #[.slice AP nP cP, .slice AE G.length cE] 25) (.cells #[I mo, I tu] 40) (.cells #[.slice AP nP cP, .slice AE G.length cE, .slice AD D.length cD] 64)
  have a0 : w2.cell? ⟨w.heap.size, 0, none⟩ = some (.slice AP nP cP) := cell_of_row w2 _ 0 _ _ _ x1
  have a1 : w2.cell? ⟨w.heap.size, 1, none⟩ = some (.slice AE G.length cE) := cell_of_row w2 _ 1 _ _ _ x1
  have hck := checkSearch_any AP AE AD nP cP cE cD G D mo tu most w3 (hm.call hb3) hz
  have m0 : w3.cell? ⟨w.heap.size + 1 + 1, 0, none⟩ = some (.slice AP nP cP) := cell_of_row w3 _ 0 _ _ _ y3
  have m1 : w3.cell? ⟨w.heap.size + 1 + 1, 1, none⟩ = some (.slice AE G.length cE) := cell_of_row w3 _ 1 _ _ _ y3
  have m2 : w3.cell? ⟨w.heap.size + 1 + 1, 2, none⟩ = some (.slice AD D.length cD) := cell_of_row w3 _ 2 _ _ _ y3
  have i0 : w3.cell? ⟨w.heap.size + 1, 0, none⟩ = some (I mo) := cell_of_row w3 _ 0 _ _ _ y2
  have i1 : w3.cell? ⟨w.heap.size + 1, 1, none⟩ = some (I tu) := cell_of_row w3 _ 1 _ _ _ y2
  have W3 := hw3
  rw [hw2, hw1] at W3
  obtain ⟨E, hE⟩ : ∃ E, E = srchE nP G D mo tu most := ⟨_, rfl⟩
  rw [← hE] at hck h0
  rw [← hE]
  have q1 : (E != 0) = true := by simpa using h0
  have q2 : decide (E = 0) = false := decide_eq_false h0
  have HB := Lib.hid hb3
  clear hm hz h0 hw1 hw2 hw3 x1 x2 y1 y2 y3 hb3 hE hs1
  go_enter Try.func31, Try.ntmps31
  go_upto_region 2 with fail
  rw [← W3]
  clear W3 a0 a1
  go_wp2_with (go_at_call 58; refine hck.mono ?_; rintro e w4 ⟨rfl, hb4⟩)
  go_ret3
  exact ⟨rfl, HB.out.trans (hb4.mono HB.out.size)⟩
end Go.Proofs.Ytehoaenkkmmobaa

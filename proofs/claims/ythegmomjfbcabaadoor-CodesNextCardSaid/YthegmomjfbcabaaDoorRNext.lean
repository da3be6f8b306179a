/-
  CONTRACT of the document's own answer padlockref01.Next.
-/
import Derived.Test.YthegmomjfbcabaaDoorRWorst
namespace Go.Proofs.YthegmomjfbcabaaDoor
open Go.RowKit
theorem nx_zero {W S : Nat} {cs : List Cl} (hE : cntE W S cs = 0) (h : (readings W S cs).length = 0) : nxE W S cs = 3 ∧ nxG W S cs = [] ∧ nxN W S cs = 0 := by
  have h1 : nxE W S cs = 3 := by rw [nxE, if_pos hE]; exact if_pos h
  exact ⟨h1, if_neg (by rw [h1]; decide), if_neg (by rw [h1]; decide)⟩
theorem nx_many {W S : Nat} {cs : List Cl} (hE : cntE W S cs = 0) (h : 200 < (readings W S cs).length) : nxE W S cs = 2 ∧ nxG W S cs = [] ∧ nxN W S cs = 0 := by
  have h1 : nxE W S cs = 2 := by
    rw [nxE, if_pos hE]
    exact (if_neg (show ¬ (readings W S cs).length = 0 by omega)).trans (if_pos h)
  exact ⟨h1, if_neg (by rw [h1]; decide), if_neg (by rw [h1]; decide)⟩
theorem nx_some {W S : Nat} {cs : List Cl} (hE : cntE W S cs = 0) (h0 : 0 < (readings W S cs).length) (h : (readings W S cs).length ≤ 200) :
    nxE W S cs = 0 ∧ nxG W S cs = (readings W S cs).getD (bst (lft W (readings W S cs)) ((readings W S cs).length - 1)) [] ∧ nxN W S cs = (lft W (readings W S cs) (bst (lft W (readings W S cs)) ((readings W S cs).length - 1)) : Nat) := by
  have h1 : nxE W S cs = 0 := by
    rw [nxE, if_pos hE]
    exact (if_neg (show ¬ (readings W S cs).length = 0 by omega)).trans (if_neg (show ¬ 200 < (readings W S cs).length by omega))
  exact ⟨h1, if_pos h1, if_pos h1⟩
theorem nx_bad {W S : Int} {cs : List Cl} (hE : ¬ cntE W S cs = 0) : nxE W S cs = cntE W S cs ∧ nxG W S cs = [] ∧ nxN W S cs = 0 := by
  have h1 : nxE W S cs = cntE W S cs := if_neg hE
  exact ⟨h1, if_neg (by rw [h1]; exact hE), if_neg (by rw [h1]; exact hE)⟩

set_option maxRecDepth 100000 in
set_option maxHeartbeats 4000000 in
theorem rNext_any (W S : Int) (A : Option Addr) (c : Nat) (cs : List Cl) (w : World) (hx : ClsR w w.heap.size A cs) (hl : cs.length ≤ maxLen) :
    Calls Tryd.prog 52 #[lockV W S, .slice A cs.length c] w fun e w' => ∃ A' c', e = .returned (.tuple #[.slice A' (nxG W S cs).length c', I (nxN W S cs), I (nxE W S cs)]) ∧ IntsR w' w'.heap.size A' (nxG W S cs) ∧ (nxG W S cs).length ≤ maxLen ∧ Below w.heap.size w w' := by
  go_enter Tryd.func52, Tryd.ntmps52
  go_wp2_with fail
  obtain ⟨w1, hw1⟩ : ∃ w1, w1 = w.alloc (.cells #[I W, I S] 23) := ⟨_, rfl⟩
  rw [← hw1]
  have l0 : w1.cell? ⟨w.heap.size, 0, none⟩ = some (I W) := by rw [hw1]; exact alloc_cell _ _ _ 0
  have l1 : w1.cell? ⟨w.heap.size, 1, none⟩ = some (I S) := by rw [hw1]; exact alloc_cell _ _ _ 1
  have hb1 : Below w.heap.size w w1 := by rw [hw1]; exact (Below.refl _ _).alloc (Nat.le_refl _) _
  have s1 : w.heap.size < w1.heap.size := by rw [hw1]; simp
  have hx1 := cls_call hb1 hx
  clear hw1 hx
  refine (rCheckClues_any W S A c cs w1 hx1 hl).mono ?_
  rintro e w2 ⟨rfl, hb2⟩
  have l0 := (hb2.cell (p := ⟨w.heap.size, 0, none⟩) s1).trans l0
  have l1 := (hb2.cell (p := ⟨w.heap.size, 1, none⟩) s1).trans l1
  have hx2 := cls_call hb2 hx1
  have s2 : w.heap.size < w2.heap.size := by have := hb2.size; omega
  have hbb2 : Below w.heap.size w w2 := hb1.trans (hb2.mono (by omega))
  clear hb1 hb2 hx1
  by_cases he : cntE W S cs = 0
  · have hb0 : (cntE W S cs != 0) = false := by simp [he]
    obtain ⟨W', S', rfl, rfl, hW, hW4, hS, hS10, hC⟩ := cntE_nat he
    have HE := Lib.hid he
    clear he
    go_wp2_with fail
    refine (All_any W' S' hW hW4 hS hS10 A c cs hC w2 hx2 hl).mono ?_
    rintro e w3 ⟨v3, rfl, hv3, hb3⟩
    obtain ⟨A3, c3, rfl, r3, m3, -⟩ := hv3.sls
    obtain ⟨R, hR⟩ : ∃ R, R = readings W' S' cs := ⟨_, rfl⟩
    rw [← hR] at r3 m3 ⊢
    have HR := Lib.hid hR
    have hbb3 : Below w.heap.size w w3 := hbb2.trans (hb3.mono (by omega))
    have hmem := fun x (h : x ∈ R) => rd_mem hS hS10 (cs := cs) (x := x) (by rw [← hR]; exact h)
    clear hv3 hb3 hbb2 hR
    by_cases h0 : R.length = 0
    · have g0 : ((R.length : Int) == 0) = true := by simp [h0]
      obtain ⟨e1, e2, e3⟩ := nx_zero HE.out (by rw [← HR.out]; exact h0)
      have HN := Lib.hid (And.intro e1 (And.intro e2 e3))
      clear h0 e1 e2 e3
      go_wp2
      go_ret3
      refine ⟨none, 0, by rw [HN.out.1, HN.out.2.1, HN.out.2.2]; rfl, by rw [HN.out.2.1]; exact IntsR.nil, by rw [HN.out.2.1]; exact Nat.zero_le _, hbb3⟩
    · have g0 : ((R.length : Int) == 0) = false := by simp; exact fun h => h0 (by simp [h])
      by_cases h2 : 200 < R.length
      · have g2 : decide ((200 : Int) < (R.length : Int)) = true := decide_eq_true (by omega)
        obtain ⟨e1, e2, e3⟩ := nx_many HE.out (by rw [← HR.out]; exact h2)
        have HN := Lib.hid (And.intro e1 (And.intro e2 e3))
        clear h0 e1 e2 e3
        go_wp2
        go_ret3
        refine ⟨none, 0, by rw [HN.out.1, HN.out.2.1, HN.out.2.2]; rfl, by rw [HN.out.2.1]; exact IntsR.nil, by rw [HN.out.2.1]; exact Nat.zero_le _, hbb3⟩
      · have g2 : decide ((200 : Int) < (R.length : Int)) = false := decide_eq_false (by omega)
        have h200 : R.length ≤ 200 := by omega
        have hpos : 0 < R.length := by omega
        obtain ⟨e1, e2, e3⟩ := nx_some HE.out (by rw [← HR.out]; exact hpos) (by rw [← HR.out]; exact h200)
        rw [← HR.out] at e2 e3
        have HN := Lib.hid (And.intro e1 (And.intro e2 e3))
        obtain ⟨a1, rfl, hb1, hc1⟩ := r3 hpos
        obtain ⟨B1, c1, d1, i1, m1⟩ := hc1 0 hpos
        have hg0 : R.getD 0 [] = R[0] := getD_at hpos
        have hl0 : R[0].length = W' := (hmem _ (List.getElem_mem hpos)).1
        generalize hx0 : R[0] = x0 at *
        have HG0 := Lib.hid hg0
        have HL0 := Lib.hid hl0
        have hS' := fun x (h : x ∈ R) => (hmem x h).2.1
        have hL' := fun x (h : x ∈ R) => (hmem x h).1
        have d1' : w3.cell? a1 = some (.slice B1 x0.length c1) := by simpa [Addr.add] using d1
        have p1 : a1.block < w3.heap.size := hb1
        have p1' : (a1.add 0).block < w3.heap.size := by rw [block_of_add]; exact hb1
        have R3 := Lib.hid r3
        have HM := Lib.hid hmem
        clear hx0 hg0 hl0 e1 e2 e3 h0 h2 hc1 r3 hmem l0 l1
        go_upto_region 9 with fail
        go_cut [9, 10] (fun s9 s10 wx => s9 = .slice B1 x0.length c1 ∧ s10 = I (lft W' R 0 : Nat) ∧ Below w3.heap.size w3 wx)
        case first =>
          go_region_held3 (fun w' => Below w3.heap.size w3 w' ∧ w'.cell? a1 = some (.slice B1 x0.length c1) ∧ w'.cell? (a1.add 0) = some (.slice B1 x0.length c1))
            (first | exact ⟨(Below.refl _ _).drew, d1', d1⟩ | exact keptB p1 p1' (by assumption) hb | assumption)
            ((go_at_call 96; go_must (refine (rworst_any W' hW4 R hS' hL' h200 x0 HL0.out _ _ _ _ _ ?_ ?_).mono ?_); go_must (exact sls_call (And.left (by assumption : Below w3.heap.size w3 _ ∧ _ ∧ _)) R3.out); go_must (exact ints_call (And.left (by assumption : Below w3.heap.size w3 _ ∧ _ ∧ _)) i1); rintro e w' ⟨rfl, hb⟩))
          all_goals
            go_wp2_with fail
            go_meet
            exact ⟨rfl, by rw [lft, HG0.out], And.left (by assumption : Below w3.heap.size w3 _ ∧ _ ∧ _)⟩
        case rest =>
          obtain ⟨rfl, rfl, hb4⟩ := hcut
          obtain ⟨w4, hw4⟩ : ∃ w4 : World, w4 = wc := ⟨_, rfl⟩
          subst hw4
          have hbb4 : Below w.heap.size w w4 := hbb3.trans (hb4.mono (by have := hbb3.size; omega))
          have i4 := ints_call hb4 i1
          have R4 := Lib.hid (sls_call hb4 R3.out)
          have s4 : w.heap.size ≤ w4.heap.size := hbb4.size
          clear d1 d1' i1 R3 p1 p1' hb4 hbb3
          go_wp2_with fail
          go_loopw [9, 10, 11] (fun b l i wr => ∃ j k : Nat, j = k + 1 ∧ k < R.length ∧ i = .int .i64 j ∧ l = I (lft W' R (bst (lft W' R) k) : Nat) ∧ (∃ B c', b = .slice B (R.getD (bst (lft W' R) k) []).length c' ∧ IntsR wr wr.heap.size B (R.getD (bst (lft W' R) k) [])) ∧ Below w4.heap.size w4 wr) (fun _ _ i _ => R.length - (intOf i).toNat)
          case atStart => exact ⟨1, 0, rfl, hpos, rfl, rfl, ⟨B1, c1, by rw [show bst (lft W' R) 0 = 0 from rfl, HG0.out], by rw [show bst (lft W' R) 0 = 0 from rfl, HG0.out]; exact i4⟩, Below.refl _ _⟩
          case round =>
            obtain ⟨j, k, hj, hk, rfl, rfl, ⟨B, cb, rfl, ib⟩, hB⟩ := hrel
            obtain ⟨gb, hgb⟩ : ∃ gb, gb = R.getD (bst (lft W' R) k) [] := ⟨_, rfl⟩
            obtain ⟨p, hp⟩ : ∃ p, p = lft W' R (bst (lft W' R) k) := ⟨_, rfl⟩
            have HGB := Lib.hid hgb
            have HP := Lib.hid hp
            rw [← hgb] at ib ⊢
            rw [← hp]
            clear hgb hp
            by_cases hlt : j < R.length
            · obtain ⟨a2, e0, hb2, hc2⟩ := (sls_call hB R4.out) hpos
              obtain rfl : a2 = a1 := by injection e0 with e0; exact e0.symm
              obtain ⟨B2, c2, d2, i2, m2⟩ := hc2 j hlt
              have hgk : R.getD j [] = R[j] := getD_at hlt
              have hlk : R[j].length = W' := hL' _ (List.getElem_mem hlt)
              generalize hx2 : R[j] = x at *
              have hv : mst (anN W' x) R = lft W' R j := by rw [lft, hgk]
              obtain ⟨q, hq⟩ : ∃ q, q = lft W' R j := ⟨_, rfl⟩
              rw [← hq] at hv
              have hbs : bst (lft W' R) j = if q < p then j else bst (lft W' R) k := by rw [hj, bst, ← hj, ← hq, ← HP.out]
              have HV := Lib.hid hv
              have HLK := Lib.hid hlk
              have HGK := Lib.hid hgk
              have HBS := Lib.hid hbs
              have HQ := Lib.hid hq
              have HJ := Lib.hid hj
              have p2 : (a2.add j).block < wr.heap.size := by rw [block_of_add]; exact hb2
              clear hx2 hgk hlk hv hq hbs hc2 e0 hj
              go_wp2_with fail
              refine (rworst_any W' hW4 R hS' hL' h200 x HLK.out _ B2 _ c2 wr (sls_call hB R4.out) i2).mono ?_
              rintro e w5 ⟨rfl, hb5⟩
              rw [HV.out]
              have hB5 := hB.trans (hb5.mono hB.size)
              have d5 := (hb5.cell p2).trans d2
              have i5 := ints_call hb5 i2
              have ib5 := ints_call hb5 ib
              clear d2 i2 ib p2
              by_cases hqp : (q : Int) < (p : Int)
              · have hbj : bst (lft W' R) j = j := by rw [HBS.out, if_pos (by omega)]
                have HBJ := Lib.hid hbj
                clear hbj
                go_wp2_with fail
                go_roundw
                case rel => exact ⟨j + 1, j, rfl, hlt, by go_num, by rw [HBJ.out, HQ.out], ⟨B2, c2, by rw [HBJ.out, HGK.out], by rw [HBJ.out, HGK.out]; exact i5⟩, hB5⟩
                case measure => simp [intOf]; omega
              · have hbj : bst (lft W' R) j = bst (lft W' R) k := by rw [HBS.out, if_neg (by omega)]
                have HBJ := Lib.hid hbj
                clear hbj
                go_wp2_with fail
                go_roundw
                case rel => exact ⟨j + 1, j, rfl, hlt, by go_num, by rw [HBJ.out, HP.out], ⟨B, cb, by rw [HBJ.out, HGB.out], by rw [HBJ.out, ← HGB.out]; exact ib5⟩, hB5⟩
                case measure => simp [intOf]; omega
            · have hkn : k = R.length - 1 := by omega
              have HKN := Lib.hid hkn
              clear hj hk hkn
              go_wp2_with fail
              go_ret3
              refine ⟨B, cb, by rw [HN.out.1, HN.out.2.1, HN.out.2.2, ← HKN.out, ← HGB.out, ← HP.out]; rfl, by rw [HN.out.2.1, ← HKN.out, ← HGB.out]; exact ib, ?_, hbb4.trans (hB.mono s4)⟩
              have hk2 : bst (lft W' R) k < R.length := by have := bst_le (lft W' R) k; have := HKN.out; omega
              rw [HN.out.2.1, ← HKN.out, getD_at hk2, hL' _ (List.getElem_mem hk2)]
              unfold maxLen
              omega
  · have hb0 : (cntE W S cs != 0) = true := by simpa using he
    obtain ⟨e1, e2, e3⟩ := nx_bad he
    have HN := Lib.hid (And.intro e1 (And.intro e2 e3))
    clear he e1 e2 e3
    go_wp2
    go_ret3
    exact ⟨none, 0, by rw [HN.out.1, HN.out.2.1, HN.out.2.2]; rfl, by rw [HN.out.2.1]; exact IntsR.nil, by rw [HN.out.2.1]; exact Nat.zero_le _, hbb2⟩
end Go.Proofs.YthegmomjfbcabaaDoor

/-
  CONTRACT of the document's own answer padlockref01.Shows.
-/
import Derived.Test.YtadbkoioipjgmaaDoorTbl
namespace Go.Proofs.YtadbkoioipjgmaaDoor
open Go.RowKit
/-- does a wheel show a symbol in some reading -/
def col (R : List (List Int)) (w s : Nat) : Bool := R.any (fun r => nth r w == (s : Int))
/-- the symbols below t that a wheel shows -/
def full (R : List (List Int)) (w t : Nat) : List Int := ((List.range t).filter (col R w)).map (fun s => ((s : Nat) : Int))
/-- the table when k wheels are done and the next one has been looked at below t -/
def shT (R : List (List Int)) (W S k t : Nat) : List (List Int) := (List.range W).map (fun w => if w < k then full R w S else if w = k then full R w t else [])
theorem shT_length (R : List (List Int)) (W S k t : Nat) : (shT R W S k t).length = W := by simp [shT]
theorem shT_at (R : List (List Int)) (W S k t j : Nat) (h : j < (shT R W S k t).length) : (shT R W S k t)[j] = if j < k then full R j S else if j = k then full R j t else [] := by simp [shT]
theorem shT_zero (R : List (List Int)) (W S : Nat) : shT R W S 0 0 = List.replicate W [] := by
  apply List.ext_getElem (by simp [shT])
  intro i h1 h2
  rw [shT_at]
  simp [full]
theorem full_yes {R : List (List Int)} {w t : Nat} (h : col R w t = true) : full R w (t + 1) = full R w t ++ [(t : Int)] := by
  rw [full, List.range_succ, List.filter_append, List.map_append]; simp [h, full]
theorem full_no {R : List (List Int)} {w t : Nat} (h : col R w t = false) : full R w (t + 1) = full R w t := by
  rw [full, List.range_succ, List.filter_append, List.map_append]; simp [h, full]
theorem full_length (R : List (List Int)) (w t : Nat) : (full R w t).length ≤ t := by
  rw [full, List.length_map]
  exact Nat.le_trans (List.length_filter_le _ _) (by simp)
theorem shT_set (R : List (List Int)) (W S k t : Nat) : (shT R W S k t).set k (full R k (t + 1)) = shT R W S k (t + 1) := by
  apply List.ext_getElem (by simp [shT])
  intro i h1 h2
  rw [shT_at, List.getElem_set]
  by_cases e : k = i
  · subst e; simp
  · rw [if_neg e, shT_at]
    by_cases hlt : i < k
    · simp [hlt]
    · simp [hlt, Ne.symm e]
theorem shT_skip {R : List (List Int)} {W S k t : Nat} (h : full R k (t + 1) = full R k t) : shT R W S k (t + 1) = shT R W S k t := by
  apply List.ext_getElem (by simp [shT])
  intro i h1 h2
  rw [shT_at, shT_at]
  by_cases e : i = k
  · subst e; simp [h]
  · simp [e]
theorem shT_next (R : List (List Int)) (W S k : Nat) : shT R W S k S = shT R W S (k + 1) 0 := by
  apply List.ext_getElem (by simp [shT])
  intro i h1 h2
  rw [shT_at, shT_at]
  by_cases hlt : i < k
  · simp [hlt, Nat.lt_succ_of_lt hlt]
  · by_cases e : i = k
    · subst e; simp
    · have h3 : ¬ i < k + 1 := by omega
      simp [hlt, e, h3, full]
def shw (R : List (List Int)) (W S : Nat) : List (List Int) := (List.range W).map (fun w => full R w S)
theorem shT_all (R : List (List Int)) (W S t : Nat) : shT R W S W t = shw R W S := by
  apply List.ext_getElem (by simp [shT, shw])
  intro i h1 h2
  rw [shT_at, shT_length] at *
  simp [shw, h1]
def shwL (W S : Int) (cs : List Cl) : List (List Int) := if cntE W S cs = 0 then shw (readings W.toNat S.toNat cs) W.toNat S.toNat else []
theorem take_any_succ {α : Type} {p : α → Bool} {xs : List α} {q : Nat} (hq : q < xs.length) : (xs.take (q + 1)).any p = ((xs.take q).any p || p xs[q]) := by
  rw [List.take_succ_eq_append_getElem hq, List.any_append]; simp
theorem made_nils (n : Nat) : madeCells #[Value.slice none 0 0] n = Array.replicate n (Value.slice none 0 0) := by
  apply Array.ext (by simp [size_madeCells])
  intro i h1 h2
  rw [size_madeCells] at h1
  simp [madeCells, Nat.mod_one]

set_option maxRecDepth 100000 in
set_option maxHeartbeats 4000000 in
theorem rShows_any (W S : Int) (A : Option Addr) (c : Nat) (cs : List Cl) (w : World) (hx : ClsR w w.heap.size A cs) (hl : cs.length ≤ maxLen) :
    Calls Tryd.prog 38 #[lockV W S, .slice A cs.length c] w fun e w' => ∃ A' c', e = .returned (.tuple #[.slice A' (shwL W S cs).length c', I (cntE W S cs)]) ∧ SlsR w' w'.heap.size A' (shwL W S cs) ∧ (shwL W S cs).length ≤ maxLen ∧ Below w.heap.size w w' := by
  go_enter Tryd.func38, Tryd.ntmps38
  go_wp2_with fail
  obtain ⟨w1, hw1⟩ : ∃ w1, w1 = w.alloc (.cells #[I W, I S] 23) := ⟨_, rfl⟩
  rw [← hw1]
  have l0 : w1.cell? ⟨w.heap.size, 0, none⟩ = some (I W) := by rw [hw1]; exact alloc_cell _ _ _ 0
  have l1 : w1.cell? ⟨w.heap.size, 1, none⟩ = some (I S) := by rw [hw1]; exact alloc_cell _ _ _ 1
  have hb1 : Below w.heap.size w w1 := by rw [hw1]; exact (Below.refl _ _).alloc (Nat.le_refl _) _
  have s1 : w.heap.size < w1.heap.size := by rw [hw1]; simp
  have hx1 := cls_call hb1 hx
  clear hw1 hx
  refine (rCheckClues_any W S A c cs w1 hx1 hl).mono ?_
  rintro e w2 ⟨rfl, hb2⟩
  have l0 := (hb2.cell (p := ⟨w.heap.size, 0, none⟩) s1).trans l0
  have l1 := (hb2.cell (p := ⟨w.heap.size, 1, none⟩) s1).trans l1
  have hx2 := cls_call hb2 hx1
  have s2 : w.heap.size < w2.heap.size := by have := hb2.size; omega
  have hbb2 : Below w.heap.size w w2 := hb1.trans (hb2.mono (by omega))
  clear hb1 hb2 hx1
  by_cases he : cntE W S cs = 0
  · have hb0 : (cntE W S cs != 0) = false := by simp [he]
    obtain ⟨W', S', rfl, rfl, hW, hW4, hS, hS10, hC⟩ := cntE_nat he
    have HE := Lib.hid he
    have HL := Lib.hid (show shwL W' S' cs = shw (readings W' S' cs) W' S' from if_pos he)
    clear he
    go_wp2_with fail
    refine (All_any W' S' hW hW4 hS hS10 A c cs hC w2 hx2 hl).mono ?_
    rintro e w3 ⟨v, rfl, hLs, hb3⟩
    have l0 := (hb3.cell (p := ⟨w.heap.size, 0, none⟩) s2).trans l0
    have l1 := (hb3.cell (p := ⟨w.heap.size, 1, none⟩) s2).trans l1
    have hbb3 : Below w.heap.size w w3 := hbb2.trans (hb3.mono (by omega))
    have s3 : w.heap.size < w3.heap.size := by have := hb3.size; omega
    obtain ⟨A', c', rfl, hs, hm, hc⟩ := hLs.sls
    have hbd := rd_bound hW4 hS10 cs
    have hmem := fun x (h : x ∈ readings W' S' cs) => rd_mem hS hS10 h
    generalize hR : readings W' S' cs = R at *
    have hmk := run_make_row' (P := Tryd.prog) 44 24 (.slice none 0 0) 24 Tryd.underlying44 info_sl rfl .i64 .i64 W' (by omega) (by omega)
    simp only [made_nils] at hmk
    clear hb3 hLs hx2 hR
    go_wp2_with fail
    obtain ⟨w4, hw4⟩ : ∃ w4, w4 = w3.alloc (.cells (Array.replicate W' (.slice none 0 0)) 24) := ⟨_, rfl⟩
    rw [← hw4]
    have hg4 : w4.heap[w3.heap.size]? = some (.cells (Array.replicate W' (.slice none 0 0)) 24 (0, 0)) := by rw [hw4]; exact alloc_obj _ _ _ rfl
    have hb4 : Below w3.heap.size w3 w4 := by rw [hw4]; exact (Below.refl _ _).alloc (Nat.le_refl _) _
    have ht4 := Tbl.new (base := w3.heap.size + 1) hg4
    clear hw4 hg4 hmk
    go_loopw [9] (fun i wr => ∃ k : Nat, k ≤ W' ∧ i = .int .i64 k ∧ Tbl wr (w3.heap.size + 1) w3.heap.size (shT R W' S' k 0) ∧ Below w3.heap.size w3 wr) (fun i _ => W' - (intOf i).toNat)
    case atStart => exact ⟨0, Nat.zero_le _, rfl, by rw [shT_zero]; exact ht4, hb4⟩
    case round =>
      obtain ⟨k, hk, rfl, hT, hB⟩ := hrel
      clear ht4 hb4
      have l0' := (hB.cell (p := ⟨w.heap.size, 0, none⟩) s3).trans l0
      have l1' := (hB.cell (p := ⟨w.heap.size, 1, none⟩) s3).trans l1
      by_cases hlt : k < W'
      · go_wp2_with fail
        obtain ⟨wo, hwo⟩ : ∃ wo : World, wo = wr := ⟨_, rfl⟩
        subst hwo
        clear l0' l1'
        go_loopw [10] (fun i wx => ∃ t : Nat, t ≤ S' ∧ i = .int .i64 t ∧ Tbl wx (w3.heap.size + 1) w3.heap.size (shT R W' S' k t) ∧ Below w3.heap.size w3 wx) (fun i _ => S' - (intOf i).toNat)
        case atStart => exact ⟨0, Nat.zero_le _, rfl, hT, hB⟩
        case round =>
          obtain ⟨t, ht, rfl, hT2, hB2⟩ := hrel
          clear hT hB
          have l0' := (hB2.cell (p := ⟨w.heap.size, 0, none⟩) s3).trans l0
          have l1' := (hB2.cell (p := ⟨w.heap.size, 1, none⟩) s3).trans l1
          have hs2 := hs.below hB2 (Nat.le_refl _)
          by_cases hlt2 : t < S'
          · go_wp2_with fail
            clear l0' l1'
            go_loop [11, 12] (fun s i => ∃ q : Nat, q ≤ R.length ∧ i = .int .i64 q ∧ s = .bool ((R.take q).any (fun r => nth r k == (t : Int)))) (fun _ i => R.length - (intOf i).toNat)
            case atStart => exact ⟨0, Nat.zero_le _, rfl, rfl⟩
            case round =>
              obtain ⟨q, hq, rfl, rfl⟩ := hrel
              by_cases hlt3 : q < R.length
              · have hsn := take_any_succ (p := fun r => nth r k == (t : Int)) hlt3
                obtain ⟨ad, e, hab, hcc⟩ := hs2 (by omega)
                obtain ⟨A2, c2, d1, d2, d3⟩ := hcc q hlt3
                obtain ⟨m1, m2, _, _, _⟩ := hmem R[q] (List.getElem_mem hlt3)
                generalize hx0 : R[q] = x at *
                have HSN := Lib.hid hsn
                have HM := Lib.hid m1
                obtain ⟨ad2, e2, hab2, hc2⟩ := d2.at_ (k := k) (by omega)
                subst e e2
                have hkx : k < x.length := by omega
                clear hx0 hcc hsn hmem d2 d3
                have HKX := Lib.hid hkx
                rw [m1] at d1
                clear hkx m1 m2
                cases hany : (R.take q).any (fun r => nth r k == (t : Int))
                · by_cases hxe : nth x k = (t : Int)
                  · have hb5 : (nth x k == (t : Int)) = true := by simp [hxe]
                    have HN := Lib.hid (show (R.take (q + 1)).any (fun r => nth r k == (t : Int)) = true by rw [HSN.out, hany, hb5]; rfl)
                    clear hxe
                    go_wp2
                    go_round
                    case rel => exact ⟨q + 1, by omega, by go_num, by rw [HN.out]⟩
                    case measure => simp [intOf]; omega
                  · have hb5 : (nth x k == (t : Int)) = false := by simpa using hxe
                    have HN := Lib.hid (show (R.take (q + 1)).any (fun r => nth r k == (t : Int)) = false by rw [HSN.out, hany, hb5]; rfl)
                    clear hxe
                    go_wp2
                    go_round
                    case rel => exact ⟨q + 1, by omega, by go_num, by rw [HN.out]⟩
                    case measure => simp [intOf]; omega
                · have HN := Lib.hid (show (R.take (q + 1)).any (fun r => nth r k == (t : Int)) = true by rw [HSN.out, hany]; rfl)
                  go_wp2
                  go_round
                  case rel => exact ⟨q + 1, by omega, by go_num, by rw [HN.out]⟩
                  case measure => simp [intOf]; omega
              · obtain rfl : q = R.length := by omega
                have hcol : (R.take R.length).any (fun r => nth r k == (t : Int)) = col R k t := by rw [List.take_length]; rfl
                rw [hcol]
                cases hcl : col R k t
                · have HF := Lib.hid (shT_skip (W := W') (S := S') (full_no hcl))
                  clear hcol hcl
                  go_wp2_with fail
                  go_roundw
                  case rel => exact ⟨t + 1, by omega, by go_num, by rw [HF.out]; exact hT2, hB2⟩
                  case measure => simp [intOf]; omega
                · have hfy := full_yes hcl
                  have HF := Lib.hid (shT_set R W' S' k t)
                  have hjl : k < (shT R W' S' k t).length := by rw [shT_length]; exact hlt
                  have hat : (shT R W' S' k t)[k] = full R k t := by rw [shT_at]; simp
                  rw [hfy, ← hat] at HF
                  have hfl : (shT R W' S' k t)[k].length ≤ 10 := by rw [hat]; exact Nat.le_trans (full_length R k t) (by omega)
                  generalize hxs : shT R W' S' k t = xss at *
                  obtain ⟨vs, hv1, hv2, hv3, hv4⟩ := hT2
                  obtain ⟨u, hu, hown⟩ := hv3 k hjl
                  obtain ⟨i0, hi, hz0, hz1, hz2⟩ := info_parts info_int
                  have hsz := hB2.size
                  have hgl : w3.heap.size < wr.heap.size := (Array.getElem?_eq_some_iff.1 hv2).1
                  have cu : wr.cell? ⟨w3.heap.size, k, none⟩ = some u := (cell_of_row wr _ k _ _ _ hv2).trans (by simpa using hu)
                  have hub := hown.lt
                  have HV2 := Lib.hid hv2
                  clear hv2 hcol hcl hfy hat hxs
                  go_wp2_with (at_builtin; refine wpList_append_new rfl _ _ 24 rfl (w3.heap.size + 1) 3 i0 (.int .i64 0) 1 8 Tryd.underlying24 hi hz0 hz1 hz2 rfl (by decide) _ _ _ rfl (hown.alloc _) ⟨wr.heap.size, 0, none⟩ 1 1 [.int .i64 t] rfl rfl ?c1 ?c2 ?c3 ?c4 ?c5 ?c6 ?_)
                  case c2 => rfl
                  case c3 => unfold maxLen; omega
                  case c4 => omega
                  · intro v' w5 hown' hgrow hnew
                    have hown2 : w5.ownsRow (w3.heap.size + 1) 3 1 v' (xss[k] ++ [(t : Int)]).length ((xss[k] ++ [(t : Int)]).map I) := by simpa using hown'
                    obtain ⟨Av, cv, hv, -, -⟩ := own_ints hown2
                    rw [show (xss[k] ++ [(t : Int)]).length = xss[k].length + 1 by simp] at hv
                    subst hv
                    have hrw : w5.heap[w3.heap.size]? = some (.cells vs.toArray 24 (0, 0)) := (hgrow.block _ (by simp; omega) (fun e => by have := (hub _ e.symm).1; omega)).trans ((Below.heap_alloc _ _ _ hgl).trans HV2.out)
                    have e1 : w5.cell? ⟨w3.heap.size, k, none⟩ = some u := (cell_of_row w5 _ k _ _ _ hrw).trans (by simpa using hu)
                    have f1 := frozen_of_row hrw k
                    have hT5 := tbl_step hv1 HV2.out hv3 hv4 (by omega) hjl hu (World.grownBy_alloc _ _ _) hown' hgrow (by rw [World.size_alloc]; exact hnew)
                    rw [HF.out] at hT5
                    have hB5 : Below w3.heap.size w3 (w5.setCell ⟨w3.heap.size, k, none⟩ (.slice Av (xss[k].length + 1) cv)) := (((hB2.alloc (by omega) _).grown hgrow (by simp; omega) (fun b hb => by have := (hub b hb).1; omega))).setCell (p := ⟨w3.heap.size, k, none⟩) (Nat.le_refl _) _
                    clear hown' hown2 hgrow hnew hv3 hv4 hown hub hrw cu
                    go_wp2
                    go_roundw
                    case rel => exact ⟨t + 1, by omega, by go_num, hT5, hB5⟩
                    case measure => simp [intOf]; omega
          · obtain rfl : S' = t := by omega
            go_wp2_with fail
            go_roundw
            case rel => exact ⟨k + 1, by omega, by go_num, by rw [← shT_next]; exact hT2, hB2⟩
            case measure => simp [intOf]; omega
      · obtain rfl : W' = k := by omega
        rw [shT_all] at hT
        go_wp2
        go_ret2
        have hlen : (shw R W' S').length = W' := by simp [shw]
        refine ⟨some ⟨w3.heap.size, 0, none⟩, W', by rw [HL.out, HE.out, hlen]; rfl, by rw [HL.out]; exact hT.sls, by rw [HL.out, hlen]; unfold maxLen; omega, hbb3.trans (hB.mono (by omega))⟩
  · have hb0 : (cntE W S cs != 0) = true := by simpa using he
    have HL := Lib.hid (show shwL W S cs = [] from if_neg he)
    clear he
    go_wp2
    go_ret2
    refine ⟨none, 0, by rw [HL.out]; rfl, by rw [HL.out]; exact fun h => absurd h (Nat.lt_irrefl 0), by rw [HL.out]; exact Nat.zero_le _, hbb2⟩
end Go.Proofs.YtadbkoioipjgmaaDoor

/-
  CONTRACT: readings; Count.
-/
import Derived.Test.YthegmomjfbcabaaDoorRead
import Derived.Deep.CutRange
namespace Go.Proofs.YthegmomjfbcabaaDoor
open Go.RowKit Go.Shelf
attribute [local go_sem] Oper.semAt_some
theorem readings_any (W S : Int) (A : Option Addr) (n c : Nat) (w : World) :
    Calls Tryd.prog 76 #[lockV W S, .slice A n c] w fun e w' => e = .returned (.func (.func 109) #[] #[.pointer (some ⟨w.heap.size, 0, none⟩), .pointer (some ⟨w.heap.size + 1, 0, none⟩)]) ∧
      w' = (w.alloc (.cells #[I W, I S] 78)).alloc (.cells #[.slice A n c] 38) := by
  go_enter Tryd.func76, Tryd.ntmps76
  go_wp2
  go_ret
  exact ⟨rfl, rfl⟩
theorem lockOk_nat {W S : Int} (h : lockOk W S = true) : ∃ W' S' : Nat, W = W' ∧ S = S' ∧ 1 ≤ W' ∧ W' ≤ 4 ∧ 2 ≤ S' ∧ S' ≤ 10 := by
  have := lockOk_facts h
  exact ⟨W.toNat, S.toNat, by omega, by omega, by omega, by omega, by omega, by omega⟩
def cntE (W S : Int) (cs : List Cl) : Int := fstErr [lockErr W S, cluesErr W S 20 cs]
def cntN (W S : Int) (cs : List Cl) : Int := if cntE W S cs = 0 then (readings W.toNat S.toNat cs).length else 0

set_option maxRecDepth 100000 in
set_option maxHeartbeats 2000000 in
theorem Count_any (W S : Int) (A : Option Addr) (c : Nat) (cs : List Cl) (w : World) (hT : Tab w) (hx : ClsR w w.heap.size A cs) (hl : cs.length ≤ maxLen) :
    Calls Tryd.prog 32 #[lockV W S, .slice A cs.length c] w fun e w' => e = .returned (.tuple #[I (cntN W S cs), I (cntE W S cs)]) ∧ Below w.heap.size w w' := by
  refine (callsIn_wide (n := 20)).1 (callsIn_of_wp_marks Tryd.func32 rfl trivial ?_ rfl)
  rw [wpIn_wide]
  simp only [Tryd.ntmps32, List.size_toArray, List.length_cons, List.length_nil, Nat.reduceAdd, Nat.reduceSub, Array.replicate_succ, Array.replicate_zero, List.push_toArray, List.append_toArray, List.nil_append, List.cons_append]
  go_upto_region 2 with fail
  obtain ⟨w1, hw1⟩ : ∃ w1, w1 = (w.alloc (.cells #[I W, I S] 23)).alloc (.cells #[I W, I S] 78) := ⟨_, rfl⟩
  rw [← hw1]
  have l0 : w1.cell? ⟨w.heap.size + 1, 0, none⟩ = some (I W) := by rw [hw1]; exact alloc_cell' _ _ _ _ 0 (by simp)
  have l1 : w1.cell? ⟨w.heap.size + 1, 1, none⟩ = some (I S) := by rw [hw1]; exact alloc_cell' _ _ _ _ 1 (by simp)
  have hb1 : Below w.heap.size w w1 := by rw [hw1]; exact ((Below.refl _ _).alloc (Nat.le_refl _) _).alloc (by simp) _
  have s1 : w.heap.size + 1 < w1.heap.size := by rw [hw1]; simp
  have hx1 := cls_call hb1 hx
  have hT1 := hT.below hb1
  clear hw1
  go_cut [7] from 9 to 26 (fun s7 wx => s7 = I (cntE W S cs) ∧ KeptS w1 wx)
  case first =>
    go_region_held3 (fun w' => Below w1.heap.size w1 w' ∧ (∀ b o, b < w1.heap.size → w'.cell? ⟨b, o, none⟩ = w1.cell? ⟨b, o, none⟩))
      (first | exact keptS_drew _ | exact keptS_call (by assumption) hb | exact keptS_alloc (by assumption) _ | assumption)
      (first
        | (go_at_call 61; refine (lockCheck_any _ _ _).mono ?_; rintro e w' ⟨rfl, hb⟩)
        | (go_at_call 73; go_must (refine (checkClues_any _ _ _ _ _ cs _ ?_ ?_ hl).mono ?_); go_must (exact hT1.below (And.left (by assumption : KeptS w1 _))); go_must (exact cls_call (And.left (by assumption : KeptS w1 _)) hx1); rintro e w' ⟨rfl, hb⟩)
        | (go_at_call 63; go_must (refine (first_any _ _ [lockErr W S, cluesErr W S 20 cs] _ ?_ ?_).mono ?_); go_must (exact ints_new _ [lockErr W S, cluesErr W S 20 cs] _); go_must (simp [maxLen]); rintro e w' ⟨rfl, rfl⟩))
    all_goals
      go_wp2_with fail
      go_meet
      exact ⟨rfl, by assumption⟩
  case rest =>
    obtain ⟨rfl, hk⟩ := hcut
    have c0 : wc.cell? ⟨w.heap.size + 1, 0, none⟩ = some (I W) := (hk.2 _ _ s1).trans l0
    have c1 : wc.cell? ⟨w.heap.size + 1, 1, none⟩ = some (I S) := (hk.2 _ _ s1).trans l1
    have hkb := hk.1
    have hx2 := cls_call hkb hx1
    have hbc : Below w.heap.size w wc := hb1.trans (hkb.mono (by omega))
    have s2 : w.heap.size + 1 < wc.heap.size := by have := hkb.size; omega
    clear hk hkb l0 l1 hx1 hT1
    by_cases he : cntE W S cs = 0
    · have hb0 : (cntE W S cs != 0) = false := by simp [he]
      obtain ⟨he1, he2⟩ := fst2_zero.1 he
      obtain ⟨W', S', rfl, rfl, hW, hW4, hS, hS10⟩ := lockOk_nat (lockErr_zero.1 he1)
      have hC : cluesB W' S' cs = true := by
        unfold cluesErr errIf at he2
        split at he2
        · simp at he2
        · cases h : cluesB W' S' cs
          · rw [h] at he2; simp at he2
          · rfl
      have hE := Lib.hid he
      have hN := Lib.hid (show cntN W' S' cs = (readings W' S' cs).length from if_pos he)
      clear he he1 he2
      go_wp2_with fail
      refine (readings_any _ _ _ _ _ _).mono ?_
      rintro e w' ⟨rfl, rfl⟩
      go_wp2_with fail
      obtain ⟨w2, hw2⟩ : ∃ w2, w2 = (((wc.alloc (.cells #[I 0] 3)).alloc (.cells #[I W', I S'] 78)).alloc (.cells #[.slice A cs.length c] 38)) := ⟨_, rfl⟩
      rw [← hw2]
      have hc2 : Below wc.heap.size wc w2 := by rw [hw2]; exact (((Below.refl _ _).alloc (Nat.le_refl _) _).alloc (by simp) _).alloc (by simp; omega) _
      have hs2 : w2.heap.size = wc.heap.size + 3 := by rw [hw2]; simp
      have hn2 : w2.heap[wc.heap.size]? = some (.cells #[I ((0 : Nat) : Int)] 3 (0, 0)) := by
        rw [hw2]; exact (Below.heap_alloc _ _ _ (by simp; omega)).trans ((Below.heap_alloc _ _ _ (by simp)).trans (alloc_obj _ _ _ rfl))
      have hl2 : w2.heap[wc.heap.size + 1]? = some (.cells #[I W', I S'] 78 (0, 0)) := by
        rw [hw2]; exact (Below.heap_alloc _ _ _ (by simp)).trans (alloc_obj _ _ _ (by simp))
      have hd2 : w2.heap[wc.heap.size + 1 + 1]? = some (.cells #[.slice A cs.length c] 38 (0, 0)) := by
        rw [hw2]; exact alloc_obj _ _ _ (by simp)
      have hbd2 : Below w.heap.size w w2 := hbc.trans (hc2.mono (by omega))
      have hg0 : w2.cell? ⟨wc.heap.size + 1, 0, none⟩ = some (I W') := cell_of_row w2 _ 0 _ _ _ hl2
      have hg1 : w2.cell? ⟨wc.heap.size + 1, 1, none⟩ = some (I S') := cell_of_row w2 _ 1 _ _ _ hl2
      have hg2 : w2.cell? ⟨wc.heap.size + 1 + 1, 0, none⟩ = some (.slice A cs.length c) := cell_of_row w2 _ 0 _ _ _ hd2
      have hx3 := hx2.below hc2 (Nat.le_refl _)
      clear hw2 c0 c1
      have hmax : (readings W' S' cs).length ≤ 10000 := by
        refine Nat.le_trans (List.length_filter_le _ _) ?_
        rw [allCodes_length]
        exact Nat.le_trans (Nat.pow_le_pow_left hS10 W') (Nat.pow_le_pow_right (by omega) hW4)
      refine wpIn_wide.1 (wpIn_loop (n := 20) rfl (by omega) (gf := 109) (fa := #[]) (lb := #[.pointer (some ⟨wc.heap.size + 1, 0, none⟩), .pointer (some ⟨wc.heap.size + 1 + 1, 0, none⟩)]) rfl trivial (enters_of Tryd.func109 (by kernel_rfl) rfl) (enc := rowV) (xs := readings W' S' cs)
        (fun V hV hG => readings_iter W' S' hW hW4 hS hS10 cs hC hl A c (wc.heap.size + 1) (wc.heap.size + 1 + 1) _ (by omega) w2.heap.size wc.heap.size (by omega) V hV.size (by omega) (by omega)) rfl
        (fun k V => V.heap[wc.heap.size]? = some (.cells #[I (k : Int)] 3 (0, 0)) ∧ (V.cell? ⟨wc.heap.size + 1, 0, none⟩ = some (I W') ∧ V.cell? ⟨wc.heap.size + 1, 1, none⟩ = some (I S') ∧ V.cell? ⟨wc.heap.size + 1 + 1, 0, none⟩ = some (.slice A cs.length c) ∧ ClsR V wc.heap.size A cs ∧ w2.heap.size ≤ V.heap.size) ∧ Below w.heap.size w V)
        (fun _ _ _ => False)
        ?closed (fun _ _ _ _ h _ => h.elim) (fun _ _ h => h.2.1) ⟨hn2, ⟨hg0, hg1, hg2, hx3, Nat.le_refl _⟩, hbd2⟩ ?round ?done (fun _ _ _ _ _ h _ => h.elim))
      case closed =>
        rintro k X Y ⟨h1, ⟨h2, h3, h4, h5, h6⟩, h7⟩ hb
        exact ⟨(hb.block _ (by omega)).trans h1, ⟨(hb.cell (p := ⟨wc.heap.size + 1, 0, none⟩) (by show wc.heap.size + 1 < _; omega)).trans h2, (hb.cell (p := ⟨wc.heap.size + 1, 1, none⟩) (by show wc.heap.size + 1 < _; omega)).trans h3,
          (hb.cell (p := ⟨wc.heap.size + 1 + 1, 0, none⟩) (by show wc.heap.size + 1 + 1 < _; omega)).trans h4, h5.below hb (by omega), Nat.le_trans h6 hb.size⟩, h7.trans (hb.mono (by omega))⟩
      case round =>
        rintro l k hk X hl1 hl2 ⟨h1, ⟨h2, h3, h4, h5, h6⟩, h7⟩
        clear hg0 hg1 hg2
        gi_wp2
        refine ⟨Below.refl _ _, fun o => ?_⟩
        obtain ⟨Y, hYd⟩ : ∃ Y, Y = X.putObj l o := ⟨_, rfl⟩
        rw [← hYd]
        have hXY : Below w2.heap.size X Y := by rw [hYd]; exact below_putObj _ _ hl1
        have hbY : Below w.heap.size w Y := h7.trans (hXY.mono (by omega))
        have y1 := (hXY.block _ (by omega)).trans h1
        have y2 := (hXY.cell (p := ⟨wc.heap.size + 1, 0, none⟩) (by show wc.heap.size + 1 < _; omega)).trans h2
        have y3 := (hXY.cell (p := ⟨wc.heap.size + 1, 1, none⟩) (by show wc.heap.size + 1 < _; omega)).trans h3
        have y4 := (hXY.cell (p := ⟨wc.heap.size + 1 + 1, 0, none⟩) (by show wc.heap.size + 1 + 1 < _; omega)).trans h4
        have y5 := h5.below hXY (by omega)
        have y6 := Nat.le_trans h6 hXY.size
        clear hYd h1 h2 h3 h4
        have n0 : Y.cell? ⟨wc.heap.size, 0, none⟩ = some (I (k : Int)) := cell_of_row Y _ 0 _ _ _ y1
        have nf : Y.frozen? ⟨wc.heap.size, 0, none⟩ = false := frozen_of_row y1 0
        have hkw : wrap64 ((k : Int) + 1) = (k : Int) + 1 := IntWalk.wrap64_in _ ⟨by omega, by omega⟩
        have HY := Lib.hid y1
        have H2 := Lib.hid y2
        have H3 := Lib.hid y3
        have H4 := Lib.hid y4
        clear y1 y2 y3 y4
        gi_wp2
        have hcell : ∀ b i, b ≠ wc.heap.size → ∀ v, (Y.setCell ⟨wc.heap.size, 0, none⟩ v).cell? ⟨b, i, none⟩ = Y.cell? ⟨b, i, none⟩ := fun b i hb v => World.cell?_of_block (w := Y) (Below.heap_setCell _ _ _ _ (by show b ≠ wc.heap.size; exact hb))
        refine ⟨.setCell _ (by show wc.heap.size < _; omega) _, ?_, ⟨(hcell _ _ (by omega) _).trans H2.out, (hcell _ _ (by omega) _).trans H3.out, (hcell _ _ (by omega) _).trans H4.out, y5.below ((Below.refl _ _).setCell (p := ⟨wc.heap.size, 0, none⟩) (Nat.le_refl _) _) (Nat.le_refl _), by simpa [World.setCell] using y6⟩, hbY.setCell (p := ⟨wc.heap.size, 0, none⟩) (by show w.heap.size ≤ wc.heap.size; omega) _⟩
        exact (row_set HY.out 0 _)
      case done =>
        rintro X ⟨h1, _, h7⟩ hK
        have n0 : X.cell? ⟨wc.heap.size, 0, none⟩ = some (I ((readings W' S' cs).length : Int)) := cell_of_row X _ 0 _ _ _ h1
        have h1' := Lib.hid h1
        clear h1 hg0 hg1 hg2
        go_wp2
        refine ⟨by simp, .inl ⟨_, _, rfl, run_takeDeferred hK, ?_⟩⟩
        refine ⟨_, results_tmp2 rfl _ _ _, ?_, h7.trans (below_putObj _ _ (by have := hbc.size; omega))⟩
        rw [hN.out, hE.out]; rfl
    · have hb0 : (cntE W S cs != 0) = true := by simpa using he
      have hN := Lib.hid (show cntN W S cs = 0 from if_neg he)
      have hE := Lib.hid he
      clear he
      go_wp2
      refine ⟨_, results_tmp2 rfl _ _ _, ?_, hbc⟩
      rw [hN.out]; rfl
end Go.Proofs.YthegmomjfbcabaaDoor

/-
  CONTRACT: codes.Implies.
-/
import Derived.Test.YthegmomjfbcabaaDoorCode
import Derived.Test.YthegmomjfbcabaaDoorRefC
import Derived.Test.YthegmomjfbcabaaDoorChk
import Derived.Test.YthegmomjfbcabaaDoorLoopD
namespace Go.Proofs.YthegmomjfbcabaaDoor
open Go.RowKit Go.Shelf
attribute [local go_sem] Oper.semAt_some

theorem six_boxes (w : World) (a b c d e f : Obj) : ∃ W, W = (((((w.alloc a).alloc b).alloc c).alloc d).alloc e).alloc f ∧ W.heap.size = w.heap.size + 6 ∧ W.heap[w.heap.size]? = some a ∧ W.heap[w.heap.size + 1]? = some b ∧ W.heap[w.heap.size + 1 + 1]? = some c ∧
    W.heap[w.heap.size + 1 + 1 + 1]? = some d ∧ W.heap[w.heap.size + 1 + 1 + 1 + 1]? = some e ∧ W.heap[w.heap.size + 1 + 1 + 1 + 1 + 1]? = some f ∧ Below w.heap.size w W := by
  refine ⟨_, rfl, by simp, ?_, ?_, ?_, ?_, ?_, alloc_obj _ _ _ (by simp <;> omega), ?_⟩
  · exact (Below.heap_alloc _ _ _ (by simp <;> omega)).trans ((Below.heap_alloc _ _ _ (by simp <;> omega)).trans ((Below.heap_alloc _ _ _ (by simp <;> omega)).trans ((Below.heap_alloc _ _ _ (by simp <;> omega)).trans ((Below.heap_alloc _ _ _ (by simp <;> omega)).trans (alloc_obj _ _ _ rfl)))))
  · exact (Below.heap_alloc _ _ _ (by simp <;> omega)).trans ((Below.heap_alloc _ _ _ (by simp <;> omega)).trans ((Below.heap_alloc _ _ _ (by simp <;> omega)).trans ((Below.heap_alloc _ _ _ (by simp <;> omega)).trans (alloc_obj _ _ _ (by simp <;> omega)))))
  · exact (Below.heap_alloc _ _ _ (by simp <;> omega)).trans ((Below.heap_alloc _ _ _ (by simp <;> omega)).trans ((Below.heap_alloc _ _ _ (by simp <;> omega)).trans (alloc_obj _ _ _ (by simp <;> omega))))
  · exact (Below.heap_alloc _ _ _ (by simp <;> omega)).trans ((Below.heap_alloc _ _ _ (by simp <;> omega)).trans (alloc_obj _ _ _ (by simp <;> omega)))
  · exact (Below.heap_alloc _ _ _ (by simp <;> omega)).trans (alloc_obj _ _ _ (by simp <;> omega))
  · exact (((((Below.refl _ _).alloc (Nat.le_refl _) _).alloc (by simp <;> omega) _).alloc (by simp <;> omega) _).alloc (by simp <;> omega) _).alloc (by simp <;> omega) _ |>.alloc (by simp <;> omega) _
/-- three results stored -/
theorem store3 {W : World} {g1 g2 g3 : Nat} {t1 t2 t3 : TypeId} {x1 x2 x3 : Value} (v1 v2 v3 : Value) (h1 : W.heap[g1]? = some (.cells #[x1] t1 (0, 0))) (h2 : W.heap[g2]? = some (.cells #[x2] t2 (0, 0))) (h3 : W.heap[g3]? = some (.cells #[x3] t3 (0, 0)))
    (n12 : g1 ≠ g2) (n13 : g1 ≠ g3) (n23 : g2 ≠ g3) : ∃ W', W' = ((W.setCell ⟨g1, 0, none⟩ v1).setCell ⟨g2, 0, none⟩ v2).setCell ⟨g3, 0, none⟩ v3 ∧ W'.heap[g1]? = some (.cells #[v1] t1 (0, 0)) ∧ W'.heap[g2]? = some (.cells #[v2] t2 (0, 0)) ∧ W'.heap[g3]? = some (.cells #[v3] t3 (0, 0)) ∧
      W'.heap.size = W.heap.size ∧ (∀ b, b ≠ g1 → b ≠ g2 → b ≠ g3 → W'.heap[b]? = W.heap[b]?) ∧ ∀ B, B ≤ g1 → B ≤ g2 → B ≤ g3 → Below B W W' := by
  refine ⟨_, rfl, ?_, ?_, ?_, by simp [World.setCell], fun b e1 e2 e3 => ?_, fun B e1 e2 e3 => (((Below.refl _ _).setCell (p := ⟨g1, 0, none⟩) e1 _).setCell (p := ⟨g2, 0, none⟩) e2 _).setCell (p := ⟨g3, 0, none⟩) e3 _⟩
  · exact (Below.heap_setCell _ _ _ _ n13).trans ((Below.heap_setCell _ _ _ _ n12).trans (row_set h1 0 v1))
  · exact (Below.heap_setCell _ _ _ _ n23).trans (row_set (w := W.setCell ⟨g1, 0, none⟩ v1) (g := g2) (cs := #[x2]) (t := t2) ((Below.heap_setCell _ _ _ _ (Ne.symm n12)).trans h2) 0 v2)
  · exact row_set (w := (W.setCell ⟨g1, 0, none⟩ v1).setCell ⟨g2, 0, none⟩ v2) (g := g3) (cs := #[x3]) (t := t3) ((Below.heap_setCell _ _ _ _ (Ne.symm n23)).trans ((Below.heap_setCell _ _ _ _ (Ne.symm n13)).trans h3)) 0 v3
  · exact (Below.heap_setCell _ _ _ _ e3).trans ((Below.heap_setCell _ _ _ _ e2).trans (Below.heap_setCell _ _ _ _ e1))
theorem own_keepD {w w' : World} {lo hi s n : Nat} {e : TypeId} {v : Value} {xs : List Value} (h : w.ownsRow hi e s v n xs) (hb : BelowD lo hi w w') : w'.ownsRow hi e s v n xs := by
  refine ⟨h.1, ?_⟩
  rcases h.2 with h0 | ⟨g, cap, cur, h1, h2, h3, h4⟩
  · exact .inl h0
  · exact .inr ⟨g, cap, cur, h1, h2, (hb.high g h2 (Array.getElem?_eq_some_iff.1 h3).1).trans h3, h4⟩

set_option maxRecDepth 100000 in
set_option maxHeartbeats 4000000 in
theorem Implies_any (W S : Int) (A : Option Addr) (c : Nat) (cs : List Cl) (cl : Cl) (Ag : Option Addr) (cap : Nat) (w : World) (hT : Tab w) (hx : ClsR w w.heap.size A cs) (hl : cs.length ≤ maxLen) (hg : IntsR w w.heap.size Ag cl.guess) (lg : cl.guess.length ≤ maxLen) :
    Calls Tryd.prog 39 #[lockV W S, .slice A cs.length c, clV cl Ag cap] w fun e w' => ∃ A' c', e = .returned (.tuple #[.slice A' (impR W S cs cl).length c', .bool (impB W S cs cl), I (impE W S cs cl)]) ∧ IntsR w' w'.heap.size A' (impR W S cs cl) ∧ (impR W S cs cl).length ≤ maxLen ∧ Below w.heap.size w w' := by
  obtain ⟨k, a, b, n, m, g, ng⟩ := cl
  refine (callsIn_wide (n := 20)).1 (callsIn_of_wp_marks Tryd.func39 rfl trivial ?_ rfl)
  rw [wpIn_wide]
  simp only [Tryd.ntmps39, List.size_toArray, List.length_cons, List.length_nil, Nat.reduceAdd, Nat.reduceSub, Array.replicate_succ, Array.replicate_zero, List.push_toArray, List.append_toArray, List.nil_append, List.cons_append]
  go_upto_region 2 with fail
  obtain ⟨w1, hw1, z1, y0, y1, y2, y3, y4, y5, hb1⟩ := six_boxes w (.cells #[I W, I S] 23) (.cells #[I k, I a, I b, I n, I m, .slice Ag g.length cap, .bool ng] 26) (.cells #[.slice none 0 0] 24) (.cells #[.bool false] 4) (.cells #[I 0] 27) (.cells #[I W, I S] 78)
  rw [← hw1]
  have l0 : w1.cell? ⟨w.heap.size + 1 + 1 + 1 + 1 + 1, 0, none⟩ = some (I W) := cell_of_row w1 _ 0 _ _ _ y5
  have l1 : w1.cell? ⟨w.heap.size + 1 + 1 + 1 + 1 + 1, 1, none⟩ = some (I S) := cell_of_row w1 _ 1 _ _ _ y5
  have q0 : w1.cell? ⟨w.heap.size + 1, 0, none⟩ = some (I k) := cell_of_row w1 _ 0 _ _ _ y1
  have q1 : w1.cell? ⟨w.heap.size + 1, 1, none⟩ = some (I a) := cell_of_row w1 _ 1 _ _ _ y1
  have q2 : w1.cell? ⟨w.heap.size + 1, 2, none⟩ = some (I b) := cell_of_row w1 _ 2 _ _ _ y1
  have q3 : w1.cell? ⟨w.heap.size + 1, 3, none⟩ = some (I n) := cell_of_row w1 _ 3 _ _ _ y1
  have q4 : w1.cell? ⟨w.heap.size + 1, 4, none⟩ = some (I m) := cell_of_row w1 _ 4 _ _ _ y1
  have q5 : w1.cell? ⟨w.heap.size + 1, 5, none⟩ = some (.slice Ag g.length cap) := cell_of_row w1 _ 5 _ _ _ y1
  have q6 : w1.cell? ⟨w.heap.size + 1, 6, none⟩ = some (.bool ng) := cell_of_row w1 _ 6 _ _ _ y1
  have s0 : w.heap.size + 1 + 1 + 1 + 1 + 1 < w1.heap.size := by omega
  have s1 : w.heap.size + 1 < w1.heap.size := by omega
  have hg1 := ints_call hb1 hg
  have hx1 := cls_call hb1 hx
  have hT1 := hT.below hb1
  have Y1 := Lib.hid y1
  have Y2 := Lib.hid y2
  have Y3 := Lib.hid y3
  have Y4 := Lib.hid y4
  have Y5 := Lib.hid y5
  have Z1 := Lib.hid z1
  clear hw1 hg hx hT y0 y1 y2 y3 y4 y5 z1
  go_cut [10] from 12 to 37 (fun s10 wx => s10 = I (impE W S cs ⟨k, a, b, n, m, g, ng⟩) ∧ KeptS w1 wx)
  case first =>
    go_region_held3 (fun w' => Below w1.heap.size w1 w' ∧ (∀ b o, b < w1.heap.size → w'.cell? ⟨b, o, none⟩ = w1.cell? ⟨b, o, none⟩))
      (first | exact keptS_drew _ | exact keptS_call (by assumption) hb | exact keptS_alloc (by assumption) _ | assumption)
      (first
        | (go_at_call 61; refine (lockCheck_any _ _ _).mono ?_; rintro e w' ⟨rfl, hb⟩)
        | (go_at_call 73; go_must (refine (checkClues_any _ _ _ _ _ cs _ ?_ ?_ hl).mono ?_); go_must (exact hT1.below (And.left (by assumption : KeptS w1 _))); go_must (exact cls_call (And.left (by assumption : KeptS w1 _)) hx1); rintro e w' ⟨rfl, hb⟩)
        | (go_at_call 64; go_must (refine (checkClue_any _ _ ⟨k, a, b, n, m, g, ng⟩ Ag cap _ ?_ ?_ lg).mono ?_); go_must (exact hT1.below (And.left (by assumption : KeptS w1 _))); go_must (exact kept_ints (by assumption) hg1); rintro e w' ⟨rfl, hb⟩)
        | (go_at_call 63; go_must (refine (first_any _ _ [lockErr W S, cluesErr W S 20 cs, clueErr W S ⟨k, a, b, n, m, g, ng⟩] _ ?_ ?_).mono ?_); go_must (exact ints_new _ [lockErr W S, cluesErr W S 20 cs, clueErr W S ⟨k, a, b, n, m, g, ng⟩] _); go_must (simp [maxLen]); rintro e w' ⟨rfl, rfl⟩))
    all_goals
      go_wp2_with fail
      go_meet
      exact ⟨rfl, by assumption⟩
  case rest =>
    obtain ⟨rfl, hk⟩ := hcut
    have hkb := hk.1
    have hg2 := kept_ints hk hg1
    have hx2 := cls_call hkb hx1
    have hbc : Below w.heap.size w wc := hb1.trans (hkb.mono (by omega))
    have t0 : w.heap.size + 1 + 1 + 1 + 1 + 1 < wc.heap.size := by have := hkb.size; omega
    have y1 := (hkb.block _ (by omega)).trans Y1.out
    have y2 := (hkb.block _ (by omega)).trans Y2.out
    have y3 := (hkb.block _ (by omega)).trans Y3.out
    have y4 := (hkb.block _ (by omega)).trans Y4.out
    have y5 := (hkb.block _ (by omega)).trans Y5.out
    clear hk hkb hg1 hx1 hT1 l0 l1 q0 q1 q2 q3 q4 q5 q6 Y1 Y2 Y3 Y4 Y5 Z1 s0 s1
    have Y1 := Lib.hid y1
    have Y2 := Lib.hid y2
    have Y3 := Lib.hid y3
    have Y4 := Lib.hid y4
    have Y5 := Lib.hid y5
    clear y1 y2 y3 y4 y5
    by_cases he : impE W S cs ⟨k, a, b, n, m, g, ng⟩ = 0
    · have hb0 : (impE W S cs ⟨k, a, b, n, m, g, ng⟩ != 0) = false := by simp [he]
      have hE0 := he
      rw [impE_eq] at hE0
      have hcE : cntE W S cs = 0 := by
        by_cases h : cntE W S cs = 0
        · exact h
        · rw [if_neg h] at hE0; exact absurd hE0 h
      have hcl : clueB W S ⟨k, a, b, n, m, g, ng⟩ = true := by
        rw [if_pos hcE] at hE0
        cases h : clueB W S ⟨k, a, b, n, m, g, ng⟩
        · rw [h] at hE0; simp at hE0
        · rfl
      obtain ⟨hL0, -⟩ := cntE_facts hcE
      obtain ⟨W', S', rfl, rfl, hW, hW4, hS, hS10, hC⟩ := cntE_nat hcE
      have HE := Lib.hid he
      have HR := Lib.hid (show impR W' S' cs ⟨k, a, b, n, m, g, ng⟩ = ((readings W' S' cs).find? (fun r => !holdB W' ⟨k, a, b, n, m, g, ng⟩ r)).getD [] from if_pos he)
      have HB := Lib.hid (show impB W' S' cs ⟨k, a, b, n, m, g, ng⟩ = ((readings W' S' cs).find? (fun r => !holdB W' ⟨k, a, b, n, m, g, ng⟩ r)).isNone by rw [impB, he]; rfl)
      have HLK := Lib.hid hL0
      have HCL := Lib.hid hcl
      clear he hE0 hcE hcl hL0
      have l0 : wc.cell? ⟨w.heap.size + 1 + 1 + 1 + 1 + 1, 0, none⟩ = some (I W') := cell_of_row wc _ 0 _ _ _ Y5.out
      have l1 : wc.cell? ⟨w.heap.size + 1 + 1 + 1 + 1 + 1, 1, none⟩ = some (I S') := cell_of_row wc _ 1 _ _ _ Y5.out
      go_wp2_with fail
      refine (readings_any _ _ _ _ _ _).mono ?_
      rintro e w' ⟨rfl, rfl⟩
      go_wp2_with fail
      obtain ⟨w2, hw2⟩ : ∃ w2, w2 = ((wc.alloc (.cells #[I W', I S'] 78)).alloc (.cells #[.slice A cs.length c] 38)) := ⟨_, rfl⟩
      rw [← hw2]
      have hc2 : Below wc.heap.size wc w2 := by rw [hw2]; exact two_boxes _ _ _
      have hs2 : w2.heap.size = wc.heap.size + 2 := by rw [hw2]; simp
      have hl2 : w2.heap[wc.heap.size]? = some (.cells #[I W', I S'] 78 (0, 0)) := by
        rw [hw2]; exact (Below.heap_alloc _ _ _ (by simp)).trans (alloc_obj _ _ _ rfl)
      have hd2 : w2.heap[wc.heap.size + 1]? = some (.cells #[.slice A cs.length c] 38 (0, 0)) := by
        rw [hw2]; exact alloc_obj _ _ _ (by simp)
      have hbd2 : Below w.heap.size w w2 := hbc.trans (hc2.mono (by omega))
      have y1 := (hc2.block _ (by omega)).trans Y1.out
      have y2 := (hc2.block _ (by omega)).trans Y2.out
      have y3 := (hc2.block _ (by omega)).trans Y3.out
      have y4 := (hc2.block _ (by omega)).trans Y4.out
      have y5 := (hc2.block _ (by omega)).trans Y5.out
      have Y1 := Lib.hid y1
      have Y2 := Lib.hid y2
      have Y3 := Lib.hid y3
      have Y4 := Lib.hid y4
      have Y5 := Lib.hid y5
      have LR := Lib.hid hl2
      have DR := Lib.hid hd2
      have hx3 := hx2.below hc2 (Nat.le_refl _)
      have hg3 := hg2.below hc2 (Nat.le_refl _)
      have t0 : w.heap.size + 1 + 1 + 1 + 1 + 1 < w2.heap.size := by omega
      clear hw2 l0 l1 y1 y2 y3 y4 y5 hl2 hd2 hx2 hg2
      have hmem := fun x (h : x ∈ readings W' S' cs) => rd_mem hS hS10 h
      refine wpIn_wide.1 (wpIn_loopD (n := 20) rfl (by omega) (gf := 109) (fa := #[]) (lb := #[.pointer (some ⟨wc.heap.size, 0, none⟩), .pointer (some ⟨wc.heap.size + 1, 0, none⟩)]) rfl trivial (enters_of Tryd.func109 (by kernel_rfl) rfl) (enc := rowV) (xs := readings W' S' cs) 5
        (fun V hV hG _ => readings_iterD W' S' hW hW4 hS hS10 cs hC hl A c wc.heap.size (wc.heap.size + 1) _ (by omega) w2.heap.size wc.heap.size (by omega) V hV.size (by omega) (by omega)) rfl
        (fun j V => Hid (((readings W' S' cs).take j).all (holdB W' ⟨k, a, b, n, m, g, ng⟩) = true) ∧ Below w2.heap.size w2 V)
        (fun cd _ V => cd = .ret ∧ ∃ x v, Hid ((readings W' S' cs).find? (fun r => !holdB W' ⟨k, a, b, n, m, g, ng⟩ r) = some x) ∧ V.ownsRow (w2.heap.size + 7) 3 1 v x.length (x.map I) ∧ V.heap[w.heap.size + 1 + 1]? = some (.cells #[v] 24 (0, 0)) ∧ V.heap[w.heap.size + 1 + 1 + 1]? = some (.cells #[.bool false] 4 (0, 0)) ∧ V.heap[w.heap.size + 1 + 1 + 1 + 1]? = some (.cells #[I 0] 27 (0, 0)) ∧ Below w.heap.size w V)
        ?closed ?closedx ?toG ⟨Lib.hid rfl, Below.refl _ _⟩ ?round ?done ?stop)
      case closed => exact fun j X Y h hb => ⟨h.1, h.2.trans hb.low⟩
      case closedx =>
        rintro cd j X Y ⟨e, x, v, h1, h2, h3, h4, h5, h6⟩ hb
        exact ⟨e, x, v, h1, own_keepD h2 hb, (hb.low.block _ (by omega)).trans h3, (hb.low.block _ (by omega)).trans h4, (hb.low.block _ (by omega)).trans h5, h6.trans (hb.low.mono (by omega))⟩
      case toG =>
        rintro j X ⟨-, h⟩
        have c0 := (h.block _ (by omega)).trans LR.out
        have c1 := (h.block _ (by omega)).trans DR.out
        exact ⟨cell_of_row X _ 0 _ _ _ c0, cell_of_row X _ 1 _ _ _ c0, cell_of_row X _ 0 _ _ _ c1, hx3.below h (by omega), h.size⟩
      case round =>
        rintro l j hj X hl1 hl2 hl3 ⟨HA, hX⟩
        obtain ⟨m1, m2, _, _, _⟩ := hmem _ (List.getElem_mem hj)
        have hfh := fun h0 => find_hit (p := fun r => !holdB W' ⟨k, a, b, n, m, g, ng⟩ r) hj h0
        have hsn := fun hp => all_take_snocL (holdB W' ⟨k, a, b, n, m, g, ng⟩) (readings W' S' cs) j hj HA.out hp
        generalize hx0 : (readings W' S' cs)[j] = x at *
        have HFH := Lib.hid hfh
        have HSN := Lib.hid hsn
        have HM1 := Lib.hid m1
        have HM2 := Lib.hid m2
        clear hx0 hfh hsn m1 m2 hmem
        gi_wp2
        refine ⟨(Below.refl _ _).alloc (Nat.le_refl _) _, fun o => ?_⟩
        obtain ⟨Y, hYd⟩ : ∃ Y, Y = (X.alloc (.cells #[I (nth x 0), I (nth x 1), I (nth x 2), I (nth x 3)] 87)).putObj l o := ⟨_, rfl⟩
        rw [← hYd]
        have hXY : Below w2.heap.size X Y := by
          rw [hYd]; exact ((Below.refl _ _).alloc (by omega) _).trans (below_putObj _ _ hl1)
        have hrY : Y.heap[X.heap.size]? = some (.cells #[I (nth x 0), I (nth x 1), I (nth x 2), I (nth x 3)] 87 (0, 0)) := by
          rw [hYd]; exact (World.putObj_heap_other (by omega)).trans (alloc_obj _ _ _ rfl)
        have hY : Below w2.heap.size w2 Y := hX.trans hXY
        have hsY : X.heap.size < Y.heap.size := row_lt' hrY
        clear hYd
        have y1 := (hY.block _ (by omega)).trans Y1.out
        have y5 := (hY.block _ (by omega)).trans Y5.out
        have l0 : Y.cell? ⟨w.heap.size + 1 + 1 + 1 + 1 + 1, 0, none⟩ = some (I W') := cell_of_row Y _ 0 _ _ _ y5
        have l1 : Y.cell? ⟨w.heap.size + 1 + 1 + 1 + 1 + 1, 1, none⟩ = some (I S') := cell_of_row Y _ 1 _ _ _ y5
        have q0 : Y.cell? ⟨w.heap.size + 1, 0, none⟩ = some (I k) := cell_of_row Y _ 0 _ _ _ y1
        have q1 : Y.cell? ⟨w.heap.size + 1, 1, none⟩ = some (I a) := cell_of_row Y _ 1 _ _ _ y1
        have q2 : Y.cell? ⟨w.heap.size + 1, 2, none⟩ = some (I b) := cell_of_row Y _ 2 _ _ _ y1
        have q3 : Y.cell? ⟨w.heap.size + 1, 3, none⟩ = some (I n) := cell_of_row Y _ 3 _ _ _ y1
        have q4 : Y.cell? ⟨w.heap.size + 1, 4, none⟩ = some (I m) := cell_of_row Y _ 4 _ _ _ y1
        have q5 : Y.cell? ⟨w.heap.size + 1, 5, none⟩ = some (.slice Ag g.length cap) := cell_of_row Y _ 5 _ _ _ y1
        have q6 : Y.cell? ⟨w.heap.size + 1, 6, none⟩ = some (.bool ng) := cell_of_row Y _ 6 _ _ _ y1
        have r0 : Y.cell? ⟨X.heap.size, 0, none⟩ = some (I (nth x 0)) := cell_of_row Y _ 0 _ _ _ hrY
        have r1 : Y.cell? ⟨X.heap.size, 1, none⟩ = some (I (nth x 1)) := cell_of_row Y _ 1 _ _ _ hrY
        have r2 : Y.cell? ⟨X.heap.size, 2, none⟩ = some (I (nth x 2)) := cell_of_row Y _ 2 _ _ _ hrY
        have r3 : Y.cell? ⟨X.heap.size, 3, none⟩ = some (I (nth x 3)) := cell_of_row Y _ 3 _ _ _ hrY
        have HRY := Lib.hid hrY
        have hgY := (hg3.below hY (by omega)).more (B' := Y.heap.size) (by omega)
        clear hrY y1 y5 hg3 hx3
        gi_wp2_with fail
        refine ⟨trivial, ?_⟩
        refine (CallsIn.inRound l (callsIn_wide.2 (holds_any W' S' HLK.out ⟨k, a, b, n, m, g, ng⟩ HCL.out x HM2.out Ag cap _ hgY))).mono ?_
        rintro e Z ⟨rfl, hYZ⟩
        have hsZ : X.heap.size < Z.heap.size := by have := hYZ.size; omega
        have hZ : Below w2.heap.size w2 Z := hY.trans (hYZ.mono (by omega))
        have hrZ := (hYZ.block _ hsY).trans HRY.out
        have y5 := (hZ.block _ (by omega)).trans Y5.out
        have y2 := (hZ.block _ (by omega)).trans Y2.out
        have y3 := (hZ.block _ (by omega)).trans Y3.out
        have y4 := (hZ.block _ (by omega)).trans Y4.out
        clear l0 l1 q0 q1 q2 q3 q4 q5 q6 r0 r1 r2 r3
        have l0 : Z.cell? ⟨w.heap.size + 1 + 1 + 1 + 1 + 1, 0, none⟩ = some (I W') := cell_of_row Z _ 0 _ _ _ y5
        have l1 : Z.cell? ⟨w.heap.size + 1 + 1 + 1 + 1 + 1, 1, none⟩ = some (I S') := cell_of_row Z _ 1 _ _ _ y5
        have r0 : Z.cell? ⟨X.heap.size, 0, none⟩ = some (I (nth x 0)) := cell_of_row Z _ 0 _ _ _ hrZ
        have r1 : Z.cell? ⟨X.heap.size, 1, none⟩ = some (I (nth x 1)) := cell_of_row Z _ 1 _ _ _ hrZ
        have r2 : Z.cell? ⟨X.heap.size, 2, none⟩ = some (I (nth x 2)) := cell_of_row Z _ 2 _ _ _ hrZ
        have r3 : Z.cell? ⟨X.heap.size, 3, none⟩ = some (I (nth x 3)) := cell_of_row Z _ 3 _ _ _ hrZ
        have YY2 := Lib.hid y2
        have YY3 := Lib.hid y3
        have YY4 := Lib.hid y4
        clear hrZ y5 y2 y3 y4
        cases hp : holdB W' ⟨k, a, b, n, m, g, ng⟩ x
        · have hf := HFH.out (by simpa using HA.out) (by simp [hp])
          have HF := Lib.hid hf
          clear hf
          gi_wp2_with fail
          refine ⟨trivial, ?_⟩
          refine (CallsIn.inRound l (callsIn_wide.2 (code_any W' S' hW4 x HM1.out Z))).mono ?_
          rintro e V ⟨v, rfl, hown, hZV⟩
          obtain ⟨Av, cv, rfl, -, -⟩ := own_ints hown
          have hV : Below w2.heap.size w2 V := hZ.trans (hZV.mono (by omega))
          have y2 := (hZV.block _ (by omega)).trans YY2.out
          have y3 := (hZV.block _ (by omega)).trans YY3.out
          have y4 := (hZV.block _ (by omega)).trans YY4.out
          have e2 : V.cell? ⟨w.heap.size + 1 + 1, 0, none⟩ = some (.slice none 0 0) := cell_of_row V _ 0 _ _ _ y2
          have e3 : V.cell? ⟨w.heap.size + 1 + 1 + 1, 0, none⟩ = some (.bool false) := cell_of_row V _ 0 _ _ _ y3
          have e4 : V.cell? ⟨w.heap.size + 1 + 1 + 1 + 1, 0, none⟩ = some (I 0) := cell_of_row V _ 0 _ _ _ y4
          have f2 := frozen_of_row y2 0
          have f3 := frozen_of_row y3 0
          have f4 := frozen_of_row y4 0
          have YV2 := Lib.hid y2
          have YV3 := Lib.hid y3
          have YV4 := Lib.hid y4
          have HO := Lib.hid (own_base hown (b := w2.heap.size + 7) (by have := hYZ.size; have := hXY.size; omega))
          clear y2 y3 y4 hown l0 l1 r0 r1 r2 r3
          gi_wp2
          obtain ⟨W3, hW3, z2, z3, z4, zs, zo, zb⟩ := store3 (.slice Av x.length cv) (.bool false) (I 0) YV2.out YV3.out YV4.out (by omega) (by omega) (by omega)
          rw [← hW3]
          have hkm : KeepMid w2.heap.size (w2.heap.size + 2 + 5) V W3 := ⟨by omega, fun b h1 h2 h3 => zo b (by omega) (by omega) (by omega)⟩
          refine ⟨(KeepMid.of_call (hYZ.trans (hZV.mono hYZ.size)) (Nat.le_refl _)).trans hkm, rfl, x, .slice Av x.length cv, HF, ?_, z2, z3, z4, hbd2.trans ((hV.mono (by omega)).trans (zb _ (by omega) (by omega) (by omega)))⟩
          exact own_keepD (lo := w.heap.size) HO.out ⟨zb _ (by omega) (by omega) (by omega), fun b h1 h2 => zo b (by omega) (by omega) (by omega)⟩
        · gi_wp2
          exact ⟨.of_call hYZ (Nat.le_refl _), Lib.hid (HSN.out hp), hZ⟩
      case done =>
        rintro X ⟨HA, hX⟩ hK
        have hf : (readings W' S' cs).find? (fun r => !holdB W' ⟨k, a, b, n, m, g, ng⟩ r) = none := find_no (by have := HA.out; rw [List.take_length] at this; simpa using this)
        have HF := Lib.hid hf
        have y2 := (hX.block _ (by omega)).trans Y2.out
        have y3 := (hX.block _ (by omega)).trans Y3.out
        have y4 := (hX.block _ (by omega)).trans Y4.out
        have e2 : X.cell? ⟨w.heap.size + 1 + 1, 0, none⟩ = some (.slice none 0 0) := cell_of_row X _ 0 _ _ _ y2
        have e3 : X.cell? ⟨w.heap.size + 1 + 1 + 1, 0, none⟩ = some (.bool false) := cell_of_row X _ 0 _ _ _ y3
        have e4 : X.cell? ⟨w.heap.size + 1 + 1 + 1 + 1, 0, none⟩ = some (I 0) := cell_of_row X _ 0 _ _ _ y4
        have f2 := frozen_of_row y2 0
        have f3 := frozen_of_row y3 0
        have f4 := frozen_of_row y4 0
        have YX2 := Lib.hid y2
        have YX3 := Lib.hid y3
        have YX4 := Lib.hid y4
        clear y2 y3 y4 hf hg3 hx3 hmem
        go_wp2
        obtain ⟨W3, hW3, z2, z3, z4, zs, zo, zb⟩ := store3 (.slice none 0 0) (.bool true) (I 0) YX2.out YX3.out YX4.out (by omega) (by omega) (by omega)
        rw [← hW3]
        have hK3 : W3.heap[w2.heap.size]? = some (.deferred (some [])) := (zo _ (by omega) (by omega) (by omega)).trans hK
        have d2 : ∀ o, (W3.putObj w2.heap.size o).cell? ⟨w.heap.size + 1 + 1, 0, none⟩ = some (.slice none 0 0) := fun o => (World.cell?_of_block (w := W3) (World.putObj_heap_other (by show w.heap.size + 1 + 1 ≠ w2.heap.size; omega))).trans (cell_of_row W3 _ 0 _ _ _ z2)
        have d3 : ∀ o, (W3.putObj w2.heap.size o).cell? ⟨w.heap.size + 1 + 1 + 1, 0, none⟩ = some (.bool true) := fun o => (World.cell?_of_block (w := W3) (World.putObj_heap_other (by show w.heap.size + 1 + 1 + 1 ≠ w2.heap.size; omega))).trans (cell_of_row W3 _ 0 _ _ _ z3)
        have d4 : ∀ o, (W3.putObj w2.heap.size o).cell? ⟨w.heap.size + 1 + 1 + 1 + 1, 0, none⟩ = some (I 0) := fun o => (World.cell?_of_block (w := W3) (World.putObj_heap_other (by show w.heap.size + 1 + 1 + 1 + 1 ≠ w2.heap.size; omega))).trans (cell_of_row W3 _ 0 _ _ _ z4)
        refine ⟨by simp, .inl ⟨_, _, rfl, run_takeDeferred hK3, ?_⟩⟩
        refine ⟨.tuple #[.slice none 0 0, .bool true, I 0], ?_, none, 0, by rw [HR.out, HB.out, HE.out, HF.out]; rfl, by rw [HR.out, HF.out]; exact fun h => absurd h (Nat.lt_irrefl 0), by rw [HR.out, HF.out]; exact Nat.zero_le _, hbd2.trans ((hX.mono (by omega)).trans ((zb _ (by omega) (by omega) (by omega)).trans (below_putObj _ _ (by omega))))⟩
        simp [results, Tryd.results39, go_sem, d2, d3, d4]
      case stop =>
        rintro cd j X j0 j1 ⟨rfl, x, v, HF, hown, y2, y3, y4, hX⟩ hK
        obtain ⟨Av, cv, rfl, hiv, hmv⟩ := own_ints hown
        have d2 : ∀ o, (X.putObj w2.heap.size o).cell? ⟨w.heap.size + 1 + 1, 0, none⟩ = some (.slice Av x.length cv) := fun o => (World.cell?_of_block (w := X) (World.putObj_heap_other (by show w.heap.size + 1 + 1 ≠ w2.heap.size; omega))).trans (cell_of_row X _ 0 _ _ _ y2)
        have d3 : ∀ o, (X.putObj w2.heap.size o).cell? ⟨w.heap.size + 1 + 1 + 1, 0, none⟩ = some (.bool false) := fun o => (World.cell?_of_block (w := X) (World.putObj_heap_other (by show w.heap.size + 1 + 1 + 1 ≠ w2.heap.size; omega))).trans (cell_of_row X _ 0 _ _ _ y3)
        have d4 : ∀ o, (X.putObj w2.heap.size o).cell? ⟨w.heap.size + 1 + 1 + 1 + 1, 0, none⟩ = some (I 0) := fun o => (World.cell?_of_block (w := X) (World.putObj_heap_other (by show w.heap.size + 1 + 1 + 1 + 1 ≠ w2.heap.size; omega))).trans (cell_of_row X _ 0 _ _ _ y4)
        have HOW := Lib.hid hown
        clear y2 y3 y4 hown hiv hg3 hx3 hmem
        gi_wp2
        refine ⟨by simp, .inl ⟨_, _, rfl, run_takeDeferred hK, ?_⟩⟩
        refine ⟨.tuple #[.slice Av x.length cv, .bool false, I 0], ?_, Av, cv, by rw [HR.out, HB.out, HE.out, HF.out]; rfl, ?_, by rw [HR.out, HF.out]; exact hmv, hX.trans (below_putObj _ _ (by omega))⟩
        · simp [results, Tryd.results39, go_sem, d2, d3, d4]
        · rw [HR.out, HF.out]
          obtain ⟨A3, c3, e3, h3, -⟩ := own_ints (own_keepD HOW.out (BelowD.putObj (lo := w2.heap.size) X _ (Nat.le_refl _) (by omega)))
          injection e3 with e3 _ _
          rw [e3]
          exact h3
    · have hb0 : (impE W S cs ⟨k, a, b, n, m, g, ng⟩ != 0) = true := by simpa using he
      have HR := Lib.hid (show impR W S cs ⟨k, a, b, n, m, g, ng⟩ = [] from if_neg he)
      have HB := Lib.hid (show impB W S cs ⟨k, a, b, n, m, g, ng⟩ = false by rw [impB, decide_eq_false he]; rfl)
      have e2 : wc.cell? ⟨w.heap.size + 1 + 1, 0, none⟩ = some (.slice none 0 0) := cell_of_row wc _ 0 _ _ _ Y2.out
      have e3 : wc.cell? ⟨w.heap.size + 1 + 1 + 1, 0, none⟩ = some (.bool false) := cell_of_row wc _ 0 _ _ _ Y3.out
      have e4 : wc.cell? ⟨w.heap.size + 1 + 1 + 1 + 1, 0, none⟩ = some (I 0) := cell_of_row wc _ 0 _ _ _ Y4.out
      have f2 := frozen_of_row Y2.out 0
      have f3 := frozen_of_row Y3.out 0
      have f4 := frozen_of_row Y4.out 0
      clear he
      go_wp2
      obtain ⟨W3, hW3, z2, z3, z4, -, -, zb⟩ := store3 (.slice none 0 0) (.bool false) (I (impE W S cs ⟨k, a, b, n, m, g, ng⟩)) Y2.out Y3.out Y4.out (by omega) (by omega) (by omega)
      rw [← hW3]
      have d2 : W3.cell? ⟨w.heap.size + 1 + 1, 0, none⟩ = some (.slice none 0 0) := cell_of_row W3 _ 0 _ _ _ z2
      have d3 : W3.cell? ⟨w.heap.size + 1 + 1 + 1, 0, none⟩ = some (.bool false) := cell_of_row W3 _ 0 _ _ _ z3
      have d4 : W3.cell? ⟨w.heap.size + 1 + 1 + 1 + 1, 0, none⟩ = some (I (impE W S cs ⟨k, a, b, n, m, g, ng⟩)) := cell_of_row W3 _ 0 _ _ _ z4
      refine ⟨.tuple #[.slice none 0 0, .bool false, I (impE W S cs ⟨k, a, b, n, m, g, ng⟩)], ?_, none, ⟨0, by rw [HR.out, HB.out]; rfl⟩, by rw [HR.out]; exact fun h => absurd h (Nat.lt_irrefl 0), by rw [HR.out]; exact Nat.zero_le _, hbc.trans (zb _ (by omega) (by omega) (by omega))⟩
      simp [results, Tryd.results39, go_sem, d2, d3, d4]
end Go.Proofs.YthegmomjfbcabaaDoor

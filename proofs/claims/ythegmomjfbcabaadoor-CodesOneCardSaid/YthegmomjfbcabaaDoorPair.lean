/-
  CONTRACT: codes.Pair.
-/
import Derived.Test.YthegmomjfbcabaaDoorBefore
namespace Go.Proofs.YthegmomjfbcabaaDoor
open Go.RowKit Go.Shelf
attribute [local go_sem] Oper.semAt_some
def prE (W S : Int) (cs : List Cl) : Int := if cntE W S cs = 0 then (if (readings W.toNat S.toNat cs).length < 2 then 3 else 0) else cntE W S cs
def prA (W S : Int) (cs : List Cl) : List Int := if prE W S cs = 0 then (readings W.toNat S.toNat cs).headD [] else []
def prB (W S : Int) (cs : List Cl) : List Int := if prE W S cs = 0 then (readings W.toNat S.toNat cs).getLastD [] else []
def rowA (x : List Int) : Array Value := #[I (nth x 0), I (nth x 1), I (nth x 2), I (nth x 3)]
theorem row4 {w : World} {g : Nat} {t : TypeId} {y : List Int} (h : w.heap[g]? = some (.cells (rowA y) t (0, 0))) (x : List Int) :
    ∃ w', w' = (((w.setCell ⟨g, 0, none⟩ (I (nth x 0))).setCell ⟨g, 1, none⟩ (I (nth x 1))).setCell ⟨g, 2, none⟩ (I (nth x 2))).setCell ⟨g, 3, none⟩ (I (nth x 3)) ∧ w'.heap[g]? = some (.cells (rowA x) t (0, 0)) ∧ w'.heap.size = w.heap.size ∧ (∀ b, b ≠ g → w'.heap[b]? = w.heap[b]?) ∧ ∀ B, B ≤ g → Below B w w' := by
  refine ⟨_, rfl, row_set (row_set (row_set (row_set h 0 _) 1 _) 2 _) 3 _, by simp [World.setCell], fun b hb => ?_, fun B hB => ((((Below.refl _ _).setCell (p := ⟨g, 0, none⟩) hB _).setCell (p := ⟨g, 1, none⟩) hB _).setCell (p := ⟨g, 2, none⟩) hB _).setCell (p := ⟨g, 3, none⟩) hB _⟩
  exact (Below.heap_setCell _ _ _ _ hb).trans ((Below.heap_setCell _ _ _ _ hb).trans ((Below.heap_setCell _ _ _ _ hb).trans (Below.heap_setCell _ _ _ _ hb)))

theorem head_take {R : List (List Int)} {j : Nat} (hj : 0 < j) : (R.take (j + 1)).headD [] = (R.take j).headD [] := by
  obtain ⟨q, rfl⟩ : ∃ q, j = q + 1 := ⟨j - 1, by omega⟩
  cases R <;> simp
theorem last_take {R : List (List Int)} {j : Nat} (hj : j < R.length) : (R.take (j + 1)).getLastD [] = R[j] := by
  rw [List.take_succ_eq_append_getElem hj, List.getLastD_concat]
theorem head_one {R : List (List Int)} (hj : 0 < R.length) : (R.take (0 + 1)).headD [] = R[0] := by
  cases R with
  | nil => simp at hj
  | cons r rs => simp
set_option maxRecDepth 100000 in
set_option maxHeartbeats 4000000 in
theorem Pair_any (W S : Int) (A : Option Addr) (c : Nat) (cs : List Cl) (w : World) (hT : Tab w) (hx : ClsR w w.heap.size A cs) (hl : cs.length ≤ maxLen) :
    Calls Tryd.prog 46 #[lockV W S, .slice A cs.length c] w fun e w' => ∃ A1 c1 A2 c2, e = .returned (.tuple #[.slice A1 (prA W S cs).length c1, .slice A2 (prB W S cs).length c2, I (prE W S cs)]) ∧ IntsR w' w'.heap.size A1 (prA W S cs) ∧ IntsR w' w'.heap.size A2 (prB W S cs) ∧ Below w.heap.size w w' := by
  refine (callsIn_wide (n := 20)).1 (callsIn_of_wp_marks Tryd.func46 rfl trivial ?_ rfl)
  rw [wpIn_wide]
  simp only [Tryd.ntmps46, List.size_toArray, List.length_cons, List.length_nil, Nat.reduceAdd, Nat.reduceSub, Array.replicate_succ, Array.replicate_zero, List.push_toArray, List.append_toArray, List.nil_append, List.cons_append]
  go_upto_region 2 with fail
  obtain ⟨w1, hw1⟩ : ∃ w1, w1 = (w.alloc (.cells #[I W, I S] 23)).alloc (.cells #[I W, I S] 78) := ⟨_, rfl⟩
  rw [← hw1]
  have y2 : w1.heap[w.heap.size + 1]? = some (.cells #[I W, I S] 78 (0, 0)) := by rw [hw1]; exact alloc_obj _ _ _ (by simp)
  have l0 : w1.cell? ⟨w.heap.size + 1, 0, none⟩ = some (I W) := cell_of_row w1 _ 0 _ _ _ y2
  have l1 : w1.cell? ⟨w.heap.size + 1, 1, none⟩ = some (I S) := cell_of_row w1 _ 1 _ _ _ y2
  have hb1 : Below w.heap.size w w1 := by rw [hw1]; exact two_boxes _ _ _
  have s1 : w.heap.size + 1 < w1.heap.size := by rw [hw1]; simp
  have hx1 := cls_call hb1 hx
  have hT1 := hT.below hb1
  have Y2 := Lib.hid y2
  clear hw1 y2 hx hT
  go_cut [8] from 13 to 41 (fun s8 wx => s8 = I (cntE W S cs) ∧ KeptS w1 wx)
  case first =>
    go_region_held3 (fun w' => Below w1.heap.size w1 w' ∧ (∀ b o, b < w1.heap.size → w'.cell? ⟨b, o, none⟩ = w1.cell? ⟨b, o, none⟩))
      (first | exact keptS_drew _ | exact keptS_call (by assumption) hb | exact keptS_alloc (by assumption) _ | assumption)
      (first
        | (go_at_call 61; refine (lockCheck_any _ _ _).mono ?_; rintro e w' ⟨rfl, hb⟩)
        | (go_at_call 73; go_must (refine (checkClues_any _ _ _ _ _ cs _ ?_ ?_ hl).mono ?_); go_must (exact hT1.below (And.left (by assumption : KeptS w1 _))); go_must (exact cls_call (And.left (by assumption : KeptS w1 _)) hx1); rintro e w' ⟨rfl, hb⟩)
        | (go_at_call 63; go_must (refine (first_any _ _ [lockErr W S, cluesErr W S 20 cs] _ ?_ ?_).mono ?_); go_must (exact ints_new _ [lockErr W S, cluesErr W S 20 cs] _); go_must (simp [maxLen]); rintro e w' ⟨rfl, rfl⟩))
    all_goals
      go_wp2_with fail
      go_meet
      exact ⟨rfl, by assumption⟩
  case rest =>
    obtain ⟨rfl, hk⟩ := hcut
    have hkb := hk.1
    have hx2 := cls_call hkb hx1
    have hbc : Below w.heap.size w wc := hb1.trans (hkb.mono (by omega))
    have t0 : w.heap.size + 1 < wc.heap.size := by have := hkb.size; omega
    have y2 := (hkb.block _ (by omega)).trans Y2.out
    clear hk hkb hx1 hT1 l0 l1 Y2 s1
    have Y2 := Lib.hid y2
    clear y2
    by_cases he : cntE W S cs = 0
    · have hb0 : (cntE W S cs != 0) = false := by simp [he]
      obtain ⟨W', S', rfl, rfl, hW, hW4, hS, hS10, hC⟩ := cntE_nat he
      have HE := Lib.hid he
      clear he
      have l0 : wc.cell? ⟨w.heap.size + 1, 0, none⟩ = some (I W') := cell_of_row wc _ 0 _ _ _ Y2.out
      have l1 : wc.cell? ⟨w.heap.size + 1, 1, none⟩ = some (I S') := cell_of_row wc _ 1 _ _ _ Y2.out
      go_upto_region 7 with fail
      obtain ⟨w3, hw3⟩ : ∃ w3, w3 = ((wc.alloc (.cells #[I 0, I 0, I 0, I 0] 87)).alloc (.cells #[I 0, I 0, I 0, I 0] 87)).alloc (.cells #[I 0] 3) := ⟨_, rfl⟩
      rw [← hw3]
      have hc3 : Below wc.heap.size wc w3 := by rw [hw3]; exact three_boxes' _ _ _ _
      have hs3 : w3.heap.size = wc.heap.size + 3 := by rw [hw3]; simp
      have a1 : w3.heap[wc.heap.size]? = some (.cells (rowA []) 87 (0, 0)) := by
        rw [hw3]; exact (Below.heap_alloc _ _ _ (by simp; omega)).trans ((Below.heap_alloc _ _ _ (by simp)).trans (alloc_obj _ _ _ rfl))
      have a2 : w3.heap[wc.heap.size + 1]? = some (.cells (rowA []) 87 (0, 0)) := by
        rw [hw3]; exact (Below.heap_alloc _ _ _ (by simp)).trans (alloc_obj _ _ _ (by simp))
      have a3 : w3.heap[wc.heap.size + 1 + 1]? = some (.cells #[I ((0 : Nat) : Int)] 3 (0, 0)) := by rw [hw3]; exact alloc_obj _ _ _ (by simp)
      have y2 := (hc3.block _ (by omega)).trans Y2.out
      have l0 : w3.cell? ⟨w.heap.size + 1, 0, none⟩ = some (I W') := cell_of_row w3 _ 0 _ _ _ y2
      have l1 : w3.cell? ⟨w.heap.size + 1, 1, none⟩ = some (I S') := cell_of_row w3 _ 1 _ _ _ y2
      have HX2 := Lib.hid hx2
      have A1 := Lib.hid a1
      have A2 := Lib.hid a2
      have A3 := Lib.hid a3
      have HS3 := Lib.hid hs3
      clear hw3 a1 a2 a3 y2 hx2 hs3
      go_wp2_with fail
      refine (readings_any _ _ _ _ _ _).mono ?_
      rintro e w' ⟨rfl, rfl⟩
      go_wp2_with fail
      obtain ⟨w2, hw2⟩ : ∃ w2, w2 = ((w3.alloc (.cells #[I W', I S'] 78)).alloc (.cells #[.slice A cs.length c] 38)) := ⟨_, rfl⟩
      rw [← hw2]
      have hs3 := HS3.out
      have hc2 : Below w3.heap.size w3 w2 := by rw [hw2]; exact two_boxes _ _ _
      have hs2 : w2.heap.size = w3.heap.size + 2 := by rw [hw2]; simp
      have hl2 : w2.heap[w3.heap.size]? = some (.cells #[I W', I S'] 78 (0, 0)) := by
        rw [hw2]; exact (Below.heap_alloc _ _ _ (by simp)).trans (alloc_obj _ _ _ rfl)
      have hd2 : w2.heap[w3.heap.size + 1]? = some (.cells #[.slice A cs.length c] 38 (0, 0)) := by
        rw [hw2]; exact alloc_obj _ _ _ (by simp)
      have hw32 : Below wc.heap.size wc w2 := hc3.trans (hc2.mono (by omega))
      have a1 := (hc2.block _ (by omega)).trans A1.out
      have a2 := (hc2.block _ (by omega)).trans A2.out
      have a3 := (hc2.block _ (by omega)).trans A3.out
      have LR := Lib.hid hl2
      have DR := Lib.hid hd2
      have hmem := fun x (h : x ∈ readings W' S' cs) => rd_mem hS hS10 h
      have hbd := rd_bound hW4 hS10 cs
      clear hw2 l0 l1 A1 A2 A3 HS3
      have HS3 := Lib.hid hs3
      have HS2 := Lib.hid hs2
      have hq3 : wc.heap.size + 2 < w3.heap.size := by omega
      have hq2 : w3.heap.size + 1 < w2.heap.size := by omega
      clear hs3 hs2
      refine wpIn_wide.1 (wpIn_loopD (n := 20) rfl (by omega) (gf := 109) (fa := #[]) (lb := #[.pointer (some ⟨w3.heap.size, 0, none⟩), .pointer (some ⟨w3.heap.size + 1, 0, none⟩)]) rfl trivial (enters_of Tryd.func109 (by kernel_rfl) rfl) (enc := rowV) (xs := readings W' S' cs) 5
        (fun V hV hG _ => readings_iterD W' S' hW hW4 hS hS10 cs hC hl A c w3.heap.size (w3.heap.size + 1) _ (by omega) w2.heap.size wc.heap.size (by have := HS3.out; have := HS2.out; omega) V hV.size (by have := HS2.out; omega) (by have := HS2.out; omega)) rfl
        (fun j V => V.heap[wc.heap.size]? = some (.cells (rowA (((readings W' S' cs).take j).headD [])) 87 (0, 0)) ∧ V.heap[wc.heap.size + 1]? = some (.cells (rowA (((readings W' S' cs).take j).getLastD [])) 87 (0, 0)) ∧ V.heap[wc.heap.size + 1 + 1]? = some (.cells #[I (j : Nat)] 3 (0, 0)) ∧ V.heap[w3.heap.size]? = some (.cells #[I W', I S'] 78 (0, 0)) ∧ V.heap[w3.heap.size + 1]? = some (.cells #[.slice A cs.length c] 38 (0, 0)) ∧ Below wc.heap.size wc V ∧ w2.heap.size ≤ V.heap.size)
        (fun _ _ _ => False)
        ?closed (fun _ _ _ _ h _ => h.elim) ?toG ⟨a1, a2, a3, LR.out, DR.out, hw32, Nat.le_refl _⟩ ?round ?done (fun _ _ _ _ _ h _ => h.elim))
      case closed =>
        have hs3 := HS3.out
        have hs2 := HS2.out
        rintro j X Y ⟨h1, h2, h3, h4, h5, h6, h7⟩ hb
        exact ⟨(hb.low.block _ (by omega)).trans h1, (hb.low.block _ (by omega)).trans h2, (hb.low.block _ (by omega)).trans h3, (hb.low.block _ (by omega)).trans h4, (hb.low.block _ (by omega)).trans h5, h6.trans (hb.low.mono (by omega)), Nat.le_trans h7 hb.low.size⟩
      case toG =>
        rintro j X ⟨h1, h2, h3, h4, h5, h6, h7⟩
        exact ⟨cell_of_row X _ 0 _ _ _ h4, cell_of_row X _ 1 _ _ _ h4, cell_of_row X _ 0 _ _ _ h5, HX2.out.below h6 (Nat.le_refl _), h7⟩
      case round =>
        have hs3 := HS3.out
        have hs2 := HS2.out
        rintro l j hj X hl1 hl2 hl3 ⟨h1, h2, h3, h4, h5, h6, h7⟩
        have hlast := last_take hj
        have hfst : j = 0 → ((readings W' S' cs).take (j + 1)).headD [] = (readings W' S' cs)[j] := by rintro rfl; exact head_one hj
        have hrest : 0 < j → ((readings W' S' cs).take (j + 1)).headD [] = ((readings W' S' cs).take j).headD [] := head_take
        generalize hx0 : (readings W' S' cs)[j] = x at *
        generalize hlo : ((readings W' S' cs).take j).headD [] = lo at *
        generalize hhi : ((readings W' S' cs).take j).getLastD [] = hi at *
        have HLAST := Lib.hid hlast
        have HFST := Lib.hid hfst
        have HREST := Lib.hid hrest
        have hj2 : j < 10000 := by omega
        clear hx0 hlo hhi hlast hfst hrest hmem a1 a2 a3
        gi_wp2
        refine ⟨(Below.refl _ _).alloc (Nat.le_refl _) _, fun o => ?_⟩
        obtain ⟨Y, hYd⟩ : ∃ Y, Y = (X.alloc (.cells #[I (nth x 0), I (nth x 1), I (nth x 2), I (nth x 3)] 87)).putObj l o := ⟨_, rfl⟩
        rw [← hYd]
        have hXY : Below w2.heap.size X Y := by
          rw [hYd]; exact ((Below.refl _ _).alloc (by omega) _).trans (below_putObj _ _ hl1)
        have hrY : Y.heap[X.heap.size]? = some (.cells (rowA x) 87 (0, 0)) := by
          rw [hYd]; exact (World.putObj_heap_other (by omega)).trans (alloc_obj _ _ _ rfl)
        have hsY : X.heap.size < Y.heap.size := row_lt' hrY
        have b1 := (hXY.block _ (by omega)).trans h1
        have b2 := (hXY.block _ (by omega)).trans h2
        have b3 := (hXY.block _ (by omega)).trans h3
        have b4 := (hXY.block _ (by omega)).trans h4
        have b5 := (hXY.block _ (by omega)).trans h5
        have b6 := h6.trans (hXY.mono (by omega))
        clear hYd h1 h2 h3 h4 h5 h6
        have n0 : Y.cell? ⟨wc.heap.size + 1 + 1, 0, none⟩ = some (I (j : Nat)) := cell_of_row Y _ 0 _ _ _ b3
        have nf := frozen_of_row b3 0
        have r0 : Y.cell? ⟨X.heap.size, 0, none⟩ = some (I (nth x 0)) := cell_of_row Y _ 0 _ _ _ hrY
        have r1 : Y.cell? ⟨X.heap.size, 1, none⟩ = some (I (nth x 1)) := cell_of_row Y _ 1 _ _ _ hrY
        have r2 : Y.cell? ⟨X.heap.size, 2, none⟩ = some (I (nth x 2)) := cell_of_row Y _ 2 _ _ _ hrY
        have r3 : Y.cell? ⟨X.heap.size, 3, none⟩ = some (I (nth x 3)) := cell_of_row Y _ 3 _ _ _ hrY
        have H2 := Lib.hid b2
        have H3 := Lib.hid b3
        have H4 := Lib.hid b4
        have H5 := Lib.hid b5
        have HRY := Lib.hid hrY
        have H1 := Lib.hid b1
        clear b1 b2 b3 b4 b5 hrY hs3 hs2
        by_cases hj0 : j = 0
        · have hb5 : ((j : Int) == 0) = true := by simp [hj0]
          have HJ0 := Lib.hid hj0
          clear hj0
          have c0 : Y.cell? ⟨wc.heap.size, 0, none⟩ = some (I (nth lo 0)) := cell_of_row Y _ 0 _ _ _ H1.out
          have c1 : Y.cell? ⟨wc.heap.size, 1, none⟩ = some (I (nth lo 1)) := cell_of_row Y _ 1 _ _ _ H1.out
          have c2 : Y.cell? ⟨wc.heap.size, 2, none⟩ = some (I (nth lo 2)) := cell_of_row Y _ 2 _ _ _ H1.out
          have c3 : Y.cell? ⟨wc.heap.size, 3, none⟩ = some (I (nth lo 3)) := cell_of_row Y _ 3 _ _ _ H1.out
          have cf := frozen_of_row H1.out
          gi_upto_region 11 with fail
          obtain ⟨Z, hZ, z1, zs, zo, zb⟩ := row4 H1.out x
          rw [← hZ]
          have Z1 := Lib.hid z1
          have Z2 := Lib.hid ((zo _ (by omega)).trans H2.out)
          have Z3 := Lib.hid ((zo _ (by omega)).trans H3.out)
          have Z4 := Lib.hid ((zo _ (by omega)).trans H4.out)
          have Z5 := Lib.hid ((zo _ (by omega)).trans H5.out)
          have ZR := Lib.hid ((zo X.heap.size (by omega)).trans HRY.out)
          have Zb : Below wc.heap.size wc Z := b6.trans (zb _ (by omega))
          clear r0 r1 r2 r3 n0 nf c0 c1 c2 c3 cf hZ z1
          have n0 : Z.cell? ⟨wc.heap.size + 1 + 1, 0, none⟩ = some (I (j : Nat)) := cell_of_row Z _ 0 _ _ _ Z3.out
          have nf := frozen_of_row Z3.out 0
          have r0 : Z.cell? ⟨X.heap.size, 0, none⟩ = some (I (nth x 0)) := cell_of_row Z _ 0 _ _ _ ZR.out
          have r1 : Z.cell? ⟨X.heap.size, 1, none⟩ = some (I (nth x 1)) := cell_of_row Z _ 1 _ _ _ ZR.out
          have r2 : Z.cell? ⟨X.heap.size, 2, none⟩ = some (I (nth x 2)) := cell_of_row Z _ 2 _ _ _ ZR.out
          have r3 : Z.cell? ⟨X.heap.size, 3, none⟩ = some (I (nth x 3)) := cell_of_row Z _ 3 _ _ _ ZR.out
          have e0 : Z.cell? ⟨wc.heap.size + 1, 0, none⟩ = some (I (nth hi 0)) := cell_of_row Z _ 0 _ _ _ Z2.out
          have e1 : Z.cell? ⟨wc.heap.size + 1, 1, none⟩ = some (I (nth hi 1)) := cell_of_row Z _ 1 _ _ _ Z2.out
          have e2 : Z.cell? ⟨wc.heap.size + 1, 2, none⟩ = some (I (nth hi 2)) := cell_of_row Z _ 2 _ _ _ Z2.out
          have e3 : Z.cell? ⟨wc.heap.size + 1, 3, none⟩ = some (I (nth hi 3)) := cell_of_row Z _ 3 _ _ _ Z2.out
          have ef := frozen_of_row Z2.out
          gi_upto_region 12 with fail
          obtain ⟨V, hV, v1, vs, vo, vb⟩ := row4 Z2.out x
          rw [← hV]
          have p1 := (vo _ (by omega)).trans Z1.out
          have p3 := (vo _ (by omega)).trans Z3.out
          have p4 := (vo _ (by omega)).trans Z4.out
          have p5 := (vo _ (by omega)).trans Z5.out
          have n1 : V.cell? ⟨wc.heap.size + 1 + 1, 0, none⟩ = some (I (j : Nat)) := cell_of_row V _ 0 _ _ _ p3
          have nf1 := frozen_of_row p3 0
          have hbV : Below wc.heap.size wc V := Zb.trans (vb _ (by omega))
          have hkw : wrap64 ((j : Int) + 1) = (j : Int) + 1 := IntWalk.wrap64_in _ ⟨by omega, by omega⟩
          have P1 := Lib.hid p1
          have P2 := Lib.hid v1
          have P3 := Lib.hid p3
          have P4 := Lib.hid p4
          have P5 := Lib.hid p5
          clear e0 e1 e2 e3 ef hV v1 p1 p3 p4 p5 n0 nf r0 r1 r2 r3
          gi_wp2
          have so := fun b (hb : b ≠ wc.heap.size + 1 + 1) v => Below.heap_setCell V ⟨wc.heap.size + 1 + 1, 0, none⟩ v b hb
          refine ⟨⟨by simp [World.setCell]; omega, fun b q1 q2 q3 => (so b (by omega) _).trans ((vo b (by omega)).trans ((zo b (by omega))))⟩, ?_, ?_, row_set P3.out 0 _, (so _ (by omega) _).trans P4.out, (so _ (by omega) _).trans P5.out, hbV.setCell (p := ⟨wc.heap.size + 1 + 1, 0, none⟩) (by show wc.heap.size ≤ wc.heap.size + 1 + 1; omega) _, by simp [World.setCell]; omega⟩
          · rw [HFST.out HJ0.out]
            exact (so _ (by omega) _).trans P1.out
          · rw [HLAST.out]
            exact (so _ (by omega) _).trans P2.out
        · have hb5 : ((j : Int) == 0) = false := by simp; omega
          gi_upto_region 11 with fail
          have Y1 := H1
          have YY2 := H2
          have Y3 := H3
          have Y4 := H4
          have Y5 := H5
          have Yb := b6
          have e0 : Y.cell? ⟨wc.heap.size + 1, 0, none⟩ = some (I (nth hi 0)) := cell_of_row Y _ 0 _ _ _ YY2.out
          have e1 : Y.cell? ⟨wc.heap.size + 1, 1, none⟩ = some (I (nth hi 1)) := cell_of_row Y _ 1 _ _ _ YY2.out
          have e2 : Y.cell? ⟨wc.heap.size + 1, 2, none⟩ = some (I (nth hi 2)) := cell_of_row Y _ 2 _ _ _ YY2.out
          have e3 : Y.cell? ⟨wc.heap.size + 1, 3, none⟩ = some (I (nth hi 3)) := cell_of_row Y _ 3 _ _ _ YY2.out
          have ef := frozen_of_row YY2.out
          gi_upto_region 12 with fail
          obtain ⟨V, hV, v1, vs, vo, vb⟩ := row4 YY2.out x
          rw [← hV]
          have p1 := (vo _ (by omega)).trans Y1.out
          have p3 := (vo _ (by omega)).trans Y3.out
          have p4 := (vo _ (by omega)).trans Y4.out
          have p5 := (vo _ (by omega)).trans Y5.out
          have n1 : V.cell? ⟨wc.heap.size + 1 + 1, 0, none⟩ = some (I (j : Nat)) := cell_of_row V _ 0 _ _ _ p3
          have nf1 := frozen_of_row p3 0
          have hbV : Below wc.heap.size wc V := Yb.trans (vb _ (by omega))
          have hkw : wrap64 ((j : Int) + 1) = (j : Int) + 1 := IntWalk.wrap64_in _ ⟨by omega, by omega⟩
          have P1 := Lib.hid p1
          have P2 := Lib.hid v1
          have P3 := Lib.hid p3
          have P4 := Lib.hid p4
          have P5 := Lib.hid p5
          clear e0 e1 e2 e3 ef hV v1 p1 p3 p4 p5 n0 nf r0 r1 r2 r3
          gi_wp2
          have so := fun b (hb : b ≠ wc.heap.size + 1 + 1) v => Below.heap_setCell V ⟨wc.heap.size + 1 + 1, 0, none⟩ v b hb
          refine ⟨⟨by simp [World.setCell]; omega, fun b q1 q2 q3 => (so b (by omega) _).trans ((vo b (by omega)).trans (rfl))⟩, ?_, ?_, row_set P3.out 0 _, (so _ (by omega) _).trans P4.out, (so _ (by omega) _).trans P5.out, hbV.setCell (p := ⟨wc.heap.size + 1 + 1, 0, none⟩) (by show wc.heap.size ≤ wc.heap.size + 1 + 1; omega) _, by simp [World.setCell]; omega⟩
          · rw [HREST.out (Nat.pos_of_ne_zero hj0)]
            exact (so _ (by omega) _).trans P1.out
          · rw [HLAST.out]
            exact (so _ (by omega) _).trans P2.out
      case done =>
        rintro X ⟨h1, h2, h3, h4, h5, h6, h7⟩ hK
        rw [List.take_length] at h1 h2
        have y2 := (h6.block (w.heap.size + 1) (by omega)).trans Y2.out
        have l0 : X.cell? ⟨w.heap.size + 1, 0, none⟩ = some (I W') := cell_of_row X _ 0 _ _ _ y2
        have l1 : X.cell? ⟨w.heap.size + 1, 1, none⟩ = some (I S') := cell_of_row X _ 1 _ _ _ y2
        have n0 : X.cell? ⟨wc.heap.size + 1 + 1, 0, none⟩ = some (I ((readings W' S' cs).length : Nat)) := cell_of_row X _ 0 _ _ _ h3
        have hbX : Below w.heap.size w X := hbc.trans (h6.mono (by omega))
        have hkl : w2.heap.size < X.heap.size := (Array.getElem?_eq_some_iff.1 hK).1
        clear y2 h3 h4 h5 a1 a2 a3
        by_cases hlen : (readings W' S' cs).length < 2
        · have hpe : prE W' S' cs = 3 := by rw [prE, if_pos HE.out]; exact if_pos hlen
          have HP := Lib.hid hpe
          have HA := Lib.hid (show prA W' S' cs = [] from if_neg (by rw [hpe]; decide))
          have HB := Lib.hid (show prB W' S' cs = [] from if_neg (by rw [hpe]; decide))
          clear hpe h1 h2 hmem
          go_wp2
          refine ⟨by simp, .inl ⟨_, _, rfl, run_takeDeferred hK, ?_⟩⟩
          refine ⟨_, results_tmp3 rfl _ _ _, none, 0, none, 0, by rw [HP.out, HA.out, HB.out]; rfl, by rw [HA.out]; exact fun h => absurd h (Nat.lt_irrefl 0), by rw [HB.out]; exact fun h => absurd h (Nat.lt_irrefl 0), hbX.trans (below_putObj _ _ (by omega))⟩
        · have hpe : prE W' S' cs = 0 := by rw [prE, if_pos HE.out]; exact if_neg hlen
          have HP := Lib.hid hpe
          have HA := Lib.hid (show prA W' S' cs = (readings W' S' cs).headD [] from if_pos hpe)
          have HB := Lib.hid (show prB W' S' cs = (readings W' S' cs).getLastD [] from if_pos hpe)
          have hla : ((readings W' S' cs).headD []).length = W' := by
            cases hR : readings W' S' cs with
            | nil => rw [hR] at hlen; simp at hlen
            | cons r rs => exact (hmem r (by rw [hR]; simp)).1
          have hlb : ((readings W' S' cs).getLastD []).length = W' := by
            have hne : readings W' S' cs ≠ [] := by intro h; rw [h] at hlen; simp at hlen
            rw [List.getLastD_eq_getLast?, List.getLast?_eq_some_getLast hne]
            exact (hmem _ (List.getLast_mem hne)).1
          generalize hxa : (readings W' S' cs).headD [] = xa at *
          generalize hxb : (readings W' S' cs).getLastD [] = xb at *
          have HLA := Lib.hid hla
          have HLB := Lib.hid hlb
          have c0 : X.cell? ⟨wc.heap.size, 0, none⟩ = some (I (nth xa 0)) := cell_of_row X _ 0 _ _ _ h1
          have c1 : X.cell? ⟨wc.heap.size, 1, none⟩ = some (I (nth xa 1)) := cell_of_row X _ 1 _ _ _ h1
          have c2 : X.cell? ⟨wc.heap.size, 2, none⟩ = some (I (nth xa 2)) := cell_of_row X _ 2 _ _ _ h1
          have c3 : X.cell? ⟨wc.heap.size, 3, none⟩ = some (I (nth xa 3)) := cell_of_row X _ 3 _ _ _ h1
          have e0 : X.cell? ⟨wc.heap.size + 1, 0, none⟩ = some (I (nth xb 0)) := cell_of_row X _ 0 _ _ _ h2
          have e1 : X.cell? ⟨wc.heap.size + 1, 1, none⟩ = some (I (nth xb 1)) := cell_of_row X _ 1 _ _ _ h2
          have e2 : X.cell? ⟨wc.heap.size + 1, 2, none⟩ = some (I (nth xb 2)) := cell_of_row X _ 2 _ _ _ h2
          have e3 : X.cell? ⟨wc.heap.size + 1, 3, none⟩ = some (I (nth xb 3)) := cell_of_row X _ 3 _ _ _ h2
          have s0 : w.heap.size + 1 < X.heap.size := by omega
          have s2 : wc.heap.size < X.heap.size := by omega
          have s3 : wc.heap.size + 1 < X.heap.size := by omega
          clear hpe hxa hxb hmem h1 h2 hla hlb
          go_wp2_with fail
          go_cut [4, 5, 6] from 36 to 41 (fun s4 s5 s6 wx => ∃ A1 c1 A2 c2, s4 = .slice A1 xa.length c1 ∧ s5 = .slice A2 xb.length c2 ∧ s6 = I 0 ∧ wx.ownsRow X.heap.size 3 1 (.slice A1 xa.length c1) xa.length (xa.map I) ∧ wx.ownsRow X.heap.size 3 1 (.slice A2 xb.length c2) xb.length (xb.map I) ∧ Below X.heap.size X wx)
          case first =>
            go_region_held3 (fun w' => Below X.heap.size X w' ∧ (∀ b o, b < X.heap.size → w'.cell? ⟨b, o, none⟩ = X.cell? ⟨b, o, none⟩))
              (first | exact keptS_drew _ | exact keptS_call (by assumption) hb | assumption)
              ((go_at_call 79; go_must (refine (code_any W' S' hW4 _ ?_ _).mono ?_); go_must (first | exact HLA.out | exact HLB.out); rintro e w' ⟨v, rfl, hown, hb⟩))
            all_goals
              go_wp2_with fail
              go_meet
              have q2 := (by assumption : Below X.drew.heap.size X.drew _)
              have q1 := (by assumption : World.ownsRow _ X.drew.heap.size 3 1 _ xa.length (xa.map I))
              have q3 := hown
              have q4 := hb
              obtain ⟨Aa, ca, rfl, -, -⟩ := own_ints q1
              obtain ⟨Ab, cb, rfl, -, -⟩ := own_ints q3
              exact ⟨Aa, ca, Ab, cb, rfl, rfl, rfl, own_grown q1 (grown_of_below q4 (Nat.le_refl _)), own_base q3 q2.size, (below_from_drew q2).trans (q4.mono q2.size)⟩
          case rest =>
            obtain ⟨A1, c1', A2, c2', rfl, rfl, rfl, ho1, ho2, hbw⟩ := hcut
            have HO1 := Lib.hid ho1
            have HO2 := Lib.hid ho2
            have hK2 := (hbw.block _ hkl).trans hK
            clear ho1 ho2
            go_wp2
            refine ⟨by simp, .inl ⟨_, _, rfl, run_takeDeferred hK2, ?_⟩⟩
            obtain ⟨A3, c3, e3, i3, -⟩ := own_ints (own_keepD HO1.out (BelowD.putObj (lo := w2.heap.size) wc (.deferred none) (Nat.le_refl _) hkl))
            obtain ⟨A4, c4, e4, i4, -⟩ := own_ints (own_keepD HO2.out (BelowD.putObj (lo := w2.heap.size) wc (.deferred none) (Nat.le_refl _) hkl))
            injection e3 with e3 _ _
            injection e4 with e4 _ _
            subst e3 e4
            refine ⟨_, results_tmp3 rfl _ _ _, A1, c1', A2, c2', by rw [HP.out, HA.out, HB.out]; rfl, by rw [HA.out]; exact i3, by rw [HB.out]; exact i4, hbX.trans ((hbw.mono (by omega)).trans (below_putObj _ _ (by omega)))⟩
    · have hb0 : (cntE W S cs != 0) = true := by simpa using he
      have hpe : prE W S cs = cntE W S cs := if_neg he
      have HE := Lib.hid hpe
      have HA := Lib.hid (show prA W S cs = [] from if_neg (by rw [hpe]; exact he))
      have HB := Lib.hid (show prB W S cs = [] from if_neg (by rw [hpe]; exact he))
      clear he hpe
      go_wp2
      refine ⟨_, results_tmp3 rfl _ _ _, none, 0, none, 0, by rw [HE.out, HA.out, HB.out]; rfl, by rw [HA.out]; exact fun h => absurd h (Nat.lt_irrefl 0), by rw [HB.out]; exact fun h => absurd h (Nat.lt_irrefl 0), hbc⟩
end Go.Proofs.YthegmomjfbcabaaDoor

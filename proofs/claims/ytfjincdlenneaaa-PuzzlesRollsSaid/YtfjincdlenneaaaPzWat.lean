/-
  CONTRACT: water.
-/
import Derived.Test.YtfjincdlenneaaaPzSpr
namespace Go.Proofs.Ytfjincdlenneaaa
open Go.RowKit Go.Shelf
def rotN (p q : Nat) : Nat := (p <<< q ||| p >>> (4 - q)) &&& 15
theorem rotN_le (p q : Nat) : rotN p q ≤ 15 := Nat.and_le_right
/-- the pieces as they are turned, the first n of them -/
def opF (ps ts : List Int) (n i : Nat) : Nat := if i < n then rotN (nth ps i).toNat (nth ts i).toNat else 0
theorem opF_le (ps ts : List Int) (n i : Nat) : opF ps ts n i ≤ 15 := by
  rw [opF]; split
  · exact rotN_le _ _
  · omega
theorem opF_step (ps ts : List Int) (k : Nat) : opF ps ts (k + 1) = fun x => if x = k then rotN (nth ps k).toNat (nth ts k).toNat else opF ps ts k x := by
  funext x
  by_cases h : x = k
  · rw [if_pos h, h, opF, if_pos (by omega)]
  · rw [if_neg h, opF, opF]
    by_cases h2 : x < k
    · rw [if_pos h2, if_pos (by omega)]
    · rw [if_neg h2, if_neg (by omega)]
theorem ocells_set (f : Nat → Nat) (k v : Nat) (hk : k < 9) : (ocells f).setIfInBounds k (I v) = ocells (fun x => if x = k then v else f x) := by
  match k, hk with
  | 0, _ => rfl
  | 1, _ => rfl
  | 2, _ => rfl
  | 3, _ => rfl
  | 4, _ => rfl
  | 5, _ => rfl
  | 6, _ => rfl
  | 7, _ => rfl
  | 8, _ => rfl
theorem info_flow : (Try.prog.info? 108).map (·.size) = some 10 := by kernel_rfl
theorem fcells_all (T : Nat → Bool) (m : Nat) : (((((((((((fcells (fun _ => false) 0).setIfInBounds 0 (.bool (T 0))).setIfInBounds 1 (.bool (T 1))).setIfInBounds 2 (.bool (T 2))).setIfInBounds 3 (.bool (T 3))).setIfInBounds 4 (.bool (T 4))).setIfInBounds 5 (.bool (T 5))).setIfInBounds 6 (.bool (T 6))).setIfInBounds 7 (.bool (T 7))).setIfInBounds 8 (.bool (T 8))).setIfInBounds 9 (I m)) = fcells T m := by simp [fcells]
theorem res_water : Try.f96.results = #[.cell 4 108] := by kernel_rfl
/-- numbers from 0 to b -/
def Nums (b : Nat) (l : List Int) : Prop := ∀ i, i < l.length → 0 ≤ nth l i ∧ nth l i ≤ b
theorem Nums.nat {b : Nat} {l : List Int} (h : Nums b l) {i : Nat} (hi : i < l.length) : nth l i = ((nth l i).toNat : Int) ∧ (nth l i).toNat ≤ b := by
  have := h i hi
  omega

set_option maxRecDepth 100000 in
set_option maxHeartbeats 1000000 in
theorem water_any (W H fr N : Nat) (tt : Int) (A1 A2 : Option Addr) (c1 c2 : Nat) (ps ts : List Int) (w : World) (hW : 1 ≤ W) (hW9 : W ≤ 9) (hH : H ≤ 9) (hNW : N = W * H) (hN : N ≤ 9) (hfr : fr < N) (hpl : ps.length = N) (htl : ts.length = N) (hp : Nums 15 ps) (ht : Nums 3 ts)
    (hx : IntsR w w.heap.size A1 ps) (hy : IntsR w w.heap.size A2 ts) :
    Calls Try.prog 96 #[pipesV W H fr tt A1 N c1, .slice A2 N c2] w fun e w' => ∃ T m, e = .returned (.agg (fcells T m)) ∧ Spr W H (opF ps ts N) (fun _ => false) 0 fr T m ∧ Below w.heap.size w w' := by
  obtain ⟨wa, ha, sa, ya, ba⟩ := one_box w (.cells #[I W, I H, I fr, I tt, .slice A1 N c1] 103)
  obtain ⟨wb, hb, sb, yb, bb⟩ := one_box wa (.cells (fcells (fun _ => false) 0) 108)
  obtain ⟨w1, hw1, s1, y2, b1⟩ := one_box wb (.cells (ocells (opF ps ts 0)) 138)
  have hw2 : w1 = ((w.alloc (.cells #[I W, I H, I fr, I tt, .slice A1 N c1] 103)).alloc (.cells #[.bool false, .bool false, .bool false, .bool false, .bool false, .bool false, .bool false, .bool false, .bool false, I 0] 108)).alloc (.cells #[I 0, I 0, I 0, I 0, I 0, I 0, I 0, I 0, I 0] 138) := by rw [hw1, hb, ha]; rfl
  have hs1 : w1.heap.size = w.heap.size + 3 := by omega
  have hb1 : Below w.heap.size w w1 := ba.trans ((bb.mono (by omega)).trans (b1.mono (by omega)))
  have y0 : w1.heap[w.heap.size]? = some (.cells #[I W, I H, I fr, I tt, .slice A1 N c1] 103 (0, 0)) := (b1.block _ (by omega)).trans ((bb.block _ (by omega)).trans ya)
  have y1 : w1.heap[w.heap.size + 1]? = some (.cells (fcells (fun _ => false) 0) 108 (0, 0)) := by
    rw [← sa]; exact (b1.block _ (by omega)).trans yb
  have y2 : OpenAt w1 (w.heap.size + 1 + 1) (opF ps ts 0) := by
    have := y2
    rw [sb, sa] at this; exact this
  clear ha hb hw1 ya yb ba bb b1 sa sb s1
  have HPL := Lib.hid hpl
  have HTL := Lib.hid htl
  have HNW := Lib.hid hNW
  have Y0 := Lib.hid y0
  have Y1 := Lib.hid y1
  have Y2 := Lib.hid y2
  have d4 : w1.cell? ⟨w.heap.size, 4, none⟩ = some (.slice A1 N c1) := cell_of_row w1 _ 4 _ _ _ y0
  clear hpl htl hNW y0 y1 y2
  go_enter Try.func96, Try.ntmps96
  go_upto_region 2 with fail
  rw [← hw2]
  clear hw2
  go_wp2_with fail
  go_loopw [6, 7, 12] (fun _ _ i wr => ∃ k : Nat, k ≤ N ∧ i = .int .i64 k ∧ Hid (OpenAt wr (w.heap.size + 1 + 1) (opF ps ts k)) ∧ KB (w.heap.size + 1 + 1) w1 wr) (fun _ _ i _ => N - (intOf i).toNat)
  case atStart => exact ⟨0, Nat.zero_le _, rfl, Y2, KB.refl _ _⟩
  case round =>
    obtain ⟨k, hk, rfl, HO, hK⟩ := hrel
    have hbw : Below w.heap.size w wr := hb1.trans (hK.below (by omega) (by omega))
    by_cases hlt : k < N
    · have hx1 := ints_call hbw hx
      have hy1 := ints_call hbw hy
      obtain ⟨a1, rfl, hl1, e1⟩ := hx1.at_ (k := k) (by rw [HPL.out]; exact hlt)
      obtain ⟨a2, rfl, hl2, e2⟩ := hy1.at_ (k := k) (by rw [HTL.out]; exact hlt)
      have hpn := hp.nat (i := k) (by rw [HPL.out]; exact hlt)
      have htn := ht.nat (i := k) (by rw [HTL.out]; exact hlt)
      rw [hpn.1] at e1
      rw [htn.1] at e2
      have o1 := HO.out.at_ (c := k) (by omega)
      have o2 : wr.frozen? ⟨w.heap.size + 1 + 1, k, none⟩ = false := frozen_of_row HO.out k
      have p15 := hpn.2
      have t3 := htn.2
      obtain ⟨p, hpe⟩ : ∃ p, p = (nth ps k).toNat := ⟨_, rfl⟩
      obtain ⟨q, hqe⟩ : ∃ q, q = (nth ts k).toNat := ⟨_, rfl⟩
      rw [← hpe] at e1 p15
      rw [← hqe] at e2 t3
      have HPQ := Lib.hid (And.intro hpe hqe)
      clear hpn htn hx1 hy1 hx hy hp ht hpe hqe
      go_wp2_with fail
      refine (turned_any p q _ p15 t3).mono ?_
      rintro e w4 ⟨rfl, hb4⟩
      have hsr := hK.size
      have HO4 := Lib.hid (show OpenAt w4 (w.heap.size + 1 + 1) (opF ps ts k) from (hb4.block _ (by omega)).trans HO.out)
      have o3 := HO4.out.at_ (c := k) (by omega)
      have o4 : w4.frozen? ⟨w.heap.size + 1 + 1, k, none⟩ = false := frozen_of_row HO4.out k
      have HN : Hid (OpenAt (w4.setCell ⟨w.heap.size + 1 + 1, k, none⟩ (I (rotN p q : Nat))) (w.heap.size + 1 + 1) (opF ps ts (k + 1))) := Lib.hid (by
        have h := row_set HO4.out k (I (rotN p q : Nat))
        rw [ocells_set _ k _ (by omega)] at h
        rw [opF_step, ← HPQ.out.1, ← HPQ.out.2]
        exact h)
      have hK2 : KB (w.heap.size + 1 + 1) w1 (w4.setCell ⟨w.heap.size + 1 + 1, k, none⟩ (I (rotN p q : Nat))) := (hK.trans (KB.of_below hb4)).trans (KB.setCell _ _)
      clear hb4 HO hK hbw o1 o2 e1 e2
      go_wp2
      go_roundw
      case rel => exact ⟨k + 1, by omega, by go_num, HN, hK2⟩
      case measure => simp [intOf]; omega
    · obtain rfl : k = N := by omega
      have hsr := hK.size
      have y0r := (hK.block w.heap.size (by omega) (by omega)).trans Y0.out
      have y1r := (hK.block (w.heap.size + 1) (by omega) (by omega)).trans Y1.out
      obtain ⟨w5, hw5, hs5, y5, hb5⟩ := one_box wr (.cells (fcells (fun _ => false) 0) 108)
      have hw6 : w5 = wr.alloc (.cells #[.bool false, .bool false, .bool false, .bool false, .bool false, .bool false, .bool false, .bool false, .bool false, I 0] 108) := hw5
      have z0 := (hb5.block _ (by omega)).trans y0r
      have z1 := (hb5.block _ (by omega)).trans y1r
      have hO5 : OpenAt w5 (w.heap.size + 1 + 1) (opF ps ts k) := (hb5.block _ (by omega)).trans HO.out
      have f0 : w5.cell? ⟨w.heap.size, 0, none⟩ = some (I W) := cell_of_row w5 _ 0 _ _ _ z0
      have f1 : w5.cell? ⟨w.heap.size, 1, none⟩ = some (I H) := cell_of_row w5 _ 1 _ _ _ z0
      have f2 : w5.cell? ⟨w.heap.size, 2, none⟩ = some (I fr) := cell_of_row w5 _ 2 _ _ _ z0
      have f3 : w5.cell? ⟨w.heap.size, 3, none⟩ = some (I tt) := cell_of_row w5 _ 3 _ _ _ z0
      have f4 : w5.cell? ⟨w.heap.size, 4, none⟩ = some (.slice A1 k c1) := cell_of_row w5 _ 4 _ _ _ z0
      have hd0 := dry_le (fun _ => false)
      have hNW := HNW.out
      have hcall := spread_any W H (opF ps ts k) fr tt A1 k c1 hW hW9 hH (by omega) (opF_le ps ts k) (dryN (fun _ => false)) (fun _ => false) 0 fr w5 wr.heap.size (w.heap.size + 1 + 1) (Nat.le_refl _) (by omega) (by omega) (by omega) (by omega) (by omega) y5 hO5
      have Z1 := Lib.hid z1
      have hbw : Below w.heap.size w w5 := (hb1.trans (hK.below (by omega) (by omega))).trans (hb5.mono (by omega))
      clear hw5 y0r y1r z0 z1 HO hK hNW hb5 y5 hO5 hd0
      go_upto_region 8 with fail
      rw [← hw6]
      clear hw6
      go_wp2_with fail
      refine hcall.mono ?_
      rintro e w6 ⟨rfl, T, m, hF, hS, hK6⟩
      have x1 : w6.heap[w.heap.size + 1]? = _ := (hK6.block (w.heap.size + 1) (by omega) (by omega)).trans Z1.out
      have hB6 : Below w.heap.size w w6 := hbw.trans (hK6.below (by omega) (by omega))
      have t0 := (hF.wet (c := 0) (by omega)).1
      have t1 := (hF.wet (c := 1) (by omega)).1
      have t2 := (hF.wet (c := 2) (by omega)).1
      have t3 := (hF.wet (c := 3) (by omega)).1
      have t4 := (hF.wet (c := 4) (by omega)).1
      have t5 := (hF.wet (c := 5) (by omega)).1
      have t6 := (hF.wet (c := 6) (by omega)).1
      have t7 := (hF.wet (c := 7) (by omega)).1
      have t8 := (hF.wet (c := 8) (by omega)).1
      have t9 := hF.leaks.1
      have p0 : w6.cell? ⟨w.heap.size + 1, 0, none⟩ = some (.bool false) := cell_of_row w6 _ 0 _ _ _ x1
      have r0 : w6.frozen? ⟨w.heap.size + 1, 0, none⟩ = false := frozen_of_row x1 0
      have p1 : w6.cell? ⟨w.heap.size + 1, 1, none⟩ = some (.bool false) := cell_of_row w6 _ 1 _ _ _ x1
      have r1 : w6.frozen? ⟨w.heap.size + 1, 1, none⟩ = false := frozen_of_row x1 1
      have p2 : w6.cell? ⟨w.heap.size + 1, 2, none⟩ = some (.bool false) := cell_of_row w6 _ 2 _ _ _ x1
      have r2 : w6.frozen? ⟨w.heap.size + 1, 2, none⟩ = false := frozen_of_row x1 2
      have p3 : w6.cell? ⟨w.heap.size + 1, 3, none⟩ = some (.bool false) := cell_of_row w6 _ 3 _ _ _ x1
      have r3 : w6.frozen? ⟨w.heap.size + 1, 3, none⟩ = false := frozen_of_row x1 3
      have p4 : w6.cell? ⟨w.heap.size + 1, 4, none⟩ = some (.bool false) := cell_of_row w6 _ 4 _ _ _ x1
      have r4 : w6.frozen? ⟨w.heap.size + 1, 4, none⟩ = false := frozen_of_row x1 4
      have p5 : w6.cell? ⟨w.heap.size + 1, 5, none⟩ = some (.bool false) := cell_of_row w6 _ 5 _ _ _ x1
      have r5 : w6.frozen? ⟨w.heap.size + 1, 5, none⟩ = false := frozen_of_row x1 5
      have p6 : w6.cell? ⟨w.heap.size + 1, 6, none⟩ = some (.bool false) := cell_of_row w6 _ 6 _ _ _ x1
      have r6 : w6.frozen? ⟨w.heap.size + 1, 6, none⟩ = false := frozen_of_row x1 6
      have p7 : w6.cell? ⟨w.heap.size + 1, 7, none⟩ = some (.bool false) := cell_of_row w6 _ 7 _ _ _ x1
      have r7 : w6.frozen? ⟨w.heap.size + 1, 7, none⟩ = false := frozen_of_row x1 7
      have p8 : w6.cell? ⟨w.heap.size + 1, 8, none⟩ = some (.bool false) := cell_of_row w6 _ 8 _ _ _ x1
      have r8 : w6.frozen? ⟨w.heap.size + 1, 8, none⟩ = false := frozen_of_row x1 8
      have p9 : w6.cell? ⟨w.heap.size + 1, 9, none⟩ = some (I 0) := cell_of_row w6 _ 9 _ _ _ x1
      have r9 : w6.frozen? ⟨w.heap.size + 1, 9, none⟩ = false := frozen_of_row x1 9
      have X1 := Lib.hid x1
      clear f0 f1 f2 f3 f4 hcall x1 hF hK6 Z1
      go_wp2_with fail
      have g0 := row_set X1.out 0 (.bool (T 0))
      have g1 := row_set g0 1 (.bool (T 1))
      have g2 := row_set g1 2 (.bool (T 2))
      have g3 := row_set g2 3 (.bool (T 3))
      have g4 := row_set g3 4 (.bool (T 4))
      have g5 := row_set g4 5 (.bool (T 5))
      have g6 := row_set g5 6 (.bool (T 6))
      have g7 := row_set g6 7 (.bool (T 7))
      have g8 := row_set g7 8 (.bool (T 8))
      have g9 := row_set g8 9 (.int .i64 m)
      rw [fcells_all] at g9
      have hrow := g9
      clear g0 g1 g2 g3 g4 g5 g6 g7 g8 g9
      refine bodyPost_ret (results_cell_row (p := 4) (ty := 108) (cs := fcells T m) res_water _ _ (w.heap.size + 1) 108 (0, 0) _ rfl hrow Try.underlying108 rfl info_flow) rfl ?_
      exact ⟨T, m, rfl, hS, ((((((((((hB6.setCell (p := ⟨w.heap.size + 1, 0, none⟩) (by show w.heap.size ≤ w.heap.size + 1; omega) _).setCell (p := ⟨w.heap.size + 1, 1, none⟩) (by show w.heap.size ≤ w.heap.size + 1; omega) _).setCell (p := ⟨w.heap.size + 1, 2, none⟩) (by show w.heap.size ≤ w.heap.size + 1; omega) _).setCell (p := ⟨w.heap.size + 1, 3, none⟩) (by show w.heap.size ≤ w.heap.size + 1; omega) _).setCell (p := ⟨w.heap.size + 1, 4, none⟩) (by show w.heap.size ≤ w.heap.size + 1; omega) _).setCell (p := ⟨w.heap.size + 1, 5, none⟩) (by show w.heap.size ≤ w.heap.size + 1; omega) _).setCell (p := ⟨w.heap.size + 1, 6, none⟩) (by show w.heap.size ≤ w.heap.size + 1; omega) _).setCell (p := ⟨w.heap.size + 1, 7, none⟩) (by show w.heap.size ≤ w.heap.size + 1; omega) _).setCell (p := ⟨w.heap.size + 1, 8, none⟩) (by show w.heap.size ≤ w.heap.size + 1; omega) _).setCell (p := ⟨w.heap.size + 1, 9, none⟩) (by show w.heap.size ≤ w.heap.size + 1; omega) _)⟩
end Go.Proofs.Ytfjincdlenneaaa

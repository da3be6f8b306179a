/-
  THE ITERATOR 'plumbings': the turns that solve pipes, in order. (Written by gen/plb_make.py.)
-/
import Derived.Test.YtglkjiimmlobbaaPzRFlw
import Derived.Test.YtglkjiimmlobbaaPzChpS
namespace Go.Proofs.Ytglkjiimmlobbaa
open Go.RowKit Go.Shelf
attribute [local go_sem] Oper.semAt_some
/-- all turns -/
def allT (n : Nat) : List (List Int) := (List.range (4 ^ n)).map (dig 4 n)
theorem allT_length (n : Nat) : (allT n).length = 4 ^ n := by simp [allT]
theorem allT_at (n k : Nat) (hk : k < (allT n).length) : (allT n)[k] = dig 4 n k := by simp [allT]
theorem turns_row (n k : Nat) : rowG 0 (nth (dig 4 n k)) n = (dig 4 n k).map I := by
  refine List.ext_getElem (by simp [rowG, dig_length]) fun i h1 h2 => ?_
  have hi : i < n := by simpa [rowG] using h1
  simp only [rowG, List.getElem_map, List.getElem_range]
  rw [← nth_lt (by rw [dig_length]; exact hi)]
  simp
theorem turns_nums (n k : Nat) : Nums 3 (dig 4 n k) := by
  intro i hi
  have := dig_bounds (s := 4) (by omega) n k (nth (dig 4 n k) i) (by rw [nth_lt hi]; exact List.getElem_mem _)
  omega
/-- do turns solve the pipes? -/
noncomputable def solB (W H N fr tt : Nat) (ps ts : List Int) : Bool := wetC W H (opF ps ts N) fr tt && (lkC W H (opF ps ts N) fr == 0)
noncomputable def plbL (W H N fr tt : Nat) (ps : List Int) : List (List Int) := (allT N).filter (solB W H N fr tt ps)
theorem cells_ex (W H N : Nat) (fr tt : Int) (w : World) (hW : W ≤ 9) (hH : H ≤ 9) (hN : N = W * H) :
    Calls Try.prog 97 #[gridI W H fr tt] w fun e w' => e = .returned (I (N : Nat)) ∧ w' = w.alloc (.cells #[I W, I H, I fr, I tt] 101) := by
  obtain ⟨w1, hw1, hs1, y0, hb1⟩ := one_box w (.cells #[I W, I H, I fr, I tt] 101)
  have b0 : w1.cell? ⟨w.heap.size, 0, none⟩ = some (I W) := cell_of_row w1 _ 0 _ _ _ y0
  have b1 : w1.cell? ⟨w.heap.size, 1, none⟩ = some (I H) := cell_of_row w1 _ 1 _ _ _ y0
  have k2 : W * H ≤ 81 := Nat.mul_le_mul hW hH
  have en : (W : Int) * (H : Int) = (N : Nat) := by rw [hN]; simp
  have ew : IntKind.i64.wrap ((W : Int) * (H : Int)) = (N : Nat) := by rw [en]; exact (IntWalk.i64_left _).trans (IntWalk.wrap64_in _ ⟨by omega, by omega⟩)
  have ew2 : wrap64 ((W : Int) * (H : Int)) = (N : Nat) := by rw [en]; exact IntWalk.wrap64_in _ ⟨by omega, by omega⟩
  have HW := Lib.hid hw1
  clear y0 hs1 en hN
  go_enter Try.func97, Try.ntmps97
  go_upto_region 1 with fail
  rw [← hw1]
  clear hw1
  go_wp2
  go_ret
  exact ⟨rfl, HW.out⟩
theorem six_boxes (w : World) (o0 o1 o2 o3 o4 o5 : Obj) : ∃ w1, w1 = (((((w.alloc o0).alloc o1).alloc o2).alloc o3).alloc o4).alloc o5 ∧ w1.heap.size = w.heap.size + 6 ∧ w1.heap[w.heap.size]? = some o0 ∧ w1.heap[w.heap.size + 1]? = some o1 ∧ w1.heap[w.heap.size + 1 + 1 + 1]? = some o3 ∧ w1.heap[w.heap.size + 1 + 1 + 1 + 1]? = some o4 ∧ w1.heap[w.heap.size + 1 + 1 + 1 + 1 + 1]? = some o5 ∧ Below w.heap.size w w1 := by
  obtain ⟨w5, h5, s5, a0, a1, a2, a3, a4, b5⟩ := five_boxes w o0 o1 o2 o3 o4
  obtain ⟨w6, h6, s6, a6, b6⟩ := one_box w5 o5
  refine ⟨w6, by rw [h6, h5], by omega, (b6.block _ (by omega)).trans a0, (b6.block _ (by omega)).trans a1, (b6.block _ (by omega)).trans a3, (b6.block _ (by omega)).trans a4, ?_, b5.trans (b6.mono (by omega))⟩
  rw [← s5] ; exact a6

set_option maxRecDepth 100000 in
set_option maxHeartbeats 2000000 in
theorem plumbings_iter (W H N fr tt : Nat) (A1 : Option Addr) (c1 : Nat) (ps : List Int) (hW : 1 ≤ W) (hW9 : W ≤ 9) (hH : H ≤ 9) (HNW : Hid (N = W * H)) (hN : N ≤ 9) (hfr : fr < N) (htt : tt < N) (HPL : Hid (ps.length = N)) (HP : Hid (Nums 15 ps)) (m B : Nat) (hm : 8 ≤ m) (W0 : World) (hB : B ≤ W0.heap.size) :
    IterR Fence.wide m Try.prog 101 #[pipesV W H fr tt A1 N c1] #[] (plbL W H N fr tt ps).length (lstE (W0.heap.size + 9) N (plbL W H N fr tt ps)) (fun w => IntsR w B A1 ps) 10 W0 := by
  intro l J Jx hJ hJx hG hY h0
  have hm1 : 1 ≤ m := by omega
  show CallsIn Fence.wide m Try.prog 101 #[pipesV W H fr tt A1 N c1, .func (.yield l) #[] #[]] W0 _
  refine callsIn_of_wp_marks Try.func101 rfl trivial ?_ rfl
  simp only [Try.ntmps101, List.size_toArray, List.length_cons, List.length_nil, Nat.reduceAdd, Nat.reduceSub, Array.replicate_succ, Array.replicate_zero, List.push_toArray, List.append_toArray, List.nil_append, List.cons_append]
  gi_wp2_with fail
  refine ⟨trivial, ?_⟩
  refine (callsIn_wide.2 (cells_ex W H N fr tt _ hW9 hH HNW.out)).mono ?_
  rintro e w' ⟨rfl, rfl⟩
  gi_wp2_with fail
  refine ⟨trivial, ?_⟩
  refine (callsIn_wide.2 (lists_any _ _ _ _)).mono ?_
  rintro e w' ⟨rfl, rfl⟩
  gi_wp2_with fail
  obtain ⟨w, hw1, hsw, y0, y1, y2, y3, y4, hbw⟩ := six_boxes W0 (.cells #[I W, I H, I fr, I tt, .slice A1 N c1] 103) (.cells #[.func (.yield l) #[] #[]] 36) (.cells #[I W, I H, I fr, I tt] 101) (.cells #[I N] 3) (.cells #[I 0] 3) (.cells #[I 3] 3)
  rw [← hw1]
  clear hw1
  refine wpIn_loopR rfl hm1 (gf := 153) (fa := #[]) (lb := #[.pointer (some ⟨W0.heap.size + 1 + 1 + 1 + 1, 0, none⟩), .pointer (some ⟨W0.heap.size + 1 + 1 + 1, 0, none⟩), .pointer (some ⟨W0.heap.size + 1 + 1 + 1 + 1 + 1, 0, none⟩)]) rfl trivial (enters_of Try.func153 (by kernel_rfl) rfl)
    (m := 4 ^ N) (E := fun s => rowE 0 4 N (s + 1)) (G := fun V => V.cell? ⟨W0.heap.size + 1 + 1 + 1, 0, none⟩ = some (I N) ∧ V.cell? ⟨W0.heap.size + 1 + 1 + 1 + 1, 0, none⟩ = some (I 0) ∧ V.cell? ⟨W0.heap.size + 1 + 1 + 1 + 1 + 1, 0, none⟩ = some (I (0 + (4 : Nat) - 1))) 2
    (fun V hV _ hs => lists_iter N 4 0 (by omega) (by omega) (by omega) (by omega) (by omega) (W0.heap.size + 1 + 1 + 1) (W0.heap.size + 1 + 1 + 1 + 1) (W0.heap.size + 1 + 1 + 1 + 1 + 1) (m - 1) w.heap.size (by omega) V hV.size (by omega) (by omega) (by omega)) rfl
    (fun k V => J (rkF (solB W H N fr tt ps) (allT N) k) V ∧ ∀ b, W0.heap.size ≤ b → b < W0.heap.size + 6 → V.heap[b]? = w.heap[b]?)
    (fun c _ V => c = .ret ∧ ∃ j, 0 < j ∧ j ≤ (plbL W H N fr tt ps).length ∧ Jx j V)
    (fun k X Y h hb => ⟨hJ _ _ _ h.1 (hb.mono (by omega) (by omega)), fun b b1 b2 => (hb.low.block _ (by omega)).trans (h.2 b b1 b2)⟩)
    (fun c k X Y h hb => ⟨h.1, by obtain ⟨_, j, j1, j2, j3⟩ := h; exact ⟨j, j1, j2, hJx _ _ _ j3 (hb.mono (by omega) (by omega))⟩⟩)
    ?toG ⟨hJ _ _ _ h0 (.of_below hbw (Nat.le_refl _) (Nat.le_refl _)), fun _ _ _ => rfl⟩ ?round ?done ?stop
  case toG =>
    rintro k X ⟨_, hb⟩
    exact ⟨cell_of_row X _ 0 _ _ _ ((hb _ (by omega) (by omega)).trans y2), cell_of_row X _ 0 _ _ _ ((hb _ (by omega) (by omega)).trans y3), cell_of_row X _ 0 _ _ _ ((hb _ (by omega) (by omega)).trans y4)⟩
  case round =>
    rintro l' k hk X v hl1 hl2 hl3 ⟨hJX, hX5⟩ ⟨rfl, hrX⟩
    gi_wp2
    refine ⟨Below.refl _ _, fun o => ?_⟩
    obtain ⟨Y, hYd⟩ : ∃ Y, Y = X.putObj l' o := ⟨_, rfl⟩
    rw [← hYd]
    have hXYD : BelowD W0.heap.size (W0.heap.size + 10) X Y := by
      rw [hYd]; exact .putObj _ _ (by omega) (by omega)
    have hrY : Y.heap[W0.heap.size + 9]? = some (.cells ((dig 4 N k).map I).toArray 3 (0, 0)) := by
      rw [hYd, ← turns_row]; refine (World.putObj_heap_other (by omega)).trans ?_
      rw [hsw] at hrX
      exact hrX
    have hY5 : ∀ b, W0.heap.size ≤ b → b < W0.heap.size + 6 → Y.heap[b]? = w.heap[b]? := fun b h1 h2 => by
      rw [hYd]; exact (World.putObj_heap_other (by omega)).trans (hX5 b h1 h2)
    have hJY : J (rkF (solB W H N fr tt ps) (allT N) k) Y := hJ _ _ _ hJX hXYD
    have hszY := row_lt' hrY
    have z0 := (hY5 _ (by omega) (by omega)).trans y0
    have z1 := (hY5 _ (by omega) (by omega)).trans y1
    have hx : IntsR Y Y.heap.size A1 ps := (hG _ _ hJY).more (by omega)
    have hkl : k < (allT N).length := by rw [allT_length]; exact hk
    have b0 : Y.cell? ⟨W0.heap.size, 0, none⟩ = some (I W) := cell_of_row Y _ 0 _ _ _ z0
    have b1 : Y.cell? ⟨W0.heap.size, 1, none⟩ = some (I H) := cell_of_row Y _ 1 _ _ _ z0
    have b2 : Y.cell? ⟨W0.heap.size, 2, none⟩ = some (I fr) := cell_of_row Y _ 2 _ _ _ z0
    have b3 : Y.cell? ⟨W0.heap.size, 3, none⟩ = some (I tt) := cell_of_row Y _ 3 _ _ _ z0
    have b4 : Y.cell? ⟨W0.heap.size, 4, none⟩ = some (.slice A1 N c1) := cell_of_row Y _ 4 _ _ _ z0
    have hszX : W0.heap.size + 10 ≤ X.heap.size := by omega
    have Z00 := Lib.hid z0
    clear hYd z0 y0 y1 y2 y3 y4 hrX hX5 hJX
    rw [show W0.heap.size + 6 + 2 + 1 = W0.heap.size + 9 from rfl]
    gi_wp2_with fail
    refine ⟨trivial, fun _ => by omega, ?_⟩
    have hcall := water_w W H fr N tt A1 (some ⟨W0.heap.size + 9, 0, none⟩) c1 N ps (dig 4 N k) Y hW hW9 hH HNW.out hN hfr HPL.out (dig_length _ _ _) HP.out (turns_nums N k) hx (ints_row hrY hszY)
    have HGD := Lib.hid (show solB W H N fr tt ps (dig 4 N k) = (wetC W H (opF ps (dig 4 N k) N) fr tt && (lkC W H (opF ps (dig 4 N k) N) fr == 0)) from rfl)
    generalize wetC W H (opF ps (dig 4 N k) N) fr = T at hcall HGD
    have hlk := lkC_le W H (opF ps (dig 4 N k) N) fr
    generalize lkC W H (opF ps (dig 4 N k) N) fr = lk at hcall HGD hlk
    refine (CallsIn.inRound l' (callsIn_wide.2 hcall)).mono ?_
    rintro e Z0 ⟨rfl, hYZ0⟩
    simp only [fcells]
    clear hcall b0 b1 b2 b4
    gi_upto_region 4 with fail
    obtain ⟨Z, hZd, hsZ, hFZ, hbZ⟩ := one_box Z0 (.cells (fcells T lk) 108)
    have hZd' : Z = Z0.alloc (.cells #[.bool (T 0), .bool (T 1), .bool (T 2), .bool (T 3), .bool (T 4), .bool (T 5), .bool (T 6), .bool (T 7), .bool (T 8), I lk] 108) := hZd
    rw [← hZd']
    have hYZ : Below Y.heap.size Y Z := hYZ0.trans (hbZ.mono hYZ0.size)
    have hFA : FlowAt Z Z0.heap.size T lk := hFZ
    have v1 : Z.cell? ⟨Z0.heap.size, tt, none⟩ = some (.bool (T tt)) := (hFA.wet (c := tt) (by omega)).1
    have v2 : Z.cell? ⟨Z0.heap.size, 9, none⟩ = some (I lk) := hFA.leaks.1
    have hsZ0 := hYZ0.size
    have v3 : Z.cell? ⟨W0.heap.size, 3, none⟩ = some (I tt) := cell_of_row Z _ 3 _ _ _ ((hYZ.block _ (by omega)).trans Z00.out)
    clear hZd hZd' hFZ hFA hbZ hYZ0 b3
    have hYZD : BelowD W0.heap.size (W0.heap.size + 10) Y Z := .of_below hYZ (Nat.le_refl _) (by omega)
    have zc : Z.cell? ⟨W0.heap.size + 1, 0, none⟩ = some (.func (.yield l) #[] #[]) := cell_of_row Z _ 0 _ _ _ ((hYZ.block _ (by omega)).trans z1)
    have hrZ := (hYZ.block _ hszY).trans hrY
    have hZ5 : ∀ b, W0.heap.size ≤ b → b < W0.heap.size + 6 → Z.heap[b]? = w.heap[b]? := fun b h1 h2 => (hYZ.block _ (by omega)).trans (hY5 b h1 h2)
    have hJZ : J (rkF (solB W H N fr tt ps) (allT N) k) Z := hJ _ _ _ hJY hYZD
    have hsz2 := hYZ.size
    have HZ := Lib.hid hrZ
    have htt9 : tt < 9 := by omega
    clear z1 hrY hY5 hJY hx hrZ
    cases hT : T tt
    · have hgd : solB W H N fr tt ps (dig 4 N k) = false := by rw [HGD.out, hT]; rfl
      rw [hT] at v1
      clear hT HGD
      have HQ := Lib.hid (rkF_no (p := solB W H N fr tt ps) hkl (by rw [allT_at]; exact hgd))
      clear hgd hkl
      gi_wp2_with fail
      refine ⟨fun _ h => (by cases h), ?_⟩
      gi_wp2
      refine ⟨.of_call hYZ (Nat.le_refl _), ?_, hZ5⟩
      rw [HQ.out]
      exact hJZ
    · cases hl : (lk == 0)
      · have hgd : solB W H N fr tt ps (dig 4 N k) = false := by rw [HGD.out, hT, hl]; rfl
        have hq : ((lk : Int) == 0) = false := by simp at hl; simp; omega
        rw [hT] at v1
        clear hT HGD hl
        have HQ := Lib.hid (rkF_no (p := solB W H N fr tt ps) hkl (by rw [allT_at]; exact hgd))
        clear hgd hkl
        gi_wp2_with fail
        refine ⟨fun _ h => (by cases h), ?_⟩
        gi_wp2
        refine ⟨.of_call hYZ (Nat.le_refl _), ?_, hZ5⟩
        rw [HQ.out]
        exact hJZ
      · have hgd : solB W H N fr tt ps (dig 4 N k) = true := by rw [HGD.out, hT, hl]; rfl
        have hq : ((lk : Int) == 0) = true := by simp at hl; simp; omega
        rw [hT] at v1
        obtain ⟨e1, hr, e2⟩ := rkF_yes (p := solB W H N fr tt ps) hkl (by rw [allT_at]; exact hgd)
        rw [allT_at] at e2
        obtain ⟨fn, tmps, assign, body, hy, hR⟩ := hY _ hr Z (.slice (some ⟨W0.heap.size + 9, 0, none⟩) N N) (by omega) hJZ ⟨rfl, by rw [plbL, e2]; exact HZ.out⟩
        have hR' : RoundIn (Fence.wide.inRound l') (m - 1 - 1 - 1) Try.prog l fn tmps assign body Z _ := ⟨hR.1, fun c cs _ => hR.2 c cs (room_wide _)⟩
        have E1 := Lib.hid e1
        clear hR hgd e1 e2 hkl hT HGD hl
        gi_wp2_with fail
        refine ⟨fun _ => by omega, hR'.mono ?_⟩
        rintro e V (⟨rfl, hJ3, hk3⟩ | ⟨rfl, hJx3, hk3⟩)
        · gi_wp2
          refine ⟨.trans (.of_call hYZ (Nat.le_refl _)) (hk3.mono (by omega) (by omega)), by rw [E1.out]; exact hJ3, fun b h1 h2 => (hk3.same _ h1 (by omega) (by omega)).trans (hZ5 b h1 h2)⟩
        · gi_wp2
          exact ⟨.trans (.of_call hYZ (Nat.le_refl _)) (hk3.mono (by omega) (by omega)), rfl, _, by omega, hr, hJx3⟩
  case done =>
    rintro X ⟨hJX, hX5⟩ hK
    have e := rkF_all (solB W H N fr tt ps) (allT N)
    rw [allT_length] at e
    rw [e] at hJX
    clear e y0 y1 y2 y3 y4
    gi_wp2
    refine ⟨by simp, .inl ⟨_, _, rfl, run_takeDeferred hK, ?_⟩⟩
    refine ⟨_, results_none rfl _ _ _, ⟨_, rfl⟩, .inl ?_⟩
    exact hJ _ _ _ hJX (.putObj _ _ (by omega) (by omega))
  case stop =>
    rintro c' k X k0 k1 ⟨rfl, j, j0, j1, hj⟩ hK
    clear y0 y1 y2 y3 y4
    gi_wp2
    refine ⟨by simp, .inl ⟨_, _, rfl, run_takeDeferred hK, ?_⟩⟩
    refine ⟨_, results_none rfl _ _ _, ⟨_, rfl⟩, .inr ⟨j, j0, j1, ?_⟩⟩
    exact hJx _ _ _ hj (.putObj _ _ (by omega) (by omega))
end Go.Proofs.Ytglkjiimmlobbaa

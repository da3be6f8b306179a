/-
  THE ITERATOR OF 'readings': the codes in which all clues hold, in order.
-/
import Derived.Test.YthegmomjfbcabaaDoorAll
namespace Go.Proofs.YthegmomjfbcabaaDoor
open Go.RowKit Go.Shelf
attribute [local go_sem] Oper.semAt_some
/-- does the code satisfy all clues -/
def good (W : Nat) (cs : List Cl) (r : List Int) : Bool := decide (brk W r cs 0 < 0)
def readings (W S : Nat) (cs : List Cl) : List (List Int) := (allCodes W S).filter (good W cs)
/-- of the first k, how many are good -/
def rk (W : Nat) (cs : List Cl) (xs : List (List Int)) (k : Nat) : Nat := ((xs.take k).filter (good W cs)).length
theorem rk_zero (W cs xs) : rk W cs xs 0 = 0 := rfl
theorem rk_all (W cs xs) : rk W cs xs xs.length = (xs.filter (good W cs)).length := by simp [rk]
theorem rk_yes {W cs} {xs : List (List Int)} {k : Nat} (hk : k < xs.length) (h : good W cs xs[k] = true) :
    rk W cs xs (k + 1) = rk W cs xs k + 1 ∧ ∃ hr : rk W cs xs k < (xs.filter (good W cs)).length, (xs.filter (good W cs))[rk W cs xs k] = xs[k] := by
  have e : xs = xs.take k ++ xs[k] :: xs.drop (k + 1) := by rw [← List.drop_eq_getElem_cons hk, List.take_append_drop]
  have e2 : xs.filter (good W cs) = (xs.take k).filter (good W cs) ++ xs[k] :: (xs.drop (k + 1)).filter (good W cs) := by
    conv => lhs; rw [e, List.filter_append, List.filter_cons_of_pos h]
  refine ⟨?_, ?_⟩
  · rw [rk, List.take_add_one, List.getElem?_eq_getElem hk, List.filter_append]; simp [rk, h]
  · refine ⟨by rw [e2]; simp [rk], ?_⟩
    have : (xs.filter (good W cs))[rk W cs xs k]? = some xs[k] := by
      rw [e2, List.getElem?_append_right (by simp [rk])]
      simp [rk]
    exact (List.getElem_eq_iff _).2 this
theorem rk_no {W cs} {xs : List (List Int)} {k : Nat} (hk : k < xs.length) (h : good W cs xs[k] = false) : rk W cs xs (k + 1) = rk W cs xs k := by
  rw [rk, List.take_add_one, List.getElem?_eq_getElem hk, List.filter_append]; simp [rk, h]
theorem dig_Sym (S W k : Nat) (hS : 0 < S) (hS10 : S ≤ 10) : Sym (dig S W k) W := by
  intro i hi
  have := dig_bounds hS W k (nth (dig S W k) i) (by rw [nth_lt (by rw [dig_length]; omega)]; exact List.getElem_mem _)
  omega

set_option maxRecDepth 100000 in
set_option maxHeartbeats 2000000 in
theorem readings_iter (W S : Nat) (hW : 1 ≤ W) (hW4 : W ≤ 4) (hS : 2 ≤ S) (hS10 : S ≤ 10) (cs : List Cl) (hv : cluesB W S cs = true) (hl : cs.length ≤ maxLen) (A : Option Addr) (c b0 b1 : Nat) (n : Nat) (hn : 8 ≤ n) (B B' : Nat) (hB' : B' ≤ B) (W0 : World) (hB : B ≤ W0.heap.size)
    (hb0 : b0 < B) (hb1 : b1 < B) :
    Iter Fence.wide n Tryd.prog 109 #[] #[.pointer (some ⟨b0, 0, none⟩), .pointer (some ⟨b1, 0, none⟩)] rowV (readings W S cs)
      (fun w => w.cell? ⟨b0, 0, none⟩ = some (I W) ∧ w.cell? ⟨b0, 1, none⟩ = some (I S) ∧ w.cell? ⟨b1, 0, none⟩ = some (.slice A cs.length c) ∧ ClsR w B' A cs ∧ B ≤ w.heap.size) W0 := by
  intro l J Jx hJ hJx hG hY h0
  have hL : lockOk W S = true := by simp [lockOk, wi]; omega
  show CallsIn Fence.wide n Tryd.prog 109 #[.func (.yield l) #[] #[], .pointer (some ⟨b0, 0, none⟩), .pointer (some ⟨b1, 0, none⟩)] W0 _
  refine callsIn_of_wp_marks Tryd.func109 rfl trivial ?_ rfl
  simp only [Tryd.ntmps109, List.size_toArray, List.length_cons, List.length_nil, Nat.reduceAdd, Nat.reduceSub, Array.replicate_succ, Array.replicate_zero, List.push_toArray, List.append_toArray, List.nil_append, List.cons_append]
  have hG0 := hG 0 _ h0
  obtain ⟨g0, g1, g2, gc, _⟩ := hG0
  have hn1 : 1 ≤ n := by omega
  have hb0' : b0 < W0.heap.size := by omega
  have hb1' : b1 < W0.heap.size := by omega
  gi_wp2
  obtain ⟨w, hw⟩ : ∃ w, w = W0.alloc (.cells #[.func (.yield l) #[] #[]] 139) := ⟨_, rfl⟩
  rw [← hw]
  have hbw : Below W0.heap.size W0 w := by rw [hw]; exact (Below.refl _ _).alloc (Nat.le_refl _) _
  have hsw : w.heap.size = W0.heap.size + 1 := by rw [hw]; simp
  have hyw : w.heap[W0.heap.size]? = some (.cells #[.func (.yield l) #[] #[]] 139 (0, 0)) := by rw [hw]; exact alloc_obj _ _ _ rfl
  clear hw
  refine wpIn_loop rfl hn1 (gf := 89) (fa := #[lockV W S]) (lb := #[]) rfl trivial (enters_of Tryd.func89 (by kernel_rfl) rfl) (enc := rowV) (xs := allCodes W S) (G := fun _ => True)
    (fun W' _ _ => all_iter W S hW hW4 hS hS10 (n - 1) (by omega) _ W') rfl
    (fun k W' => J (rk W cs (allCodes W S) k) W' ∧ W'.heap[W0.heap.size]? = some (.cells #[.func (.yield l) #[] #[]] 139 (0, 0)))
    (fun c _ W' => c = .ret ∧ ∃ j, 0 < j ∧ j ≤ (readings W S cs).length ∧ Jx j W')
    (fun k X Y h hb => ⟨hJ _ _ _ h.1 (hb.mono (by omega)), (hb.block _ (by omega)).trans h.2⟩)
    (fun c k X Y h hb => ⟨h.1, by obtain ⟨_, j, j1, j2, j3⟩ := h; exact ⟨j, j1, j2, hJx _ _ _ j3 (hb.mono (by omega))⟩⟩)
    (fun _ _ _ => trivial) ⟨hJ _ _ _ h0 hbw, hyw⟩ ?round ?done ?stop
  case round =>
    rintro l' k hk X hl1 hl2 ⟨hJX, hyX⟩
    rw [allCodes_at]
    have hS0 : 0 < S := by omega
    have hsym := dig_Sym S W k hS0 hS10
    clear g0 g1 g2 gc
    gi_wp2
    refine ⟨(Below.refl _ _).alloc (Nat.le_refl _) _, fun o => ?_⟩
    obtain ⟨Y, hYd⟩ : ∃ Y, Y = (X.alloc (.cells #[I (nth (dig S W k) 0), I (nth (dig S W k) 1), I (nth (dig S W k) 2), I (nth (dig S W k) 3)] 87)).putObj l' o := ⟨_, rfl⟩
    rw [← hYd]
    have hXY : Below w.heap.size X Y := by
      rw [hYd]; exact ((Below.refl _ _).alloc (by omega) _).trans (below_putObj _ _ hl1)
    have hrY : Y.heap[X.heap.size]? = some (.cells #[I (nth (dig S W k) 0), I (nth (dig S W k) 1), I (nth (dig S W k) 2), I (nth (dig S W k) 3)] 87 (0, 0)) := by
      rw [hYd]; exact (World.putObj_heap_other (by omega)).trans (alloc_obj _ _ _ rfl)
    have hJY : J (rk W cs (allCodes W S) k) Y := hJ _ _ _ hJX (hXY.mono (by omega))
    have hyY := (hXY.block W0.heap.size (by omega)).trans hyX
    obtain ⟨g0, g1, g2, gc, gB⟩ := hG _ _ hJY
    have r0 : Y.cell? ⟨X.heap.size, 0, none⟩ = some (I (nth (dig S W k) 0)) := cell_of_row Y _ 0 _ _ _ hrY
    have r1 : Y.cell? ⟨X.heap.size, 1, none⟩ = some (I (nth (dig S W k) 1)) := cell_of_row Y _ 1 _ _ _ hrY
    have r2 : Y.cell? ⟨X.heap.size, 2, none⟩ = some (I (nth (dig S W k) 2)) := cell_of_row Y _ 2 _ _ _ hrY
    have r3 : Y.cell? ⟨X.heap.size, 3, none⟩ = some (I (nth (dig S W k) 3)) := cell_of_row Y _ 3 _ _ _ hrY
    have yc : Y.cell? ⟨W0.heap.size, 0, none⟩ = some (.func (.yield l) #[] #[]) := cell_of_row Y _ 0 _ _ _ hyY
    have HYR := Lib.hid hyY
    have HRR := Lib.hid hrY
    have hszY : X.heap.size < Y.heap.size := row_lt' hrY
    clear hYd hyY hrY hyX
    gi_wp2_with fail
    refine ⟨trivial, fun _ => by omega, ?_⟩
    refine (CallsIn.inRound l' (callsIn_wide.2 (broken_any W S hL cs hv (dig S W k) hsym A c _ (gc.more (Nat.le_trans hB' gB)) hl))).mono ?_
    rintro e Z ⟨rfl, hYZ⟩
    have hYZ' : Below W0.heap.size Y Z := hYZ.mono (by have := hXY.size; omega)
    have g0' := (hYZ'.cell (p := ⟨b0, 0, none⟩) (by show b0 < _; omega)).trans g0
    have ycZ : Z.cell? ⟨W0.heap.size, 0, none⟩ = some (.func (.yield l) #[] #[]) := (hYZ.cell (p := ⟨W0.heap.size, 0, none⟩) (by show W0.heap.size < _; have := row_lt' HYR.out; omega)).trans yc
    have rz := fun i => hYZ.cell (p := ⟨X.heap.size, i, none⟩) (by show X.heap.size < _; omega)
    have z0 := (rz 0).trans r0
    have z1 := (rz 1).trans r1
    have z2 := (rz 2).trans r2
    have z3 := (rz 3).trans r3
    have HYZ := Lib.hid ((hYZ.block W0.heap.size (row_lt' HYR.out)).trans HYR.out)
    have hJZ : J (rk W cs (allCodes W S) k) Z := hJ _ _ _ hJY hYZ'
    clear rz g0 g1 g2 r0 r1 r2 r3 yc
    cases hgd : good W cs (dig S W k)
    · have hq : ¬ brk W (dig S W k) cs 0 < 0 := by simpa [good] using hgd
      gi_wp2_with fail
      refine ⟨fun _ h => (by cases h), ?_⟩
      gi_wp2
      refine ⟨.of_below hYZ (Nat.le_refl _), ?_, HYZ.out⟩
      rw [rk_no hk (by rw [allCodes_at]; exact hgd)]
      exact hJZ
    · have hq : brk W (dig S W k) cs 0 < 0 := by simpa [good] using hgd
      obtain ⟨e1, hr, e2⟩ := rk_yes (W := W) (cs := cs) hk (by rw [allCodes_at]; exact hgd)
      rw [allCodes_at] at e2
      obtain ⟨fn, tmps, assign, body, hy, hR⟩ := hY _ hr Z hJZ
      have hR' : RoundIn (Fence.wide.inRound l') (n - 1 - 1 - 1) Tryd.prog l fn tmps assign body Z _ := ⟨hR.1, fun c cs _ => hR.2 c cs (room_wide _)⟩
      rw [show (readings W S cs)[rk W cs (allCodes W S) k]'hr = dig S W k from e2] at hy
      clear hR
      gi_wp2_with fail
      refine ⟨fun _ => by omega, hR'.mono ?_⟩
      rintro e V (⟨rfl, hJ3, hk3⟩ | ⟨rfl, hJx3, hk3⟩)
      · gi_wp2
        refine ⟨.trans (.of_below hYZ (Nat.le_refl _)) (hk3.more (by omega)), by rw [e1]; exact hJ3, ?_⟩
        exact (hk3.same _ (Nat.le_refl _) (row_lt' HYZ.out)).trans HYZ.out
      · gi_wp2
        exact ⟨.trans (.of_below hYZ (Nat.le_refl _)) (hk3.more (by omega)), rfl, _, by omega, hr, hJx3⟩
  case done =>
    rintro X ⟨hJX, hyX⟩ hK
    rw [rk_all] at hJX
    clear g0 g1 g2 gc
    gi_wp2
    refine ⟨by simp, .inl ⟨_, _, rfl, run_takeDeferred hK, ?_⟩⟩
    refine ⟨_, results_none rfl _ _ _, ⟨_, rfl⟩, .inl ?_⟩
    exact hJ _ _ _ hJX (below_putObj _ _ (by omega))
  case stop =>
    rintro c' k X k0 k1 ⟨rfl, j, j0, j1, hj⟩ hK
    clear g0 g1 g2 gc
    gi_wp2
    refine ⟨by simp, .inl ⟨_, _, rfl, run_takeDeferred hK, ?_⟩⟩
    refine ⟨_, results_none rfl _ _ _, ⟨_, rfl⟩, .inr ⟨j, j0, j1, ?_⟩⟩
    exact hJx _ _ _ hj (below_putObj _ _ (by omega))
end Go.Proofs.YthegmomjfbcabaaDoor

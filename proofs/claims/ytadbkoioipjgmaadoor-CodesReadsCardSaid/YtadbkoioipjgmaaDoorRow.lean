/-
  CONTRACTS: rowOf, counts.
-/
import Derived.Test.YtadbkoioipjgmaaDoorMem
import Derived.Laws.CopyOwn
import Derived.Deep.DeepMust
namespace Go.Proofs.YtadbkoioipjgmaaDoor
open Go.RowKit
def rowCells (c : List Int) : List Value := [I (nth c 0), I (nth c 1), I (nth c 2), I (nth c 3)]
abbrev rowV (c : List Int) : Value := .agg #[I (nth c 0), I (nth c 1), I (nth c 2), I (nth c 3)]
theorem splice_row (xs : List Int) (h : xs.length ≤ 4) : splice [I 0, I 0, I 0, I 0] 0 (xs.map I) = rowCells xs := by
  match xs, h with
  | [], _ => rfl
  | [_], _ => rfl
  | [_, _], _ => rfl
  | [_, _, _], _ => rfl
  | [_, _, _, _], _ => rfl

theorem info87 : (Tryd.prog.info? 87).map (·.size) = some 4 := by kernel_rfl
theorem info3 : (Tryd.prog.info? 3).map (·.size) = some 1 := by kernel_rfl

theorem size_two (w : World) (a b : Obj) : ((w.alloc a).alloc b).heap[w.heap.size + 1]? = some b := by
  have := heap_alloc_new (w.alloc a) b
  rwa [World.size_alloc] at this
theorem min_len (n : Nat) (h : n ≤ 4) : n = Nat.min n 4 := (Nat.min_eq_left h).symm
theorem row_cell {w : World} {g : Nat} {t : TypeId} {xs : List Int} (h : Hid (w.heap[g]? = some (.cells (splice [I 0, I 0, I 0, I 0] 0 (xs.map I)).toArray t (0, 0)))) (hl : xs.length ≤ 4) (j : Nat) (hj : j < 4) : w.cell? ⟨g, j, none⟩ = some (I (nth xs j)) := by
  have h' := h.out
  rw [splice_row xs hl] at h'
  rw [cell_of_row w g j _ t (0, 0) h']
  match j, hj with
  | 0, _ => rfl
  | 1, _ => rfl
  | 2, _ => rfl
  | 3, _ => rfl
theorem src_cells {w w' : World} {A : Option Addr} {xs : List Int} (hx : IntsR w w.heap.size A xs) (hb : Below w.heap.size w w') (h0 : 0 < (xs.map I).length) :
    ∃ ad, A = some ad ∧ ∀ j v, (xs.map I)[j]? = some v → w'.cell? (ad.add j) = some v := by
  obtain ⟨ad, e, hl, hc⟩ := hx (by simpa using h0)
  refine ⟨ad, e, fun j v hv => ?_⟩
  have hj : j < xs.length := by
    have := (List.getElem?_eq_some_iff.1 hv).1
    simpa using this
  rw [hb.cell (p := ad.add j) (by rw [block_of_add]; exact hl), hc j hj, ← hv, nth_lt hj]
  simp [hj]

set_option maxRecDepth 100000 in
set_option maxHeartbeats 400000 in
theorem rowOf_any (A : Option Addr) (c : Nat) (xs : List Int) (w : World) (hx : IntsR w w.heap.size A xs) (hl : xs.length ≤ 4) :
    Calls Tryd.prog 69 #[.slice A xs.length c] w fun e w' => e = .returned (rowV xs) ∧ Below w.heap.size w w' := by
  go_enter Tryd.func69, Tryd.ntmps69
  go_wp2_with (with_reducible show wpList _ _ _ (⟨some 6, _, _, _, _, _⟩ :: _) _ _; go_must (refine wpList_copy_splice rfl (.tmp 4) (.tmp 5) 24 24 rfl 3 Tryd.underlying24 info3 _ _ _ _ _ _ rfl rfl (w.heap.size + 1) 0 [I 0, I 0, I 0, I 0] 87 ?c1 (xs.map I) ?c2 ?c3 ?c4 ?c5 (w.heap.size + 1) (w.alloc (.cells #[I 0, I 0, I 0, I 0] 87)) ?c6 ?c7 ?_); rotate_right; intro w1 hg1 hb1; have c0 := row_cell hg1 hl 0 (by omega); have c1 := row_cell hg1 hl 1 (by omega); have c2 := row_cell hg1 hl 2 (by omega); have c3 := row_cell hg1 hl 3 (by omega); have d0 := box_later hb1 (by omega) 0; have d1 := box_later hb1 (by omega) 1; have d2 := box_later hb1 (by omega) 2; have d3 := box_later hb1 (by omega) 3; have f := fun i => (hb1.frozen (p := ⟨w.heap.size, i, none⟩) (by simp)))
  case c1 => exact size_two w _ _
  case c2 => rw [List.length_map]; exact min_len _ hl
  case c3 =>
    intro h
    obtain ⟨ad, e, hc⟩ := src_cells hx (((Below.refl _ w).alloc (Nat.le_refl _) (.cells #[I 0, I 0, I 0, I 0] 87)).alloc (by simp) (.cells #[I 0, I 0, I 0, I 0] 87)) (by simpa using h)
    exact ⟨ad, e, fun j a ha => hc j _ (by simp [ha])⟩
  case c4 => simpa using hl
  case c5 => simp [Value.oneCell']
  case c6 => exact ((Below.refl _ _).alloc (by simp) _)
  case c7 => omega
  exact bodyPost_ret (v := rowV xs) (by simp [results, Tryd.results69, go_sem, d0, d1, d2, d3]) rfl ⟨rfl, ((((((Below.refl _ w).alloc (Nat.le_refl _) _).trans (hb1.mono (by omega))).setCell (by simp) _).setCell (by simp) _).setCell (by simp) _).setCell (by simp) _⟩

theorem alloc_obj (w : World) (o : Obj) (g : Nat) (hg : g = w.heap.size) : (w.alloc o).heap[g]? = some o := by subst hg; exact heap_alloc_new w o
theorem alloc_cell' (w : World) (cs : Array Value) (t : TypeId) (g i : Nat) (hg : g = w.heap.size) : (w.alloc (.cells cs t)).cell? ⟨g, i, none⟩ = cs[i]? := by subst hg; exact alloc_cell w cs t i
theorem frozen_of_row {w : World} {g : Nat} {cs : Array Value} {t : TypeId} (h : w.heap[g]? = some (.cells cs t (0, 0))) (i : Nat) : w.frozen? ⟨g, i, none⟩ = false := by
  simp [World.frozen?, h]
theorem row_set {w : World} {g : Nat} {cs : Array Value} {t : TypeId} (h : w.heap[g]? = some (.cells cs t (0, 0))) (i : Nat) (u : Value) : (w.setCell ⟨g, i, none⟩ u).heap[g]? = some (.cells (cs.setIfInBounds i u) t (0, 0)) := by
  simp [World.setCell, Array.getElem?_modify, h]
def cntArr (c : List Int) (k : Nat) : Array Value := #[I (cnt c 0 k), I (cnt c 1 k), I (cnt c 2 k), I (cnt c 3 k), I (cnt c 4 k), I (cnt c 5 k), I (cnt c 6 k), I (cnt c 7 k), I (cnt c 8 k), I (cnt c 9 k)]
theorem cntArr_at (c : List Int) (k : Nat) (s : Int) (h0 : 0 ≤ s) (h1 : s ≤ 9) : (cntArr c k)[s.toNat]? = some (I (cnt c s k)) := by
  obtain ⟨n, rfl⟩ := Int.eq_ofNat_of_zero_le h0
  have hn : n < 10 := by omega
  match n, hn with
  | 0, _ => rfl
  | 1, _ => rfl
  | 2, _ => rfl
  | 3, _ => rfl
  | 4, _ => rfl
  | 5, _ => rfl
  | 6, _ => rfl
  | 7, _ => rfl
  | 8, _ => rfl
  | 9, _ => rfl
theorem cntArr_step (c : List Int) (k : Nat) (h0 : 0 ≤ nth c k) (h1 : nth c k ≤ 9) : (cntArr c k).setIfInBounds (nth c k).toNat (I (cnt c (nth c k) k + 1)) = cntArr c (k + 1) := by
  obtain ⟨n, hs⟩ := Int.eq_ofNat_of_zero_le h0
  have hn : n < 10 := by omega
  simp only [cntArr, cnt]
  rw [hs]
  match n, hn with
  | 0, _ => simp
  | 1, _ => simp
  | 2, _ => simp
  | 3, _ => simp
  | 4, _ => simp
  | 5, _ => simp
  | 6, _ => simp
  | 7, _ => simp
  | 8, _ => simp
  | 9, _ => simp
theorem cntArr_zero (c : List Int) : #[I 0, I 0, I 0, I 0, I 0, I 0, I 0, I 0, I 0, I 0] = cntArr c 0 := rfl
theorem rowCells_at (c : List Int) (k : Nat) (h : k < 4) : #[I (nth c 0), I (nth c 1), I (nth c 2), I (nth c 3)][k]? = some (I (nth c k)) := by
  match k, h with
  | 0, _ => rfl
  | 1, _ => rfl
  | 2, _ => rfl
  | 3, _ => rfl

/-- the world when counts has laid its boxes -/
def cntW (w : World) (W : Nat) (S : Int) (c : List Int) : World :=
  ((w.alloc (.cells #[I W, I S] 78)).alloc (.cells #[I (nth c 0), I (nth c 1), I (nth c 2), I (nth c 3)] 87)).alloc (.cells #[I 0, I 0, I 0, I 0, I 0, I 0, I 0, I 0, I 0, I 0] 137)

set_option maxRecDepth 100000 in
set_option maxHeartbeats 400000 in
theorem counts_any (W : Nat) (S : Int) (c : List Int) (w : World) (hW : W ≤ 4) (hs : Sym c W) :
    Calls Tryd.prog 108 #[lockV W S, rowV c] w fun e w' => e = .returned (.agg (cntArr c W)) ∧ Below w.heap.size w w' := by
  go_enter Tryd.func108, Tryd.ntmps108
  go_wp2
  go_loopw [9] (fun i wr => ∃ k : Nat, k ≤ W ∧ i = .int .i64 k ∧ wr.heap[w.heap.size + 3]? = some (.cells (cntArr c k) 137 (0, 0)) ∧ Below (w.heap.size + 3) (cntW w W S c) wr) (fun i _ => W - (intOf i).toNat)
  case atStart =>
    refine ⟨0, Nat.zero_le _, rfl, ?_, ?_⟩
    · exact alloc_obj _ _ _ (by simp)
    · exact (Below.refl _ _).alloc (by simp [cntW]) _
  case round =>
    obtain ⟨k, hk, rfl, hh, hB⟩ := hrel
    have hsz := hB.size
    have e3 : (cntW w W S c).heap.size = w.heap.size + 3 := by simp [cntW]
    have hbw : Below w.heap.size w wr := ((((Below.refl _ w).alloc (Nat.le_refl _) _).alloc (by simp) _).alloc (by simp; omega) _).trans (hB.mono (by omega))
    by_cases hlt : k < W
    · have hc := (hB.cell (p := ⟨w.heap.size + 1, k, none⟩) (by show w.heap.size + 1 < _; omega)).trans ((World.cell?_alloc_lt _ _ _ (by simp)).trans ((alloc_cell' _ _ _ _ k (by simp)).trans (rowCells_at c k (by omega))))
      have hb := hs k hlt
      have h0 := hb.1
      have h9 := hb.2
      have hcn := (cell_of_row wr (w.heap.size + 3) (nth c k).toNat _ _ _ hh).trans (cntArr_at c k (nth c k) h0 h9)
      have hfr : wr.frozen? ⟨w.heap.size + 3, (nth c k).toNat, none⟩ = false := frozen_of_row hh _
      have hcb := cnt_bounds c (nth c k) k
      have hcb1 := hcb.1
      have hcb2 := hcb.2
      have HH := Lib.hid hh
      clear hh hcb hb e3
      go_wp2
      go_roundw
      case rel =>
        refine ⟨k + 1, by omega, by go_num, ?_, hB.setCell (by simp) _⟩
        rw [← cntArr_step c k h0 h9]
        exact row_set HH.out _ _
      case measure => simp [intOf]; omega
    · obtain rfl : k = W := by omega
      have q := fun i => (hB.cell (p := ⟨w.heap.size + 2, i, none⟩) (by show w.heap.size + 2 < _; omega)).trans (alloc_cell' _ _ _ _ i (by simp))
      have q0 : wr.cell? ⟨w.heap.size + 1 + 1, 0, none⟩ = some (I 0) := q 0
      have q1 : wr.cell? ⟨w.heap.size + 1 + 1, 1, none⟩ = some (I 0) := q 1
      have q2 : wr.cell? ⟨w.heap.size + 1 + 1, 2, none⟩ = some (I 0) := q 2
      have q3 : wr.cell? ⟨w.heap.size + 1 + 1, 3, none⟩ = some (I 0) := q 3
      have q4 : wr.cell? ⟨w.heap.size + 1 + 1, 4, none⟩ = some (I 0) := q 4
      have q5 : wr.cell? ⟨w.heap.size + 1 + 1, 5, none⟩ = some (I 0) := q 5
      have q6 : wr.cell? ⟨w.heap.size + 1 + 1, 6, none⟩ = some (I 0) := q 6
      have q7 : wr.cell? ⟨w.heap.size + 1 + 1, 7, none⟩ = some (I 0) := q 7
      have q8 : wr.cell? ⟨w.heap.size + 1 + 1, 8, none⟩ = some (I 0) := q 8
      have q9 : wr.cell? ⟨w.heap.size + 1 + 1, 9, none⟩ = some (I 0) := q 9
      have f0 : ∀ i, wr.frozen? ⟨w.heap.size + 1 + 1, i, none⟩ = false := fun i => (hB.frozen (p := ⟨w.heap.size + 2, i, none⟩) (by show w.heap.size + 2 < _; omega)).trans (frozen_of_row (alloc_obj _ _ _ (by simp)) i)
      have hh' : wr.heap[w.heap.size + 1 + 1 + 1]? = some (.cells (cntArr c k) 137 (0, 0)) := hh
      clear hh e3 q
      have HH := Lib.hid hh'
      clear hh'
      go_wp2_with (with_reducible show wpList _ _ _ (⟨some 20, _, _, _, _, _⟩ :: _) _ _; go_must (refine wpList_load_row rfl 137 (.tmp 5) rfl (w.heap.size + 1 + 1 + 1) rfl 137 (cntArr c k) (0, 0) _ HH.out Tryd.underlying137 rfl (by kernel_rfl) ?_); unfold cntArr)
      exact bodyPost_ret (v := .agg (cntArr c k)) (by simp [results, Tryd.results108, go_sem, cntArr, q0, q1, q2, q3, q4, q5, q6, q7, q8, q9]) rfl ⟨rfl, ((((((((((hbw.setCell (by simp; omega) _).setCell (by simp; omega) _).setCell (by simp; omega) _).setCell (by simp; omega) _).setCell (by simp; omega) _).setCell (by simp; omega) _).setCell (by simp; omega) _).setCell (by simp; omega) _).setCell (by simp; omega) _).setCell (by simp; omega) _)⟩
end Go.Proofs.YtadbkoioipjgmaaDoor

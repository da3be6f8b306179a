/-
  THE ITERATOR 'all': every code of the lock, in order.
-/
import Derived.Test.YthegmomjfbcabaaDoorAdv
import Derived.RangeFuncNested
import Derived.RangeFuncBound
import Derived.RangeFuncCalls
import Derived.RangeFuncLeaves
import Derived.Shelf.Abstract
import Derived.Shelf.RegionOpen
import Derived.OwnWalkIn
import Derived.TacticsInMore
import Derived.LoopNIn
import Derived.LoopIn
namespace Go.Proofs.YthegmomjfbcabaaDoor
open Go.RowKit Go.Shelf
attribute [local go_sem] Oper.semAt_some
/-- all codes, in order -/
def allCodes (W S : Nat) : List (List Int) := (List.range (S ^ W)).map (dig S W)
theorem allCodes_length (W S : Nat) : (allCodes W S).length = S ^ W := by simp [allCodes]
theorem allCodes_at (W S k : Nat) (hk : k < (allCodes W S).length) : (allCodes W S)[k] = dig S W k := by simp [allCodes]
theorem rowF_inj {f g : Nat → Int} (h : rowF f = rowF g) : ∀ j, j < 4 → f j = g j := by
  intro j hj
  have h1 := rowF_at f j hj
  rw [h, rowF_at g j hj] at h1
  injection h1 with h1
  injection h1 with _ h1
  exact h1.symm
theorem row_index_inj {W S a b : Nat} (hW4 : W ≤ 4) (ha : a < S ^ W) (hb : b < S ^ W) (h : rowF (nth (dig S W a)) = rowF (nth (dig S W b))) : a = b := by
  refine dig_inj W a b ha hb (List.ext_getElem (by simp [dig_length]) fun i h1 h2 => ?_)
  rw [dig_length] at h1
  have := rowF_inj h i (by omega)
  rw [nth_lt (by rw [dig_length]; exact h1), nth_lt (by rw [dig_length]; exact h1)] at this
  exact this
/-- which code the row in block g shows -/
noncomputable def idxOf (W S g : Nat) (w : World) : Nat := Classical.epsilon fun k => k < S ^ W ∧ w.heap[g]? = some (.cells (rowF (nth (dig S W k))) 87 (0, 0))
theorem idxOf_eq {W S g k : Nat} {w : World} (hW4 : W ≤ 4) (hk : k < S ^ W) (h : w.heap[g]? = some (.cells (rowF (nth (dig S W k))) 87 (0, 0))) : idxOf W S g w = k := by
  have hs := Classical.epsilon_spec (p := fun k => k < S ^ W ∧ w.heap[g]? = some (.cells (rowF (nth (dig S W k))) 87 (0, 0))) ⟨k, hk, h⟩
  refine row_index_inj hW4 hs.1 hk ?_
  have h2 := hs.2.symm.trans h
  injection h2 with h2
  injection h2 with h2

set_option maxRecDepth 100000 in
set_option maxHeartbeats 2000000 in
theorem all_iter (W S : Nat) (hW : 1 ≤ W) (hW4 : W ≤ 4) (hS : 2 ≤ S) (hS10 : S ≤ 10) (n : Nat) (hn : 1 ≤ n) (G : World → Prop) (W0 : World) :
    Iter Fence.wide n Tryd.prog 89 #[lockV W S] #[] rowV (allCodes W S) G W0 := by
  intro l J Jx hJ hJx _ hY h0
  have hpos : 0 < S ^ W := Nat.pow_pos (by omega)
  have hn1 : 1 ≤ n := by omega
  show CallsIn Fence.wide n Tryd.prog 89 #[lockV W S, .func (.yield l) #[] #[]] W0 _
  refine callsIn_of_wp Tryd.func89 rfl trivial ?_ rfl
  simp only [Tryd.ntmps89, List.size_toArray, List.length_cons, List.length_nil, Nat.reduceAdd, Nat.reduceSub, Array.replicate_succ, Array.replicate_zero, List.push_toArray, List.append_toArray, List.nil_append, List.cons_append]
  gi_wp2
  gi_loopw [11] (fun _ wr => ∃ k : Nat, k < S ^ W ∧ J k wr ∧ wr.heap[W0.heap.size]? = some (.cells #[I W, I S] 78 (0, 0)) ∧ wr.heap[W0.heap.size + 1]? = some (.cells (rowF (nth (dig S W k))) 87 (0, 0))) (fun _ wr => S ^ W - idxOf W S (W0.heap.size + 1) wr)
  case atStart =>
    refine ⟨0, hpos, hJ 0 _ _ h0 (((Below.refl _ _).alloc (Nat.le_refl _) _).alloc (by simp) _), (Below.heap_alloc _ _ _ (by simp)).trans (alloc_obj _ _ _ rfl), ?_⟩
    rw [rowF_congr (nth (dig S W 0)) (fun _ => 0) (fun j _ => dig_zero S W j)]
    exact alloc_obj _ _ _ (by simp)
  case round =>
    obtain ⟨k, hk, hJk, hl, hr⟩ := hrel
    have c0 : wr.cell? ⟨W0.heap.size, 0, none⟩ = some (I W) := cell_of_row wr _ 0 _ _ _ hl
    have c1 : wr.cell? ⟨W0.heap.size, 1, none⟩ = some (I S) := cell_of_row wr _ 1 _ _ _ hl
    have r0 : wr.cell? ⟨W0.heap.size + 1, 0, none⟩ = some (I (nth (dig S W k) 0)) := cell_of_row wr _ 0 _ _ _ hr
    have r1 : wr.cell? ⟨W0.heap.size + 1, 1, none⟩ = some (I (nth (dig S W k) 1)) := cell_of_row wr _ 1 _ _ _ hr
    have r2 : wr.cell? ⟨W0.heap.size + 1, 2, none⟩ = some (I (nth (dig S W k) 2)) := cell_of_row wr _ 2 _ _ _ hr
    have r3 : wr.cell? ⟨W0.heap.size + 1, 3, none⟩ = some (I (nth (dig S W k) 3)) := cell_of_row wr _ 3 _ _ _ hr
    have hkl : k < (allCodes W S).length := by rw [allCodes_length]; exact hk
    obtain ⟨fn, tmps, assign, body, hy, hR⟩ := hY k hkl wr hJk
    rw [allCodes_at] at hy
    have hrl := row_lt' hr
    have HK := Lib.hid hk
    have HI := Lib.hid (idxOf_eq hW4 hk hr)
    have HL := Lib.hid hl
    have HR := Lib.hid hr
    clear hk hl hr
    gi_wp2
    refine hR.mono ?_
    rintro e W3 (⟨rfl, hJ3, hk3⟩ | ⟨rfl, hJx3, _⟩)
    · have hl3 := (hk3.same _ (Nat.le_refl _) (by omega)).trans HL.out
      have hr3 := (hk3.same _ (by omega) hrl).trans HR.out
      clear c0 c1 r0 r1 r2 r3 hy
      have c0 : W3.cell? ⟨W0.heap.size, 0, none⟩ = some (I W) := cell_of_row W3 _ 0 _ _ _ hl3
      have c1 : W3.cell? ⟨W0.heap.size, 1, none⟩ = some (I S) := cell_of_row W3 _ 1 _ _ _ hl3
      have HL3 := Lib.hid hl3
      have HR3 := Lib.hid hr3
      have hs3 := hk3.size
      clear hl3 hr3
      gi_wp2_with fail
      refine ⟨trivial, ?_⟩
      refine (callsIn_wide.2 (advance_any W S hW hW4 hS hS10 k HK.out (W0.heap.size + 1) _ HR3.out)).mono ?_
      rintro e w' ⟨hg, ⟨hlt, rfl, hnx⟩ | ⟨hlast, rfl⟩⟩
      · have hb' : Below W0.heap.size W3 w' := (Below.refl _ _).grown hg (by omega) (fun r e => by cases e; omega)
        have HNX := Lib.hid hnx
        have HLT := Lib.hid hlt
        clear hnx hlt
        gi_wp2
        have hs' := hb'.size
        refine ⟨⟨k + 1, HLT.out, hJ _ _ _ hJ3 hb', ?_, HNX.out⟩, ?_⟩
        · exact (hg.block _ (by omega) (fun e => by injection e with e; omega)).trans HL3.out
        · rw [idxOf_eq hW4 HLT.out HNX.out, HI.out]
          have := HLT.out
          have := HK.out
          omega
      · have hb' : Below W0.heap.size W3 w' := (Below.refl _ _).grown hg (by omega) (fun r e => by cases e; omega)
        gi_wp2
        go_end0
        refine ⟨⟨_, rfl⟩, .inl ?_⟩
        rw [allCodes_length, ← hlast]
        exact hJ _ _ _ hJ3 hb'
    · gi_wp2
      refine ⟨trivial, ?_⟩
      gi_wp2
      go_end0
      exact ⟨⟨_, rfl⟩, .inr ⟨k + 1, by omega, by rw [allCodes_length]; have := HK.out; omega, hJx3⟩⟩
end Go.Proofs.YthegmomjfbcabaaDoor

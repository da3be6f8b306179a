/-
  THE ITERATOR 'lists': all lists of a length, in order; the list that is handed out lies in memory and is turned between rounds.
-/
import Derived.Test.YtfjincdlenneaaaPzD
import Derived.Test.YtfjincdlenneaaaPzA
namespace Go.Proofs.Ytfjincdlenneaaa
open Go.RowKit Go.Shelf
attribute [local go_sem] Oper.semAt_some
/-- the list with number k, in block g -/
def rowE (lo : Int) (S n g k : Nat) (W : World) (v : Value) : Prop := v = .slice (some ⟨g, 0, none⟩) n n ∧ W.heap[g]? = some (.cells (rowG lo (nth (dig S n k)) n).toArray 3 (0, 0))
theorem rowG_inj {lo : Int} {f g : Nat → Int} {n : Nat} (h : (rowG lo f n).toArray = (rowG lo g n).toArray) : ∀ j, j < n → f j = g j := by
  intro j hj
  have h1 := rowG_at lo f n j hj
  rw [h, rowG_at lo g n j hj] at h1
  injection h1 with h1
  injection h1 with _ h1
  omega
theorem rowG_index {lo : Int} {S n a b : Nat} (ha : a < S ^ n) (hb : b < S ^ n) (h : (rowG lo (nth (dig S n a)) n).toArray = (rowG lo (nth (dig S n b)) n).toArray) : a = b := by
  refine dig_inj n a b ha hb (List.ext_getElem (by simp [dig_length]) fun i h1 h2 => ?_)
  rw [dig_length] at h1
  have := rowG_inj h i (by omega)
  rw [nth_lt (by rw [dig_length]; exact h1), nth_lt (by rw [dig_length]; exact h1)] at this
  exact this
/-- which list the row in block g shows -/
noncomputable def idxG (lo : Int) (S n g : Nat) (w : World) : Nat := Classical.epsilon fun k => k < S ^ n ∧ w.heap[g]? = some (.cells (rowG lo (nth (dig S n k)) n).toArray 3 (0, 0))
theorem idxG_eq {lo : Int} {S n g k : Nat} {w : World} (hk : k < S ^ n) (h : w.heap[g]? = some (.cells (rowG lo (nth (dig S n k)) n).toArray 3 (0, 0))) : idxG lo S n g w = k := by
  have hs := Classical.epsilon_spec (p := fun k => k < S ^ n ∧ w.heap[g]? = some (.cells (rowG lo (nth (dig S n k)) n).toArray 3 (0, 0))) ⟨k, hk, h⟩
  refine rowG_index (lo := lo) hs.1 hk ?_
  have h2 := hs.2.symm.trans h
  injection h2 with h2
  injection h2 with h2
theorem rep_row (lo : Int) (S n : Nat) : repL lo n n = rowG lo (nth (dig S n 0)) n := by
  unfold repL rowG
  refine List.ext_getElem (by simp) fun i h1 h2 => ?_
  simp only [List.getElem_map, List.getElem_range, Nat.sub_self, List.replicate_zero, List.append_nil, List.getElem_replicate]
  have h0 : nth (dig S n 0) i = 0 := dig_zero S n i
  rw [h0, Int.zero_add]

theorem lists_any (n lo hi : Int) (w : World) :
    Calls Try.prog 133 #[I n, I lo, I hi] w fun e w' => e = .returned (.func (.func 153) #[] #[.pointer (some ⟨w.heap.size + 1, 0, none⟩), .pointer (some ⟨w.heap.size, 0, none⟩), .pointer (some ⟨w.heap.size + 1 + 1, 0, none⟩)]) ∧
      w' = ((w.alloc (.cells #[I n] 3)).alloc (.cells #[I lo] 3)).alloc (.cells #[I hi] 3) := by
  go_enter Try.func133, Try.ntmps133
  go_wp2
  go_ret
  exact ⟨rfl, rfl⟩

set_option maxRecDepth 100000 in
set_option maxHeartbeats 2000000 in
theorem lists_iter (n S : Nat) (lo : Int) (hn : n ≤ 100) (hS : 2 ≤ S) (hS1 : S ≤ 100) (hlo : -100 ≤ lo) (hlo2 : lo ≤ 100) (b0 b1 b2 m B : Nat) (hm : 3 ≤ m) (W0 : World) (hB : B ≤ W0.heap.size) (hb0 : b0 < B) (_hb1 : b1 < B) (_hb2 : b2 < B) :
    IterR Fence.wide m Try.prog 153 #[] #[.pointer (some ⟨b1, 0, none⟩), .pointer (some ⟨b0, 0, none⟩), .pointer (some ⟨b2, 0, none⟩)] (S ^ n) (rowE lo S n (W0.heap.size + 1))
      (fun w => w.cell? ⟨b0, 0, none⟩ = some (I n) ∧ w.cell? ⟨b1, 0, none⟩ = some (I lo) ∧ w.cell? ⟨b2, 0, none⟩ = some (I (lo + S - 1))) 2 W0 := by
  intro l J Jx hJ hJx hG hY h0
  have hpos : 0 < S ^ n := Nat.pow_pos (by omega)
  have hm1 : 1 ≤ m := by omega
  obtain ⟨g0, g1, g2⟩ := hG 0 _ h0
  show CallsIn Fence.wide m Try.prog 153 #[.func (.yield l) #[] #[], .pointer (some ⟨b1, 0, none⟩), .pointer (some ⟨b0, 0, none⟩), .pointer (some ⟨b2, 0, none⟩)] W0 _
  refine callsIn_of_wp Try.func153 rfl trivial ?_ rfl
  simp only [Try.ntmps153, List.size_toArray, List.length_cons, List.length_nil, Nat.reduceAdd, Nat.reduceSub, Array.replicate_succ, Array.replicate_zero, List.push_toArray, List.append_toArray, List.nil_append, List.cons_append]
  have g0' : (W0.alloc (.cells #[I lo] 3)).cell? ⟨b0, 0, none⟩ = some (I n) := ((Below.refl _ _).alloc (Nat.le_refl _) _ : Below W0.heap.size W0 _).cell (p := ⟨b0, 0, none⟩) (by show b0 < _; omega) |>.trans g0
  gi_wp2_with fail
  refine ⟨trivial, ?_⟩
  refine (callsIn_wide.2 (repeat_any lo n _ W0.heap.size _ (by omega) ?_ (by simp))).mono ?_
  · exact alloc_cell' _ _ _ _ 0 rfl
  rintro e V ⟨rfl, hrep, hbV⟩
  have hW0V : Below W0.heap.size W0 V := ((Below.refl _ _).alloc (Nat.le_refl _) _ : Below W0.heap.size W0 _).trans (hbV.mono (by simp))
  have hszV : W0.heap.size + 2 ≤ V.heap.size := by have := row_lt' hrep; simp at this; omega
  have hV : V.heap[W0.heap.size + 1]? = some (.cells (rowG lo (nth (dig S n 0)) n).toArray 3 (0, 0)) := by
    rw [← rep_row]; simpa [RepR] using hrep
  have hJV : J 0 V := hJ 0 _ _ h0 (.of_below hW0V (Nat.le_refl _) (Nat.le_refl _))
  have es : (W0.alloc (.cells #[I lo] 3)).heap.size = W0.heap.size + 1 := by simp
  clear hrep hbV g0' g0 g1 g2 hW0V
  rw [es]
  clear es
  gi_wp2
  gi_loopw [18] (fun _ wr => ∃ k : Nat, k < S ^ n ∧ J k wr ∧ W0.heap.size + 2 ≤ wr.heap.size ∧ wr.heap[W0.heap.size + 1]? = some (.cells (rowG lo (nth (dig S n k)) n).toArray 3 (0, 0))) (fun _ wr => S ^ n - idxG lo S n (W0.heap.size + 1) wr)
  case atStart => exact ⟨0, hpos, hJV, hszV, hV⟩
  case round =>
    obtain ⟨k, hk, hJk, hsz, hr⟩ := hrel
    obtain ⟨fn, tmps, assign, body, hy, hR⟩ := hY k hk wr _ hsz hJk ⟨rfl, hr⟩
    have hrl := row_lt' hr
    have HK := Lib.hid hk
    have HI := Lib.hid (idxG_eq hk hr)
    have HR := Lib.hid hr
    clear hk hr hV hJV
    gi_wp2
    refine hR.mono ?_
    rintro e W3 (⟨rfl, hJ3, hk3⟩ | ⟨rfl, hJx3, _⟩)
    · have hr3 := (hk3.same _ (by omega) (by omega) hrl).trans HR.out
      obtain ⟨_, g1, g2⟩ := hG _ _ hJ3
      have HR3 := Lib.hid hr3
      have hs3 := hk3.size
      clear hr3 hy
      gi_wp2_with fail
      refine ⟨trivial, ?_⟩
      refine (callsIn_wide.2 (advance_any n S lo (by omega) hS (by omega) hlo hlo2 k HK.out (W0.heap.size + 1) _ _ HR3.out)).mono ?_
      rintro e w' ⟨hg, ⟨hlt, rfl, hnx⟩ | ⟨hlast, rfl⟩⟩
      · have hb' : BelowD W0.heap.size (W0.heap.size + 2) W3 w' := ⟨(Below.refl _ _).grown hg (by omega) (fun r e => by cases e; omega), fun b h1 h2 => hg.block b h2 (fun e => by injection e with e; omega)⟩
        have HNX := Lib.hid hnx
        have HLT := Lib.hid hlt
        clear hnx hlt g1 g2
        gi_wp2
        have hs' := hb'.low.size
        refine ⟨⟨k + 1, HLT.out, hJ _ _ _ hJ3 hb', by omega, HNX.out⟩, ?_⟩
        rw [idxG_eq HLT.out HNX.out, HI.out]
        have := HLT.out
        have := HK.out
        omega
      · have hb' : BelowD W0.heap.size (W0.heap.size + 2) W3 w' := ⟨(Below.refl _ _).grown hg (by omega) (fun r e => by cases e; omega), fun b h1 h2 => hg.block b h2 (fun e => by injection e with e; omega)⟩
        have HLA := Lib.hid hlast
        clear hlast g1 g2
        gi_wp2
        go_end0
        refine ⟨⟨_, rfl⟩, .inl ?_⟩
        rw [← HLA.out]
        exact hJ _ _ _ hJ3 hb'
    · gi_wp2
      refine ⟨trivial, ?_⟩
      gi_wp2
      go_end0
      exact ⟨⟨_, rfl⟩, .inr ⟨k + 1, by omega, HK.out, hJx3⟩⟩
end Go.Proofs.Ytfjincdlenneaaa

/-
  CONTRACT: puzzles.Next.
-/
import Derived.Test.YtglkjiimmlobbaaPzFol
namespace Go.Proofs.Ytglkjiimmlobbaa
open Go.RowKit Go.Shelf
def seqB (l : List Int) : Bool := wi l.length 2 20 && inB (-10000) 10000 l
def nextV (l : List Int) : Value :=
  if seqB l then (match nxt l.length l with | some r => .tuple #[I r.1, I r.2, I 0] | none => .tuple #[I 0, I 0, I 3]) else .tuple #[I 0, I 0, I 1]
theorem inB_bnd {l : List Int} {b : Nat} (h : inB (-(b : Int)) b l = true) : Bnd b l := by
  intro i hi
  have := List.all_eq_true.1 h (nth l i) (by rw [nth_lt hi]; exact List.getElem_mem _)
  simpa [wi] using this

set_option maxHeartbeats 400000 in
theorem isSequence_any (A : Option Addr) (c : Nat) (l : List Int) (w : World) (hx : IntsR w w.heap.size A l) (hl : l.length ≤ maxLen) :
    Calls Try.prog 78 #[.slice A l.length c] w fun e w' => e = .returned (.bool (seqB l)) ∧ Below w.heap.size w w' := by
  have hl' := hl
  unfold maxLen at hl'
  cases hq : wi l.length 2 20
  · have H2 := Lib.hid (show seqB l = false by rw [seqB, hq]; rfl)
    go_enter Try.func78, Try.ntmps78
    go_wp2_with (go_at_call 65; refine (within_any _ _ _ _).mono ?_; rintro e w' ⟨rfl, rfl⟩; rw [hq])
    go_ret
    exact ⟨ret_bool H2.out.symm, Below.refl _ _⟩
  · have H2 := Lib.hid (show seqB l = inB (-10000) 10000 l by rw [seqB, hq]; rfl)
    go_enter Try.func78, Try.ntmps78
    go_wp2_with (first | (go_at_call 65; refine (within_any _ _ _ _).mono ?_; rintro e w' ⟨rfl, rfl⟩; rw [hq]) | (go_at_call 130; refine (allWithin_any _ _ _ _ l _ hx hl).mono ?_; rintro e w' ⟨rfl, hb⟩))
    go_ret
    exact ⟨ret_bool H2.out.symm, hb⟩

theorem unless_any (b : Bool) (n : Int) (w : World) :
    Calls Try.prog 64 #[.bool b, I n] w fun e w' => e = .returned (I (if b then 0 else n)) ∧ w' = w := by
  cases b
  · go_enter Try.func64, Try.ntmps64
    go_wp2
    go_ret
    exact ⟨rfl, rfl⟩
  · go_enter Try.func64, Try.ntmps64
    go_wp2
    go_ret
    exact ⟨rfl, rfl⟩

set_option maxHeartbeats 400000 in
theorem pNext_any (A : Option Addr) (c : Nat) (l : List Int) (w : World) (hx : IntsR w w.heap.size A l) (hl : l.length ≤ maxLen) :
    Calls Try.prog 26 #[.slice A l.length c] w fun e w' => e = .returned (nextV l) ∧ Below w.heap.size w w' := by
  cases hq : seqB l
  · have H2 := Lib.hid (show nextV l = .tuple #[I 0, I 0, I 1] by rw [nextV, hq]; rfl)
    go_enter Try.func26, Try.ntmps26
    go_wp2_with (go_at_call 78; refine (isSequence_any _ _ l _ hx hl).mono ?_; rintro e w' ⟨rfl, hb⟩; rw [hq])
    go_ret3
    exact ⟨by rw [H2.out]; rfl, hb⟩
  · have hw : wi l.length 2 20 = true ∧ inB (-10000) 10000 l = true := by simpa [seqB] using hq
    have hle : l.length ≤ 20 := by have := hw.1; simp [wi] at this; omega
    have hbn : Bnd 10000 l := inB_bnd (b := 10000) hw.2
    clear hw
    have e1 : ∀ w', Below w.heap.size w w' → IntsR w' w'.heap.size A l := fun w' h => ints_call h hx
    cases hn : nxt l.length l with
    | none =>
      have H2 := Lib.hid (show nextV l = .tuple #[I 0, I 0, I 3] by rw [nextV, hq, if_pos rfl, hn])
      have H3 := Lib.hid (show folV (nxt l.length l) = .tuple #[I 0, I 0, .bool false] by rw [hn]; rfl)
      go_enter Try.func26, Try.ntmps26
      go_wp2_with (first
        | (go_at_call 78; refine (isSequence_any _ _ l _ hx hl).mono ?_; rintro e w' ⟨rfl, hb⟩; rw [hq])
        | (go_at_call 79; refine (following_any _ _ l _ (e1 _ hb) hle hbn).mono ?_; rintro e w2 ⟨rfl, hb2⟩; rw [H3.out])
        | (go_at_call 64; refine (unless_any _ _ _).mono ?_; rintro e w3 ⟨rfl, rfl⟩))
      go_ret3
      exact ⟨by rw [H2.out]; rfl, hb.trans (hb2.mono hb.size)⟩
    | some r =>
      obtain ⟨a, d⟩ := r
      have H2 := Lib.hid (show nextV l = .tuple #[I a, I d, I 0] by rw [nextV, hq, if_pos rfl, hn])
      have H3 := Lib.hid (show folV (nxt l.length l) = .tuple #[I a, I d, .bool true] by rw [hn]; rfl)
      go_enter Try.func26, Try.ntmps26
      go_wp2_with (first
        | (go_at_call 78; refine (isSequence_any _ _ l _ hx hl).mono ?_; rintro e w' ⟨rfl, hb⟩; rw [hq])
        | (go_at_call 79; refine (following_any _ _ l _ (e1 _ hb) hle hbn).mono ?_; rintro e w2 ⟨rfl, hb2⟩; rw [H3.out])
        | (go_at_call 64; refine (unless_any _ _ _).mono ?_; rintro e w3 ⟨rfl, rfl⟩))
      go_ret3
      exact ⟨by rw [H2.out]; rfl, hb.trans (hb2.mono hb.size)⟩
end Go.Proofs.Ytglkjiimmlobbaa

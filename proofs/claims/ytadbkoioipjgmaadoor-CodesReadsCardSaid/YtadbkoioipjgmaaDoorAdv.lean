/-
  CONTRACT: advance.
-/
import Derived.Test.YtadbkoioipjgmaaDoorHolds
import Derived.BigRegion
namespace Go.Proofs.YtadbkoioipjgmaaDoor
open Go.RowKit
theorem only_drewN {a w : World} {row : Option Nat} (h : a.grownBy w row) (n : Nat) : a.grownBy (w.drewN n) row := ⟨h.os, h.tape, h.output, h.size, h.block⟩
theorem only_drew {a w : World} {row : Option Nat} (h : a.grownBy w row) : a.grownBy w.drew row := ⟨h.os, h.tape, h.output, h.size, h.block⟩
theorem only_setCell {a w : World} {g : Nat} (h : a.grownBy w (some g)) {p : Addr} (hp : p.block = g ∨ a.heap.size ≤ p.block) (u : Value) : a.grownBy (w.setCell p u) (some g) :=
  ⟨h.os, h.tape, h.output, by simpa [World.setCell] using h.size, fun i hi hne => (Below.heap_setCell w p u i (by
    rintro rfl
    rcases hp with hp | hp
    · exact hne (by rw [hp])
    · omega)).trans (h.block i hi hne)⟩
theorem only_alloc_left {a w : World} {g : Nat} {o : Obj} (h : (a.alloc o).grownBy w (some g)) : a.grownBy w (some g) :=
  ⟨h.os, h.tape, h.output, by have := h.size; simp at this; omega, fun i hi hne => (h.block i (by simp; omega) hne).trans (Below.heap_alloc a o i hi)⟩
/-- a row of four, by its wheels -/
def rowF (f : Nat → Int) : Array Value := #[I (f 0), I (f 1), I (f 2), I (f 3)]
theorem rowF_at (f : Nat → Int) (k : Nat) (h : k < 4) : (rowF f)[k]? = some (I (f k)) := by
  match k, h with
  | 0, _ => rfl
  | 1, _ => rfl
  | 2, _ => rfl
  | 3, _ => rfl
theorem rowF_set (f : Nat → Int) (k : Nat) (h : k < 4) (v : Int) : (rowF f).setIfInBounds k (I v) = rowF (fun j => if j = k then v else f j) := by
  match k, h with
  | 0, _ => rfl
  | 1, _ => rfl
  | 2, _ => rfl
  | 3, _ => rfl
theorem rowF_congr (f g : Nat → Int) (h : ∀ j, j < 4 → f j = g j) : rowF f = rowF g := by
  simp only [rowF]; rw [h 0 (by decide), h 1 (by decide), h 2 (by decide), h 3 (by decide)]
theorem nth_beyond {c : List Int} {j : Nat} (h : c.length ≤ j) : nth c j = 0 := by simp [nth, List.getElem?_eq_none h]
/-- the digits of the next number -/
theorem adv_next {s : Nat} (hs : 1 < s) (w n i : Nat) (hn : n < s ^ w) (hi : i < w) (h1 : nth (dig s w n) i + 1 < s) (h2 : ∀ j, i < j → j < w → nth (dig s w n) j + 1 = s) :
    n + 1 < s ^ w ∧ ∀ j, nth (dig s w (n + 1)) j = if j = i then nth (dig s w n) i + 1 else if i < j then 0 else nth (dig s w n) j := by
  have hlt : n + 1 < s ^ w := by
    rcases Nat.lt_or_ge (n + 1) (s ^ w) with h | h
    · exact h
    · have e : n + 1 = s ^ w := by omega
      have := dig_last hs w n e i hi
      simp only [nth] at h1
      omega
  refine ⟨hlt, ?_⟩
  obtain ⟨k, hk, a1, a2, a3, a4⟩ := dig_succ hs w n hlt
  have hki : k = i := by
    rcases Nat.lt_trichotomy k i with h | h | h
    · have := (a4 i h hi).1
      simp only [nth] at h1
      omega
    · exact h
    · have := h2 k h hk
      simp only [nth] at this
      omega
  subst hki
  intro j
  by_cases e1 : j = k
  · subst e1; rw [if_pos rfl]; exact a2
  · rw [if_neg e1]
    by_cases e2 : k < j
    · rw [if_pos e2]
      by_cases e3 : j < w
      · exact (a4 j e2 e3).2
      · exact nth_beyond (by rw [dig_length]; omega)
    · rw [if_neg e2]; exact a1 j (by omega)
theorem adv_last {s : Nat} (hs : 1 < s) (w n : Nat) (hn : n < s ^ w) (h2 : ∀ j, j < w → nth (dig s w n) j + 1 = s) : n + 1 = s ^ w := by
  rcases Nat.lt_or_ge (n + 1) (s ^ w) with h | h
  · obtain ⟨k, hk, _, _, a3, _⟩ := dig_succ hs w n h
    have := h2 k hk
    simp only [nth] at this
    omega
  · omega

set_option maxRecDepth 100000 in
set_option maxHeartbeats 2000000 in
theorem advance_any (W S : Nat) (hW : 1 ≤ W) (hW4 : W ≤ 4) (hS : 2 ≤ S) (hS10 : S ≤ 10) (n : Nat) (hn : n < S ^ W) (g : Nat) (w : World) (hrow : w.heap[g]? = some (.cells (rowF (nth (dig S W n))) 87 (0, 0))) :
    Calls Tryd.prog 111 #[lockV W S, .pointer (some ⟨g, 0, none⟩)] w fun e w' => w.grownBy w' (some g) ∧
      ((n + 1 < S ^ W ∧ e = .returned (.bool true) ∧ w'.heap[g]? = some (.cells (rowF (nth (dig S W (n + 1)))) 87 (0, 0))) ∨ (n + 1 = S ^ W ∧ e = .returned (.bool false))) := by
  have hg := row_lt hrow
  have hgW : g ≠ w.heap.size := by omega
  have h0 : (w.alloc (.cells #[.int .i64 W, .int .i64 S] 78)).heap[g]? = some (.cells (rowF (nth (dig S W n))) 87 (0, 0)) := (Below.heap_alloc _ _ _ hg).trans hrow
  have H0 := Lib.hid h0
  clear h0 hrow
  have W1 : wrap64 ((W : Int) - 1) = (W : Int) - 1 := IntWalk.wrap64_in _ ⟨by omega, by omega⟩
  have HN := Lib.hid hn
  clear hn
  go_enter Tryd.func111, Tryd.ntmps111
  go_wp2
  go_loopw [5] (fun i wr => ∃ k : Nat, k ≤ W ∧ i = .int .i64 ((k : Int) - 1) ∧ wr.heap[g]? = some (.cells (rowF (fun j => if k ≤ j then 0 else nth (dig S W n) j)) 87 (0, 0)) ∧ Hid (∀ j, k ≤ j → j < W → nth (dig S W n) j + 1 = S) ∧ (w.alloc (.cells #[.int .i64 W, .int .i64 S] 78)).grownBy wr (some g)) (fun i _ => (intOf i + 1).toNat)
  case atStart =>
    refine ⟨W, Nat.le_refl _, rfl, ?_, Lib.hid (fun j h1 h2 => by omega), World.grownBy.refl _ _⟩
    rw [rowF_congr _ (nth (dig S W n)) (fun j _ => ?_)]
    · exact H0.out
    · split
      · exact (nth_beyond (by rw [dig_length]; omega)).symm
      · rfl
  case round =>
    obtain ⟨k, hk, rfl, hr, HA, hG⟩ := hrel
    have c0 : wr.cell? ⟨w.heap.size, 0, none⟩ = some (I W) := (World.cell?_of_block (w := w.alloc _) (hG.block w.heap.size (by simp) (by intro e; injection e with e; omega))).trans (alloc_cell _ _ _ 0)
    have c1 : wr.cell? ⟨w.heap.size, 1, none⟩ = some (I S) := (World.cell?_of_block (w := w.alloc _) (hG.block w.heap.size (by simp) (by intro e; injection e with e; omega))).trans (alloc_cell _ _ _ 1)
    by_cases hlt : 0 < k
    · obtain ⟨i, rfl⟩ : ∃ i, k = i + 1 := ⟨k - 1, by omega⟩
      have hi0 : (0 : Int) ≤ (i : Int) := by omega
      have hi4 : (i : Int) < 4 := by omega
      have ei : (((i + 1 : Nat) : Int) - 1) = (i : Int) := by omega
      rw [ei]
      have hcell : wr.cell? ⟨g, i, none⟩ = some (I (nth (dig S W n) i)) := (cell_of_row wr g i _ _ _ hr).trans ((rowF_at _ i (by omega)).trans (by rw [if_neg (by omega)]))
      have hfr : wr.frozen? ⟨g, i, none⟩ = false := frozen_of_row hr i
      have hdb : 0 ≤ nth (dig S W n) i ∧ nth (dig S W n) i < S := by
        have := dig_bounds (s := S) (by omega) W n (nth (dig S W n) i) (by rw [nth_lt (by rw [dig_length]; omega)]; exact List.getElem_mem _)
        exact this
      have hd1 := hdb.1
      have hd2 := hdb.2
      have HR := Lib.hid hr
      clear hr hdb ei hlt
      generalize hd : nth (dig S W n) i = d at *
      have HD := Lib.hid hd
      clear hd
      have hset : ∀ v : Int, (rowF fun j => if i + 1 ≤ j then 0 else nth (dig S W n) j).setIfInBounds i (I v) = rowF (fun j => if j = i then v else if i + 1 ≤ j then 0 else nth (dig S W n) j) := fun v => rowF_set _ i (by omega) v
      have HS := Lib.hid hset
      clear hset
      go_wp2
      go_region
      go_wp2_with fail
      obtain ⟨w2, hw2⟩ : ∃ w2, w2 = (wr.setCell ⟨g, i, none⟩ (.int .i64 (d + 1))).drew := ⟨_, rfl⟩
      rw [← hw2]
      have hr2 : w2.heap[g]? = some (.cells (rowF (fun j => if j = i then d + 1 else if i + 1 ≤ j then 0 else nth (dig S W n) j)) 87 (0, 0)) := by
        rw [hw2, ← HS.out]; exact row_set HR.out i _
      have hG2 : (w.alloc (.cells #[.int .i64 W, .int .i64 S] 78)).grownBy w2 (some g) := by
        rw [hw2]; exact only_drew (only_setCell hG (.inl rfl) _)
      clear hw2 hcell hfr c0 c1 HR hG
      have c0 : w2.cell? ⟨w.heap.size, 0, none⟩ = some (I W) := (World.cell?_of_block (w := w.alloc _) (hG2.block w.heap.size (by simp) (by intro e; injection e with e; omega))).trans (alloc_cell _ _ _ 0)
      have c1 : w2.cell? ⟨w.heap.size, 1, none⟩ = some (I S) := (World.cell?_of_block (w := w.alloc _) (hG2.block w.heap.size (by simp) (by intro e; injection e with e; omega))).trans (alloc_cell _ _ _ 1)
      have hcell : w2.cell? ⟨g, i, none⟩ = some (I (d + 1)) := (cell_of_row w2 g i _ _ _ hr2).trans ((rowF_at _ i (by omega)).trans (by rw [if_pos rfl]))
      have hfr : w2.frozen? ⟨g, i, none⟩ = false := frozen_of_row hr2 i
      have HR := Lib.hid hr2
      clear hr2
      by_cases hc : d + 1 < S
      · go_quiet (fail)
        go_wp2
        go_ret
        have hnx := adv_next (by omega) W n i HN.out (by omega) (by rw [HD.out]; exact hc) (fun j h1 h2 => HA.out j (by omega) h2)
        refine ⟨only_drewN (only_alloc_left hG2) _, .inl ⟨hnx.1, rfl, ?_⟩⟩
        show w2.heap[g]? = _
        rw [HR.out, rowF_congr _ (nth (dig S W (n + 1))) (fun j _ => ?_)]
        rw [hnx.2 j, HD.out]
        by_cases e1 : j = i
        · rw [if_pos e1, if_pos e1]
        · rw [if_neg e1, if_neg e1]
          by_cases e2 : i < j
          · rw [if_pos e2, if_pos (by omega)]
          · rw [if_neg e2, if_neg (by omega)]
      · go_quiet (fail)
        go_wp2
        go_roundw
        case rel =>
          refine ⟨i, by omega, rfl, ?_, Lib.hid (fun j h1 h2 => ?_), only_setCell (only_drewN hG2 _) (.inl rfl) _⟩
          · have e := row_set (w := w2.drewN nq) HR.out i (.int .i64 0)
            rw [rowF_set _ i (by omega)] at e
            rw [e, rowF_congr _ (fun j => if i ≤ j then 0 else nth (dig S W n) j) (fun j _ => ?_)]
            by_cases e1 : j = i
            · rw [if_pos e1, if_pos (by omega)]
            · rw [if_neg e1, if_neg e1]
              by_cases e2 : i + 1 ≤ j
              · rw [if_pos e2, if_pos (by omega)]
              · rw [if_neg e2, if_neg (by omega)]
          · rcases Nat.eq_or_lt_of_le h1 with h | h
            · subst h; rw [HD.out]; omega
            · exact HA.out j h h2
        case measure => simp [intOf]
    · obtain rfl : k = 0 := by omega
      go_wp2
      go_ret
      have hl := adv_last (by omega) W n HN.out (fun j h => HA.out j (by omega) h)
      exact ⟨only_alloc_left hG, .inr ⟨hl, rfl⟩⟩
end Go.Proofs.YtadbkoioipjgmaaDoor

/-
  CONTRACT: advance, on a list of any length with numbers from lo on.
-/
import Derived.Test.YtglkjiimmlobbaaPzLists
namespace Go.Proofs.Ytglkjiimmlobbaa
open Go.RowKit Go.Shelf
theorem only_drewN {a w : World} {row : Option Nat} (h : a.grownBy w row) (n : Nat) : a.grownBy (w.drewN n) row := ⟨h.os, h.tape, h.output, h.size, h.block⟩
theorem only_drew {a w : World} {row : Option Nat} (h : a.grownBy w row) : a.grownBy w.drew row := ⟨h.os, h.tape, h.output, h.size, h.block⟩
theorem only_setCell {a w : World} {g : Nat} (h : a.grownBy w (some g)) {p : Addr} (hp : p.block = g ∨ a.heap.size ≤ p.block) (u : Value) : a.grownBy (w.setCell p u) (some g) :=
  ⟨h.os, h.tape, h.output, by simpa [World.setCell] using h.size, fun i hi hne => (Below.heap_setCell w p u i (by
    rintro rfl
    rcases hp with hp | hp
    · exact hne (by rw [hp])
    · omega)).trans (h.block i hi hne)⟩
theorem nth_beyond {c : List Int} {j : Nat} (h : c.length ≤ j) : nth c j = 0 := by simp [nth, List.getElem?_eq_none h]
/-- the digits of the next number -/
theorem adv_next {s : Nat} (hs : 1 < s) (w n i : Nat) (hn : n < s ^ w) (hi : i < w) (h1 : nth (dig s w n) i + 1 < s) (h2 : ∀ j, i < j → j < w → nth (dig s w n) j + 1 = s) :
    n + 1 < s ^ w ∧ ∀ j, nth (dig s w (n + 1)) j = if j = i then nth (dig s w n) i + 1 else if i < j then 0 else nth (dig s w n) j := by
  have hlt : n + 1 < s ^ w := by
    rcases Nat.lt_or_ge (n + 1) (s ^ w) with h | h
    · exact h
    · have e : n + 1 = s ^ w := by omega
      have := dig_last hs w n e i hi
      simp only [nth] at h1
      omega
  refine ⟨hlt, ?_⟩
  obtain ⟨k, hk, a1, a2, a3, a4⟩ := dig_succ hs w n hlt
  have hki : k = i := by
    rcases Nat.lt_trichotomy k i with h | h | h
    · have := (a4 i h hi).1
      simp only [nth] at h1
      omega
    · exact h
    · have := h2 k h hk
      simp only [nth] at this
      omega
  subst hki
  intro j
  by_cases e1 : j = k
  · subst e1; rw [if_pos rfl]; exact a2
  · rw [if_neg e1]
    by_cases e2 : k < j
    · rw [if_pos e2]
      by_cases e3 : j < w
      · exact (a4 j e2 e3).2
      · exact nth_beyond (by rw [dig_length]; omega)
    · rw [if_neg e2]; exact a1 j (by omega)
theorem adv_last {s : Nat} (hs : 1 < s) (w n : Nat) (hn : n < s ^ w) (h2 : ∀ j, j < w → nth (dig s w n) j + 1 = s) : n + 1 = s ^ w := by
  rcases Nat.lt_or_ge (n + 1) (s ^ w) with h | h
  · obtain ⟨k, hk, _, _, a3, _⟩ := dig_succ hs w n h
    have := h2 k hk
    simp only [nth] at this
    omega
  · omega
/-- a row by its cells -/
def rowG (lo : Int) (f : Nat → Int) (W : Nat) : List Value := (List.range W).map (fun j => I (f j + lo))
theorem rowG_at (lo : Int) (f : Nat → Int) (W k : Nat) (h : k < W) : (rowG lo f W).toArray[k]? = some (I (f k + lo)) := by simp [rowG, h]
theorem rowG_set (lo : Int) (f : Nat → Int) (W k : Nat) (v : Int) : (rowG lo f W).toArray.setIfInBounds k (I (v + lo)) = (rowG lo (fun j => if j = k then v else f j) W).toArray := by
  apply Array.toList_inj.1
  simp only [Array.toList_setIfInBounds]
  refine List.ext_getElem (by simp [rowG]) fun i h1 h2 => ?_
  simp only [List.getElem_set, rowG, List.getElem_map, List.getElem_range]
  by_cases e : k = i
  · subst e; simp
  · rw [if_neg e, if_neg (fun q => e q.symm)]
theorem rowG_congr (lo : Int) (f g : Nat → Int) (W : Nat) (h : ∀ j, j < W → f j = g j) : rowG lo f W = rowG lo g W :=
  List.map_congr_left fun j hj => by rw [h j (by simpa using hj)]

set_option maxRecDepth 100000 in
set_option maxHeartbeats 1000000 in
theorem advance_any (W S : Nat) (lo : Int) (hW : W ≤ 100) (hS : 2 ≤ S) (hS10 : S ≤ 100) (hlo : -100 ≤ lo) (hlo2 : lo ≤ 100) (n : Nat) (hn : n < S ^ W) (g cap : Nat) (w : World) (hrow : w.heap[g]? = some (.cells (rowG lo (nth (dig S W n)) W).toArray 3 (0, 0))) :
    Calls Try.prog 155 #[.slice (some ⟨g, 0, none⟩) W cap, I lo, I (lo + S - 1)] w fun e w' => w.grownBy w' (some g) ∧
      ((n + 1 < S ^ W ∧ e = .returned (.bool true) ∧ w'.heap[g]? = some (.cells (rowG lo (nth (dig S W (n + 1))) W).toArray 3 (0, 0))) ∨ (n + 1 = S ^ W ∧ e = .returned (.bool false))) := by
  have H0 := Lib.hid hrow
  clear hrow
  have W1 : IntKind.i64.wrap ((W : Int) - 1) = (W : Int) - 1 := (IntWalk.i64_left _).trans (IntWalk.wrap64_in _ ⟨by omega, by omega⟩)
  have HN := Lib.hid hn
  clear hn
  go_enter Try.func155, Try.ntmps155
  go_wp2
  go_loopw [7] (fun i wr => ∃ k : Nat, k ≤ W ∧ i = .int .i64 ((k : Int) - 1) ∧ wr.heap[g]? = some (.cells (rowG lo (fun j => if k ≤ j then 0 else nth (dig S W n) j) W).toArray 3 (0, 0)) ∧ Hid (∀ j, k ≤ j → j < W → nth (dig S W n) j + 1 = S) ∧ w.grownBy wr (some g)) (fun i _ => (intOf i + 1).toNat)
  case atStart =>
    refine ⟨W, Nat.le_refl _, rfl, ?_, Lib.hid (fun j h1 h2 => by omega), World.grownBy.refl _ _⟩
    rw [rowG_congr _ _ (nth (dig S W n)) W (fun j hj => by rw [if_neg (by omega)])]
    exact H0.out
  case round =>
    obtain ⟨k, hk, rfl, hr, HA, hG⟩ := hrel
    by_cases hlt : 0 < k
    · obtain ⟨i, rfl⟩ : ∃ i, k = i + 1 := ⟨k - 1, by omega⟩
      have ei : (((i + 1 : Nat) : Int) - 1) = (i : Int) := by omega
      rw [ei]
      have hcell : wr.cell? ⟨g, i, none⟩ = some (I (nth (dig S W n) i + lo)) := (cell_of_row wr g i _ _ _ hr).trans ((rowG_at lo _ W i (by omega)).trans (by rw [if_neg (by omega)]))
      have hfr : wr.frozen? ⟨g, i, none⟩ = false := frozen_of_row hr i
      have hdb : 0 ≤ nth (dig S W n) i ∧ nth (dig S W n) i < S := by
        have := dig_bounds (s := S) (by omega) W n (nth (dig S W n) i) (by rw [nth_lt (by rw [dig_length]; omega)]; exact List.getElem_mem _)
        exact this
      have hd1 := hdb.1
      have hd2 := hdb.2
      have HR := Lib.hid hr
      clear hr hdb ei hlt
      generalize hd : nth (dig S W n) i = d at *
      have HD := Lib.hid hd
      clear hd
      have ed : IntKind.i64.wrap (d + lo + 1) = (d + 1) + lo := by rw [show d + lo + 1 = (d + 1) + lo by omega]; exact (IntWalk.i64_left _).trans (IntWalk.wrap64_in _ ⟨by omega, by omega⟩)
      have hset : ∀ v : Int, (rowG lo (fun j => if i + 1 ≤ j then 0 else nth (dig S W n) j) W).toArray.setIfInBounds i (I (v + lo)) = (rowG lo (fun j => if j = i then v else if i + 1 ≤ j then 0 else nth (dig S W n) j) W).toArray := fun v => rowG_set lo _ W i v
      have HS := Lib.hid hset
      clear hset
      go_upto_region 5 with fail
      obtain ⟨w2, hw2⟩ : ∃ w2, w2 = wr.setCell ⟨g, i, none⟩ (.int .i64 (d + 1 + lo)) := ⟨_, rfl⟩
      rw [← hw2]
      have hr2 : w2.heap[g]? = some (.cells (rowG lo (fun j => if j = i then d + 1 else if i + 1 ≤ j then 0 else nth (dig S W n) j) W).toArray 3 (0, 0)) := by
        rw [hw2, ← HS.out]; exact row_set HR.out i _
      have hG2 : w.grownBy w2 (some g) := by
        rw [hw2]; exact only_setCell hG (.inl rfl) _
      clear hw2 hcell hfr HR hG
      have hcell : w2.cell? ⟨g, i, none⟩ = some (I (d + 1 + lo)) := (cell_of_row w2 g i _ _ _ hr2).trans ((rowG_at lo _ W i (by omega)).trans (by rw [if_pos rfl]))
      have hfr : w2.frozen? ⟨g, i, none⟩ = false := frozen_of_row hr2 i
      have HR := Lib.hid hr2
      clear hr2
      by_cases hc : d + 1 < S
      · have hle : d + 1 + lo ≤ lo + (S : Int) - 1 := by omega
        go_wp2
        go_ret
        have hnx := adv_next (by omega) W n i HN.out (by omega) (by rw [HD.out]; exact hc) (fun j h1 h2 => HA.out j (by omega) h2)
        refine ⟨hG2, .inl ⟨hnx.1, rfl, ?_⟩⟩
        rw [HR.out, rowG_congr lo _ (nth (dig S W (n + 1))) W (fun j _ => ?_)]
        rw [hnx.2 j, HD.out]
        by_cases e1 : j = i
        · rw [if_pos e1, if_pos e1]
        · rw [if_neg e1, if_neg e1]
          by_cases e2 : i < j
          · rw [if_pos e2, if_pos (by omega)]
          · rw [if_neg e2, if_neg (by omega)]
      · have hle : ¬ (d + 1 + lo ≤ lo + (S : Int) - 1) := by omega
        go_wp2
        go_roundw
        case rel =>
          refine ⟨i, by omega, rfl, ?_, Lib.hid (fun j h1 h2 => ?_), only_setCell hG2 (.inl rfl) _⟩
          · have e := row_set (w := w2) HR.out i (.int .i64 (0 + lo))
            rw [rowG_set lo _ W i] at e
            rw [Int.zero_add] at e
            rw [e, rowG_congr lo _ (fun j => if i ≤ j then 0 else nth (dig S W n) j) W (fun j _ => ?_)]
            by_cases e1 : j = i
            · rw [if_pos e1, if_pos (by omega)]
            · rw [if_neg e1, if_neg e1]
              by_cases e2 : i + 1 ≤ j
              · rw [if_pos e2, if_pos (by omega)]
              · rw [if_neg e2, if_neg (by omega)]
          · rcases Nat.eq_or_lt_of_le h1 with h | h
            · subst h; rw [HD.out]; omega
            · exact HA.out j h h2
        case measure => simp [intOf]
    · obtain rfl : k = 0 := by omega
      go_wp2
      go_ret
      have hl := adv_last (by omega) W n HN.out (fun j h => HA.out j (by omega) h)
      exact ⟨hG, .inr ⟨hl, rfl⟩⟩
end Go.Proofs.Ytglkjiimmlobbaa

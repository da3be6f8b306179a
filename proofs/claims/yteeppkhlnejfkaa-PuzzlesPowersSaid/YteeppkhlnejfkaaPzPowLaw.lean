/-
  CONTRACT: the law PuzzlesPowers.
-/
import Derived.Test.YteeppkhlnejfkaaPzNxtLaw
import Derived.Test.YteeppkhlnejfkaaPzApp
import Derived.Test.YteeppkhlnejfkaaPzQTail
import Derived.Test.YteeppkhlnejfkaaPzSeq
namespace Go.Proofs.Yteeppkhlnejfkaa
open Go.RowKit Go.Shelf
/-- how great the rows of a polynomial become -/
def pBd : Nat → Nat → Nat
  | _, 0 => 0
  | 0, _ + 1 => 9
  | i + 1, m + 1 => pBd i (m + 1) + pBd i m
theorem prow_bd {d : List Int} (hd : d.length ≤ 5) (hb : ∀ j, -9 ≤ d.getD j 0 ∧ d.getD j 0 ≤ 9) : ∀ i k, k ≤ 5 → -(pBd i (5 - k) : Int) ≤ prow d i k ∧ prow d i k ≤ pBd i (5 - k)
  | 0, k, hk => by
    rw [prow]
    rcases Nat.lt_or_ge k 5 with h | h
    · obtain ⟨m, hm⟩ : ∃ m, 5 - k = m + 1 := ⟨4 - k, by omega⟩
      rw [hm, pBd]
      have := hb k
      omega
    · obtain rfl : k = 5 := by omega
      have : d.getD 5 0 = 0 := by simp [List.getD_eq_getElem?_getD, List.getElem?_eq_none hd]
      rw [this]
      simp [pBd]
  | i + 1, k, hk => by
    rcases Nat.lt_or_ge k 5 with h | h
    · obtain ⟨m, hm⟩ : ∃ m, 5 - k = m + 1 := ⟨4 - k, by omega⟩
      have h1 := prow_bd hd hb i k hk
      have h2 := prow_bd hd hb i (k + 1) (by omega)
      rw [show 5 - (k + 1) = m by omega] at h2
      rw [hm] at h1
      rw [hm, pBd, prow]
      omega
    · rw [prow_end d (i + 1) (by omega)]
      omega
theorem pBd_all : ∀ i, i < 14 → ∀ m, m < 6 → pBd i m ≤ 10000 := by decide
theorem prow_small {d : List Int} (hd : d.length ≤ 5) (hb : ∀ j, -9 ≤ d.getD j 0 ∧ d.getD j 0 ≤ 9) {i k : Nat} (hi : i < 14) (hk : k ≤ 5) : -10000 ≤ prow d i k ∧ prow d i k ≤ 10000 := by
  have h1 := prow_bd hd hb i k hk
  have h2 := pBd_all i hi (5 - k) (by omega)
  omega
/-- a list in a block, at its front -/
def RowAt (w : World) (g : Nat) (x : List Int) : Prop := ∃ cur : Array Value, w.heap[g]? = some (.cells cur 3 (0, 0)) ∧ cur.toList.take x.length = x.map I
theorem RowAt.lt {w : World} {g : Nat} {x : List Int} (h : RowAt w g x) : g < w.heap.size := by
  obtain ⟨cur, h1, -⟩ := h
  exact row_lt' h1
theorem RowAt.cell {w : World} {g : Nat} {x : List Int} (h : RowAt w g x) {j : Nat} (hj : j < x.length) : w.cell? ⟨g, j, none⟩ = some (I (nth x j)) := by
  obtain ⟨cur, h1, h2⟩ := h
  have h1' : w.heap[g]? = some (.cells cur.toList.toArray 3 (0, 0)) := by simpa using h1
  refine (cell_of_row w g j _ _ _ h1').trans ?_
  have h3 : (cur.toList.take x.length)[j]? = (x.map I)[j]? := by rw [h2]
  rw [List.getElem?_take_of_lt hj] at h3
  rw [nth_lt hj]
  simpa [hj] using h3
theorem RowAt.frozen {w : World} {g : Nat} {x : List Int} (h : RowAt w g x) (j : Nat) : w.frozen? ⟨g, j, none⟩ = false := by
  obtain ⟨cur, h1, -⟩ := h
  exact frozen_of_row h1 j
theorem RowAt.set {w : World} {g : Nat} {x : List Int} (h : RowAt w g x) (k : Nat) (v : Int) : RowAt (w.setCell ⟨g, k, none⟩ (I v)) g (x.set k v) := by
  obtain ⟨cur, h1, h2⟩ := h
  refine ⟨_, row_set h1 k (I v), ?_⟩
  rw [Array.toList_setIfInBounds, List.length_set, List.take_set, h2, List.map_set]
theorem RowAt.keep {w w' : World} {g : Nat} {x : List Int} (h : RowAt w g x) (e : w'.heap[g]? = w.heap[g]?) : RowAt w' g x := by
  obtain ⟨cur, h1, h2⟩ := h
  exact ⟨cur, e.trans h1, h2⟩
theorem own_rowAt {w : World} {base : Nat} {u : Value} {x : List Int} (h : w.ownsRow base 3 1 u x.length (x.map I)) (h0 : 0 < x.length) : ∃ g c : Nat, u = .slice (some ⟨g, 0, none⟩) x.length c ∧ base ≤ g ∧ x.length ≤ c ∧ RowAt w g x := by
  rcases h.2 with ⟨-, h1⟩ | ⟨g, cap, cur, rfl, hb, hh, h1, h2, h3, h4⟩
  · omega
  · exact ⟨g, cap, rfl, hb, h1, cur, hh, by simpa using h4⟩
/-- the row in the midst of a step -/
def rowS (d : List Int) (i k : Nat) : List Int := (List.range d.length).map (fun j => if j < k then prow d (i + 1) j else prow d i j)
theorem rowS_length (d : List Int) (i k : Nat) : (rowS d i k).length = d.length := by simp [rowS]
theorem rowS_at {d : List Int} {i k j : Nat} (h : j < d.length) : nth (rowS d i k) j = if j < k then prow d (i + 1) j else prow d i j := by
  rw [nth_lt (by rw [rowS_length]; exact h)]
  simp [rowS]
theorem rowS_start (d : List Int) : rowS d 0 0 = d := by
  refine List.ext_getElem (by rw [rowS_length]) fun j h1 h2 => ?_
  simp [rowS, prow, h2]
theorem rowS_step {d : List Int} {i k : Nat} : (rowS d i k).set k (prow d i k + prow d i (k + 1)) = rowS d i (k + 1) := by
  refine List.ext_getElem (by simp [rowS]) fun j h1 h2 => ?_
  rw [List.getElem_set]
  by_cases e : k = j
  · subst e
    rw [if_pos rfl]
    simp [rowS, prow]
  · rw [if_neg e]
    simp only [rowS, List.getElem_map, List.getElem_range]
    by_cases h3 : j < k
    · rw [if_pos h3, if_pos (by omega)]
    · rw [if_neg h3, if_neg (by omega)]
theorem rowS_end {d : List Int} {i k : Nat} (h : d.length ≤ k + 1) : rowS d i k = rowS d (i + 1) 0 := by
  refine List.ext_getElem (by simp [rowS]) fun j h1 h2 => ?_
  rw [rowS_length] at h1
  simp only [rowS, List.getElem_map, List.getElem_range, Nat.not_lt_zero, if_false]
  by_cases h3 : j < k
  · rw [if_pos h3]
  · rw [if_neg h3, prow_succ, prow_end d i (show d.length ≤ j + 1 by omega), Int.add_zero]
theorem ptake_succ (d : List Int) (i : Nat) : ptake d 0 (i + 1) = ptake d 0 i ++ [prow d i 0] := by
  rw [ptake, ptake, List.range_succ, List.map_append]
  rfl
def powB (d : List Int) (t : Int) : Bool := decide (d.length ≤ 5) && decide (0 < d.length) && decide (2 ≤ t) && decide (t ≤ 12) && decide ((d.length : Int) ≤ t - 1)

theorem next_w (A : Option Addr) (c n : Nat) (l : List Int) (hn : l.length = n) (w : World) (hx : IntsR w w.heap.size A l) (hl : n ≤ maxLen) :
    Calls Try.prog 26 #[.slice A n c] w fun e w' => e = .returned (nextV l) ∧ Below w.heap.size w w' := by
  subst hn
  exact pNext_any A c l w hx hl
set_option maxRecDepth 100000 in
set_option maxHeartbeats 4000000 in
theorem powers_any (A1 : Option Addr) (c1 : Nat) (d : List Int) (t : Int) (w : World) (hx : IntsR w w.heap.size A1 d) (hl : d.length ≤ maxLen) (hn1 : A1 = none → d.length = 0 ∧ c1 = 0) :
    Calls Try.prog 17 #[.slice A1 d.length c1, I t] w fun e w' => e = .returned (.bool true) ∧ Below w.heap.size w w' := by
  have hl' := hl
  unfold maxLen at hl'
  go_enter Try.func17, Try.ntmps17
  go_upto_region 1 with fail
  go_cut [35] from 13 to 35 (fun s wx => (∃ b : Bool, s = .bool b ∧ (b = false → d.length ≤ 5 ∧ 0 < d.length ∧ 2 ≤ t ∧ t ≤ 12 ∧ (d.length : Int) ≤ t - 1)) ∧ wx = w)
  case first =>
    by_cases h1 : d.length ≤ 5
    · have a1 : decide ((5 : Int) < (d.length : Int)) = false := decide_eq_false (by omega)
      have a2 : decide (5 < d.length) = false := decide_eq_false (by omega)
      by_cases h2 : d.length = 0
      · have a3 : ((d.length : Int) == 0) = true := by simp [h2]
        clear h2 h1
        go_wp2_with fail
        go_meet
        exact ⟨⟨true, rfl, fun h => by cases h⟩, rfl⟩
      · have a3 : ((d.length : Int) == 0) = false := by simp; intro e; exact h2 (by simp [e])
        by_cases h3 : 2 ≤ t
        · have a4 : decide (t < 2) = false := decide_eq_false (by omega)
          by_cases h4 : t ≤ 12
          · have a5 : decide (12 < t) = false := decide_eq_false (by omega)
            have ew : IntKind.i64.wrap (t - 1) = t - 1 := (IntWalk.i64_left _).trans (IntWalk.wrap64_in _ ⟨by omega, by omega⟩)
            by_cases h5 : (d.length : Int) ≤ t - 1
            · have a6 : decide (t - 1 < (d.length : Int)) = false := decide_eq_false (by omega)
              have HALL : Hid (d.length ≤ 5 ∧ 0 < d.length ∧ 2 ≤ t ∧ t ≤ 12 ∧ (d.length : Int) ≤ t - 1) := Lib.hid ⟨h1, by omega, h3, h4, h5⟩
              clear h2
              go_wp2_with fail
              go_meet
              exact ⟨⟨false, rfl, fun _ => HALL.out⟩, rfl⟩
            · have a6 : decide (t - 1 < (d.length : Int)) = true := decide_eq_true (by omega)
              clear h2
              go_wp2_with fail
              go_meet
              exact ⟨⟨true, rfl, fun h => by cases h⟩, rfl⟩
          · have a5 : decide (12 < t) = true := decide_eq_true (by omega)
            clear h2
            go_wp2_with fail
            go_meet
            exact ⟨⟨true, rfl, fun h => by cases h⟩, rfl⟩
        · have a4 : decide (t < 2) = true := decide_eq_true (by omega)
          clear h2
          go_wp2_with fail
          go_meet
          exact ⟨⟨true, rfl, fun h => by cases h⟩, rfl⟩
    · have a1 : decide ((5 : Int) < (d.length : Int)) = true := decide_eq_true (by omega)
      have a2 : decide (5 < d.length) = true := decide_eq_true (by omega)
      go_wp2_with fail
      go_meet
      exact ⟨⟨true, rfl, fun h => by cases h⟩, rfl⟩
  case rest =>
    obtain ⟨⟨b, rfl, hb⟩, hwc⟩ := hcut
    rw [hwc]
    clear hwc
    cases b
    · obtain ⟨h1, h2, h3, h4, h5⟩ := hb rfl
      obtain ⟨T, rfl⟩ : ∃ T : Nat, t = T := ⟨t.toNat, by omega⟩
      have hT2 : 2 ≤ T := by omega
      have hT12 : T ≤ 12 := by omega
      have hqT : d.length + 1 ≤ T := by omega
      clear hb h3 h4 h5
      go_wp2_with (at_builtin; refine wpList_append_ints rfl _ _ rfl w.heap.size (.slice none 0 0) [] rfl (World.ownsRow_nil _ _ _ _) A1 c1 d rfl hx hn1 (by simp; omega) (Nat.le_refl _) ?_)
      intro v1 w1 hown1 hb1
      have hown1' : w1.ownsRow w.heap.size 3 1 v1 d.length (d.map I) := by simpa using hown1
      obtain ⟨g, cg, rfl, hgb, hgc, hrow⟩ := own_rowAt hown1' h2
      clear hown1 hown1'
      go_wp2_with fail
      go_loop [6] (fun i => ∃ k : Nat, k ≤ d.length ∧ i = .int .i64 k ∧ Hid (∀ j, j < k → -9 ≤ nth d j ∧ nth d j ≤ 9)) (fun i => d.length - (intOf i).toNat)
      case atStart => exact ⟨0, Nat.zero_le _, rfl, Lib.hid (fun j h => by omega)⟩
      case round =>
        obtain ⟨k, hk, rfl, HA⟩ := hrel
        by_cases hlt : k < d.length
        · have hc := hrow.cell hlt
          by_cases h9 : -9 ≤ nth d k
          · have e1 : decide (nth d k < -9) = false := decide_eq_false (by omega)
            by_cases h99 : nth d k ≤ 9
            · have e2 : decide (9 < nth d k) = false := decide_eq_false (by omega)
              have HK := Lib.hid (And.intro h9 h99)
              clear h9 h99
              go_wp2
              go_round
              case rel => exact ⟨k + 1, by omega, by go_num, Lib.hid (fun j hj => by rcases Nat.lt_succ_iff_lt_or_eq.1 hj with h | rfl; exact HA.out j h; exact HK.out)⟩
              case measure => simp [intOf]; omega
            · have e2 : decide (9 < nth d k) = true := decide_eq_true (by omega)
              clear h9 h99
              go_wp2_with fail
              refine (works_any w1).mono ?_
              rintro e w3 ⟨rfl, hb3⟩
              go_wp2
              go_ret
              exact ⟨rfl, hb1.trans (hb3.mono hb1.size)⟩
          · have e1 : decide (nth d k < -9) = true := decide_eq_true (by omega)
            clear h9
            go_wp2_with fail
            refine (works_any w1).mono ?_
            rintro e w3 ⟨rfl, hb3⟩
            go_wp2
            go_ret
            exact ⟨rfl, hb1.trans (hb3.mono hb1.size)⟩
        · obtain rfl : k = d.length := by omega
          have hbd : ∀ j, -9 ≤ d.getD j 0 ∧ d.getD j 0 ≤ 9 := fun j => by
            rcases Nat.lt_or_ge j d.length with h | h
            · have := HA.out j h
              simpa [nth, List.getD_eq_getElem?_getD] using this
            · rw [List.getD_eq_getElem?_getD, List.getElem?_eq_none h]
              exact ⟨by decide, by decide⟩
          have hsm : ∀ i k, i < 14 → k ≤ 5 → -10000 ≤ prow d i k ∧ prow d i k ≤ 10000 := fun i k a b => prow_small h1 hbd a b
          have HSM := Lib.hid hsm
          have hrow0 : RowAt w1 g (rowS d 0 0) := by rw [rowS_start]; exact hrow
          clear hbd hsm HA hlt hrow
          go_wp2_with fail
          go_loopw [7, 8] (fun v i wr => ∃ k : Nat, k ≤ T + 1 ∧ i = .int .i64 k ∧ wr.ownsRow (g + 1) 3 1 v (ptake d 0 k).length ((ptake d 0 k).map I) ∧ RowAt wr g (rowS d k 0) ∧ Below w.heap.size w wr) (fun _ i _ => T + 1 - (intOf i).toNat)
          case atStart => exact ⟨0, Nat.zero_le _, rfl, World.ownsRow_nil _ _ _ _, hrow0, hb1⟩
          case round =>
            obtain ⟨k, hk, rfl, hown, hrw, hB⟩ := hrel
            clear hrow0 hb1
            obtain ⟨wo, hwo⟩ : ∃ wo : World, wo = wr := ⟨_, rfl⟩
            subst hwo
            by_cases hlt : k ≤ T
            · have hgs := hrw.lt
              have hc0 : wo.cell? ⟨g, 0, none⟩ = some (I (prow d k 0)) := by
                have := hrw.cell (j := 0) (by rw [rowS_length]; exact h2)
                rw [this, rowS_at h2]
                rfl
              have HLP := Lib.hid (ptake_length d 0 k)
              have HPS := Lib.hid (ptake_succ d k)
              have hpl : (ptake d 0 k).length ≤ 13 := by rw [ptake_length]; omega
              have hnew := ints_new wo [prow d k 0] 3
              go_wp2_with (at_builtin; refine wpList_append_ints rfl _ _ rfl (g + 1) _ (ptake d 0 k) rfl (hown.alloc _) (some ⟨wo.heap.size, 0, none⟩) 1 [prow d k 0] rfl hnew (fun e => by cases e) (by simp; omega) (by simp; omega) ?_)
              intro v2 w2 hown2 hb2
              have hown3 : w2.ownsRow (g + 1) 3 1 v2 (ptake d 0 (k + 1)).length ((ptake d 0 (k + 1)).map I) := by rw [HPS.out]; simpa using hown2
              have hrw2 : RowAt w2 g (rowS d k 0) := hrw.keep ((hb2.block g (by omega)).trans (Below.heap_alloc _ _ _ hgs))
              have hB2 : Below w.heap.size w w2 := (hB.alloc hB.size _).trans (hb2.mono (by omega))
              clear hnew hown hown2 hb2 hc0 hrw hpl
              go_wp2_with fail
              go_loopw [9] (fun i wr => ∃ j : Nat, j + 1 ≤ d.length ∧ i = .int .i64 j ∧ wr.ownsRow (g + 1) 3 1 v2 (ptake d 0 (k + 1)).length ((ptake d 0 (k + 1)).map I) ∧ RowAt wr g (rowS d k j) ∧ Below w.heap.size w wr) (fun i _ => d.length - (intOf i).toNat)
              case atStart => exact ⟨0, by omega, rfl, hown3, hrw2, hB2⟩
              case round =>
                obtain ⟨j, hj, rfl, hownj, hrj, hBj⟩ := hrel
                clear hown3 hrw2 hB2
                have ej : IntKind.i64.wrap ((j : Int) + 1) = (j : Int) + 1 := (IntWalk.i64_left _).trans (IntWalk.wrap64_in _ ⟨by omega, by omega⟩)
                by_cases hlt2 : j + 1 < d.length
                · have hcj : wr.cell? ⟨g, j, none⟩ = some (I (prow d k j)) := by
                    rw [hrj.cell (j := j) (by rw [rowS_length]; omega), rowS_at (by omega), if_neg (by omega)]
                  have hcj1 : wr.cell? ⟨g, j + 1, none⟩ = some (I (prow d k (j + 1))) := by
                    rw [hrj.cell (j := j + 1) (by rw [rowS_length]; omega), rowS_at (by omega), if_neg (by omega)]
                  have hfj := hrj.frozen j
                  have hb1 := HSM.out k j (by omega) (by omega)
                  have hb2 := HSM.out k (j + 1) (by omega) (by omega)
                  have hstep := hrj.set j (prow d k j + prow d k (j + 1))
                  rw [rowS_step] at hstep
                  have HST := Lib.hid hstep
                  have HRJ := Lib.hid hrj
                  obtain ⟨x, hxx⟩ : ∃ x, x = prow d k j := ⟨_, rfl⟩
                  obtain ⟨y, hyy⟩ : ∃ y, y = prow d k (j + 1) := ⟨_, rfl⟩
                  rw [← hxx] at hcj hb1
                  rw [← hyy] at hcj1 hb2
                  have HXX := Lib.hid hxx
                  have HYY := Lib.hid hyy
                  have hb11 := hb1.1
                  have hb12 := hb1.2
                  have hb21 := hb2.1
                  have hb22 := hb2.2
                  have es : IntKind.i64.wrap (x + y) = x + y := (IntWalk.i64_left _).trans (IntWalk.wrap64_in _ ⟨by omega, by omega⟩)
                  have hji : ((j : Int) + 1) < (d.length : Int) := by omega
                  have hji0 : (j : Int) < (d.length : Int) := by omega
                  have hjn : ((j : Int) + 1).toNat = j + 1 := by omega
                  clear hxx hyy hb1 hb2 hrj hstep
                  go_wp2
                  refine wp_region_qtail 10 (by kernel_rfl) (by kernel_rfl) ?_
                  simp only [List.take_succ_cons, List.take_zero, List.drop_succ_cons, List.drop_zero]
                  obtain ⟨W, hW⟩ : ∃ W, W = wr.drew := ⟨_, rfl⟩
                  rw [← hW]
                  have f1 : W.cell? ⟨g, j, none⟩ = some (I x) := by rw [hW]; exact hcj
                  have f2 : W.cell? ⟨g, j + 1, none⟩ = some (I y) := by rw [hW]; exact hcj1
                  have f3 : W.frozen? ⟨g, j, none⟩ = false := by rw [hW]; exact hfj
                  have HW := Lib.hid hW
                  clear hW hcj hcj1 hfj
                  repeat (first | go_big_quiet_skip | (go_big_quiet_want; go_big_quiet_op; go_big_quiet_on))
                  refine wpQuiet_nil ?_
                  go_wp2
                  go_roundw
                  case rel =>
                    have hB' : Below g wr (W.setCell ⟨g, j, none⟩ (I (x + y))) := by
                      rw [HW.out]; exact (Below.refl _ _).drew.setCell (p := ⟨g, j, none⟩) (Nat.le_refl _) _
                    have hD : BelowD g (g + 1) wr (W.setCell ⟨g, j, none⟩ (I (x + y))) := ⟨hB', fun b h1 h2 => by
                      refine (Below.heap_setCell _ _ _ _ (by show b ≠ g; omega)).trans ?_
                      rw [HW.out]; rfl⟩
                    refine ⟨j + 1, by omega, by go_num, own_keepD hownj hD, ?_, hBj.trans (hB'.mono hgb)⟩
                    have h := HST.out
                    rw [← HXX.out, ← HYY.out] at h
                    rw [HW.out]
                    exact h.keep rfl
                  case measure => simp [intOf]; omega
                · have hend := rowS_end (d := d) (i := k) (k := j) (by omega)
                  have hji : ¬ ((j : Int) + 1) < (d.length : Int) := by omega
                  have HEND := Lib.hid hend
                  clear hend
                  go_wp2
                  go_roundw
                  case rel => exact ⟨k + 1, by omega, by go_num, hownj, by rw [← HEND.out]; exact hrj, hBj⟩
                  case measure => simp [intOf]; omega
            · obtain rfl : k = T + 1 := by omega
              have hT : ¬ ((T + 1 : Nat) : Int) ≤ (T : Int) := by omega
              have hT' : decide (((T + 1 : Nat) : Int) ≤ (T : Int)) = false := decide_eq_false hT
              have hpl : (ptake d 0 (T + 1)).length = T + 1 := ptake_length _ _ _
              obtain ⟨A4, c4, rfl, hi4, hm4, hc4⟩ := own_cap hown
              rw [hpl] at hc4 ⊢
              have htake : (ptake d 0 (T + 1)).take T = ptake d 0 T := by
                rw [ptake_succ, List.take_left' (ptake_length _ _ _)]
              have hiT : IntsR wo wo.heap.size A4 (ptake d 0 T) := by rw [← htake]; exact ints_take hi4 T
              have hTl : (ptake d 0 T).length = T := ptake_length _ _ _
              have hsq : seqB (ptake d 0 T) = true := by
                simp only [seqB, Bool.and_eq_true, wi, decide_eq_true_eq, inB, List.all_eq_true]
                refine ⟨by omega, fun x hx => ?_⟩
                obtain ⟨i, hi, rfl⟩ := List.mem_map.1 hx
                exact HSM.out i 0 (by have := List.mem_range.1 hi; omega) (by omega)
              obtain ⟨D, hD1, hD2⟩ := nxt_prow d (d.length - 1) 0 T T (by omega) (by omega) (Nat.le_refl _)
              have hnv : nextV (ptake d 0 T) = .tuple #[I (prow d T 0), I (D : Nat), I 0] := by
                rw [nextV, if_pos hsq, hTl, hD2]
              obtain ⟨ad, rfl, had, hcs⟩ := hi4 (by omega)
              have hcT : wo.cell? (ad.add T) = some (I (prow d T 0)) := by
                rw [hcs T (by omega), nth_lt (by omega), ptake_at]
              have HNV := Lib.hid hnv
              have HTL := Lib.hid hTl
              have hTle : T ≤ c4 := by omega
              have hDq : (D : Int) < (d.length : Int) := by omega
              have hDq2 : D < d.length := by omega
              have hTT : (T : Int) < ((T + 1 : Nat) : Int) := by omega
              have hTT2 : T < T + 1 := by omega
              have q3 : (prow d T 0 == prow d T 0) = true := by simp
              have hbt := HSM.out T 0 (by omega) (by omega)
              generalize prow d T 0 = z at *
              clear hnv hTl hsq hD1 hD2 htake hpl hi4 hm4 hcs hT hbt hown hrw hlt
              go_wp2_with fail
              refine (next_w (some ad) c4 T (ptake d 0 T) HTL.out wo hiT (by unfold maxLen; omega)).mono ?_
              rintro e w3 ⟨rfl, hb3⟩
              rw [HNV.out]
              have hcT3 := (hb3.cell (p := ad.add T) (by rw [block_of_add]; exact had)).trans hcT
              have hB3 : Below w.heap.size w w3 := hB.trans (hb3.mono hB.size)
              clear hcT hiT hb3 hB
              go_wp2_with fail
              refine (works_any w3).mono ?_
              rintro e w4 ⟨rfl, hb4⟩
              go_wp2
              go_ret
              exact ⟨rfl, hB3.trans (hb4.mono hB3.size)⟩
    · go_wp2_with fail
      refine (works_any w).mono ?_
      rintro e w3 ⟨rfl, hb3⟩
      go_wp2
      go_ret
      exact ⟨rfl, hb3⟩
end Go.Proofs.Yteeppkhlnejfkaa

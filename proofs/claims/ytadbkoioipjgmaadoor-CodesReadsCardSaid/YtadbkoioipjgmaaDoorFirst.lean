/-
  CONTRACTS: first, checkCodes.
-/
import Derived.Test.YtadbkoioipjgmaaDoorAns
namespace Go.Proofs.YtadbkoioipjgmaaDoor
open Go.RowKit
def fstErr : List Int → Int
  | [] => 0
  | e :: r => if e = 0 then fstErr r else e
theorem fstErr_drop (es : List Int) (k : Nat) (hk : k < es.length) : fstErr (es.drop k) = if nth es k = 0 then fstErr (es.drop (k + 1)) else nth es k := by
  rw [List.drop_eq_getElem_cons hk, fstErr, nth_lt hk]

set_option maxHeartbeats 400000 in
theorem first_any (A : Option Addr) (c : Nat) (es : List Int) (w : World) (hx : IntsR w w.heap.size A es) (hl : es.length ≤ maxLen) :
    Calls Tryd.prog 63 #[.slice A es.length c] w fun e w' => e = .returned (.int .i64 (fstErr es)) ∧ w = w' := by
  unfold maxLen at hl
  go_enter Tryd.func63, Tryd.ntmps63
  go_wp2
  go_loop [7] (fun i => ∃ k : Nat, k ≤ es.length ∧ i = .int .i64 k ∧ Hid (fstErr es = fstErr (es.drop k))) (fun i => es.length - (intOf i).toNat)
  case atStart => exact ⟨0, Nat.zero_le _, rfl, Lib.hid rfl⟩
  case round =>
    obtain ⟨k, hk, rfl, hall⟩ := hrel
    by_cases hlt : k < es.length
    · obtain ⟨ad, rfl, hb, hc⟩ := hx.at_ hlt
      have hd := Lib.hid (fstErr_drop es k hlt)
      by_cases he : nth es k = 0
      · have hb0 : (nth es k != 0) = false := by simp [he]
        have HE := Lib.hid he
        clear he
        go_wp2
        go_round
        case rel => exact ⟨k + 1, by omega, by go_num, Lib.hid (by rw [hall.out, hd.out, if_pos HE.out])⟩
        case measure => simp [intOf]; omega
      · have hb0 : (nth es k != 0) = true := by simpa using he
        have HE := Lib.hid he
        clear he
        go_wp2
        go_ret
        exact ⟨ret_int (by rw [hall.out, hd.out, if_neg HE.out]), rfl⟩
    · obtain rfl : k = es.length := by omega
      go_wp2
      go_ret
      exact ⟨ret_int (by rw [hall.out, List.drop_length]; rfl), rfl⟩

/-- a slice of slices of integers -/
def SlsR (w : World) (B : Nat) (A : Option Addr) (xss : List (List Int)) : Prop :=
  0 < xss.length → ∃ ad, A = some ad ∧ ad.block < B ∧ ∀ j (h : j < xss.length), ∃ A' c', w.cell? (ad.add j) = some (.slice A' (xss[j]).length c') ∧ IntsR w B A' xss[j] ∧ (xss[j]).length ≤ maxLen
theorem SlsR.below {w w' : World} {B B' : Nat} {A : Option Addr} {xss : List (List Int)} (h : SlsR w B A xss) (hb : Below B' w w') (hB : B ≤ B') : SlsR w' B A xss := fun h0 => by
  obtain ⟨ad, e, hl, hc⟩ := h h0
  refine ⟨ad, e, hl, fun j hj => ?_⟩
  obtain ⟨A', c', h1, h2, h3⟩ := hc j hj
  exact ⟨A', c', (hb.cell (by rw [block_of_add]; omega)).trans h1, h2.below hb hB, h3⟩
theorem SlsR.more {w : World} {B B' : Nat} {A : Option Addr} {xss : List (List Int)} (h : SlsR w B A xss) (hB : B ≤ B') : SlsR w B' A xss := fun h0 => by
  obtain ⟨ad, e, hl, hc⟩ := h h0
  refine ⟨ad, e, by omega, fun j hj => ?_⟩
  obtain ⟨A', c', h1, h2, h3⟩ := hc j hj
  exact ⟨A', c', h1, h2.more hB, h3⟩
theorem kept_ints {w1 W : World} {A : Option Addr} {x : List Int} (h : KeptS w1 W) (hx : IntsR w1 w1.heap.size A x) : IntsR W W.heap.size A x := (hx.below h.1 (Nat.le_refl _)).more h.1.size
theorem ints_call {w1 W : World} {A : Option Addr} {x : List Int} (h : Below w1.heap.size w1 W) (hx : IntsR w1 w1.heap.size A x) : IntsR W W.heap.size A x := (hx.below h (Nat.le_refl _)).more h.size
theorem sls_call {w1 W : World} {A : Option Addr} {x : List (List Int)} (h : Below w1.heap.size w1 W) (hx : SlsR w1 w1.heap.size A x) : SlsR W W.heap.size A x := (hx.below h (Nat.le_refl _)).more h.size
/-- integers in a new block -/
theorem ints_new (w : World) (xs : List Int) (t : TypeId) : IntsR (w.alloc (.cells (xs.map I).toArray t)) (w.alloc (.cells (xs.map I).toArray t)).heap.size (some ⟨w.heap.size, 0, none⟩) xs := fun _ => by
  refine ⟨_, rfl, by simp, fun j hj => ?_⟩
  have : (⟨w.heap.size, 0, none⟩ : Addr).add j = ⟨w.heap.size, j, none⟩ := by unfold Addr.add; split <;> simp_all
  rw [this, alloc_cell, nth_lt hj]
  simp [hj]
theorem all_take_snocL {α : Type} (p : α → Bool) (xs : List α) (k : Nat) (hk : k < xs.length) (h : (xs.take k).all p = true) (hp : p xs[k] = true) : (xs.take (k + 1)).all p = true := by
  rw [List.take_succ_eq_append_getElem hk, List.all_append, h]
  simpa using hp
theorem not_allL {α : Type} (p : α → Bool) (xs : List α) (k : Nat) (hk : k < xs.length) (hp : p xs[k] = false) : xs.all p = false := by
  rw [List.all_eq_false]
  exact ⟨_, List.getElem_mem hk, by simpa using hp⟩
def codesErr (W S : Int) (xss : List (List Int)) : Int := if xss.all (codeB W S) then 0 else 12

set_option maxHeartbeats 400000 in
theorem checkCodes_any (W S : Int) (A : Option Addr) (c : Nat) (xss : List (List Int)) (w : World) (hx : SlsR w w.heap.size A xss) (hl : xss.length ≤ maxLen) :
    Calls Tryd.prog 66 #[lockV W S, .slice A xss.length c] w fun e w' => e = .returned (.int .i64 (codesErr W S xss)) ∧ Below w.heap.size w w' := by
  unfold maxLen at hl
  go_enter Tryd.func66, Tryd.ntmps66
  go_wp2
  go_loopw [9] (fun i wr => ∃ k : Nat, k ≤ xss.length ∧ i = .int .i64 k ∧ Hid ((xss.take k).all (codeB W S) = true) ∧ Below (w.heap.size + 1) (w.alloc (.cells #[.int .i64 W, .int .i64 S] 78)) wr) (fun i _ => xss.length - (intOf i).toNat)
  case atStart => exact ⟨0, Nat.zero_le _, rfl, rfl, Below.refl _ _⟩
  case round =>
    obtain ⟨k, hk, rfl, HA, hB⟩ := hrel
    have c0 := box_later hB (by omega) 0
    have c1 := box_later hB (by omega) 1
    have hbw : Below w.heap.size w wr := ((Below.refl _ w).alloc (Nat.le_refl _) _).trans (hB.mono (by omega))
    have hx' := hx.below hbw (Nat.le_refl _)
    have hsz := hbw.size
    clear hx
    by_cases hlt : k < xss.length
    · obtain ⟨ad, rfl, hb, hc⟩ := hx' (by omega)
      obtain ⟨A', c', hc1, hc2, hc3⟩ := hc k hlt
      have hc2' := hc2.more hsz
      clear hc hx'
      generalize hxs : xss[k] = xs at hc1 hc2 hc2' hc3
      have HX := Lib.hid hxs
      clear hxs
      cases hp : codeB W S xs
      · have h2 : codesErr W S xss = 12 := by rw [codesErr, not_allL (codeB W S) xss k hlt (by rw [HX.out]; exact hp)]; rfl
        have H2 := Lib.hid h2
        clear h2
        go_wp2_with (go_at_call 105; refine (hasCode_any _ _ _ _ _ _ hc2' hc3).mono ?_; rintro e w' ⟨rfl, hb2⟩)
        go_ret
        exact ⟨ret_int H2.out.symm, hbw.trans (hb2.mono (by omega))⟩
      · go_wp2_with (go_at_call 105; refine (hasCode_any _ _ _ _ _ _ hc2' hc3).mono ?_; rintro e w' ⟨rfl, hb2⟩)
        go_roundw
        case rel => exact ⟨k + 1, by omega, by go_num, Lib.hid (all_take_snocL _ xss k hlt HA.out (by rw [HX.out]; exact hp)), hB.trans (hb2.mono (by have := hB.size; simp at this; omega))⟩
        case measure => simp [intOf]; omega
    · obtain rfl : k = xss.length := by omega
      rw [List.take_length] at HA
      go_wp2
      go_ret
      exact ⟨ret_int (by rw [codesErr, HA.out]; rfl), hbw⟩
end Go.Proofs.YtadbkoioipjgmaaDoor

/-
  CONTRACT: checkClues.
-/
import Derived.Test.YthegmomjfbcabaaDoorCheck
namespace Go.Proofs.YthegmomjfbcabaaDoor
open Go.RowKit
/-- a slice of clues -/
def ClsR (w : World) (B : Nat) (A : Option Addr) (cs : List Cl) : Prop :=
  0 < cs.length → ∃ g o : Nat, A = some ⟨g, o, none⟩ ∧ g < B ∧ ∀ j (h : j < cs.length), ∃ A' cap', (∀ i v, (clArr cs[j] A' cap')[i]? = some v → w.cell? ⟨g, o + j * 7 + i, none⟩ = some v) ∧ IntsR w B A' cs[j].guess ∧ cs[j].guess.length ≤ maxLen
theorem ClsR.below {w w' : World} {B B' : Nat} {A : Option Addr} {cs : List Cl} (h : ClsR w B A cs) (hb : Below B' w w') (hB : B ≤ B') : ClsR w' B A cs := fun h0 => by
  obtain ⟨g, o, e, hl, hc⟩ := h h0
  refine ⟨g, o, e, hl, fun j hj => ?_⟩
  obtain ⟨A', c', h1, h2, h3⟩ := hc j hj
  exact ⟨A', c', fun i v hv => (hb.cell (p := ⟨g, o + j * 7 + i, none⟩) (by show g < _; omega)).trans (h1 i v hv), h2.below hb hB, h3⟩
theorem ClsR.more {w : World} {B B' : Nat} {A : Option Addr} {cs : List Cl} (h : ClsR w B A cs) (hB : B ≤ B') : ClsR w B' A cs := fun h0 => by
  obtain ⟨g, o, e, hl, hc⟩ := h h0
  refine ⟨g, o, e, by omega, fun j hj => ?_⟩
  obtain ⟨A', c', h1, h2, h3⟩ := hc j hj
  exact ⟨A', c', h1, h2.more hB, h3⟩
theorem cls_call {w1 W : World} {A : Option Addr} {cs : List Cl} (h : Below w1.heap.size w1 W) (hx : ClsR w1 w1.heap.size A cs) : ClsR W W.heap.size A cs := (hx.below h (Nat.le_refl _)).more h.size
def cluesB (W S : Int) (cs : List Cl) : Bool := cs.all (clueB W S)
def cluesErr (W S most : Int) (cs : List Cl) : Int := if most < (cs.length : Int) then 2 else errIf (cluesB W S cs)

set_option maxRecDepth 100000 in
set_option maxHeartbeats 1000000 in
theorem checkClues_any (W S most : Int) (A : Option Addr) (c : Nat) (cs : List Cl) (w : World) (hT : Tab w) (hx : ClsR w w.heap.size A cs) (hl : cs.length ≤ maxLen) :
    Calls Tryd.prog 73 #[lockV W S, .slice A cs.length c, .int .i64 most] w fun e w' => e = .returned (.int .i64 (cluesErr W S most cs)) ∧ Below w.heap.size w w' := by
  unfold maxLen at hl
  by_cases hm : most < (cs.length : Int)
  · have HM := Lib.hid (show cluesErr W S most cs = 2 from if_pos hm)
    go_enter Tryd.func73, Tryd.ntmps73
    go_wp2
    go_ret
    exact ⟨ret_int HM.out.symm, (Below.refl _ _).alloc (Nat.le_refl _) _⟩
  · have HM := Lib.hid (show cluesErr W S most cs = errIf (cluesB W S cs) from if_neg hm)
    go_enter Tryd.func73, Tryd.ntmps73
    go_wp2
    go_loopw [16] (fun i wr => ∃ k : Nat, k ≤ cs.length ∧ i = .int .i64 k ∧ Hid ((cs.take k).all (clueB W S) = true) ∧ Below (w.heap.size + 1) (w.alloc (.cells #[.int .i64 W, .int .i64 S] 78)) wr) (fun i _ => cs.length - (intOf i).toNat)
    case atStart => exact ⟨0, Nat.zero_le _, rfl, rfl, Below.refl _ _⟩
    case round =>
      obtain ⟨k, hk, rfl, HA, hB⟩ := hrel
      have c0 := box_later hB (by omega) 0
      have c1 := box_later hB (by omega) 1
      have hbw : Below w.heap.size w wr := ((Below.refl _ w).alloc (Nat.le_refl _) _).trans (hB.mono (by omega))
      have hs0 := hB.size
      have hs1 : w.heap.size < wr.heap.size := by simp at hs0; omega
      have hx' := cls_call hbw hx
      have hT' := hT.below hbw
      clear hx hT
      by_cases hlt : k < cs.length
      · obtain ⟨gb, go, rfl, hb, hc⟩ := hx' (by omega)
        obtain ⟨A', c', hc1, hc2, hc3⟩ := hc k hlt
        generalize hxs : cs[k] = xs at hc1 hc2 hc3
        have HX := Lib.hid hxs
        clear hxs hc
        have d0 : wr.cell? ⟨gb, go + k * 7, none⟩ = some (I xs.kind) := hc1 0 _ rfl
        have d1 : wr.cell? ⟨gb, go + k * 7 + 1, none⟩ = some (I xs.a) := hc1 1 _ rfl
        have d2 : wr.cell? ⟨gb, go + k * 7 + 2, none⟩ = some (I xs.b) := hc1 2 _ rfl
        have d3 : wr.cell? ⟨gb, go + k * 7 + 3, none⟩ = some (I xs.n) := hc1 3 _ rfl
        have d4 : wr.cell? ⟨gb, go + k * 7 + 4, none⟩ = some (I xs.m) := hc1 4 _ rfl
        have d5 : wr.cell? ⟨gb, go + k * 7 + 5, none⟩ = some (.slice A' xs.guess.length c') := hc1 5 _ rfl
        have d6 : wr.cell? ⟨gb, go + k * 7 + 6, none⟩ = some (.bool xs.neg) := hc1 6 _ rfl
        clear hc1
        cases hp : clueB W S xs
        · have hp2 : clueErr W S xs = 11 := by rw [clueErr, hp]; rfl
          have HP2 := Lib.hid hp2
          clear hp2
          go_wp2_with fail
          refine (checkClue_any W S xs A' c' _ (hT'.below ((Below.refl _ _).alloc (Nat.le_refl _) _)) (ints_call ((Below.refl _ _).alloc (Nat.le_refl _) _) hc2) hc3).mono ?_
          rintro e w2 ⟨rfl, hb2⟩
          rw [HP2.out]
          have hbr : Below wr.heap.size wr w2 := ((Below.refl _ _).alloc (Nat.le_refl _) _).trans (hb2.mono (by simp))
          clear hb2
          go_wp2
          go_ret
          exact ⟨ret_int (by rw [HM.out, cluesB, not_allL (clueB W S) cs k hlt (by rw [HX.out]; exact hp)]; rfl), hbw.trans (hbr.mono hbw.size)⟩
        · have hp2 : clueErr W S xs = 0 := by rw [clueErr, hp]; rfl
          have HP2 := Lib.hid hp2
          clear hp2
          go_wp2_with fail
          refine (checkClue_any W S xs A' c' _ (hT'.below ((Below.refl _ _).alloc (Nat.le_refl _) _)) (ints_call ((Below.refl _ _).alloc (Nat.le_refl _) _) hc2) hc3).mono ?_
          rintro e w2 ⟨rfl, hb2⟩
          rw [HP2.out]
          have hbr : Below wr.heap.size wr w2 := ((Below.refl _ _).alloc (Nat.le_refl _) _).trans (hb2.mono (by simp))
          clear hb2
          go_wp2
          go_roundw
          case rel => exact ⟨k + 1, by omega, by go_num, Lib.hid (all_take_snocL _ cs k hlt HA.out (by rw [HX.out]; exact hp)), hB.trans (hbr.mono (by omega))⟩
          case measure => simp [intOf]; omega
      · obtain rfl : k = cs.length := by omega
        rw [List.take_length] at HA
        go_wp2
        go_ret
        exact ⟨ret_int (by rw [HM.out, cluesB, HA.out]; rfl), hbw⟩
end Go.Proofs.YthegmomjfbcabaaDoor

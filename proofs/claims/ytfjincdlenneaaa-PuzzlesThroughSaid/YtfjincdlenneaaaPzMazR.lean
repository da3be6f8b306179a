/-
  CONTRACTS: maze.roll; Booleans in memory.
-/
import Derived.Test.YtfjincdlenneaaaPzMazP
import Derived.Test.YtfjincdlenneaaaPzGrdM
namespace Go.Proofs.Ytfjincdlenneaaa
open Go.RowKit Go.Shelf
/-- Booleans in memory -/
def BoosR (w : World) (B : Nat) (A : Option Addr) (f : Nat → Bool) (n : Nat) : Prop :=
  0 < n → ∃ ad, A = some ad ∧ ad.block < B ∧ ∀ j, j < n → w.cell? (ad.add j) = some (.bool (f j))
theorem BoosR.at_ {w : World} {B : Nat} {A : Option Addr} {f : Nat → Bool} {n : Nat} (h : BoosR w B A f n) {k : Nat} (hk : k < n) : ∃ ad, A = some ad ∧ ad.block < B ∧ w.cell? (ad.add k) = some (.bool (f k)) := by
  obtain ⟨ad, e, hb, hc⟩ := h (by omega)
  exact ⟨ad, e, hb, hc k hk⟩
theorem BoosR.below {w w' : World} {B B' : Nat} {A : Option Addr} {f : Nat → Bool} {n : Nat} (h : BoosR w B A f n) (hb : Below B' w w') (hB : B ≤ B') : BoosR w' B A f n := fun h0 => by
  obtain ⟨ad, e, hl, hc⟩ := h h0
  exact ⟨ad, e, hl, fun j hj => (hb.cell (by rw [block_of_add]; omega)).trans (hc j hj)⟩
theorem BoosR.more {w : World} {B B' : Nat} {A : Option Addr} {f : Nat → Bool} {n : Nat} (h : BoosR w B A f n) (hB : B ≤ B') : BoosR w B' A f n := fun h0 => by
  obtain ⟨ad, e, hl, hc⟩ := h h0
  exact ⟨ad, e, by omega, hc⟩
theorem boos_call {w1 W : World} {A : Option Addr} {f : Nat → Bool} {n : Nat} (h : Below w1.heap.size w1 W) (hx : BoosR w1 w1.heap.size A f n) : BoosR W W.heap.size A f n := (hx.below h (Nat.le_refl _)).more h.size
abbrev mazV (W H : Nat) (fr tt : Int) (A : Option Addr) (n cap : Nat) : Value := .agg #[I W, I H, I fr, I tt, .slice A n cap]
set_option maxHeartbeats 1000000 in
theorem roll_any (W H c s n : Nat) (fr tt : Int) (A : Option Addr) (cap : Nat) (wall : Nat → Bool) (w : World) (hW : 1 ≤ W) (hW9 : W ≤ 64) (hH : H ≤ 64) (hn : n = W * H) (hn9 : n ≤ 64) (hc : c < n) (hs : s ≤ 3) (hx : BoosR w w.heap.size A wall n) :
    Calls Try.prog 107 #[mazV W H fr tt A n cap, I c, I s] w fun e w' => e = .returned (I (rolF W H wall c s : Nat)) ∧ Below w.heap.size w w' := by
  obtain ⟨w1, hw1, hs1, y0, hb1⟩ := one_box w (.cells #[I W, I H, I fr, I tt, .slice A n cap] 117)
  have hx1 := boos_call hb1 hx
  have s0 : w.heap.size < w1.heap.size := by omega
  obtain ⟨r, hr⟩ : ∃ r, r = rolF W H wall c s := ⟨_, rfl⟩
  rw [← hr]
  have HR := Lib.hid hr
  have HN := Lib.hid hn
  clear hx hs1 hr hn
  go_enter Try.func107, Try.ntmps107
  go_upto_region 1 with fail
  rw [← hw1]
  clear hw1
  have Y0 := Lib.hid y0
  clear y0
  go_loopw [1] (fun x wr => ∃ k : Nat, k < n ∧ x = I k ∧ Hid (r = rolF W H wall k s) ∧ Below w1.heap.size w1 wr) (fun x _ => ahd W H (intOf x).toNat s)
  case atStart => exact ⟨c, hc, rfl, HR, Below.refl _ _⟩
  case round =>
    obtain ⟨k, hk, rfl, HK, hbr⟩ := hrel
    have y0 := (hbr.block _ s0).trans Y0.out
    have b0 : wr.cell? ⟨w.heap.size, 0, none⟩ = some (I W) := cell_of_row wr _ 0 _ _ _ y0
    have b1 : wr.cell? ⟨w.heap.size, 1, none⟩ = some (I H) := cell_of_row wr _ 1 _ _ _ y0
    have b2 : wr.cell? ⟨w.heap.size, 2, none⟩ = some (I fr) := cell_of_row wr _ 2 _ _ _ y0
    have b3 : wr.cell? ⟨w.heap.size, 3, none⟩ = some (I tt) := cell_of_row wr _ 3 _ _ _ y0
    clear y0
    have cn := nextM_any W H k s fr tt
    go_wp2_with fail
    refine (cn wr hW hW9 hH (by omega) hs).mono ?_
    rintro e w2 ⟨v, rfl, hv, hb2⟩
    clear cn b0 b1 b2 b3
    have hB2 := hbr.trans (hb2.mono hbr.size)
    have y0 := (hB2.block _ s0).trans Y0.out
    have b4 : w2.cell? ⟨w.heap.size, 4, none⟩ = some (.slice A n cap) := cell_of_row w2 _ 4 _ _ _ y0
    have hx2 := boos_call hB2 hx1
    clear y0 hbr hb2
    cases hnx : nxO W H k s with
    | none =>
      have HE := Lib.hid (HK.out.trans (rol_none hnx))
      have e0 : (none : Option Nat).isSome = false := rfl
      rw [e0]
      clear hv hnx HK e0
      go_wp2
      go_ret
      exact ⟨ret_int (by rw [HE.out]), hb1.trans (hB2.mono hb1.size)⟩
    | some y =>
      obtain rfl := hv y hnx
      have hg := nx_ahd hW hs (by rw [← HN.out]; exact hk) hnx
      have hy : y < n := by rw [HN.out]; exact hg.1
      obtain ⟨ad, rfl, hbA, hcA⟩ := hx2.at_ hy
      have e0 : (some y : Option Nat).isSome = true := rfl
      rw [e0]
      cases hwl : wall y
      · have HE := Lib.hid (HK.out.trans (rol_go hW hs (by rw [← HN.out]; exact hk) hnx hwl))
        have HG := Lib.hid hg.2
        rw [hwl] at hcA
        clear hv hnx HK e0 hg hwl
        go_wp2
        go_roundw
        case rel => exact ⟨y, hy, rfl, HE, hB2⟩
        case measure =>
          have := HG.out
          simp [intOf]
          omega
      · have HE := Lib.hid (HK.out.trans (rol_wall hnx hwl))
        rw [hwl] at hcA
        clear hv hnx HK e0 hg hwl
        go_wp2
        go_ret
        exact ⟨ret_int (by rw [HE.out]), hb1.trans (hB2.mono hb1.size)⟩
end Go.Proofs.Ytfjincdlenneaaa

/-
  CONTRACT: codes.Fits.
-/
import Derived.Test.YthegmomjfbcabaaDoorWorks
namespace Go.Proofs.YthegmomjfbcabaaDoor
open Go.RowKit Go.Shelf
theorem below_from_drew {B : Nat} {X W : World} (h : Below B X.drew W) : Below B X W := ⟨h.os, h.tape, h.output, h.size, h.block⟩
theorem slsR_one {w1 X W : World} {t : TypeId} {A : Option Addr} {c : Nat} {x : List Int} (h : KeptS w1 W) (hx : IntsR w1 w1.heap.size A x) (lx : x.length ≤ maxLen)
    (hb : Below (X.alloc (.cells #[.slice A x.length c] t)).heap.size (X.alloc (.cells #[.slice A x.length c] t)) W) : SlsR W W.heap.size (some ⟨X.heap.size, 0, none⟩) [x] := fun _ => by
  have hs := hb.size
  have hs' : X.heap.size + 1 ≤ W.heap.size := by simpa using hs
  refine ⟨_, rfl, by show X.heap.size < _; omega, fun j hj => ?_⟩
  match j, hj with
  | 0, _ => exact ⟨A, c, (hb.cell (p := ⟨X.heap.size, 0, none⟩) (by simp)).trans (alloc_cell X _ t 0), kept_ints h hx, lx⟩
theorem below_two {X Y W : World} (h : Below X.heap.size X Y) (k : Below Y.heap.size Y W) : Below X.heap.size X W := h.trans (k.mono h.size)
def fitE (W S : Int) (cs : List Cl) (x : List Int) : Int := fstErr [lockErr W S, cluesErr W S 20 cs, codesErr W S [x]]
def fitN (W S : Int) (cs : List Cl) (x : List Int) : Int := if fitE W S cs x = 0 then brk W.toNat x cs 0 else 0
def fitB (W S : Int) (cs : List Cl) (x : List Int) : Bool := decide (fitE W S cs x = 0) && decide (fitN W S cs x < 0)
theorem if_pos_fitN {W' : Nat} {S : Int} {cs : List Cl} {x : List Int} (he : fitE W' S cs x = 0) : (true && decide (fitN W' S cs x < 0)) = decide (brk W' x cs 0 < 0) := by
  rw [show fitN W' S cs x = brk W' x cs 0 from if_pos he, Bool.true_and]

set_option maxRecDepth 100000 in
set_option maxHeartbeats 2000000 in
theorem Fits_any (W S : Int) (A A2 : Option Addr) (c k : Nat) (cs : List Cl) (x : List Int) (w : World) (hT : Tab w) (hc : ClsR w w.heap.size A cs) (hl : cs.length ≤ maxLen) (hx : IntsR w w.heap.size A2 x) (lx : x.length ≤ maxLen) :
    Calls Tryd.prog 30 #[lockV W S, .slice A cs.length c, .slice A2 x.length k] w fun e w' => e = .returned (.tuple #[I (fitN W S cs x), .bool (fitB W S cs x), I (fitE W S cs x)]) ∧ Below w.heap.size w w' := by
  go_enter Tryd.func30, Tryd.ntmps30
  go_upto_region 2 with fail
  obtain ⟨w1, hw1⟩ : ∃ w1, w1 = (w.alloc (.cells #[I W, I S] 23)).alloc (.cells #[I W, I S] 78) := ⟨_, rfl⟩
  rw [← hw1]
  have l0 : w1.cell? ⟨w.heap.size + 1, 0, none⟩ = some (I W) := by rw [hw1]; exact alloc_cell' _ _ _ _ 0 (by simp)
  have l1 : w1.cell? ⟨w.heap.size + 1, 1, none⟩ = some (I S) := by rw [hw1]; exact alloc_cell' _ _ _ _ 1 (by simp)
  have hb1 : Below w.heap.size w w1 := by rw [hw1]; exact ((Below.refl _ _).alloc (Nat.le_refl _) _).alloc (by simp) _
  have s1 : w.heap.size + 1 < w1.heap.size := by rw [hw1]; simp
  have hx1 := ints_call hb1 hx
  have hc1 := cls_call hb1 hc
  have hT1 := hT.below hb1
  clear hw1 hc hx hT
  go_cut [10] (fun s10 wx => s10 = I (fitE W S cs x) ∧ KeptS w1 wx)
  case first =>
    go_region_held3 (fun w' => Below w1.heap.size w1 w' ∧ (∀ b o, b < w1.heap.size → w'.cell? ⟨b, o, none⟩ = w1.cell? ⟨b, o, none⟩))
      (first | exact keptS_drew _ | exact keptS_call (by assumption) hb | exact keptS_alloc (by assumption) _ | assumption)
      (first
        | (go_at_call 61; refine (lockCheck_any _ _ _).mono ?_; rintro e w' ⟨rfl, hb⟩)
        | (go_at_call 73; go_must (refine (checkClues_any _ _ _ _ _ cs _ ?_ ?_ hl).mono ?_); go_must (exact hT1.below (And.left (by assumption : KeptS w1 _))); go_must (exact cls_call (And.left (by assumption : KeptS w1 _)) hc1); rintro e w' ⟨rfl, hb⟩)
        | (go_at_call 66; go_must (refine (checkCodes_any _ _ _ _ [x] _ ?_ ?_).mono ?_); go_must (refine slsR_one (t := 24) (A := A2) (c := k) (by assumption) hx1 lx ?_); go_must (first | exact Below.refl _ _ | exact (Below.refl _ _).drew | exact hb | exact below_from_drew hb | exact below_two (by assumption) hb | exact below_two (below_from_drew (by assumption)) hb | exact below_two (by assumption) (below_from_drew hb) | exact below_two (below_from_drew (by assumption)) (below_from_drew hb)); go_must (simp [maxLen]); rintro e w' ⟨rfl, hb⟩)
        | (go_at_call 63; go_must (refine (first_any _ _ [lockErr W S, cluesErr W S 20 cs, codesErr W S [x]] _ ?_ ?_).mono ?_); go_must (exact ints_new _ [lockErr W S, cluesErr W S 20 cs, codesErr W S [x]] _); go_must (simp [maxLen]); rintro e w' ⟨rfl, rfl⟩))
    all_goals
      go_wp2_with fail
      go_meet
      exact ⟨rfl, by assumption⟩
  case rest =>
    obtain ⟨rfl, hk⟩ := hcut
    have c0 : wc.cell? ⟨w.heap.size + 1, 0, none⟩ = some (I W) := (hk.2 _ _ s1).trans l0
    have c1 : wc.cell? ⟨w.heap.size + 1, 1, none⟩ = some (I S) := (hk.2 _ _ s1).trans l1
    have hkb := hk.1
    have hx2 := kept_ints hk hx1
    have hc2 := cls_call hkb hc1
    have hbc : Below w.heap.size w wc := hb1.trans (hkb.mono (by omega))
    have s2 : w.heap.size + 1 < wc.heap.size := by have := hkb.size; omega
    clear hk hkb l0 l1 hx1 hc1 hT1
    by_cases he : fitE W S cs x = 0
    · have hb0 : (fitE W S cs x != 0) = false := by simp [he]
      have he' : lockErr W S = 0 ∧ cluesErr W S 20 cs = 0 ∧ codesErr W S [x] = 0 := by
        unfold fitE at he
        by_cases a : lockErr W S = 0 <;> by_cases b : cluesErr W S 20 cs = 0 <;> by_cases d : codesErr W S [x] = 0 <;> simp_all [fstErr]
      obtain ⟨he1, he2, he3⟩ := he'
      obtain ⟨W', S', rfl, rfl, hW, hW4, hS, hS10⟩ := lockOk_nat (lockErr_zero.1 he1)
      have hL := lockErr_zero.1 he1
      have hC : cluesB W' S' cs = true := by
        unfold cluesErr errIf at he2
        split at he2
        · simp at he2
        · cases h : cluesB W' S' cs
          · rw [h] at he2; simp at he2
          · rfl
      have hX := codesErr_zero.1 he3
      simp only [List.all_cons, List.all_nil, Bool.and_true] at hX
      obtain ⟨hxl, hxs⟩ := codeB_facts (by omega) (by omega) hX
      have hl4 : x.length ≤ 4 := by omega
      have hsym : Sym x W' := fun i hi => by have := hxs i (by omega); omega
      have hE := Lib.hid he
      have hN := Lib.hid (show fitN W' S' cs x = brk W' x cs 0 from if_pos he)
      have hB := Lib.hid (show fitB W' S' cs x = decide (brk W' x cs 0 < 0) by rw [fitB, decide_eq_true he, if_pos_fitN he])
      clear he he1 he2 he3 hX hxl hxs
      go_wp2
      go_region_held3 (fun w' => Below wc.heap.size wc w' ∧ (∀ b o, b < wc.heap.size → w'.cell? ⟨b, o, none⟩ = wc.cell? ⟨b, o, none⟩))
        (first | exact keptS_drew _ | exact keptS_call (by assumption) hb | exact keptS_alloc (by assumption) _ | assumption)
        (first
          | (go_at_call 69; go_must (refine (rowOf_any _ _ _ _ ?_ ?_).mono ?_); go_must (exact kept_ints (by assumption) hx2); go_must (exact hl4); rintro e w' ⟨rfl, hb⟩)
          | (go_at_call 74; go_must (refine (broken_any W' S' hL cs hC x hsym _ _ _ ?_ hl).mono ?_); go_must (exact cls_call (And.left (by assumption : KeptS wc _)) hc2); rintro e w' ⟨rfl, hb⟩))
      all_goals
        go_wp2
        go_ret3
        refine ⟨by rw [hN.out, hB.out, hE.out]; rfl, hbc.trans (Below.mono (And.left (by assumption : KeptS wc _)) (by omega))⟩
    · have hb0 : (fitE W S cs x != 0) = true := by simpa using he
      have hN := Lib.hid (show fitN W S cs x = 0 from if_neg he)
      have hB := Lib.hid (show fitB W S cs x = false by rw [fitB, decide_eq_false he]; rfl)
      clear he
      go_wp2
      go_ret3
      exact ⟨by rw [hN.out, hB.out]; rfl, hbc⟩
end Go.Proofs.YthegmomjfbcabaaDoor

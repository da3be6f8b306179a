/-
  CONTRACT: codes.Answer.
-/
import Derived.Test.YthegmomjfbcabaaDoorFirst
namespace Go.Proofs.YthegmomjfbcabaaDoor
open Go.RowKit
theorem slsR_two {w : World} {B : Nat} {ad : Addr} {A1 A2 : Option Addr} {c1 c2 : Nat} {x y : List Int} (h0 : w.cell? ad = some (.slice A1 x.length c1)) (h1 : w.cell? (ad.add 1) = some (.slice A2 y.length c2))
    (hb : ad.block < B) (hx : IntsR w B A1 x) (hy : IntsR w B A2 y) (lx : x.length ≤ maxLen) (ly : y.length ≤ maxLen) : SlsR w B (some ad) [x, y] := fun _ => by
  refine ⟨ad, rfl, hb, fun j hj => ?_⟩
  match j, hj with
  | 0, _ => exact ⟨A1, c1, h0, hx, lx⟩
  | 1, _ => exact ⟨A2, c2, h1, hy, ly⟩

theorem slsR_of1 {w1 w : World} {t : TypeId} {A1 A2 : Option Addr} {c1 c2 : Nat} {x y : List Int} (h : KeptS w1 (w.alloc (.cells #[.slice A1 x.length c1, .slice A2 y.length c2] t))) (hx : IntsR w1 w1.heap.size A1 x) (hy : IntsR w1 w1.heap.size A2 y) (lx : x.length ≤ maxLen) (ly : y.length ≤ maxLen) :
    SlsR (w.alloc (.cells #[.slice A1 x.length c1, .slice A2 y.length c2] t)) (w.alloc (.cells #[.slice A1 x.length c1, .slice A2 y.length c2] t)).heap.size (some ⟨w.heap.size, 0, none⟩) [x, y] :=
  slsR_two (alloc_cell w _ t 0) (by show World.cell? _ ⟨w.heap.size, 1, none⟩ = _; exact alloc_cell w _ t 1) (by simp) (kept_ints h hx) (kept_ints h hy) lx ly
theorem slsR_of2 {w1 w w' : World} {t : TypeId} {A1 A2 : Option Addr} {c1 c2 : Nat} {x y : List Int} (h : KeptS w1 w') (hb : Below (w.alloc (.cells #[.slice A1 x.length c1, .slice A2 y.length c2] t)).drew.heap.size (w.alloc (.cells #[.slice A1 x.length c1, .slice A2 y.length c2] t)).drew w') (hx : IntsR w1 w1.heap.size A1 x) (hy : IntsR w1 w1.heap.size A2 y) (lx : x.length ≤ maxLen) (ly : y.length ≤ maxLen) :
    SlsR w' w'.heap.size (some ⟨w.heap.size, 0, none⟩) [x, y] := by
  have hs := hb.size
  have hs' : w.heap.size + 1 ≤ w'.heap.size := by simpa using hs
  exact slsR_two ((hb.cell (p := ⟨w.heap.size, 0, none⟩) (by simp)).trans (alloc_cell w _ t 0)) ((hb.cell (p := ⟨w.heap.size, 1, none⟩) (by simp)).trans (alloc_cell w _ t 1)) (by show w.heap.size < _; omega) (kept_ints h hx) (kept_ints h hy) lx ly

theorem lockOk_facts {W S : Int} (h : lockOk W S = true) : 1 ≤ W ∧ W ≤ 4 ∧ 2 ≤ S ∧ S ≤ 10 := by
  simp [lockOk, wi] at h
  omega
theorem pre_wrap {S : Int} (h1 : 1 ≤ S) (h2 : S ≤ 10) : wrap64 (S - 1) = S - 1 := IntWalk.wrap64_in _ ⟨by omega, by omega⟩
theorem symsB_facts {S : Int} {x : List Int} (h1 : 1 ≤ S) (h2 : S ≤ 10) (h : symsB S x = true) : ∀ i, i < x.length → 0 ≤ nth x i ∧ nth x i ≤ S - 1 := by
  intro i hi
  unfold symsB at h
  rw [List.all_eq_true] at h
  have := h (nth x i) (by rw [nth_lt hi]; exact List.getElem_mem hi)
  rw [pre_wrap h1 h2] at this
  simpa [wi] using this
theorem codeB_facts {W S : Int} {x : List Int} (h1 : 1 ≤ S) (h2 : S ≤ 10) (h : codeB W S x = true) : (x.length : Int) = W ∧ ∀ i, i < x.length → 0 ≤ nth x i ∧ nth x i ≤ S - 1 := by
  simp only [codeB, Bool.and_eq_true, decide_eq_true_eq] at h
  exact ⟨h.2, symsB_facts h1 h2 h.1⟩
theorem fst2_zero {a b : Int} : fstErr [a, b] = 0 ↔ a = 0 ∧ b = 0 := by
  by_cases h : a = 0 <;> by_cases h' : b = 0 <;> simp [fstErr, h, h']
theorem lockErr_zero {W S : Int} : lockErr W S = 0 ↔ lockOk W S = true := by
  unfold lockErr; split <;> simp_all
theorem codesErr_zero {W S : Int} {xss : List (List Int)} : codesErr W S xss = 0 ↔ xss.all (codeB W S) = true := by
  unfold codesErr; split <;> simp_all
/-- what Answer returns -/
def ansE (W S : Int) (x y : List Int) : Int := fstErr [lockErr W S, codesErr W S [x, y]]
def ansR (W S : Int) (x y : List Int) : Int := if ansE W S x y = 0 then rgt x y x.length else 0
def ansC (W S : Int) (x y : List Int) : Int := if ansE W S x y = 0 then com x y x.length 10 - rgt x y x.length else 0

set_option maxRecDepth 100000 in
set_option maxHeartbeats 1000000 in
theorem Answer_any (W S : Int) (A1 A2 : Option Addr) (k1 k2 : Nat) (x y : List Int) (w : World) (hx : IntsR w w.heap.size A1 x) (hy : IntsR w w.heap.size A2 y) (lx : x.length ≤ maxLen) (ly : y.length ≤ maxLen) :
    Calls Tryd.prog 28 #[lockV W S, .slice A1 x.length k1, .slice A2 y.length k2] w fun e w' => e = .returned (.tuple #[I (ansR W S x y), I (ansC W S x y), I (ansE W S x y)]) ∧ Below w.heap.size w w' := by
  go_enter Tryd.func28, Tryd.ntmps28
  go_upto_region 2 with fail
  obtain ⟨w1, hw1⟩ : ∃ w1, w1 = (w.alloc (.cells #[I W, I S] 23)).alloc (.cells #[I W, I S] 78) := ⟨_, rfl⟩
  rw [← hw1]
  have l0 : w1.cell? ⟨w.heap.size + 1, 0, none⟩ = some (I W) := by rw [hw1]; exact alloc_cell' _ _ _ _ 0 (by simp)
  have l1 : w1.cell? ⟨w.heap.size + 1, 1, none⟩ = some (I S) := by rw [hw1]; exact alloc_cell' _ _ _ _ 1 (by simp)
  have hb1 : Below w.heap.size w w1 := by rw [hw1]; exact ((Below.refl _ _).alloc (Nat.le_refl _) _).alloc (by simp) _
  have s1 : w.heap.size + 1 < w1.heap.size := by rw [hw1]; simp
  have hx1 := ints_call hb1 hx
  have hy1 := ints_call hb1 hy
  clear hw1
  go_cut [10] (fun s10 wx => s10 = I (ansE W S x y) ∧ KeptS w1 wx)
  case first =>
    go_region_held3 (fun w' => Below w1.heap.size w1 w' ∧ (∀ b o, b < w1.heap.size → w'.cell? ⟨b, o, none⟩ = w1.cell? ⟨b, o, none⟩))
      (first | exact keptS_drew _ | exact keptS_call (by assumption) hb | exact keptS_alloc (by assumption) _ | assumption)
      (first
        | (go_at_call 61; refine (lockCheck_any _ _ _).mono ?_; rintro e w' ⟨rfl, hb⟩)
        | (go_at_call 66; go_must (refine (checkCodes_any _ _ _ _ [x, y] _ ?_ ?_).mono ?_); go_must (first | exact slsR_of1 (by assumption) hx1 hy1 lx ly | exact slsR_of2 (by assumption) hb hx1 hy1 lx ly); go_must (simp [maxLen]); rintro e w' ⟨rfl, hb⟩)
        | (go_at_call 63; go_must (refine (first_any _ _ [lockErr W S, codesErr W S [x, y]] _ ?_ ?_).mono ?_); go_must (exact ints_new _ [lockErr W S, codesErr W S [x, y]] _); go_must (simp [maxLen]); rintro e w' ⟨rfl, rfl⟩))
    all_goals
      go_wp2_with fail
      go_meet
      exact ⟨rfl, by assumption⟩
  case rest =>
    obtain ⟨rfl, hk⟩ := hcut
    have c0 : wc.cell? ⟨w.heap.size + 1, 0, none⟩ = some (I W) := (hk.2 _ _ s1).trans l0
    have c1 : wc.cell? ⟨w.heap.size + 1, 1, none⟩ = some (I S) := (hk.2 _ _ s1).trans l1
    have hkb := hk.1
    have hx2 := kept_ints hk hx1
    have hy2 := kept_ints hk hy1
    have hbc : Below w.heap.size w wc := hb1.trans (hkb.mono (by omega))
    have s2 : w.heap.size + 1 < wc.heap.size := by have := hkb.size; omega
    clear hk hkb l0 l1 hx1 hy1
    by_cases he : ansE W S x y = 0
    · have hb0 : (ansE W S x y != 0) = false := by simp [he]
      obtain ⟨he1, he2⟩ := fst2_zero.1 he
      have hL := lockOk_facts (lockErr_zero.1 he1)
      have hC := codesErr_zero.1 he2
      simp only [List.all_cons, List.all_nil, Bool.and_true, Bool.and_eq_true] at hC
      obtain ⟨hxl, hxs⟩ := codeB_facts (by omega) (by omega) hC.1
      obtain ⟨hyl, hys⟩ := codeB_facts (by omega) (by omega) hC.2
      have hlx4 : x.length ≤ 4 := by omega
      have hly4 : y.length ≤ 4 := by omega
      have hsx : Sym x x.length := fun i hi => by have := hxs i hi; omega
      have hsy : Sym y x.length := fun i hi => by have := hys i (by omega); omega
      have hR := Lib.hid (show ansR W S x y = rgt x y x.length from if_pos he)
      have hCm := Lib.hid (show ansC W S x y = com x y x.length 10 - rgt x y x.length from if_pos he)
      have hE := Lib.hid he
      clear he he1 he2 hC hL hxs hys
      obtain rfl : W = (x.length : Int) := hxl.symm
      clear hyl hxl
      go_wp2
      go_region_held3 (fun w' => Below wc.heap.size wc w' ∧ (∀ b o, b < wc.heap.size → w'.cell? ⟨b, o, none⟩ = wc.cell? ⟨b, o, none⟩))
        (first | exact keptS_drew _ | exact keptS_call (by assumption) hb | exact keptS_alloc (by assumption) _ | assumption)
        (first
          | (go_at_call 69; go_must (refine (rowOf_any _ _ _ _ ?_ ?_).mono ?_); go_must (first | exact kept_ints (by assumption) hx2 | exact kept_ints (by assumption) hy2); go_must (first | exact hlx4 | exact hly4); rintro e w' ⟨rfl, hb⟩)
          | (go_at_call 71; go_must (refine (answer_any _ _ _ _ _ hlx4 hsx hsy).mono ?_); rintro e w' ⟨rfl, hb⟩))
      all_goals
        go_wp2
        go_ret3
        refine ⟨by rw [hR.out, hCm.out, hE.out]; rfl, hbc.trans (Below.mono (And.left (by assumption)) (by omega))⟩
    · have hb0 : (ansE W S x y != 0) = true := by simpa using he
      have hR := Lib.hid (show ansR W S x y = 0 from if_neg he)
      have hCm := Lib.hid (show ansC W S x y = 0 from if_neg he)
      have hE := Lib.hid he
      clear he
      go_wp2
      go_ret3
      exact ⟨by rw [hR.out, hCm.out]; rfl, hbc⟩
end Go.Proofs.YthegmomjfbcabaaDoor

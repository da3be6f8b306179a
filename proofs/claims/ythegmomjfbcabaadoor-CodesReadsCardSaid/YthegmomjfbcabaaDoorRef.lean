/-
  CONTRACTS of the document's own answers (padlockref01): Within, Check, isCode, CheckCode, shown, answer, Answer.
-/
import Derived.Test.YthegmomjfbcabaaDoorAnswer
namespace Go.Proofs.YthegmomjfbcabaaDoor
open Go.RowKit

set_option maxHeartbeats 400000 in
theorem Within_any (n lo hi : Int) (w : World) :
    Calls Tryd.prog 62 #[.int .i64 n, .int .i64 lo, .int .i64 hi] w fun e w' => e = .returned (.bool (wi n lo hi)) ∧ w = w' := by
  by_cases h : lo ≤ n
  all_goals
    go_enter Tryd.func62, Tryd.ntmps62
    go_wp2
    go_ret
    exact ⟨ret_bool (by simp [wi]; omega), rfl⟩
theorem Within_at {n lo hi : Int} {b : Bool} (h : wi n lo hi = b) (w : World) :
    Calls Tryd.prog 62 #[.int .i64 n, .int .i64 lo, .int .i64 hi] w fun e w' => e = .returned (.bool b) ∧ w' = w := by
  subst h
  exact (Within_any n lo hi w).mono fun e w' h => ⟨h.1, h.2.symm⟩

set_option maxHeartbeats 400000 in
theorem rCheck_any (W S : Int) (w : World) :
    Calls Tryd.prog 20 #[lockV W S] w fun e w' => e = .returned (.int .i64 (lockErr W S)) ∧ Below w.heap.size w w' := by
  by_cases h : wi W 1 4 = true
  · by_cases h' : wi S 2 10 = true
    all_goals
      go_enter Tryd.func20, Tryd.ntmps20
      go_wp2_with (go_at_call 62; refine (Within_any _ _ _ _).mono ?_; rintro e w' ⟨rfl, rfl⟩)
      go_ret
      exact ⟨ret_int (by simp [lockErr, lockOk, h, h']), (Below.refl _ _).alloc (Nat.le_refl _) _⟩
  · go_enter Tryd.func20, Tryd.ntmps20
    go_wp2_with (go_at_call 62; refine (Within_any _ _ _ _).mono ?_; rintro e w' ⟨rfl, rfl⟩)
    go_ret
    exact ⟨ret_int (by simp [lockErr, lockOk, h]), (Below.refl _ _).alloc (Nat.le_refl _) _⟩

set_option maxRecDepth 100000 in
set_option maxHeartbeats 1000000 in
theorem isCode_any (W S : Int) (A : Option Addr) (c : Nat) (xs : List Int) (w : World) (hx : IntsR w w.heap.size A xs) (hl : xs.length ≤ maxLen) :
    Calls Tryd.prog 67 #[lockV W S, .slice A xs.length c] w fun e w' => e = .returned (.bool (codeB W S xs)) ∧ Below w.heap.size w w' := by
  unfold maxLen at hl
  by_cases hlen : (xs.length : Int) = W
  · have hb0 : ((xs.length : Int) != W) = false := by simp [hlen]
    have HL := Lib.hid hlen
    clear hlen
    go_enter Tryd.func67, Tryd.ntmps67
    go_wp2
    go_loopw [5] (fun i wr => ∃ k : Nat, k ≤ xs.length ∧ i = .int .i64 k ∧ Hid ((xs.take k).all (fun s => wi s 0 (wrap64 (S - 1))) = true) ∧ Below (w.heap.size + 1) (w.alloc (.cells #[.int .i64 W, .int .i64 S] 23)) wr) (fun i _ => xs.length - (intOf i).toNat)
    case atStart => exact ⟨0, Nat.zero_le _, rfl, rfl, Below.refl _ _⟩
    case round =>
      obtain ⟨k, hk, rfl, HA, hB⟩ := hrel
      have c0 := box_later hB (by omega) 0
      have c1 := box_later hB (by omega) 1
      have hbw : Below w.heap.size w wr := ((Below.refl _ w).alloc (Nat.le_refl _) _).trans (hB.mono (by omega))
      have hx' := hx.below hbw (Nat.le_refl _)
      clear hx
      by_cases hlt : k < xs.length
      · obtain ⟨ad, rfl, hb, hc⟩ := hx'.at_ hlt
        have c1' : wr.cell? ⟨w.heap.size, 1, none⟩ = some (I S) := c1
        have hsz := hbw.size
        cases hp : wi (nth xs k) 0 (wrap64 (S - 1))
        all_goals have hp' := (congrArg (wi (nth xs k) 0) (IntWalk.i64_left (S - 1))).trans hp
        · have h2 : codeB W S xs = false := by rw [codeB, symsB, not_all (fun s => wi s 0 (wrap64 (S - 1))) xs k hlt hp]; rfl
          have H2 := Lib.hid h2
          clear h2
          go_wp2
          go_region_held3 (fun w' => Below wr.heap.size wr w' ∧ w'.cell? ⟨w.heap.size, 1, none⟩ = some (I S) ∧ w'.cell? (ad.add k) = some (I (nth xs k)))
            (first | exact ⟨(Below.refl _ _).drew, c1', hc⟩ | assumption)
            ((go_at_call 62; go_must (refine (Within_any _ _ _ _).mono ?_); rw [hp']; rintro e w' ⟨rfl, rfl⟩))
          all_goals
            go_wp2
            go_ret
            exact ⟨ret_bool H2.out.symm, hbw.trans (Below.mono (And.left (by assumption : Below wr.heap.size wr _ ∧ _)) hsz)⟩
        · go_wp2
          go_region_held3 (fun w' => Below wr.heap.size wr w' ∧ w'.cell? ⟨w.heap.size, 1, none⟩ = some (I S) ∧ w'.cell? (ad.add k) = some (I (nth xs k)))
            (first | exact ⟨(Below.refl _ _).drew, c1', hc⟩ | assumption)
            ((go_at_call 62; go_must (refine (Within_any _ _ _ _).mono ?_); rw [hp']; rintro e w' ⟨rfl, rfl⟩))
          all_goals
            go_wp2
            go_roundw
            case rel => exact ⟨k + 1, by omega, by go_num, Lib.hid (all_take_snoc _ xs k hlt HA.out hp), hB.trans (Below.mono (And.left (by assumption : Below wr.heap.size wr _ ∧ _)) (by have := hB.size; simp at this; omega))⟩
            case measure => simp [intOf]; omega
      · obtain rfl : k = xs.length := by omega
        rw [List.take_length] at HA
        go_wp2
        go_ret
        exact ⟨ret_bool (by rw [codeB, symsB, HA.out, decide_eq_true HL.out]; rfl), hbw⟩
  · have hb0 : ((xs.length : Int) != W) = true := by simpa using hlen
    have H2 := Lib.hid (show codeB W S xs = false by rw [codeB, decide_eq_false hlen, Bool.and_false])
    clear hlen
    go_enter Tryd.func67, Tryd.ntmps67
    go_wp2
    go_ret
    exact ⟨ret_bool H2.out.symm, (Below.refl _ _).alloc (Nat.le_refl _) _⟩

def rCodeErr (W S : Int) (x : List Int) : Int := if lockErr W S = 0 then (if codeB W S x then 0 else 12) else lockErr W S
set_option maxHeartbeats 400000 in
theorem rCheckCode_any (W S : Int) (A : Option Addr) (c : Nat) (xs : List Int) (w : World) (hx : IntsR w w.heap.size A xs) (hl : xs.length ≤ maxLen) :
    Calls Tryd.prog 24 #[lockV W S, .slice A xs.length c] w fun e w' => e = .returned (.int .i64 (rCodeErr W S xs)) ∧ Below w.heap.size w w' := by
  go_enter Tryd.func24, Tryd.ntmps24
  go_wp2_with fail
  obtain ⟨w1, hw1⟩ : ∃ w1, w1 = w.alloc (.cells #[I W, I S] 23) := ⟨_, rfl⟩
  rw [← hw1]
  have l0 : w1.cell? ⟨w.heap.size, 0, none⟩ = some (I W) := by rw [hw1]; exact alloc_cell _ _ _ 0
  have l1 : w1.cell? ⟨w.heap.size, 1, none⟩ = some (I S) := by rw [hw1]; exact alloc_cell _ _ _ 1
  have hb1 : Below w.heap.size w w1 := by rw [hw1]; exact (Below.refl _ _).alloc (Nat.le_refl _) _
  have s1 : w.heap.size < w1.heap.size := by rw [hw1]; simp
  have hx1 := ints_call hb1 hx
  clear hw1 hx
  refine (rCheck_any W S w1).mono ?_
  rintro e w2 ⟨rfl, hb2⟩
  have l0 := (hb2.cell (p := ⟨w.heap.size, 0, none⟩) s1).trans l0
  have l1 := (hb2.cell (p := ⟨w.heap.size, 1, none⟩) s1).trans l1
  have hx2 := ints_call hb2 hx1
  have s2 : w.heap.size < w2.heap.size := by have := hb2.size; omega
  have hbb2 : Below w.heap.size w w2 := hb1.trans (hb2.mono (by omega))
  clear hb1 hb2 hx1
  by_cases he : lockErr W S = 0
  · have hb0 : (lockErr W S != 0) = false := by simp [he]
    have HE := Lib.hid he
    clear he
    cases hc : codeB W S xs
    all_goals
      have HC := Lib.hid (show rCodeErr W S xs = _ from (if_pos HE.out).trans (by rw [hc]))
      go_wp2_with fail
      refine (isCode_any W S A c xs w2 hx2 hl).mono ?_
      rintro e w3 ⟨rfl, hb3⟩
      rw [hc]
      go_wp2
      go_ret
      exact ⟨ret_int HC.out.symm, hbb2.trans (hb3.mono (by omega))⟩
  · have hb0 : (lockErr W S != 0) = true := by simpa using he
    have HC := Lib.hid (show rCodeErr W S xs = _ from if_neg he)
    clear he
    go_wp2
    go_ret
    exact ⟨ret_int HC.out.symm, hbb2⟩

set_option maxHeartbeats 400000 in
theorem shown_any (s : Int) (A : Option Addr) (c : Nat) (xs : List Int) (w : World) (hx : IntsR w w.heap.size A xs) (hl : xs.length ≤ 4) :
    Calls Tryd.prog 107 #[.slice A xs.length c, .int .i64 s] w fun e w' => e = .returned (.int .i64 (cnt xs s xs.length)) ∧ w = w' := by
  go_enter Tryd.func107, Tryd.ntmps107
  go_wp2
  go_loop [5, 6] (fun n i => ∃ k : Nat, k ≤ xs.length ∧ i = .int .i64 k ∧ n = .int .i64 (cnt xs s k)) (fun _ i => xs.length - (intOf i).toNat)
  case atStart => exact ⟨0, Nat.zero_le _, rfl, rfl⟩
  case round =>
    obtain ⟨k, hk, rfl, rfl⟩ := hrel
    have hcb := cnt_bounds xs s k
    have hcb1 := hcb.1
    have hcb2 := hcb.2
    by_cases hlt : k < xs.length
    · obtain ⟨ad, rfl, hb, hc⟩ := hx.at_ hlt
      by_cases he : nth xs k = s
      · have hb0 : (nth xs k == s) = true := by simp [he]
        have HE := Lib.hid (show cnt xs s (k + 1) = cnt xs s k + 1 by rw [cnt, if_pos he])
        clear he hcb
        generalize cnt xs s k = n at *
        go_wp2
        go_round
        case rel => exact ⟨k + 1, by omega, by go_num, by rw [HE.out]⟩
        case measure => simp [intOf]; omega
      · have hb0 : (nth xs k == s) = false := by simpa using he
        have HE := Lib.hid (show cnt xs s (k + 1) = cnt xs s k by rw [cnt, if_neg he]; omega)
        clear he hcb
        go_wp2
        go_round
        case rel => exact ⟨k + 1, by omega, by go_num, by rw [HE.out]⟩
        case measure => simp [intOf]; omega
    · obtain rfl : k = xs.length := by omega
      go_wp2
      go_ret
      exact ⟨rfl, rfl⟩
end Go.Proofs.YthegmomjfbcabaaDoor
/-
  CONTRACTS: padlockref01.answer, padlockref01.Answer; the law CodesAnswers.
-/
namespace Go.Proofs.YthegmomjfbcabaaDoor
open Go.RowKit

theorem fst2' (a b : Int) : fstErr [a, b] = if a = 0 then b else a := by
  by_cases h : a = 0 <;> by_cases h' : b = 0 <;> simp [fstErr, h, h']
theorem ansE_facts' {W S : Int} {x y : List Int} (h : ansE W S x y = 0) : ∃ n : Nat, W = n ∧ n ≤ 4 ∧ x.length = n ∧ y.length = n ∧ Sym x n ∧ Sym y n ∧ True := by
  obtain ⟨h1, h2⟩ := fst2_zero.1 h
  have hL := lockOk_facts (lockErr_zero.1 h1)
  have hC := codesErr_zero.1 h2
  simp only [List.all_cons, List.all_nil, Bool.and_true, Bool.and_eq_true] at hC
  obtain ⟨a1, a2⟩ := codeB_facts (by omega) (by omega) hC.1
  obtain ⟨b1, b2⟩ := codeB_facts (by omega) (by omega) hC.2
  exact ⟨x.length, by omega, by omega, rfl, by omega, fun i hi => by have := a2 i hi; omega, fun i hi => by have := b2 i (by omega); omega, trivial⟩

set_option maxRecDepth 100000 in
set_option maxHeartbeats 1000000 in
theorem ranswer_any (A1 A2 : Option Addr) (k1 k2 : Nat) (x y : List Int) (w : World) (hx : IntsR w w.heap.size A1 x) (hy : IntsR w w.heap.size A2 y) (hl : x.length ≤ 4) (hlen : y.length = x.length) :
    Calls Tryd.prog 72 #[.slice A1 x.length k1, .slice A2 y.length k2] w fun e w' => e = .returned (.tuple #[I (rgt x y x.length), I (com x y x.length 10 - rgt x y x.length)]) ∧ Below w.heap.size w w' := by
  have HL := Lib.hid hlen
  clear hlen
  go_enter Tryd.func72, Tryd.ntmps72
  go_wp2
  go_loopw [6, 8] (fun r i wr => ∃ k : Nat, k ≤ x.length ∧ i = .int .i64 k ∧ r = .int .i64 (rgt x y k) ∧ Below w.heap.size w wr) (fun _ i _ => x.length - (intOf i).toNat)
  case atStart => exact ⟨0, Nat.zero_le _, rfl, rfl, Below.refl _ _⟩
  case round =>
    obtain ⟨k, hk, rfl, rfl, hB⟩ := hrel
    have b1 := (rgt_bounds x y k).1
    have b2 := (rgt_bounds x y k).2
    by_cases hlt : k < x.length
    · have hlt2 : k < y.length := by have := HL.out; omega
      obtain ⟨a1, rfl, hb1, hc1⟩ := hx.at_ hlt
      obtain ⟨a2, rfl, hb2, hc2⟩ := hy.at_ hlt2
      have d1 := (hB.cell (p := a1.add k) (by rw [block_of_add]; omega)).trans hc1
      have d2 := (hB.cell (p := a2.add k) (by rw [block_of_add]; omega)).trans hc2
      clear hc1 hc2
      by_cases he : nth x k = nth y k
      · have hb3 : (nth x k == nth y k) = true := by simp [he]
        have HE := Lib.hid (show rgt x y (k + 1) = rgt x y k + 1 by rw [rgt, if_pos he])
        clear he
        generalize rgt x y k = r at *
        go_wp2
        go_quiet (fail)
        go_wp2
        go_roundw
        case rel => exact ⟨k + 1, by omega, by go_num, by rw [HE.out], below_drewN hB _⟩
        case measure => simp [intOf]; omega
      · have hb3 : (nth x k == nth y k) = false := by simpa using he
        have HE := Lib.hid (show rgt x y (k + 1) = rgt x y k by rw [rgt, if_neg he]; omega)
        clear he
        go_wp2
        go_quiet (fail)
        go_wp2
        go_roundw
        case rel => exact ⟨k + 1, by omega, by go_num, by rw [HE.out], below_drewN hB _⟩
        case measure => simp [intOf]; omega
    · obtain rfl : k = x.length := by omega
      obtain ⟨wo, hwo⟩ : ∃ wo, wo = wr := ⟨_, rfl⟩
      subst hwo
      go_wp2
      go_loopw [7, 9] (fun c i wr => ∃ s : Nat, s ≤ 10 ∧ i = .int .i64 s ∧ c = .int .i64 (com x y x.length s) ∧ Below w.heap.size w wr) (fun _ i _ => 10 - (intOf i).toNat)
      case atStart => exact ⟨0, by omega, rfl, rfl, hB⟩
      case round =>
        obtain ⟨s, hs, rfl, rfl, hX⟩ := hrel
        have q1 := com_nonneg x y x.length s
        have q2 := com_bound x y x.length s hl
        by_cases hlt : s < 10
        · have e1 := (cnt_bounds x s x.length).1
          have e2 := (cnt_bounds x s x.length).2
          have e3 := (cnt_bounds y s x.length).1
          have e4 := (cnt_bounds y s x.length).2
          have hx' := ints_call hX hx
          have hy' := ints_call hX hy
          have hy2 := (shown_any s A2 k2 y wr hy' (by rw [HL.out]; exact hl)).mono (R' := fun e w' => e = .returned (.int .i64 (cnt y s x.length)) ∧ wr = w') fun e w' h => ⟨by rw [h.1, HL.out], h.2⟩
          go_wp2_with fail
          refine (shown_any s A1 k1 x wr hx' hl).mono ?_
          rintro e w' ⟨rfl, rfl⟩
          go_wp2_with fail
          refine hy2.mono ?_
          rintro e w' ⟨rfl, rfl⟩
          have HC := Lib.hid (show com x y x.length (s + 1) = com x y x.length s + min (cnt x s x.length) (cnt y s x.length) from rfl)
          clear hy2 hx' hy'
          generalize cnt x s x.length = n1 at *
          generalize cnt y s x.length = n2 at *
          generalize com x y x.length s = cm at *
          by_cases hm : n1 ≤ n2
          · have HM := Lib.hid (show com x y x.length (s + 1) = cm + n1 by rw [HC.out, Int.min_eq_left hm])
            go_wp2
            go_roundw
            case rel => exact ⟨s + 1, by omega, by go_num, by rw [HM.out], hX⟩
            case measure => simp [intOf]; omega
          · have HM := Lib.hid (show com x y x.length (s + 1) = cm + n2 by rw [HC.out, Int.min_eq_right (by omega)])
            go_wp2
            go_roundw
            case rel => exact ⟨s + 1, by omega, by go_num, by rw [HM.out], hX⟩
            case measure => simp [intOf]; omega
        · obtain rfl : s = 10 := by omega
          go_wp2
          go_ret2
          exact ⟨rfl, hX⟩

theorem ref_E (W S : Int) (x y : List Int) : (if rCodeErr W S x = 0 then rCodeErr W S y else rCodeErr W S x) = ansE W S x y := by
  unfold ansE rCodeErr
  rw [fst2', codesErr]
  by_cases h : lockErr W S = 0
  · rw [if_pos h, if_pos h, if_pos h]
    cases h1 : codeB W S x <;> cases h2 : codeB W S y <;> simp [h1, h2]
  · rw [if_neg h, if_neg h, if_neg h]

set_option maxRecDepth 100000 in
set_option maxHeartbeats 1000000 in
theorem rAnswer_any (W S : Int) (A1 A2 : Option Addr) (k1 k2 : Nat) (x y : List Int) (w : World) (hx : IntsR w w.heap.size A1 x) (hy : IntsR w w.heap.size A2 y) (lx : x.length ≤ maxLen) (ly : y.length ≤ maxLen) :
    Calls Tryd.prog 29 #[lockV W S, .slice A1 x.length k1, .slice A2 y.length k2] w fun e w' => e = .returned (.tuple #[I (ansR W S x y), I (ansC W S x y), I (ansE W S x y)]) ∧ Below w.heap.size w w' := by
  go_enter Tryd.func29, Tryd.ntmps29
  go_wp2_with fail
  obtain ⟨w1, hw1⟩ : ∃ w1, w1 = w.alloc (.cells #[I W, I S] 23) := ⟨_, rfl⟩
  rw [← hw1]
  have l0 : w1.cell? ⟨w.heap.size, 0, none⟩ = some (I W) := by rw [hw1]; exact alloc_cell _ _ _ 0
  have l1 : w1.cell? ⟨w.heap.size, 1, none⟩ = some (I S) := by rw [hw1]; exact alloc_cell _ _ _ 1
  have hb1 : Below w.heap.size w w1 := by rw [hw1]; exact (Below.refl _ _).alloc (Nat.le_refl _) _
  have s1 : w.heap.size < w1.heap.size := by rw [hw1]; simp
  have hx1 := ints_call hb1 hx
  have hy1 := ints_call hb1 hy
  clear hw1 hx hy
  refine (rCheckCode_any W S A1 k1 x w1 hx1 lx).mono ?_
  rintro e w2 ⟨rfl, hb2⟩
  have l0 := (hb2.cell (p := ⟨w.heap.size, 0, none⟩) s1).trans l0
  have l1 := (hb2.cell (p := ⟨w.heap.size, 1, none⟩) s1).trans l1
  have hx2 := ints_call hb2 hx1
  have hy2 := ints_call hb2 hy1
  have s2 : w.heap.size < w2.heap.size := by have := hb2.size; omega
  have hbb2 : Below w.heap.size w w2 := hb1.trans (hb2.mono (by omega))
  clear hb1 hb2 hx1 hy1
  by_cases he : rCodeErr W S x = 0
  · have hb0 : (rCodeErr W S x != 0) = false := by simp [he]
    have HX := Lib.hid he
    clear he
    go_wp2_with fail
    refine (rCheckCode_any W S A2 k2 y w2 hy2 ly).mono ?_
    rintro e w3 ⟨rfl, hb3⟩
    have hx3 := ints_call hb3 hx2
    have hy3 := ints_call hb3 hy2
    have s3 : w.heap.size < w3.heap.size := by have := hb3.size; omega
    have hbb3 : Below w.heap.size w w3 := hbb2.trans (hb3.mono (by omega))
    clear hb3 hx2 hy2
    by_cases he : rCodeErr W S y = 0
    · have hb1 : (rCodeErr W S y != 0) = false := by simp [he]
      have hE : ansE W S x y = 0 := by rw [← ref_E, if_pos HX.out, he]
      have hR : ansR W S x y = rgt x y x.length := if_pos hE
      have hC : ansC W S x y = com x y x.length 10 - rgt x y x.length := if_pos hE
      obtain ⟨n, hn1, hn4, hxl, hyl, -, -, -⟩ := ansE_facts' hE
      have HR := Lib.hid hR
      have HC := Lib.hid hC
      have HE := Lib.hid hE
      have hl4 : x.length ≤ 4 := by omega
      have HLL := Lib.hid (show y.length = x.length by omega)
      clear he hE hR hC hn1 hn4 hxl hyl
      go_wp2_with fail
      refine (ranswer_any A1 A2 k1 k2 x y w3 hx3 hy3 hl4 HLL.out).mono ?_
      rintro e w4 ⟨rfl, hb4⟩
      go_wp2
      go_ret3
      exact ⟨by rw [HR.out, HC.out, HE.out]; rfl, hbb3.trans (hb4.mono (by omega))⟩
    · have hb1 : (rCodeErr W S y != 0) = true := by simpa using he
      have hE : ansE W S x y = rCodeErr W S y := by rw [← ref_E, if_pos HX.out]
      have hne : ¬ ansE W S x y = 0 := by rw [hE]; exact he
      have HR := Lib.hid (show ansR W S x y = 0 from if_neg hne)
      have HC := Lib.hid (show ansC W S x y = 0 from if_neg hne)
      have HE := Lib.hid hE
      clear he hE hne
      go_wp2
      go_ret3
      exact ⟨by rw [HR.out, HC.out, HE.out]; rfl, hbb3⟩
  · have hb0 : (rCodeErr W S x != 0) = true := by simpa using he
    have hE : ansE W S x y = rCodeErr W S x := by rw [← ref_E, if_neg he]
    have hne : ¬ ansE W S x y = 0 := by rw [hE]; exact he
    have HR := Lib.hid (show ansR W S x y = 0 from if_neg hne)
    have HC := Lib.hid (show ansC W S x y = 0 from if_neg hne)
    have HE := Lib.hid hE
    clear he hE hne
    go_wp2
    go_ret3
    exact ⟨by rw [HR.out, HC.out, HE.out]; rfl, hbb2⟩
end Go.Proofs.YthegmomjfbcabaaDoor

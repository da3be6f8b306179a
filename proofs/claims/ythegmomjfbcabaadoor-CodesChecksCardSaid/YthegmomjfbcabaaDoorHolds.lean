/-
  CONTRACTS: says at every valid clue, holds, broken.
-/
import Derived.Test.YthegmomjfbcabaaDoorSays
namespace Go.Proofs.YthegmomjfbcabaaDoor
open Go.RowKit
def sayB (W : Nat) (c : Cl) (r : List Int) : Bool :=
  if c.kind = 1 then nth r c.a.toNat == c.n
  else if c.kind = 2 then rsum r c.a.toNat (c.b.toNat + 1 - c.a.toNat) == c.n
  else if c.kind = 3 then decide (nth r c.a.toNat < nth r c.b.toNat)
  else if c.kind = 4 then nth r c.a.toNat == nth r c.b.toNat
  else if c.kind = 5 then cnt r c.n W == c.m
  else if c.kind = 6 then rgt r c.guess W == c.n && com r c.guess W 10 - rgt r c.guess W == c.m
  else if c.kind = 7 then nth r c.a.toNat % c.n == c.m
  else false
def holdB (W : Nat) (c : Cl) (r : List Int) : Bool := sayB W c r != c.neg
theorem wi_iff {n lo hi : Int} : wi n lo hi = true ↔ lo ≤ n ∧ n ≤ hi := by simp [wi]
theorem wi_pre {n W : Int} (h1 : 1 ≤ W) (h2 : W ≤ 10) : wi n 0 (wrap64 (W - 1)) = true ↔ 0 ≤ n ∧ n ≤ W - 1 := by rw [pre_wrap h1 h2, wi_iff]

theorem says_any (W : Nat) (S : Int) (hL : lockOk W S = true) (c : Cl) (hv : clueB W S c = true) (r : List Int) (hs : Sym r W) (A : Option Addr) (cap : Nat) (w : World) (hg : IntsR w w.heap.size A c.guess) :
    Calls Tryd.prog 106 #[lockV W S, clV c A cap, rowV r] w fun e w' => e = .returned (.bool (sayB W c r)) ∧ Below w.heap.size w w' := by
  obtain ⟨hW1, hW4, hS2, hS10⟩ := lockOk_facts hL
  obtain ⟨kind, a, b, n, m, g, ng⟩ := c
  simp only [clueB, Bool.and_eq_true] at hv
  obtain ⟨⟨hk, _⟩, hr⟩ := hv
  rw [wi_iff] at hk
  have hcases : kind = 1 ∨ kind = 2 ∨ kind = 3 ∨ kind = 4 ∨ kind = 5 ∨ kind = 6 ∨ kind = 7 := by omega
  have E : ∀ x : Int, 0 ≤ x → ∃ k : Nat, x = k := fun x h => ⟨x.toNat, by omega⟩
  rcases hcases with rfl | rfl | rfl | rfl | rfl | rfl | rfl
  · have h : wi a 0 (wrap64 ((W : Int) - 1)) = true ∧ wi n 0 (wrap64 (S - 1)) = true := by simpa [rangeB] using hr
    rw [wi_pre (by omega) (by omega)] at h
    obtain ⟨a, rfl⟩ := E a h.1.1
    exact says_1 W S a (by omega) b n m g ng r A cap w
  · have h : ((wi a 0 (wrap64 ((W : Int) - 1)) = true ∧ wi b 0 (wrap64 ((W : Int) - 1)) = true) ∧ a ≤ b) ∧ wi n 0 100 = true := by simpa [rangeB] using hr
    rw [wi_pre (by omega) (by omega), wi_pre (by omega) (by omega)] at h
    obtain ⟨a, rfl⟩ := E a h.1.1.1.1
    obtain ⟨b, rfl⟩ := E b h.1.1.2.1
    exact says_2 W S a b (by omega) (by omega) n m g ng r A cap w (fun i hi => hs i (by omega))
  · have h : (wi a 0 (wrap64 ((W : Int) - 1)) = true ∧ wi b 0 (wrap64 ((W : Int) - 1)) = true) ∧ ¬ a = b := by simpa [rangeB] using hr
    rw [wi_pre (by omega) (by omega), wi_pre (by omega) (by omega)] at h
    obtain ⟨a, rfl⟩ := E a h.1.1.1
    obtain ⟨b, rfl⟩ := E b h.1.2.1
    exact says_3 W S a b (by omega) (by omega) n m g ng r A cap w
  · have h : (wi a 0 (wrap64 ((W : Int) - 1)) = true ∧ wi b 0 (wrap64 ((W : Int) - 1)) = true) ∧ ¬ a = b := by simpa [rangeB] using hr
    rw [wi_pre (by omega) (by omega), wi_pre (by omega) (by omega)] at h
    obtain ⟨a, rfl⟩ := E a h.1.1.1
    obtain ⟨b, rfl⟩ := E b h.1.2.1
    exact says_4 W S a b (by omega) (by omega) n m g ng r A cap w
  · have h : wi n 0 (wrap64 (S - 1)) = true ∧ wi m 0 W = true := by simpa [rangeB] using hr
    rw [wi_pre (by omega) (by omega)] at h
    obtain ⟨n, rfl⟩ := E n h.1.1
    exact says_5 W S (by omega) n (by omega) a b m g ng r A cap w hs
  · have h : (codeB W S g = true ∧ wi n 0 W = true) ∧ wi m 0 W = true := by simpa [rangeB] using hr
    obtain ⟨hgl, hgs⟩ := codeB_facts (by omega) (by omega) h.1.1
    exact says_6 W S (by omega) a b n m g (by omega) (fun i hi => by have := hgs i (by omega); omega) ng r A cap w hs hg
  · have h : (wi a 0 (wrap64 ((W : Int) - 1)) = true ∧ wi n 2 10 = true) ∧ wi m 0 (wrap64 (n - 1)) = true := by simpa [rangeB] using hr
    rw [wi_pre (by omega) (by omega), wi_iff] at h
    obtain ⟨a, rfl⟩ := E a h.1.1.1
    exact says_7 W S a (by omega) b n m (by omega) (by omega) g ng r A cap w (hs a (by omega))

set_option maxRecDepth 100000 in
set_option maxHeartbeats 2000000 in
theorem holds_any (W : Nat) (S : Int) (hL : lockOk W S = true) (c : Cl) (hv : clueB W S c = true) (r : List Int) (hs : Sym r W) (A : Option Addr) (cap : Nat) (w : World) (hg : IntsR w w.heap.size A c.guess) :
    Calls Tryd.prog 68 #[lockV W S, clV c A cap, rowV r] w fun e w' => e = .returned (.bool (holdB W c r)) ∧ Below w.heap.size w w' := by
  have hbw := three_boxes w (.cells #[.int .i64 W, .int .i64 S] 78) (.cells (clArr c A cap) 26) (.cells #[I (nth r 0), I (nth r 1), I (nth r 2), I (nth r 3)] 87)
  simp only [clArr] at hbw
  go_enter Tryd.func68, Tryd.ntmps68
  go_upto_region 1 with fail
  obtain ⟨w1, hw1⟩ : ∃ w1, w1 = ((w.alloc (.cells #[I W, I S] 78)).alloc (.cells (clArr c A cap) 26)).alloc (.cells #[I (nth r 0), I (nth r 1), I (nth r 2), I (nth r 3)] 87) := ⟨_, rfl⟩
  have hw1' := hw1
  simp only [clArr] at hw1'
  rw [← hw1']
  rw [← hw1'] at hbw
  have s0 : w.heap.size < w1.heap.size := by rw [hw1]; simp; omega
  have s1 : w.heap.size + 1 < w1.heap.size := by rw [hw1]; simp
  have s2 : w.heap.size + 1 + 1 < w1.heap.size := by rw [hw1]; simp
  have l0 : w1.cell? ⟨w.heap.size, 0, none⟩ = some (I W) := by rw [hw1, World.cell?_alloc_lt _ _ _ (by simp; omega), World.cell?_alloc_lt _ _ _ (by simp)]; exact alloc_cell _ _ _ 0
  have l1 : w1.cell? ⟨w.heap.size, 1, none⟩ = some (I S) := by rw [hw1, World.cell?_alloc_lt _ _ _ (by simp; omega), World.cell?_alloc_lt _ _ _ (by simp)]; exact alloc_cell _ _ _ 1
  have cc := fun i => (by rw [hw1, World.cell?_alloc_lt _ _ _ (by simp)]; exact alloc_cell' _ _ _ _ i (by simp) : w1.cell? ⟨w.heap.size + 1, i, none⟩ = (clArr c A cap)[i]?)
  have c0 : w1.cell? ⟨w.heap.size + 1, 0, none⟩ = some (I c.kind) := cc 0
  have c1 : w1.cell? ⟨w.heap.size + 1, 1, none⟩ = some (I c.a) := cc 1
  have c2 : w1.cell? ⟨w.heap.size + 1, 2, none⟩ = some (I c.b) := cc 2
  have c3 : w1.cell? ⟨w.heap.size + 1, 3, none⟩ = some (I c.n) := cc 3
  have c4 : w1.cell? ⟨w.heap.size + 1, 4, none⟩ = some (I c.m) := cc 4
  have c5 : w1.cell? ⟨w.heap.size + 1, 5, none⟩ = some (.slice A c.guess.length cap) := cc 5
  have c6 : w1.cell? ⟨w.heap.size + 1, 6, none⟩ = some (.bool c.neg) := cc 6
  have rr := fun i => (by rw [hw1]; exact third_cell _ _ _ _ _ i : w1.cell? ⟨w.heap.size + 1 + 1, i, none⟩ = #[I (nth r 0), I (nth r 1), I (nth r 2), I (nth r 3)][i]?)
  have r0 : w1.cell? ⟨w.heap.size + 1 + 1, 0, none⟩ = some (I (nth r 0)) := rr 0
  have r1 : w1.cell? ⟨w.heap.size + 1 + 1, 1, none⟩ = some (I (nth r 1)) := rr 1
  have r2 : w1.cell? ⟨w.heap.size + 1 + 1, 2, none⟩ = some (I (nth r 2)) := rr 2
  have r3 : w1.cell? ⟨w.heap.size + 1 + 1, 3, none⟩ = some (I (nth r 3)) := rr 3
  have hg1 := ints_call hbw hg
  clear hw1 hw1' cc rr
  go_region_held3 (fun w' => Below w1.heap.size w1 w' ∧ (∀ b o, b < w1.heap.size → w'.cell? ⟨b, o, none⟩ = w1.cell? ⟨b, o, none⟩))
    (first | exact keptS_drew _ | exact keptS_call (by assumption) hb | assumption)
    (first | (go_at_call 106; go_must (refine (says_any W S hL c hv r hs _ _ _ (kept_ints (by assumption) hg1)).mono ?_); rintro e w' ⟨rfl, hb⟩))
  all_goals
    go_wp2
    go_ret
    exact ⟨rfl, hbw.trans (Below.mono (And.left (by assumption)) hbw.size)⟩

/-- the first clue that does not hold, -1 if all do -/
def brk (W : Nat) (r : List Int) : List Cl → Int → Int
  | [], _ => -1
  | c :: cs, i => if holdB W c r then brk W r cs (i + 1) else i
theorem brk_drop (W : Nat) (r : List Int) (cs : List Cl) (k : Nat) (hk : k < cs.length) : brk W r (cs.drop k) k = if holdB W cs[k] r then brk W r (cs.drop (k + 1)) ((k + 1 : Nat) : Int) else (k : Int) := by
  rw [List.drop_eq_getElem_cons hk, brk]; rfl
theorem cluesB_at {W S : Int} {cs : List Cl} (h : cluesB W S cs = true) (k : Nat) (hk : k < cs.length) : clueB W S cs[k] = true :=
  List.all_eq_true.1 h _ (List.getElem_mem hk)

set_option maxRecDepth 100000 in
set_option maxHeartbeats 2000000 in
theorem broken_any (W : Nat) (S : Int) (hL : lockOk W S = true) (cs : List Cl) (hv : cluesB W S cs = true) (r : List Int) (hs : Sym r W) (A : Option Addr) (c : Nat) (w : World) (hx : ClsR w w.heap.size A cs) (hl : cs.length ≤ maxLen) :
    Calls Tryd.prog 74 #[lockV W S, .slice A cs.length c, rowV r] w fun e w' => e = .returned (.int .i64 (brk W r cs 0)) ∧ Below w.heap.size w w' := by
  unfold maxLen at hl
  have hbw0 := two_boxes w (.cells #[.int .i64 W, .int .i64 S] 78) (.cells #[I (nth r 0), I (nth r 1), I (nth r 2), I (nth r 3)] 87)
  go_enter Tryd.func74, Tryd.ntmps74
  go_wp2
  go_loopw [11] (fun i wr => ∃ k : Nat, k ≤ cs.length ∧ i = .int .i64 k ∧ Hid (brk W r cs 0 = brk W r (cs.drop k) k) ∧ Below (w.heap.size + 2) ((w.alloc (.cells #[.int .i64 W, .int .i64 S] 78)).alloc (.cells #[I (nth r 0), I (nth r 1), I (nth r 2), I (nth r 3)] 87)) wr) (fun i _ => cs.length - (intOf i).toNat)
  case atStart => exact ⟨0, Nat.zero_le _, rfl, Lib.hid rfl, Below.refl _ _⟩
  case round =>
    obtain ⟨k, hk, rfl, HA, hB⟩ := hrel
    have c0 : wr.cell? ⟨w.heap.size, 0, none⟩ = some (I W) := (hB.cell (p := ⟨w.heap.size, 0, none⟩) (by show w.heap.size < _; omega)).trans ((World.cell?_alloc_lt _ _ _ (by simp)).trans (alloc_cell _ _ _ 0))
    have c1 : wr.cell? ⟨w.heap.size, 1, none⟩ = some (I S) := (hB.cell (p := ⟨w.heap.size, 1, none⟩) (by show w.heap.size < _; omega)).trans ((World.cell?_alloc_lt _ _ _ (by simp)).trans (alloc_cell _ _ _ 1))
    have rr := fun i => (hB.cell (p := ⟨w.heap.size + 1, i, none⟩) (by show w.heap.size + 1 < _; omega)).trans (alloc_cell' _ _ _ _ i (by simp))
    have r0 : wr.cell? ⟨w.heap.size + 1, 0, none⟩ = some (I (nth r 0)) := rr 0
    have r1 : wr.cell? ⟨w.heap.size + 1, 1, none⟩ = some (I (nth r 1)) := rr 1
    have r2 : wr.cell? ⟨w.heap.size + 1, 2, none⟩ = some (I (nth r 2)) := rr 2
    have r3 : wr.cell? ⟨w.heap.size + 1, 3, none⟩ = some (I (nth r 3)) := rr 3
    have hbw : Below w.heap.size w wr := hbw0.trans (hB.mono (by omega))
    have hs0 := hB.size
    have hs1 : w.heap.size + 1 < wr.heap.size := by simp at hs0; omega
    have hs2 : w.heap.size < wr.heap.size := by omega
    have hx' := cls_call hbw hx
    clear hx rr
    by_cases hlt : k < cs.length
    · obtain ⟨gb, go, rfl, hb, hc⟩ := hx' (by omega)
      obtain ⟨A', c', hc1, hc2, hc3⟩ := hc k hlt
      have hbd := Lib.hid (brk_drop W r cs k hlt)
      have hvk := cluesB_at hv k hlt
      generalize hxs : cs[k] = xs at hc1 hc2 hc3 hbd hvk
      clear hxs hc
      have d0 : wr.cell? ⟨gb, go + k * 7, none⟩ = some (I xs.kind) := hc1 0 _ rfl
      have d1 : wr.cell? ⟨gb, go + k * 7 + 1, none⟩ = some (I xs.a) := hc1 1 _ rfl
      have d2 : wr.cell? ⟨gb, go + k * 7 + 2, none⟩ = some (I xs.b) := hc1 2 _ rfl
      have d3 : wr.cell? ⟨gb, go + k * 7 + 3, none⟩ = some (I xs.n) := hc1 3 _ rfl
      have d4 : wr.cell? ⟨gb, go + k * 7 + 4, none⟩ = some (I xs.m) := hc1 4 _ rfl
      have d5 : wr.cell? ⟨gb, go + k * 7 + 5, none⟩ = some (.slice A' xs.guess.length c') := hc1 5 _ rfl
      have d6 : wr.cell? ⟨gb, go + k * 7 + 6, none⟩ = some (.bool xs.neg) := hc1 6 _ rfl
      clear hc1
      have HV := Lib.hid hvk
      clear hvk
      cases hp : holdB W xs r
      · go_wp2_with fail
        refine (holds_any W S hL xs HV.out r hs A' c' _ (ints_call ((Below.refl _ _).alloc (Nat.le_refl _) _) hc2)).mono ?_
        rintro e w2 ⟨rfl, hb2⟩
        rw [hp]
        have hbr : Below wr.heap.size wr w2 := ((Below.refl _ _).alloc (Nat.le_refl _) _).trans (hb2.mono (by simp))
        clear hb2
        go_wp2
        go_ret
        exact ⟨ret_int (by rw [HA.out, hbd.out, hp]; rfl), hbw.trans (hbr.mono hbw.size)⟩
      · go_wp2_with fail
        refine (holds_any W S hL xs HV.out r hs A' c' _ (ints_call ((Below.refl _ _).alloc (Nat.le_refl _) _) hc2)).mono ?_
        rintro e w2 ⟨rfl, hb2⟩
        rw [hp]
        have hbr : Below wr.heap.size wr w2 := ((Below.refl _ _).alloc (Nat.le_refl _) _).trans (hb2.mono (by simp))
        clear hb2
        go_wp2
        go_roundw
        case rel => exact ⟨k + 1, by omega, by go_num, Lib.hid (by rw [HA.out, hbd.out, hp]; rfl), hB.trans (hbr.mono (by omega))⟩
        case measure => simp [intOf]; omega
    · obtain rfl : k = cs.length := by omega
      go_wp2
      go_ret
      exact ⟨ret_int (by rw [HA.out, List.drop_length]; rfl), hbw⟩
end Go.Proofs.YthegmomjfbcabaaDoor

/-
  CONTRACTS: padlockref01.True, padlockref01.first.
-/
import Derived.Test.YtadbkoioipjgmaaDoorTrue
import Derived.Test.YtadbkoioipjgmaaDoorHolds
namespace Go.Proofs.YtadbkoioipjgmaaDoor
open Go.RowKit
theorem True_any (S : Int) (x : List Int) (hL : lockOk x.length S = true) (c : Cl) (hv : clueB x.length S c = true) (hs : Sym x x.length) (A A2 : Option Addr) (cap k2 : Nat) (w : World) (hg : IntsR w w.heap.size A c.guess) (hx : IntsR w w.heap.size A2 x) :
    Calls Tryd.prog 70 #[clV c A cap, .slice A2 x.length k2] w fun e w' => e = .returned (.bool (holdB x.length c x)) ∧ Below w.heap.size w w' := by
  obtain ⟨hW1, hW4, hS2, hS10⟩ := lockOk_facts hL
  obtain ⟨kind, a, b, n, m, g, ng⟩ := c
  simp only [clueB, Bool.and_eq_true] at hv
  obtain ⟨⟨hk, _⟩, hr⟩ := hv
  rw [wi_iff] at hk
  have hcases : kind = 1 ∨ kind = 2 ∨ kind = 3 ∨ kind = 4 ∨ kind = 5 ∨ kind = 6 ∨ kind = 7 := by omega
  have E : ∀ x : Int, 0 ≤ x → ∃ k : Nat, x = k := fun x h => ⟨x.toNat, by omega⟩
  have h0 : 0 < x.length := by omega
  have h4 : x.length ≤ 4 := by omega
  rcases hcases with rfl | rfl | rfl | rfl | rfl | rfl | rfl
  · have h : wi a 0 (wrap64 ((x.length : Int) - 1)) = true ∧ wi n 0 (wrap64 (S - 1)) = true := by simpa [rangeB] using hr
    rw [wi_pre (by omega) (by omega)] at h
    obtain ⟨a, rfl⟩ := E a h.1.1
    exact true_1 a b n m g ng A cap x A2 k2 w hx h0 (by omega) h4
  · have h : ((wi a 0 (wrap64 ((x.length : Int) - 1)) = true ∧ wi b 0 (wrap64 ((x.length : Int) - 1)) = true) ∧ a ≤ b) ∧ wi n 0 100 = true := by simpa [rangeB] using hr
    rw [wi_pre (by omega) (by omega), wi_pre (by omega) (by omega)] at h
    obtain ⟨a, rfl⟩ := E a h.1.1.1.1
    obtain ⟨b, rfl⟩ := E b h.1.1.2.1
    exact true_2 a b n m g ng A cap x A2 k2 w hx (by omega) (by omega) (fun i hi => hs i (by omega)) h0 h4
  · have h : (wi a 0 (wrap64 ((x.length : Int) - 1)) = true ∧ wi b 0 (wrap64 ((x.length : Int) - 1)) = true) ∧ ¬ a = b := by simpa [rangeB] using hr
    rw [wi_pre (by omega) (by omega), wi_pre (by omega) (by omega)] at h
    obtain ⟨a, rfl⟩ := E a h.1.1.1
    obtain ⟨b, rfl⟩ := E b h.1.2.1
    exact true_3 a b n m g ng A cap x A2 k2 w hx h0 (by omega) (by omega) h4
  · have h : (wi a 0 (wrap64 ((x.length : Int) - 1)) = true ∧ wi b 0 (wrap64 ((x.length : Int) - 1)) = true) ∧ ¬ a = b := by simpa [rangeB] using hr
    rw [wi_pre (by omega) (by omega), wi_pre (by omega) (by omega)] at h
    obtain ⟨a, rfl⟩ := E a h.1.1.1
    obtain ⟨b, rfl⟩ := E b h.1.2.1
    exact true_4 a b n m g ng A cap x A2 k2 w hx h0 (by omega) (by omega) h4
  · exact true_5 a b n m g ng A cap x A2 k2 w hx h0 h4
  · have h : (codeB x.length S g = true ∧ wi n 0 x.length = true) ∧ wi m 0 x.length = true := by simpa [rangeB] using hr
    obtain ⟨hgl, hgs⟩ := codeB_facts (by omega) (by omega) h.1.1
    exact true_6 a b n m g ng A cap x A2 k2 w hx hg (by omega) h0 h4
  · have h : (wi a 0 (wrap64 ((x.length : Int) - 1)) = true ∧ wi n 2 10 = true) ∧ wi m 0 (wrap64 (n - 1)) = true := by simpa [rangeB] using hr
    rw [wi_pre (by omega) (by omega), wi_iff] at h
    obtain ⟨a, rfl⟩ := E a h.1.1.1
    exact true_7 a b n m g ng A cap x A2 k2 w hx h0 (by omega) (by omega) (by omega) (hs a (by omega)).1 (hs a (by omega)).2 h4

set_option maxRecDepth 100000 in
set_option maxHeartbeats 2000000 in
theorem rfirst_any (S : Int) (x : List Int) (hL : lockOk x.length S = true) (cs : List Cl) (hv : cluesB x.length S cs = true) (hs : Sym x x.length) (A A2 : Option Addr) (c k2 : Nat) (w : World) (hc : ClsR w w.heap.size A cs) (hl : cs.length ≤ maxLen) (hx : IntsR w w.heap.size A2 x) :
    Calls Tryd.prog 75 #[.slice A cs.length c, .slice A2 x.length k2] w fun e w' => e = .returned (.int .i64 (brk x.length x cs 0)) ∧ Below w.heap.size w w' := by
  unfold maxLen at hl
  go_enter Tryd.func75, Tryd.ntmps75
  go_wp2
  go_loopw [5] (fun i wr => ∃ k : Nat, k ≤ cs.length ∧ i = .int .i64 k ∧ Hid (brk x.length x cs 0 = brk x.length x (cs.drop k) k) ∧ Below w.heap.size w wr) (fun i _ => cs.length - (intOf i).toNat)
  case atStart => exact ⟨0, Nat.zero_le _, rfl, Lib.hid rfl, Below.refl _ _⟩
  case round =>
    obtain ⟨k, hk, rfl, HA, hB⟩ := hrel
    have hx' := ints_call hB hx
    have hc' := cls_call hB hc
    clear hx hc
    by_cases hlt : k < cs.length
    · obtain ⟨gb, go, rfl, hb, hcc⟩ := hc' (by omega)
      obtain ⟨A', c', hc1, hc2, hc3⟩ := hcc k hlt
      have hbd := Lib.hid (brk_drop x.length x cs k hlt)
      have hvk := cluesB_at hv k hlt
      generalize hxs : cs[k] = xs at hc1 hc2 hc3 hbd hvk
      clear hxs hcc
      have d0 : wr.cell? ⟨gb, go + k * 7, none⟩ = some (I xs.kind) := hc1 0 _ rfl
      have d1 : wr.cell? ⟨gb, go + k * 7 + 1, none⟩ = some (I xs.a) := hc1 1 _ rfl
      have d2 : wr.cell? ⟨gb, go + k * 7 + 2, none⟩ = some (I xs.b) := hc1 2 _ rfl
      have d3 : wr.cell? ⟨gb, go + k * 7 + 3, none⟩ = some (I xs.n) := hc1 3 _ rfl
      have d4 : wr.cell? ⟨gb, go + k * 7 + 4, none⟩ = some (I xs.m) := hc1 4 _ rfl
      have d5 : wr.cell? ⟨gb, go + k * 7 + 5, none⟩ = some (.slice A' xs.guess.length c') := hc1 5 _ rfl
      have d6 : wr.cell? ⟨gb, go + k * 7 + 6, none⟩ = some (.bool xs.neg) := hc1 6 _ rfl
      clear hc1
      have HV := Lib.hid hvk
      clear hvk
      cases hp : holdB x.length xs x
      all_goals
        go_wp2_with fail
        refine (True_any S x hL xs HV.out hs A' A2 c' k2 wr hc2 hx').mono ?_
        rintro e w2 ⟨rfl, hb2⟩
        rw [hp]
        have hbw := hB.trans (hb2.mono hB.size)
        clear hb2
        go_wp2
      · go_ret
        exact ⟨ret_int (by rw [HA.out, hbd.out, hp]; rfl), hbw⟩
      · go_roundw
        case rel => exact ⟨k + 1, by omega, by go_num, Lib.hid (by rw [HA.out, hbd.out, hp]; rfl), hbw⟩
        case measure => simp [intOf]; omega
    · obtain rfl : k = cs.length := by omega
      go_wp2
      go_ret
      exact ⟨ret_int (by rw [HA.out, List.drop_length]; rfl), hB⟩
end Go.Proofs.YtadbkoioipjgmaaDoor

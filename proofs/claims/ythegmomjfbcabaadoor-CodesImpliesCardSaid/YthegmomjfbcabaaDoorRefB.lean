/-
  CONTRACTS of the document's own answers (padlockref01): CheckClue, CheckClues, Holds, Fits.
-/
import Derived.Test.YthegmomjfbcabaaDoorIsClue
import Derived.Test.YthegmomjfbcabaaDoorFits
namespace Go.Proofs.YthegmomjfbcabaaDoor
open Go.RowKit
def rClueErr (W S : Int) (c : Cl) : Int := fstErr [lockErr W S, clueErr W S c]
theorem fst3' (a b c : Int) : fstErr [a, b, c] = if a = 0 then (if b = 0 then c else b) else a := by
  simp only [fstErr]; (repeat' split) <;> simp_all
theorem rClueErr_eq (W S : Int) (c : Cl) : rClueErr W S c = if lockErr W S = 0 then (if clueB W S c then 0 else 11) else lockErr W S := by rw [rClueErr, fst2']; rfl
theorem cntE_eq (W S : Int) (cs : List Cl) : cntE W S cs = if lockErr W S = 0 then cluesErr W S 20 cs else lockErr W S := by rw [cntE, fst2']

set_option maxRecDepth 100000 in
set_option maxHeartbeats 1000000 in
theorem rCheckClue_any (W S : Int) (cl : Cl) (A : Option Addr) (cap : Nat) (w : World) (hg : IntsR w w.heap.size A cl.guess) (lg : cl.guess.length ≤ maxLen) :
    Calls Tryd.prog 22 #[lockV W S, clV cl A cap] w fun e w' => e = .returned (.int .i64 (rClueErr W S cl)) ∧ Below w.heap.size w w' := by
  obtain ⟨k, a, b, n, m, g, ng⟩ := cl
  go_enter Tryd.func22, Tryd.ntmps22
  go_wp2_with fail
  obtain ⟨w1, hw1⟩ : ∃ w1, w1 = (w.alloc (.cells #[I W, I S] 23)).alloc (.cells #[I k, I a, I b, I n, I m, .slice A g.length cap, .bool ng] 26) := ⟨_, rfl⟩
  rw [← hw1]
  have l0 : w1.cell? ⟨w.heap.size, 0, none⟩ = some (I W) := by rw [hw1]; exact (World.cell?_alloc_lt _ _ _ (by simp)).trans (alloc_cell _ _ _ 0)
  have l1 : w1.cell? ⟨w.heap.size, 1, none⟩ = some (I S) := by rw [hw1]; exact (World.cell?_alloc_lt _ _ _ (by simp)).trans (alloc_cell _ _ _ 1)
  have bc := fun i => (by rw [hw1]; exact alloc_cell' _ _ _ _ i (by simp) : w1.cell? ⟨w.heap.size + 1, i, none⟩ = (#[I k, I a, I b, I n, I m, .slice A g.length cap, .bool ng] : Array Value)[i]?)
  have hb1 : Below w.heap.size w w1 := by rw [hw1]; exact two_boxes _ _ _
  have s0 : w.heap.size < w1.heap.size := by rw [hw1]; simp; omega
  have s1 : w.heap.size + 1 < w1.heap.size := by rw [hw1]; simp
  have hg1 := ints_call hb1 hg
  clear hw1 hg
  refine (rCheck_any W S w1).mono ?_
  rintro e w2 ⟨rfl, hb2⟩
  have l0 := (hb2.cell (p := ⟨w.heap.size, 0, none⟩) s0).trans l0
  have l1 := (hb2.cell (p := ⟨w.heap.size, 1, none⟩) s0).trans l1
  have q0 := (hb2.cell (p := ⟨w.heap.size + 1, 0, none⟩) s1).trans (bc 0)
  have q1 := (hb2.cell (p := ⟨w.heap.size + 1, 1, none⟩) s1).trans (bc 1)
  have q2 := (hb2.cell (p := ⟨w.heap.size + 1, 2, none⟩) s1).trans (bc 2)
  have q3 := (hb2.cell (p := ⟨w.heap.size + 1, 3, none⟩) s1).trans (bc 3)
  have q4 := (hb2.cell (p := ⟨w.heap.size + 1, 4, none⟩) s1).trans (bc 4)
  have q5 := (hb2.cell (p := ⟨w.heap.size + 1, 5, none⟩) s1).trans (bc 5)
  have q6 := (hb2.cell (p := ⟨w.heap.size + 1, 6, none⟩) s1).trans (bc 6)
  change w2.cell? ⟨w.heap.size + 1, 0, none⟩ = some (I k) at q0
  change w2.cell? ⟨w.heap.size + 1, 1, none⟩ = some (I a) at q1
  change w2.cell? ⟨w.heap.size + 1, 2, none⟩ = some (I b) at q2
  change w2.cell? ⟨w.heap.size + 1, 3, none⟩ = some (I n) at q3
  change w2.cell? ⟨w.heap.size + 1, 4, none⟩ = some (I m) at q4
  change w2.cell? ⟨w.heap.size + 1, 5, none⟩ = some (.slice A g.length cap) at q5
  change w2.cell? ⟨w.heap.size + 1, 6, none⟩ = some (.bool ng) at q6
  have hg2 := ints_call hb2 hg1
  have hbb2 : Below w.heap.size w w2 := hb1.trans (hb2.mono (by omega))
  have t0 : w.heap.size < w2.heap.size := by have := hb2.size; omega
  have t1 : w.heap.size + 1 < w2.heap.size := by have := hb2.size; omega
  clear hb1 hb2 hg1 bc s0 s1
  by_cases he : lockErr W S = 0
  · have hb0 : (lockErr W S != 0) = false := by simp [he]
    have HE := Lib.hid he
    clear he
    cases hc : clueB W S ⟨k, a, b, n, m, g, ng⟩
    all_goals
      have HC := Lib.hid (show rClueErr W S ⟨k, a, b, n, m, g, ng⟩ = _ from (rClueErr_eq _ _ _).trans ((if_pos HE.out).trans (by rw [hc])))
      go_wp2_with fail
      refine (isClue_any W S ⟨k, a, b, n, m, g, ng⟩ A cap w2 hg2 lg).mono ?_
      rintro e w3 ⟨rfl, hb3⟩
      rw [hc]
      go_wp2
      go_ret
      exact ⟨ret_int HC.out.symm, hbb2.trans (hb3.mono (by omega))⟩
  · have hb0 : (lockErr W S != 0) = true := by simpa using he
    have HC := Lib.hid (show rClueErr W S ⟨k, a, b, n, m, g, ng⟩ = _ from (rClueErr_eq _ _ _).trans (if_neg he))
    clear he
    go_wp2
    go_ret
    exact ⟨ret_int HC.out.symm, hbb2⟩

set_option maxRecDepth 100000 in
set_option maxHeartbeats 1000000 in
theorem rCheckClues_any (W S : Int) (A : Option Addr) (c : Nat) (cs : List Cl) (w : World) (hx : ClsR w w.heap.size A cs) (hl : cs.length ≤ maxLen) :
    Calls Tryd.prog 58 #[lockV W S, .slice A cs.length c] w fun e w' => e = .returned (.int .i64 (cntE W S cs)) ∧ Below w.heap.size w w' := by
  unfold maxLen at hl
  go_enter Tryd.func58, Tryd.ntmps58
  go_wp2_with fail
  obtain ⟨w1, hw1⟩ : ∃ w1, w1 = w.alloc (.cells #[I W, I S] 23) := ⟨_, rfl⟩
  rw [← hw1]
  have l0 : w1.cell? ⟨w.heap.size, 0, none⟩ = some (I W) := by rw [hw1]; exact alloc_cell _ _ _ 0
  have l1 : w1.cell? ⟨w.heap.size, 1, none⟩ = some (I S) := by rw [hw1]; exact alloc_cell _ _ _ 1
  have hb1 : Below w.heap.size w w1 := by rw [hw1]; exact (Below.refl _ _).alloc (Nat.le_refl _) _
  have s1 : w.heap.size < w1.heap.size := by rw [hw1]; simp
  have hx1 := cls_call hb1 hx
  clear hw1 hx
  refine (rCheck_any W S w1).mono ?_
  rintro e w2 ⟨rfl, hb2⟩
  have l0 := (hb2.cell (p := ⟨w.heap.size, 0, none⟩) s1).trans l0
  have l1 := (hb2.cell (p := ⟨w.heap.size, 1, none⟩) s1).trans l1
  have hx2 := cls_call hb2 hx1
  have s2 : w.heap.size < w2.heap.size := by have := hb2.size; omega
  have hbb2 : Below w.heap.size w w2 := hb1.trans (hb2.mono (by omega))
  clear hb1 hb2 hx1
  by_cases he : lockErr W S = 0
  · have hb0 : (lockErr W S != 0) = false := by simp [he]
    have HE := Lib.hid (show cntE W S cs = cluesErr W S 20 cs from (cntE_eq _ _ _).trans (if_pos he))
    clear he
    by_cases hm : (20 : Int) < (cs.length : Int)
    · have HM := Lib.hid (show cntE W S cs = 2 from HE.out.trans (if_pos hm))
      go_wp2
      go_ret
      exact ⟨ret_int HM.out.symm, hbb2⟩
    · have HM := Lib.hid (show cntE W S cs = errIf (cluesB W S cs) from HE.out.trans (if_neg hm))
      go_wp2
      go_loopw [6] (fun i wr => ∃ k : Nat, k ≤ cs.length ∧ i = .int .i64 k ∧ Hid ((cs.take k).all (clueB W S) = true) ∧ Below w2.heap.size w2 wr) (fun i _ => cs.length - (intOf i).toNat)
      case atStart => exact ⟨0, Nat.zero_le _, rfl, rfl, Below.refl _ _⟩
      case round =>
        obtain ⟨k, hk, rfl, HA, hB⟩ := hrel
        have c0 := (hB.cell (p := ⟨w.heap.size, 0, none⟩) s2).trans l0
        have c1 := (hB.cell (p := ⟨w.heap.size, 1, none⟩) s2).trans l1
        have hbw : Below w.heap.size w wr := hbb2.trans (hB.mono (by omega))
        have hx' := cls_call hB hx2
        have s3 : w.heap.size < wr.heap.size := by have := hB.size; omega
        have s4 := hB.size
        clear hx2 l0 l1
        by_cases hlt : k < cs.length
        · obtain ⟨gb, go, rfl, hgb, hc⟩ := hx' (by omega)
          obtain ⟨A', c', hc1, hc2, hc3⟩ := hc k hlt
          generalize hxs : cs[k] = xs at hc1 hc2 hc3
          have HX := Lib.hid hxs
          clear hxs hc
          have d0 : wr.cell? ⟨gb, go + k * 7, none⟩ = some (I xs.kind) := hc1 0 _ rfl
          have d1 : wr.cell? ⟨gb, go + k * 7 + 1, none⟩ = some (I xs.a) := hc1 1 _ rfl
          have d2 : wr.cell? ⟨gb, go + k * 7 + 2, none⟩ = some (I xs.b) := hc1 2 _ rfl
          have d3 : wr.cell? ⟨gb, go + k * 7 + 3, none⟩ = some (I xs.n) := hc1 3 _ rfl
          have d4 : wr.cell? ⟨gb, go + k * 7 + 4, none⟩ = some (I xs.m) := hc1 4 _ rfl
          have d5 : wr.cell? ⟨gb, go + k * 7 + 5, none⟩ = some (.slice A' xs.guess.length c') := hc1 5 _ rfl
          have d6 : wr.cell? ⟨gb, go + k * 7 + 6, none⟩ = some (.bool xs.neg) := hc1 6 _ rfl
          clear hc1
          cases hp : clueB W S xs
          all_goals
            go_wp2_with fail
            go_region_held3 (fun w' => Below wr.heap.size wr w' ∧ (∀ b o, b < wr.heap.size → w'.cell? ⟨b, o, none⟩ = wr.cell? ⟨b, o, none⟩))
              (first | exact keptS_drew _ | exact keptS_call (by assumption) hb | assumption)
              ((go_at_call 65; go_must (refine (isClue_any W S xs A' c' _ ?_ hc3).mono ?_); go_must (exact kept_ints (by assumption) hc2); rw [hp]; rintro e w' ⟨rfl, hb⟩))
            all_goals
              go_wp2
              first
                | (go_ret
                   exact ⟨ret_int (by rw [HM.out, cluesB, not_allL (clueB W S) cs k hlt (by rw [HX.out]; exact hp)]; rfl), hbw.trans (Below.mono (And.left (by assumption : KeptS wr _)) (by omega))⟩)
                | (go_roundw
                   case rel => exact ⟨k + 1, by omega, by go_num, Lib.hid (all_take_snocL _ cs k hlt HA.out (by rw [HX.out]; exact hp)), hB.trans (Below.mono (And.left (by assumption : KeptS wr _)) (by omega))⟩
                   case measure => simp [intOf]; omega)
        · obtain rfl : k = cs.length := by omega
          have ht : cluesB W S cs = true := by have := HA.out; rwa [List.take_length] at this
          have HT := Lib.hid ht
          clear ht
          go_wp2
          go_ret
          exact ⟨ret_int (by rw [HM.out, HT.out]; rfl), hbw⟩
  · have hb0 : (lockErr W S != 0) = true := by simpa using he
    have HC := Lib.hid (show cntE W S cs = lockErr W S from (cntE_eq _ _ _).trans (if_neg he))
    clear he
    go_wp2
    go_ret
    exact ⟨ret_int HC.out.symm, hbb2⟩

theorem fitE_eq (W S : Int) (cs : List Cl) (x : List Int) : fitE W S cs x = if cntE W S cs = 0 then (if codeB W S x then 0 else 12) else cntE W S cs := by
  rw [fitE, fst3', cntE_eq, codesErr]
  by_cases h : lockErr W S = 0
  · rw [if_pos h, if_pos h]
    simp
  · rw [if_neg h, if_neg h, if_neg h]
theorem cntE_facts {W S : Int} {cs : List Cl} (h : cntE W S cs = 0) : lockOk W S = true ∧ cluesB W S cs = true := by
  rw [cntE_eq] at h
  by_cases h1 : lockErr W S = 0
  · rw [if_pos h1] at h
    refine ⟨lockErr_zero.1 h1, ?_⟩
    unfold cluesErr errIf at h
    split at h
    · simp at h
    · cases h2 : cluesB W S cs
      · rw [h2] at h; simp at h
      · rfl
  · rw [if_neg h1] at h
    exact absurd h h1

set_option maxRecDepth 100000 in
set_option maxHeartbeats 1000000 in
theorem rFits_any (W S : Int) (A A2 : Option Addr) (c k : Nat) (cs : List Cl) (x : List Int) (w : World) (hc : ClsR w w.heap.size A cs) (hl : cs.length ≤ maxLen) (hx : IntsR w w.heap.size A2 x) (lx : x.length ≤ maxLen) :
    Calls Tryd.prog 31 #[lockV W S, .slice A cs.length c, .slice A2 x.length k] w fun e w' => e = .returned (.tuple #[I (fitN W S cs x), .bool (fitB W S cs x), I (fitE W S cs x)]) ∧ Below w.heap.size w w' := by
  go_enter Tryd.func31, Tryd.ntmps31
  go_wp2_with fail
  obtain ⟨w1, hw1⟩ : ∃ w1, w1 = w.alloc (.cells #[I W, I S] 23) := ⟨_, rfl⟩
  rw [← hw1]
  have l0 : w1.cell? ⟨w.heap.size, 0, none⟩ = some (I W) := by rw [hw1]; exact alloc_cell _ _ _ 0
  have l1 : w1.cell? ⟨w.heap.size, 1, none⟩ = some (I S) := by rw [hw1]; exact alloc_cell _ _ _ 1
  have hb1 : Below w.heap.size w w1 := by rw [hw1]; exact (Below.refl _ _).alloc (Nat.le_refl _) _
  have s1 : w.heap.size < w1.heap.size := by rw [hw1]; simp
  have hx1 := ints_call hb1 hx
  have hc1 := cls_call hb1 hc
  clear hw1 hx hc
  refine (rCheckClues_any W S A c cs w1 hc1 hl).mono ?_
  rintro e w2 ⟨rfl, hb2⟩
  have l0 := (hb2.cell (p := ⟨w.heap.size, 0, none⟩) s1).trans l0
  have l1 := (hb2.cell (p := ⟨w.heap.size, 1, none⟩) s1).trans l1
  have hx2 := ints_call hb2 hx1
  have hc2 := cls_call hb2 hc1
  have s2 : w.heap.size < w2.heap.size := by have := hb2.size; omega
  have hbb2 : Below w.heap.size w w2 := hb1.trans (hb2.mono (by omega))
  clear hb1 hb2 hx1 hc1
  by_cases he : cntE W S cs = 0
  · have hb0 : (cntE W S cs != 0) = false := by simp [he]
    have HE := Lib.hid he
    clear he
    cases hp : codeB W S x
    · have hE : fitE W S cs x = 12 := by rw [fitE_eq, if_pos HE.out, hp]; rfl
      have HF := Lib.hid hE
      have HN := Lib.hid (show fitN W S cs x = 0 from if_neg (by rw [hE]; decide))
      have HB := Lib.hid (show fitB W S cs x = false by rw [fitB, hE]; rfl)
      clear hE
      go_wp2_with fail
      refine (isCode_any W S A2 k x w2 hx2 lx).mono ?_
      rintro e w3 ⟨rfl, hb3⟩
      rw [hp]
      go_wp2
      go_ret3
      exact ⟨by rw [HN.out, HB.out, HF.out]; rfl, hbb2.trans (hb3.mono (by omega))⟩
    · have hE : fitE W S cs x = 0 := by rw [fitE_eq, if_pos HE.out, hp]; rfl
      obtain ⟨hL0, hC0⟩ := cntE_facts HE.out
      obtain ⟨hW1, hW4, hS2, hS10⟩ := lockOk_facts hL0
      obtain ⟨hxl, hxs⟩ := codeB_facts (by omega) (by omega) hp
      have HXL := Lib.hid hxl
      have hL : lockOk x.length S = true := by rw [hxl]; exact hL0
      have hC : cluesB x.length S cs = true := by rw [hxl]; exact hC0
      have hsym : Sym x x.length := fun i hi => by have := hxs i hi; omega
      have HF := Lib.hid hE
      have HN := Lib.hid (show fitN W S cs x = brk x.length x cs 0 by rw [fitN, if_pos hE, ← hxl]; rfl)
      have HB := Lib.hid (show fitB W S cs x = decide (brk x.length x cs 0 < 0) by rw [fitB, hE, HN.out]; simp)
      have HL := Lib.hid hL
      have HCC := Lib.hid hC
      have HS := Lib.hid hsym
      clear hE hL0 hC0 hW1 hW4 hS2 hS10 hxl hxs hL hC hsym
      go_wp2_with fail
      refine (isCode_any W S A2 k x w2 hx2 lx).mono ?_
      rintro e w3 ⟨rfl, hb3⟩
      rw [hp]
      have hx3 := ints_call hb3 hx2
      have hc3 := cls_call hb3 hc2
      have hbb3 : Below w.heap.size w w3 := hbb2.trans (hb3.mono (by omega))
      have s3 : w.heap.size < w3.heap.size := by have := hb3.size; omega
      clear hb3 hx2 hc2
      go_wp2_with fail
      refine (rfirst_any S x HL.out cs HCC.out HS.out A A2 c k w3 hc3 hl hx3).mono ?_
      rintro e w4 ⟨rfl, hb4⟩
      go_wp2
      go_ret3
      exact ⟨by rw [HN.out, HB.out, HF.out]; rfl, hbb3.trans (hb4.mono (by omega))⟩
  · have hb0 : (cntE W S cs != 0) = true := by simpa using he
    have hE : fitE W S cs x = cntE W S cs := by rw [fitE_eq, if_neg he]
    have hne : ¬ fitE W S cs x = 0 := by rw [hE]; exact he
    have HF := Lib.hid hE
    have HN := Lib.hid (show fitN W S cs x = 0 from if_neg hne)
    have HB := Lib.hid (show fitB W S cs x = false by rw [fitB, decide_eq_false hne]; rfl)
    clear he hE hne
    go_wp2
    go_ret3
    exact ⟨by rw [HN.out, HB.out, HF.out]; rfl, hbb2⟩
end Go.Proofs.YthegmomjfbcabaaDoor

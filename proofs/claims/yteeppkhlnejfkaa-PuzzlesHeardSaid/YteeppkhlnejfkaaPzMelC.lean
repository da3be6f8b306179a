/-
  CONTRACTS: opens, Opens; the reference's Ends, heard, Press, Opens.
-/
import Derived.Test.YteeppkhlnejfkaaPzMelB
namespace Go.Proofs.Yteeppkhlnejfkaa
open Go.RowKit Go.Shelf
/-- once it opens, it opens there -/
theorem opn_stay {m ks : List Int} {i j : Nat} (hij : i ≤ j) (h : 0 ≤ opn m ks i) : opn m ks j = opn m ks i := by
  induction j with
  | zero => obtain rfl : i = 0 := by omega
            rfl
  | succ j ih =>
    rcases Nat.lt_or_ge j i with h1 | h1
    · obtain rfl : i = j + 1 := by omega
      rfl
    · have := ih h1
      rw [opn, if_pos (by omega), this]
theorem opn_yes {m ks : List Int} {i : Nat} (h0 : opn m ks i = -1) (h : m <:+ ks.take (i + 1)) : opn m ks (i + 1) = ((i + 1 : Nat) : Int) := by
  rw [opn, h0, if_neg (by decide), if_pos (List.isSuffixOf_iff_suffix.2 h)]
theorem opn_no {m ks : List Int} {i : Nat} (h0 : opn m ks i = -1) (h : ¬ m <:+ ks.take (i + 1)) : opn m ks (i + 1) = -1 := by
  rw [opn, h0, if_neg (by decide), if_neg (fun e => h (List.isSuffixOf_iff_suffix.1 e))]

set_option maxRecDepth 100000 in
set_option maxHeartbeats 2000000 in
theorem opens_any (A1 A2 : Option Addr) (c1 c2 : Nat) (m ks : List Int) (w : World) (hx : IntsR w w.heap.size A1 m) (hy : IntsR w w.heap.size A2 ks) (hl0 : 1 ≤ m.length) (hl : m.length ≤ 16) (hc : m.length ≤ c1) (hk : ks.length ≤ 200) :
    Calls Try.prog 123 #[.slice A1 m.length c1, .slice A2 ks.length c2] w fun e w' => e = .returned (I (opn m ks ks.length)) ∧ Below w.heap.size w w' := by
  go_enter Try.func123, Try.ntmps123
  go_wp2_with fail
  go_loopw [5, 10] (fun n i wr => ∃ k : Nat, k ≤ ks.length ∧ i = .int .i64 k ∧ n = .int .i64 (hrd m (ks.take k) m.length : Nat) ∧ Hid (hrd m (ks.take k) m.length < m.length) ∧ Hid (opn m ks k = -1) ∧ Below w.heap.size w wr) (fun _ i _ => ks.length - (intOf i).toNat)
  case atStart =>
    have h0 : hrd m (ks.take 0) m.length = 0 := hrd_eq (Nat.zero_le _) (isEnd_zero _ _) (fun j h1 h2 => by
      cases h : isEnd m (ks.take 0) j
      · rfl
      · have := (isEnd_iff.1 h).length_le
        rw [List.length_take, List.take_zero, List.length_nil] at this
        omega)
    exact ⟨0, Nat.zero_le _, rfl, by rw [h0]; rfl, Lib.hid (by omega), Lib.hid rfl, Below.refl _ _⟩
  case round =>
    obtain ⟨k, hkl, rfl, rfl, HH, HO, hB⟩ := hrel
    have hxr := ints_call hB hx
    have hyr := ints_call hB hy
    by_cases hlt : k < ks.length
    · obtain ⟨ad, rfl, hb, hcc⟩ := hyr.at_ hlt
      have hstep := heard_step (nth ks k) HH.out
      have hpr := prs_hrd (m := m) (ks := m.take (hrd m (ks.take k) m.length) ++ [nth ks k]) (by have := HH.out; simp; omega)
      have hts : ks.take (k + 1) = ks.take k ++ [nth ks k] := by rw [List.take_succ_eq_append_getElem hlt, nth_lt hlt]
      rw [← hts] at hstep
      have HS := Lib.hid hstep
      have HPR := Lib.hid hpr
      clear hstep hpr hts
      go_wp2_with fail
      refine (press_any A1 c1 m (hrd m (ks.take k) m.length) (nth ks k) wr hxr hl hc HH.out).mono ?_
      rintro e w2 ⟨rfl, hb2⟩
      rw [HPR.out, ← HS.out]
      have hB2 : Below w.heap.size w w2 := hB.trans (hb2.mono hB.size)
      have hle : hrd m (ks.take (k + 1)) m.length ≤ m.length := hrd_le _ _ _
      have hiff := heard_all (m := m) (ks := ks.take (k + 1))
      have HIFF := Lib.hid hiff
      obtain ⟨q, hq⟩ : ∃ q, q = hrd m (ks.take (k + 1)) m.length := ⟨_, rfl⟩
      rw [← hq] at hle ⊢
      have HQ := Lib.hid hq
      clear hb2 hxr hyr hcc hiff hq
      by_cases he : q = m.length
      · have g1 : ((q : Int) == (m.length : Int)) = true := by simp [he]
        have hs := opn_yes HO.out (HIFF.out.1 (by rw [← HQ.out]; exact he))
        have HO2 := Lib.hid (show opn m ks ks.length = ((k + 1 : Nat) : Int) by rw [← hs]; exact opn_stay (by omega) (by rw [hs]; omega))
        clear he hs
        go_wp2
        go_ret
        exact ⟨ret_int (by rw [HO2.out]; omega), hB2⟩
      · have g1 : ((q : Int) == (m.length : Int)) = false := by simp; omega
        have HO2 := Lib.hid (opn_no HO.out (fun h => he (by rw [HQ.out]; exact HIFF.out.2 h)))
        have hqlt : q < m.length := by omega
        clear he
        go_wp2
        go_roundw
        case rel => exact ⟨k + 1, by omega, by go_num, by rw [← HQ.out], Lib.hid (by rw [← HQ.out]; exact hqlt), HO2, hB2⟩
        case measure => simp [intOf]; omega
    · obtain rfl : k = ks.length := by omega
      go_wp2
      go_ret
      exact ⟨ret_int (by rw [HO.out]), hB⟩

def openE (m ks : List Int) : Int := if melB m = true then (if ks.length ≤ 200 then (if inB 0 9 ks = true then 0 else 1) else 2) else 1
def openN (m ks : List Int) : Int := if melB m = true ∧ ks.length ≤ 200 ∧ inB 0 9 ks = true then opn m ks ks.length else 0

set_option maxRecDepth 100000 in
set_option maxHeartbeats 2000000 in
theorem Opens_any (A1 A2 : Option Addr) (c1 c2 : Nat) (m ks : List Int) (w : World) (hx : IntsR w w.heap.size A1 m) (hy : IntsR w w.heap.size A2 ks) (hl : m.length ≤ maxLen) (hlk : ks.length ≤ maxLen) (hc : m.length ≤ c1) :
    Calls Try.prog 52 #[.slice A1 m.length c1, .slice A2 ks.length c2] w fun e w' => e = .returned (.tuple #[I (openN m ks), I (openE m ks)]) ∧ Below w.heap.size w w' := by
  have hlk' := hlk
  unfold maxLen at hlk'
  go_enter Try.func52, Try.ntmps52
  go_wp2_with fail
  refine (isMelody_any A1 c1 m w hx hl).mono ?_
  rintro e w1 ⟨rfl, hb1⟩
  have hx1 := ints_call hb1 hx
  have hy1 := ints_call hb1 hy
  cases hm : melB m
  · have HE := Lib.hid (show openN m ks = 0 ∧ openE m ks = 1 by constructor <;> simp [openN, openE, hm])
    clear hm
    go_wp2
    go_ret2
    exact ⟨by rw [HE.out.1, HE.out.2]; rfl, hb1⟩
  · have hml := mel_len hm
    have hml1 := hml.1
    have hml2 := hml.2
    have HM := Lib.hid hm
    clear hm hml
    by_cases h2 : ks.length ≤ 200
    · have d1 : decide ((200 : Int) < (ks.length : Int)) = false := decide_eq_false (by omega)
      have d2 : decide (200 < ks.length) = false := decide_eq_false (by omega)
      go_wp2_with fail
      refine (areNotes_any A2 c2 ks w1 hy1 hlk).mono ?_
      rintro e w2 ⟨rfl, hb2⟩
      have hx2 := ints_call hb2 hx1
      have hy2 := ints_call hb2 hy1
      have hB2 : Below w.heap.size w w2 := hb1.trans (hb2.mono hb1.size)
      clear hx1 hy1 hb2 d1 d2
      cases hn : inB 0 9 ks
      · have HE := Lib.hid (show openN m ks = 0 ∧ openE m ks = 1 by constructor <;> simp [openN, openE, hn, HM.out, h2])
        clear hn
        go_wp2
        go_ret2
        exact ⟨by rw [HE.out.1, HE.out.2]; rfl, hB2⟩
      · have HE := Lib.hid (show openN m ks = opn m ks ks.length ∧ openE m ks = 0 by constructor <;> simp [openN, openE, hn, HM.out, h2])
        clear hn
        go_wp2_with fail
        refine (opens_any A1 A2 c1 c2 m ks w2 hx2 hy2 hml1 hml2 hc h2).mono ?_
        rintro e w3 ⟨rfl, hb3⟩
        go_wp2
        go_ret2
        exact ⟨by rw [HE.out.1, HE.out.2]; rfl, hB2.trans (hb3.mono hB2.size)⟩
    · have d1 : decide ((200 : Int) < (ks.length : Int)) = true := decide_eq_true (by omega)
      have d2 : decide (200 < ks.length) = true := decide_eq_true (by omega)
      have HE := Lib.hid (show openN m ks = 0 ∧ openE m ks = 2 by constructor <;> simp [openN, openE, HM.out, h2])
      go_wp2
      go_ret2
      exact ⟨by rw [HE.out.1, HE.out.2]; rfl, hb1⟩
end Go.Proofs.Yteeppkhlnejfkaa

/-
  CONTRACT: press.
-/
import Derived.Test.YteeppkhlnejfkaaPzMelA
namespace Go.Proofs.Yteeppkhlnejfkaa
open Go.RowKit Go.Shelf
def lenOf : Value → Nat
  | .slice _ n _ => n
  | _ => 0
theorem prs_yes {m ks : List Int} (h : ks = m.take ks.length) : prs m ks = ks.length := by
  cases ks with
  | nil => rfl
  | cons k t => rw [prs, if_pos h]
theorem own_cap {w : World} {base : Nat} {u : Value} {x : List Int} (h : w.ownsRow base 3 1 u x.length (x.map I)) : ∃ (A : Option Addr) (c : Nat), u = .slice A x.length c ∧ IntsR w w.heap.size A x ∧ x.length ≤ maxLen ∧ x.length ≤ c := by
  obtain ⟨A, c, e, hi, hm⟩ := own_ints h
  refine ⟨A, c, e, hi, hm, ?_⟩
  rcases h.2 with ⟨h1, h0⟩ | ⟨g, cap, cur, h1, _, _, h2, _⟩
  · omega
  · rw [e] at h1
    injection h1 with _ _ h3
    omega

theorem sEq_tk (A1 A2 : Option Addr) (k1 k2 : Nat) (x m : List Int) (w : World) (hx : IntsR w w.heap.size A1 x) (hy : IntsR w w.heap.size A2 (m.take x.length)) (hl : (m.take x.length).length = x.length) (lx : x.length ≤ maxLen) :
    Calls Try.prog 148 #[.slice A1 x.length k1, .slice A2 x.length k2] w fun e w' => e = .returned (.bool (decide (x = m.take x.length))) ∧ Below w.heap.size w w' := by
  have h := sEq_any A1 A2 k1 k2 x (m.take x.length) w hx hy lx (by rw [hl]; exact lx)
  rw [hl] at h
  exact h
set_option maxRecDepth 100000 in
set_option maxHeartbeats 2000000 in
theorem press_any (A : Option Addr) (c : Nat) (m : List Int) (h : Nat) (key : Int) (w : World) (hx : IntsR w w.heap.size A m) (hl : m.length ≤ 16) (hc : m.length ≤ c) (hh : h < m.length) :
    Calls Try.prog 119 #[.slice A m.length c, I (h : Nat), I key] w fun e w' => e = .returned (I (prs m (m.take h ++ [key]) : Nat)) ∧ Below w.heap.size w w' := by
  obtain ⟨ad, rfl, hab, -⟩ := hx (by omega)
  have htl : (m.take h).length = h := by rw [List.length_take]; omega
  have hxt := ints_take hx h
  obtain ⟨i0, hi, hz0, hz1, hz2⟩ := info_parts info_int
  go_enter Try.func119, Try.ntmps119
  go_wp2_with fail
  refine (clone_n ad c h (m.take h) htl (by omega) w hxt 0).mono ?_
  rintro e w1 ⟨v, rfl, hown, hb1⟩
  rw [htl] at hown
  have HTL := Lib.hid htl
  have hrow := hown.lt
  clear htl hxt
  go_wp2_with (at_builtin; refine wpList_append_own _ rfl _ _ 29 rfl w.heap.size 3 i0 (.int .i64 0) 1 8 Try.underlying29 hi hz0 hz1 hz2 rfl (by decide) _ _ _ rfl (hown.alloc _) ⟨w1.heap.size, 0, none⟩ 1 1 [I key] rfl rfl ?c1 ?c2 ?c3 ?c4 ?c5 ?_)
  case c1 =>
    intro j u hj
    match j, hj with
    | 0, hj => simp at hj; subst hj; simp [Addr.add]
  case c2 => intro u hu; simp at hu; subst hu; rfl
  case c3 => unfold maxLen; omega
  case c4 => omega
  case c5 => exact Nat.le_trans hb1.size (by simp)
  intro v' w2 hown' hgrow _
  have hB2 : Below w.heap.size w w2 := (hb1.alloc hb1.size _).grown hgrow (by have := hb1.size; simp; omega) (fun j hj => (hrow j hj).1)
  obtain ⟨K, hK⟩ : ∃ K, K = m.take h ++ [key] := ⟨_, rfl⟩
  have hKl : K.length = h + 1 := by rw [hK, List.length_append, HTL.out]; rfl
  have hown2 : w2.ownsRow w.heap.size 3 1 v' K.length (K.map I) := by
    rw [hKl, hK, List.map_append, List.map_take]; exact hown'
  obtain ⟨A2, c2, rfl, hi2, hm2, hc2⟩ := own_cap hown2
  have HK := Lib.hid hK
  have HKL := Lib.hid hKl
  have hkm : K.length ≤ m.length := by omega
  clear hK hKl hown' hown2 hgrow hown hrow hb1
  go_wp2_with fail
  go_loopw [7] (fun s wr => ∃ (ks : List Int) (A' : Option Addr) (c' : Nat), s = .slice A' ks.length c' ∧ ks.length ≤ c' ∧ ks.length ≤ m.length ∧ IntsR wr wr.heap.size A' ks ∧ Hid (prs m K = prs m ks) ∧ Below w.heap.size w wr) (fun s _ => lenOf s)
  case atStart => exact ⟨K, A2, c2, rfl, hc2, hkm, hi2, Lib.hid rfl, hB2⟩
  case round =>
    obtain ⟨ks, A', c', rfl, hkc, hkl, hik, HP, hBr⟩ := hrel
    have hxm := (hx.below hBr (Nat.le_refl _)).more hBr.size
    have htk : (m.take ks.length).length = ks.length := by rw [List.length_take]; omega
    have hmt := ints_take hxm ks.length
    clear hi2 hc2 hm2 hkm hB2
    by_cases hq : ks = m.take ks.length
    · have HQ := Lib.hid (prs_yes hq)
      have hde : decide (ks = m.take ks.length) = true := decide_eq_true hq
      have HMT := Lib.hid htk
      clear hq htk
      go_wp2_with fail
      refine (sEq_tk A' (some ad) c' c ks m wr hik hmt HMT.out (by unfold maxLen; omega)).mono ?_
      rintro e w3 ⟨rfl, hb3⟩
      rw [hde]
      clear hde
      go_wp2
      go_ret
      exact ⟨ret_int (by rw [← HK.out, HP.out, HQ.out]), hBr.trans (hb3.mono hBr.size)⟩
    · have hde : decide (ks = m.take ks.length) = false := decide_eq_false hq
      obtain ⟨k0, t, rfl⟩ : ∃ k0 t, ks = k0 :: t := by
        cases ks with
        | nil => exact absurd (by simp) hq
        | cons a b => exact ⟨a, b, rfl⟩
      obtain ⟨ad', rfl, -, -⟩ := hik (by simp)
      have HQ := Lib.hid (show prs m (k0 :: t) = prs m t by rw [prs, if_neg hq])
      have HMT := Lib.hid htk
      have hit := ints_tail hik
      have hlen : (k0 :: t).length = t.length + 1 := rfl
      rw [hlen] at hkc hkl
      clear hq htk
      go_wp2_with fail
      refine (sEq_tk (some ad') (some ad) c' c (k0 :: t) m wr hik hmt HMT.out (by unfold maxLen; simp; omega)).mono ?_
      rintro e w3 ⟨rfl, hb3⟩
      rw [hde]
      have hit3 := ints_call hb3 hit
      have hB3 : Below w.heap.size w w3 := hBr.trans (hb3.mono hBr.size)
      clear hde hik hmt hb3 hit
      by_cases h1 : c' = 1
      · subst h1
        have ht0 : t = [] := List.eq_nil_of_length_eq_zero (by omega)
        subst ht0
        go_wp2
        go_roundw
        case rel => exact ⟨[], _, _, rfl, by simp, by simp, IntsR.nil, Lib.hid (by rw [HP.out, HQ.out]), hB3⟩
        case measure => simp [lenOf]
      · go_wp2
        go_roundw
        case rel => exact ⟨t, some (ad'.add 1), c' - 1, by first | rfl | simp, by omega, by omega, hit3, Lib.hid (by rw [HP.out, HQ.out]), hB3⟩
        case measure => simp [lenOf]

def pressB (m : List Int) (h key : Int) : Bool := melB m && wi h 0 ((m.length : Int) - 1) && wi key 0 9
def pressN (m : List Int) (h key : Int) : Int := if pressB m h key = true then (hrd m (m.take h.toNat ++ [key]) m.length : Nat) else 0
def pressE (m : List Int) (h key : Int) : Int := if pressB m h key = true then 0 else 1
theorem press_no {m : List Int} {h key : Int} (e : pressB m h key = false) : pressN m h key = 0 ∧ pressE m h key = 1 := by constructor <;> simp [pressN, pressE, e]
theorem press_yes {m : List Int} {h key : Int} (e : pressB m h key = true) : pressN m h key = (hrd m (m.take h.toNat ++ [key]) m.length : Nat) ∧ pressE m h key = 0 := by constructor <;> simp [pressN, pressE, e]
theorem wi_nat {h : Int} {n : Nat} (e : wi h 0 ((n : Int) - 1) = true) : ∃ k : Nat, h = k ∧ k < n := by
  simp only [wi, Bool.and_eq_true, decide_eq_true_eq] at e
  exact ⟨h.toNat, by omega, by omega⟩
set_option maxRecDepth 100000 in
set_option maxHeartbeats 2000000 in
theorem Press_any (A : Option Addr) (c : Nat) (m : List Int) (h key : Int) (w : World) (hx : IntsR w w.heap.size A m) (hl : m.length ≤ maxLen) (hc : m.length ≤ c) :
    Calls Try.prog 50 #[.slice A m.length c, I h, I key] w fun e w' => e = .returned (.tuple #[I (pressN m h key), I (pressE m h key)]) ∧ Below w.heap.size w w' := by
  have hl' := hl
  unfold maxLen at hl'
  go_enter Try.func50, Try.ntmps50
  go_wp2_with fail
  refine (isMelody_any A c m w hx hl).mono ?_
  rintro e w1 ⟨rfl, hb1⟩
  have hx1 := ints_call hb1 hx
  cases hm : melB m
  · have HE := Lib.hid (press_no (h := h) (key := key) (show pressB m h key = false by rw [pressB, hm]; rfl))
    clear hm
    go_wp2
    go_ret2
    exact ⟨by rw [HE.out.1, HE.out.2]; rfl, hb1⟩
  · have hml := mel_len hm
    have HM := Lib.hid hm
    have hml1 := hml.1
    have hml2 := hml.2
    have ew : IntKind.i64.wrap ((m.length : Int) - 1) = (m.length : Int) - 1 := (IntWalk.i64_left _).trans (IntWalk.wrap64_in _ ⟨by omega, by omega⟩)
    clear hm hml
    go_wp2_with fail
    refine (within_any _ _ _ _).mono ?_
    rintro e w' ⟨rfl, rfl⟩
    clear ew
    cases hw : wi h 0 ((m.length : Int) - 1)
    · have HE := Lib.hid (press_no (h := h) (key := key) (show pressB m h key = false by rw [pressB, hw, Bool.and_false]; rfl))
      clear hw
      go_wp2
      go_ret2
      exact ⟨by rw [HE.out.1, HE.out.2]; rfl, hb1⟩
    · have HW := Lib.hid hw
      obtain ⟨k, rfl, hk⟩ := wi_nat hw
      clear hw
      go_wp2_with fail
      refine (isNote_any _ _).mono ?_
      rintro e w' ⟨rfl, rfl⟩
      cases hn : wi key 0 9
      · have HE := Lib.hid (press_no (h := (k : Nat)) (key := key) (show pressB m k key = false by rw [pressB, hn, Bool.and_false]))
        clear hn
        go_wp2
        go_ret2
        exact ⟨by rw [HE.out.1, HE.out.2]; rfl, hb1⟩
      · have HE := Lib.hid (press_yes (h := (k : Nat)) (key := key) (show pressB m k key = true by rw [pressB, HM.out, HW.out, hn]; rfl))
        have HP := Lib.hid (prs_hrd (m := m) (ks := m.take k ++ [key]) (by simp; omega))
        clear hn
        go_wp2_with fail
        refine (press_any A c m k key w1 hx1 hml2 hc hk).mono ?_
        rintro e w2 ⟨rfl, hb2⟩
        go_wp2
        go_ret2
        exact ⟨by rw [HE.out.1, HE.out.2, Int.toNat_natCast, ← HP.out]; rfl, hb1.trans (hb2.mono hb1.size)⟩
end Go.Proofs.Yteeppkhlnejfkaa

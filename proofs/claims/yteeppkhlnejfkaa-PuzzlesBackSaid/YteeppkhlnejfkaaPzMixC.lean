/-
  CONTRACTS: checkText, puzzles.Shift and puzzles.Mix in all cases.
-/
import Derived.Test.YteeppkhlnejfkaaPzMixB
namespace Go.Proofs.Yteeppkhlnejfkaa
open Go.RowKit Go.Shelf
def txE (s : ByteArray) : Int := if decide (s.size ≤ 200) then 0 else 2
theorem checkText_any (s : ByteArray) (w : World) (hs : s.size ≤ maxLen) :
    Calls Try.prog 63 #[.string s] w fun e w' => e = .returned (I (txE s)) ∧ w' = w := by
  unfold maxLen at hs
  cases hq : decide (s.size ≤ 200)
  · have H := Lib.hid (show txE s = 2 by rw [txE, hq]; rfl)
    have h1 : ¬ s.size ≤ 200 := by simpa using hq
    have g1 : decide ((s.size : Int) ≤ 200) = false := decide_eq_false (by omega)
    have h2 : ¬ (s.size : Int) ≤ 200 := by omega
    go_enter Try.func63, Try.ntmps63
    go_wp2_with (go_at_call 64; refine (unless_any _ _ _).mono ?_; rintro e w' ⟨rfl, rfl⟩)
    go_ret
    exact ⟨ret_int H.out.symm, rfl⟩
  · have H := Lib.hid (show txE s = 0 by rw [txE, hq]; rfl)
    have h1 : s.size ≤ 200 := by simpa using hq
    have g1 : decide ((s.size : Int) ≤ 200) = true := decide_eq_true (by omega)
    go_enter Try.func63, Try.ntmps63
    go_wp2_with (go_at_call 64; refine (unless_any _ _ _).mono ?_; rintro e w' ⟨rfl, rfl⟩)
    go_ret
    exact ⟨ret_int H.out.symm, rfl⟩
/-- the error of Shift -/
def shE (s : ByteArray) (n : Int) : Int := fstErr [txE s, if wi n (-100) 100 then 0 else 1]
def shV (s : ByteArray) (n : Int) : ByteArray := if shE s n = 0 then ⟨(shS n s).toArray⟩ else ⟨#[]⟩
theorem txE_cases (s : ByteArray) : txE s = 0 ∧ s.size ≤ 200 ∨ txE s = 2 ∧ ¬ s.size ≤ 200 := by
  by_cases h : s.size ≤ 200
  · exact .inl ⟨by simp [txE, h], h⟩
  · exact .inr ⟨by simp [txE, h], h⟩
theorem fst2 (a b : Int) : fstErr [a, b] = if a = 0 then (if b = 0 then 0 else b) else a := rfl
theorem shE_ok {s : ByteArray} {n : Int} (h : shE s n = 0) : s.size ≤ 200 ∧ wi n (-100) 100 = true := by
  rw [shE, fst2] at h
  rcases txE_cases s with ⟨h1, h2⟩ | ⟨h1, h2⟩
  · refine ⟨h2, ?_⟩
    rw [h1, if_pos rfl] at h
    cases hq : wi n (-100) 100
    · rw [hq] at h; exact absurd h (by decide)
    · rfl
  · rw [h1, if_neg (by decide)] at h; exact absurd h (by decide)


set_option maxHeartbeats 400000 in
theorem pShift_any (n : Int) (s : ByteArray) (w : World) (hs : s.size ≤ maxLen) :
    Calls Try.prog 19 #[.string s, I n] w fun e w' => e = .returned (.tuple #[.string (shV s n), I (shE s n)]) ∧ Below w.heap.size w w' := by
  obtain ⟨q, hq⟩ : ∃ q : Int, q = if wi n (-100) 100 then 0 else 1 := ⟨_, rfl⟩
  have HE := Lib.hid (show fstErr [txE s, q] = shE s n by rw [hq]; rfl)
  have HQ := Lib.hid hq
  clear hq
  have hcall := checkText_any s w hs
  obtain ⟨t, ht⟩ : ∃ t, t = txE s := ⟨_, rfl⟩
  rw [← ht] at hcall HE
  clear ht
  have hb1 : Below w.heap.size w (w.alloc (.cells ((([t, q] : List Int).map I).toArray) 25)) := (Below.refl _ _).alloc (Nat.le_refl _) _
  have HX := Lib.hid (fun h => @shE_ok s n h)
  obtain ⟨r, hr⟩ : ∃ r, r = shE s n := ⟨_, rfl⟩
  rw [← hr] at HE HX
  have HV := Lib.hid (show shV s n = if r = 0 then ⟨(shS n s).toArray⟩ else ⟨#[]⟩ by rw [hr]; rfl)
  rw [← hr]
  clear hr
  go_enter Try.func19, Try.ntmps19
  go_wp2_with (first
    | (go_at_call 63; refine hcall.mono ?_; rintro e w2 ⟨rfl, rfl⟩)
    | (go_at_call 65; refine (within_any _ _ _ _).mono ?_; rintro e w' ⟨rfl, rfl⟩)
    | (go_at_call 64; refine (unless_any _ _ _).mono ?_; rintro e w3 ⟨rfl, rfl⟩; rw [← HQ.out]; clear hcall)
    | (go_at_call 62; go_must (refine (first_any _ _ [t, q] _ ?_ ?_).mono ?_); go_must (exact ints_new _ [t, q] _); go_must (simp [maxLen]); rintro e w4 ⟨rfl, rfl⟩; rw [HE.out]; clear HE; by_cases hr0 : r = 0)
    | fail)
  · have hx := HX.out hr0
    have hx1 := hx.1
    have hw : -100 ≤ n ∧ n ≤ 100 := by simpa [wi] using hx.2
    have HV2 := Lib.hid (show shV s n = ⟨(shS n s).toArray⟩ by rw [HV.out, if_pos hr0])
    subst hr0
    clear HX HV hx
    go_wp2_with fail
    refine (shift_any n s _ hx1 hw.1 hw.2).mono ?_
    rintro e w5 ⟨rfl, hb⟩
    go_wp2
    go_ret2
    exact ⟨by rw [HV2.out]; rfl, hb1.trans (hb.mono (by simp))⟩
  · have HV2 := Lib.hid (show shV s n = ⟨#[]⟩ by rw [HV.out, if_neg hr0])
    have hr1 : (r != 0) = true := by simpa using hr0
    clear HX HV
    go_wp2_with fail
    go_ret2
    exact ⟨by rw [HV2.out]; rfl, hb1⟩
/-- the error of Mix -/
def mxE (s key : ByteArray) : Int := fstErr [txE s, if isKeyB key then 0 else 1]
def mxV (s key : ByteArray) (back : Bool) : ByteArray := if mxE s key = 0 then mixS key back s else ⟨#[]⟩
theorem mxE_ok {s key : ByteArray} (h : mxE s key = 0) : s.size ≤ 200 ∧ isKeyB key = true := by
  rw [mxE, fst2] at h
  rcases txE_cases s with ⟨h1, h2⟩ | ⟨h1, h2⟩
  · refine ⟨h2, ?_⟩
    rw [h1, if_pos rfl] at h
    cases hq : isKeyB key
    · rw [hq] at h; exact absurd h (by decide)
    · rfl
  · rw [h1, if_neg (by decide)] at h; exact absurd h (by decide)

set_option maxHeartbeats 400000 in
theorem pMix_any (s key : ByteArray) (back : Bool) (w : World) (hs : s.size ≤ maxLen) (hk : key.size ≤ maxLen) :
    Calls Try.prog 21 #[.string s, .string key, .bool back] w fun e w' => e = .returned (.tuple #[.string (mxV s key back), I (mxE s key)]) ∧ Below w.heap.size w w' := by
  obtain ⟨q, hq⟩ : ∃ q : Int, q = if isKeyB key then 0 else 1 := ⟨_, rfl⟩
  have HE := Lib.hid (show fstErr [txE s, q] = mxE s key by rw [hq]; rfl)
  have HQ := Lib.hid hq
  clear hq
  have hcall := checkText_any s w hs
  obtain ⟨t, ht⟩ : ∃ t, t = txE s := ⟨_, rfl⟩
  rw [← ht] at hcall HE
  clear ht
  have hb1 : Below w.heap.size w (w.alloc (.cells ((([t, q] : List Int).map I).toArray) 25)) := (Below.refl _ _).alloc (Nat.le_refl _) _
  have HX := Lib.hid (fun h => @mxE_ok s key h)
  obtain ⟨r, hr⟩ : ∃ r, r = mxE s key := ⟨_, rfl⟩
  rw [← hr] at HE HX
  have HV := Lib.hid (show mxV s key back = if r = 0 then mixS key back s else ⟨#[]⟩ by rw [hr]; rfl)
  rw [← hr]
  clear hr
  go_enter Try.func21, Try.ntmps21
  go_wp2_with (first
    | (go_at_call 63; refine hcall.mono ?_; rintro e w2 ⟨rfl, rfl⟩)
    | (go_at_call 69; refine (isKey_any key _ hk).mono ?_; rintro e w' ⟨rfl, rfl⟩)
    | (go_at_call 64; refine (unless_any _ _ _).mono ?_; rintro e w3 ⟨rfl, rfl⟩; rw [← HQ.out]; clear hcall)
    | (go_at_call 62; go_must (refine (first_any _ _ [t, q] _ ?_ ?_).mono ?_); go_must (exact ints_new _ [t, q] _); go_must (simp [maxLen]); rintro e w4 ⟨rfl, rfl⟩; rw [HE.out]; clear HE; by_cases hr0 : r = 0)
    | fail)
  · have hx := HX.out hr0
    have hx1 := hx.1
    have hx2 := hx.2
    have HV2 := Lib.hid (show mxV s key back = mixS key back s by rw [HV.out, if_pos hr0])
    subst hr0
    clear HX HV hx
    go_wp2_with fail
    refine (mix_any key back s _ hx1 hx2).mono ?_
    rintro e w5 ⟨rfl, hb⟩
    go_wp2
    go_ret2
    exact ⟨by rw [HV2.out]; rfl, hb1.trans (hb.mono (by simp))⟩
  · have HV2 := Lib.hid (show mxV s key back = ⟨#[]⟩ by rw [HV.out, if_neg hr0])
    have hr1 : (r != 0) = true := by simpa using hr0
    clear HX HV
    go_wp2_with fail
    go_ret2
    exact ⟨by rw [HV2.out]; rfl, hb1⟩
end Go.Proofs.Yteeppkhlnejfkaa

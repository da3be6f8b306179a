/-
  CONTRACTS: isRight, the gallery's check, CheckPortraits. (Written by gen/por4_make.py.)
-/
import Derived.Test.YtglkjiimmlobbaaPzPor3
import Derived.Deep.RegionHeld3
namespace Go.Proofs.Ytglkjiimmlobbaa
open Go.RowKit Go.Shelf
set_option maxHeartbeats 2000000 in
theorem right1_any (p : Por) (A : Option Addr) (c g : Nat) (h : List Int) (w : World) (hx : IntsR w w.heap.size A h) (hl : h.length ≤ 1000) (hg : g < w.heap.size) (hc : w.cell? ⟨g, 0, none⟩ = some (.slice A h.length c)) :
    Calls Try.prog 161 #[porV p, .pointer (some ⟨g, 0, none⟩)] w fun e w' => e = .returned (.bool (sayB p h == p.neg)) ∧ Below w.heap.size w w' := by
  obtain ⟨kd, a, b, n, neg⟩ := p
  obtain ⟨w1, hw1, hs1, y0, hb1⟩ := one_box w (.cells #[I kd, I a, I b, I n, .bool neg] 71)
  have b0 : w1.cell? ⟨w.heap.size, 0, none⟩ = some (I kd) := cell_of_row w1 _ 0 _ _ _ y0
  have b1 : w1.cell? ⟨w.heap.size, 1, none⟩ = some (I a) := cell_of_row w1 _ 1 _ _ _ y0
  have b2 : w1.cell? ⟨w.heap.size, 2, none⟩ = some (I b) := cell_of_row w1 _ 2 _ _ _ y0
  have b3 : w1.cell? ⟨w.heap.size, 3, none⟩ = some (I n) := cell_of_row w1 _ 3 _ _ _ y0
  have b4 : w1.cell? ⟨w.heap.size, 4, none⟩ = some (.bool neg) := cell_of_row w1 _ 4 _ _ _ y0
  have hc1 : w1.cell? ⟨g, 0, none⟩ = some (.slice A h.length c) := (hb1.cell (p := ⟨g, 0, none⟩) hg).trans hc
  have hx1 := ints_call hb1 hx
  have s0 : w.heap.size < w1.heap.size := by omega
  have s1 : g < w1.heap.size := by omega
  obtain ⟨R, hR⟩ : ∃ R, R = sayB ⟨kd, a, b, n, neg⟩ h := ⟨_, rfl⟩
  have C1 : ∀ V, IntsR V V.heap.size A h → Calls Try.prog 162 #[.agg #[I kd, I a, I b, I n, .bool neg], .slice A h.length c] V fun e w' => e = .returned (.bool R) ∧ Below V.heap.size V w' := fun V hV => by rw [hR]; exact says_any ⟨kd, a, b, n, neg⟩ A c h V hV hl
  rw [← hR]
  have HR := Lib.hid hR
  clear y0 hs1 hx hc hR
  go_enter Try.func161, Try.ntmps161
  go_upto_region 1 with fail
  rw [← hw1]
  clear hw1
  go_region_held3 (fun w' => Below w1.heap.size w1 w' ∧ (∀ b o, b < w1.heap.size → w'.cell? ⟨b, o, none⟩ = w1.cell? ⟨b, o, none⟩))
    (first | exact keptS_drew _ | exact keptS_call (by assumption) hb | exact keptS_alloc (by assumption) _ | assumption)
    ((go_at_call 162; go_must (refine (C1 _ ?_).mono ?_); go_must (exact kept_ints (by assumption) hx1); rintro e w' ⟨rfl, hb⟩))
  all_goals
    go_wp2_with fail
    go_ret
    exact ⟨rfl, hb1.trans (Below.mono (And.left (by assumption : KeptS w1 _)) (by omega))⟩

set_option maxHeartbeats 2000000 in
theorem idxf_non (n M : Int) (A3 : Option Addr) (ln c3 : Nat) (A : Option Addr) (c : Nat) (ps : List Por) (w : World) (hp : PorR w w.heap.size A ps) (hpl : ps.length ≤ maxLen) (hM : Hid (wrap64 (n - 1) = M)) :
    Calls Try.prog 159 #[.slice A ps.length c, .func (.func 144) #[galV n A3 ln c3] #[]] w fun e w' => ∃ r : Int, e = .returned (I r) ∧ decide (0 ≤ r) = ps.any (fun p => !porM M n p) ∧ Below w.heap.size w w' := by
  have hpl' := hpl
  unfold maxLen at hpl'
  go_enter Try.func159, Try.ntmps159
  go_wp2_with fail
  go_loopw [8] (fun i wr => ∃ k : Nat, k ≤ ps.length ∧ i = .int .i64 k ∧ Hid ((ps.take k).all (fun p => !(!porM M n p)) = true) ∧ Below w.heap.size w wr) (fun i _ => ps.length - (intOf i).toNat)
  case atStart => exact ⟨0, Nat.zero_le _, rfl, Lib.hid rfl, Below.refl _ _⟩
  case round =>
    obtain ⟨k, hk, rfl, HA, hB⟩ := hrel
    by_cases hlt : k < ps.length
    · obtain ⟨gb, go, rfl, hb, d0, d1, d2, d3, d4⟩ := (por_call hB hp).at_ hlt
      obtain ⟨p, hpe⟩ : ∃ p, p = ps[k] := ⟨_, rfl⟩
      rw [← hpe] at d0 d1 d2 d3 d4
      have _u := hM
      have hcall := nonsense_any n M p A3 ln c3 hM wr
      have HPE := Lib.hid hpe
      clear hpe
      cases hq : (!porM M n p)
      · rw [hq] at hcall
        have HN := Lib.hid (all_take_snocL (fun p => !(!porM M n p)) ps k hlt HA.out (by rw [← HPE.out, hq]; rfl))
        clear hq HA
        go_wp2_with fail
        refine hcall.mono ?_
        rintro e w2 ⟨rfl, hb2⟩
        clear hcall
        go_wp2
        go_roundw
        case rel => exact ⟨k + 1, by omega, by go_num, HN, hB.trans (hb2.mono hB.size)⟩
        case measure => simp [intOf]; omega
      · rw [hq] at hcall
        have HN := Lib.hid (show ps.any (fun p => !porM M n p) = true by
          rw [List.any_eq_true]
          exact ⟨ps[k], List.getElem_mem hlt, by rw [← HPE.out]; exact hq⟩)
        clear hq HA
        go_wp2_with fail
        refine hcall.mono ?_
        rintro e w2 ⟨rfl, hb2⟩
        clear hcall
        go_wp2
        go_ret
        exact ⟨_, rfl, by rw [HN.out]; exact decide_eq_true (by omega), hB.trans (hb2.mono hB.size)⟩
    · obtain rfl : k = ps.length := by omega
      have HN := Lib.hid (show ps.any (fun p => !porM M n p) = false by
        have h := HA.out
        rw [List.take_length, List.all_eq_true] at h
        rw [List.any_eq_false]
        intro x hx
        have := h x hx
        simpa using this)
      go_wp2
      go_ret
      exact ⟨_, rfl, by rw [HN.out]; rfl, hB⟩
set_option maxHeartbeats 1000000 in
theorem hasf_non (n M : Int) (A3 : Option Addr) (ln c3 : Nat) (A : Option Addr) (c : Nat) (ps : List Por) (w : World) (hp : PorR w w.heap.size A ps) (hpl : ps.length ≤ maxLen) (hM : Hid (wrap64 (n - 1) = M)) :
    Calls Try.prog 143 #[.slice A ps.length c, .func (.func 144) #[galV n A3 ln c3] #[]] w fun e w' => e = .returned (.bool (ps.any (fun p => !porM M n p))) ∧ Below w.heap.size w w' := by
  go_enter Try.func143, Try.ntmps143
  go_wp2_with fail
  refine (idxf_non n M A3 ln c3 A c ps w hp hpl hM).mono ?_
  rintro e w2 ⟨r, rfl, hr, hb⟩
  have HR := Lib.hid hr
  clear hr
  go_wp2
  go_ret
  exact ⟨ret_bool HR.out, hb⟩

set_option maxHeartbeats 2000000 in
theorem idxf_say (A2 : Option Addr) (c2 g : Nat) (h : List Int) (A : Option Addr) (c : Nat) (ps : List Por) (w : World) (hp : PorR w w.heap.size A ps) (hpl : ps.length ≤ maxLen) (hx : IntsR w w.heap.size A2 h) (hl : h.length ≤ 1000) (hg : g < w.heap.size) (hc : w.cell? ⟨g, 0, none⟩ = some (.slice A2 h.length c2)) :
    Calls Try.prog 159 #[.slice A ps.length c, .func (.func 161) #[] #[.pointer (some ⟨g, 0, none⟩)]] w fun e w' => ∃ r : Int, e = .returned (I r) ∧ decide (0 ≤ r) = ps.any (fun p => sayB p h == p.neg) ∧ Below w.heap.size w w' := by
  have hpl' := hpl
  unfold maxLen at hpl'
  go_enter Try.func159, Try.ntmps159
  go_wp2_with fail
  go_loopw [8] (fun i wr => ∃ k : Nat, k ≤ ps.length ∧ i = .int .i64 k ∧ Hid ((ps.take k).all (fun p => !(sayB p h == p.neg)) = true) ∧ Below w.heap.size w wr) (fun i _ => ps.length - (intOf i).toNat)
  case atStart => exact ⟨0, Nat.zero_le _, rfl, Lib.hid rfl, Below.refl _ _⟩
  case round =>
    obtain ⟨k, hk, rfl, HA, hB⟩ := hrel
    by_cases hlt : k < ps.length
    · obtain ⟨gb, go, rfl, hb, d0, d1, d2, d3, d4⟩ := (por_call hB hp).at_ hlt
      obtain ⟨p, hpe⟩ : ∃ p, p = ps[k] := ⟨_, rfl⟩
      rw [← hpe] at d0 d1 d2 d3 d4
      have _u := hl
      have hcall := right1_any p A2 c2 g h wr (ints_call hB hx) hl (by have := hB.size; omega) ((hB.cell (p := ⟨g, 0, none⟩) hg).trans hc)
      have HPE := Lib.hid hpe
      clear hpe
      cases hq : (sayB p h == p.neg)
      · rw [hq] at hcall
        have HN := Lib.hid (all_take_snocL (fun p => !(sayB p h == p.neg)) ps k hlt HA.out (by rw [← HPE.out, hq]; rfl))
        clear hq HA
        go_wp2_with fail
        refine hcall.mono ?_
        rintro e w2 ⟨rfl, hb2⟩
        clear hcall
        go_wp2
        go_roundw
        case rel => exact ⟨k + 1, by omega, by go_num, HN, hB.trans (hb2.mono hB.size)⟩
        case measure => simp [intOf]; omega
      · rw [hq] at hcall
        have HN := Lib.hid (show ps.any (fun p => sayB p h == p.neg) = true by
          rw [List.any_eq_true]
          exact ⟨ps[k], List.getElem_mem hlt, by rw [← HPE.out]; exact hq⟩)
        clear hq HA
        go_wp2_with fail
        refine hcall.mono ?_
        rintro e w2 ⟨rfl, hb2⟩
        clear hcall
        go_wp2
        go_ret
        exact ⟨_, rfl, by rw [HN.out]; exact decide_eq_true (by omega), hB.trans (hb2.mono hB.size)⟩
    · obtain rfl : k = ps.length := by omega
      have HN := Lib.hid (show ps.any (fun p => sayB p h == p.neg) = false by
        have h := HA.out
        rw [List.take_length, List.all_eq_true] at h
        rw [List.any_eq_false]
        intro x hx
        have := h x hx
        simpa using this)
      go_wp2
      go_ret
      exact ⟨_, rfl, by rw [HN.out]; rfl, hB⟩
set_option maxHeartbeats 1000000 in
theorem hasf_say (A2 : Option Addr) (c2 g : Nat) (h : List Int) (A : Option Addr) (c : Nat) (ps : List Por) (w : World) (hp : PorR w w.heap.size A ps) (hpl : ps.length ≤ maxLen) (hx : IntsR w w.heap.size A2 h) (hl : h.length ≤ 1000) (hg : g < w.heap.size) (hc : w.cell? ⟨g, 0, none⟩ = some (.slice A2 h.length c2)) :
    Calls Try.prog 143 #[.slice A ps.length c, .func (.func 161) #[] #[.pointer (some ⟨g, 0, none⟩)]] w fun e w' => e = .returned (.bool (ps.any (fun p => sayB p h == p.neg))) ∧ Below w.heap.size w w' := by
  go_enter Try.func143, Try.ntmps143
  go_wp2_with fail
  refine (idxf_say A2 c2 g h A c ps w hp hpl hx hl hg hc).mono ?_
  rintro e w2 ⟨r, rfl, hr, hb⟩
  have HR := Lib.hid hr
  clear hr
  go_wp2
  go_ret
  exact ⟨ret_bool HR.out, hb⟩

/-- all sentences hold -/
def allT' (ps : List Por) (h : List Int) : Bool := ps.all (fun p => truB p h)
theorem any_not (ps : List Por) (h : List Int) : (!ps.any (fun p => sayB p h == p.neg)) = allT' ps h := by
  rw [allT']
  induction ps with
  | nil => rfl
  | cons p r ih => simp only [List.any_cons, List.all_cons, Bool.not_or, ih]; rfl
set_option maxHeartbeats 1000000 in
theorem isRight_any (n : Int) (A A2 : Option Addr) (c c2 : Nat) (ps : List Por) (h : List Int) (w : World) (hp : PorR w w.heap.size A ps) (hpl : ps.length ≤ maxLen) (hx : IntsR w w.heap.size A2 h) (hl : h.length ≤ 1000) :
    Calls Try.prog 146 #[galV n A ps.length c, .slice A2 h.length c2] w fun e w' => e = .returned (.bool (allT' ps h)) ∧ Below w.heap.size w w' := by
  obtain ⟨wa, ha, sa, ya, ba⟩ := one_box w (.cells #[I n, .slice A ps.length c] 127)
  obtain ⟨w1, hw1, s1, y1, hb1⟩ := one_box wa (.cells #[.slice A2 h.length c2] 29)
  rw [sa] at y1
  rw [ha] at hw1
  have yg := (hb1.block _ (by omega)).trans ya
  have hB1 : Below w.heap.size w w1 := ba.trans (hb1.mono (by omega))
  have g1 : w1.cell? ⟨w.heap.size, 1, none⟩ = some (.slice A ps.length c) := cell_of_row w1 _ 1 _ _ _ yg
  have hcall := hasf_say A2 c2 (w.heap.size + 1) h A c ps w1 (por_call hB1 hp) hpl (ints_call hB1 hx) hl (by omega) (cell_of_row w1 _ 0 _ _ _ y1)
  have HE := Lib.hid (any_not ps h)
  obtain ⟨q, hq⟩ : ∃ q, q = ps.any (fun p => sayB p h == p.neg) := ⟨_, rfl⟩
  rw [← hq] at hcall HE
  clear ha sa ya ba s1 y1 hb1 hp hx yg hq
  go_enter Try.func146, Try.ntmps146
  go_upto_region 1 with fail
  rw [← hw1]
  clear hw1
  go_wp2_with fail
  refine hcall.mono ?_
  rintro e w2 ⟨rfl, hb2⟩
  go_wp2
  go_ret
  exact ⟨ret_bool HE.out, hB1.trans (hb2.mono hB1.size)⟩
end Go.Proofs.Ytglkjiimmlobbaa

/-
  CONTRACT: inRange.
-/
import Derived.Test.YthegmomjfbcabaaDoorClue
namespace Go.Proofs.YthegmomjfbcabaaDoor
open Go.RowKit
def rangeB (W S : Int) (c : Cl) : Bool :=
  if c.kind = 1 then wi c.a 0 (wrap64 (W - 1)) && wi c.n 0 (wrap64 (S - 1))
  else if c.kind = 2 then wi c.a 0 (wrap64 (W - 1)) && wi c.b 0 (wrap64 (W - 1)) && decide (c.a ≤ c.b) && wi c.n 0 100
  else if c.kind = 3 ∨ c.kind = 4 then wi c.a 0 (wrap64 (W - 1)) && wi c.b 0 (wrap64 (W - 1)) && (c.a != c.b)
  else if c.kind = 5 then wi c.n 0 (wrap64 (S - 1)) && wi c.m 0 W
  else if c.kind = 6 then codeB W S c.guess && wi c.n 0 W && wi c.m 0 W
  else if c.kind = 7 then wi c.a 0 (wrap64 (W - 1)) && wi c.n 2 10 && wi c.m 0 (wrap64 (c.n - 1))
  else false
theorem bcell {W w1 : World} (hb : Below W.heap.size W w1) : (∀ b o, b < W.heap.size → w1.cell? ⟨b, o, none⟩ = W.cell? ⟨b, o, none⟩) :=
  fun b o h => hb.cell (p := ⟨b, o, none⟩) h
theorem two_boxes (w : World) (a b : Obj) : Below w.heap.size w ((w.alloc a).alloc b) := ((Below.refl _ _).alloc (Nat.le_refl _) _).alloc (by simp) _

set_option maxRecDepth 100000 in
set_option maxHeartbeats 1000000 in
theorem inRange_1 (W S a b n m : Int) (g : List Int) (ng : Bool) (A : Option Addr) (cap : Nat) (w : World) :
    Calls Tryd.prog 104 #[lockV W S, clV ⟨1, a, b, n, m, g, ng⟩ A cap] w fun e w' => e = .returned (.bool (rangeB W S ⟨1, a, b, n, m, g, ng⟩)) ∧ Below w.heap.size w w' := by
  have HR := Lib.hid (show rangeB W S ⟨1, a, b, n, m, g, ng⟩ = (wi a 0 (wrap64 (W - 1)) && wi n 0 (wrap64 (S - 1))) from rfl)
  have hbw := two_boxes w (.cells #[.int .i64 W, .int .i64 S] 78) (.cells (clArr ⟨1, a, b, n, m, g, ng⟩ A cap) 26)
  simp only [clArr] at hbw
  cases h1 : wi a 0 (wrap64 (W - 1))
  · go_enter Tryd.func104, Tryd.ntmps104
    go_wp2_with (first | (go_at_call 124; refine (hasWheel_any _ _ _ _).mono ?_; rintro e w' ⟨rfl, hb⟩; replace hbw := hbw.trans (hb.mono hbw.size); have hz : w.heap.size + 1 < w'.heap.size := (by have := hb.size; (try simp at this); omega); have hc := bcell hb) | (go_at_call 125; refine (hasSymbol_any _ _ _ _).mono ?_; rintro e w' ⟨rfl, hb⟩; replace hbw := hbw.trans (hb.mono hbw.size); have hz : w.heap.size + 1 < w'.heap.size := (by have := hb.size; (try simp at this); omega); have hc := bcell hb) | (go_at_call 78; refine (within_any _ _ _ _).mono ?_; rintro e w' ⟨rfl, rfl⟩) | (go_at_call 105; refine (hasCode_any _ _ _ _ _ _ (ints_call (two_boxes w _ _) hg) hgl).mono ?_; rintro e w' ⟨rfl, hb⟩; replace hbw := hbw.trans (hb.mono hbw.size); have hz : w.heap.size + 1 < w'.heap.size := (by have := hb.size; (try simp at this); omega); have hc := bcell hb))
    go_ret
    exact ⟨ret_bool (by rw [HR.out, h1]; rfl), hbw⟩
  · cases h2 : wi n 0 (wrap64 (S - 1))
    · go_enter Tryd.func104, Tryd.ntmps104
      go_wp2_with (first | (go_at_call 124; refine (hasWheel_any _ _ _ _).mono ?_; rintro e w' ⟨rfl, hb⟩; replace hbw := hbw.trans (hb.mono hbw.size); have hz : w.heap.size + 1 < w'.heap.size := (by have := hb.size; (try simp at this); omega); have hc := bcell hb) | (go_at_call 125; refine (hasSymbol_any _ _ _ _).mono ?_; rintro e w' ⟨rfl, hb⟩; replace hbw := hbw.trans (hb.mono hbw.size); have hz : w.heap.size + 1 < w'.heap.size := (by have := hb.size; (try simp at this); omega); have hc := bcell hb) | (go_at_call 78; refine (within_any _ _ _ _).mono ?_; rintro e w' ⟨rfl, rfl⟩) | (go_at_call 105; refine (hasCode_any _ _ _ _ _ _ (ints_call (two_boxes w _ _) hg) hgl).mono ?_; rintro e w' ⟨rfl, hb⟩; replace hbw := hbw.trans (hb.mono hbw.size); have hz : w.heap.size + 1 < w'.heap.size := (by have := hb.size; (try simp at this); omega); have hc := bcell hb))
      go_ret
      exact ⟨ret_bool (by rw [HR.out, h1, h2]; rfl), hbw⟩
    · go_enter Tryd.func104, Tryd.ntmps104
      go_wp2_with (first | (go_at_call 124; refine (hasWheel_any _ _ _ _).mono ?_; rintro e w' ⟨rfl, hb⟩; replace hbw := hbw.trans (hb.mono hbw.size); have hz : w.heap.size + 1 < w'.heap.size := (by have := hb.size; (try simp at this); omega); have hc := bcell hb) | (go_at_call 125; refine (hasSymbol_any _ _ _ _).mono ?_; rintro e w' ⟨rfl, hb⟩; replace hbw := hbw.trans (hb.mono hbw.size); have hz : w.heap.size + 1 < w'.heap.size := (by have := hb.size; (try simp at this); omega); have hc := bcell hb) | (go_at_call 78; refine (within_any _ _ _ _).mono ?_; rintro e w' ⟨rfl, rfl⟩) | (go_at_call 105; refine (hasCode_any _ _ _ _ _ _ (ints_call (two_boxes w _ _) hg) hgl).mono ?_; rintro e w' ⟨rfl, hb⟩; replace hbw := hbw.trans (hb.mono hbw.size); have hz : w.heap.size + 1 < w'.heap.size := (by have := hb.size; (try simp at this); omega); have hc := bcell hb))
      go_ret
      exact ⟨ret_bool (by rw [HR.out, h1, h2]; rfl), hbw⟩

set_option maxRecDepth 100000 in
set_option maxHeartbeats 1000000 in
theorem inRange_2 (W S a b n m : Int) (g : List Int) (ng : Bool) (A : Option Addr) (cap : Nat) (w : World) :
    Calls Tryd.prog 104 #[lockV W S, clV ⟨2, a, b, n, m, g, ng⟩ A cap] w fun e w' => e = .returned (.bool (rangeB W S ⟨2, a, b, n, m, g, ng⟩)) ∧ Below w.heap.size w w' := by
  have HR := Lib.hid (show rangeB W S ⟨2, a, b, n, m, g, ng⟩ = (wi a 0 (wrap64 (W - 1)) && wi b 0 (wrap64 (W - 1)) && decide (a ≤ b) && wi n 0 100) from rfl)
  have hbw := two_boxes w (.cells #[.int .i64 W, .int .i64 S] 78) (.cells (clArr ⟨2, a, b, n, m, g, ng⟩ A cap) 26)
  simp only [clArr] at hbw
  cases h1 : wi a 0 (wrap64 (W - 1))
  · go_enter Tryd.func104, Tryd.ntmps104
    go_wp2_with (first | (go_at_call 124; refine (hasWheel_any _ _ _ _).mono ?_; rintro e w' ⟨rfl, hb⟩; replace hbw := hbw.trans (hb.mono hbw.size); have hz : w.heap.size + 1 < w'.heap.size := (by have := hb.size; (try simp at this); omega); have hc := bcell hb) | (go_at_call 125; refine (hasSymbol_any _ _ _ _).mono ?_; rintro e w' ⟨rfl, hb⟩; replace hbw := hbw.trans (hb.mono hbw.size); have hz : w.heap.size + 1 < w'.heap.size := (by have := hb.size; (try simp at this); omega); have hc := bcell hb) | (go_at_call 78; refine (within_any _ _ _ _).mono ?_; rintro e w' ⟨rfl, rfl⟩) | (go_at_call 105; refine (hasCode_any _ _ _ _ _ _ (ints_call (two_boxes w _ _) hg) hgl).mono ?_; rintro e w' ⟨rfl, hb⟩; replace hbw := hbw.trans (hb.mono hbw.size); have hz : w.heap.size + 1 < w'.heap.size := (by have := hb.size; (try simp at this); omega); have hc := bcell hb))
    go_ret
    exact ⟨ret_bool (by rw [HR.out, h1]; rfl), hbw⟩
  · cases h2 : wi b 0 (wrap64 (W - 1))
    · go_enter Tryd.func104, Tryd.ntmps104
      go_wp2_with (first | (go_at_call 124; refine (hasWheel_any _ _ _ _).mono ?_; rintro e w' ⟨rfl, hb⟩; replace hbw := hbw.trans (hb.mono hbw.size); have hz : w.heap.size + 1 < w'.heap.size := (by have := hb.size; (try simp at this); omega); have hc := bcell hb) | (go_at_call 125; refine (hasSymbol_any _ _ _ _).mono ?_; rintro e w' ⟨rfl, hb⟩; replace hbw := hbw.trans (hb.mono hbw.size); have hz : w.heap.size + 1 < w'.heap.size := (by have := hb.size; (try simp at this); omega); have hc := bcell hb) | (go_at_call 78; refine (within_any _ _ _ _).mono ?_; rintro e w' ⟨rfl, rfl⟩) | (go_at_call 105; refine (hasCode_any _ _ _ _ _ _ (ints_call (two_boxes w _ _) hg) hgl).mono ?_; rintro e w' ⟨rfl, hb⟩; replace hbw := hbw.trans (hb.mono hbw.size); have hz : w.heap.size + 1 < w'.heap.size := (by have := hb.size; (try simp at this); omega); have hc := bcell hb))
      go_ret
      exact ⟨ret_bool (by rw [HR.out, h1, h2]; rfl), hbw⟩
    · cases h3 : decide (a ≤ b)
      · have hab : ¬ a ≤ b := by simpa using h3
        go_enter Tryd.func104, Tryd.ntmps104
        go_wp2_with (first | (go_at_call 124; refine (hasWheel_any _ _ _ _).mono ?_; rintro e w' ⟨rfl, hb⟩; replace hbw := hbw.trans (hb.mono hbw.size); have hz : w.heap.size + 1 < w'.heap.size := (by have := hb.size; (try simp at this); omega); have hc := bcell hb) | (go_at_call 125; refine (hasSymbol_any _ _ _ _).mono ?_; rintro e w' ⟨rfl, hb⟩; replace hbw := hbw.trans (hb.mono hbw.size); have hz : w.heap.size + 1 < w'.heap.size := (by have := hb.size; (try simp at this); omega); have hc := bcell hb) | (go_at_call 78; refine (within_any _ _ _ _).mono ?_; rintro e w' ⟨rfl, rfl⟩) | (go_at_call 105; refine (hasCode_any _ _ _ _ _ _ (ints_call (two_boxes w _ _) hg) hgl).mono ?_; rintro e w' ⟨rfl, hb⟩; replace hbw := hbw.trans (hb.mono hbw.size); have hz : w.heap.size + 1 < w'.heap.size := (by have := hb.size; (try simp at this); omega); have hc := bcell hb))
        go_ret
        exact ⟨ret_bool (by rw [HR.out, h1, h2, h3]; rfl), hbw⟩
      · have hab : a ≤ b := by simpa using h3
        cases h4 : wi n 0 100
        · go_enter Tryd.func104, Tryd.ntmps104
          go_wp2_with (first | (go_at_call 124; refine (hasWheel_any _ _ _ _).mono ?_; rintro e w' ⟨rfl, hb⟩; replace hbw := hbw.trans (hb.mono hbw.size); have hz : w.heap.size + 1 < w'.heap.size := (by have := hb.size; (try simp at this); omega); have hc := bcell hb) | (go_at_call 125; refine (hasSymbol_any _ _ _ _).mono ?_; rintro e w' ⟨rfl, hb⟩; replace hbw := hbw.trans (hb.mono hbw.size); have hz : w.heap.size + 1 < w'.heap.size := (by have := hb.size; (try simp at this); omega); have hc := bcell hb) | (go_at_call 78; refine (within_any _ _ _ _).mono ?_; rintro e w' ⟨rfl, rfl⟩) | (go_at_call 105; refine (hasCode_any _ _ _ _ _ _ (ints_call (two_boxes w _ _) hg) hgl).mono ?_; rintro e w' ⟨rfl, hb⟩; replace hbw := hbw.trans (hb.mono hbw.size); have hz : w.heap.size + 1 < w'.heap.size := (by have := hb.size; (try simp at this); omega); have hc := bcell hb))
          go_ret
          exact ⟨ret_bool (by rw [HR.out, h1, h2, h3, h4]; rfl), hbw⟩
        · go_enter Tryd.func104, Tryd.ntmps104
          go_wp2_with (first | (go_at_call 124; refine (hasWheel_any _ _ _ _).mono ?_; rintro e w' ⟨rfl, hb⟩; replace hbw := hbw.trans (hb.mono hbw.size); have hz : w.heap.size + 1 < w'.heap.size := (by have := hb.size; (try simp at this); omega); have hc := bcell hb) | (go_at_call 125; refine (hasSymbol_any _ _ _ _).mono ?_; rintro e w' ⟨rfl, hb⟩; replace hbw := hbw.trans (hb.mono hbw.size); have hz : w.heap.size + 1 < w'.heap.size := (by have := hb.size; (try simp at this); omega); have hc := bcell hb) | (go_at_call 78; refine (within_any _ _ _ _).mono ?_; rintro e w' ⟨rfl, rfl⟩) | (go_at_call 105; refine (hasCode_any _ _ _ _ _ _ (ints_call (two_boxes w _ _) hg) hgl).mono ?_; rintro e w' ⟨rfl, hb⟩; replace hbw := hbw.trans (hb.mono hbw.size); have hz : w.heap.size + 1 < w'.heap.size := (by have := hb.size; (try simp at this); omega); have hc := bcell hb))
          go_ret
          exact ⟨ret_bool (by rw [HR.out, h1, h2, h3, h4]; rfl), hbw⟩

set_option maxRecDepth 100000 in
set_option maxHeartbeats 1000000 in
theorem inRange_3 (W S a b n m : Int) (g : List Int) (ng : Bool) (A : Option Addr) (cap : Nat) (w : World) :
    Calls Tryd.prog 104 #[lockV W S, clV ⟨3, a, b, n, m, g, ng⟩ A cap] w fun e w' => e = .returned (.bool (rangeB W S ⟨3, a, b, n, m, g, ng⟩)) ∧ Below w.heap.size w w' := by
  have HR := Lib.hid (show rangeB W S ⟨3, a, b, n, m, g, ng⟩ = (wi a 0 (wrap64 (W - 1)) && wi b 0 (wrap64 (W - 1)) && (a != b)) from rfl)
  have hbw := two_boxes w (.cells #[.int .i64 W, .int .i64 S] 78) (.cells (clArr ⟨3, a, b, n, m, g, ng⟩ A cap) 26)
  simp only [clArr] at hbw
  cases h1 : wi a 0 (wrap64 (W - 1))
  · go_enter Tryd.func104, Tryd.ntmps104
    go_wp2_with (first | (go_at_call 124; refine (hasWheel_any _ _ _ _).mono ?_; rintro e w' ⟨rfl, hb⟩; replace hbw := hbw.trans (hb.mono hbw.size); have hz : w.heap.size + 1 < w'.heap.size := (by have := hb.size; (try simp at this); omega); have hc := bcell hb) | (go_at_call 125; refine (hasSymbol_any _ _ _ _).mono ?_; rintro e w' ⟨rfl, hb⟩; replace hbw := hbw.trans (hb.mono hbw.size); have hz : w.heap.size + 1 < w'.heap.size := (by have := hb.size; (try simp at this); omega); have hc := bcell hb) | (go_at_call 78; refine (within_any _ _ _ _).mono ?_; rintro e w' ⟨rfl, rfl⟩) | (go_at_call 105; refine (hasCode_any _ _ _ _ _ _ (ints_call (two_boxes w _ _) hg) hgl).mono ?_; rintro e w' ⟨rfl, hb⟩; replace hbw := hbw.trans (hb.mono hbw.size); have hz : w.heap.size + 1 < w'.heap.size := (by have := hb.size; (try simp at this); omega); have hc := bcell hb))
    go_ret
    exact ⟨ret_bool (by rw [HR.out, h1]; rfl), hbw⟩
  · cases h2 : wi b 0 (wrap64 (W - 1))
    · go_enter Tryd.func104, Tryd.ntmps104
      go_wp2_with (first | (go_at_call 124; refine (hasWheel_any _ _ _ _).mono ?_; rintro e w' ⟨rfl, hb⟩; replace hbw := hbw.trans (hb.mono hbw.size); have hz : w.heap.size + 1 < w'.heap.size := (by have := hb.size; (try simp at this); omega); have hc := bcell hb) | (go_at_call 125; refine (hasSymbol_any _ _ _ _).mono ?_; rintro e w' ⟨rfl, hb⟩; replace hbw := hbw.trans (hb.mono hbw.size); have hz : w.heap.size + 1 < w'.heap.size := (by have := hb.size; (try simp at this); omega); have hc := bcell hb) | (go_at_call 78; refine (within_any _ _ _ _).mono ?_; rintro e w' ⟨rfl, rfl⟩) | (go_at_call 105; refine (hasCode_any _ _ _ _ _ _ (ints_call (two_boxes w _ _) hg) hgl).mono ?_; rintro e w' ⟨rfl, hb⟩; replace hbw := hbw.trans (hb.mono hbw.size); have hz : w.heap.size + 1 < w'.heap.size := (by have := hb.size; (try simp at this); omega); have hc := bcell hb))
      go_ret
      exact ⟨ret_bool (by rw [HR.out, h1, h2]; rfl), hbw⟩
    · cases h3 : (a != b)
      · go_enter Tryd.func104, Tryd.ntmps104
        go_wp2_with (first | (go_at_call 124; refine (hasWheel_any _ _ _ _).mono ?_; rintro e w' ⟨rfl, hb⟩; replace hbw := hbw.trans (hb.mono hbw.size); have hz : w.heap.size + 1 < w'.heap.size := (by have := hb.size; (try simp at this); omega); have hc := bcell hb) | (go_at_call 125; refine (hasSymbol_any _ _ _ _).mono ?_; rintro e w' ⟨rfl, hb⟩; replace hbw := hbw.trans (hb.mono hbw.size); have hz : w.heap.size + 1 < w'.heap.size := (by have := hb.size; (try simp at this); omega); have hc := bcell hb) | (go_at_call 78; refine (within_any _ _ _ _).mono ?_; rintro e w' ⟨rfl, rfl⟩) | (go_at_call 105; refine (hasCode_any _ _ _ _ _ _ (ints_call (two_boxes w _ _) hg) hgl).mono ?_; rintro e w' ⟨rfl, hb⟩; replace hbw := hbw.trans (hb.mono hbw.size); have hz : w.heap.size + 1 < w'.heap.size := (by have := hb.size; (try simp at this); omega); have hc := bcell hb))
        go_ret
        exact ⟨ret_bool (by rw [HR.out, h1, h2, h3]; rfl), hbw⟩
      · go_enter Tryd.func104, Tryd.ntmps104
        go_wp2_with (first | (go_at_call 124; refine (hasWheel_any _ _ _ _).mono ?_; rintro e w' ⟨rfl, hb⟩; replace hbw := hbw.trans (hb.mono hbw.size); have hz : w.heap.size + 1 < w'.heap.size := (by have := hb.size; (try simp at this); omega); have hc := bcell hb) | (go_at_call 125; refine (hasSymbol_any _ _ _ _).mono ?_; rintro e w' ⟨rfl, hb⟩; replace hbw := hbw.trans (hb.mono hbw.size); have hz : w.heap.size + 1 < w'.heap.size := (by have := hb.size; (try simp at this); omega); have hc := bcell hb) | (go_at_call 78; refine (within_any _ _ _ _).mono ?_; rintro e w' ⟨rfl, rfl⟩) | (go_at_call 105; refine (hasCode_any _ _ _ _ _ _ (ints_call (two_boxes w _ _) hg) hgl).mono ?_; rintro e w' ⟨rfl, hb⟩; replace hbw := hbw.trans (hb.mono hbw.size); have hz : w.heap.size + 1 < w'.heap.size := (by have := hb.size; (try simp at this); omega); have hc := bcell hb))
        go_ret
        exact ⟨ret_bool (by rw [HR.out, h1, h2, h3]; rfl), hbw⟩

set_option maxRecDepth 100000 in
set_option maxHeartbeats 1000000 in
theorem inRange_4 (W S a b n m : Int) (g : List Int) (ng : Bool) (A : Option Addr) (cap : Nat) (w : World) :
    Calls Tryd.prog 104 #[lockV W S, clV ⟨4, a, b, n, m, g, ng⟩ A cap] w fun e w' => e = .returned (.bool (rangeB W S ⟨4, a, b, n, m, g, ng⟩)) ∧ Below w.heap.size w w' := by
  have HR := Lib.hid (show rangeB W S ⟨4, a, b, n, m, g, ng⟩ = (wi a 0 (wrap64 (W - 1)) && wi b 0 (wrap64 (W - 1)) && (a != b)) from rfl)
  have hbw := two_boxes w (.cells #[.int .i64 W, .int .i64 S] 78) (.cells (clArr ⟨4, a, b, n, m, g, ng⟩ A cap) 26)
  simp only [clArr] at hbw
  cases h1 : wi a 0 (wrap64 (W - 1))
  · go_enter Tryd.func104, Tryd.ntmps104
    go_wp2_with (first | (go_at_call 124; refine (hasWheel_any _ _ _ _).mono ?_; rintro e w' ⟨rfl, hb⟩; replace hbw := hbw.trans (hb.mono hbw.size); have hz : w.heap.size + 1 < w'.heap.size := (by have := hb.size; (try simp at this); omega); have hc := bcell hb) | (go_at_call 125; refine (hasSymbol_any _ _ _ _).mono ?_; rintro e w' ⟨rfl, hb⟩; replace hbw := hbw.trans (hb.mono hbw.size); have hz : w.heap.size + 1 < w'.heap.size := (by have := hb.size; (try simp at this); omega); have hc := bcell hb) | (go_at_call 78; refine (within_any _ _ _ _).mono ?_; rintro e w' ⟨rfl, rfl⟩) | (go_at_call 105; refine (hasCode_any _ _ _ _ _ _ (ints_call (two_boxes w _ _) hg) hgl).mono ?_; rintro e w' ⟨rfl, hb⟩; replace hbw := hbw.trans (hb.mono hbw.size); have hz : w.heap.size + 1 < w'.heap.size := (by have := hb.size; (try simp at this); omega); have hc := bcell hb))
    go_ret
    exact ⟨ret_bool (by rw [HR.out, h1]; rfl), hbw⟩
  · cases h2 : wi b 0 (wrap64 (W - 1))
    · go_enter Tryd.func104, Tryd.ntmps104
      go_wp2_with (first | (go_at_call 124; refine (hasWheel_any _ _ _ _).mono ?_; rintro e w' ⟨rfl, hb⟩; replace hbw := hbw.trans (hb.mono hbw.size); have hz : w.heap.size + 1 < w'.heap.size := (by have := hb.size; (try simp at this); omega); have hc := bcell hb) | (go_at_call 125; refine (hasSymbol_any _ _ _ _).mono ?_; rintro e w' ⟨rfl, hb⟩; replace hbw := hbw.trans (hb.mono hbw.size); have hz : w.heap.size + 1 < w'.heap.size := (by have := hb.size; (try simp at this); omega); have hc := bcell hb) | (go_at_call 78; refine (within_any _ _ _ _).mono ?_; rintro e w' ⟨rfl, rfl⟩) | (go_at_call 105; refine (hasCode_any _ _ _ _ _ _ (ints_call (two_boxes w _ _) hg) hgl).mono ?_; rintro e w' ⟨rfl, hb⟩; replace hbw := hbw.trans (hb.mono hbw.size); have hz : w.heap.size + 1 < w'.heap.size := (by have := hb.size; (try simp at this); omega); have hc := bcell hb))
      go_ret
      exact ⟨ret_bool (by rw [HR.out, h1, h2]; rfl), hbw⟩
    · cases h3 : (a != b)
      · go_enter Tryd.func104, Tryd.ntmps104
        go_wp2_with (first | (go_at_call 124; refine (hasWheel_any _ _ _ _).mono ?_; rintro e w' ⟨rfl, hb⟩; replace hbw := hbw.trans (hb.mono hbw.size); have hz : w.heap.size + 1 < w'.heap.size := (by have := hb.size; (try simp at this); omega); have hc := bcell hb) | (go_at_call 125; refine (hasSymbol_any _ _ _ _).mono ?_; rintro e w' ⟨rfl, hb⟩; replace hbw := hbw.trans (hb.mono hbw.size); have hz : w.heap.size + 1 < w'.heap.size := (by have := hb.size; (try simp at this); omega); have hc := bcell hb) | (go_at_call 78; refine (within_any _ _ _ _).mono ?_; rintro e w' ⟨rfl, rfl⟩) | (go_at_call 105; refine (hasCode_any _ _ _ _ _ _ (ints_call (two_boxes w _ _) hg) hgl).mono ?_; rintro e w' ⟨rfl, hb⟩; replace hbw := hbw.trans (hb.mono hbw.size); have hz : w.heap.size + 1 < w'.heap.size := (by have := hb.size; (try simp at this); omega); have hc := bcell hb))
        go_ret
        exact ⟨ret_bool (by rw [HR.out, h1, h2, h3]; rfl), hbw⟩
      · go_enter Tryd.func104, Tryd.ntmps104
        go_wp2_with (first | (go_at_call 124; refine (hasWheel_any _ _ _ _).mono ?_; rintro e w' ⟨rfl, hb⟩; replace hbw := hbw.trans (hb.mono hbw.size); have hz : w.heap.size + 1 < w'.heap.size := (by have := hb.size; (try simp at this); omega); have hc := bcell hb) | (go_at_call 125; refine (hasSymbol_any _ _ _ _).mono ?_; rintro e w' ⟨rfl, hb⟩; replace hbw := hbw.trans (hb.mono hbw.size); have hz : w.heap.size + 1 < w'.heap.size := (by have := hb.size; (try simp at this); omega); have hc := bcell hb) | (go_at_call 78; refine (within_any _ _ _ _).mono ?_; rintro e w' ⟨rfl, rfl⟩) | (go_at_call 105; refine (hasCode_any _ _ _ _ _ _ (ints_call (two_boxes w _ _) hg) hgl).mono ?_; rintro e w' ⟨rfl, hb⟩; replace hbw := hbw.trans (hb.mono hbw.size); have hz : w.heap.size + 1 < w'.heap.size := (by have := hb.size; (try simp at this); omega); have hc := bcell hb))
        go_ret
        exact ⟨ret_bool (by rw [HR.out, h1, h2, h3]; rfl), hbw⟩

set_option maxRecDepth 100000 in
set_option maxHeartbeats 1000000 in
theorem inRange_5 (W S a b n m : Int) (g : List Int) (ng : Bool) (A : Option Addr) (cap : Nat) (w : World) :
    Calls Tryd.prog 104 #[lockV W S, clV ⟨5, a, b, n, m, g, ng⟩ A cap] w fun e w' => e = .returned (.bool (rangeB W S ⟨5, a, b, n, m, g, ng⟩)) ∧ Below w.heap.size w w' := by
  have HR := Lib.hid (show rangeB W S ⟨5, a, b, n, m, g, ng⟩ = (wi n 0 (wrap64 (S - 1)) && wi m 0 W) from rfl)
  have hbw := two_boxes w (.cells #[.int .i64 W, .int .i64 S] 78) (.cells (clArr ⟨5, a, b, n, m, g, ng⟩ A cap) 26)
  simp only [clArr] at hbw
  cases h1 : wi n 0 (wrap64 (S - 1))
  · go_enter Tryd.func104, Tryd.ntmps104
    go_wp2_with (first | (go_at_call 124; refine (hasWheel_any _ _ _ _).mono ?_; rintro e w' ⟨rfl, hb⟩; replace hbw := hbw.trans (hb.mono hbw.size); have hz : w.heap.size + 1 < w'.heap.size := (by have := hb.size; (try simp at this); omega); have hc := bcell hb) | (go_at_call 125; refine (hasSymbol_any _ _ _ _).mono ?_; rintro e w' ⟨rfl, hb⟩; replace hbw := hbw.trans (hb.mono hbw.size); have hz : w.heap.size + 1 < w'.heap.size := (by have := hb.size; (try simp at this); omega); have hc := bcell hb) | (go_at_call 78; refine (within_any _ _ _ _).mono ?_; rintro e w' ⟨rfl, rfl⟩) | (go_at_call 105; refine (hasCode_any _ _ _ _ _ _ (ints_call (two_boxes w _ _) hg) hgl).mono ?_; rintro e w' ⟨rfl, hb⟩; replace hbw := hbw.trans (hb.mono hbw.size); have hz : w.heap.size + 1 < w'.heap.size := (by have := hb.size; (try simp at this); omega); have hc := bcell hb))
    go_ret
    exact ⟨ret_bool (by rw [HR.out, h1]; rfl), hbw⟩
  · cases h2 : wi m 0 W
    · go_enter Tryd.func104, Tryd.ntmps104
      go_wp2_with (first | (go_at_call 124; refine (hasWheel_any _ _ _ _).mono ?_; rintro e w' ⟨rfl, hb⟩; replace hbw := hbw.trans (hb.mono hbw.size); have hz : w.heap.size + 1 < w'.heap.size := (by have := hb.size; (try simp at this); omega); have hc := bcell hb) | (go_at_call 125; refine (hasSymbol_any _ _ _ _).mono ?_; rintro e w' ⟨rfl, hb⟩; replace hbw := hbw.trans (hb.mono hbw.size); have hz : w.heap.size + 1 < w'.heap.size := (by have := hb.size; (try simp at this); omega); have hc := bcell hb) | (go_at_call 78; refine (within_any _ _ _ _).mono ?_; rintro e w' ⟨rfl, rfl⟩) | (go_at_call 105; refine (hasCode_any _ _ _ _ _ _ (ints_call (two_boxes w _ _) hg) hgl).mono ?_; rintro e w' ⟨rfl, hb⟩; replace hbw := hbw.trans (hb.mono hbw.size); have hz : w.heap.size + 1 < w'.heap.size := (by have := hb.size; (try simp at this); omega); have hc := bcell hb))
      go_ret
      exact ⟨ret_bool (by rw [HR.out, h1, h2]; rfl), hbw⟩
    · go_enter Tryd.func104, Tryd.ntmps104
      go_wp2_with (first | (go_at_call 124; refine (hasWheel_any _ _ _ _).mono ?_; rintro e w' ⟨rfl, hb⟩; replace hbw := hbw.trans (hb.mono hbw.size); have hz : w.heap.size + 1 < w'.heap.size := (by have := hb.size; (try simp at this); omega); have hc := bcell hb) | (go_at_call 125; refine (hasSymbol_any _ _ _ _).mono ?_; rintro e w' ⟨rfl, hb⟩; replace hbw := hbw.trans (hb.mono hbw.size); have hz : w.heap.size + 1 < w'.heap.size := (by have := hb.size; (try simp at this); omega); have hc := bcell hb) | (go_at_call 78; refine (within_any _ _ _ _).mono ?_; rintro e w' ⟨rfl, rfl⟩) | (go_at_call 105; refine (hasCode_any _ _ _ _ _ _ (ints_call (two_boxes w _ _) hg) hgl).mono ?_; rintro e w' ⟨rfl, hb⟩; replace hbw := hbw.trans (hb.mono hbw.size); have hz : w.heap.size + 1 < w'.heap.size := (by have := hb.size; (try simp at this); omega); have hc := bcell hb))
      go_ret
      exact ⟨ret_bool (by rw [HR.out, h1, h2]; rfl), hbw⟩

set_option maxRecDepth 100000 in
set_option maxHeartbeats 1000000 in
theorem inRange_6 (W S a b n m : Int) (g : List Int) (ng : Bool) (A : Option Addr) (cap : Nat) (w : World) (hg : IntsR w w.heap.size A g) (hgl : g.length ≤ maxLen) :
    Calls Tryd.prog 104 #[lockV W S, clV ⟨6, a, b, n, m, g, ng⟩ A cap] w fun e w' => e = .returned (.bool (rangeB W S ⟨6, a, b, n, m, g, ng⟩)) ∧ Below w.heap.size w w' := by
  have HR := Lib.hid (show rangeB W S ⟨6, a, b, n, m, g, ng⟩ = (codeB W S g && wi n 0 W && wi m 0 W) from rfl)
  have hbw := two_boxes w (.cells #[.int .i64 W, .int .i64 S] 78) (.cells (clArr ⟨6, a, b, n, m, g, ng⟩ A cap) 26)
  simp only [clArr] at hbw
  cases h1 : codeB W S g
  · go_enter Tryd.func104, Tryd.ntmps104
    go_wp2_with (first | (go_at_call 124; refine (hasWheel_any _ _ _ _).mono ?_; rintro e w' ⟨rfl, hb⟩; replace hbw := hbw.trans (hb.mono hbw.size); have hz : w.heap.size + 1 < w'.heap.size := (by have := hb.size; (try simp at this); omega); have hc := bcell hb) | (go_at_call 125; refine (hasSymbol_any _ _ _ _).mono ?_; rintro e w' ⟨rfl, hb⟩; replace hbw := hbw.trans (hb.mono hbw.size); have hz : w.heap.size + 1 < w'.heap.size := (by have := hb.size; (try simp at this); omega); have hc := bcell hb) | (go_at_call 78; refine (within_any _ _ _ _).mono ?_; rintro e w' ⟨rfl, rfl⟩) | (go_at_call 105; refine (hasCode_any _ _ _ _ _ _ (ints_call (two_boxes w _ _) hg) hgl).mono ?_; rintro e w' ⟨rfl, hb⟩; replace hbw := hbw.trans (hb.mono hbw.size); have hz : w.heap.size + 1 < w'.heap.size := (by have := hb.size; (try simp at this); omega); have hc := bcell hb))
    go_ret
    exact ⟨ret_bool (by rw [HR.out, h1]; rfl), hbw⟩
  · cases h2 : wi n 0 W
    · go_enter Tryd.func104, Tryd.ntmps104
      go_wp2_with (first | (go_at_call 124; refine (hasWheel_any _ _ _ _).mono ?_; rintro e w' ⟨rfl, hb⟩; replace hbw := hbw.trans (hb.mono hbw.size); have hz : w.heap.size + 1 < w'.heap.size := (by have := hb.size; (try simp at this); omega); have hc := bcell hb) | (go_at_call 125; refine (hasSymbol_any _ _ _ _).mono ?_; rintro e w' ⟨rfl, hb⟩; replace hbw := hbw.trans (hb.mono hbw.size); have hz : w.heap.size + 1 < w'.heap.size := (by have := hb.size; (try simp at this); omega); have hc := bcell hb) | (go_at_call 78; refine (within_any _ _ _ _).mono ?_; rintro e w' ⟨rfl, rfl⟩) | (go_at_call 105; refine (hasCode_any _ _ _ _ _ _ (ints_call (two_boxes w _ _) hg) hgl).mono ?_; rintro e w' ⟨rfl, hb⟩; replace hbw := hbw.trans (hb.mono hbw.size); have hz : w.heap.size + 1 < w'.heap.size := (by have := hb.size; (try simp at this); omega); have hc := bcell hb))
      go_ret
      exact ⟨ret_bool (by rw [HR.out, h1, h2]; rfl), hbw⟩
    · cases h3 : wi m 0 W
      · go_enter Tryd.func104, Tryd.ntmps104
        go_wp2_with (first | (go_at_call 124; refine (hasWheel_any _ _ _ _).mono ?_; rintro e w' ⟨rfl, hb⟩; replace hbw := hbw.trans (hb.mono hbw.size); have hz : w.heap.size + 1 < w'.heap.size := (by have := hb.size; (try simp at this); omega); have hc := bcell hb) | (go_at_call 125; refine (hasSymbol_any _ _ _ _).mono ?_; rintro e w' ⟨rfl, hb⟩; replace hbw := hbw.trans (hb.mono hbw.size); have hz : w.heap.size + 1 < w'.heap.size := (by have := hb.size; (try simp at this); omega); have hc := bcell hb) | (go_at_call 78; refine (within_any _ _ _ _).mono ?_; rintro e w' ⟨rfl, rfl⟩) | (go_at_call 105; refine (hasCode_any _ _ _ _ _ _ (ints_call (two_boxes w _ _) hg) hgl).mono ?_; rintro e w' ⟨rfl, hb⟩; replace hbw := hbw.trans (hb.mono hbw.size); have hz : w.heap.size + 1 < w'.heap.size := (by have := hb.size; (try simp at this); omega); have hc := bcell hb))
        go_ret
        exact ⟨ret_bool (by rw [HR.out, h1, h2, h3]; rfl), hbw⟩
      · go_enter Tryd.func104, Tryd.ntmps104
        go_wp2_with (first | (go_at_call 124; refine (hasWheel_any _ _ _ _).mono ?_; rintro e w' ⟨rfl, hb⟩; replace hbw := hbw.trans (hb.mono hbw.size); have hz : w.heap.size + 1 < w'.heap.size := (by have := hb.size; (try simp at this); omega); have hc := bcell hb) | (go_at_call 125; refine (hasSymbol_any _ _ _ _).mono ?_; rintro e w' ⟨rfl, hb⟩; replace hbw := hbw.trans (hb.mono hbw.size); have hz : w.heap.size + 1 < w'.heap.size := (by have := hb.size; (try simp at this); omega); have hc := bcell hb) | (go_at_call 78; refine (within_any _ _ _ _).mono ?_; rintro e w' ⟨rfl, rfl⟩) | (go_at_call 105; refine (hasCode_any _ _ _ _ _ _ (ints_call (two_boxes w _ _) hg) hgl).mono ?_; rintro e w' ⟨rfl, hb⟩; replace hbw := hbw.trans (hb.mono hbw.size); have hz : w.heap.size + 1 < w'.heap.size := (by have := hb.size; (try simp at this); omega); have hc := bcell hb))
        go_ret
        exact ⟨ret_bool (by rw [HR.out, h1, h2, h3]; rfl), hbw⟩

set_option maxRecDepth 100000 in
set_option maxHeartbeats 1000000 in
theorem inRange_7 (W S a b n m : Int) (g : List Int) (ng : Bool) (A : Option Addr) (cap : Nat) (w : World) :
    Calls Tryd.prog 104 #[lockV W S, clV ⟨7, a, b, n, m, g, ng⟩ A cap] w fun e w' => e = .returned (.bool (rangeB W S ⟨7, a, b, n, m, g, ng⟩)) ∧ Below w.heap.size w w' := by
  have HR := Lib.hid (show rangeB W S ⟨7, a, b, n, m, g, ng⟩ = (wi a 0 (wrap64 (W - 1)) && wi n 2 10 && wi m 0 (wrap64 (n - 1))) from rfl)
  have hbw := two_boxes w (.cells #[.int .i64 W, .int .i64 S] 78) (.cells (clArr ⟨7, a, b, n, m, g, ng⟩ A cap) 26)
  simp only [clArr] at hbw
  cases h1 : wi a 0 (wrap64 (W - 1))
  · go_enter Tryd.func104, Tryd.ntmps104
    go_wp2_with (first | (go_at_call 124; refine (hasWheel_any _ _ _ _).mono ?_; rintro e w' ⟨rfl, hb⟩; replace hbw := hbw.trans (hb.mono hbw.size); have hz : w.heap.size + 1 < w'.heap.size := (by have := hb.size; (try simp at this); omega); have hc := bcell hb) | (go_at_call 125; refine (hasSymbol_any _ _ _ _).mono ?_; rintro e w' ⟨rfl, hb⟩; replace hbw := hbw.trans (hb.mono hbw.size); have hz : w.heap.size + 1 < w'.heap.size := (by have := hb.size; (try simp at this); omega); have hc := bcell hb) | (go_at_call 78; refine (within_any _ _ _ _).mono ?_; rintro e w' ⟨rfl, rfl⟩) | (go_at_call 105; refine (hasCode_any _ _ _ _ _ _ (ints_call (two_boxes w _ _) hg) hgl).mono ?_; rintro e w' ⟨rfl, hb⟩; replace hbw := hbw.trans (hb.mono hbw.size); have hz : w.heap.size + 1 < w'.heap.size := (by have := hb.size; (try simp at this); omega); have hc := bcell hb))
    go_ret
    exact ⟨ret_bool (by rw [HR.out, h1]; rfl), hbw⟩
  · cases h2 : wi n 2 10
    · go_enter Tryd.func104, Tryd.ntmps104
      go_wp2_with (first | (go_at_call 124; refine (hasWheel_any _ _ _ _).mono ?_; rintro e w' ⟨rfl, hb⟩; replace hbw := hbw.trans (hb.mono hbw.size); have hz : w.heap.size + 1 < w'.heap.size := (by have := hb.size; (try simp at this); omega); have hc := bcell hb) | (go_at_call 125; refine (hasSymbol_any _ _ _ _).mono ?_; rintro e w' ⟨rfl, hb⟩; replace hbw := hbw.trans (hb.mono hbw.size); have hz : w.heap.size + 1 < w'.heap.size := (by have := hb.size; (try simp at this); omega); have hc := bcell hb) | (go_at_call 78; refine (within_any _ _ _ _).mono ?_; rintro e w' ⟨rfl, rfl⟩) | (go_at_call 105; refine (hasCode_any _ _ _ _ _ _ (ints_call (two_boxes w _ _) hg) hgl).mono ?_; rintro e w' ⟨rfl, hb⟩; replace hbw := hbw.trans (hb.mono hbw.size); have hz : w.heap.size + 1 < w'.heap.size := (by have := hb.size; (try simp at this); omega); have hc := bcell hb))
      go_ret
      exact ⟨ret_bool (by rw [HR.out, h1, h2]; rfl), hbw⟩
    · cases h3 : wi m 0 (wrap64 (n - 1))
      · go_enter Tryd.func104, Tryd.ntmps104
        go_wp2_with (first | (go_at_call 124; refine (hasWheel_any _ _ _ _).mono ?_; rintro e w' ⟨rfl, hb⟩; replace hbw := hbw.trans (hb.mono hbw.size); have hz : w.heap.size + 1 < w'.heap.size := (by have := hb.size; (try simp at this); omega); have hc := bcell hb) | (go_at_call 125; refine (hasSymbol_any _ _ _ _).mono ?_; rintro e w' ⟨rfl, hb⟩; replace hbw := hbw.trans (hb.mono hbw.size); have hz : w.heap.size + 1 < w'.heap.size := (by have := hb.size; (try simp at this); omega); have hc := bcell hb) | (go_at_call 78; refine (within_any _ _ _ _).mono ?_; rintro e w' ⟨rfl, rfl⟩) | (go_at_call 105; refine (hasCode_any _ _ _ _ _ _ (ints_call (two_boxes w _ _) hg) hgl).mono ?_; rintro e w' ⟨rfl, hb⟩; replace hbw := hbw.trans (hb.mono hbw.size); have hz : w.heap.size + 1 < w'.heap.size := (by have := hb.size; (try simp at this); omega); have hc := bcell hb))
        go_ret
        exact ⟨ret_bool (by rw [HR.out, h1, h2, h3]; rfl), hbw⟩
      · go_enter Tryd.func104, Tryd.ntmps104
        go_wp2_with (first | (go_at_call 124; refine (hasWheel_any _ _ _ _).mono ?_; rintro e w' ⟨rfl, hb⟩; replace hbw := hbw.trans (hb.mono hbw.size); have hz : w.heap.size + 1 < w'.heap.size := (by have := hb.size; (try simp at this); omega); have hc := bcell hb) | (go_at_call 125; refine (hasSymbol_any _ _ _ _).mono ?_; rintro e w' ⟨rfl, hb⟩; replace hbw := hbw.trans (hb.mono hbw.size); have hz : w.heap.size + 1 < w'.heap.size := (by have := hb.size; (try simp at this); omega); have hc := bcell hb) | (go_at_call 78; refine (within_any _ _ _ _).mono ?_; rintro e w' ⟨rfl, rfl⟩) | (go_at_call 105; refine (hasCode_any _ _ _ _ _ _ (ints_call (two_boxes w _ _) hg) hgl).mono ?_; rintro e w' ⟨rfl, hb⟩; replace hbw := hbw.trans (hb.mono hbw.size); have hz : w.heap.size + 1 < w'.heap.size := (by have := hb.size; (try simp at this); omega); have hc := bcell hb))
        go_ret
        exact ⟨ret_bool (by rw [HR.out, h1, h2, h3]; rfl), hbw⟩

end Go.Proofs.YthegmomjfbcabaaDoor

/-
  CONTRACTS: letter, shift and puzzles.Shift.
-/
import Derived.Test.YtglkjiimmlobbaaPzNext
import Derived.Laws.IdiomStrings
namespace Go.Proofs.Ytglkjiimmlobbaa
open Go.RowKit Go.Shelf
/-- a letter by its number -/
def ltrI (n : Int) : Int := 97 + n % 26
theorem ltr_bounds (n : Int) : 97 ≤ ltrI n ∧ ltrI n ≤ 122 := by rw [ltrI]; omega
theorem tmod_mod (n : Int) : n.tmod 26 % 26 = n % 26 := by have := Int.mul_tdiv_add_tmod n 26; omega
theorem letter_any (n : Int) (w : World) :
    Calls Try.prog 149 #[I n] w fun e w' => e = .returned (.int .u8 (ltrI n)) ∧ w' = w := by
  have b1 : -26 < n.tmod 26 := Int.lt_tmod_of_pos n (by decide)
  have b2 : n.tmod 26 < 26 := Int.tmod_lt_of_pos n (by decide)
  have b3 := Int.tmod_nonneg (a := n.tmod 26 + 26) 26 (by omega)
  have b4 := Int.tmod_lt_of_pos (n.tmod 26 + 26) (b := 26) (by decide)
  go_enter Try.func149, Try.ntmps149
  go_wp2
  go_ret
  have e : ltrI n = 97 + n.tmod 26 % 26 := by rw [ltrI, tmod_mod]
  exact ⟨by rw [e]; rfl, rfl⟩
/-- a byte that goes on by n letters -/
def shB (n b : Int) : Int := if wi b 97 122 then ltrI (b - 97 + n) else b
theorem shiftLit_any (n : Int) (g : Nat) (i : Int) (w : World) (hg : w.cell? ⟨g, 0, none⟩ = some (I n)) :
    Calls Try.prog 126 #[I i, .pointer (some ⟨g, 0, none⟩)] w fun e w' => e = .returned (I n) ∧ w' = w := by
  go_enter Try.func126, Try.ntmps126
  go_wp2
  go_ret
  exact ⟨rfl, rfl⟩
theorem shB_bounds {n b : Int} (h : 0 ≤ b ∧ b ≤ 255) : 0 ≤ shB n b ∧ shB n b ≤ 255 := by
  have := ltr_bounds (b - 97 + n)
  rw [shB]
  split <;> omega
/-- the bytes of a text -/
def bys (s : ByteArray) : List Int := s.data.toList.map (fun b => (b.toNat : Int))
theorem bys_length (s : ByteArray) : (bys s).length = s.size := by simp [bys]
theorem bys_at (s : ByteArray) (j : Nat) (h : j < s.data.size) : nth (bys s) j = (s.data[j].toNat : Int) := by
  rw [nth_lt (by simpa [bys] using h)]
  simp [bys]
theorem bys_bounds (s : ByteArray) (j : Nat) : 0 ≤ nth (bys s) j ∧ nth (bys s) j ≤ 255 := by
  rcases Nat.lt_or_ge j s.data.size with h | h
  · rw [bys_at s j h]
    have := s.data[j].toNat_lt
    omega
  · rw [nth, List.getElem?_eq_none (by simpa [bys] using h)]
    simp
/-- a text that has gone on by n letters -/
def shS (n : Int) (s : ByteArray) : List UInt8 := s.data.toList.map (fun b => UInt8.ofNat (shB n (b.toNat : Int)).toNat)
theorem shS_length (n : Int) (s : ByteArray) : (shS n s).length = s.size := by simp [shS]
theorem shS_at (n : Int) (s : ByteArray) (j : Nat) (h : j < (shS n s).length) : ((shS n s)[j].toNat : Int) = shB n (nth (bys s) j) := by
  have hj : j < s.data.size := by simpa [shS] using h
  have hb := shB_bounds (n := n) (bys_bounds s j)
  rw [bys_at s j hj] at hb ⊢
  simp only [shS, List.getElem_map, Array.getElem_toList]
  rw [UInt8.toNat_ofNat_of_lt' (by simp; omega)]
  omega
/-- a row of bytes, the first k of which have gone on -/
def ByR (n : Int) (s : ByteArray) (g k : Nat) (w : World) : Prop :=
  ∀ j, j < s.size → w.cell? ⟨g, j, none⟩ = some (.int .u8 (if j < k then shB n (nth (bys s) j) else nth (bys s) j)) ∧ w.frozen? ⟨g, j, none⟩ = false

theorem ByR.same {n : Int} {s : ByteArray} {g k : Nat} {w : World} (h : ByR n s g k w) (e : shB n (nth (bys s) k) = nth (bys s) k) : ByR n s g (k + 1) w := by
  intro j hj
  obtain ⟨a, b⟩ := h j hj
  refine ⟨a.trans ?_, b⟩
  by_cases e1 : j < k
  · rw [if_pos e1, if_pos (by omega)]
  · by_cases e2 : j = k
    · subst e2; rw [if_neg e1, if_pos (by omega), e]
    · rw [if_neg e1, if_neg (by omega)]
theorem ByR.step {n : Int} {s : ByteArray} {g k : Nat} {w : World} {v : Int} (h : ByR n s g k w) (hk : k < s.size) (e : shB n (nth (bys s) k) = v) : ByR n s g (k + 1) (w.setCell ⟨g, k, none⟩ (.int .u8 v)) := by
  intro j hj
  obtain ⟨a, b⟩ := h j hj
  refine ⟨?_, by rw [World.frozen?_setCell]; exact b⟩
  by_cases e2 : j = k
  · subst e2
    refine (World.cell?_setCell_same' w ⟨g, j, none⟩ _ (by rw [a]; rfl)).trans ?_
    rw [if_pos (by omega), e]
  · refine (World.cell?_setCell_other _ _ _ _ (by intro q; injection q with _ q; exact e2 q.symm)).trans (a.trans ?_)
    by_cases e1 : j < k
    · rw [if_pos e1, if_pos (by omega)]
    · rw [if_neg e1, if_neg (by omega)]
theorem ByR.all {n : Int} {s : ByteArray} {g : Nat} {w : World} (h : ByR n s g s.size w) : ∀ j (hj : j < (shS n s).length), w.cell? ((⟨g, 0, none⟩ : Addr).add j) = some (.int .u8 ((shS n s)[j].toNat : Int)) := by
  intro j hj
  have hj' : j < s.size := by rwa [shS_length] at hj
  have hadd : (⟨g, 0, none⟩ : Addr).add j = ⟨g, j, none⟩ := by unfold Addr.add; split <;> simp_all
  rw [hadd, (h j hj').1, if_pos hj', shS_at]

set_option maxRecDepth 100000 in
set_option maxHeartbeats 1000000 in
theorem replaced_any (n : Int) (s : ByteArray) (g : Nat) (w : World) (hg : w.cell? ⟨g, 0, none⟩ = some (I n)) (hgb : g < w.heap.size) (hs : s.size ≤ 200) (h1 : -100 ≤ n) (h2 : n ≤ 100) :
    Calls Try.prog 125 #[.string s, .func (.func 126) #[] #[.pointer (some ⟨g, 0, none⟩)]] w fun e w' => e = .returned (.string ⟨(shS n s).toArray⟩) ∧ Below w.heap.size w w' := by
  have hconv := run_bytes_of_string (P := Try.prog) w 9 83 5 s Try.underlying9 Try.underlying83 Try.underlying5
  generalize hC : bytesRow s (grownCap w s.size 0 5) = C at hconv
  generalize grownCap w s.size 0 5 = cap at hconv hC
  obtain ⟨w1, hw1⟩ : ∃ w1, w1 = w.drew.alloc (.cells C 5 (C.size, C.size + 1)) := ⟨_, rfl⟩
  rw [← hw1] at hconv
  have hR : ByR n s w.heap.size 0 w1 := by
    intro j hj
    rw [hw1]
    refine ⟨(World.cell?_alloc_mark w.drew C _ _ j).trans ?_, (World.frozen?_alloc_mark w.drew C _ _ _ j).trans ?_⟩
    · rw [← hC, bytesRow_at s cap j hj, if_neg (by omega), bys_at s j hj]
    · have : s.size ≤ C.size := by rw [← hC]; simp [bytesRow]
      simp; omega
  have hb1 : Below w.heap.size w w1 := by rw [hw1]; exact (Below.refl _ _).drew.alloc (Nat.le_refl _) _
  have HR := Lib.hid hR
  clear hw1 hC hR
  go_enter Try.func125, Try.ntmps125
  go_wp2_with fail
  go_loopw [6, 13] (fun c i wr => ∃ k m : Nat, k ≤ s.size ∧ m ≤ k ∧ i = .int .i64 k ∧ c = .int .i64 m ∧ Hid (ByR n s w.heap.size k wr) ∧ Below w.heap.size w wr) (fun _ i _ => s.size - (intOf i).toNat)
  case atStart => exact ⟨0, 0, Nat.zero_le _, Nat.le_refl _, rfl, rfl, HR, hb1⟩
  case round =>
    obtain ⟨k, m, hk, hm, rfl, rfl, HK, hB⟩ := hrel
    have hgX := (hB.cell (p := ⟨g, 0, none⟩) hgb).trans hg
    by_cases hlt : k < s.size
    · obtain ⟨hc, hf⟩ := HK.out k hlt
      rw [if_neg (Nat.lt_irrefl k)] at hc
      have hbd := bys_bounds s k
      have q1 := hbd.1
      have q2 := hbd.2
      clear hbd
      generalize hbv : nth (bys s) k = b at *
      have HV := Lib.hid hbv
      clear hbv
      cases hq : wi b 97 122
      · have H2 := Lib.hid (show shB n b = b by rw [shB, hq]; rfl)
        go_wp2_with (go_at_call 65; refine (within_any _ _ _ _).mono ?_; rintro e w' ⟨rfl, rfl⟩; rw [hq])
        go_roundw
        case rel => exact ⟨k + 1, m, by omega, by omega, by go_num, rfl, Lib.hid (ByR.same HK.out (by rw [HV.out]; exact H2.out)), hB⟩
        case measure => simp [intOf]; omega
      · have hr : 97 ≤ b ∧ b ≤ 122 := by simpa [wi] using hq
        have r1 := hr.1
        have r2 := hr.2
        have H2 := Lib.hid (show shB n b = ltrI (b - 97 + n) by rw [shB, hq]; rfl)
        have eu : IntKind.u8.wrap (b - 97) = b - 97 := by rw [IntKind.wrap_u8]; omega
        clear hr
        go_wp2_with (first
          | (go_at_call 65; refine (within_any _ _ _ _).mono ?_; rintro e w' ⟨rfl, rfl⟩; rw [hq])
          | (go_at_call 126; refine (shiftLit_any n g _ _ hgX).mono ?_; rintro e w3 ⟨rfl, rfl⟩)
          | (go_at_call 149; go_must (refine (letter_any (b - 97 + n) _).mono ?_); rintro e w4 ⟨rfl, rfl⟩))
        go_roundw
        case rel => exact ⟨k + 1, m + 1, by omega, by omega, by go_num, by go_num, Lib.hid (ByR.step HK.out hlt (by rw [HV.out]; exact H2.out)), hB.setCell (Nat.le_refl _) _⟩
        case measure => simp [intOf]; omega
    · obtain rfl : k = s.size := by omega
      have hback := run_convert_bytes_back (P := Try.prog) wr 83 9 5 ⟨w.heap.size, 0, none⟩ cap (shS n s) Try.underlying83 Try.underlying5 Try.underlying9 (ByR.all HK.out)
      rw [shS_length] at hback
      go_wp2_with fail
      go_ret
      exact ⟨rfl, hB⟩
end Go.Proofs.Ytglkjiimmlobbaa

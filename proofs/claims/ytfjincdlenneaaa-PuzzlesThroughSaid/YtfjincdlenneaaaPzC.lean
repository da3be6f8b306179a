/-
  CONTRACTS: letter, shift and puzzles.Shift.
  CONTRACT: puzzles.Shift where it is allowed.
  CONTRACTS: mix$1, AreLetters, isKey, checkText; the text that a function moves on, letter by letter.
  CONTRACTS: replaced with mix, mix, isKey, puzzles.Shift and puzzles.Mix in all cases.
  CONTRACTS: checkText, puzzles.Shift and puzzles.Mix in all cases.
-/
import Derived.Test.YtfjincdlenneaaaPzB
import Derived.Laws.IdiomStrings
/-
  CONTRACTS: letter, shift and puzzles.Shift.
-/
namespace Go.Proofs.Ytfjincdlenneaaa
open Go.RowKit Go.Shelf
/-- a letter by its number -/
def ltrI (n : Int) : Int := 97 + n % 26
theorem ltr_bounds (n : Int) : 97 ≤ ltrI n ∧ ltrI n ≤ 122 := by rw [ltrI]; omega
theorem tmod_mod (n : Int) : n.tmod 26 % 26 = n % 26 := by have := Int.mul_tdiv_add_tmod n 26; omega
theorem letter_any (n : Int) (w : World) :
    Calls Try.prog 149 #[I n] w fun e w' => e = .returned (.int .u8 (ltrI n)) ∧ w' = w := by
  have b1 : -26 < n.tmod 26 := Int.lt_tmod_of_pos n (by decide)
  have b2 : n.tmod 26 < 26 := Int.tmod_lt_of_pos n (by decide)
  have b3 := Int.tmod_nonneg (a := n.tmod 26 + 26) 26 (by omega)
  have b4 := Int.tmod_lt_of_pos (n.tmod 26 + 26) (b := 26) (by decide)
  go_enter Try.func149, Try.ntmps149
  go_wp2
  go_ret
  have e : ltrI n = 97 + n.tmod 26 % 26 := by rw [ltrI, tmod_mod]
  exact ⟨by rw [e]; rfl, rfl⟩
/-- a byte that goes on by n letters -/
def shB (n b : Int) : Int := if wi b 97 122 then ltrI (b - 97 + n) else b
theorem shiftLit_any (n : Int) (g : Nat) (i : Int) (w : World) (hg : w.cell? ⟨g, 0, none⟩ = some (I n)) :
    Calls Try.prog 126 #[I i, .pointer (some ⟨g, 0, none⟩)] w fun e w' => e = .returned (I n) ∧ w' = w := by
  go_enter Try.func126, Try.ntmps126
  go_wp2
  go_ret
  exact ⟨rfl, rfl⟩
theorem shB_bounds {n b : Int} (h : 0 ≤ b ∧ b ≤ 255) : 0 ≤ shB n b ∧ shB n b ≤ 255 := by
  have := ltr_bounds (b - 97 + n)
  rw [shB]
  split <;> omega
/-- the bytes of a text -/
def bys (s : ByteArray) : List Int := s.data.toList.map (fun b => (b.toNat : Int))
theorem bys_length (s : ByteArray) : (bys s).length = s.size := by simp [bys]
theorem bys_at (s : ByteArray) (j : Nat) (h : j < s.data.size) : nth (bys s) j = (s.data[j].toNat : Int) := by
  rw [nth_lt (by simpa [bys] using h)]
  simp [bys]
theorem bys_bounds (s : ByteArray) (j : Nat) : 0 ≤ nth (bys s) j ∧ nth (bys s) j ≤ 255 := by
  rcases Nat.lt_or_ge j s.data.size with h | h
  · rw [bys_at s j h]
    have := s.data[j].toNat_lt
    omega
  · rw [nth, List.getElem?_eq_none (by simpa [bys] using h)]
    simp
/-- a text that has gone on by n letters -/
def shS (n : Int) (s : ByteArray) : List UInt8 := s.data.toList.map (fun b => UInt8.ofNat (shB n (b.toNat : Int)).toNat)
theorem shS_length (n : Int) (s : ByteArray) : (shS n s).length = s.size := by simp [shS]
theorem shS_at (n : Int) (s : ByteArray) (j : Nat) (h : j < (shS n s).length) : ((shS n s)[j].toNat : Int) = shB n (nth (bys s) j) := by
  have hj : j < s.data.size := by simpa [shS] using h
  have hb := shB_bounds (n := n) (bys_bounds s j)
  rw [bys_at s j hj] at hb ⊢
  simp only [shS, List.getElem_map, Array.getElem_toList]
  rw [UInt8.toNat_ofNat_of_lt' (by simp; omega)]
  omega
/-- a row of bytes, the first k of which have gone on -/
def ByR (n : Int) (s : ByteArray) (g k : Nat) (w : World) : Prop :=
  ∀ j, j < s.size → w.cell? ⟨g, j, none⟩ = some (.int .u8 (if j < k then shB n (nth (bys s) j) else nth (bys s) j)) ∧ w.frozen? ⟨g, j, none⟩ = false

theorem ByR.same {n : Int} {s : ByteArray} {g k : Nat} {w : World} (h : ByR n s g k w) (e : shB n (nth (bys s) k) = nth (bys s) k) : ByR n s g (k + 1) w := by
  intro j hj
  obtain ⟨a, b⟩ := h j hj
  refine ⟨a.trans ?_, b⟩
  by_cases e1 : j < k
  · rw [if_pos e1, if_pos (by omega)]
  · by_cases e2 : j = k
    · subst e2; rw [if_neg e1, if_pos (by omega), e]
    · rw [if_neg e1, if_neg (by omega)]
theorem ByR.step {n : Int} {s : ByteArray} {g k : Nat} {w : World} {v : Int} (h : ByR n s g k w) (hk : k < s.size) (e : shB n (nth (bys s) k) = v) : ByR n s g (k + 1) (w.setCell ⟨g, k, none⟩ (.int .u8 v)) := by
  intro j hj
  obtain ⟨a, b⟩ := h j hj
  refine ⟨?_, by rw [World.frozen?_setCell]; exact b⟩
  by_cases e2 : j = k
  · subst e2
    refine (World.cell?_setCell_same' w ⟨g, j, none⟩ _ (by rw [a]; rfl)).trans ?_
    rw [if_pos (by omega), e]
  · refine (World.cell?_setCell_other _ _ _ _ (by intro q; injection q with _ q; exact e2 q.symm)).trans (a.trans ?_)
    by_cases e1 : j < k
    · rw [if_pos e1, if_pos (by omega)]
    · rw [if_neg e1, if_neg (by omega)]
theorem ByR.all {n : Int} {s : ByteArray} {g : Nat} {w : World} (h : ByR n s g s.size w) : ∀ j (hj : j < (shS n s).length), w.cell? ((⟨g, 0, none⟩ : Addr).add j) = some (.int .u8 ((shS n s)[j].toNat : Int)) := by
  intro j hj
  have hj' : j < s.size := by rwa [shS_length] at hj
  have hadd : (⟨g, 0, none⟩ : Addr).add j = ⟨g, j, none⟩ := by unfold Addr.add; split <;> simp_all
  rw [hadd, (h j hj').1, if_pos hj', shS_at]

set_option maxRecDepth 100000 in
set_option maxHeartbeats 1000000 in
theorem replaced_any (n : Int) (s : ByteArray) (g : Nat) (w : World) (hg : w.cell? ⟨g, 0, none⟩ = some (I n)) (hgb : g < w.heap.size) (hs : s.size ≤ 200) (h1 : -100 ≤ n) (h2 : n ≤ 100) :
    Calls Try.prog 125 #[.string s, .func (.func 126) #[] #[.pointer (some ⟨g, 0, none⟩)]] w fun e w' => e = .returned (.string ⟨(shS n s).toArray⟩) ∧ Below w.heap.size w w' := by
  have hconv := run_bytes_of_string (P := Try.prog) w 9 83 5 s Try.underlying9 Try.underlying83 Try.underlying5
  generalize hC : bytesRow s (grownCap w s.size 0 5) = C at hconv
  generalize grownCap w s.size 0 5 = cap at hconv hC
  obtain ⟨w1, hw1⟩ : ∃ w1, w1 = w.drew.alloc (.cells C 5 (C.size, C.size + 1)) := ⟨_, rfl⟩
  rw [← hw1] at hconv
  have hR : ByR n s w.heap.size 0 w1 := by
    intro j hj
    rw [hw1]
    refine ⟨(World.cell?_alloc_mark w.drew C _ _ j).trans ?_, (World.frozen?_alloc_mark w.drew C _ _ _ j).trans ?_⟩
    · rw [← hC, bytesRow_at s cap j hj, if_neg (by omega), bys_at s j hj]
    · have : s.size ≤ C.size := by rw [← hC]; simp [bytesRow]
      simp; omega
  have hb1 : Below w.heap.size w w1 := by rw [hw1]; exact (Below.refl _ _).drew.alloc (Nat.le_refl _) _
  have HR := Lib.hid hR
  clear hw1 hC hR
  go_enter Try.func125, Try.ntmps125
  go_wp2_with fail
  go_loopw [6, 13] (fun c i wr => ∃ k m : Nat, k ≤ s.size ∧ m ≤ k ∧ i = .int .i64 k ∧ c = .int .i64 m ∧ Hid (ByR n s w.heap.size k wr) ∧ Below w.heap.size w wr) (fun _ i _ => s.size - (intOf i).toNat)
  case atStart => exact ⟨0, 0, Nat.zero_le _, Nat.le_refl _, rfl, rfl, HR, hb1⟩
  case round =>
    obtain ⟨k, m, hk, hm, rfl, rfl, HK, hB⟩ := hrel
    have hgX := (hB.cell (p := ⟨g, 0, none⟩) hgb).trans hg
    by_cases hlt : k < s.size
    · obtain ⟨hc, hf⟩ := HK.out k hlt
      rw [if_neg (Nat.lt_irrefl k)] at hc
      have hbd := bys_bounds s k
      have q1 := hbd.1
      have q2 := hbd.2
      clear hbd
      generalize hbv : nth (bys s) k = b at *
      have HV := Lib.hid hbv
      clear hbv
      cases hq : wi b 97 122
      · have H2 := Lib.hid (show shB n b = b by rw [shB, hq]; rfl)
        go_wp2_with (go_at_call 65; refine (within_any _ _ _ _).mono ?_; rintro e w' ⟨rfl, rfl⟩; rw [hq])
        go_roundw
        case rel => exact ⟨k + 1, m, by omega, by omega, by go_num, rfl, Lib.hid (ByR.same HK.out (by rw [HV.out]; exact H2.out)), hB⟩
        case measure => simp [intOf]; omega
      · have hr : 97 ≤ b ∧ b ≤ 122 := by simpa [wi] using hq
        have r1 := hr.1
        have r2 := hr.2
        have H2 := Lib.hid (show shB n b = ltrI (b - 97 + n) by rw [shB, hq]; rfl)
        have eu : IntKind.u8.wrap (b - 97) = b - 97 := by rw [IntKind.wrap_u8]; omega
        clear hr
        go_wp2_with (first
          | (go_at_call 65; refine (within_any _ _ _ _).mono ?_; rintro e w' ⟨rfl, rfl⟩; rw [hq])
          | (go_at_call 126; refine (shiftLit_any n g _ _ hgX).mono ?_; rintro e w3 ⟨rfl, rfl⟩)
          | (go_at_call 149; go_must (refine (letter_any (b - 97 + n) _).mono ?_); rintro e w4 ⟨rfl, rfl⟩))
        go_roundw
        case rel => exact ⟨k + 1, m + 1, by omega, by omega, by go_num, by go_num, Lib.hid (ByR.step HK.out hlt (by rw [HV.out]; exact H2.out)), hB.setCell (Nat.le_refl _) _⟩
        case measure => simp [intOf]; omega
    · obtain rfl : k = s.size := by omega
      have hback := run_convert_bytes_back (P := Try.prog) wr 83 9 5 ⟨w.heap.size, 0, none⟩ cap (shS n s) Try.underlying83 Try.underlying5 Try.underlying9 (ByR.all HK.out)
      rw [shS_length] at hback
      go_wp2_with fail
      go_ret
      exact ⟨rfl, hB⟩
end Go.Proofs.Ytfjincdlenneaaa
/-
  CONTRACT: puzzles.Shift where it is allowed.
-/
namespace Go.Proofs.Ytfjincdlenneaaa
open Go.RowKit Go.Shelf
theorem shift_any (n : Int) (s : ByteArray) (w : World) (hs : s.size ≤ 200) (h1 : -100 ≤ n) (h2 : n ≤ 100) :
    Calls Try.prog 66 #[.string s, I n] w fun e w' => e = .returned (.string ⟨(shS n s).toArray⟩) ∧ Below w.heap.size w w' := by
  have hb1 : Below w.heap.size w (w.alloc (.cells #[I n] 3)) := (Below.refl _ _).alloc (Nat.le_refl _) _
  have hg : (w.alloc (.cells #[I n] 3)).cell? ⟨w.heap.size, 0, none⟩ = some (I n) := alloc_cell _ _ _ 0
  go_enter Try.func66, Try.ntmps66
  go_wp2_with (go_at_call 125; go_must (refine (replaced_any n s _ _ hg (by simp) hs h1 h2).mono ?_); rintro e w' ⟨rfl, hb⟩)
  go_ret
  exact ⟨rfl, hb1.trans (hb.mono (by simp))⟩
theorem checkText_ok (s : ByteArray) (w : World) (hs : s.size ≤ 200) :
    Calls Try.prog 63 #[.string s] w fun e w' => e = .returned (I 0) ∧ w' = w := by
  go_enter Try.func63, Try.ntmps63
  go_wp2_with (go_at_call 64; refine (unless_any _ _ _).mono ?_; rintro e w' ⟨rfl, rfl⟩)
  go_ret
  exact ⟨ret_int (by simp), rfl⟩

set_option maxHeartbeats 400000 in
theorem pShift_ok (n : Int) (s : ByteArray) (w : World) (hs : s.size ≤ 200) (h1 : -100 ≤ n) (h2 : n ≤ 100) :
    Calls Try.prog 19 #[.string s, I n] w fun e w' => e = .returned (.tuple #[.string ⟨(shS n s).toArray⟩, I 0]) ∧ Below w.heap.size w w' := by
  have hq : wi n (-100) 100 = true := by simp [wi]; omega
  have hb1 : Below w.heap.size w (w.alloc (.cells ((([0, 0] : List Int).map I).toArray) 25)) := (Below.refl _ _).alloc (Nat.le_refl _) _
  go_enter Try.func19, Try.ntmps19
  go_wp2_with (first
    | (go_at_call 63; refine (checkText_ok s _ hs).mono ?_; rintro e w2 ⟨rfl, rfl⟩)
    | (go_at_call 65; refine (within_any _ _ _ _).mono ?_; rintro e w' ⟨rfl, rfl⟩; rw [hq])
    | (go_at_call 64; refine (unless_any _ _ _).mono ?_; rintro e w3 ⟨rfl, rfl⟩)
    | (go_at_call 62; go_must (refine (first_any _ _ [0, 0] _ ?_ ?_).mono ?_); go_must (exact ints_new _ [0, 0] _); go_must (simp [maxLen]); rintro e w4 ⟨rfl, rfl⟩)
    | (go_at_call 66; refine (shift_any n s _ hs h1 h2).mono ?_; rintro e w5 ⟨rfl, hb⟩))
  go_ret2
  exact ⟨rfl, hb1.trans (hb.mono (by simp))⟩
end Go.Proofs.Ytfjincdlenneaaa
/-
  CONTRACTS: mix$1, AreLetters, isKey, checkText; the text that a function moves on, letter by letter.
-/
namespace Go.Proofs.Ytfjincdlenneaaa
open Go.RowKit Go.Shelf
/-- how many letters there are among the first j bytes -/
def lc (s : ByteArray) (j : Nat) : Nat := ((bys s).take j).countP (fun b => wi b 97 122)
theorem lc_zero (s : ByteArray) : lc s 0 = 0 := by simp [lc]
theorem lc_succ (s : ByteArray) (j : Nat) (h : j < s.size) : lc s (j + 1) = if wi (nth (bys s) j) 97 122 then lc s j + 1 else lc s j := by
  have hj : j < (bys s).length := by rwa [bys_length]
  rw [lc, List.take_add_one, List.getElem?_eq_getElem hj, List.countP_append, nth_lt hj]
  simp only [Option.toList_some, List.countP_cons, List.countP_nil]
  split <;> simp_all [lc]
theorem lc_le (s : ByteArray) (j : Nat) : lc s j ≤ j := by
  refine Nat.le_trans List.countP_le_length ?_
  rw [List.length_take]; omega
/-- a byte of a text of which each letter has gone on -/
def mvB (F : Nat → Int) (s : ByteArray) (j : Nat) : Int := shB (F (lc s j)) (nth (bys s) j)
def mvS (F : Nat → Int) (s : ByteArray) : List UInt8 := (List.range s.size).map fun j => UInt8.ofNat (mvB F s j).toNat
theorem mvS_length (F : Nat → Int) (s : ByteArray) : (mvS F s).length = s.size := by simp [mvS]
theorem mvB_bounds (F : Nat → Int) (s : ByteArray) (j : Nat) : 0 ≤ mvB F s j ∧ mvB F s j ≤ 255 := shB_bounds (bys_bounds s j)
theorem mvS_at (F : Nat → Int) (s : ByteArray) (j : Nat) (h : j < (mvS F s).length) : ((mvS F s)[j].toNat : Int) = mvB F s j := by
  have hb := mvB_bounds F s j
  simp only [mvS, List.getElem_map, List.getElem_range]
  rw [UInt8.toNat_ofNat_of_lt' (by simp; omega)]
  omega
theorem u8_ext {l m : List UInt8} (h : l.length = m.length) (e : ∀ j (h1 : j < l.length) (h2 : j < m.length), ((l[j]).toNat : Int) = ((m[j]).toNat : Int)) : l = m := by
  refine List.ext_getElem h fun j h1 h2 => UInt8.toNat_inj.1 ?_
  have := e j h1 h2
  omega
theorem shS_eq (n : Int) (s : ByteArray) : shS n s = mvS (fun _ => n) s := by
  refine u8_ext (by rw [shS_length, mvS_length]) fun j h1 h2 => ?_
  rw [shS_at, mvS_at]; rfl
/-- what mix moves a letter by -/
def mixF (key : ByteArray) (back : Bool) (m : Nat) : Int := if back then -(nth (bys key) (m % key.size) - 97) else nth (bys key) (m % key.size) - 97
def isKeyB (key : ByteArray) : Bool := wi key.size 1 12 && (bys key).all (fun b => wi b 97 122)
theorem key_at {key : ByteArray} (h : isKeyB key = true) (j : Nat) (hj : j < key.size) : 97 ≤ nth (bys key) j ∧ nth (bys key) j ≤ 122 := by
  simp only [isKeyB, Bool.and_eq_true, List.all_eq_true] at h
  have hj' : j < (bys key).length := by rwa [bys_length]
  have := h.2 _ (List.getElem_mem hj')
  rw [nth_lt hj']
  simpa [wi] using this
theorem key_size {key : ByteArray} (h : isKeyB key = true) : 1 ≤ key.size ∧ key.size ≤ 12 := by
  simp only [isKeyB, Bool.and_eq_true, wi, decide_eq_true_eq] at h
  omega
theorem mixF_bounds {key : ByteArray} (h : isKeyB key = true) (back : Bool) (m : Nat) : -25 ≤ mixF key back m ∧ mixF key back m ≤ 25 := by
  have := key_at h (m % key.size) (Nat.mod_lt _ (key_size h).1)
  rw [mixF]
  split <;> omega
theorem sidx (s : ByteArray) (j : Nat) (h : j < s.size) : ((s[j]'h).toNat : Int) = nth (bys s) j := by
  rw [bys_at s j h]; rfl

set_option maxHeartbeats 1000000 in
theorem mixLit_any (key : ByteArray) (back : Bool) (g1 g2 i : Nat) (w : World) (hg1 : w.cell? ⟨g1, 0, none⟩ = some (.string key)) (hg2 : w.cell? ⟨g2, 0, none⟩ = some (.bool back)) (hk : isKeyB key = true) (hi : i ≤ 1000) :
    Calls Try.prog 128 #[I i, .pointer (some ⟨g1, 0, none⟩), .pointer (some ⟨g2, 0, none⟩)] w fun e w' => e = .returned (I (mixF key back i)) ∧ Below w.heap.size w w' := by
  have hs := key_size hk
  obtain ⟨m, hm⟩ : ∃ m, m = i % key.size := ⟨_, rfl⟩
  have hlt : m < key.size := by rw [hm]; exact Nat.mod_lt _ hs.1
  have hb := key_at hk _ hlt
  have q1 := hb.1
  have q2 := hb.2
  have he : (i : Int) % (key.size : Int) = (m : Int) := by rw [hm]; rfl
  have hx := sidx key _ hlt
  have hz1 := hs.1
  have hz2 := hs.2
  obtain ⟨b, hbv⟩ : ∃ b, b = nth (bys key) m := ⟨_, rfl⟩
  rw [← hbv] at hx q1 q2
  have HB := Lib.hid (show mixF key back i = if back then -(b - 97) else b - 97 by rw [hbv, hm]; rfl)
  have eu : IntKind.u8.wrap (b - 97) = b - 97 := by rw [IntKind.wrap_u8]; omega
  have hn1 : key.size ≠ 0 := by omega
  have hn2 : ¬ (key.size : Int) = 0 := by omega
  have hn4 : ¬ key = ByteArray.empty := by intro e; subst e; exact hn1 rfl
  have hn3 : ((key.size : Int) == 0) = false := by simp; exact hn4
  clear hb hbv hk hs hm
  cases back
  all_goals
    go_enter Try.func128, Try.ntmps128
    go_wp2
    go_quiet (fail)
    go_wp2
    go_ret
  · exact ⟨ret_int (by rw [HB.out]; rfl), below_drewN (Below.refl _ _) _⟩
  · exact ⟨ret_int (by rw [HB.out]; rfl), below_drewN (Below.refl _ _) _⟩

set_option maxHeartbeats 1000000 in
theorem areLetters_any (s : ByteArray) (w : World) (hs : s.size ≤ maxLen) :
    Calls Try.prog 127 #[.string s] w fun e w' => e = .returned (.bool ((bys s).all (fun b => wi b 97 122))) ∧ w' = w := by
  unfold maxLen at hs
  have hbl := bys_length s
  go_enter Try.func127, Try.ntmps127
  go_wp2_with fail
  go_loop [6, 3] (fun i j => ∃ k : Nat, k ≤ s.size ∧ i = .int .i64 k ∧ Hid (((bys s).take k).all (fun b => wi b 97 122) = true)) (fun i j => s.size - (intOf i).toNat)
  case atStart => exact ⟨0, Nat.zero_le _, rfl, Lib.hid rfl⟩
  case round =>
    obtain ⟨k, hk, rfl, HA⟩ := hrel
    by_cases hlt : k < s.size
    · have hx := sidx s k hlt
      have hkl : k < (bys s).length := by omega
      obtain ⟨b, hbv⟩ : ∃ b, b = nth (bys s) k := ⟨_, rfl⟩
      rw [← hbv] at hx
      have HV := Lib.hid hbv
      have hbb := bys_bounds s k
      rw [← hbv] at hbb
      have q1 := hbb.1
      have q2 := hbb.2
      clear hbv hbb
      cases hp : wi b 97 122
      · have H2 := Lib.hid (show (bys s).all (fun b => wi b 97 122) = false from not_all (fun b => wi b 97 122) _ k hkl (by rw [← HV.out]; exact hp))
        go_wp2_with (go_at_call 65; refine (within_any _ _ _ _).mono ?_; rintro e w' ⟨rfl, rfl⟩; rw [hp])
        go_ret
        exact ⟨ret_bool H2.out.symm, rfl⟩
      · go_wp2_with (go_at_call 65; refine (within_any _ _ _ _).mono ?_; rintro e w' ⟨rfl, rfl⟩; rw [hp])
        go_round
        case rel => exact ⟨k + 1, by omega, by go_num, Lib.hid (all_take_snoc (fun b => wi b 97 122) _ k hkl HA.out (by rw [← HV.out]; exact hp))⟩
        case measure => simp [intOf]; omega
    · obtain rfl : k = s.size := by omega
      go_wp2
      go_ret
      exact ⟨ret_bool (by have := HA.out; rw [← hbl, List.take_length] at this; exact this.symm), rfl⟩
end Go.Proofs.Ytfjincdlenneaaa
/-
  CONTRACTS: replaced with mix, mix, isKey, puzzles.Shift and puzzles.Mix in all cases.
-/
namespace Go.Proofs.Ytfjincdlenneaaa
open Go.RowKit Go.Shelf
/-- a row of bytes, the first k of which have gone on -/
def ByF (F : Nat → Int) (s : ByteArray) (g k : Nat) (w : World) : Prop :=
  ∀ j, j < s.size → w.cell? ⟨g, j, none⟩ = some (.int .u8 (if j < k then mvB F s j else nth (bys s) j)) ∧ w.frozen? ⟨g, j, none⟩ = false
theorem ByF.below {F : Nat → Int} {s : ByteArray} {g k B : Nat} {w w' : World} (h : ByF F s g k w) (hb : Below B w w') (hg : g < B) : ByF F s g k w' :=
  fun j hj => ⟨(hb.cell (p := ⟨g, j, none⟩) hg).trans (h j hj).1, (hb.frozen (p := ⟨g, j, none⟩) hg).trans (h j hj).2⟩
theorem ByF.same {F : Nat → Int} {s : ByteArray} {g k : Nat} {w : World} (h : ByF F s g k w) (e : mvB F s k = nth (bys s) k) : ByF F s g (k + 1) w := by
  intro j hj
  obtain ⟨a, b⟩ := h j hj
  refine ⟨a.trans ?_, b⟩
  by_cases e1 : j < k
  · rw [if_pos e1, if_pos (by omega)]
  · by_cases e2 : j = k
    · subst e2; rw [if_neg e1, if_pos (by omega), e]
    · rw [if_neg e1, if_neg (by omega)]
theorem ByF.step {F : Nat → Int} {s : ByteArray} {g k : Nat} {w : World} {v : Int} (h : ByF F s g k w) (e : mvB F s k = v) : ByF F s g (k + 1) (w.setCell ⟨g, k, none⟩ (.int .u8 v)) := by
  intro j hj
  obtain ⟨a, b⟩ := h j hj
  refine ⟨?_, by rw [World.frozen?_setCell]; exact b⟩
  by_cases e2 : j = k
  · subst e2
    refine (World.cell?_setCell_same' w ⟨g, j, none⟩ _ (by rw [a]; rfl)).trans ?_
    rw [if_pos (by omega), e]
  · refine (World.cell?_setCell_other _ _ _ _ (by intro q; injection q with _ q; exact e2 q.symm)).trans (a.trans ?_)
    by_cases e1 : j < k
    · rw [if_pos e1, if_pos (by omega)]
    · rw [if_neg e1, if_neg (by omega)]
theorem ByF.all {F : Nat → Int} {s : ByteArray} {g : Nat} {w : World} (h : ByF F s g s.size w) : ∀ j (hj : j < (mvS F s).length), w.cell? ((⟨g, 0, none⟩ : Addr).add j) = some (.int .u8 ((mvS F s)[j].toNat : Int)) := by
  intro j hj
  have hj' : j < s.size := by rwa [mvS_length] at hj
  have hadd : (⟨g, 0, none⟩ : Addr).add j = ⟨g, j, none⟩ := by unfold Addr.add; split <;> simp_all
  rw [hadd, (h j hj').1, if_pos hj', mvS_at]
/-- a text that a mix gives -/
abbrev mixS (key : ByteArray) (back : Bool) (s : ByteArray) : ByteArray := ⟨(mvS (mixF key back) s).toArray⟩

set_option maxRecDepth 100000 in
set_option maxHeartbeats 1000000 in
theorem replacedMix_any (key : ByteArray) (back : Bool) (s : ByteArray) (g1 g2 : Nat) (w : World) (hg1 : w.cell? ⟨g1, 0, none⟩ = some (.string key)) (hg2 : w.cell? ⟨g2, 0, none⟩ = some (.bool back)) (hgb1 : g1 < w.heap.size) (hgb2 : g2 < w.heap.size) (hs : s.size ≤ 200) (hkey : isKeyB key = true) :
    Calls Try.prog 125 #[.string s, .func (.func 128) #[] #[.pointer (some ⟨g1, 0, none⟩), .pointer (some ⟨g2, 0, none⟩)]] w fun e w' => e = .returned (.string (mixS key back s)) ∧ Below w.heap.size w w' := by
  have hconv := run_bytes_of_string (P := Try.prog) w 9 83 5 s Try.underlying9 Try.underlying83 Try.underlying5
  generalize hC : bytesRow s (grownCap w s.size 0 5) = C at hconv
  generalize grownCap w s.size 0 5 = cap at hconv hC
  obtain ⟨w1, hw1⟩ : ∃ w1, w1 = w.drew.alloc (.cells C 5 (C.size, C.size + 1)) := ⟨_, rfl⟩
  rw [← hw1] at hconv
  have hR : ByF (mixF key back) s w.heap.size 0 w1 := by
    intro j hj
    rw [hw1]
    refine ⟨(World.cell?_alloc_mark w.drew C _ _ j).trans ?_, (World.frozen?_alloc_mark w.drew C _ _ _ j).trans ?_⟩
    · rw [← hC, bytesRow_at s cap j hj, if_neg (by omega), bys_at s j hj]
    · have : s.size ≤ C.size := by rw [← hC]; simp [bytesRow]
      simp; omega
  have hb1 : Below w.heap.size w w1 := by rw [hw1]; exact (Below.refl _ _).drew.alloc (Nat.le_refl _) _
  have hsz1 : w.heap.size < w1.heap.size := by rw [hw1]; simp
  have HR := Lib.hid hR
  clear hw1 hC hR
  go_enter Try.func125, Try.ntmps125
  go_wp2_with fail
  go_loopw [6, 13] (fun c i wr => ∃ k : Nat, k ≤ s.size ∧ i = .int .i64 k ∧ c = .int .i64 (lc s k : Nat) ∧ Hid (ByF (mixF key back) s w.heap.size k wr) ∧ Below w.heap.size w wr ∧ w.heap.size < wr.heap.size) (fun _ i _ => s.size - (intOf i).toNat)
  case atStart => exact ⟨0, Nat.zero_le _, rfl, rfl, HR, hb1, hsz1⟩
  case round =>
    obtain ⟨k, hk, rfl, rfl, HK, hB, hsz⟩ := hrel
    have hgX1 := (hB.cell (p := ⟨g1, 0, none⟩) hgb1).trans hg1
    have hgX2 := (hB.cell (p := ⟨g2, 0, none⟩) hgb2).trans hg2
    by_cases hlt : k < s.size
    · obtain ⟨hc, hf⟩ := HK.out k hlt
      rw [if_neg (Nat.lt_irrefl k)] at hc
      have hbd := bys_bounds s k
      have q1 := hbd.1
      have q2 := hbd.2
      have HS := Lib.hid (lc_succ s k hlt)
      have hml : lc s k ≤ 1000 := Nat.le_trans (lc_le s k) (by omega)
      have HM := Lib.hid (show mvB (mixF key back) s k = shB (mixF key back (lc s k)) (nth (bys s) k) from rfl)
      obtain ⟨m, hm⟩ : ∃ m, m = lc s k := ⟨_, rfl⟩
      rw [← hm] at HS HM hml
      rw [← hm]
      clear hbd hm
      obtain ⟨b, hbv⟩ : ∃ b, b = nth (bys s) k := ⟨_, rfl⟩
      rw [← hbv] at hc q1 q2 HM HS
      have HV := Lib.hid hbv
      clear hbv
      cases hq : wi b 97 122
      · have H2 := Lib.hid (show mvB (mixF key back) s k = nth (bys s) k by rw [HM.out, ← HV.out, shB, hq]; rfl)
        have HN := Lib.hid (show lc s (k + 1) = m by rw [HS.out, hq]; rfl)
        go_wp2_with (go_at_call 65; refine (within_any _ _ _ _).mono ?_; rintro e w' ⟨rfl, rfl⟩; rw [hq])
        go_roundw
        case rel => exact ⟨k + 1, by omega, by go_num, by rw [HN.out], Lib.hid (ByF.same HK.out H2.out), hB, hsz⟩
        case measure => simp [intOf]; omega
      · have hr : 97 ≤ b ∧ b ≤ 122 := by simpa [wi] using hq
        have r1 := hr.1
        have r2 := hr.2
        have hfb := mixF_bounds hkey back m
        have H2 := Lib.hid (show mvB (mixF key back) s k = ltrI (b - 97 + mixF key back m) by rw [HM.out, shB, hq]; rfl)
        have HN := Lib.hid (show lc s (k + 1) = m + 1 by rw [HS.out, hq]; rfl)
        have eu : IntKind.u8.wrap (b - 97) = b - 97 := by rw [IntKind.wrap_u8]; omega
        have hcall := mixLit_any key back g1 g2 m wr hgX1 hgX2 hkey hml
        obtain ⟨f, hfv⟩ : ∃ f, f = mixF key back m := ⟨_, rfl⟩
        rw [← hfv] at hfb H2 hcall
        have f1 := hfb.1
        have f2 := hfb.2
        have hadr : (⟨w.heap.size, k, none⟩ : Addr).block < wr.heap.size := hsz
        clear hr hfb hfv
        go_wp2_with (go_at_call 65; refine (within_any _ _ _ _).mono ?_; rintro e w' ⟨rfl, rfl⟩; rw [hq])
        refine hcall.mono ?_
        rintro e w3 ⟨rfl, hb3⟩
        have hc3 := (hb3.cell hadr).trans hc
        have hf3 := (hb3.frozen hadr).trans hf
        have HK3 := Lib.hid (ByF.below HK.out hb3 hsz)
        have hB3 : Below w.heap.size w w3 := hB.trans (hb3.mono hB.size)
        have hsz3 : w.heap.size < w3.heap.size := Nat.lt_of_lt_of_le hsz hb3.size
        clear hcall HK hc hf hgX1 hgX2 hb3
        go_wp2_with (go_at_call 149; go_must (refine (letter_any (b - 97 + f) _).mono ?_); rintro e w4 ⟨rfl, rfl⟩)
        go_roundw
        case rel => exact ⟨k + 1, by omega, by go_num, by rw [HN.out]; go_num, Lib.hid (ByF.step HK3.out H2.out), hB3.setCell (Nat.le_refl _) _, by simpa using hsz3⟩
        case measure => simp [intOf]; omega
    · obtain rfl : k = s.size := by omega
      have hback := run_convert_bytes_back (P := Try.prog) wr 83 9 5 ⟨w.heap.size, 0, none⟩ cap (mvS (mixF key back) s) Try.underlying83 Try.underlying5 Try.underlying9 (ByF.all HK.out)
      rw [mvS_length] at hback
      go_wp2_with fail
      go_ret
      exact ⟨rfl, hB⟩
theorem mix_any (key : ByteArray) (back : Bool) (s : ByteArray) (w : World) (hs : s.size ≤ 200) (hkey : isKeyB key = true) :
    Calls Try.prog 70 #[.string s, .string key, .bool back] w fun e w' => e = .returned (.string (mixS key back s)) ∧ Below w.heap.size w w' := by
  obtain ⟨w2, hw2⟩ : ∃ w2, w2 = (w.alloc (.cells #[.string key] 9)).alloc (.cells #[.bool back] 4) := ⟨_, rfl⟩
  have hb1 : Below w.heap.size w w2 := by rw [hw2]; exact ((Below.refl _ _).alloc (Nat.le_refl _) _).alloc (by simp) _
  have hs2 : w2.heap.size = w.heap.size + 2 := by rw [hw2]; simp
  have hg1 : w2.cell? ⟨w.heap.size, 0, none⟩ = some (.string key) := by
    rw [hw2]; exact (World.cell?_alloc_lt _ _ _ (by show w.heap.size < _; simp)).trans (alloc_cell _ _ _ 0)
  have hg2 : w2.cell? ⟨w.heap.size + 1, 0, none⟩ = some (.bool back) := by
    rw [hw2]
    simp
  have hcall := replacedMix_any key back s w.heap.size (w.heap.size + 1) w2 hg1 hg2 (by omega) (by omega) hs hkey
  go_enter Try.func70, Try.ntmps70
  go_wp2_with fail
  rw [← hw2]
  refine hcall.mono ?_
  rintro e w' ⟨rfl, hb⟩
  have hB := hb1.trans (hb.mono (by omega))
  clear hw2 hs2 hg1 hg2 hcall
  go_wp2
  go_ret
  exact ⟨rfl, hB⟩
theorem isKey_any (s : ByteArray) (w : World) (hs : s.size ≤ maxLen) :
    Calls Try.prog 69 #[.string s] w fun e w' => e = .returned (.bool (isKeyB s)) ∧ w' = w := by
  go_enter Try.func69, Try.ntmps69
  go_wp2_with fail
  refine (within_any _ _ _ _).mono ?_
  rintro e w' ⟨rfl, rfl⟩
  cases hq : wi s.size 1 12
  · have HM := Lib.hid (show isKeyB s = false by rw [isKeyB, hq]; rfl)
    clear hq
    go_wp2
    go_ret
    exact ⟨ret_bool HM.out.symm, rfl⟩
  · have HM := Lib.hid (show isKeyB s = (bys s).all (fun b => wi b 97 122) by rw [isKeyB, hq]; rfl)
    clear hq
    go_wp2_with fail
    refine (areLetters_any s w hs).mono ?_
    rintro e w' ⟨rfl, rfl⟩
    go_wp2
    go_ret
    exact ⟨ret_bool HM.out.symm, rfl⟩
end Go.Proofs.Ytfjincdlenneaaa
/-
  CONTRACTS: checkText, puzzles.Shift and puzzles.Mix in all cases.
-/
namespace Go.Proofs.Ytfjincdlenneaaa
open Go.RowKit Go.Shelf
def txE (s : ByteArray) : Int := if decide (s.size ≤ 200) then 0 else 2
theorem checkText_any (s : ByteArray) (w : World) (hs : s.size ≤ maxLen) :
    Calls Try.prog 63 #[.string s] w fun e w' => e = .returned (I (txE s)) ∧ w' = w := by
  unfold maxLen at hs
  cases hq : decide (s.size ≤ 200)
  · have H := Lib.hid (show txE s = 2 by rw [txE, hq]; rfl)
    have h1 : ¬ s.size ≤ 200 := by simpa using hq
    have g1 : decide ((s.size : Int) ≤ 200) = false := decide_eq_false (by omega)
    have h2 : ¬ (s.size : Int) ≤ 200 := by omega
    go_enter Try.func63, Try.ntmps63
    go_wp2_with (go_at_call 64; refine (unless_any _ _ _).mono ?_; rintro e w' ⟨rfl, rfl⟩)
    go_ret
    exact ⟨ret_int H.out.symm, rfl⟩
  · have H := Lib.hid (show txE s = 0 by rw [txE, hq]; rfl)
    have h1 : s.size ≤ 200 := by simpa using hq
    have g1 : decide ((s.size : Int) ≤ 200) = true := decide_eq_true (by omega)
    go_enter Try.func63, Try.ntmps63
    go_wp2_with (go_at_call 64; refine (unless_any _ _ _).mono ?_; rintro e w' ⟨rfl, rfl⟩)
    go_ret
    exact ⟨ret_int H.out.symm, rfl⟩
/-- the error of Shift -/
def shE (s : ByteArray) (n : Int) : Int := fstErr [txE s, if wi n (-100) 100 then 0 else 1]
def shV (s : ByteArray) (n : Int) : ByteArray := if shE s n = 0 then ⟨(shS n s).toArray⟩ else ⟨#[]⟩
theorem txE_cases (s : ByteArray) : txE s = 0 ∧ s.size ≤ 200 ∨ txE s = 2 ∧ ¬ s.size ≤ 200 := by
  by_cases h : s.size ≤ 200
  · exact .inl ⟨by simp [txE, h], h⟩
  · exact .inr ⟨by simp [txE, h], h⟩
theorem fst2 (a b : Int) : fstErr [a, b] = if a = 0 then (if b = 0 then 0 else b) else a := rfl
theorem shE_ok {s : ByteArray} {n : Int} (h : shE s n = 0) : s.size ≤ 200 ∧ wi n (-100) 100 = true := by
  rw [shE, fst2] at h
  rcases txE_cases s with ⟨h1, h2⟩ | ⟨h1, h2⟩
  · refine ⟨h2, ?_⟩
    rw [h1, if_pos rfl] at h
    cases hq : wi n (-100) 100
    · rw [hq] at h; exact absurd h (by decide)
    · rfl
  · rw [h1, if_neg (by decide)] at h; exact absurd h (by decide)


set_option maxHeartbeats 400000 in
theorem pShift_any (n : Int) (s : ByteArray) (w : World) (hs : s.size ≤ maxLen) :
    Calls Try.prog 19 #[.string s, I n] w fun e w' => e = .returned (.tuple #[.string (shV s n), I (shE s n)]) ∧ Below w.heap.size w w' := by
  obtain ⟨q, hq⟩ : ∃ q : Int, q = if wi n (-100) 100 then 0 else 1 := ⟨_, rfl⟩
  have HE := Lib.hid (show fstErr [txE s, q] = shE s n by rw [hq]; rfl)
  have HQ := Lib.hid hq
  clear hq
  have hcall := checkText_any s w hs
  obtain ⟨t, ht⟩ : ∃ t, t = txE s := ⟨_, rfl⟩
  rw [← ht] at hcall HE
  clear ht
  have hb1 : Below w.heap.size w (w.alloc (.cells ((([t, q] : List Int).map I).toArray) 25)) := (Below.refl _ _).alloc (Nat.le_refl _) _
  have HX := Lib.hid (fun h => @shE_ok s n h)
  obtain ⟨r, hr⟩ : ∃ r, r = shE s n := ⟨_, rfl⟩
  rw [← hr] at HE HX
  have HV := Lib.hid (show shV s n = if r = 0 then ⟨(shS n s).toArray⟩ else ⟨#[]⟩ by rw [hr]; rfl)
  rw [← hr]
  clear hr
  go_enter Try.func19, Try.ntmps19
  go_wp2_with (first
    | (go_at_call 63; refine hcall.mono ?_; rintro e w2 ⟨rfl, rfl⟩)
    | (go_at_call 65; refine (within_any _ _ _ _).mono ?_; rintro e w' ⟨rfl, rfl⟩)
    | (go_at_call 64; refine (unless_any _ _ _).mono ?_; rintro e w3 ⟨rfl, rfl⟩; rw [← HQ.out]; clear hcall)
    | (go_at_call 62; go_must (refine (first_any _ _ [t, q] _ ?_ ?_).mono ?_); go_must (exact ints_new _ [t, q] _); go_must (simp [maxLen]); rintro e w4 ⟨rfl, rfl⟩; rw [HE.out]; clear HE; by_cases hr0 : r = 0)
    | fail)
  · have hx := HX.out hr0
    have hx1 := hx.1
    have hw : -100 ≤ n ∧ n ≤ 100 := by simpa [wi] using hx.2
    have HV2 := Lib.hid (show shV s n = ⟨(shS n s).toArray⟩ by rw [HV.out, if_pos hr0])
    subst hr0
    clear HX HV hx
    go_wp2_with fail
    refine (shift_any n s _ hx1 hw.1 hw.2).mono ?_
    rintro e w5 ⟨rfl, hb⟩
    go_wp2
    go_ret2
    exact ⟨by rw [HV2.out]; rfl, hb1.trans (hb.mono (by simp))⟩
  · have HV2 := Lib.hid (show shV s n = ⟨#[]⟩ by rw [HV.out, if_neg hr0])
    have hr1 : (r != 0) = true := by simpa using hr0
    clear HX HV
    go_wp2_with fail
    go_ret2
    exact ⟨by rw [HV2.out]; rfl, hb1⟩
/-- the error of Mix -/
def mxE (s key : ByteArray) : Int := fstErr [txE s, if isKeyB key then 0 else 1]
def mxV (s key : ByteArray) (back : Bool) : ByteArray := if mxE s key = 0 then mixS key back s else ⟨#[]⟩
theorem mxE_ok {s key : ByteArray} (h : mxE s key = 0) : s.size ≤ 200 ∧ isKeyB key = true := by
  rw [mxE, fst2] at h
  rcases txE_cases s with ⟨h1, h2⟩ | ⟨h1, h2⟩
  · refine ⟨h2, ?_⟩
    rw [h1, if_pos rfl] at h
    cases hq : isKeyB key
    · rw [hq] at h; exact absurd h (by decide)
    · rfl
  · rw [h1, if_neg (by decide)] at h; exact absurd h (by decide)

set_option maxHeartbeats 400000 in
theorem pMix_any (s key : ByteArray) (back : Bool) (w : World) (hs : s.size ≤ maxLen) (hk : key.size ≤ maxLen) :
    Calls Try.prog 21 #[.string s, .string key, .bool back] w fun e w' => e = .returned (.tuple #[.string (mxV s key back), I (mxE s key)]) ∧ Below w.heap.size w w' := by
  obtain ⟨q, hq⟩ : ∃ q : Int, q = if isKeyB key then 0 else 1 := ⟨_, rfl⟩
  have HE := Lib.hid (show fstErr [txE s, q] = mxE s key by rw [hq]; rfl)
  have HQ := Lib.hid hq
  clear hq
  have hcall := checkText_any s w hs
  obtain ⟨t, ht⟩ : ∃ t, t = txE s := ⟨_, rfl⟩
  rw [← ht] at hcall HE
  clear ht
  have hb1 : Below w.heap.size w (w.alloc (.cells ((([t, q] : List Int).map I).toArray) 25)) := (Below.refl _ _).alloc (Nat.le_refl _) _
  have HX := Lib.hid (fun h => @mxE_ok s key h)
  obtain ⟨r, hr⟩ : ∃ r, r = mxE s key := ⟨_, rfl⟩
  rw [← hr] at HE HX
  have HV := Lib.hid (show mxV s key back = if r = 0 then mixS key back s else ⟨#[]⟩ by rw [hr]; rfl)
  rw [← hr]
  clear hr
  go_enter Try.func21, Try.ntmps21
  go_wp2_with (first
    | (go_at_call 63; refine hcall.mono ?_; rintro e w2 ⟨rfl, rfl⟩)
    | (go_at_call 69; refine (isKey_any key _ hk).mono ?_; rintro e w' ⟨rfl, rfl⟩)
    | (go_at_call 64; refine (unless_any _ _ _).mono ?_; rintro e w3 ⟨rfl, rfl⟩; rw [← HQ.out]; clear hcall)
    | (go_at_call 62; go_must (refine (first_any _ _ [t, q] _ ?_ ?_).mono ?_); go_must (exact ints_new _ [t, q] _); go_must (simp [maxLen]); rintro e w4 ⟨rfl, rfl⟩; rw [HE.out]; clear HE; by_cases hr0 : r = 0)
    | fail)
  · have hx := HX.out hr0
    have hx1 := hx.1
    have hx2 := hx.2
    have HV2 := Lib.hid (show mxV s key back = mixS key back s by rw [HV.out, if_pos hr0])
    subst hr0
    clear HX HV hx
    go_wp2_with fail
    refine (mix_any key back s _ hx1 hx2).mono ?_
    rintro e w5 ⟨rfl, hb⟩
    go_wp2
    go_ret2
    exact ⟨by rw [HV2.out]; rfl, hb1.trans (hb.mono (by simp))⟩
  · have HV2 := Lib.hid (show mxV s key back = ⟨#[]⟩ by rw [HV.out, if_neg hr0])
    have hr1 : (r != 0) = true := by simpa using hr0
    clear HX HV
    go_wp2_with fail
    go_ret2
    exact ⟨by rw [HV2.out]; rfl, hb1⟩
end Go.Proofs.Ytfjincdlenneaaa

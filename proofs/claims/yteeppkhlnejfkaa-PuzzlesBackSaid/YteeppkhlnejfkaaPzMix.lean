/-
  CONTRACTS: mix$1, AreLetters, isKey, checkText; the text that a function moves on, letter by letter.
-/
import Derived.Test.YteeppkhlnejfkaaPzShf
namespace Go.Proofs.Yteeppkhlnejfkaa
open Go.RowKit Go.Shelf
/-- how many letters there are among the first j bytes -/
def lc (s : ByteArray) (j : Nat) : Nat := ((bys s).take j).countP (fun b => wi b 97 122)
theorem lc_zero (s : ByteArray) : lc s 0 = 0 := by simp [lc]
theorem lc_succ (s : ByteArray) (j : Nat) (h : j < s.size) : lc s (j + 1) = if wi (nth (bys s) j) 97 122 then lc s j + 1 else lc s j := by
  have hj : j < (bys s).length := by rwa [bys_length]
  rw [lc, List.take_add_one, List.getElem?_eq_getElem hj, List.countP_append, nth_lt hj]
  simp only [Option.toList_some, List.countP_cons, List.countP_nil]
  split <;> simp_all [lc]
theorem lc_le (s : ByteArray) (j : Nat) : lc s j ≤ j := by
  refine Nat.le_trans List.countP_le_length ?_
  rw [List.length_take]; omega
/-- a byte of a text of which each letter has gone on -/
def mvB (F : Nat → Int) (s : ByteArray) (j : Nat) : Int := shB (F (lc s j)) (nth (bys s) j)
def mvS (F : Nat → Int) (s : ByteArray) : List UInt8 := (List.range s.size).map fun j => UInt8.ofNat (mvB F s j).toNat
theorem mvS_length (F : Nat → Int) (s : ByteArray) : (mvS F s).length = s.size := by simp [mvS]
theorem mvB_bounds (F : Nat → Int) (s : ByteArray) (j : Nat) : 0 ≤ mvB F s j ∧ mvB F s j ≤ 255 := shB_bounds (bys_bounds s j)
theorem mvS_at (F : Nat → Int) (s : ByteArray) (j : Nat) (h : j < (mvS F s).length) : ((mvS F s)[j].toNat : Int) = mvB F s j := by
  have hb := mvB_bounds F s j
  simp only [mvS, List.getElem_map, List.getElem_range]
  rw [UInt8.toNat_ofNat_of_lt' (by simp; omega)]
  omega
theorem u8_ext {l m : List UInt8} (h : l.length = m.length) (e : ∀ j (h1 : j < l.length) (h2 : j < m.length), ((l[j]).toNat : Int) = ((m[j]).toNat : Int)) : l = m := by
  refine List.ext_getElem h fun j h1 h2 => UInt8.toNat_inj.1 ?_
  have := e j h1 h2
  omega
theorem shS_eq (n : Int) (s : ByteArray) : shS n s = mvS (fun _ => n) s := by
  refine u8_ext (by rw [shS_length, mvS_length]) fun j h1 h2 => ?_
  rw [shS_at, mvS_at]; rfl
/-- what mix moves a letter by -/
def mixF (key : ByteArray) (back : Bool) (m : Nat) : Int := if back then -(nth (bys key) (m % key.size) - 97) else nth (bys key) (m % key.size) - 97
def isKeyB (key : ByteArray) : Bool := wi key.size 1 12 && (bys key).all (fun b => wi b 97 122)
theorem key_at {key : ByteArray} (h : isKeyB key = true) (j : Nat) (hj : j < key.size) : 97 ≤ nth (bys key) j ∧ nth (bys key) j ≤ 122 := by
  simp only [isKeyB, Bool.and_eq_true, List.all_eq_true] at h
  have hj' : j < (bys key).length := by rwa [bys_length]
  have := h.2 _ (List.getElem_mem hj')
  rw [nth_lt hj']
  simpa [wi] using this
theorem key_size {key : ByteArray} (h : isKeyB key = true) : 1 ≤ key.size ∧ key.size ≤ 12 := by
  simp only [isKeyB, Bool.and_eq_true, wi, decide_eq_true_eq] at h
  omega
theorem mixF_bounds {key : ByteArray} (h : isKeyB key = true) (back : Bool) (m : Nat) : -25 ≤ mixF key back m ∧ mixF key back m ≤ 25 := by
  have := key_at h (m % key.size) (Nat.mod_lt _ (key_size h).1)
  rw [mixF]
  split <;> omega
theorem sidx (s : ByteArray) (j : Nat) (h : j < s.size) : ((s[j]'h).toNat : Int) = nth (bys s) j := by
  rw [bys_at s j h]; rfl

set_option maxHeartbeats 1000000 in
theorem mixLit_any (key : ByteArray) (back : Bool) (g1 g2 i : Nat) (w : World) (hg1 : w.cell? ⟨g1, 0, none⟩ = some (.string key)) (hg2 : w.cell? ⟨g2, 0, none⟩ = some (.bool back)) (hk : isKeyB key = true) (hi : i ≤ 1000) :
    Calls Try.prog 128 #[I i, .pointer (some ⟨g1, 0, none⟩), .pointer (some ⟨g2, 0, none⟩)] w fun e w' => e = .returned (I (mixF key back i)) ∧ Below w.heap.size w w' := by
  have hs := key_size hk
  obtain ⟨m, hm⟩ : ∃ m, m = i % key.size := ⟨_, rfl⟩
  have hlt : m < key.size := by rw [hm]; exact Nat.mod_lt _ hs.1
  have hb := key_at hk _ hlt
  have q1 := hb.1
  have q2 := hb.2
  have he : (i : Int) % (key.size : Int) = (m : Int) := by rw [hm]; rfl
  have hx := sidx key _ hlt
  have hz1 := hs.1
  have hz2 := hs.2
  obtain ⟨b, hbv⟩ : ∃ b, b = nth (bys key) m := ⟨_, rfl⟩
  rw [← hbv] at hx q1 q2
  have HB := Lib.hid (show mixF key back i = if back then -(b - 97) else b - 97 by rw [hbv, hm]; rfl)
  have eu : IntKind.u8.wrap (b - 97) = b - 97 := by rw [IntKind.wrap_u8]; omega
  have hn1 : key.size ≠ 0 := by omega
  have hn2 : ¬ (key.size : Int) = 0 := by omega
  have hn4 : ¬ key = ByteArray.empty := by intro e; subst e; exact hn1 rfl
  have hn3 : ((key.size : Int) == 0) = false := by simp; exact hn4
  clear hb hbv hk hs hm
  cases back
  all_goals
    go_enter Try.func128, Try.ntmps128
    go_wp2
    go_quiet (fail)
    go_wp2
    go_ret
  · exact ⟨ret_int (by rw [HB.out]; rfl), below_drewN (Below.refl _ _) _⟩
  · exact ⟨ret_int (by rw [HB.out]; rfl), below_drewN (Below.refl _ _) _⟩

set_option maxHeartbeats 1000000 in
theorem areLetters_any (s : ByteArray) (w : World) (hs : s.size ≤ maxLen) :
    Calls Try.prog 127 #[.string s] w fun e w' => e = .returned (.bool ((bys s).all (fun b => wi b 97 122))) ∧ w' = w := by
  unfold maxLen at hs
  have hbl := bys_length s
  go_enter Try.func127, Try.ntmps127
  go_wp2_with fail
  go_loop [6, 3] (fun i j => ∃ k : Nat, k ≤ s.size ∧ i = .int .i64 k ∧ Hid (((bys s).take k).all (fun b => wi b 97 122) = true)) (fun i j => s.size - (intOf i).toNat)
  case atStart => exact ⟨0, Nat.zero_le _, rfl, Lib.hid rfl⟩
  case round =>
    obtain ⟨k, hk, rfl, HA⟩ := hrel
    by_cases hlt : k < s.size
    · have hx := sidx s k hlt
      have hkl : k < (bys s).length := by omega
      obtain ⟨b, hbv⟩ : ∃ b, b = nth (bys s) k := ⟨_, rfl⟩
      rw [← hbv] at hx
      have HV := Lib.hid hbv
      have hbb := bys_bounds s k
      rw [← hbv] at hbb
      have q1 := hbb.1
      have q2 := hbb.2
      clear hbv hbb
      cases hp : wi b 97 122
      · have H2 := Lib.hid (show (bys s).all (fun b => wi b 97 122) = false from not_all (fun b => wi b 97 122) _ k hkl (by rw [← HV.out]; exact hp))
        go_wp2_with (go_at_call 65; refine (within_any _ _ _ _).mono ?_; rintro e w' ⟨rfl, rfl⟩; rw [hp])
        go_ret
        exact ⟨ret_bool H2.out.symm, rfl⟩
      · go_wp2_with (go_at_call 65; refine (within_any _ _ _ _).mono ?_; rintro e w' ⟨rfl, rfl⟩; rw [hp])
        go_round
        case rel => exact ⟨k + 1, by omega, by go_num, Lib.hid (all_take_snoc (fun b => wi b 97 122) _ k hkl HA.out (by rw [← HV.out]; exact hp))⟩
        case measure => simp [intOf]; omega
    · obtain rfl : k = s.size := by omega
      go_wp2
      go_ret
      exact ⟨ret_bool (by have := HA.out; rw [← hbl, List.take_length] at this; exact this.symm), rfl⟩
end Go.Proofs.Yteeppkhlnejfkaa

/-
  CONTRACTS: Crack's closure, Numbers with it, puzzles.Crack.
-/
import Derived.Test.YteeppkhlnejfkaaPzHas
import Derived.Test.YteeppkhlnejfkaaPzShelf
namespace Go.Proofs.Yteeppkhlnejfkaa
open Go.RowKit Go.Shelf
/-- is the part in the text behind a shift by n? -/
def hit (s p : ByteArray) (n : Nat) : Bool := hasS ⟨(shS n s).toArray⟩ p
theorem sh_size (n : Int) (s : ByteArray) : (⟨(shS n s).toArray⟩ : ByteArray).size = s.size := by
  rw [← shS_length n s]; simp [ByteArray.size]
/-- the shifts behind which the part is there, of the first m -/
def hits (s p : ByteArray) (m : Nat) : List Int := ((List.range m).filter (hit s p)).map (fun (k : Nat) => (k : Int))
theorem hits_zero (s p : ByteArray) : hits s p 0 = [] := rfl
theorem hits_yes {s p : ByteArray} {m : Nat} (h : hit s p m = true) : hits s p (m + 1) = hits s p m ++ [(m : Int)] := by
  simp [hits, List.range_succ, h]
theorem hits_no {s p : ByteArray} {m : Nat} (h : hit s p m = false) : hits s p (m + 1) = hits s p m := by
  simp [hits, List.range_succ, h]
theorem hits_len (s p : ByteArray) (m : Nat) : (hits s p m).length ≤ m := by
  rw [hits, List.length_map]
  exact Nat.le_trans (List.length_filter_le _ _) (by simp)
theorem hits_mem {s p : ByteArray} {m k : Nat} (hk : k < m) (h : hit s p k = true) : (hits s p m).contains (k : Int) = true := by
  rw [List.contains_iff_mem, hits, List.mem_map]
  exact ⟨k, List.mem_filter.2 ⟨List.mem_range.2 hk, h⟩, rfl⟩

set_option maxHeartbeats 1000000 in
theorem crackLit_any (s p : ByteArray) (g1 g2 k : Nat) (m : Int) (w : World) (hg1 : w.cell? ⟨g1, 0, none⟩ = some (.string s)) (hg2 : w.cell? ⟨g2, 0, none⟩ = some (.string p)) (hgb2 : g2 < w.heap.size) (hm : w.cell? ⟨0, 0, none⟩ = some (.int .i64 m)) (hs : s.size ≤ 200) (hk : k ≤ 26) :
    Calls Try.prog 75 #[I k, .pointer (some ⟨g1, 0, none⟩), .pointer (some ⟨g2, 0, none⟩)] w fun e w' => e = .returned (.bool (hit s p k)) ∧ Below w.heap.size w w' := by
  have hm0 : (⟨0, 0, none⟩ : Addr).block < w.heap.size := by show 0 < _; omega
  have hsz := sh_size k s
  have hlt : (⟨(shS k s).toArray⟩ : ByteArray).size < 4294967281 := by omega
  have HH := Lib.hid (show hit s p k = Lib.contains (⟨(shS k s).toArray⟩ : ByteArray).data.toList p.data.toList from rfl)
  obtain ⟨t, ht⟩ : ∃ t : ByteArray, t = ⟨(shS k s).toArray⟩ := ⟨_, rfl⟩
  have hcall : ∀ w0 : World, Calls Try.prog 66 #[.string s, I k] w0 fun e w' => e = .returned (.string t) ∧ Below w0.heap.size w0 w' := fun w0 => by rw [ht]; exact shift_any k s w0 hs (by omega) (by omega)
  rw [← ht] at hlt HH
  clear ht hsz
  go_enter Try.func75, Try.ntmps75
  go_wp2_with fail
  go_region_with (first
    | (go_at_call 66; refine (hcall _).mono ?_; rintro e w2 ⟨rfl, hb⟩; have hg2' := (hb.cell (p := ⟨g2, 0, none⟩) hgb2).trans hg2; have hm' := (hb.cell (p := ⟨0, 0, none⟩) hm0).trans hm)
    | (go_at_call 76; refine (Try.strings_Contains t p m _ hlt (by assumption)).mono ?_; rintro e w3 ⟨rfl, rfl⟩))
  all_goals
    go_wp2
    go_ret
    exact ⟨ret_bool HH.out.symm, ⟨hb.os, hb.tape, hb.output, hb.size, hb.block⟩⟩
theorem hits_snoc {s p : ByteArray} {m : Nat} (h : hit s p m = true) : (hits s p m).map I ++ [I (m : Int)] = (hits s p (m + 1)).map I := by rw [hits_yes h, List.map_append]; rfl

set_option maxRecDepth 100000 in
set_option maxHeartbeats 1000000 in
theorem numbers_any (s p : ByteArray) (g1 g2 : Nat) (m : Int) (w : World) (hg1 : w.cell? ⟨g1, 0, none⟩ = some (.string s)) (hg2 : w.cell? ⟨g2, 0, none⟩ = some (.string p)) (hgb1 : g1 < w.heap.size) (hgb2 : g2 < w.heap.size) (hm : w.cell? ⟨0, 0, none⟩ = some (.int .i64 m)) (hs : s.size ≤ 200) :
    Calls Try.prog 74 #[I 26, .func (.func 75) #[] #[.pointer (some ⟨g1, 0, none⟩), .pointer (some ⟨g2, 0, none⟩)]] w fun e w' => ∃ A c, e = .returned (.slice A (hits s p 26).length c) ∧ IntsR w' w'.heap.size A (hits s p 26) ∧ Below w.heap.size w w' := by
  have hm0 : (⟨0, 0, none⟩ : Addr).block < w.heap.size := by show 0 < _; omega
  go_enter Try.func74, Try.ntmps74
  go_wp2_with fail
  go_loopw [5, 6, 8] (fun v _ i wr => ∃ k : Nat, k ≤ 26 ∧ i = .int .i64 k ∧ wr.ownsRow w.heap.size 3 1 v (hits s p k).length ((hits s p k).map I) ∧ Below w.heap.size w wr) (fun _ _ i _ => 26 - (intOf i).toNat)
  case atStart => exact ⟨0, Nat.zero_le _, rfl, World.ownsRow_nil _ _ _ _, Below.refl _ _⟩
  case round =>
    obtain ⟨k, hk, rfl, hown, hB⟩ := hrel
    obtain ⟨v, hv⟩ : ∃ v : Value, v = u5 := ⟨_, rfl⟩
    subst hv
    by_cases hlt : k < 26
    · have hcall := crackLit_any s p g1 g2 k m wr ((hB.cell (p := ⟨g1, 0, none⟩) hgb1).trans hg1) ((hB.cell (p := ⟨g2, 0, none⟩) hgb2).trans hg2) (Nat.lt_of_lt_of_le hgb2 hB.size) ((hB.cell (p := ⟨0, 0, none⟩) hm0).trans hm) hs hk
      have g1' : (k : Int) < 26 := by omega
      have hhl := hits_len s p k
      go_wp2_with fail
      refine hcall.mono ?_
      rintro e w2 ⟨rfl, hb2⟩
      have hB2 : Below w.heap.size w w2 := hB.trans (hb2.mono hB.size)
      have hrow := hown.lt
      have hown2 : w2.ownsRow w.heap.size 3 1 v (hits s p k).length ((hits s p k).map I) := own_grown hown (grown_of_below hb2 (Nat.le_refl _))
      clear hcall
      cases hq : hit s p k
      · have HQ := Lib.hid (hits_no hq)
        clear hq
        go_wp2_with fail
        go_roundw
        case rel => exact ⟨k + 1, by omega, by go_num, by rw [HQ.out]; exact hown2, hB2⟩
        case measure => simp [intOf]; omega
      · have HQ := Lib.hid (hits_snoc hq)
        have HL := Lib.hid (show (hits s p (k + 1)).length = (hits s p k).length + 1 by rw [hits_yes hq]; simp)
        obtain ⟨i0, hi, hz0, hz1, hz2⟩ := info_parts info_int
        clear hq
        go_wp2_with (at_builtin; refine wpList_append_own _ rfl _ _ 29 rfl w.heap.size 3 i0 (.int .i64 0) 1 8 Try.underlying29 hi hz0 hz1 hz2 rfl (by decide) v _ _ rfl (hown2.alloc _) ⟨w2.heap.size, 0, none⟩ 1 1 [I k] rfl rfl ?c1 ?c2 ?c3 ?c4 ?c5 ?_)
        case c1 =>
          intro j u hj
          match j, hj with
          | 0, hj => simp at hj; subst hj; simp [Addr.add]
        case c2 => intro u hu; simp at hu; subst hu; rfl
        case c3 => unfold maxLen; omega
        case c4 => omega
        case c5 => have := hB2.size; simp; omega
        intro v' w4 hown' hgrow _
        have hown4 := hown'
        rw [HQ.out, ← HL.out] at hown4
        have hB4 : Below w.heap.size w w4 := (hB2.alloc hB2.size _).grown hgrow (by have := hB2.size; simp; omega) (fun j hj => (hrow j hj).1)
        clear hown' hgrow hown hown2 hrow
        go_wp2
        go_roundw
        case rel => exact ⟨k + 1, by omega, by go_num, hown4, hB4⟩
        case measure => simp [intOf]; omega
    · obtain rfl : k = 26 := by omega
      obtain ⟨A, c, rfl, hi, -⟩ := own_ints hown
      clear hown
      go_wp2_with fail
      go_ret
      exact ⟨_, _, rfl, hi, hB⟩
end Go.Proofs.Yteeppkhlnejfkaa

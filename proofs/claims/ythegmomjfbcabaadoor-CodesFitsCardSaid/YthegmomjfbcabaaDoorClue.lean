/-
  CONTRACTS: field, spares.
-/
import Derived.Test.YthegmomjfbcabaaDoorAnswer
import Derived.RangeFuncNested
namespace Go.Proofs.YthegmomjfbcabaaDoor
open Go.RowKit
/-- a clue -/
structure Cl where
  kind : Int
  a : Int
  b : Int
  n : Int
  m : Int
  guess : List Int
  neg : Bool
def clArr (c : Cl) (A : Option Addr) (cap : Nat) : Array Value := #[I c.kind, I c.a, I c.b, I c.n, I c.m, .slice A c.guess.length cap, .bool c.neg]
abbrev clV (c : Cl) (A : Option Addr) (cap : Nat) : Value := .agg #[I c.kind, I c.a, I c.b, I c.n, I c.m, .slice A c.guess.length cap, .bool c.neg]
def fieldIx (l : Int) : Nat := if l = 65 then 1 else if l = 66 then 2 else if l = 78 then 3 else 4

set_option maxHeartbeats 400000 in
theorem field_any (g : Nat) (l : Int) (w : World) :
    Calls Tryd.prog 117 #[.pointer (some ⟨g, 0, none⟩), .int .i32 l] w fun e w' => e = .returned (.pointer (some ⟨g, fieldIx l, none⟩)) ∧ w = w' := by
  by_cases h1 : l = 65
  · subst h1
    go_enter Tryd.func117, Tryd.ntmps117
    go_wp2
    go_ret
    exact ⟨rfl, rfl⟩
  · have b1 : (l == 65) = false := by simpa using h1
    by_cases h2 : l = 66
    · subst h2
      go_enter Tryd.func117, Tryd.ntmps117
      go_wp2
      go_ret
      exact ⟨rfl, rfl⟩
    · have b2 : (l == 66) = false := by simpa using h2
      by_cases h3 : l = 78
      · subst h3
        go_enter Tryd.func117, Tryd.ntmps117
        go_wp2
        go_ret
        exact ⟨rfl, rfl⟩
      · have b3 : (l == 78) = false := by simpa using h3
        have hf : fieldIx l = 4 := by simp [fieldIx, h1, h2, h3]
        have HF := Lib.hid hf
        clear hf h1 h2 h3
        go_enter Tryd.func117, Tryd.ntmps117
        go_wp2
        go_ret
        exact ⟨by rw [HF.out]; rfl, rfl⟩

def zap1 (c : Cl) (l : UInt8) : Cl := if l = 65 then { c with a := 0 } else if l = 66 then { c with b := 0 } else if l = 78 then { c with n := 0 } else { c with m := 0 }
def zap (ls : List UInt8) (c : Cl) : Cl := ls.foldl zap1 c
theorem zap1_guess (c : Cl) (l : UInt8) : (zap1 c l).guess = c.guess := by unfold zap1; (repeat' split) <;> rfl
theorem zap_guess (ls : List UInt8) (c : Cl) : (zap ls c).guess = c.guess := by
  induction ls generalizing c with
  | nil => rfl
  | cons l ls ih => simp only [zap, List.foldl_cons] at ih ⊢; rw [ih, zap1_guess]
theorem fieldIx_byte (l : UInt8) : fieldIx (l.toNat : Int) = if l = 65 then 1 else if l = 66 then 2 else if l = 78 then 3 else 4 := by
  unfold fieldIx
  have e : ∀ k : UInt8, ((l.toNat : Int) = (k.toNat : Int)) ↔ l = k := fun k => by
    rw [Int.ofNat_inj]
    exact UInt8.toNat_inj
  have e1 := e 65
  have e2 := e 66
  have e3 := e 78
  simp only [show ((65 : UInt8).toNat : Int) = 65 from rfl] at e1
  simp only [show ((66 : UInt8).toNat : Int) = 66 from rfl] at e2
  simp only [show ((78 : UInt8).toNat : Int) = 78 from rfl] at e3
  simp only [e1, e2, e3]
theorem clArr_zap (c : Cl) (l : UInt8) (A : Option Addr) (cap : Nat) : (clArr c A cap).setIfInBounds (fieldIx (l.toNat : Int)) (I 0) = clArr (zap1 c l) A cap := by
  rw [fieldIx_byte]
  unfold zap1
  split
  · rfl
  · split
    · rfl
    · split <;> rfl
theorem fieldIx_lt (l : Int) : fieldIx l < 5 := by unfold fieldIx; (repeat' split) <;> omega
theorem clArr_some (c : Cl) (A : Option Addr) (cap i : Nat) (h : i < 7) : ∃ v, (clArr c A cap)[i]? = some v := ⟨(clArr c A cap)[i]'(by simpa [clArr] using h), by simp [clArr, h]⟩
/-- the next letter of a text that is gone through -/
theorem run_next_put {P : Program} (w : World) (k : Nat) (s : ByteArray) (pos : Nat) (hk : w.heap[k]? = some (.stringIter s pos)) (h : pos < s.size) (ha : (s[pos]'h).toNat < 128) (ty : TypeId) :
    (Instr.next (.pointer (some ⟨k, 0, none⟩)) true ty).run P w = .ok (.tuple #[.bool true, .int .i64 pos, .int .i32 (s[pos]'h).toNat]) (w.putObj k (.stringIter s (pos + 1))) := by
  simp only [Instr.next, getObj, setObj, Sem.run_bind, Sem.run, hk, Result.andThen, h, if_true, decode_ascii s pos h ha]
  simp [goInt, World.putObj]
theorem run_next_stop {P : Program} (w : World) (k : Nat) (s : ByteArray) (pos : Nat) (hk : w.heap[k]? = some (.stringIter s pos)) (h : ¬ pos < s.size) (ty : TypeId) :
    (Instr.next (.pointer (some ⟨k, 0, none⟩)) true ty).run P w = .ok (.tuple #[.bool false]) w := by
  simp [Instr.next, getObj, Sem.run, hk, h]
theorem row_lt' {w : World} {g : Nat} {o : Obj} (h : w.heap[g]? = some o) : g < w.heap.size := (Array.getElem?_eq_some_iff.1 h).1
theorem iterPos_of {w : World} {k p : Nat} {s : ByteArray} (h : w.heap[k]? = some (.stringIter s p)) : w.iterPos k = p := by simp [World.iterPos, h]
def spB (nums : ByteArray) (gs : Bool) (c : Cl) : Bool :=
  let z := zap nums.data.toList c
  z.a == 0 && z.b == 0 && z.n == 0 && z.m == 0 && (gs || (c.guess.length : Int) == 0)

set_option maxRecDepth 100000 in
set_option maxHeartbeats 1000000 in
theorem spares_any (word nums : ByteArray) (gs : Bool) (c : Cl) (A : Option Addr) (cap : Nat) (w : World) (hasc : ∀ (i : Nat) (h : i < nums.size), (nums[i]'h).toNat < 128) (_hsz : nums.size ≤ maxLen) (_hgl : c.guess.length ≤ maxLen) :
    Calls Tryd.prog 103 #[.agg #[.string word, .string nums, .bool gs], clV c A cap] w fun e w' => e = .returned (.bool (spB nums gs c)) ∧ Below w.heap.size w w' := by
  unfold maxLen at _hsz _hgl
  go_enter Tryd.func103, Tryd.ntmps103
  go_wp2
  go_loopw [10] (fun _ wr => ∃ k : Nat, k ≤ nums.size ∧ Below (w.heap.size + 1) (w.alloc (.cells #[.string word, .string nums, .bool gs] 132)) wr ∧ wr.heap[w.heap.size + 1]? = some (.cells (clArr (zap (nums.data.toList.take k) c) A cap) 26 (0, 0)) ∧ wr.heap[w.heap.size + 2]? = some (.stringIter nums k)) (fun _ wr => nums.size - wr.iterPos (w.heap.size + 2))
  case atStart =>
    refine ⟨0, Nat.zero_le _, ?_, ?_, ?_⟩
    · exact ((Below.refl _ _).alloc (by simp) _).alloc (by simp) _
    · exact (Below.heap_alloc _ _ _ (by simp)).trans (alloc_obj _ _ _ (by simp))
    · exact alloc_obj _ _ _ (by simp)
  case round =>
    obtain ⟨k, hk, hB, h1, h2⟩ := hrel
    have hbw : Below w.heap.size w wr := ((Below.refl _ w).alloc (Nat.le_refl _) _).trans (hB.mono (by omega))
    have hs3 : w.heap.size + 2 < wr.heap.size := row_lt' h2
    by_cases hlt : k < nums.size
    · have hn := fun ty => run_next_put (P := Tryd.prog) wr (w.heap.size + 1 + 1) nums k h2 hlt (hasc k hlt) ty
      have H1 := Lib.hid h1
      have E0 := Lib.hid (iterPos_of h2)
      clear h1 h2
      go_wp2_with fail
      refine (field_any _ _ _).mono ?_
      rintro e w' ⟨rfl, rfl⟩
      have hh : (wr.putObj (w.heap.size + 1 + 1) (.stringIter nums (k + 1))).heap[w.heap.size + 1]? = some (.cells (clArr (zap (nums.data.toList.take k) c) A cap) 26 (0, 0)) := (World.putObj_heap_other (by omega)).trans H1.out
      have hi : (wr.putObj (w.heap.size + 1 + 1) (.stringIter nums (k + 1))).heap[w.heap.size + 2]? = some (.stringIter nums (k + 1)) := World.putObj_heap_same hs3
      have hb2 : Below (w.heap.size + 1) wr (wr.putObj (w.heap.size + 1 + 1) (.stringIter nums (k + 1))) := (Below.refl _ _).grown (grownBy_putObj' _ _ _) (by omega) (fun r e => by cases e; omega)
      clear hn
      revert hh hi hb2
      generalize wr.putObj (w.heap.size + 1 + 1) (.stringIter nums (k + 1)) = w2
      intro hh hi hb2
      obtain ⟨v0, hv0⟩ := clArr_some (zap (nums.data.toList.take k) c) A cap (fieldIx (nums[k].toNat : Int)) (by have := fieldIx_lt (nums[k].toNat : Int); omega)
      have hcell := (cell_of_row w2 (w.heap.size + 1) (fieldIx (nums[k].toNat : Int)) _ _ _ hh).trans hv0
      have hfr : w2.frozen? ⟨w.heap.size + 1, fieldIx (nums[k].toNat : Int), none⟩ = false := frozen_of_row hh _
      have HH := Lib.hid hh
      have HI := Lib.hid hi
      clear hh hi hv0 H1
      go_wp2
      go_roundw
      case rel =>
        refine ⟨k + 1, by omega, (hB.trans hb2).setCell (by simp) _, ?_, ?_⟩
        · have e := row_set HH.out (fieldIx (nums[k].toNat : Int)) (I 0)
          rw [clArr_zap] at e
          rw [e]
          congr 3
          have et : nums.data.toList.take (k + 1) = nums.data.toList.take k ++ [nums[k]] := by
            rw [List.take_succ_eq_append_getElem (by simpa using hlt)]; rfl
          rw [et, zap, zap, List.foldl_append]
          rfl
        · exact (Below.heap_setCell _ _ _ _ (by simp)).trans HI.out
      case measure =>
        have e1 : (w2.setCell ⟨w.heap.size + 1, fieldIx (nums[k].toNat : Int), none⟩ (.int .i64 0)).iterPos (w.heap.size + 2) = k + 1 := by
          refine iterPos_of ((Below.heap_setCell _ _ _ _ (by simp)).trans HI.out)
        rw [e1, E0.out]
        omega
    · have hn := fun ty => run_next_stop (P := Tryd.prog) wr (w.heap.size + 1 + 1) nums k h2 hlt ty
      obtain rfl : k = nums.size := by omega
      rw [List.take_of_length_le (by simp)] at h1
      have hz := zap_guess nums.data.toList c
      generalize hzz : zap nums.data.toList c = z at h1 hz
      have HZ := Lib.hid hzz
      have HG := Lib.hid hz
      clear hzz hz
      have n0 := box_later hB (by omega) 0
      have n1 := box_later hB (by omega) 1
      have n2 := box_later hB (by omega) 2
      have c1 : wr.cell? ⟨w.heap.size + 1, 1, none⟩ = some (I z.a) := cell_of_row wr _ 1 _ _ _ h1
      have c2 : wr.cell? ⟨w.heap.size + 1, 2, none⟩ = some (I z.b) := cell_of_row wr _ 2 _ _ _ h1
      have c3 : wr.cell? ⟨w.heap.size + 1, 3, none⟩ = some (I z.n) := cell_of_row wr _ 3 _ _ _ h1
      have c4 : wr.cell? ⟨w.heap.size + 1, 4, none⟩ = some (I z.m) := cell_of_row wr _ 4 _ _ _ h1
      have c5 : wr.cell? ⟨w.heap.size + 1, 5, none⟩ = some (.slice A z.guess.length cap) := cell_of_row wr _ 5 _ _ _ h1
      clear h1 h2 hB hs3
      have hsp : spB nums gs c = (z.a == 0 && z.b == 0 && z.n == 0 && z.m == 0 && (gs || (z.guess.length : Int) == 0)) := by
        simp only [spB, HZ.out, HG.out]
      have HS := Lib.hid hsp
      clear hsp
      cases b1 : (z.a == 0)
      · go_wp2
        go_ret
        exact ⟨ret_bool (by rw [HS.out, b1]; rfl), hbw⟩
      · cases b2 : (z.b == 0)
        · go_wp2
          go_ret
          exact ⟨ret_bool (by rw [HS.out, b1, b2]; rfl), hbw⟩
        · cases b3 : (z.n == 0)
          · go_wp2
            go_ret
            exact ⟨ret_bool (by rw [HS.out, b1, b2, b3]; rfl), hbw⟩
          · cases b4 : (z.m == 0)
            · go_wp2
              go_ret
              exact ⟨ret_bool (by rw [HS.out, b1, b2, b3, b4]; rfl), hbw⟩
            · cases gs
              · cases b5 : ((z.guess.length : Int) == 0)
                all_goals
                  go_wp2
                  go_ret
                  exact ⟨ret_bool (by rw [HS.out, b1, b2, b3, b4]; simpa using b5.symm), hbw⟩
              · go_wp2
                go_ret
                exact ⟨ret_bool (by rw [HS.out, b1, b2, b3, b4]; rfl), hbw⟩
end Go.Proofs.YthegmomjfbcabaaDoor

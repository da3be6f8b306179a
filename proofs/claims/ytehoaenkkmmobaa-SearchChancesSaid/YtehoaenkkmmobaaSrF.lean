/-
  LAYER 6: lists of links; CONTRACTS: the closures of add and first, slices.IndexFunc and slices.DeleteFunc at links.
-/
import Derived.Lib.SlKept
import Derived.Lib.SliceRun
import Derived.Shelf.Abstract
import Derived.Test.YtehoaenkkmmobaaSrE
namespace Go.Proofs.Ytehoaenkkmmobaa
open Go.RowKit Go.Shelf
/-- the links d lie in the cells F from off on -/
def LC (F : Nat → Value) (off : Nat) (d : Array Lk) : Prop := ∀ j, j < d.size → F (off + j * 2) = I d[j]!.1 ∧ F (off + j * 2 + 1) = I d[j]!.2
def set2 (F : Nat → Value) (k : Nat) (l : Lk) : Nat → Value := fun x => if x = k + 1 then I l.2 else if x = k then I l.1 else F x
theorem LC.set {F : Nat → Value} {off : Nat} {d : Array Lk} (h : LC F off d) {i : Nat} (hi : i < d.size) (l : Lk) : LC (set2 F (off + i * 2) l) off (d.setIfInBounds i l) := by
  intro j hj
  rw [Array.size_setIfInBounds] at hj
  by_cases e : j = i
  · subst e
    rw [Go.Sort.getElem!_set_same d j l hi]
    simp [set2]
  · rw [Go.Sort.getElem!_set_other d i j l e, set2, set2, if_neg (by omega), if_neg (by omega), if_neg (by omega), if_neg (by omega)]
    exact h j hj
theorem RowAt.set2 {w : World} {g : Nat} {t : TypeId} {F : Nat → Value} {n : Nat} (h : RowAt w g t F n) (k : Nat) (l : Lk) : RowAt (w.setCells g k [I l.1, I l.2]) g t (set2 F k l) n := (h.set k (I l.1)).set (k + 1) (I l.2)
theorem RowAt.kept {w w' : World} {g : Nat} {t : TypeId} {F : Nat → Value} {n : Nat} {row : Option Nat} (h : RowAt w g t F n) (hg : w.grownBy w' row) (hne : some g ≠ row) : RowAt w' g t F n := (hg.block g h.lt hne).trans h
theorem RowAt.below {w w' : World} {g : Nat} {t : TypeId} {F : Nat → Value} {n M : Nat} (h : RowAt w g t F n) (hb : Below M w w') (hM : g < M) : RowAt w' g t F n := (hb.block g hM).trans h
theorem info_lk : (Try.prog.info? 71).map (·.size) = some 2 := by kernel_rfl
theorem grown_setCell (w : World) (a : Addr) (u : Value) : w.grownBy (w.setCell a u) (some a.block) := ⟨rfl, rfl, rfl, by simp, fun k _ hk => heap_setCell_other w a k u (fun e => hk (by rw [e]))⟩
theorem grown_setCells (w : World) (g k : Nat) (l : Lk) : w.grownBy (w.setCells g k [I l.1, I l.2]) (some g) := grown_trans (grown_setCell w ⟨g, k, none⟩ (I l.1)) (grown_setCell (w.setCell ⟨g, k, none⟩ (I l.1)) ⟨g, k + 1, none⟩ (I l.2))
theorem beq_lk (x l : Lk) : (x == l) = (x.1 == l.1 && x.2 == l.2) := rfl
set_option maxRecDepth 100000 in
theorem add1_any (x l : Lk) (g : Nat) (w : World) (h0 : w.cell? ⟨g, 0, none⟩ = some (I l.1)) (h1 : w.cell? ⟨g, 1, none⟩ = some (I l.2)) :
    Calls Try.prog 110 #[lkV x, .pointer (some ⟨g, 0, none⟩)] w fun e w' => e = .returned (.bool (x == l)) ∧ w.grownBy w' none := by
  obtain ⟨w1, hw1, hs1, y0, -⟩ := one_box w (.cells #[I x.1, I x.2] 71)
  have hb1 : w.grownBy w1 none := by rw [hw1]; exact World.grownBy_alloc _ _ _
  have b0 : w1.cell? ⟨w.heap.size, 0, none⟩ = some (I x.1) := cell_of_row w1 _ 0 _ _ _ y0
  have b1 : w1.cell? ⟨w.heap.size, 1, none⟩ = some (I x.2) := cell_of_row w1 _ 1 _ _ _ y0
  have c0 : w1.cell? ⟨g, 0, none⟩ = some (I l.1) := hb1.cell h0 (by simp)
  have c1 : w1.cell? ⟨g, 1, none⟩ = some (I l.2) := hb1.cell h1 (by simp)
  clear h0 h1 y0
  go_enter Try.func110, Try.ntmps110
  go_upto_region 1 with fail
  rw [← hw1]
  clear hw1
  go_wp2
  all_goals go_ret
  all_goals refine ⟨ret_bool ?_, hb1⟩
  all_goals rw [beq_lk]
  · rename_i h2 h1
    rw [show x.1 = l.1 by omega, show x.2 = l.2 by omega]; simp
  · rename_i h2 h1
    rw [show (x.2 == l.2) = false by simp; omega, Bool.and_false]
  · rename_i h1
    rw [show (x.1 == l.1) = false by simp; omega, Bool.false_and]
set_option maxRecDepth 100000 in
theorem first1_any (x : Lk) (p g : Nat) (w : World) (h0 : w.cell? ⟨g, 0, none⟩ = some (I p)) :
    Calls Try.prog 117 #[lkV x, .pointer (some ⟨g, 0, none⟩)] w fun e w' => e = .returned (.bool (x.1 == p)) ∧ w.grownBy w' none := by
  obtain ⟨w1, hw1, hs1, y0, -⟩ := one_box w (.cells #[I x.1, I x.2] 71)
  have hb1 : w.grownBy w1 none := by rw [hw1]; exact World.grownBy_alloc _ _ _
  have b0 : w1.cell? ⟨w.heap.size, 0, none⟩ = some (I x.1) := cell_of_row w1 _ 0 _ _ _ y0
  have c0 : w1.cell? ⟨g, 0, none⟩ = some (I p) := hb1.cell h0 (by simp)
  have HB := Lib.hid (show ((x.1 : Int) == (p : Int)) = (x.1 == p) by rw [Bool.eq_iff_iff]; simp; omega)
  clear h0 y0
  go_enter Try.func117, Try.ntmps117
  go_upto_region 1 with fail
  rw [← hw1]
  clear hw1
  go_wp2
  go_ret
  exact ⟨ret_bool HB.out, hb1⟩
set_option maxRecDepth 100000 in
set_option maxHeartbeats 2000000 in
theorem indexLk_any (g : Nat) (lb : Array Value) (eg : ∀ args w, (callFunc g args).run Try.prog w = .ok (.enter g args) w) (p : Lk → Bool) (b off c N : Nat) (F : Nat → Value) (d : Array Lk) (w : World)
    (hp : ∀ (W : World) (x : Lk), w.grownBy W none → Calls Try.prog g (#[lkV x] ++ lb) W fun e w' => e = .returned (.bool (p x)) ∧ W.grownBy w' none)
    (hR : RowAt w b 71 F N) (hlc : LC F off d) (hN : off + d.size * 2 ≤ N) (hd : d.size ≤ 1000000) :
    Calls Try.prog 116 #[.slice (some ⟨b, off, none⟩) d.size c, .func (.func g) #[] lb] w fun e w' => ∃ r : Int, e = .returned (I r) ∧ ((r = -1 ∧ ∀ j, j < d.size → p d[j]! = false) ∨ ∃ k : Nat, r = k ∧ k < d.size ∧ p d[k]! = true ∧ ∀ j, j < k → p d[j]! = false) ∧ w.grownBy w' none := by
  have HR := Lib.hid hR
  have HL := Lib.hid hlc
  have HP := Lib.hid hp
  clear hR hlc hp
  go_enter Try.func116, Try.ntmps116
  go_wp2_with fail
  go_loopw [8] (fun i wr => ∃ k : Nat, k ≤ d.size ∧ i = .int .i64 k ∧ w.grownBy wr none ∧ Hid (∀ j, j < k → p d[j]! = false)) (fun i _ => d.size - (intOf i).toNat)
  case atStart => exact ⟨0, Nat.zero_le _, rfl, ⟨rfl, rfl, rfl, Nat.le_refl _, fun _ _ _ => rfl⟩, Lib.hid fun j hj => absurd hj (Nat.not_lt_zero _)⟩
  case round =>
    obtain ⟨k, hk, rfl, hg, HA⟩ := hrel
    obtain ⟨wo, hwo⟩ : ∃ wo : World, wo = wr := ⟨_, rfl⟩
    rw [← hwo] at hg
    rw [← hwo]
    clear hwo
    by_cases hlt : k < d.size
    · have hR' := HR.out.kept hg (by simp)
      obtain ⟨e0, e1⟩ := HL.out k hlt
      have c0 : wo.cell? ⟨b, off + k * 2, none⟩ = some (I d[k]!.1) := (hR'.at_ (by omega)).trans (by rw [e0])
      have c1 : wo.cell? ⟨b, off + k * 2 + 1, none⟩ = some (I d[k]!.2) := (hR'.at_ (by omega)).trans (by rw [e1])
      have hcall := HP.out wo d[k]! hg
      obtain ⟨x, hx⟩ : ∃ x, x = d[k]! := ⟨_, rfl⟩
      rw [← hx] at c0 c1 hcall
      have HX := Lib.hid hx
      clear e0 e1 hR' hx
      cases hq : p x with
      | true =>
        have HQ := Lib.hid hq
        rw [hq] at hcall
        clear hq
        go_wp2_with (go_at_fn g; refine hcall.mono ?_; rintro e w2 ⟨rfl, hb'⟩)
        go_ret
        exact ⟨_, rfl, .inr ⟨k, rfl, hlt, by rw [← HX.out]; exact HQ.out, HA.out⟩, grown_trans hg hb'⟩
      | false =>
        have HQ := Lib.hid hq
        rw [hq] at hcall
        clear hq
        go_wp2_with (go_at_fn g; refine hcall.mono ?_; rintro e w2 ⟨rfl, hb'⟩)
        go_roundw
        case rel => exact ⟨k + 1, by omega, by go_num, grown_trans hg hb', Lib.hid fun j hj => by
          rcases Nat.lt_or_ge j k with h | h
          · exact HA.out j h
          · obtain rfl : j = k := by omega
            rw [← HX.out]; exact HQ.out⟩
        case measure => simp [intOf]; omega
    · obtain rfl : k = d.size := by omega
      go_wp2_with fail
      go_ret
      exact ⟨_, rfl, .inl ⟨rfl, HA.out⟩, hg⟩
end Go.Proofs.Ytehoaenkkmmobaa

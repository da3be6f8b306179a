/-
  CONTRACTS: Weigh, Weighings.
-/
import Derived.Test.YtfjincdlenneaaaPzChp
namespace Go.Proofs.Ytfjincdlenneaaa
open Go.RowKit Go.Shelf
def wghE (ws : List Int) (load : Int) : Int := if balB ws load = true then (if 0 < (wgs ws load).length then 0 else 3) else 1
def wghL (ws : List Int) (load : Int) : List Int := if balB ws load = true then cheap usedL (wgs ws load) else []
def wghN (ws : List Int) (load : Int) : Nat := if balB ws load = true then (wgs ws load).length else 0
def wghF (ws : List Int) (load : Int) : Int := if balB ws load = true then 0 else 1
theorem bal_facts {ws : List Int} {load : Int} (h : balB ws load = true) : ws.length ≤ 10 ∧ (∀ i, i < ws.length → 1 ≤ nth ws i ∧ nth ws i ≤ 10000) ∧ 0 ≤ load ∧ load ≤ 10000 := by
  simp only [balB, Bool.and_eq_true, decide_eq_true_eq, inB, List.all_eq_true, wi] at h
  refine ⟨h.1.1, fun i hi => ?_, h.2⟩
  have := h.1.2 (nth ws i) (by rw [nth_lt hi]; exact List.getElem_mem _)
  exact this
theorem wgs_each {ws : List Int} {load : Int} : ∀ x ∈ wgs ws load, x.length = ws.length := by
  intro x hx
  obtain ⟨⟨n, -, rfl⟩, -⟩ := wgs_mem.1 hx
  exact sidesOf_length _ _
theorem wgs_most {ws : List Int} {load : Int} (h : ws.length ≤ 10) : (wgs ws load).length ≤ 1000000 :=
  Nat.le_trans (wgs_len ws load) (Nat.le_trans (Nat.pow_le_pow_right (by omega) h) (by decide))
theorem one_box (w : World) (o : Obj) : ∃ w1, w1 = w.alloc o ∧ w1.heap.size = w.heap.size + 1 ∧ w1.heap[w.heap.size]? = some o ∧ Below w.heap.size w w1 :=
  ⟨_, rfl, by simp, alloc_obj _ _ _ rfl, (Below.refl _ _).alloc (Nat.le_refl _) _⟩

set_option maxRecDepth 100000 in
set_option maxHeartbeats 2000000 in
theorem Weigh_any (A : Option Addr) (c : Nat) (ws : List Int) (load : Int) (w : World) (hx : IntsR w w.heap.size A ws) (hl : ws.length ≤ maxLen) :
    Calls Try.prog 30 #[.slice A ws.length c, I load] w fun e w' => ∃ A' c', e = .returned (.tuple #[.slice A' (wghL ws load).length c', I (wghE ws load)]) ∧ IntsR w' w'.heap.size A' (wghL ws load) ∧ (wghL ws load).length ≤ maxLen ∧ Below w.heap.size w w' := by
  go_enter Try.func30, Try.ntmps30
  go_wp2_with fail
  obtain ⟨w1, hw1, hs1, y0, hb1⟩ := one_box w (.cells #[.slice A ws.length c, I load] 93)
  rw [← hw1]
  have hx1 := ints_call hb1 hx
  clear hw1
  refine (isValid_any A c ws load w1 hx1 hl).mono ?_
  rintro e w2 ⟨rfl, hb2⟩
  have z0 := (hb2.block _ (by omega)).trans y0
  have c0 : w2.cell? ⟨w.heap.size, 0, none⟩ = some (.slice A ws.length c) := cell_of_row w2 _ 0 _ _ _ z0
  have c1 : w2.cell? ⟨w.heap.size, 1, none⟩ = some (I load) := cell_of_row w2 _ 1 _ _ _ z0
  have hx2 := ints_call hb2 hx1
  have hB2 : Below w.heap.size w w2 := hb1.trans (hb2.mono (by omega))
  clear y0 z0 hx hx1 hb1 hb2
  cases hv : balB ws load
  · have HE := Lib.hid (show wghE ws load = 1 by rw [wghE, hv]; rfl)
    have HL := Lib.hid (show wghL ws load = [] by rw [wghL, hv]; rfl)
    clear hv
    go_wp2
    go_ret2
    exact ⟨none, 0, by rw [HE.out, HL.out]; rfl, by rw [HL.out]; exact IntsR.nil, by rw [HL.out]; exact Nat.zero_le _, hB2⟩
  · obtain ⟨b1, b2, b3, b4⟩ := bal_facts hv
    have HE := Lib.hid (show wghE ws load = if 0 < (wgs ws load).length then 0 else 3 by rw [wghE, hv]; rfl)
    have HL := Lib.hid (show wghL ws load = cheap usedL (wgs ws load) by rw [wghL, hv]; rfl)
    have HW := Lib.hid b2
    clear hv b2
    go_wp2_with fail
    refine (cheapest_used (gf := 89) (fa := #[balV A c ws load]) (lb := #[]) (enters_of Try.func89 (by kernel_rfl) rfl) (n := ws.length) (xs := wgs ws load) wgs_each (by omega) 8 9 (by omega) (G := fun V => IntsR V w2.heap.size A ws) w2 (wgs_most b1)
      (fun W hW => weighings_iter A c ws load b1 HW.out b3 b4 19 w2.heap.size (by omega) W hW) (fun V hV => hx2.below hV (Nat.le_refl _))).mono ?_
    rintro e w3 ⟨A3, c3, rfl, hi, hm, hb3⟩
    obtain ⟨b, hb⟩ : ∃ b, b = cheap usedL (wgs ws load) := ⟨_, rfl⟩
    rw [← hb] at hi hm ⊢
    have HB := Lib.hid hb
    have hB3 : Below w.heap.size w w3 := hB2.trans (hb3.mono hB2.size)
    clear hb hb3 hB2
    by_cases hp : 0 < (wgs ws load).length
    · have hd : decide (0 < (wgs ws load).length) = true := by simpa using hp
      have HE2 := Lib.hid (show wghE ws load = 0 by rw [HE.out, if_pos hp])
      rw [hd]
      clear HE hd hp
      go_wp2_with fail
      refine (unless_any _ _ _).mono ?_
      rintro e w' ⟨rfl, rfl⟩
      go_wp2
      go_ret2
      exact ⟨A3, c3, by rw [HE2.out, HL.out, ← HB.out]; rfl, by rw [HL.out, ← HB.out]; exact hi, by rw [HL.out, ← HB.out]; exact hm, hB3⟩
    · have hd : decide (0 < (wgs ws load).length) = false := by simpa using hp
      have HE2 := Lib.hid (show wghE ws load = 3 by rw [HE.out, if_neg hp])
      rw [hd]
      clear HE hd hp
      go_wp2_with fail
      refine (unless_any _ _ _).mono ?_
      rintro e w' ⟨rfl, rfl⟩
      go_wp2
      go_ret2
      exact ⟨A3, c3, by rw [HE2.out, HL.out, ← HB.out]; rfl, by rw [HL.out, ← HB.out]; exact hi, by rw [HL.out, ← HB.out]; exact hm, hB3⟩

set_option maxRecDepth 100000 in
set_option maxHeartbeats 2000000 in
theorem Weighings_any (A : Option Addr) (c : Nat) (ws : List Int) (load : Int) (w : World) (hx : IntsR w w.heap.size A ws) (hl : ws.length ≤ maxLen) :
    Calls Try.prog 32 #[.slice A ws.length c, I load] w fun e w' => e = .returned (.tuple #[I (wghN ws load : Nat), I (wghF ws load)]) ∧ Below w.heap.size w w' := by
  go_enter Try.func32, Try.ntmps32
  go_wp2_with fail
  obtain ⟨w1, hw1, hs1, y0, hb1⟩ := one_box w (.cells #[.slice A ws.length c, I load] 93)
  rw [← hw1]
  have hx1 := ints_call hb1 hx
  clear hw1
  refine (isValid_any A c ws load w1 hx1 hl).mono ?_
  rintro e w2 ⟨rfl, hb2⟩
  have z0 := (hb2.block _ (by omega)).trans y0
  have c0 : w2.cell? ⟨w.heap.size, 0, none⟩ = some (.slice A ws.length c) := cell_of_row w2 _ 0 _ _ _ z0
  have c1 : w2.cell? ⟨w.heap.size, 1, none⟩ = some (I load) := cell_of_row w2 _ 1 _ _ _ z0
  have hx2 := ints_call hb2 hx1
  have hB2 : Below w.heap.size w w2 := hb1.trans (hb2.mono (by omega))
  clear y0 z0 hx hx1 hb1 hb2
  cases hv : balB ws load
  · have HE := Lib.hid (show wghF ws load = 1 by rw [wghF, hv]; rfl)
    have HL := Lib.hid (show wghN ws load = 0 by rw [wghN, hv]; rfl)
    clear hv
    go_wp2
    go_ret2
    exact ⟨by rw [HE.out, HL.out]; rfl, hB2⟩
  · obtain ⟨b1, b2, b3, b4⟩ := bal_facts hv
    have HE := Lib.hid (show wghF ws load = 0 by rw [wghF, hv]; rfl)
    have HL := Lib.hid (show wghN ws load = (wgs ws load).length by rw [wghN, hv]; rfl)
    have HW := Lib.hid b2
    clear hv b2
    go_wp2_with fail
    refine (count_any (gf := 89) (fa := #[balV A c ws load]) (lb := #[]) (enters_of Try.func89 (by kernel_rfl) rfl) (m := (wgs ws load).length) (E := fun s => lstE (s + 8) ws.length (wgs ws load)) (G := fun V => IntsR V w2.heap.size A ws) 9 w2 (wgs_most b1)
      (fun W hW => weighings_iter A c ws load b1 HW.out b3 b4 19 w2.heap.size (by omega) W hW) (fun V hV => hx2.below hV (Nat.le_refl _))).mono ?_
    rintro e w3 ⟨rfl, hb3⟩
    have hB3 : Below w.heap.size w w3 := hB2.trans (hb3.mono hB2.size)
    clear hb3 hB2 c0 c1
    go_wp2
    go_ret2
    exact ⟨by rw [HE.out, HL.out]; rfl, hB3⟩
end Go.Proofs.Ytfjincdlenneaaa

/-
  CONTRACT: the law PuzzlesBack.
-/
import Derived.Test.YteeppkhlnejfkaaPzBakPure
namespace Go.Proofs.Yteeppkhlnejfkaa
open Go.RowKit Go.Shelf
theorem shift_fine (s : ByteArray) (n : Int) (w : World) (hs : s.size ≤ 200) (hn : wi n (-100) 100 = true) :
    Calls Try.prog 19 #[.string s, I n] w fun e w' => e = .returned (.tuple #[.string (shT n s), I 0]) ∧ Below w.heap.size w w' := by
  have h := pShift_any n s w (by unfold maxLen; omega)
  rw [(shE_fine hs hn).1, (shE_fine hs hn).2] at h
  exact h
theorem shift_back (s : ByteArray) (n : Int) (w : World) (hs : s.size ≤ 200) (h1 : -100 ≤ n) (h2 : n ≤ 100) :
    Calls Try.prog 19 #[.string (shT n s), I (-n)] w fun e w' => e = .returned (.tuple #[.string s, I 0]) ∧ Below w.heap.size w w' := by
  have h := shift_fine (shT n s) (-n) w (by rw [show (shT n s).size = s.size from sh_size n s]; exact hs) (by simp [wi]; omega)
  rw [shT_shT n (-n) s, shT_round (n := n + -n) s (by omega)] at h
  exact h
theorem mix_back (s key : ByteArray) (back : Bool) (w : World) (hs : s.size ≤ 200) (hk : isKeyB key = true) :
    Calls Try.prog 21 #[.string (mixS key back s), .string key, .bool (!back)] w fun e w' => e = .returned (.tuple #[.string s, I 0]) ∧ Below w.heap.size w w' := by
  have hsz : (mixS key back s).size ≤ 200 := by rw [show (mixS key back s).size = s.size from mvT_size _ s]; exact hs
  have h := pMix_any (mixS key back s) key (!back) w (by unfold maxLen; omega) (by have := key_size hk; unfold maxLen; omega)
  rw [(mxE_fine (back := !back) hsz hk).1, (mxE_fine (back := !back) hsz hk).2, mixS_back] at h
  exact h

set_option maxRecDepth 100000 in
set_option maxHeartbeats 4000000 in
theorem back_any (s key p : ByteArray) (n m : Int) (back : Bool) (w : World) (hm : w.cell? ⟨0, 0, none⟩ = some (.int .i64 m)) (hm0 : 0 < w.heap.size) (hs : s.size ≤ maxLen) (hk : key.size ≤ maxLen) (hp : p.size ≤ maxLen) :
    Calls Try.prog 11 #[.string s, .agg #[I n, .string key, .bool back], .string p] w fun e w' => e = .returned (.bool true) ∧ Below w.heap.size w w' := by
  have hk' := hk
  unfold maxLen at hk'
  go_enter Try.func11, Try.ntmps11
  obtain ⟨w1, hw1, hs1, y0, hb1⟩ := one_box w (.cells #[I n, .string key, .bool back] 23)
  have b0 : w1.cell? ⟨w.heap.size, 0, none⟩ = some (I n) := cell_of_row w1 _ 0 _ _ _ y0
  go_upto_region 1 with fail
  rw [← hw1]
  have Y0 := Lib.hid y0
  clear hw1 y0
  go_wp2_with fail
  refine (pShift_any n s w1 hs).mono ?_
  rintro e w2 ⟨rfl, hb2⟩
  have z0 := (hb2.block _ (by omega)).trans Y0.out
  have hB2 : Below w.heap.size w w2 := hb1.trans (hb2.mono (by omega))
  have hs2 : w.heap.size + 1 ≤ w2.heap.size := by have := hb2.size; omega
  have Z0 := Lib.hid z0
  clear hb1 hb2 b0 Y0 hs1 z0
  obtain ⟨e0, he0⟩ : ∃ e0, e0 = shE s n := ⟨_, rfl⟩
  obtain ⟨x0, hx0⟩ : ∃ x0, x0 = shV s n := ⟨_, rfl⟩
  rw [← he0, ← hx0]
  have HE0 := Lib.hid he0
  have HX0 := Lib.hid hx0
  clear he0 hx0
  go_upto_if 25 with fail
  go_cut [7] from 8 to 102 (fun _ wx => wx.heap[w.heap.size]? = some (.cells #[I n, .string key, .bool back] 23 (0, 0)) ∧ Below w.heap.size w wx)
  case first =>
    by_cases he : e0 = 0
    · have HX := Lib.hid (HE0.out.symm.trans he)
      obtain ⟨hx1, hx2⟩ := shE_ok HX.out
      have hv : x0 = shT n s := by rw [HX0.out, (shE_fine hx1 hx2).2]
      have hn : -100 ≤ n ∧ n ≤ 100 := by simpa [wi] using hx2
      have n1 := hn.1
      have n2 := hn.2
      subst he hv
      have z0 := Z0.out
      have b0 : w2.cell? ⟨w.heap.size, 0, none⟩ = some (I n) := cell_of_row w2 _ 0 _ _ _ z0
      have HS := Lib.hid (show (shT n s).size = s.size from sh_size n s)
      clear hn HX0 HE0 HX z0
      go_wp2_with fail
      refine (shift_back s n w2 hx1 n1 n2).mono ?_
      rintro e w3 ⟨rfl, hb3⟩
      have z0 := (hb3.block _ (by omega)).trans Z0.out
      have b1 : w3.cell? ⟨w.heap.size, 1, none⟩ = some (.string key) := cell_of_row w3 _ 1 _ _ _ z0
      have hB3 : Below w.heap.size w w3 := hB2.trans (hb3.mono hB2.size)
      have hs3 : w.heap.size + 1 ≤ w3.heap.size := by have := hb3.size; omega
      have e2 := beq_self_bytes s
      have hsx := HS.out
      have Z1 := Lib.hid z0
      obtain ⟨r, hr⟩ : ∃ r : Int, (key.size : Int) % 40 = r := ⟨_, rfl⟩
      have r1 : 0 ≤ r := by omega
      have r2 : r < 40 := by omega
      clear b0 z0 hb3 hB2 hs2 Z0
      go_wp2_with fail
      refine (shift_fine (shT n s) (r - 20) w3 (by omega) (by simp [wi]; omega)).mono ?_
      rintro e w4 ⟨rfl, hb4⟩
      rw [shT_shT]
      have z0 := (hb4.block _ (by omega)).trans Z1.out
      have b0 : w4.cell? ⟨w.heap.size, 0, none⟩ = some (I n) := cell_of_row w4 _ 0 _ _ _ z0
      have hB4 : Below w.heap.size w w4 := hB3.trans (hb4.mono hB3.size)
      have hs4 : w.heap.size + 1 ≤ w4.heap.size := by have := hb4.size; omega
      have Z2 := Lib.hid z0
      clear b1 z0 hb4 hB3 hs3 Z1 e2
      go_wp2_with fail
      refine (pShift_any (n + (r - 20)) s w4 hs).mono ?_
      rintro e w5 ⟨rfl, hb5⟩
      have z0 := (hb5.block _ (by omega)).trans Z2.out
      have hB5 : Below w.heap.size w w5 := hB4.trans (hb5.mono hB4.size)
      have hs5 : w.heap.size + 1 ≤ w5.heap.size := by have := hb5.size; omega
      have Z3 := Lib.hid z0
      have hm5 := (hB5.cell (p := ⟨0, 0, none⟩) hm0).trans hm
      clear b0 z0 hb5 hB4 hs4 Z2
      by_cases hg : shE s (n + (r - 20)) = 0
      · have hgv : shV s (n + (r - 20)) = shT (n + (r - 20)) s := (shE_fine hx1 (shE_ok hg).2).2
        rw [hg, hgv]
        have e2 := beq_self_bytes (shT (n + (r - 20)) s)
        clear hg hgv
        generalize shT (n + (r - 20)) s = z at *
        go_wp2_with fail
        refine (pCrack_any (shT n s) p m w5 hm5 (by have := hB5.size; omega) (by unfold maxLen; omega) hp).mono ?_
        rintro e w6 ⟨A, c, rfl, hi, hb6⟩
        have z0 := (hb6.block _ (by omega)).trans Z3.out
        have hB6 : Below w.heap.size w w6 := hB5.trans (hb6.mono hB5.size)
        have b0 : w6.cell? ⟨w.heap.size, 0, none⟩ = some (I n) := cell_of_row w6 _ 0 _ _ _ z0
        by_cases hc : ckE (shT n s) p = 0
        · have hpl := (ckE_ok hc).2
          have hv := (ckE_fine (s := shT n s) (by omega) hpl).2
          rw [hc, hv]
          rw [hv] at hi
          have hlen := hits_len (shT n s) p 26
          have Z4 := Lib.hid z0
          clear hc hv hb6 hB5 hm5 z0
          go_wp2_with fail
          refine (lcontains_any s p w6 (by omega) (by omega)).mono ?_
          rintro e w7 ⟨rfl, hww⟩
          rw [hww]
          clear hww
          cases hq : hasS s p
          · clear hq b0
            go_wp2_with fail
            go_meet
            exact ⟨Z4.out, hB6⟩
          · obtain ⟨d, hd⟩ : ∃ d : Int, (26 - n).tmod 26 = d := ⟨_, rfl⟩
            have d1 : -26 < d := by rw [← hd]; exact Int.lt_tmod_of_pos _ (by decide)
            have d2 : d < 26 := by rw [← hd]; exact Int.tmod_lt_of_pos _ (by decide)
            have d3 := tmod_mod (26 - n)
            rw [hd] at d3
            obtain ⟨k, hk0⟩ : ∃ k : Nat, (k : Int) = d % 26 := ⟨(d % 26).toNat, by omega⟩
            have HH := Lib.hid (hit_back (s := s) (p := p) (n := n) (k := k) (by omega) (by omega) hq)
            have hk1 : d % 26 = (k : Int) := hk0.symm
            have hk2 : (d + 26) % 26 = (k : Int) := by omega
            have hk3 : (d + 26).tmod 26 = (k : Int) := by rw [Int.tmod_eq_emod_of_nonneg (by omega)]; omega
            clear hq hk0 d3
            go_wp2_with fail
            refine (lhas_any A c (hits (shT n s) p 26) k w6 hi (by omega)).mono ?_
            rintro e w8 ⟨rfl, hww⟩
            rw [hww, HH.out]
            clear hww hk1 hk2 hk3 b0 hi
            go_wp2_with fail
            go_meet
            exact ⟨Z4.out, hB6⟩
        · have hc1 : (ckE (shT n s) p == 0) = false := by simpa using hc
          generalize ckE (shT n s) p = e5 at *
          clear hc hi b0
          go_wp2_with fail
          go_meet
          exact ⟨z0, hB6⟩
      · have hg1 : (shE s (n + (r - 20)) == 0) = false := by simpa using hg
        generalize shE s (n + (r - 20)) = g0 at *
        generalize shV s (n + (r - 20)) = v0 at *
        generalize shT (n + (r - 20)) s = z at *
        clear hg
        go_wp2_with fail
        refine (pCrack_any (shT n s) p m w5 hm5 (by have := hB5.size; omega) (by unfold maxLen; omega) hp).mono ?_
        rintro e w6 ⟨A, c, rfl, hi, hb6⟩
        have z0 := (hb6.block _ (by omega)).trans Z3.out
        have hB6 : Below w.heap.size w w6 := hB5.trans (hb6.mono hB5.size)
        have b0 : w6.cell? ⟨w.heap.size, 0, none⟩ = some (I n) := cell_of_row w6 _ 0 _ _ _ z0
        by_cases hc : ckE (shT n s) p = 0
        · have hpl := (ckE_ok hc).2
          have hv := (ckE_fine (s := shT n s) (by omega) hpl).2
          rw [hc, hv]
          rw [hv] at hi
          have hlen := hits_len (shT n s) p 26
          have Z4 := Lib.hid z0
          clear hc hv hb6 hB5 hm5 z0
          go_wp2_with fail
          refine (lcontains_any s p w6 (by omega) (by omega)).mono ?_
          rintro e w7 ⟨rfl, hww⟩
          rw [hww]
          clear hww
          cases hq : hasS s p
          · clear hq b0
            go_wp2_with fail
            go_meet
            exact ⟨Z4.out, hB6⟩
          · obtain ⟨d, hd⟩ : ∃ d : Int, (26 - n).tmod 26 = d := ⟨_, rfl⟩
            have d1 : -26 < d := by rw [← hd]; exact Int.lt_tmod_of_pos _ (by decide)
            have d2 : d < 26 := by rw [← hd]; exact Int.tmod_lt_of_pos _ (by decide)
            have d3 := tmod_mod (26 - n)
            rw [hd] at d3
            obtain ⟨k, hk0⟩ : ∃ k : Nat, (k : Int) = d % 26 := ⟨(d % 26).toNat, by omega⟩
            have HH := Lib.hid (hit_back (s := s) (p := p) (n := n) (k := k) (by omega) (by omega) hq)
            have hk1 : d % 26 = (k : Int) := hk0.symm
            have hk2 : (d + 26) % 26 = (k : Int) := by omega
            have hk3 : (d + 26).tmod 26 = (k : Int) := by rw [Int.tmod_eq_emod_of_nonneg (by omega)]; omega
            clear hq hk0 d3
            go_wp2_with fail
            refine (lhas_any A c (hits (shT n s) p 26) k w6 hi (by omega)).mono ?_
            rintro e w8 ⟨rfl, hww⟩
            rw [hww, HH.out]
            clear hww hk1 hk2 hk3 b0 hi
            go_wp2_with fail
            go_meet
            exact ⟨Z4.out, hB6⟩
        · have hc1 : (ckE (shT n s) p == 0) = false := by simpa using hc
          generalize ckE (shT n s) p = e5 at *
          clear hc hi b0
          go_wp2_with fail
          go_meet
          exact ⟨z0, hB6⟩
    · have he1 : (e0 == 0) = false := by simpa using he
      have z0 := Z0.out
      clear HE0 HX0 he Z0
      go_wp2_with fail
      go_meet
      exact ⟨z0, hB2⟩
  case rest =>
    obtain ⟨z0, hB⟩ := hcut
    have b1 : wc.cell? ⟨w.heap.size, 1, none⟩ = some (.string key) := cell_of_row wc _ 1 _ _ _ z0
    have b2 : wc.cell? ⟨w.heap.size, 2, none⟩ = some (.bool back) := cell_of_row wc _ 2 _ _ _ z0
    have Z1 := Lib.hid z0
    clear HE0 HX0 hB2 hs2 Z0 z0
    go_wp2_with fail
    refine (pMix_any s key back wc hs hk).mono ?_
    rintro e w3 ⟨rfl, hb3⟩
    have hsc : w.heap.size < wc.heap.size := (Array.getElem?_eq_some_iff.1 Z1.out).1
    have z0 := (hb3.block _ hsc).trans Z1.out
    have hB3 : Below w.heap.size w w3 := hB.trans (hb3.mono hB.size)
    have b1 : w3.cell? ⟨w.heap.size, 1, none⟩ = some (.string key) := cell_of_row w3 _ 1 _ _ _ z0
    have b2 : w3.cell? ⟨w.heap.size, 2, none⟩ = some (.bool back) := cell_of_row w3 _ 2 _ _ _ z0
    clear z0 hb3 hB
    by_cases he : mxE s key = 0
    · obtain ⟨hx1, hx2⟩ := mxE_ok he
      have hv := (mxE_fine (back := back) hx1 hx2).2
      rw [he, hv]
      clear he hv
      go_wp2_with fail
      refine (mix_back s key back w3 hx1 hx2).mono ?_
      rintro e w4 ⟨rfl, hb4⟩
      have hB4 : Below w.heap.size w w4 := hB3.trans (hb4.mono hB3.size)
      have e2 := beq_self_bytes s
      clear hb4 hB3 b1 b2
      go_wp2_with fail
      refine (works_any w4).mono ?_
      rintro e w5 ⟨rfl, hb5⟩
      go_wp2
      go_ret
      exact ⟨rfl, hB4.trans (hb5.mono hB4.size)⟩
    · have he1 : (mxE s key != 0) = true := by simpa using he
      generalize mxE s key = e1 at *
      generalize mxV s key back = v1 at *
      clear he b1 b2
      go_wp2_with fail
      refine (works_any w3).mono ?_
      rintro e w5 ⟨rfl, hb5⟩
      go_wp2
      go_ret
      exact ⟨rfl, hB3.trans (hb5.mono hB3.size)⟩
end Go.Proofs.Yteeppkhlnejfkaa

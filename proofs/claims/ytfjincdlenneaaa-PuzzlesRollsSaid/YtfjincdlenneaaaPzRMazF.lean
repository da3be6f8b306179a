/-
  CONTRACT of the document's own answer: far.
-/
import Derived.Test.YtfjincdlenneaaaPzRMazR
import Derived.Test.YtfjincdlenneaaaPzRowF
namespace Go.Proofs.Ytfjincdlenneaaa
open Go.RowKit Go.Shelf
/-- a row of numbers -/
def intV (F : Nat → Int) : Nat → Value := fun c => I (F c)
theorem intV_set {F G : Nat → Int} {w : World} {g n k : Nat} {v : Int} (h : RowAt w g 3 (intV F) n) (e : ∀ c, c < n → (if c = k then v else F c) = G c) : RowAt (w.setCell ⟨g, k, none⟩ (I v)) g 3 (intV G) n := by
  refine (h.set k (I v)).congr fun c hc => ?_
  show (if c = k then I v else I (F c)) = I (G c)
  rw [← e c hc]
  by_cases h1 : c = k
  · rw [if_pos h1, if_pos h1]
  · rw [if_neg h1, if_neg h1]
theorem RowAt.kb {w w' : World} {g b : Nat} {t : TypeId} {f : Nat → Value} {n : Nat} (h : RowAt w g t f n) (hk : KB b w w') (hne : g ≠ b) : RowAt w' g t f n := (hk.block g h.lt hne).trans h
theorem own_call {w w' : World} {base : Nat} {e : TypeId} {size : Nat} {v : Value} {n : Nat} {xs : List Value} (h : w.ownsRow base e size v n xs) (hb : Below w.heap.size w w') : w'.ownsRow base e size v n xs :=
  ⟨h.1, h.2.imp id fun ⟨g, cp, cur, h1, h2, h3, h4⟩ => ⟨g, cp, cur, h1, h2, (hb.block g (Array.getElem?_eq_some_iff.1 h3).1).trans h3, h4⟩⟩
set_option maxRecDepth 100000 in
set_option maxHeartbeats 4000000 in
theorem far_any (W H t n : Nat) (fr : Int) (A : Option Addr) (cap : Nat) (wall : Nat → Bool) (w : World) (hW : 1 ≤ W) (hW9 : W ≤ 64) (hH : H ≤ 64) (hn : n = W * H) (hn9 : n ≤ 64) (ht : t < n) (hwt : wall t = false) (hx : BoosR w w.heap.size A wall n) :
    Calls Try.prog 111 #[mazA W H A n cap fr t] w fun e w' => ∃ g, e = .returned (.slice (some ⟨g, 0, none⟩) n n) ∧ RowAt w' g 3 (intV (dstI W H wall t)) n ∧ Below w.heap.size w w' := by
  obtain ⟨w1, hw1, hs1, y0, hb1⟩ := one_box w (.cells #[I W, I H, .slice A n cap, I fr, I t] 52)
  have f2 : w1.cell? ⟨w.heap.size, 2, none⟩ = some (.slice A n cap) := cell_of_row w1 _ 2 _ _ _ y0
  have Y0 := Lib.hid y0
  have HN := Lib.hid hn
  have hx1 := boos_call hb1 hx
  have hmk := run_make_row' (P := Try.prog) 29 3 (.int .i64 0) 8 Try.underlying29 info_int rfl .i64 .i64 n (by omega) (by omega)
  simp only [madeF] at hmk
  obtain ⟨g, hg⟩ : ∃ g, g = w1.heap.size := ⟨_, rfl⟩
  have q1 : w.heap.size < g := by omega
  clear hn y0 hx hs1
  go_enter Try.func111, Try.ntmps111
  go_upto_region 1 with fail
  rw [← hw1]
  clear hw1
  go_upto_region 2 with fail
  obtain ⟨w2, hw2, hs2, r2, hb2⟩ := one_box w1 (.cells (rowF (fun _ => I 0) n) 3)
  rw [← hw2]
  rw [← hg] at hs2 r2 hb2 hx1
  rw [← hg]
  have q2 : g < w2.heap.size := by omega
  have hR2 : RowAt w2 g 3 (intV (fun c => if c < 0 then -1 else 0)) n := by
    show w2.heap[g]? = _
    rw [r2]
    rfl
  have hB2 : Below w.heap.size w w2 := hb1.trans (hb2.mono (by omega))
  have Y2 := Lib.hid ((hb2.block w.heap.size q1).trans Y0.out)
  have hx2 : BoosR w2 g A wall n := hx1.below hb2 (Nat.le_refl _)
  clear hw2 r2 hmk f2 hs2 hg hx1 Y0 hb1 hb2
  go_wp2_with fail
  go_loopw [4] (fun i wr => ∃ k : Nat, k ≤ n ∧ i = .int .i64 k ∧ Hid (RowAt wr g 3 (intV (fun c => if c < k then -1 else 0)) n) ∧ KB g w2 wr) (fun i _ => n - (intOf i).toNat)
  case atStart => exact ⟨0, Nat.zero_le _, rfl, Lib.hid hR2, KB.refl _ _⟩
  case round =>
    obtain ⟨k, hk, rfl, HO, hK⟩ := hrel
    clear hR2
    by_cases hlt : k < n
    · have o1 := HO.out.at_ hlt
      have o2 : wr.frozen? ⟨g, k, none⟩ = false := HO.out.free k
      have HN2 : Hid (RowAt (wr.setCell ⟨g, k, none⟩ (I (-1))) g 3 (intV (fun c => if c < k + 1 then -1 else 0)) n) := Lib.hid (intV_set HO.out fun c _ => by
        by_cases h1 : c = k
        · rw [if_pos h1, if_pos (by omega)]
        · rw [if_neg h1]
          by_cases h2 : c < k
          · rw [if_pos h2, if_pos (by omega)]
          · rw [if_neg h2, if_neg (by omega)])
      have hK2 := hK.trans (KB.setCell (b := g) (i := k) wr (I (-1)))
      clear HO hK
      go_wp2_with fail
      go_roundw
      case rel => exact ⟨k + 1, by omega, by go_num, HN2, hK2⟩
      case measure => simp [intOf]; omega
    · obtain rfl : k = n := by omega
      have y2 := (hK.block w.heap.size (by omega) (by omega)).trans Y2.out
      have b4 : wr.cell? ⟨w.heap.size, 4, none⟩ = some (I t) := cell_of_row wr _ 4 _ _ _ y2
      have o1 := HO.out.at_ ht
      have o2 : wr.frozen? ⟨g, t, none⟩ = false := HO.out.free t
      have HZ : Hid (RowAt (wr.setCell ⟨g, t, none⟩ (I 0)) g 3 (intV (outI W H wall t 0 0)) k) := Lib.hid (intV_set HO.out fun c hc => by
        rw [out_start hwt, if_pos hc])
      have hK2 := hK.trans (KB.setCell (b := g) (i := t) wr (I 0))
      clear HO hK y2
      go_upto_region 7 with fail
      obtain ⟨w3, hw3⟩ : ∃ w3, w3 = wr.setCell ⟨g, t, none⟩ (I 0) := ⟨_, rfl⟩
      rw [← hw3] at HZ hK2
      rw [← hw3]
      clear hw3 o1 o2 b4
      go_wp2_with fail
      go_loopw [5] (fun i wr => ∃ S : Nat, S ≤ k ∧ i = .int .i64 S ∧ Hid (RowAt wr g 3 (intV (outI W H wall t S 0)) k) ∧ KB g w2 wr) (fun i _ => k - (intOf i).toNat)
      case atStart => exact ⟨0, Nat.zero_le _, rfl, HZ, hK2⟩
      case round =>
        obtain ⟨S, hS, rfl, HS, hKS⟩ := hrel
        obtain ⟨wo, hwo⟩ : ∃ wo : World, wo = wr := ⟨_, rfl⟩
        rw [← hwo] at HS hKS
        rw [← hwo]
        clear hwo HZ hK2
        by_cases hlS : S < k
        · go_wp2_with fail
          go_loopw [6] (fun i wr => ∃ j : Nat, j ≤ k ∧ i = .int .i64 j ∧ Hid (RowAt wr g 3 (intV (outI W H wall t S j)) k) ∧ KB g w2 wr) (fun i _ => k - (intOf i).toNat)
          case atStart => exact ⟨0, Nat.zero_le _, rfl, HS, hKS⟩
          case round =>
            obtain ⟨j, hj, rfl, HJ, hKJ⟩ := hrel
            obtain ⟨wp, hwp⟩ : ∃ wp : World, wp = wr := ⟨_, rfl⟩
            rw [← hwp] at HJ hKJ
            rw [← hwp]
            clear hwp
            by_cases hlj : j < k
            · go_wp2_with fail
              go_loopw [7] (fun i wr => ∃ (x : Nat) (F : Nat → Int), x ≤ 4 ∧ i = .int .i64 x ∧ Hid (RowAt wr g 3 (intV F) k) ∧ KB g w2 wr ∧ Hid ((F = outI W H wall t S j ∧ ∀ y, y < x → dstI W H wall t (rolF W H wall j y) ≠ (S : Int)) ∨ (F = outI W H wall t S (j + 1) ∧ 0 ≤ F j))) (fun i _ => 4 - (intOf i).toNat)
              case atStart => exact ⟨0, _, by omega, rfl, HJ, hKJ, Lib.hid (.inl ⟨rfl, fun y hy => by omega⟩)⟩
              case round =>
                obtain ⟨x, F, hx4, rfl, HR, hK, HF⟩ := hrel
                obtain ⟨wx, hwx⟩ : ∃ wx : World, wx = wr := ⟨_, rfl⟩
                rw [← hwx] at HR hK
                rw [← hwx]
                clear hwx
                have y2 := (hK.block w.heap.size (by omega) (by omega)).trans Y2.out
                have b0 : wx.cell? ⟨w.heap.size, 0, none⟩ = some (I W) := cell_of_row wx _ 0 _ _ _ y2
                have b1 : wx.cell? ⟨w.heap.size, 1, none⟩ = some (I H) := cell_of_row wx _ 1 _ _ _ y2
                have b2 : wx.cell? ⟨w.heap.size, 2, none⟩ = some (.slice A k cap) := cell_of_row wx _ 2 _ _ _ y2
                have b3 : wx.cell? ⟨w.heap.size, 3, none⟩ = some (I fr) := cell_of_row wx _ 3 _ _ _ y2
                have b4 : wx.cell? ⟨w.heap.size, 4, none⟩ = some (I t) := cell_of_row wx _ 4 _ _ _ y2
                have o1 : wx.cell? ⟨g, j, none⟩ = some (I (F j)) := HR.out.at_ hlj
                have hxx := hx2.below (hK.below (B := g) (Nat.le_refl _) (by omega)) (Nat.le_refl _)
                have hxx' := hxx.more (show g ≤ wx.heap.size by have := hK.size; omega)
                obtain ⟨ad, rfl, hbA, hcA⟩ := hxx.at_ hlj
                -- the way out: what the row holds is what is known behind this cell
                have hout : (x = 4 ∨ 0 ≤ F j ∨ wall j = true) → RowAt wx g 3 (intV (outI W H wall t S (j + 1))) k := fun hex => by
                  rcases HF.out with ⟨e, hno⟩ | ⟨e, _⟩
                  · refine HR.out.congr fun c hc => ?_
                    rw [intV, intV, e]
                    by_cases hcj : c = j
                    · subst hcj
                      rw [e] at hex
                      have : outI W H wall t S (c + 1) c = outI W H wall t S c c := by
                        rcases hex with h | h | h
                        · subst h
                          exact out_miss hW (by rw [← HN.out]; exact hlj) fun y hy => hno y (by omega)
                        · exact out_known h
                        · exact out_wall h
                      rw [this]
                    · rw [out_other hcj]
                  · rw [← e]; exact HR.out
                have HOUT := Lib.hid hout
                clear hxx y2 hout
                by_cases hx3 : x < 4
                · have g1 : decide ((x : Int) < 4) = true := decide_eq_true (by omega)
                  by_cases hFj : F j < 0
                  · have g2 : decide (F j < 0) = true := decide_eq_true hFj
                    cases hwj : wall j
                    · rw [hwj] at hcA
                      have hF1 : F = outI W H wall t S j ∧ ∀ y, y < x → dstI W H wall t (rolF W H wall j y) ≠ (S : Int) := by
                        rcases HF.out with h | h
                        · exact h
                        · have := h.2; omega
                      obtain ⟨rfl, hno⟩ := hF1
                      have hin := rol_in hW (show x ≤ 3 by omega) (show j < W * H by rw [← HN.out]; exact hlj) hwj
                      have hcall := rolls_any W H j x k fr t (some ad) cap wall wx hW hW9 hH HN.out hn9 hlj (by omega) hxx'
                      obtain ⟨y, hy⟩ : ∃ y, y = rolF W H wall j x := ⟨_, rfl⟩
                      rw [← hy] at hcall hin
                      have hyk : y < k := by rw [HN.out]; exact hin.1
                      have HY := Lib.hid hy
                      have HNO := Lib.hid hno
                      have HFJ := Lib.hid hFj
                      have HWJ := Lib.hid hwj
                      clear hin hy hno HF
                      go_wp2_with fail
                      refine hcall.mono ?_
                      rintro e w5 ⟨rfl, hb5⟩
                      have hK5 := hK.trans (KB.of_below hb5)
                      have HR5 := Lib.hid (show RowAt w5 g 3 (intV (outI W H wall t S j)) k from (hb5.block g HR.out.lt).trans HR.out)
                      have o5 : w5.cell? ⟨g, y, none⟩ = some (I (outI W H wall t S j y)) := HR5.out.at_ hyk
                      have o6 : w5.cell? ⟨g, j, none⟩ = some (I (outI W H wall t S j j)) := HR5.out.at_ hlj
                      have o7 : w5.frozen? ⟨g, j, none⟩ = false := HR5.out.free j
                      clear hcall hb5 b0 b1 b2 b3 b4 o1 hK HR HOUT hcA hwj
                      cases hq : (outI W H wall t S j y == (S : Int))
                      · have hne : dstI W H wall t y ≠ (S : Int) := fun e => by
                          rw [(out_is (j := j)).2 e] at hq
                          simp at hq
                        have HNE : Hid (∀ z, z < x + 1 → dstI W H wall t (rolF W H wall j z) ≠ (S : Int)) := Lib.hid (fun z hz => by
                          rcases Nat.lt_succ_iff_lt_or_eq.1 hz with h | rfl
                          · exact HNO.out z h
                          · rw [← HY.out]; exact hne)
                        clear hne
                        go_wp2_with fail
                        go_roundw
                        case rel => exact ⟨x + 1, _, by omega, by go_num, HR5, hK5, Lib.hid (.inl ⟨rfl, HNE.out⟩)⟩
                        case measure => simp [intOf]; omega
                      · have hd : dstI W H wall t y = (S : Int) := (out_is (j := j)).1 (by simpa using hq)
                        have hhit := out_hit HWJ.out HFJ.out (show x ≤ 3 by omega) (by rw [← HY.out]; exact hd)
                        have HR6 : Hid (RowAt (w5.setCell ⟨g, j, none⟩ (I ((S : Int) + 1))) g 3 (intV (outI W H wall t S (j + 1))) k) := Lib.hid (intV_set HR5.out fun c _ => by
                          by_cases h1 : c = j
                          · rw [if_pos h1, h1, hhit]
                          · rw [if_neg h1, out_other h1])
                        have HH := Lib.hid hhit
                        have hK6 := hK5.trans (KB.setCell (b := g) (i := j) w5 (I ((S : Int) + 1)))
                        have ew : IntKind.i64.wrap ((S : Int) + 1) = (S : Int) + 1 := (IntWalk.i64_left _).trans (IntWalk.wrap64_in _ ⟨by omega, by omega⟩)
                        clear hd hhit HR5
                        go_wp2_with fail
                        go_roundw
                        case rel => exact ⟨x + 1, _, by omega, by go_num, HR6, hK6, Lib.hid (.inr ⟨rfl, by rw [HH.out]; omega⟩)⟩
                        case measure => simp [intOf]; omega
                    · rw [hwj] at hcA
                      have HJ2 := Lib.hid (HOUT.out (.inr (.inr hwj)))
                      clear HF HOUT HR hwj
                      go_wp2_with fail
                      go_roundw
                      case rel => exact ⟨j + 1, by omega, by go_num, HJ2, hK⟩
                      case measure => simp [intOf]; omega
                  · have g2 : decide (F j < 0) = false := decide_eq_false hFj
                    have HJ2 := Lib.hid (HOUT.out (.inr (.inl (by omega))))
                    clear HF HOUT HR
                    go_wp2_with fail
                    go_roundw
                    case rel => exact ⟨j + 1, by omega, by go_num, HJ2, hK⟩
                    case measure => simp [intOf]; omega
                · obtain rfl : x = 4 := by omega
                  have HJ2 := Lib.hid (HOUT.out (.inl rfl))
                  clear HF HOUT HR
                  go_wp2_with fail
                  go_roundw
                  case rel => exact ⟨j + 1, by omega, by go_num, HJ2, hK⟩
                  case measure => simp [intOf]; omega
            · obtain rfl : j = k := by omega
              have HS2 := Lib.hid (show RowAt wp g 3 (intV (outI W H wall t (S + 1) 0)) j from HJ.out.congr fun c hc => by rw [intV, intV, out_next j c hc])
              clear HJ HS
              go_wp2_with fail
              go_roundw
              case rel => exact ⟨S + 1, by omega, by go_num, HS2, hKJ⟩
              case measure => simp [intOf]; omega
        · obtain rfl : S = k := by omega
          have HD := Lib.hid (show RowAt wo g 3 (intV (dstI W H wall t)) S from HS.out.congr fun c hc => by rw [intV, intV, out_end hW S HN.out c hc])
          clear HS
          go_wp2_with fail
          go_ret
          exact ⟨g, rfl, HD.out, hB2.trans (hKS.below (by omega) (by omega))⟩
end Go.Proofs.Ytfjincdlenneaaa

/-
  CONTRACT of the document's own answer padlockref03.Next.
-/
import Derived.Test.YteeppkhlnejfkaaPzRFol
namespace Go.Proofs.Yteeppkhlnejfkaa
open Go.RowKit Go.Shelf
theorem rwithin_any (n lo hi : Int) (w : World) :
    Calls Try.prog 67 #[.int .i64 n, .int .i64 lo, .int .i64 hi] w fun e w' => e = .returned (.bool (wi n lo hi)) ∧ w = w' := by
  by_cases h : lo ≤ n
  all_goals
    go_enter Try.func67, Try.ntmps67
    go_wp2
    go_ret
    exact ⟨ret_bool (by simp [wi]; omega), rfl⟩
theorem rfollow_at {l : List Int} {n : Nat} (hn : l.length = n) (d : Nat) (A : Option Addr) (c b : Nat) (w : World) (hx : IntsR w w.heap.size A l) (h1 : d + 1 ≤ l.length) (hl : l.length ≤ 64) (hb : b * 2 ^ (d + 1) ≤ 10000000000000) (hB : Bnd b l) :
    Calls Try.prog 81 #[.slice A n c, I (d : Nat)] w fun e w' => e = .returned (I (fol d l)) ∧ Below w.heap.size w w' := by
  subst hn; exact rfollow_any d A c l b w hx h1 hl hb hB
theorem requal_at {l : List Int} {n : Nat} (hn : l.length = n) (A : Option Addr) (c : Nat) (w : World) (hx : IntsR w w.heap.size A l) (hl : l.length ≤ 64) :
    Calls Try.prog 80 #[.slice A n c] w fun e w' => e = .returned (.bool (allEq l)) ∧ Below w.heap.size w w' := by
  subst hn; exact requal_any A c l w hx hl
/-- where the search for a degree stands -/
def Deg (l l' : List Int) (j : Nat) : Prop := ∃ acc : Int, Fol l l' acc j ∧ ∀ i, fol (j + i) l = acc + fol i l'
theorem Deg.start (l : List Int) : Deg l l 0 := ⟨0, by rw [Fol]; simp, fun i => by simp⟩
theorem Deg.step {l l' : List Int} {j n : Nat} (h : Deg l l' j) (hn : l'.length = n + 2) (hq : allEq l' = false) : Deg l (diffs l') (j + 1) := by
  obtain ⟨acc, h1, h2⟩ := h
  refine ⟨acc + nth l' (n + 1), h1.step hn hq, fun i => ?_⟩
  rw [Nat.add_assoc, Nat.add_comm 1 i, h2 (i + 1), fol, lastD_nth hn, Int.add_assoc]
theorem Deg.stop {l l' : List Int} {j n : Nat} (h : Deg l l' j) (hn : l'.length = n + 2) (hq : allEq l' = true) : nxt l.length l = some (fol j l, j) := by
  obtain ⟨acc, h1, h2⟩ := h
  have e := h2 0
  rw [fol, lastD_nth hn, Nat.add_zero] at e
  rw [h1.stop hn hq, e]
theorem Deg.none {l l' : List Int} {j : Nat} (h : Deg l l' j) (hn : l'.length < 2) : nxt l.length l = none := by
  obtain ⟨acc, h1, _⟩ := h
  exact h1.none hn

set_option maxRecDepth 100000 in
set_option maxHeartbeats 1000000 in
theorem rNext_any (A : Option Addr) (c : Nat) (l : List Int) (w : World) (hx : IntsR w w.heap.size A l) (hl : l.length ≤ maxLen) :
    Calls Try.prog 27 #[.slice A l.length c] w fun e w' => e = .returned (nextV l) ∧ Below w.heap.size w w' := by
  unfold maxLen at hl
  cases hq : wi l.length 2 20
  · have H2 := Lib.hid (show nextV l = .tuple #[I 0, I 0, I 1] by rw [nextV, seqB, hq]; rfl)
    go_enter Try.func27, Try.ntmps27
    go_wp2_with (go_at_call 67; refine (rwithin_any _ _ _ _).mono ?_; rintro e w' ⟨rfl, rfl⟩; rw [hq])
    go_ret3
    exact ⟨by rw [H2.out]; rfl, Below.refl _ _⟩
  · have hle : l.length ≤ 20 := by simp [wi] at hq; omega
    have HQ := Lib.hid hq
    go_enter Try.func27, Try.ntmps27
    go_wp2_with (go_at_call 67; refine (rwithin_any _ _ _ _).mono ?_; rintro e w' ⟨rfl, rfl⟩; rw [hq])
    clear hq
    go_loop [5] (fun i => ∃ k : Nat, k ≤ l.length ∧ i = .int .i64 k ∧ Hid ((l.take k).all (fun s => wi s (-10000) 10000) = true)) (fun i => l.length - (intOf i).toNat)
    case atStart => exact ⟨0, Nat.zero_le _, rfl, Lib.hid rfl⟩
    case round =>
      obtain ⟨k, hk, rfl, HA⟩ := hrel
      by_cases hlt : k < l.length
      · obtain ⟨ad, rfl, hbl, hc⟩ := hx.at_ (k := k) hlt
        cases hp : wi (nth l k) (-10000) 10000
        · have H2 := Lib.hid (show nextV l = .tuple #[I 0, I 0, I 1] by rw [nextV, seqB, HQ.out, inB, not_all (fun s => wi s (-10000) 10000) l k hlt hp]; rfl)
          go_wp2_with (go_at_call 67; refine (rwithin_any _ _ _ _).mono ?_; rintro e w' ⟨rfl, rfl⟩; rw [hp])
          go_ret3
          exact ⟨by rw [H2.out]; rfl, Below.refl _ _⟩
        · have H2 := Lib.hid (all_take_snoc (fun s => wi s (-10000) 10000) l k hlt HA.out hp)
          go_wp2_with (go_at_call 67; refine (rwithin_any _ _ _ _).mono ?_; rintro e w' ⟨rfl, rfl⟩; rw [hp])
          go_round
          case rel => exact ⟨k + 1, by omega, by go_num, H2⟩
          case measure => simp [intOf]; omega
      · obtain rfl : k = l.length := by omega
        rw [List.take_length] at HA
        have HS := Lib.hid (show seqB l = true by rw [seqB, HQ.out, inB, HA.out]; rfl)
        have HB := Lib.hid (inB_bnd (b := 10000) HA.out : Bnd 10000 l)
        have hP : 10000 * 2 ^ l.length ≤ 10000000000000 := by
          have : 2 ^ l.length ≤ 2 ^ 20 := Nat.pow_le_pow_right (by omega) hle
          omega
        have HP := Lib.hid hP
        have HX := Lib.hid hx
        clear hx hP HA HQ
        go_wp2_with fail
        go_loopw [6, 7] (fun s d wr => ∃ (l' : List Int) (A' : Option Addr) (c' j b : Nat), s = .slice A' l'.length c' ∧ d = .int .i64 j ∧ j + l'.length = l.length ∧ Hid (Deg l l' j) ∧ Hid (IntsR wr wr.heap.size A' l') ∧ Hid (Bnd b l') ∧ Hid (b * 2 ^ l'.length ≤ 10000000000000) ∧ Below w.heap.size w wr) (fun _ d _ => 64 - (intOf d).toNat)
        case atStart => exact ⟨l, A, c, 0, 10000, rfl, rfl, by omega, Lib.hid (Deg.start l), HX, HB, HP, Below.refl _ _⟩
        case round =>
          obtain ⟨l', A', c', j, b, rfl, rfl, hj, HF, HX', HB', HQ, hBl⟩ := hrel
          rcases Nat.lt_or_ge l'.length 2 with h2 | h2
          · have H0 := Lib.hid (show nextV l = .tuple #[I 0, I 0, I 3] by rw [nextV, HS.out, if_pos rfl, HF.out.none h2])
            go_wp2_with fail
            go_ret3
            exact ⟨by rw [H0.out]; rfl, hBl⟩
          · obtain ⟨n, hn⟩ : ∃ n, l'.length = n + 2 := ⟨l'.length - 2, by omega⟩
            have hbM := pow_most HQ.out
            have HN := Lib.hid hn
            rw [hn] at hj ⊢
            go_wp2_with fail
            refine (requal_at hn A' c' _ HX'.out (by omega)).mono ?_
            rintro e w2 ⟨rfl, hb3⟩
            have HX2 := Lib.hid (ints_call hb3 HX'.out)
            have hB2 : Below w.heap.size w w2 := hBl.trans (hb3.mono hBl.size)
            clear hBl hb3 HX'
            cases hq : allEq l'
            · have HF2 := Lib.hid (HF.out.step hn hq)
              go_wp2_with fail
              refine (rdifferences_at hn A' c' b _ HX2.out (by omega) (by omega) (by omega) HB'.out).mono ?_
              rintro e w3 ⟨A3, c3, rfl, hx3, hb4⟩
              have hdl : (diffs l').length = n + 1 := by rw [diffs_length, hn]; rfl
              have hB3 : Below w.heap.size w w3 := hB2.trans (hb4.mono hB2.size)
              go_wp2_with fail
              go_roundw
              case rel => exact ⟨diffs l', A3, c3, j + 1, 2 * b, by rw [hdl], by go_num, by omega, HF2, Lib.hid hx3, Lib.hid HB'.out.diffs, Lib.hid (by rw [hdl]; exact pow_step (by rw [← hn]; exact HQ.out)), hB3⟩
              case measure => simp [intOf]; omega
            · have H0 := Lib.hid (show nextV l = .tuple #[I (fol j l), I (j : Nat), I 0] by rw [nextV, HS.out, if_pos rfl, HF.out.stop hn hq])
              have hx4 : IntsR w2 w2.heap.size A l := ints_call hB2 HX.out
              have hpw : 10000 * 2 ^ (j + 1) ≤ 10000000000000 := Nat.le_trans (Nat.mul_le_mul_left _ (Nat.pow_le_pow_right (by omega) (by omega))) HP.out
              go_wp2_with fail
              refine (rfollow_at rfl j A c 10000 _ hx4 (by omega) (by omega) hpw HB.out).mono ?_
              rintro e w3 ⟨rfl, hb4⟩
              go_wp2_with fail
              go_ret3
              exact ⟨by rw [H0.out]; rfl, hB2.trans (hb4.mono hB2.size)⟩
end Go.Proofs.Yteeppkhlnejfkaa

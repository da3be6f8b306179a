/-
  CONTRACT: the law PuzzlesLightest.
-/
import Derived.Test.YteeppkhlnejfkaaPzLgtPure
import Derived.Test.YteeppkhlnejfkaaPzQTail
namespace Go.Proofs.Yteeppkhlnejfkaa
open Go.RowKit Go.Shelf
theorem cells_at {w : World} {B : Nat} {A : Option Addr} {xs : List Int} (h : IntsR w B A xs) {k : Nat} (hk : k < xs.length) : ∃ b off : Nat, A = some ⟨b, off, none⟩ ∧ b < B ∧ w.cell? ((⟨b, off, none⟩ : Addr).add k) = some (I (nth xs k)) := by
  obtain ⟨ad, e, hb, hc⟩ := h (by omega)
  obtain ⟨b, off, s⟩ := ad
  have hs : s = none := World.cell?_spot (hc 0 (by omega))
  subst hs
  exact ⟨b, off, e, hb, hc k hk⟩

set_option maxRecDepth 100000 in
set_option maxHeartbeats 4000000 in
theorem lightest_any (A1 A2 : Option Addr) (c1 c2 : Nat) (ws ss : List Int) (load : Int) (w : World) (hx : IntsR w w.heap.size A1 ws) (hy : IntsR w w.heap.size A2 ss) (hl : ws.length ≤ maxLen) (hls : ss.length ≤ maxLen) :
    Calls Try.prog 12 #[.slice A1 ws.length c1, .slice A2 ss.length c2, I load] w fun e w' => e = .returned (.bool true) ∧ Below w.heap.size w w' := by
  have hls' := hls
  unfold maxLen at hls'
  by_cases h8 : ws.length ≤ 8
  · have d8 : decide (8 < ws.length) = false := by simpa using h8
    go_enter Try.func12, Try.ntmps12
    go_wp2_with fail
    refine (Weigh_any A1 c1 ws load w hx hl).mono ?_
    rintro e w1 ⟨A3, c3, rfl, hi1, hm1, hb1⟩
    have hx1 := ints_call hb1 hx
    go_wp2_with fail
    refine (Weighings_any A1 c1 ws load w1 hx1 hl).mono ?_
    rintro e w2 ⟨rfl, hb2⟩
    have hx2 := ints_call hb2 hx1
    have hi2 := ints_call hb2 hi1
    have hB2 : Below w.heap.size w w2 := hb1.trans (hb2.mono hb1.size)
    have hy2 : IntsR w2 w2.heap.size A2 ss := (hy.below hB2 (Nat.le_refl _)).more hB2.size
    clear hx1 hi1 hb1 hb2
    cases hv : balB ws load
    · have e1 : wghE ws load = 1 := by rw [wghE, hv]; rfl
      have e2 : wghF ws load = 1 := by rw [wghF, hv]; rfl
      rw [e1, e2]
      clear e1 e2 hv
      go_wp2_with fail
      refine (works_any w2).mono ?_
      rintro e w3 ⟨rfl, hb3⟩
      go_wp2
      go_ret
      exact ⟨rfl, hB2.trans (hb3.mono hB2.size)⟩
    · have e2 : wghF ws load = 0 := by rw [wghF, hv]; rfl
      have e3 : wghN ws load = (wgs ws load).length := by rw [wghN, hv]; rfl
      have e4 : wghL ws load = cheap usedL (wgs ws load) := by rw [wghL, hv]; rfl
      have hiff := fun s : List Int => (wgs_iff (ws := ws) (ss := s) (load := load))
      have hT : ∀ s : List Int, (s ∈ wgs ws load → tipsE ws s load = 0 ∧ tipsN ws s load = 0) ∧ (s ∉ wgs ws load → (tipsE ws s load != 0) = true ∨ (tipsE ws s load != 0) = false ∧ (tipsN ws s load != 0) = true) := by
        intro s
        refine ⟨fun h => ?_, fun h => ?_⟩
        · obtain ⟨a, b⟩ := (hiff s).1 h
          exact ⟨by simp [tipsE, hv, a], by simp [tipsN, hv, a, b]⟩
        · cases ha : standB ws s
          · exact .inl (by simp [tipsE, hv, ha])
          · refine .inr ⟨by simp [tipsE, hv, ha], ?_⟩
            simp only [tipsN, hv, ha, and_self, if_true]
            simpa using fun hb => h ((hiff s).2 ⟨ha, hb⟩)
      have HV := Lib.hid hv
      rw [e2, e3]
      have E4 := Lib.hid e4
      have HT := Lib.hid hT
      clear e2 e3 hv hT hiff e4
      by_cases hp : 0 < (wgs ws load).length
      · have e1 : wghE ws load = 0 := by rw [wghE, HV.out, if_pos rfl, if_pos hp]
        rw [e1]
        have g1 : decide (((wgs ws load).length : Int) > 0) = true := by simpa using hp
        have g2 : decide (0 < ((wgs ws load).length : Int)) = true := by simpa using hp
        have HP := Lib.hid hp
        generalize hN : ((wgs ws load).length : Int) = N at *
        clear hN e1 hp
        go_wp2_with fail
        refine (Tips_any A1 A3 c1 c3 ws (wghL ws load) load w2 hx2 hi2 hl hm1).mono ?_
        rintro e w3 ⟨rfl, hb3⟩
        have hmem : wghL ws load ∈ wgs ws load := by rw [E4.out]; exact cheap_mem HP.out
        have hLl : (wghL ws load).length = ws.length := wgs_each _ hmem
        obtain ⟨t1, t2⟩ := (HT.out (wghL ws load)).1 hmem
        rw [t1, t2]
        have hL0 : load = 0 → usedL (wghL ws load) = 0 := fun e => by rw [E4.out, e]; exact best_none
        obtain ⟨L, hL⟩ : ∃ L, L = wghL ws load := ⟨_, rfl⟩
        rw [← hL] at hmem hLl hi2 hm1 E4 hL0 ⊢
        have hm1' := hm1
        unfold maxLen at hm1'
        have hi3 := ints_call hb3 hi2
        have hx3 := ints_call hb3 hx2
        have hy3 := ints_call hb3 hy2
        have hB3 : Below w.heap.size w w3 := hB2.trans (hb3.mono hB2.size)
        have HM := Lib.hid hmem
        have HL := Lib.hid hLl
        have H0 := Lib.hid hL0
        clear t1 t2 hmem hLl hL0 hb3 hi2 hx2 hy2 hL hB2
        go_upto_region 11 with fail
        go_cut [76] from 62 to 76 (fun s wx => s = .bool false ∧ wx = w3)
        case first =>
          by_cases h0 : load = 0
          · have g3 : (load == 0) = true := by simp [h0]
            have hu := H0.out h0
            have HU := Lib.hid hu
            clear h0 hu
            go_wp2_with fail
            refine (rUsed_any A3 c3 L w3 hi3 hm1).mono ?_
            rintro e w' ⟨rfl, rfl⟩
            rw [HU.out]
            go_wp2_with fail
            go_meet
            exact ⟨rfl, rfl⟩
          · have g3 : (load == 0) = false := by simpa using h0
            clear h0
            go_wp2_with fail
            go_meet
            exact ⟨rfl, rfl⟩
        case rest =>
          obtain ⟨rfl, hwc⟩ := hcut
          rw [hwc]
          clear hwc
          go_wp2_with fail
          refine (Tips_any A1 A2 c1 c2 ws ss load w3 hx3 hy3 hl hls).mono ?_
          rintro e w4 ⟨rfl, hb4⟩
          have hi4 := ints_call hb4 hi3
          have hy4 := ints_call hb4 hy3
          have hB4 : Below w.heap.size w w4 := hB3.trans (hb4.mono hB3.size)
          clear hb4 hx3 hi3 hy3 hB3
          by_cases hs : ss ∈ wgs ws load
          · obtain ⟨t1, t2⟩ := (HT.out ss).1 hs
            rw [t1, t2]
            have hsl : ss.length = ws.length := wgs_each _ hs
            have hle : usedL L ≤ usedL ss := by rw [E4.out]; exact cheap_least hs
            have hfirst : usedL ss ≤ usedL L → ss ≠ L → LtN L ss ws.length := fun h1 h2 => by
              rw [E4.out] at h1 h2 ⊢; exact best_first hs h1 h2
            have HF := Lib.hid hfirst
            have HSL := Lib.hid hsl
            have g6 : ((L.length : Int) != (ss.length : Int)) = false := by rw [HL.out, hsl]; simp
            have g7 : decide ((usedL ss : Int) < (usedL L : Int)) = false := by simpa using hle
            have g8 : decide (usedL ss < usedL L) = false := by simpa using hle
            clear hs hsl t1 t2 hfirst hle
            go_wp2_with fail
            refine (rUsed_any A2 c2 ss w4 hy4 hls).mono ?_
            rintro e w' ⟨rfl, rfl⟩
            go_wp2_with fail
            refine (rUsed_any A3 c3 L w' hi4 hm1).mono ?_
            rintro e w'' ⟨rfl, rfl⟩
            go_wp2_with fail
            go_loopw [15] (fun i wr => ∃ k : Nat, k ≤ ss.length ∧ i = .int .i64 k ∧ Hid (∀ j, j < k → nth ss j = nth L j) ∧ Below w''.heap.size w'' wr) (fun i _ => ss.length - (intOf i).toNat)
            case atStart => exact ⟨0, Nat.zero_le _, rfl, Lib.hid (fun j h => by omega), Below.refl _ _⟩
            case round =>
              obtain ⟨k, hk, rfl, HA, hB⟩ := hrel
              have hyr := ints_call hB hy4
              have hir := ints_call hB hi4
              have hBr : Below w.heap.size w wr := hB4.trans (hB.mono hB4.size)
              clear hy4 hi4 hB4 g6 g7 g8
              by_cases hlt : k < ss.length
              · obtain ⟨a1, rfl, hb1, d1⟩ := hyr.at_ hlt
                obtain ⟨a2, rfl, hb2, d2⟩ := hir.at_ (k := k) (by rw [HL.out, ← HSL.out]; exact hlt)
                have hkL : (k : Int) < (L.length : Int) := by rw [HL.out, ← HSL.out]; omega
                have hkL2 : k < L.length := by omega
                by_cases he : nth ss k = nth L k
                · have hb3 : (nth ss k != nth L k) = false := by simp [he]
                  have HE := Lib.hid he
                  clear he
                  go_wp2
                  go_quiet (fail)
                  go_wp2
                  go_roundw
                  case rel => exact ⟨k + 1, by omega, by go_num, Lib.hid (fun j hj => by rcases Nat.lt_succ_iff_lt_or_eq.1 hj with h | rfl; exact HA.out j h; exact HE.out), below_drewN hB _⟩
                  case measure => simp [intOf]; omega
                · have hb3 : (nth ss k != nth L k) = true := by simpa using he
                  have HE := Lib.hid he
                  clear he
                  go_wp2
                  go_quiet (fail)
                  go_upto_region 22 with fail
                  refine wp_region_qtail 17 (by kernel_rfl) (by kernel_rfl) ?_
                  simp only [List.take_succ_cons, List.take_zero, List.drop_succ_cons, List.drop_zero]
                  obtain ⟨W, hW⟩ : ∃ W, W = (wr.drewN nq).drew := ⟨_, rfl⟩
                  rw [← hW]
                  have hyW : IntsR W W.heap.size (some a1) ss := by rw [hW]; exact hyr
                  have hiW : IntsR W W.heap.size (some a2) L := by rw [hW]; exact hir
                  have f1 : W.cell? (a1.add k) = some (.int .i64 (nth ss k)) := by rw [hW]; exact d1
                  have f2 : W.cell? (a2.add k) = some (.int .i64 (nth L k)) := by rw [hW]; exact d2
                  have hBW : Below w.heap.size w W := by rw [hW]; exact (below_drewN hBr _).drew
                  clear hW d1 d2 hb3
                  by_cases hgt : usedL L < usedL ss
                  · have q1 : decide ((usedL L : Int) < (usedL ss : Int)) = true := by simpa using hgt
                    have q2 : decide (usedL L < usedL ss) = true := by simpa using hgt
                    clear hgt
                    repeat (first | go_big_quiet_skip | (go_big_quiet_want; go_big_quiet_op; (first | go_big_quiet_on | (with_reducible refine ⟨_, rUsed_any (some a1) c2 ss W hyW hls, ?_⟩; go_big_quiet_on) | (with_reducible refine ⟨_, rUsed_any (some a2) c3 L W hiW hm1, ?_⟩; go_big_quiet_on))))
                    refine wpQuiet_nil ?_
                    go_wp2_with fail
                    refine (works_any W).mono ?_
                    rintro e w5 ⟨rfl, hb5⟩
                    go_wp2
                    go_ret
                    exact ⟨rfl, hBW.trans (hb5.mono hBW.size)⟩
                  · have q1 : decide ((usedL L : Int) < (usedL ss : Int)) = false := by simpa using hgt
                    have q2 : decide (usedL L < usedL ss) = false := by simpa using hgt
                    obtain ⟨i, hi1, hi2, hi3⟩ := HF.out (by omega) (fun e => HE.out (by rw [e]))
                    have hik : i = k := by
                      rcases Nat.lt_trichotomy i k with h | h | h
                      · have := HA.out i h; omega
                      · exact h
                      · exact absurd (hi2 k h).symm HE.out
                    subst hik
                    have q3 : decide (nth L i < nth ss i) = true := by simpa using hi3
                    clear hgt hi2 hi3
                    repeat (first | go_big_quiet_skip | (go_big_quiet_want; go_big_quiet_op; (first | go_big_quiet_on | (with_reducible refine ⟨_, rUsed_any (some a1) c2 ss W hyW hls, ?_⟩; go_big_quiet_on) | (with_reducible refine ⟨_, rUsed_any (some a2) c3 L W hiW hm1, ?_⟩; go_big_quiet_on))))
                    refine wpQuiet_nil ?_
                    go_wp2_with fail
                    refine (works_any W).mono ?_
                    rintro e w5 ⟨rfl, hb5⟩
                    go_wp2
                    go_ret
                    exact ⟨rfl, hBW.trans (hb5.mono hBW.size)⟩
              · obtain rfl : k = ss.length := by omega
                go_wp2_with fail
                refine (works_any wr).mono ?_
                rintro e w5 ⟨rfl, hb5⟩
                go_wp2
                go_ret
                exact ⟨rfl, hBr.trans (hb5.mono hBr.size)⟩
          · have g4 := (HT.out ss).2 hs
            clear hs
            generalize tipsE ws ss load = q1 at *
            generalize tipsN ws ss load = q2 at *
            rcases g4 with g4 | ⟨g4, g5⟩
            all_goals
              go_wp2_with fail
              refine (works_any w4).mono ?_
              rintro e w5 ⟨rfl, hb5⟩
              go_wp2
              go_ret
              exact ⟨rfl, hB4.trans (hb5.mono hB4.size)⟩
      · have e1 : wghE ws load = 3 := by rw [wghE, HV.out, if_pos rfl, if_neg hp]
        rw [e1]
        have hN : (wgs ws load).length = 0 := by omega
        have hs : ss ∉ wgs ws load := by rw [List.eq_nil_of_length_eq_zero hN]; simp
        have g4 := (HT.out ss).2 hs
        rw [hN]
        clear hN hs hp e1
        go_wp2_with fail
        refine (Tips_any A1 A2 c1 c2 ws ss load w2 hx2 hy2 hl hls).mono ?_
        rintro e w4 ⟨rfl, hb4⟩
        have hB4 : Below w.heap.size w w4 := hB2.trans (hb4.mono hB2.size)
        clear hb4 hx2 hy2 hB2
        generalize tipsE ws ss load = q1 at *
        generalize tipsN ws ss load = q2 at *
        rcases g4 with g4 | ⟨g4, g5⟩
        all_goals
          go_wp2_with fail
          refine (works_any w4).mono ?_
          rintro e w5 ⟨rfl, hb5⟩
          go_wp2
          go_ret
          exact ⟨rfl, hB4.trans (hb5.mono hB4.size)⟩
  · have d8 : decide (8 < ws.length) = true := by simpa using h8
    go_enter Try.func12, Try.ntmps12
    go_wp2_with fail
    refine (works_any w).mono ?_
    rintro e w3 ⟨rfl, hb3⟩
    go_wp2
    go_ret
    exact ⟨rfl, hb3⟩
end Go.Proofs.Yteeppkhlnejfkaa

/-
  CONTRACTS: the document's own Flows; puzzles.Flows in all cases.
-/
import Derived.Test.YtglkjiimmlobbaaPzRFlo
import Derived.Test.YtglkjiimmlobbaaPzFlo
namespace Go.Proofs.Ytglkjiimmlobbaa
open Go.RowKit Go.Shelf
theorem floE_grid {W H fr tt : Int} {ps ts : List Int} (h : pipB W H fr tt ps = false) : floE W H fr tt ps ts = 30 := by
  rw [floE, fst_two, h]; rfl
theorem floE_arg {W H fr tt : Int} {ps ts : List Int} (h : pipB W H fr tt ps = true) (h2 : turnB W H ts = false) : floE W H fr tt ps ts = 1 := by
  rw [floE, fst_two, h, h2]; rfl
theorem floE_ok {W H fr tt : Int} {ps ts : List Int} (h : pipB W H fr tt ps = true) (h2 : turnB W H ts = true) : floE W H fr tt ps ts = 0 := by
  rw [floE, fst_two, h, h2]; rfl
theorem flo_none {W H fr tt : Int} {ps ts : List Int} (h : floE W H fr tt ps ts ≠ 0) : floL W H fr tt ps ts = [] ∧ floN W H fr tt ps ts = 0 := by
  rw [floL, floN, if_neg h, if_neg h]; exact ⟨rfl, rfl⟩
theorem flo_some {a b f N : Nat} {tt : Int} {ps ts : List Int} (h : floE a b f tt ps ts = 0) (hl : ps.length = N) : floL a b f tt ps ts = numsF (wetC a b (opF ps ts N) f) N ∧ floN a b f tt ps ts = lkC a b (opF ps ts N) f := by
  rw [floL, floN, if_pos h, if_pos h, hl]; exact ⟨rfl, rfl⟩
theorem turn_len {a b : Nat} {ts : List Int} (hN : a * b ≤ 9) : turnB a b ts = (decide (ts.length = a * b) && inB 0 3 ts) := by
  have e : (a : Int) * (b : Int) = ((a * b : Nat) : Int) := by simp
  rw [turnB, e, show wrap64 ((a * b : Nat) : Int) = ((a * b : Nat) : Int) from IntWalk.wrap64_in _ ⟨by omega, by omega⟩]
  congr 1
  rw [Bool.eq_iff_iff]; simp; omega

theorem Flows_any (W H fr tt : Int) (A A2 : Option Addr) (c c2 : Nat) (ps ts : List Int) (w : World) (hx : IntsR w w.heap.size A ps) (hl : ps.length ≤ maxLen) (hy : IntsR w w.heap.size A2 ts) (hl2 : ts.length ≤ maxLen) :
    Calls Try.prog 34 #[.agg #[I W, I H, .slice A ps.length c, I fr, I tt], .slice A2 ts.length c2] w fun e w' => ∃ A' c', e = .returned (.tuple #[.slice A' (floL W H fr tt ps ts).length c', I (floN W H fr tt ps ts : Nat), I (floE W H fr tt ps ts)]) ∧ IntsR w' w'.heap.size A' (floL W H fr tt ps ts) ∧ Below w.heap.size w w' := by
  by_cases hE : floE W H fr tt ps ts = 0
  · obtain ⟨h1, h2⟩ := floE_zero hE
    obtain ⟨a, b, f, t, rfl, rfl, rfl, rfl, k1, k2, k3, k4, k5, k6, k7, k8, k9⟩ := pip_facts h1
    obtain ⟨t1, t2⟩ := turn_facts h2 k5
    obtain ⟨e1, e2⟩ := flo_some hE k8
    rw [e1, e2, hE]
    exact Flows_yes a b f (a * b) t A A2 c c2 ps ts w hx hl hy hl2 k1 k2 k4 (Lib.hid rfl) k5 k6 (Lib.hid k8) (Lib.hid t1) (Lib.hid k9) (Lib.hid t2) (Lib.hid hE)
  · obtain ⟨e1, e2⟩ := flo_none hE
    rw [e1, e2]
    refine (Flows_no W H fr tt A A2 c c2 ps ts w hx hl hy hl2 (Lib.hid hE)).mono ?_
    rintro e w' ⟨rfl, hb⟩
    exact ⟨none, 0, rfl, IntsR.nil, hb⟩

set_option maxRecDepth 100000 in
set_option maxHeartbeats 4000000 in
theorem rFlows_any (W H fr tt : Int) (A A2 : Option Addr) (c c2 : Nat) (ps ts : List Int) (w : World) (hx : IntsR w w.heap.size A ps) (hl : ps.length ≤ maxLen) (hy : IntsR w w.heap.size A2 ts) (hl2 : ts.length ≤ maxLen) :
    Calls Try.prog 35 #[.agg #[I W, I H, .slice A ps.length c, I fr, I tt], .slice A2 ts.length c2] w fun e w' => ∃ A' c', e = .returned (.tuple #[.slice A' (floL W H fr tt ps ts).length c', I (floN W H fr tt ps ts : Nat), I (floE W H fr tt ps ts)]) ∧ IntsR w' w'.heap.size A' (floL W H fr tt ps ts) ∧ Below w.heap.size w w' := by
  have hl' := hl
  have hl2' := hl2
  unfold maxLen at hl' hl2'
  cases hp : pipB W H fr tt ps
  · have HE := Lib.hid (floE_grid (ts := ts) hp)
    have HF := Lib.hid (flo_none (W := W) (H := H) (fr := fr) (tt := tt) (ps := ps) (ts := ts) (by rw [HE.out]; decide))
    obtain ⟨wa, ha, sa, ya, ba⟩ := one_box w (.cells #[I W, I H, .slice A ps.length c, I fr, I tt] 43)
    have f0 : wa.cell? ⟨w.heap.size, 0, none⟩ = some (I W) := cell_of_row wa _ 0 _ _ _ ya
    have f1 : wa.cell? ⟨w.heap.size, 1, none⟩ = some (I H) := cell_of_row wa _ 1 _ _ _ ya
    have f2 : wa.cell? ⟨w.heap.size, 2, none⟩ = some (.slice A ps.length c) := cell_of_row wa _ 2 _ _ _ ya
    have f3 : wa.cell? ⟨w.heap.size, 3, none⟩ = some (I fr) := cell_of_row wa _ 3 _ _ _ ya
    have f4 : wa.cell? ⟨w.heap.size, 4, none⟩ = some (I tt) := cell_of_row wa _ 4 _ _ _ ya
    have hcall := checkPipes_any W H fr tt A c ps wa (ints_call ba hx) hl
    rw [hp] at hcall
    clear ya hx hy hp
    go_enter Try.func35, Try.ntmps35
    go_upto_region 1 with fail
    rw [← ha]
    clear ha
    go_wp2_with fail
    refine hcall.mono ?_
    rintro e w2 ⟨rfl, hb2⟩
    go_wp2
    go_ret3
    rw [HF.out.1, HF.out.2, HE.out]
    exact ⟨none, 0, rfl, IntsR.nil, ba.trans (hb2.mono (by omega))⟩
  · obtain ⟨a, b, f, t, rfl, rfl, rfl, rfl, k1, k2, k3, k4, k5, k6, k7, k8, k9⟩ := pip_facts hp
    obtain ⟨N, hN⟩ : ∃ N, N = a * b := ⟨_, rfl⟩
    have HTL := Lib.hid (turn_len (a := a) (b := b) (ts := ts) k5)
    rw [← hN] at k5 k6 k7 k8
    obtain ⟨wa, ha, sa, ya, ba⟩ := one_box w (.cells #[I a, I b, .slice A ps.length c, I f, I t] 43)
    have f0 : wa.cell? ⟨w.heap.size, 0, none⟩ = some (I a) := cell_of_row wa _ 0 _ _ _ ya
    have f1 : wa.cell? ⟨w.heap.size, 1, none⟩ = some (I b) := cell_of_row wa _ 1 _ _ _ ya
    have f2 : wa.cell? ⟨w.heap.size, 2, none⟩ = some (.slice A ps.length c) := cell_of_row wa _ 2 _ _ _ ya
    have f3 : wa.cell? ⟨w.heap.size, 3, none⟩ = some (I f) := cell_of_row wa _ 3 _ _ _ ya
    have f4 : wa.cell? ⟨w.heap.size, 4, none⟩ = some (I t) := cell_of_row wa _ 4 _ _ _ ya
    have hcall := checkPipes_any a b f t A c ps wa (ints_call ba hx) hl
    rw [hp] at hcall
    have YA := Lib.hid ya
    have HX := Lib.hid (ints_call ba hx)
    have HY := Lib.hid (ints_call ba hy)
    have HPT := Lib.hid hp
    have HN := Lib.hid hN
    have HPL := Lib.hid k8
    have HP := Lib.hid k9
    clear ya hx hy hp hN k8 k9
    go_enter Try.func35, Try.ntmps35
    go_upto_region 1 with fail
    rw [← ha]
    clear ha
    go_wp2_with fail
    refine hcall.mono ?_
    rintro e w2 ⟨rfl, hb2⟩
    have hB2 : Below w.heap.size w w2 := ba.trans (hb2.mono (by omega))
    have hsw : w.heap.size < w2.heap.size := by have := hb2.size; omega
    have y2 := (hb2.block _ (by omega)).trans YA.out
    have g0 : w2.cell? ⟨w.heap.size, 0, none⟩ = some (I a) := cell_of_row w2 _ 0 _ _ _ y2
    have g1 : w2.cell? ⟨w.heap.size, 1, none⟩ = some (I b) := cell_of_row w2 _ 1 _ _ _ y2
    have g2 : w2.cell? ⟨w.heap.size, 2, none⟩ = some (.slice A ps.length c) := cell_of_row w2 _ 2 _ _ _ y2
    have g3 : w2.cell? ⟨w.heap.size, 3, none⟩ = some (I f) := cell_of_row w2 _ 3 _ _ _ y2
    have g4 : w2.cell? ⟨w.heap.size, 4, none⟩ = some (I t) := cell_of_row w2 _ 4 _ _ _ y2
    have hx2 := ints_call hb2 HX.out
    have hy2 := ints_call hb2 HY.out
    clear y2 hb2 f0 f1 f2 f3 f4 ba sa hcall YA HX HY
    by_cases hn : ts.length = ps.length
    · have q1 : ((ts.length : Int) != (ps.length : Int)) = false := by rw [hn]; simp
      have HTS : Hid (ts.length = N) := Lib.hid (by rw [hn, HPL.out])
      clear hn
      go_wp2_with fail
      go_loopw [8] (fun i wr => ∃ k : Nat, k ≤ ts.length ∧ i = .int .i64 k ∧ Hid ((ts.take k).all (fun s => wi s 0 3) = true) ∧ wr = w2) (fun i _ => ts.length - (intOf i).toNat)
      case atStart => exact ⟨0, Nat.zero_le _, rfl, Lib.hid rfl, rfl⟩
      case round =>
        obtain ⟨k, hk, rfl, HA, rfl⟩ := hrel
        by_cases hlt : k < ts.length
        · obtain ⟨ad, rfl, hb, hc⟩ := hy2.at_ hlt
          cases hq : wi (nth ts k) 0 3
          · have h2 : inB 0 3 ts = false := not_all (fun s => wi s 0 3) ts k hlt hq
            have HE := Lib.hid (floE_arg HPT.out (show turnB a b ts = false by rw [HTL.out, h2, Bool.and_false]))
            have HF := Lib.hid (flo_none (W := a) (H := b) (fr := f) (tt := t) (ps := ps) (ts := ts) (by rw [HE.out]; decide))
            clear h2
            go_wp2_with (go_at_call 67; refine (rWithin_any _ _ _ _).mono ?_; rintro e w' ⟨rfl, hww⟩; rw [hww, hq]; clear hww)
            go_ret3
            rw [HF.out.1, HF.out.2, HE.out]
            exact ⟨none, 0, rfl, IntsR.nil, hB2⟩
          · go_wp2_with (go_at_call 67; refine (rWithin_any _ _ _ _).mono ?_; rintro e w' ⟨rfl, hww⟩; rw [hww, hq]; clear hww)
            go_roundw
            case rel => exact ⟨k + 1, by omega, by go_num, Lib.hid (all_take_snoc (fun s => wi s 0 3) ts k hlt HA.out hq), trivial⟩
            case measure => simp [intOf]; omega
        · obtain rfl : k = ts.length := by omega
          have hall := HA.out
          rw [List.take_length] at hall
          have HE := Lib.hid (floE_ok HPT.out (show turnB a b ts = true by rw [HTL.out, show inB 0 3 ts = true from hall, HTS.out, ← HN.out]; simp))
          have HF := Lib.hid (flo_some (N := N) HE.out HPL.out)
          have HT := Lib.hid (nums_of (show inB 0 3 ts = true from hall))
          obtain ⟨T, hT⟩ : ∃ T, T = wetC a b (opF ps ts N) f := ⟨_, rfl⟩
          obtain ⟨lk, hlk⟩ : ∃ lk, lk = lkC a b (opF ps ts N) f := ⟨_, rfl⟩
          have hcall := rflows_any a b f N t A A2 c c2 ps ts wr k1 k2 k4 HN.out k5 k6 HPL.out HTS.out HP.out HT.out hx2 hy2
          rw [← hT, ← hlk] at hcall
          have hcall : Calls Try.prog 100 #[.agg #[I a, I b, .slice A ps.length c, I f, I t], .slice A2 ts.length c2] wr fun e w' => ∃ g, e = .returned (.tuple #[.slice (some ⟨g, 0, none⟩) N N, I (lk : Nat)]) ∧ RowAt w' g 4 (booV T) N ∧ Below wr.heap.size wr w' := by rw [HPL.out, HTS.out]; exact hcall
          have HTT := Lib.hid hT
          have HLK := Lib.hid hlk
          clear hT hlk hall HA hx2 hy2
          go_wp2_with fail
          refine hcall.mono ?_
          rintro e w5 ⟨g, rfl, hR, hb5⟩
          have hB5 := hB2.trans (hb5.mono hB2.size)
          have HR := Lib.hid hR
          have hg5 := hR.lt
          clear hR hcall g0 g1 g2 g3 g4 hb5
          go_wp2_with fail
          go_loopw [11, 12] (fun v i wx => ∃ k : Nat, k ≤ N ∧ i = .int .i64 k ∧ wx.ownsRow w5.heap.size 3 1 v (numsF T k).length ((numsF T k).map I) ∧ Below w5.heap.size w5 wx) (fun _ i _ => N - (intOf i).toNat)
          case atStart => exact ⟨0, Nat.zero_le _, rfl, World.ownsRow_nil _ _ _ _, Below.refl _ _⟩
          case round =>
            obtain ⟨k, hk, rfl, hown, hB⟩ := hrel
            obtain ⟨v, hv⟩ : ∃ v : Value, v = u11 := ⟨_, rfl⟩
            subst hv
            obtain ⟨w6, hw6⟩ : ∃ w6, w6 = wr := ⟨_, rfl⟩
            by_cases hlt : k < N
            · have hRr : RowAt wr g 4 (booV T) N := (hB.block g hg5).trans HR.out
              have t1 : wr.cell? ⟨g, k, none⟩ = some (.bool (T k)) := hRr.at_ hlt
              have hhl := numsF_len T k
              have hrow := hown.lt
              clear hw6 hRr
              cases hq : T k
              · have HQ := Lib.hid (numsF_no hq)
                rw [hq] at t1
                clear hq
                go_wp2_with fail
                go_roundw
                case rel => exact ⟨k + 1, by omega, by go_num, by rw [HQ.out]; exact hown, hB⟩
                case measure => simp [intOf]; omega
              · have HQ := Lib.hid (numsF_snoc hq)
                have HL := Lib.hid (show (numsF T (k + 1)).length = (numsF T k).length + 1 by rw [numsF_yes hq]; simp)
                obtain ⟨i0, hi, hz0, hz1, hz2⟩ := info_parts info_int
                rw [hq] at t1
                clear hq
                go_wp2_with (at_builtin; refine wpList_append_own _ rfl _ _ 29 rfl w5.heap.size 3 i0 (.int .i64 0) 1 8 Try.underlying29 hi hz0 hz1 hz2 rfl (by decide) v _ _ rfl (hown.alloc _) ⟨wr.heap.size, 0, none⟩ 1 1 [I k] rfl rfl ?c1 ?c2 ?c3 ?c4 ?c5 ?_)
                case c1 =>
                  intro j u hj
                  match j, hj with
                  | 0, hj => simp at hj; subst hj; simp [Addr.add]
                case c2 => intro u hu; simp at hu; subst hu; rfl
                case c3 => unfold maxLen; omega
                case c4 => omega
                case c5 => have := hB.size; simp; omega
                intro v' w4 hown' hgrow _
                have hown4 := hown'
                rw [HQ.out, ← HL.out] at hown4
                have hB4 : Below w5.heap.size w5 w4 := (hB.alloc hB.size _).grown hgrow (by have := hB.size; simp; omega) (fun j hj => (hrow j hj).1)
                clear hown' hgrow hown hrow
                go_wp2
                go_roundw
                case rel => exact ⟨k + 1, by omega, by go_num, hown4, hB4⟩
                case measure => simp [intOf]; omega
            · obtain rfl : k = N := by omega
              obtain ⟨B, cb, rfl, hi, -⟩ := own_ints hown
              have HI := Lib.hid hi
              clear hown hi
              go_wp2_with fail
              go_ret3
              rw [HF.out.1, HF.out.2, HE.out, ← HTT.out, ← HLK.out]
              exact ⟨_, _, rfl, HI.out, hB5.trans (hB.mono hB5.size)⟩
    · have q1 : ((ts.length : Int) != (ps.length : Int)) = true := by simp; omega
      have HE := Lib.hid (floE_arg HPT.out (show turnB a b ts = false by rw [HTL.out, decide_eq_false (show ¬ ts.length = a * b by rw [← HN.out, ← HPL.out]; exact hn)]; rfl))
      have HF := Lib.hid (flo_none (W := a) (H := b) (fr := f) (tt := t) (ps := ps) (ts := ts) (by rw [HE.out]; decide))
      clear hn
      go_wp2
      go_ret3
      rw [HF.out.1, HF.out.2, HE.out]
      exact ⟨none, 0, rfl, IntsR.nil, hB2⟩
end Go.Proofs.Ytglkjiimmlobbaa

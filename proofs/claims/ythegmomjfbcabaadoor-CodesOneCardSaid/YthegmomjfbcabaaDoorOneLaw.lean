/-
  CONTRACT: the law CodesOne.
-/
import Derived.Test.YthegmomjfbcabaaDoorOnePure
namespace Go.Proofs.YthegmomjfbcabaaDoor
open Go.RowKit

/-- what is left of a body behind its first n statements -/
def dropC : Nat → Code → Code
  | 0, d => d
  | n + 1, .seq _ b => dropC n b
  | _ + 1, d => d
def headC : Code → Code
  | .seq a _ => a
  | d => d

set_option maxRecDepth 100000 in
set_option maxHeartbeats 4000000 in
theorem one_tail {code1 code2 : Code} (hc1 : code1 = headC (dropC 9 (Tryd.f14.body.getD .skip))) (hc2 : code2 = dropC 10 (Tryd.f14.body.getD .skip))
    {W' S' : Nat} {A A2 A4 A5 A6 : Option Addr} {c k2 c4 c5 c6 n : Nat} {cs : List Cl} {y pa pb : List Int} {pe : Int} {w w6 w7 : World} {R X : List (List Int)} {Q : Exit → Act → World → Prop} {K : Act → World → Prop}
    {u6 u14 u15 u16 u17 u18 u19 u21 u22 u23 u24 u31 u32 u33 u34 u35 u36 u37 u38 u39 u40 u41 u42 u43 u44 u45 u46 u47 u48 u49 u50 u51 u52 u53 u54 u55 u56 u57 u58 u59 u60 u61 u62 u63 u64 u65 u66 u67 u68 u69 u70 u71 u72 u73 u74 u75 u76 u77 u78 u79 u80 u81 u82 u83 u84 u85 u88 u89 u90 u91 u92 u93 u94 u95 u96 u97 u98 u99 u100 u101 u102 u103 u104 u105 u106 u107 u108 u109 u110 u111 u112 u113 u114 u115 u116 u117 u118 u119 u120 u121 u122 u123 u124 u129 u130 u131 u132 u133 u134 u135 u136 u137 u138 u139 u140 u141 u142 u143 u144 u145 u146 u147 u148 u149 u150 u151 u152 u153 u154 u155 u156 u157 u158 u159 u160 u161 u162 u163 u164 u165 u166 u167 u168 u169 u170 u171 u172 u173 u174 u175 u176 u177 u178 u179 u180 u181 u182 u183 u184 u185 u186 u187 u188 u189 u190 u191 u192 u193 u194 u195 u196 u197 u198 u199 u200 u201 u202 u203 u204 u205 u206 u207 u208 u209 u210 u211 u212 u213 u214 u215 u216 u217 u218 u219 u220 u221 u222 u223 u224 u225 u226 u227 u228 u229 u230 u231 u232 u233 u234 u235 u236 u237 u238 u239 u240 u241 u242 u243 u244 u245 u246 u247 u248 u249 u250 u251 u252 u253 u254 u255 u256 u257 u258 u259 u260 u261 u262 u263 u264 u265 u266 u267 u268 u269 u270 u271 : Value}
    (hQ : Q = bodyPost Tryd.prog Tryd.f14 (fun e w' => e = .returned (.bool true) ∧ Below w.heap.size w w')) (hK : ∀ (a : Act) (w : World), Code.wp Tryd.prog code2 Q a w → K a w)
    (HE : Hid (cntE W' S' cs = 0)) (HR : Hid (R = readings W' S' cs)) (HN : Hid (n = R.length)) (HXL : Hid (X.length = W')) (HXA : Hid (∀ j (h : j < X.length), X[j] = full R j S')) (HSS : Hid (2 ≤ S' ∧ S' ≤ 10)) (HWW : Hid (1 ≤ W' ∧ W' ≤ 4))
    (hl : cs.length ≤ maxLen) (ly : y.length ≤ maxLen) (HX6 : Hid (ClsR w6 w6.heap.size A cs)) (HY6 : Hid (IntsR w6 w6.heap.size A2 y)) (HT6 : Hid (Tab w6)) (HR6 : Hid (SlsR w6 w6.heap.size A4 X))
    (Z0 : Hid (w6.heap[w.heap.size]? = some (.cells #[I W', I S'] 23 (0, 0)))) (s6 : w.heap.size < w6.heap.size) (hbb6 : Below w.heap.size w w6) (hB : Below w6.heap.size w6 w7)
    (l0 : w7.cell? ⟨w.heap.size, 0, none⟩ = some (I W')) (l1 : w7.cell? ⟨w.heap.size, 1, none⟩ = some (I S')) (s7 : w.heap.size < w7.heap.size) (hn4 : n ≤ 10000) :
    Code.wp Tryd.prog code1 (Exit.then K Q) { tmps := #[lockV W' S', Value.slice A cs.length c, Value.slice A2 y.length k2, Value.pointer (some ⟨w.heap.size, 0, none⟩), undef, undef, u6, I n, I 0, Value.slice A4 X.length c4, I 0, Value.slice A5 pa.length c5, Value.slice A6 pb.length c6, I pe, u14, u15, u16, u17, u18, u19, Value.int IntKind.i64 W', u21, u22, u23, u24, undef, undef, undef, undef, undef, undef, u31, u32, u33, u34, u35, u36, u37, u38, u39, u40, u41, u42, u43, u44, u45, u46, u47, u48, u49, u50, u51, u52, u53, u54, u55, u56, u57, u58, u59, u60, u61, u62, u63, u64, u65, u66, u67, u68, u69, u70, u71, u72, u73, u74, u75, u76, u77, u78, u79, u80, u81, u82, u83, u84, u85, Value.bool false, I pe, u88, u89, u90, u91, u92, u93, u94, u95, u96, u97, u98, u99, u100, u101, u102, u103, u104, u105, u106, u107, u108, u109, u110, u111, u112, u113, u114, u115, u116, u117, u118, u119, u120, u121, u122, u123, u124, Value.int IntKind.i64 W', Value.pointer (some ⟨w.heap.size, 0, none⟩), I W', Value.bool false, u129, u130, u131, u132, u133, u134, u135, u136, u137, u138, u139, u140, u141, u142, u143, u144, u145, u146, u147, u148, u149, u150, u151, u152, u153, u154, u155, u156, u157, u158, u159, u160, u161, u162, u163, u164, u165, u166, u167, u168, u169, u170, u171, u172, u173, u174, u175, u176, u177, u178, u179, u180, u181, u182, u183, u184, u185, u186, u187, u188, u189, u190, u191, u192, u193, u194, u195, u196, u197, u198, u199, u200, u201, u202, u203, u204, u205, u206, u207, u208, u209, u210, u211, u212, u213, u214, u215, u216, u217, u218, u219, u220, u221, u222, u223, u224, u225, u226, u227, u228, u229, u230, u231, u232, u233, u234, u235, u236, u237, u238, u239, u240, u241, u242, u243, u244, u245, u246, u247, u248, u249, u250, u251, u252, u253, u254, u255, u256, u257, u258, u259, u260, u261, u262, u263, u264, u265, u266, u267, u268, u269, u270, u271], defers := [] } w7 := by
  simp only [Tryd.f14, Option.getD_some, dropC, headC] at hc1 hc2
  subst hc1 hc2 hQ
  have hX7 := cls_call hB HX6.out
  have hT7 := HT6.out.below hB
  have hbb7 : Below w.heap.size w w7 := hbb6.trans (hB.mono (by omega))
  have hs67 := hB.size
  go_wp2_with fail
  refine (Fits_any W' S' A A2 c k2 cs y w7 hT7 hX7 hl (ints_call hB HY6.out) ly).mono ?_
  rintro e w8 ⟨rfl, hb8⟩
  have hB8 := hB.trans (hb8.mono hB.size)
  have hs68 := hB8.size
  have hT8 := HT6.out.below hB8
  have m0 := (hb8.cell (p := ⟨w.heap.size, 0, none⟩) s7).trans l0
  have m1 := (hb8.cell (p := ⟨w.heap.size, 1, none⟩) s7).trans l1
  clear hX7 hT7 l0 l1 hb8
  by_cases hfe : fitE W' S' cs y = 0
  · have g1 : (fitE W' S' cs y != 0) = false := by simp [hfe]
    have HFE := Lib.hid hfe
    clear hfe
    cases hfb : fitB W' S' cs y
    · clear hfb
      go_wp2_with fail
      refine (works_any w8 hT8).mono ?_
      rintro e w9 ⟨rfl, hb9⟩
      go_wp2
      go_ret
      exact ⟨rfl, hbb6.trans ((hB8.mono (by omega)).trans (hb9.mono (by omega)))⟩
    · have hym := ex_mem HE.out hfb
      have HYM := Lib.hid hym
      clear hfb hym
      go_wp2_with fail
      refine (rCheckCode_any W' S' A2 k2 y w8 (ints_call hB8 HY6.out) ly).mono ?_
      rintro e w9 ⟨rfl, hb9⟩
      have hB9 := hB8.trans (hb9.mono hB8.size)
      have hs69 := hB9.size
      have hT9 := HT6.out.below hB9
      have n0 := (hb9.cell (p := ⟨w.heap.size, 0, none⟩) (by simp only; omega)).trans m0
      have n1 := (hb9.cell (p := ⟨w.heap.size, 1, none⟩) (by simp only; omega)).trans m1
      clear hb9 m0 m1 hT8
      by_cases hrc : rCodeErr W' S' y = 0
      · have g2 : (rCodeErr W' S' y != 0) = false := by simp [hrc]
        clear hrc hT9 n0 n1
        have HYL := Lib.hid (rd_mem HSS.out.1 HSS.out.2 (cs := cs) (x := y) (by simpa using HYM.out)).1
        go_wp2_with fail
        go_loopw [27] (fun i wr => ∃ u : Nat, u ≤ W' ∧ i = .int .i64 u ∧ Below w6.heap.size w6 wr) (fun i _ => W' - (intOf i).toNat)
        case atStart => exact ⟨0, Nat.zero_le _, rfl, hB9⟩
        case round =>
          obtain ⟨u, hu, rfl, hB⟩ := hrel
          obtain ⟨w10, hw10⟩ : ∃ w10 : World, w10 = wr := ⟨_, rfl⟩
          subst hw10
          have z0 := (hB.block _ s6).trans Z0.out
          have l0 : w10.cell? ⟨w.heap.size, 0, none⟩ = some (I W') := cell_of_row w10 _ 0 _ _ _ z0
          have l1 : w10.cell? ⟨w.heap.size, 1, none⟩ = some (I S') := cell_of_row w10 _ 1 _ _ _ z0
          have s10 : w.heap.size < w10.heap.size := by have := hB.size; omega
          have r10 := sls_call hB HR6.out
          by_cases hlt : u < W'
          · have huX : u < X.length := by rw [HXL.out]; exact hlt
            have huy : u < y.length := by rw [HYL.out]; exact hlt
            obtain ⟨a1, rfl, hb1, hc1⟩ := r10 (by omega)
            obtain ⟨B1, c1, d1, i1, m1⟩ := hc1 u huX
            obtain ⟨ya, rfl, hyb, hyc⟩ := (ints_call hB HY6.out) (by omega)
            have dy := hyc u huy
            have py : (ya.add u).block < w10.heap.size := by rw [block_of_add]; exact hyb
            obtain ⟨x, hx0⟩ : ∃ x, x = X[u] := ⟨_, rfl⟩
            rw [← hx0] at d1 i1 m1
            have hxf : x = full R u S' := hx0.trans (HXA.out u huX)
            have p1 : (a1.add u).block < w10.heap.size := by rw [block_of_add]; exact hb1
            have hin : nth y u ∈ x := by
              rw [hxf, HR.out]
              exact one_code HSS.out.1 HSS.out.2 (by simpa using HYM.out) hlt
            have HIN := Lib.hid hin
            have hx10 : x.length ≤ 10 := by rw [hxf]; exact Nat.le_trans (full_length _ _ _) HSS.out.2
            have hXl4 : X.length ≤ 4 := by rw [HXL.out]; exact HWW.out.2
            have hyl4 : y.length ≤ 4 := by rw [HYL.out]; exact HWW.out.2
            clear hx0 hxf hc1 hyc z0 hin
            go_wp2_with fail
            go_loopw [28, 29] (fun s i wr => ∃ k : Nat, k ≤ x.length ∧ i = .int .i64 k ∧ s = .bool (decide (nth y u ∈ x.take k)) ∧ Below w10.heap.size w10 wr) (fun _ i _ => x.length - (intOf i).toNat)
            case atStart => exact ⟨0, Nat.zero_le _, rfl, by simp, Below.refl _ _⟩
            case round =>
              obtain ⟨k, hk, rfl, rfl, hB2⟩ := hrel
              have hB3 := hB.trans (hB2.mono hB.size)
              have d2 := (hB2.cell p1).trans d1
              have i2 := ints_call hB2 i1
              have dy2 := (hB2.cell py).trans dy
              by_cases hkx : k < x.length
              · obtain ⟨ad, rfl, hbd, hcd⟩ := i2 (by omega)
                have dk := hcd k hkx
                have HTK := Lib.hid (take_mem (v := nth y u) hkx)
                clear hcd l0 l1
                cases hs : decide (nth y u ∈ x.take k)
                · rw [hs, Bool.false_or] at HTK
                  go_upto_region 36 with fail
                  go_quiet (fail)
                  all_goals
                    go_wp2
                    go_roundw
                    case rel => exact ⟨k + 1, by omega, by go_num, by rw [HTK.out]; first | rfl | (rw [beq_dec]), (by first | exact hB2 | exact hB2.drew | exact below_drewN hB2 _)⟩
                    case measure => simp [intOf]; omega
                · rw [hs, Bool.true_or] at HTK
                  go_upto_region 36 with fail
                  go_quiet (fail)
                  all_goals
                    go_wp2
                    go_roundw
                    case rel => exact ⟨k + 1, by omega, by go_num, by rw [HTK.out], (by first | exact hB2 | exact hB2.drew | exact below_drewN hB2 _)⟩
                    case measure => simp [intOf]; omega
              · obtain rfl : k = x.length := by omega
                rw [List.take_length, decide_eq_true HIN.out]
                go_wp2
                go_roundw
                case rel => exact ⟨u + 1, by omega, by go_num, hB3⟩
                case measure => simp [intOf]; omega
          · obtain rfl : W' = u := by omega
            have hT10 := HT6.out.below hB
            have hX10 := cls_call hB HX6.out
            have hY10 := ints_call hB HY6.out
            have hs610 := hB.size
            obtain ⟨z, hz⟩ : ∃ z, z = R.headD [] := ⟨_, rfl⟩
            have hRy : y ∈ R := by rw [HR.out]; simpa using HYM.out
            have hR0 : 0 < R.length := List.length_pos_of_mem hRy
            have hre : rdE W' S' cs 1 = 0 := by rw [rdE, if_pos HE.out]; rfl
            have hrl : rdL W' S' cs 1 = [z] := by
              rw [rdL, if_pos hre]
              show (readings W' S' cs).take 1 = [z]
              rw [← HR.out, hz]
              cases R with
              | nil => simp at hR0
              | cons r rs => rfl
            have hzy : n < 2 → z = y := fun h => by
              have := one_first hRy (by rw [← HN.out]; exact h)
              rw [hz, this]
              rfl
            have HZY := Lib.hid hzy
            have HRE := Lib.hid hre
            have HRL := Lib.hid hrl
            clear hz hRy hR0 hre hrl hzy r10 z0
            go_wp2_with fail
            refine (Readings_any W' S' A c cs 1 w10 hT10 hX10 hl).mono ?_
            rintro e w11 ⟨A11, c11, rfl, r11, -, hb11⟩
            rw [HRE.out, HRL.out]
            rw [HRL.out] at r11
            have hT11 := hT10.below hb11
            have hbb11 : Below w.heap.size w w11 := hbb6.trans ((hB.mono (by omega)).trans (hb11.mono (by omega)))
            have hs11 := hbb11.size
            have hY11 := ints_call hb11 hY10
            by_cases h1 : 1 < n
            · have g3 : decide ((1 : Int) < (n : Int)) = true := decide_eq_true (by omega)
              have g4 : decide (1 < n) = true := decide_eq_true h1
              go_wp2_with fail
              refine (works_any w11 hT11).mono ?_
              rintro e w12 ⟨rfl, hb12⟩
              go_wp2
              go_ret
              exact ⟨rfl, hbb11.trans (hb12.mono (by omega))⟩
            · have g3 : decide ((1 : Int) < (n : Int)) = false := decide_eq_false (by omega)
              have g4 : decide (1 < n) = false := decide_eq_false h1
              obtain rfl : z = y := HZY.out (by omega)
              obtain ⟨a1, rfl, hb1, hc1⟩ := r11 (by simp)
              obtain ⟨B1, c1, d1, i1, mx1⟩ := hc1 0 (by simp)
              have d1' : w11.cell? a1 = some (.slice B1 z.length c1) := by simpa [Addr.add] using d1
              simp only [List.getElem_cons_zero] at d1 i1
              go_wp2_with fail
              refine (SameInts_any B1 A2 c1 k2 z z w11 i1 hY11 ly ly).mono ?_
              rintro e w12 ⟨rfl, hb12⟩
              rw [decide_eq_true (rfl : z = z)]
              go_wp2_with fail
              refine (works_any w12 (hT11.below hb12)).mono ?_
              rintro e w13 ⟨rfl, hb13⟩
              go_wp2
              go_ret
              exact ⟨rfl, hbb11.trans ((hb12.mono (by omega)).trans (hb13.mono (by have := hb12.size; omega)))⟩
      · have g2 : (rCodeErr W' S' y != 0) = true := by simpa using hrc
        clear hrc
        go_wp2_with fail
        refine (works_any w9 hT9).mono ?_
        rintro e w10 ⟨rfl, hb10⟩
        go_wp2
        go_ret
        exact ⟨rfl, hbb6.trans ((hB9.mono (by omega)).trans (hb10.mono (by omega)))⟩
  · have g1 : (fitE W' S' cs y != 0) = true := by simpa using hfe
    clear hfe
    go_wp2_with fail
    refine (works_any w8 hT8).mono ?_
    rintro e w9 ⟨rfl, hb9⟩
    go_wp2
    go_ret
    exact ⟨rfl, hbb6.trans ((hB8.mono (by omega)).trans (hb9.mono (by omega)))⟩

set_option maxRecDepth 100000 in
set_option maxHeartbeats 4000000 in
theorem one_law (W S : Int) (A : Option Addr) (c : Nat) (cs : List Cl) (A2 : Option Addr) (k2 : Nat) (y : List Int) (w : World) (hT : Tab w) (hx : ClsR w w.heap.size A cs) (hl : cs.length ≤ maxLen) (hy : IntsR w w.heap.size A2 y) (ly : y.length ≤ maxLen) :
    Calls Tryd.prog 14 #[lockV W S, .slice A cs.length c, .slice A2 y.length k2] w fun e w' => e = .returned (.bool true) ∧ Below w.heap.size w w' := by
  go_enter Tryd.func14, Tryd.ntmps14
  go_wp2_with fail
  obtain ⟨w1, hw1⟩ : ∃ w1, w1 = w.alloc (.cells #[I W, I S] 23) := ⟨_, rfl⟩
  rw [← hw1]
  have z0 : w1.heap[w.heap.size]? = some (.cells #[I W, I S] 23 (0, 0)) := by rw [hw1]; exact alloc_obj _ _ _ rfl
  have l0 : w1.cell? ⟨w.heap.size, 0, none⟩ = some (I W) := cell_of_row w1 _ 0 _ _ _ z0
  have l1 : w1.cell? ⟨w.heap.size, 1, none⟩ = some (I S) := cell_of_row w1 _ 1 _ _ _ z0
  have hbb1 : Below w.heap.size w w1 := by rw [hw1]; exact (Below.refl _ _).alloc (Nat.le_refl _) _
  have s1 : w.heap.size < w1.heap.size := by rw [hw1]; simp
  have hx1 := cls_call hbb1 hx
  have hy1 := ints_call hbb1 hy
  have hT1 := hT.below hbb1
  have Z0 := Lib.hid z0
  clear hw1 hx hy hT z0
  refine (rCheckClues_any W S A c cs w1 hx1 hl).mono ?_
  rintro e w2 ⟨rfl, hb2⟩
  have Z0 := Lib.hid ((hb2.block _ s1).trans Z0.out)
  clear l0 l1
  have l0 : w2.cell? ⟨w.heap.size, 0, none⟩ = some (I W) := cell_of_row w2 _ 0 _ _ _ Z0.out
  have l1 : w2.cell? ⟨w.heap.size, 1, none⟩ = some (I S) := cell_of_row w2 _ 1 _ _ _ Z0.out
  have hx2 := cls_call hb2 hx1
  have hy2 := ints_call hb2 hy1
  have hT2 := hT1.below hb2
  have s2 : w.heap.size < w2.heap.size := by have := hb2.size; omega
  have hbb2 : Below w.heap.size w w2 := hbb1.trans (hb2.mono (by omega))
  clear hbb1 hb2 hx1 hy1 hT1 s1
  by_cases he : cntE W S cs = 0
  · have hb0 : (cntE W S cs != 0) = false := by simp [he]
    obtain ⟨W', S', rfl, rfl, hW1, hW4, hS, hS10, _⟩ := cntE_nat he
    obtain ⟨R, hR⟩ : ∃ R, R = readings W' S' cs := ⟨_, rfl⟩
    obtain ⟨n, hn⟩ : ∃ n : Nat, n = R.length := ⟨_, rfl⟩
    have hn4 : n ≤ 10000 := by rw [hn, hR]; exact rd_bound hW4 hS10 cs
    have hcn : cntN W' S' cs = (n : Int) := by rw [cntN, if_pos he, hn, hR]; rfl
    obtain ⟨X, hX⟩ : ∃ X, X = shw R W' S' := ⟨_, rfl⟩
    have hsh : shwL W' S' cs = X := by rw [shwL, if_pos he, hX, hR]; rfl
    have HXL := Lib.hid (p := X.length = W') (by rw [hX, shw_length])
    have HXM := Lib.hid (p := ((X.length : Int) != (W' : Int)) = false) (by rw [HXL.out]; simp)
    have HXA := Lib.hid (p := ∀ j (h : j < X.length), X[j] = full R j S') (by subst hX; exact fun j h => shw_at h)
    have HE := Lib.hid he
    have HR := Lib.hid hR
    have HN := Lib.hid hn
    have HCN := Lib.hid hcn
    have HSH := Lib.hid hsh
    have HSS := Lib.hid (And.intro hS hS10)
    have HWW := Lib.hid (And.intro hW1 hW4)
    clear he hR hn hcn hsh hX
    go_wp2_with fail
    refine (Count_any W' S' A c cs w2 hT2 hx2 hl).mono ?_
    rintro e w3 ⟨rfl, hb3⟩
    rw [HCN.out, HE.out]
    have Z0 := Lib.hid ((hb3.block _ s2).trans Z0.out)
    clear l0 l1
    have l0 : w3.cell? ⟨w.heap.size, 0, none⟩ = some (I W') := cell_of_row w3 _ 0 _ _ _ Z0.out
    have l1 : w3.cell? ⟨w.heap.size, 1, none⟩ = some (I S') := cell_of_row w3 _ 1 _ _ _ Z0.out
    have hx3 := cls_call hb3 hx2
    have hy3 := ints_call hb3 hy2
    have hT3 := hT2.below hb3
    have s3 : w.heap.size < w3.heap.size := by have := hb3.size; omega
    have hbb3 : Below w.heap.size w w3 := hbb2.trans (hb3.mono (by omega))
    clear hbb2 hb3 hx2 hy2 hT2 s2
    go_wp2_with fail
    refine (Shows_any W' S' A c cs w3 hT3 hx3 hl).mono ?_
    rintro e w4 ⟨A4, c4, rfl, r4, m4, hb4⟩
    rw [HSH.out] at r4 m4 ⊢
    rw [HE.out]
    have Z0 := Lib.hid ((hb4.block _ s3).trans Z0.out)
    clear l0 l1
    have l0 : w4.cell? ⟨w.heap.size, 0, none⟩ = some (I W') := cell_of_row w4 _ 0 _ _ _ Z0.out
    have l1 : w4.cell? ⟨w.heap.size, 1, none⟩ = some (I S') := cell_of_row w4 _ 1 _ _ _ Z0.out
    have hx4 := cls_call hb4 hx3
    have hy4 := ints_call hb4 hy3
    have hT4 := hT3.below hb4
    have s4 : w.heap.size < w4.heap.size := by have := hb4.size; omega
    have hbb4 : Below w.heap.size w w4 := hbb3.trans (hb4.mono (by omega))
    clear hbb3 hb4 hx3 hy3 hT3 s3
    go_wp2_with fail
    refine (Pair_any W' S' A c cs w4 hT4 hx4 hl).mono ?_
    rintro e w5 ⟨A5, c5, A6, c6, rfl, i5, i6, hb5⟩
    obtain ⟨pe, hpe⟩ : ∃ pe, pe = prE W' S' cs := ⟨_, rfl⟩
    obtain ⟨pa, hpa⟩ : ∃ pa, pa = prA W' S' cs := ⟨_, rfl⟩
    obtain ⟨pb, hpb⟩ : ∃ pb, pb = prB W' S' cs := ⟨_, rfl⟩
    rw [← hpe, ← hpa, ← hpb]
    rw [← hpa] at i5
    rw [← hpb] at i6
    have HP2 := Lib.hid (p := 2 ≤ n → pe = 0 ∧ pa ∈ R ∧ pb ∈ R ∧ befB pa pb = true) (fun h => by
      have h2 : 2 ≤ (readings (W' : Int).toNat (S' : Int).toNat cs).length := by rw [HN.out, HR.out] at h; exact h
      rw [hpe, hpa, hpb, HR.out]
      exact one_two HE.out h2)
    have HP1 := Lib.hid (p := n < 2 → pe = 3) (fun h => by
      rw [HN.out, HR.out] at h
      rw [hpe]
      exact one_less HE.out h)
    clear hpe hpa hpb
    have Z0 := Lib.hid ((hb5.block _ s4).trans Z0.out)
    clear l0 l1
    have l0 : w5.cell? ⟨w.heap.size, 0, none⟩ = some (I W') := cell_of_row w5 _ 0 _ _ _ Z0.out
    have l1 : w5.cell? ⟨w.heap.size, 1, none⟩ = some (I S') := cell_of_row w5 _ 1 _ _ _ Z0.out
    have hx5 := cls_call hb5 hx4
    have hy5 := ints_call hb5 hy4
    have hT5 := hT4.below hb5
    have s5 : w.heap.size < w5.heap.size := by have := hb5.size; omega
    have hbb5 : Below w.heap.size w w5 := hbb4.trans (hb5.mono (by omega))
    have r4 := sls_call hb5 r4
    clear hbb4 hb5 hx4 hy4 hT4 s4
    have HX5 := Lib.hid hx5
    have HY5 := Lib.hid hy5
    have HT5 := Lib.hid hT5
    have HR4 := Lib.hid r4
    clear hx5 hy5 hT5 r4
    have hxm := HXM.out
    go_upto_region 8 with fail
    go_cut [86] (fun s wx => s = .bool false ∧ wx = w5)
    case first =>
      by_cases h2 : 2 ≤ n
      · have g1 : decide ((1 : Int) < (n : Int)) = true := decide_eq_true (by omega)
        have g2 : decide (1 < n) = true := decide_eq_true (by omega)
        have g3 : (pe == 0) = true := by rw [(HP2.out h2).1]; rfl
        have g4 : (pe != 0) = false := by rw [(HP2.out h2).1]; rfl
        go_wp2_with fail
        go_meet
        exact ⟨rfl, rfl⟩
      · have g1 : decide ((1 : Int) < (n : Int)) = false := decide_eq_false (by omega)
        have g2 : decide (1 < n) = false := decide_eq_false (by omega)
        have g3 : (pe == 0) = false := by rw [HP1.out (by omega)]; rfl
        have g4 : (pe != 0) = true := by rw [HP1.out (by omega)]; rfl
        have g5 : (pe != 3) = false := by rw [HP1.out (by omega)]; rfl
        go_wp2_with fail
        go_meet
        exact ⟨rfl, rfl⟩
    case rest =>
      obtain ⟨rfl, hw5⟩ := hcut
      rw [hw5]
      clear hw5 hxm
      go_upto_if 88 with fail
      go_cut [14, 15, 16, 17, 18, 19] from 88 to 124 (fun _ _ _ _ _ _ wx => Below w5.heap.size w5 wx)
      case first =>
        by_cases h2 : 2 ≤ n
        · obtain ⟨p0, p1, p2, p3⟩ := HP2.out h2
          have f1 := ex_fit HE.out (x := pa) (by rw [← show R = readings (W' : Int).toNat (S' : Int).toNat cs from HR.out]; exact p1)
          have f2 := ex_fit HE.out (x := pb) (by rw [← show R = readings (W' : Int).toNat (S' : Int).toNat cs from HR.out]; exact p2)
          have F1 := Lib.hid f1
          have F2 := Lib.hid f2
          have P3 := Lib.hid p3
          clear f1 f2 p3 p1 p2
          have g3 : (pe == 0) = true := by rw [p0]; rfl
          clear p0
          have l1a : pa.length ≤ maxLen := by have := F1.out.2.2.2; unfold maxLen; omega
          have l1b : pb.length ≤ maxLen := by have := F2.out.2.2.2; unfold maxLen; omega
          have L1a := Lib.hid l1a
          have L1b := Lib.hid l1b
          clear l1a l1b
          go_wp2_with fail
          refine (Fits_any W' S' A A5 c c5 cs pa w5 HT5.out HX5.out hl i5 L1a.out).mono ?_
          rintro e w6 ⟨rfl, hb6⟩
          rw [F1.out.1, F1.out.2.1, F1.out.2.2.1]
          have m0 := (hb6.cell (p := ⟨w.heap.size, 0, none⟩) s5).trans l0
          have m1 := (hb6.cell (p := ⟨w.heap.size, 1, none⟩) s5).trans l1
          go_wp2_with fail
          refine (Fits_any W' S' A A6 c c6 cs pb w6 (HT5.out.below hb6) (cls_call hb6 HX5.out) hl (ints_call hb6 i6) L1b.out).mono ?_
          rintro e w7 ⟨rfl, hb7⟩
          rw [F2.out.1, F2.out.2.1, F2.out.2.2.1]
          have hb57 := hb6.trans (hb7.mono hb6.size)
          go_wp2_with fail
          refine (before_any A5 A6 c5 c6 pa pb w7 (ints_call hb57 i5) (ints_call hb57 i6) L1a.out L1b.out).mono ?_
          rintro e w8 ⟨rfl, hb8⟩
          rw [P3.out]
          go_wp2_with fail
          go_meet
          exact hb57.trans (hb8.mono hb57.size)
        · have g3 : (pe == 0) = false := by rw [HP1.out (by omega)]; rfl
          go_wp2_with fail
          go_meet
          exact Below.refl _ _
      case rest =>
        have hb6 := hcut
        obtain ⟨w6, hw6⟩ : ∃ w6 : World, w6 = wc := ⟨_, rfl⟩
        subst hw6
        have Z0 := Lib.hid ((hb6.block _ s5).trans Z0.out)
        have HX6 := Lib.hid (cls_call hb6 HX5.out)
        have HY6 := Lib.hid (ints_call hb6 HY5.out)
        have HT6 := Lib.hid (HT5.out.below hb6)
        have HR6 := Lib.hid (sls_call hb6 HR4.out)
        have s6 : w.heap.size < w6.heap.size := by have := hb6.size; omega
        have hbb6 : Below w.heap.size w w6 := hbb5.trans (hb6.mono (by omega))
        clear hcut hb6 hbb5 s5 l0 l1 i5 i6 HP1 HP2 HX5 HY5 HT5 HR4
        go_wp2_with fail
        go_loopw [20] (fun i wr => ∃ v : Nat, v ≤ W' ∧ i = .int .i64 v ∧ Below w6.heap.size w6 wr) (fun i _ => W' - (intOf i).toNat)
        case atStart => exact ⟨0, Nat.zero_le _, rfl, Below.refl _ _⟩
        case round =>
          obtain ⟨v, hv, rfl, hB⟩ := hrel
          obtain ⟨w7, hw7⟩ : ∃ w7 : World, w7 = wr := ⟨_, rfl⟩
          subst hw7
          have z0 := (hB.block _ s6).trans Z0.out
          have l0 : w7.cell? ⟨w.heap.size, 0, none⟩ = some (I W') := cell_of_row w7 _ 0 _ _ _ z0
          have l1 : w7.cell? ⟨w.heap.size, 1, none⟩ = some (I S') := cell_of_row w7 _ 1 _ _ _ z0
          have s7 : w.heap.size < w7.heap.size := by have := hB.size; omega
          have r7 := sls_call hB HR6.out
          by_cases hlt : v < W'
          · have hvX : v < X.length := by rw [HXL.out]; exact hlt
            obtain ⟨a1, rfl, hb1, hc1⟩ := r7 (by omega)
            obtain ⟨B1, c1, d1, i1, m1⟩ := hc1 v hvX
            obtain ⟨x, hx0⟩ : ∃ x, x = X[v] := ⟨_, rfl⟩
            rw [← hx0] at d1 i1 m1
            have hxf : x = full R v S' := hx0.trans (HXA.out v hvX)
            have p1 : (a1.add v).block < w7.heap.size := by rw [block_of_add]; exact hb1
            have hxn : decide (0 < x.length) = decide (0 < n) := by
              rw [hxf, HN.out, HR.out]
              exact decide_eq_decide.2 (one_len HSS.out.1 HSS.out.2 cs hlt)
            have HXF := Lib.hid hxf
            have hx10 : x.length ≤ 10 := by rw [HXF.out]; exact Nat.le_trans (full_length _ _ _) HSS.out.2
            obtain ⟨bn, hbn⟩ : ∃ bn, bn = decide (0 < n) := ⟨_, rfl⟩
            have q1 : decide ((0 : Int) < (x.length : Int)) = bn := by rw [hbn, ← hxn]; exact decide_eq_decide.2 (by omega)
            have q2 : decide (0 < x.length) = bn := by rw [hbn, hxn]
            have q3 : decide ((0 : Int) < (n : Int)) = bn := by rw [hbn]; exact decide_eq_decide.2 (by omega)
            have q4 : decide (0 < n) = bn := hbn.symm
            have q5 : (bn != bn) = false := by simp
            have hXl4 : X.length ≤ 4 := by rw [HXL.out]; exact HWW.out.2
            clear hx0 hxf hc1 hbn hxn z0
            go_wp2_with fail
            go_loopw [21] (fun i wr => ∃ k : Nat, k ≤ x.length ∧ i = .int .i64 k ∧ Below w7.heap.size w7 wr) (fun i _ => x.length - (intOf i).toNat)
            case atStart => exact ⟨0, Nat.zero_le _, rfl, Below.refl _ _⟩
            case round =>
              obtain ⟨k, hk, rfl, hB2⟩ := hrel
              have hB3 := hB.trans (hB2.mono hB.size)
              have n0 := (hB2.cell (p := ⟨w.heap.size, 0, none⟩) s7).trans l0
              have n1 := (hB2.cell (p := ⟨w.heap.size, 1, none⟩) s7).trans l1
              have d2 := (hB2.cell p1).trans d1
              have i2 := ints_call hB2 i1
              have hX9 := cls_call hB3 HX6.out
              have hT9 := HT6.out.below hB3
              have s9 : w.heap.size < wr.heap.size := by have := hB2.size; omega
              have p2 : (a1.add v).block < wr.heap.size := by have := hB2.size; omega
              clear l0 l1
              by_cases hkx : k < x.length
              · obtain ⟨ad, rfl, hbd, hcd⟩ := i2 (by omega)
                have dk := hcd k hkx
                have pd : (ad.add k).block < wr.heap.size := by rw [block_of_add]; exact hbd
                have HIM := Lib.hid (one_imp HE.out hlt (v := nth x k) (by rw [← HR.out, ← HXF.out, nth_lt hkx]; exact List.getElem_mem _))
                go_upto_region 23 with fail
                go_cut [22, 23, 24] from 140 to 191 (fun _ s23 s24 wx => s23 = .bool false ∧ s24 = .int .i64 0 ∧ Below wr.heap.size wr wx)
                case first =>
                  go_region_held3 (fun w' => Below wr.heap.size wr w' ∧ w'.cell? ⟨w.heap.size, 0, none⟩ = some (I W') ∧ w'.cell? ⟨w.heap.size, 1, none⟩ = some (I S') ∧ w'.cell? (a1.add v) = some (.slice (some ad) x.length c1) ∧ w'.cell? (ad.add k) = some (.int .i64 (nth x k)))
                    (first | exact ⟨(Below.refl _ _).drew, n0, n1, d2, dk⟩ | exact keptE (by simp only; omega) (by simp only; omega) p2 pd (by assumption) hb | assumption)
                    ((go_at_call 39; go_must (refine (Implies_any W' S' A c cs ⟨1, v, 0, nth x k, 0, [], true⟩ none 0 _ ?_ ?_ hl ?_ ?_).mono ?_); go_must (exact hT9.below (And.left (by assumption : Below wr.heap.size wr _ ∧ _ ∧ _ ∧ _ ∧ _))); go_must (exact cls_call (And.left (by assumption : Below wr.heap.size wr _ ∧ _ ∧ _ ∧ _ ∧ _)) hX9); go_must (exact IntsR.nil); go_must (exact Nat.zero_le _); rw [HIM.out.1, HIM.out.2]; rintro e w' ⟨A', c', rfl, -, -, hb⟩))
                  all_goals
                    go_wp2_with fail
                    go_meet
                    exact ⟨rfl, rfl, And.left (by assumption : Below wr.heap.size wr _ ∧ _ ∧ _ ∧ _ ∧ _)⟩
                case rest =>
                  obtain ⟨rfl, rfl, hb10⟩ := hcut
                  have d3 := (hb10.cell p2).trans d2
                  have hc3 : ∀ j, j < x.length → wc.cell? (ad.add j) = some (.int .i64 (nth x j)) := fun j hj => (hb10.cell (by rw [block_of_add]; exact hbd)).trans (hcd j hj)
                  have hb12 : Below w7.heap.size w7 wc := hB2.trans (hb10.mono hB2.size)
                  have dk3 := hc3 k hkx
                  clear d2 dk n0 n1 hcd pd
                  by_cases hk0 : k = 0
                  · have hg : decide ((0 : Int) < (k : Int)) = false := decide_eq_false (by omega)
                    have hg2 : decide (0 < k) = false := decide_eq_false (by omega)
                    have HK0 := Lib.hid hk0
                    clear hk0
                    go_upto_region 24 with fail
                    go_cut [191] from 140 to 191 (fun s wx => s = .bool false ∧ Below wc.heap.size wc wx)
                    case first =>
                      go_quiet (fail)
                      all_goals
                        go_wp2_with fail
                        go_meet
                        exact ⟨rfl, (by first | exact Below.refl _ _ | exact (Below.refl _ _).drew | exact below_drewN (Below.refl _ _) _)⟩
                    case rest =>
                      obtain ⟨rfl, hb13⟩ := hcut
                      have hb14 := hb12.trans (hb13.mono hb12.size)
                      go_wp2
                      go_roundw
                      case rel => exact ⟨k + 1, by omega, by go_num, hb14⟩
                      case measure => simp [intOf]; omega
                  · obtain ⟨i', hi'⟩ : ∃ i', i' = k - 1 := ⟨_, rfl⟩
                    have hi3 : i' < x.length := by omega
                    have de3 := hc3 i' hi3
                    have hle : decide (nth x k ≤ nth x i') = false := by
                      have h0 := full_asc (R := R) (w := v) (t := S') (k := i') (by rw [← HXF.out]; omega)
                      have e1 : nth x k = (full R v S')[i' + 1]'(by rw [← HXF.out]; omega) := by
                        rw [← nth_lt, ← HXF.out, show i' + 1 = k by omega]
                      have e2 : nth x i' = (full R v S')[i']'(by rw [← HXF.out]; omega) := by
                        rw [← nth_lt, ← HXF.out]
                      exact decide_eq_false (by rw [e1, e2]; omega)
                    have hw0 : (k : Int) - 1 = (i' : Int) := by omega
                    have hw1 : wrap64 ((k : Int) - 1) = (i' : Int) := by rw [hw0]; exact IntWalk.wrap64_in _ ⟨by omega, by omega⟩
                    have hw2 : IntKind.i64.wrap ((k : Int) - 1) = (i' : Int) := (IntWalk.i64_left _).trans hw1
                    have hg : decide ((0 : Int) < (k : Int)) = true := decide_eq_true (by omega)
                    have hg2 : decide (0 < k) = true := decide_eq_true (by omega)
                    have HI := Lib.hid hi'
                    clear hk0 hi' hc3
                    go_upto_region 24 with fail
                    go_cut [191] from 140 to 191 (fun s wx => s = .bool false ∧ Below wc.heap.size wc wx)
                    case first =>
                      go_quiet (fail)
                      all_goals
                        go_wp2_with fail
                        go_meet
                        exact ⟨rfl, (by first | exact Below.refl _ _ | exact (Below.refl _ _).drew | exact below_drewN (Below.refl _ _) _)⟩
                    case rest =>
                      obtain ⟨rfl, hb13⟩ := hcut
                      have hb14 := hb12.trans (hb13.mono hb12.size)
                      go_wp2
                      go_roundw
                      case rel => exact ⟨k + 1, by omega, by go_num, hb14⟩
                      case measure => simp [intOf]; omega
              · obtain rfl : k = x.length := by omega
                go_wp2
                go_roundw
                case rel => exact ⟨v + 1, by omega, by go_num, hB3⟩
                case measure => simp [intOf]; omega
          · obtain rfl : W' = v := by omega
            clear r7 z0
            go_upto_region 26 with fail
            exact one_tail (by kernel_rfl) (by kernel_rfl) rfl (by assumption) HE HR HN HXL HXA HSS HWW hl ly HX6 HY6 HT6 HR6 Z0 s6 hbb6 hB l0 l1 s7 hn4
  · have hb0 : (cntE W S cs != 0) = true := by simpa using he
    clear he
    go_wp2_with fail
    refine (works_any w2 hT2).mono ?_
    rintro e w3 ⟨rfl, hb3⟩
    go_wp2
    go_ret
    exact ⟨rfl, hbb2.trans (hb3.mono (by omega))⟩
end Go.Proofs.YthegmomjfbcabaaDoor

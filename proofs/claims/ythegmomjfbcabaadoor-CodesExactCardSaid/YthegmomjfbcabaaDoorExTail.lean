/-
  THE SECOND PART of the law CodesExact: from the look at the further code on.
-/
import Derived.Test.YthegmomjfbcabaaDoorExPure
namespace Go.Proofs.YthegmomjfbcabaaDoor
open Go.RowKit
abbrev trialV (c : Cl) (A : Option Addr) (cap : Nat) (A2 : Option Addr) (n2 k2 : Nat) : Value := .agg #[I c.kind, I c.a, I c.b, I c.n, I c.m, .slice A c.guess.length cap, .bool c.neg, .slice A2 n2 k2]
/-- what is left of a body behind its first n statements -/
def dropX : Nat → Code → Code
  | 0, d => d
  | n + 1, .seq _ b => dropX n b
  | _ + 1, d => d
def headX : Code → Code
  | .seq a _ => a
  | d => d

set_option maxRecDepth 100000 in
set_option maxHeartbeats 4000000 in
theorem exact_tail {code1 code2 : Code} (hc1 : code1 = headX (dropX 12 (Tryd.f13.body.getD .skip))) (hc2 : code2 = dropX 13 (Tryd.f13.body.getD .skip))
    {W S k a b n m : Int} {g : List Int} {ng : Bool} {A A2 A8 Ag : Option Addr} {c k2 c8 cap p q : Nat} {cs : List Cl} {y : List Int} {L : List (List Int)} {w w3 w8 wr w10 : World} {Q : Exit → Act → World → Prop} {K : Act → World → Prop}
    {u6 u16 u17 u18 u24 u25 u26 u27 u28 u29 u30 u31 u32 u33 u34 u35 u36 u37 u38 u39 u40 u41 u42 u43 u44 u45 u46 u47 u48 u49 u50 u51 u52 u53 u54 u55 u56 u57 u58 u59 u60 u61 u62 u63 u64 u65 u66 u67 u68 u69 u70 u71 u72 u73 u74 u75 u76 u77 u78 u79 u80 u81 u82 u83 u84 u85 u86 u87 u88 u89 u90 u91 u92 u93 u94 u95 u96 u97 u98 u99 u100 u101 u102 u103 u104 u105 u106 u107 u108 u109 u115 u116 u117 u118 u119 u120 u121 u122 u123 u124 u125 u126 u127 u128 u129 u130 u131 u132 u133 u134 u135 u136 u137 u138 u139 u140 u141 u142 u143 u144 u145 u146 u147 u148 u149 u150 u151 u152 u153 u154 u160 u161 u162 u163 u164 u165 u166 u167 u168 u169 u170 u171 u172 u173 u174 u175 u176 u177 u178 u179 u180 u181 u182 u183 u184 u185 u186 u187 u188 u189 u190 u191 u192 u193 u194 u195 u196 u197 u198 u199 u200 u201 u202 u203 u204 u205 u206 u207 u208 u209 u210 u211 u212 u213 u214 u215 u216 u217 : Value}
    (hQ : Q = bodyPost Tryd.prog Tryd.f13 (fun e w' => e = .returned (.bool true) ∧ Below w.heap.size w w')) (hK : ∀ (a : Act) (w : World), Code.wp Tryd.prog code2 Q a w → K a w)
    (HE : Hid (cntE W S cs = 0)) (HL : Hid (L = (readings W.toNat S.toNat cs).take 64)) (HPQ : Hid (p + q = (readings W.toNat S.toNat cs).length)) (HLL : Hid (L.length = min 64 (p + q))) (HRC : Hid (rCodeErr W S y = 0))
    (hl : cs.length ≤ maxLen) (ly : y.length ≤ maxLen) (HX8 : Hid (ClsR w8 w8.heap.size A cs)) (HY8 : Hid (IntsR w8 w8.heap.size A2 y)) (HT8 : Hid (Tab w8)) (HR8 : Hid (SlsR w8 w8.heap.size A8 L))
    (Z0' : Hid (w8.heap[w.heap.size]? = some (.cells #[I W, I S] 23 (0, 0)))) (Z1' : Hid (w8.heap[w.heap.size + 1]? = some (.cells #[I k, I a, I b, I n, I m, .slice Ag g.length cap, .bool ng, .slice A2 y.length k2] 71 (0, 0))))
    (s8 : w.heap.size + 1 < w8.heap.size) (hbb8 : Below w.heap.size w w8) (hB : Below w8.heap.size w8 wr) (hb10 : Below wr.heap.size wr w10) :
    Code.wp Tryd.prog code1 (Exit.then K Q) { tmps := #[lockV W S, Value.slice A cs.length c, trialV ⟨k, a, b, n, m, g, ng⟩ Ag cap A2 y.length k2, Value.pointer (some ⟨w.heap.size, 0, none⟩), undef, Value.pointer (some ⟨w.heap.size + 1, 0, none⟩), u6, Value.pointer (some ⟨w3.heap.size, 0, none⟩), I ((p : Int) + (q : Int)), I 0, I p, I 0, I q, I 0, Value.slice A8 L.length c8, Value.int IntKind.i64 (L.length : Int), u16, u17, u18, undef, undef, undef, undef, undef, u24, u25, u26, u27, u28, u29, u30, u31, u32, u33, u34, u35, u36, u37, u38, u39, u40, u41, u42, u43, u44, u45, u46, u47, u48, u49, u50, u51, u52, u53, u54, u55, u56, u57, u58, u59, u60, u61, u62, u63, u64, u65, u66, u67, u68, u69, u70, u71, u72, u73, u74, u75, u76, u77, u78, u79, u80, u81, u82, u83, u84, u85, u86, u87, u88, u89, u90, u91, u92, u93, u94, u95, u96, u97, u98, u99, u100, u101, u102, u103, u104, u105, u106, u107, u108, u109, Value.bool false, Value.int IntKind.i64 (L.length : Int), Value.slice A8 L.length c8, Value.int IntKind.i64 (L.length : Int), Value.bool false, u115, u116, u117, u118, u119, u120, u121, u122, u123, u124, u125, u126, u127, u128, u129, u130, u131, u132, u133, u134, u135, u136, u137, u138, u139, u140, u141, u142, u143, u144, u145, u146, u147, u148, u149, u150, u151, u152, u153, u154, Value.agg #[I W, I S], Value.pointer (some ⟨w.heap.size + 1, 7, none⟩), Value.slice A2 y.length k2, Value.int IntKind.i64 (rCodeErr W S y), Value.bool false, u160, u161, u162, u163, u164, u165, u166, u167, u168, u169, u170, u171, u172, u173, u174, u175, u176, u177, u178, u179, u180, u181, u182, u183, u184, u185, u186, u187, u188, u189, u190, u191, u192, u193, u194, u195, u196, u197, u198, u199, u200, u201, u202, u203, u204, u205, u206, u207, u208, u209, u210, u211, u212, u213, u214, u215, u216, u217], defers := [] } w10 := by
  simp only [Tryd.f13, Option.getD_some, dropX, headX] at hc1 hc2
  subst hc1 hc2 hQ
  have hb11 := hB.trans (hb10.mono hB.size)
  have Z0 := Lib.hid ((hB.block _ (by omega)).trans Z0'.out)
  have Z1 := Lib.hid ((hB.block _ (by omega)).trans Z1'.out)
  have hfy : fitE W S cs y = 0 := ex_code HE.out HRC.out
  have Z0 := Lib.hid ((hb10.block _ (by have := hB.size; omega)).trans Z0.out)
  have Z1 := Lib.hid ((hb10.block _ (by have := hB.size; omega)).trans Z1.out)
  have hL64 : L.length ≤ 64 := by have := HLL.out; omega
  have l0 : w10.cell? ⟨w.heap.size, 0, none⟩ = some (I W) := cell_of_row w10 _ 0 _ _ _ Z0.out
  have l1 : w10.cell? ⟨w.heap.size, 1, none⟩ = some (I S) := cell_of_row w10 _ 1 _ _ _ Z0.out
  have q7 : w10.cell? ⟨w.heap.size + 1, 7, none⟩ = some (.slice A2 y.length k2) := cell_of_row w10 _ 7 _ _ _ Z1.out
  go_wp2_with fail
  refine (Fits_any W S A A2 c k2 cs y w10 (HT8.out.below hb11) (cls_call hb11 HX8.out) hl (ints_call hb11 HY8.out) ly).mono ?_
  rintro e w11 ⟨rfl, hb12⟩
  rw [hfy]
  have hb13 := hb11.trans (hb12.mono hb11.size)
  have Z1 := Lib.hid ((hb12.block _ (by have := hb11.size; omega)).trans Z1.out)
  clear l0 l1 q7 hb10 hb11 hb12
  go_wp2_with fail
  go_loopw [21, 22] (fun s i wr => ∃ j : Nat, j ≤ L.length ∧ i = .int .i64 j ∧ s = .bool (decide (y ∈ L.take j)) ∧ Below w8.heap.size w8 wr) (fun _ i _ => L.length - (intOf i).toNat)
  case atStart => exact ⟨0, Nat.zero_le _, rfl, by simp, hb13⟩
  case round =>
    obtain ⟨j, hj, rfl, rfl, hB⟩ := hrel
    have r9 := sls_call hB HR8.out
    have z1 := ((hB.block _ (by omega)).trans Z1'.out)
    have q7 : wr.cell? ⟨w.heap.size + 1, 7, none⟩ = some (.slice A2 y.length k2) := cell_of_row wr _ 7 _ _ _ z1
    have y9 := ints_call hB HY8.out
    by_cases hlt : j < L.length
    · obtain ⟨a1, rfl, hb1, hc1⟩ := r9 (by omega)
      obtain ⟨B1, c1, d1, i1, m1⟩ := hc1 j hlt
      have HTK := Lib.hid (p := decide (y ∈ L.take (j + 1)) = (decide (y ∈ L.take j) || decide (L[j] = y))) (ex_take hlt)
      obtain ⟨x, hx0⟩ : ∃ x, x = L[j] := ⟨_, rfl⟩
      rw [← hx0] at d1 i1 m1 HTK
      have p1 : (a1.add j).block < wr.heap.size := by rw [block_of_add]; exact hb1
      have pq : (⟨w.heap.size + 1, 7, none⟩ : Addr).block < wr.heap.size := by have := hB.size; simp only; omega
      clear hx0 hc1 z1
      cases hyl : decide (y ∈ L.take j)
      · rw [hyl, Bool.false_or] at HTK
        go_upto_region 26 with fail
        go_region_held3 (fun w' => Below wr.heap.size wr w' ∧ w'.cell? ⟨w.heap.size + 1, 7, none⟩ = some (.slice A2 y.length k2) ∧ w'.cell? (a1.add j) = some (.slice B1 x.length c1))
          (first | exact ⟨(Below.refl _ _).drew, q7, d1⟩ | exact keptB pq p1 (by assumption) hb | assumption)
          ((go_at_call 41; go_must (refine (SameInts_any _ _ _ _ x y _ ?_ ?_ m1 ly).mono ?_); go_must (exact ints_call (And.left (by assumption : Below wr.heap.size wr _ ∧ _ ∧ _)) i1); go_must (exact ints_call (And.left (by assumption : Below wr.heap.size wr _ ∧ _ ∧ _)) y9); rintro e w' ⟨rfl, hb⟩))
        all_goals
          have hb14 := And.left (by assumption : Below wr.heap.size wr _ ∧ _ ∧ _)
          have hb15 := hB.trans (hb14.mono hB.size)
          go_wp2
          go_roundw
          case rel => exact ⟨j + 1, by omega, by go_num, by rw [HTK.out], hb15⟩
          case measure => simp [intOf]; omega
      · rw [hyl, Bool.true_or] at HTK
        go_upto_region 26 with fail
        go_quiet (fail)
        all_goals
          go_wp2
          go_roundw
          case rel => exact ⟨j + 1, by omega, by go_num, by rw [HTK.out], (by first | exact hB | exact hB.drew | exact below_drewN hB _)⟩
          case measure => simp [intOf]; omega
    · obtain rfl : j = L.length := by omega
      rw [List.take_length]
      have hT9 := HT8.out.below hB
      have hb16 : Below w.heap.size w wr := hbb8.trans (hB.mono (by omega))
      have hL64 : L.length ≤ 64 := by have := HLL.out; omega
      have hres := ex_res HE.out HL.out HPQ.out y
      obtain ⟨bey, hbey⟩ : ∃ bey : Bool, bey = (decide (L.length < p + q) && !befB y (L.getLastD [])) := ⟨_, rfl⟩
      rw [← hbey] at hres
      have HRES := Lib.hid hres
      have HBEY := Lib.hid hbey
      clear hbey hres z1
      go_upto_region 27 with fail
      go_cut [23] (fun s wx => s = .bool bey ∧ Below wr.heap.size wr wx)
      case first =>
        by_cases hmore : L.length < p + q
        · have hg : decide ((L.length : Int) < (p : Int) + (q : Int)) = true := decide_eq_true (by omega)
          have hpos : 0 < L.length := by have := HLL.out; omega
          obtain ⟨a1, rfl, hb1, hc1⟩ := r9 hpos
          obtain ⟨i', hi'⟩ : ∃ i', i' = L.length - 1 := ⟨_, rfl⟩
          have hi3 : i' < L.length := by omega
          obtain ⟨B1, c1, d1, i1, m1⟩ := hc1 i' hi3
          obtain ⟨x, hx0⟩ : ∃ x, x = L[i'] := ⟨_, rfl⟩
          rw [← hx0] at d1 i1 m1
          have hbb : bey = !befB y x := by
            rw [HBEY.out, decide_eq_true hmore, Bool.true_and, last_get hpos, hx0]
            subst hi'
            rfl
          have HBB := Lib.hid hbb
          have p1 : (a1.add i').block < wr.heap.size := by rw [block_of_add]; exact hb1
          have pq : (⟨w.heap.size + 1, 7, none⟩ : Addr).block < wr.heap.size := by have := hB.size; simp only; omega
          have hw0 : (L.length : Int) - 1 = (i' : Int) := by omega
          have hw1 : wrap64 ((L.length : Int) - 1) = (i' : Int) := by rw [hw0]; exact IntWalk.wrap64_in _ ⟨by omega, by omega⟩
          have hw2 : IntKind.i64.wrap ((L.length : Int) - 1) = (i' : Int) := (IntWalk.i64_left _).trans hw1
          have hw3 : IntKind.i64.wrap (i' : Int) = (i' : Int) := (IntWalk.i64_left _).trans (IntWalk.wrap64_in _ ⟨by omega, by omega⟩)
          have hi4 : (i' : Int) < (L.length : Int) := by omega
          have hi5 : (0 : Int) ≤ (i' : Int) := by omega
          clear hx0 hi' hc1 hbb
          clear hw0
          go_region_held3 (fun w' => Below wr.heap.size wr w' ∧ w'.cell? ⟨w.heap.size + 1, 7, none⟩ = some (.slice A2 y.length k2) ∧ w'.cell? (a1.add i') = some (.slice B1 x.length c1))
            (first | exact ⟨(Below.refl _ _).drew, q7, d1⟩ | exact keptB pq p1 (by assumption) hb | assumption)
            ((go_at_call 59; go_must (refine (before_any _ _ _ _ y x _ ?_ ?_ ly m1).mono ?_); go_must (exact ints_call (And.left (by assumption : Below wr.heap.size wr _ ∧ _ ∧ _)) y9); go_must (exact ints_call (And.left (by assumption : Below wr.heap.size wr _ ∧ _ ∧ _)) i1); rintro e w' ⟨rfl, hb⟩))
          all_goals
            go_wp2_with fail
            go_meet
            exact ⟨by rw [HBB.out], And.left (by assumption : Below wr.heap.size wr _ ∧ _ ∧ _)⟩
        · have hg : decide ((L.length : Int) < (p : Int) + (q : Int)) = false := decide_eq_false (by omega)
          have hbf : bey = false := by rw [HBEY.out, decide_eq_false hmore]; rfl
          go_quiet (fail)
          all_goals
            go_wp2_with fail
            go_meet
            exact ⟨by rw [hbf], (by first | exact Below.refl _ _ | exact (Below.refl _ _).drew | exact below_drewN (Below.refl _ _) _)⟩
      case rest =>
        obtain ⟨rfl, hb17⟩ := hcut
        obtain ⟨w17, hw17⟩ : ∃ w17 : World, w17 = wc := ⟨_, rfl⟩
        subst hw17
        have hT17 := hT9.below hb17
        have hb18 : Below w.heap.size w w17 := hb16.trans (hb17.mono (by have := hb16.size; omega))
        have hs18 := hb18.size
        clear hb16 hb17
        rcases HRES.out with h | ⟨h1, h2, h3⟩
        · cases hyl : decide (y ∈ L)
          all_goals
            rw [hyl] at h
            rw [h]
            go_wp2_with fail
            refine (works_any w17 hT17).mono ?_
            rintro e w19 ⟨rfl, hb19⟩
            go_wp2
            go_ret
            exact ⟨rfl, hb18.trans (hb19.mono hs18)⟩
        · rw [h1, h2, h3]
          go_wp2_with fail
          refine (works_any w17 hT17).mono ?_
          rintro e w19 ⟨rfl, hb19⟩
          go_wp2
          go_ret
          exact ⟨rfl, hb18.trans (hb19.mono hs18)⟩
end Go.Proofs.YthegmomjfbcabaaDoor

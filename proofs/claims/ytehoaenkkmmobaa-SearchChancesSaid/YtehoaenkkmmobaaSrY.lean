/-
  LAYER 6, CONTRACTS: distanceByEdges, hasDistances, check, Check.
-/
import Derived.Test.YtehoaenkkmmobaaSrX
namespace Go.Proofs.Ytehoaenkkmmobaa
open Go.RowKit Go.Shelf
def dstep (D : List Int) (l : Int) (e : Ed) : Int := if (nth D e.to.toNat != -1) && ((l == -1) || decide (nth D e.to.toNat < l)) then nth D e.to.toNat else l
def dbt (D : List Int) (es : List Ed) (k : Nat) : Int := (es.take k).foldl (dstep D) (-1)
theorem dbt_succ (D : List Int) (es : List Ed) {k : Nat} (h : k < es.length) : dbt D es (k + 1) = dstep D (dbt D es k) es[k] := by
  rw [dbt, dbt, List.take_succ_eq_append_getElem h, List.foldl_append]; rfl
def dstE (D : List Int) (es : List Ed) : Int := if dbt D es es.length = -1 then -1 else dbt D es es.length + 1
theorem dstep_bnd {D : List Int} {l : Int} {e : Ed} (h : ∀ k, -1 ≤ nth D k ∧ nth D k ≤ 1000) (hl : -1 ≤ l ∧ l ≤ 1000) : -1 ≤ dstep D l e ∧ dstep D l e ≤ 1000 := by
  unfold dstep; split
  · exact h _
  · exact hl
theorem dbt_bnd {D : List Int} (h : ∀ k, -1 ≤ nth D k ∧ nth D k ≤ 1000) (es : List Ed) (k : Nat) : -1 ≤ dbt D es k ∧ dbt D es k ≤ 1000 := by
  rw [dbt]
  have : ∀ (l : List Ed) (a : Int), -1 ≤ a ∧ a ≤ 1000 → -1 ≤ l.foldl (dstep D) a ∧ l.foldl (dstep D) a ≤ 1000 := by
    intro l
    induction l with
    | nil => exact fun a h => h
    | cons e l ih => exact fun a ha => ih _ (dstep_bnd h ha)
  exact this _ _ (by omega)
set_option maxRecDepth 100000 in
set_option maxHeartbeats 4000000 in
theorem dby_any (vP : Value) (AE AD : Option Addr) (cE cD : Nat) (G : List (List Ed)) (D : List Int) (p : Nat) (w : World) (hm : MdR w AE AD G D) (hv : Vld G D) (hp : p < G.length) (hD : ∀ k, -1 ≤ nth D k ∧ nth D k ≤ 1000) :
    Calls Try.prog 97 #[mdlV vP AE AD G.length cE D.length cD, I p] w fun e w' => e = .returned (I (dstE D G[p])) ∧ Below w.heap.size w w' := by
  obtain ⟨w1, hw1, hs1, y0, hb1⟩ := one_box w (.cells #[vP, .slice AE G.length cE, .slice AD D.length cD] 64)
  have a1 : w1.cell? ⟨w.heap.size, 1, none⟩ = some (.slice AE G.length cE) := cell_of_row w1 _ 1 _ _ _ y0
  have a2 : w1.cell? ⟨w.heap.size, 2, none⟩ = some (.slice AD D.length cD) := cell_of_row w1 _ 2 _ _ _ y0
  have s0 : w.heap.size < w1.heap.size := by omega
  have hm1 := hm.call hb1
  obtain ⟨g, o, rfl, hgl, Ap, cp, hcA, hcE⟩ := hm1.g.at_ hp
  have hfew := hv.few p hp
  have hmx := hv.many
  have hlD := hv.len
  have hto := fun e he => hv.to p hp e he
  obtain ⟨es, hes⟩ : ∃ es, es = G[p] := ⟨_, rfl⟩
  rw [← hes] at hcA hcE hfew hto ⊢
  have HB1 := Lib.hid hb1
  have HI := Lib.hid hm1.d
  have HE := Lib.hid hcE
  have HD := Lib.hid hD
  have HLD := Lib.hid hlD
  clear hm hm1 hes y0 hv hb1 hcE hD hlD
  go_enter Try.func97, Try.ntmps97
  go_upto_region 1 with fail
  rw [← hw1]
  clear hw1
  go_upto_region 3 with fail
  go_wp2_with fail
  go_loopw [16, 5] (fun i l wr => ∃ k : Nat, k ≤ es.length ∧ i = .int .i64 k ∧ l = .int .i64 (dbt D es k) ∧ Below w1.heap.size w1 wr) (fun i _ _ => es.length - (intOf i).toNat)
  case atStart => exact ⟨0, Nat.zero_le _, rfl, rfl, Below.refl _ _⟩
  case round =>
    obtain ⟨k, hk, rfl, rfl, hB⟩ := hrel
    obtain ⟨wo, hwo⟩ : ∃ wo : World, wo = wr := ⟨_, rfl⟩
    rw [← hwo] at hB
    rw [← hwo]
    clear hwo
    by_cases hlt : k < es.length
    · obtain ⟨b, q, rfl, hb, d0, d1, d2, d3⟩ := (edr_call hB HE.out).at_ hlt
      have ht := hto _ (List.getElem_mem hlt)
      have hS := dbt_succ D es hlt
      obtain ⟨x, hx⟩ : ∃ x, x = es[k] := ⟨_, rfl⟩
      rw [← hx] at d0 d1 d2 d3 ht hS
      obtain ⟨t, hte⟩ : ∃ t : Nat, x.to = t := ⟨x.to.toNat, by omega⟩
      rw [hte] at d3 ht
      obtain ⟨w3, hw3, hs3, y3, hb3⟩ := one_box wo (.cells (edC x) 58)
      have z3 : w3.cell? ⟨wo.heap.size, 3, none⟩ = some (I t) := by rw [← hte]; exact cell_of_row w3 _ 3 _ _ _ y3
      have hB3 := hB.trans (hb3.mono hB.size)
      have e2 : w3.cell? ⟨w.heap.size, 2, none⟩ = some (.slice AD D.length cD) := (hB3.cell (p := ⟨w.heap.size, 2, none⟩) s0).trans a2
      obtain ⟨ad, rfl, hbA, hcD⟩ := (ints_call hB3 HI.out).at_ (k := t) (by have := HLD.out; omega)
      have htD : t < D.length := by have := HLD.out; omega
      have hm1 := HD.out t
      have hm2 := dbt_bnd HD.out es k
      obtain ⟨a, ha⟩ : ∃ a, a = nth D t := ⟨_, rfl⟩
      obtain ⟨l, hl⟩ : ∃ l, l = dbt D es k := ⟨_, rfl⟩
      rw [← ha] at hcD hm1
      rw [← hl] at hm2 hS ⊢
      have hT : x.to.toNat = t := by rw [hte]; rfl
      have HSS := Lib.hid hS
      have HA := Lib.hid ha
      have HT := Lib.hid hT
      have W3 : w3 = wo.alloc (.cells #[I x.pl, I x.kd, I x.nm, I t] 58) := by rw [hw3, edC, hte]
      clear hw3 hS ha hT hte hl y3 hx
      go_upto_region 5 with fail
      rw [← W3]
      clear W3
      by_cases h1 : a = -1
      · have c1 : (a != -1) = false := by simp [h1]
        have c1' : decide (a = -1) = true := decide_eq_true h1
        have HN := Lib.hid (show dbt D es (k + 1) = l by rw [HSS.out, dstep, HT.out, ← HA.out, c1]; rfl)
        clear h1
        go_wp2_with fail
        go_roundw
        case rel => exact ⟨k + 1, by omega, by go_num, by rw [HN.out], hB3⟩
        case measure => simp [intOf]; omega
      · have c1 : (a != -1) = true := by simpa using h1
        have c1' : decide (a = -1) = false := decide_eq_false h1
        by_cases h2 : l = -1
        · have c2 : (l == -1) = true := by simp [h2]
          have c2' : decide (l = -1) = true := decide_eq_true h2
          have HN := Lib.hid (show dbt D es (k + 1) = a by rw [HSS.out, dstep, HT.out, ← HA.out, c1, c2]; rfl)
          clear h1 h2
          go_wp2_with fail
          go_roundw
          case rel => exact ⟨k + 1, by omega, by go_num, by rw [HN.out], hB3⟩
          case measure => simp [intOf]; omega
        · have c2 : (l == -1) = false := by simpa using h2
          have c2' : decide (l = -1) = false := decide_eq_false h2
          by_cases h3 : a < l
          · have c3 : decide (a < l) = true := decide_eq_true h3
            have HN := Lib.hid (show dbt D es (k + 1) = a by rw [HSS.out, dstep, HT.out, ← HA.out, c1, c2, c3]; rfl)
            clear h1 h2 h3
            go_wp2_with fail
            go_roundw
            case rel => exact ⟨k + 1, by omega, by go_num, by rw [HN.out], hB3⟩
            case measure => simp [intOf]; omega
          · have c3 : decide (a < l) = false := decide_eq_false h3
            have HN := Lib.hid (show dbt D es (k + 1) = l by rw [HSS.out, dstep, HT.out, ← HA.out, c1, c2, c3]; rfl)
            clear h1 h2 h3
            go_wp2_with fail
            go_roundw
            case rel => exact ⟨k + 1, by omega, by go_num, by rw [HN.out], hB3⟩
            case measure => simp [intOf]; omega
    · obtain rfl : k = es.length := by omega
      have hm2 := dbt_bnd HD.out es es.length
      obtain ⟨l, hl⟩ : ∃ l, l = dbt D es es.length := ⟨_, rfl⟩
      rw [← hl] at hm2 ⊢
      have HL := Lib.hid hl
      clear hl
      by_cases h2 : l = -1
      · have c2 : (l == -1) = true := by simp [h2]
        have c2' : decide (l = -1) = true := decide_eq_true h2
        have HN := Lib.hid (show dstE D es = -1 by rw [dstE, ← HL.out, if_pos h2])
        clear h2
        go_wp2_with fail
        go_ret
        exact ⟨ret_int HN.out.symm, HB1.out.trans (hB.mono HB1.out.size)⟩
      · have c2 : (l == -1) = false := by simpa using h2
        have c2' : decide (l = -1) = false := decide_eq_false h2
        have HN := Lib.hid (show dstE D es = l + 1 by rw [dstE, ← HL.out, if_neg h2])
        clear h2
        go_wp2_with fail
        go_ret
        exact ⟨ret_int HN.out.symm, HB1.out.trans (hB.mono HB1.out.size)⟩
def gAt (G : List (List Ed)) (p : Nat) : List Ed := G[p]?.getD []
theorem gAt_eq {G : List (List Ed)} {p : Nat} (h : p < G.length) : gAt G p = G[p] := by simp [gAt, h]
def okP (G : List (List Ed)) (D : List Int) (i : Nat) : Bool := (nth D i == 0) || (nth D i == dstE D (gAt G i))
def okB (G : List (List Ed)) (D : List Int) : Bool := inB (-1) ((G.length : Int) - 1) D && (List.range D.length).all (okP G D)
theorem inB_bnd {D : List Int} {n : Nat} (h : inB (-1) ((n : Int) - 1) D = true) (hn : n ≤ 300) : ∀ k, -1 ≤ nth D k ∧ nth D k ≤ 1000 := fun k => by
  by_cases hk : k < D.length
  · rw [inB, List.all_eq_true] at h
    have := h (nth D k) (by rw [nth_lt hk]; exact List.getElem_mem hk)
    simp [wi] at this
    omega
  · rw [show nth D k = 0 by simp [nth, List.getElem?_eq_none (by omega : D.length ≤ k)]]; omega
theorem range_all_succ {P : Nat → Bool} {k : Nat} (h : (List.range k).all P = true) (hk : P k = true) : (List.range (k + 1)).all P = true := by
  rw [List.range_succ, List.all_append, h]; simp [hk]
set_option maxRecDepth 100000 in
set_option maxHeartbeats 4000000 in
theorem hasD_any (AP AE AD : Option Addr) (cP cE cD : Nat) (G : List (List Ed)) (D : List Int) (w : World) (hm : MdR w AE AD G D) (hv : Vld G D) :
    Calls Try.prog 71 #[mdlV (.slice AP G.length cP) AE AD G.length cE D.length cD] w fun e w' => e = .returned (.bool (okB G D)) ∧ Below w.heap.size w w' := by
  obtain ⟨w1, hw1, hs1, y0, hb1⟩ := one_box w (.cells #[.slice AP G.length cP, .slice AE G.length cE, .slice AD D.length cD] 64)
  have a0 : w1.cell? ⟨w.heap.size, 0, none⟩ = some (.slice AP G.length cP) := cell_of_row w1 _ 0 _ _ _ y0
  have a1 : w1.cell? ⟨w.heap.size, 1, none⟩ = some (.slice AE G.length cE) := cell_of_row w1 _ 1 _ _ _ y0
  have a2 : w1.cell? ⟨w.heap.size, 2, none⟩ = some (.slice AD D.length cD) := cell_of_row w1 _ 2 _ _ _ y0
  have s0 : w.heap.size < w1.heap.size := by omega
  have hm1 := hm.call hb1
  have hmx := hv.many
  have hlD := hv.len
  have hpos := hv.pos
  have hin := allWithin_any (-1) ((G.length : Int) - 1) AD cD D w1 hm1.d (by rw [hlD]; unfold maxLen; omega)
  have HB1 := Lib.hid hb1
  have HM := Lib.hid hm1
  have HV := Lib.hid hv
  have HLD := Lib.hid hlD
  have hnD : D.length ≤ 300 := by omega
  clear hm hm1 y0 hv hb1 hlD
  cases hq : inB (-1) ((G.length : Int) - 1) D with
  | false =>
    have HQ := Lib.hid (show okB G D = false by rw [okB, hq]; rfl)
    rw [hq] at hin
    clear hq
    go_enter Try.func71, Try.ntmps71
    go_upto_region 1 with fail
    rw [← hw1]
    clear hw1
    go_wp2_with (go_at_call 96; refine hin.mono ?_; rintro e w2 ⟨rfl, hb2⟩)
    go_ret
    exact ⟨ret_bool HQ.out.symm, HB1.out.trans (hb2.mono HB1.out.size)⟩
  | true =>
    have HD := Lib.hid (inB_bnd hq hmx)
    have HQ := Lib.hid hq
    rw [hq] at hin
    clear hq
    go_enter Try.func71, Try.ntmps71
    go_upto_region 1 with fail
    rw [← hw1]
    clear hw1
    go_wp2_with (go_at_call 96; refine hin.mono ?_; rintro e w2 ⟨rfl, hb2⟩; have e2 : w2.cell? ⟨w.heap.size, 2, none⟩ = some (.slice AD D.length cD) := (hb2.cell (p := ⟨w.heap.size, 2, none⟩) s0).trans a2)
    go_loopw [17] (fun i wr => ∃ k : Nat, k ≤ D.length ∧ i = .int .i64 k ∧ Below w1.heap.size w1 wr ∧ Hid ((List.range k).all (okP G D) = true)) (fun i _ => D.length - (intOf i).toNat)
    case atStart => exact ⟨0, Nat.zero_le _, rfl, hb2, Lib.hid rfl⟩
    case round =>
      obtain ⟨k, hk, rfl, hB, HA⟩ := hrel
      obtain ⟨wo, hwo⟩ : ∃ wo : World, wo = wr := ⟨_, rfl⟩
      rw [← hwo] at hB
      rw [← hwo]
      clear hwo
      by_cases hlt : k < D.length
      · have hMo := HM.out.call hB
        obtain ⟨ad, rfl, hbA, hcD⟩ := hMo.d.at_ (k := k) hlt
        have b0 : wo.cell? ⟨w.heap.size, 0, none⟩ = some (.slice AP G.length cP) := (hB.cell (p := ⟨w.heap.size, 0, none⟩) s0).trans a0
        have b1 : wo.cell? ⟨w.heap.size, 1, none⟩ = some (.slice AE G.length cE) := (hB.cell (p := ⟨w.heap.size, 1, none⟩) s0).trans a1
        have b2 : wo.cell? ⟨w.heap.size, 2, none⟩ = some (.slice (some ad) D.length cD) := (hB.cell (p := ⟨w.heap.size, 2, none⟩) s0).trans a2
        have hkG : k < G.length := by have := HLD.out; omega
        have hcall := dby_any (.slice AP G.length cP) AE (some ad) cE cD G D k wo hMo HV.out hkG HD.out
        rw [← gAt_eq hkG] at hcall
        obtain ⟨a, ha⟩ : ∃ a, a = nth D k := ⟨_, rfl⟩
        obtain ⟨b, hb⟩ : ∃ b, b = dstE D (gAt G k) := ⟨_, rfl⟩
        have hO : okP G D k = ((a == 0) || (a == b)) := by rw [okP, ← ha, ← hb]
        rw [← ha] at hcD
        rw [← hb] at hcall
        clear ha hb hMo
        have HNO : okP G D k = false → Hid (okB G D = false) := fun h => Lib.hid (by
          have : (List.range D.length).all (okP G D) = false := by
            rw [List.all_eq_false]
            exact ⟨k, List.mem_range.2 hlt, by rw [h]; simp⟩
          rw [okB, this, Bool.and_false])
        have HYES : okP G D k = true → Hid ((List.range (k + 1)).all (okP G D) = true) := fun h => Lib.hid (range_all_succ HA.out h)
        by_cases h1 : a = 0
        · have c1 : (a != 0) = false := by simp [h1]
          have c1' : decide (a = 0) = true := decide_eq_true h1
          have HN := HYES (by rw [hO, h1]; rfl)
          clear h1 hO HNO HYES hcall
          go_wp2_with fail
          go_roundw
          case rel => exact ⟨k + 1, by omega, by go_num, hB, HN⟩
          case measure => simp [intOf]; omega
        · have c1 : (a != 0) = true := by simpa using h1
          have c1' : decide (a = 0) = false := decide_eq_false h1
          by_cases h2 : a = b
          · have c2 : (a != b) = false := by simp [h2]
            have c2' : decide (a = b) = true := decide_eq_true h2
            have HN := HYES (by rw [hO, h2]; simp)
            clear h1 h2 hO HNO HYES
            go_wp2_with (go_at_call 97; refine hcall.mono ?_; rintro e w3 ⟨rfl, hb3⟩)
            go_roundw
            case rel => exact ⟨k + 1, by omega, by go_num, hB.trans (hb3.mono hB.size), HN⟩
            case measure => simp [intOf]; omega
          · have c2 : (a != b) = true := by simpa using h2
            have c2' : decide (a = b) = false := decide_eq_false h2
            have HN := HNO (by rw [hO]; simp [h1, h2])
            clear h1 h2 hO HNO HYES
            go_wp2_with (go_at_call 97; refine hcall.mono ?_; rintro e w3 ⟨rfl, hb3⟩)
            go_ret
            exact ⟨ret_bool HN.out.symm, HB1.out.trans ((hB.trans (hb3.mono hB.size)).mono HB1.out.size)⟩
      · obtain rfl : k = D.length := by omega
        have HN := Lib.hid (show okB G D = true by rw [okB, HQ.out, HA.out]; rfl)
        go_wp2_with fail
        go_ret
        exact ⟨ret_bool HN.out.symm, HB1.out.trans (hB.mono HB1.out.size)⟩
theorem whB_vld {nP : Nat} {G : List (List Ed)} {D : List Int} (h : whB nP G D.length = true) : nP = G.length ∧ Vld G D := by
  simp only [whB, Bool.and_eq_true, decide_eq_true_eq, Bool.not_eq_true', List.any_eq_false] at h
  obtain ⟨⟨⟨h1, rfl⟩, h3⟩, h4⟩ := h
  have h1' : (1 : Int) ≤ G.length ∧ (G.length : Int) ≤ 300 := by simpa [wi] using h1
  have h4' : ∀ es ∈ G, es.length ≤ 100 ∧ ∀ e ∈ es, 0 ≤ e.to ∧ e.to < G.length := fun es hes => by
    have := h4 es hes
    simp only [badE, farE, Bool.or_eq_true, decide_eq_true_eq, List.any_eq_true, not_or, not_exists, not_and] at this
    refine ⟨by omega, fun e he => ?_⟩
    have h5 := this.2 e he
    simp [wi] at h5
    omega
  exact ⟨rfl, { pos := by omega, many := by omega, len := h3, few := fun p hp => (h4' _ (List.getElem_mem hp)).1, to := fun p hp e he => (h4' _ (List.getElem_mem hp)).2 e he }⟩
/-- a valid map -/
def mapB (nP : Nat) (G : List (List Ed)) (D : List Int) : Bool := whB nP G D.length && okB G D
/-- what Check returns -/
def chkE (nP : Nat) (G : List (List Ed)) (D : List Int) : Int := if mapB nP G D then 0 else 60
def unlE (b : Bool) (n : Int) : Int := if b then 0 else n
theorem unlE_any (b : Bool) (n : Int) (w : World) : Calls Try.prog 51 #[.bool b, I n] w fun e w' => e = .returned (I (unlE b n)) ∧ w' = w := unless_any b n w
/-- what is asked of the lengths of a map in memory -/
structure Szd (nP : Nat) (G : List (List Ed)) (D : List Int) : Prop where
  p : nP ≤ maxLen
  e : G.length ≤ maxLen
  d : D.length ≤ maxLen
  es : ∀ es ∈ G, es.length ≤ maxLen
set_option maxHeartbeats 2000000 in
theorem check_any (AP AE AD : Option Addr) (nP cP cE cD : Nat) (G : List (List Ed)) (D : List Int) (w : World) (hm : MdR w AE AD G D) (hz : Szd nP G D) :
    Calls Try.prog 45 #[mdlV (.slice AP nP cP) AE AD G.length cE D.length cD] w fun e w' => e = .returned (I (chkE nP G D)) ∧ Below w.heap.size w w' := by
  obtain ⟨w1, hw1, hs1, y0, hb1⟩ := one_box w (.cells #[.slice AP nP cP, .slice AE G.length cE, .slice AD D.length cD] 64)
  have a0 : w1.cell? ⟨w.heap.size, 0, none⟩ = some (.slice AP nP cP) := cell_of_row w1 _ 0 _ _ _ y0
  have a1 : w1.cell? ⟨w.heap.size, 1, none⟩ = some (.slice AE G.length cE) := cell_of_row w1 _ 1 _ _ _ y0
  have a2 : w1.cell? ⟨w.heap.size, 2, none⟩ = some (.slice AD D.length cD) := cell_of_row w1 _ 2 _ _ _ y0
  have s0 : w.heap.size < w1.heap.size := by omega
  have hcall := isWhole_any AP AE AD nP cP cE cD G D w1 (hm.call hb1) hz.p hz.e hz.d hz.es
  have HB1 := Lib.hid hb1
  have HM := Lib.hid (hm.call hb1)
  have U0 : ∀ b V, Calls Try.prog 51 #[.bool b, I 60] V fun e w' => e = .returned (I (unlE b 60)) ∧ w' = V := fun b V => unlE_any b 60 V
  clear hm y0 hz hb1
  cases hq : whB nP G D.length with
  | false =>
    have HQ := Lib.hid (show chkE nP G D = unlE false 60 by rw [chkE, mapB, hq]; rfl)
    rw [hq] at hcall
    have U := U0 false
    clear hq U0
    go_enter Try.func45, Try.ntmps45
    go_upto_region 1 with fail
    rw [← hw1]
    clear hw1
    go_wp2_with (first
      | (go_at_call 70; refine hcall.mono ?_; rintro e w2 ⟨rfl, hb2⟩)
      | (go_at_call 51; refine (U _).mono ?_; rintro e w' ⟨rfl, rfl⟩))
    go_ret
    exact ⟨ret_int HQ.out.symm, HB1.out.trans (hb2.mono HB1.out.size)⟩
  | true =>
    obtain ⟨rfl, hv⟩ := whB_vld hq
    rw [hq] at hcall
    have hcall2 : ∀ V, Below w1.heap.size w1 V → Calls Try.prog 71 #[mdlV (.slice AP G.length cP) AE AD G.length cE D.length cD] V fun e w' => e = .returned (.bool (okB G D)) ∧ Below V.heap.size V w' := fun V hV => hasD_any AP AE AD cP cE cD G D V (HM.out.call hV) hv
    have HQ := Lib.hid (show chkE G.length G D = unlE (okB G D) 60 by rw [chkE, mapB, hq]; rfl)
    obtain ⟨ok, hok⟩ : ∃ ok, ok = okB G D := ⟨_, rfl⟩
    rw [← hok] at hcall2 HQ
    have U := U0 ok
    clear hq hv U0 hok
    go_enter Try.func45, Try.ntmps45
    go_upto_region 1 with fail
    rw [← hw1]
    clear hw1
    go_wp2_with (first
      | (go_at_call 70; refine hcall.mono ?_; rintro e w2 ⟨rfl, hb2⟩; have c0 : w2.cell? ⟨w.heap.size, 0, none⟩ = some (.slice AP G.length cP) := (hb2.cell (p := ⟨w.heap.size, 0, none⟩) s0).trans a0; have c1 : w2.cell? ⟨w.heap.size, 1, none⟩ = some (.slice AE G.length cE) := (hb2.cell (p := ⟨w.heap.size, 1, none⟩) s0).trans a1; have c2 : w2.cell? ⟨w.heap.size, 2, none⟩ = some (.slice AD D.length cD) := (hb2.cell (p := ⟨w.heap.size, 2, none⟩) s0).trans a2)
      | (go_at_call 71; refine (hcall2 _ hb2).mono ?_; rintro e w3 ⟨rfl, hb3⟩)
      | (go_at_call 51; refine (U _).mono ?_; rintro e w' ⟨rfl, rfl⟩))
    go_ret
    exact ⟨ret_int HQ.out.symm, HB1.out.trans ((hb2.trans (hb3.mono hb2.size)).mono HB1.out.size)⟩
end Go.Proofs.Ytehoaenkkmmobaa

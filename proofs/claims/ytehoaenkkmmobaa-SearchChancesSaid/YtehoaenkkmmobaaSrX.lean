/-
  LAYER 6, CONTRACTS: isWhole (with its closures and slices.ContainsFunc at edges and at lists of edges).
-/
import Derived.Laws.EntriesVeiled
import Derived.Test.YtehoaenkkmmobaaSrA
namespace Go.Proofs.Ytehoaenkkmmobaa
open Go.RowKit Go.Shelf
theorem edr_call {w w' : World} {A : Option Addr} {es : List Ed} (hb : Below w.heap.size w w') (h : EdR w w.heap.size A es) : EdR w' w'.heap.size A es := (h.below hb (Nat.le_refl _)).more hb.size
theorem grr_call {w w' : World} {A : Option Addr} {G : List (List Ed)} (hb : Below w.heap.size w w') (h : GrR w w.heap.size A G) : GrR w' w'.heap.size A G := (h.below hb (Nat.le_refl _)).more hb.size
theorem wi_false {n lo hi : Int} (h : ¬ (lo ≤ n ∧ n ≤ hi)) : wi n lo hi = false := by
  unfold wi
  by_cases h1 : lo ≤ n
  · rw [decide_eq_false (show ¬ n ≤ hi from fun h2 => h ⟨h1, h2⟩), Bool.and_false]
  · rw [decide_eq_false h1]; rfl
theorem isOf_any (A : Option Addr) (nP cP : Nat) (n : Int) (w : World) (hP : nP ≤ maxLen) :
    Calls Try.prog 92 #[.slice A nP cP, I n] w fun e w' => e = .returned (.bool (wi n 0 ((nP : Int) - 1))) ∧ w' = w := by
  unfold maxLen at hP
  go_enter Try.func92, Try.ntmps92
  go_wp2_with (go_at_call 55; refine (within_any _ _ _ _).mono ?_; rintro e w' ⟨rfl, rfl⟩)
  go_ret
  exact ⟨rfl, rfl⟩
set_option maxHeartbeats 1000000 in
/-- leadsAway -/
theorem whole1_any (e : Ed) (AP : Option Addr) (nP cP g : Nat) (w : World) (hg : g < w.heap.size) (h0 : w.cell? ⟨g, 0, none⟩ = some (.slice AP nP cP)) (hP : nP ≤ maxLen) :
    Calls Try.prog 91 #[edV e, .pointer (some ⟨g, 0, none⟩)] w fun r w' => r = .returned (.bool (!wi e.to 0 ((nP : Int) - 1))) ∧ Below w.heap.size w w' := by
  obtain ⟨w1, hw1, hs1, y0, hb1⟩ := one_box w (.cells (edC e) 58)
  have b1 : w1.cell? ⟨w.heap.size, 3, none⟩ = some (I e.to) := cell_of_row w1 _ 3 _ _ _ y0
  have c0 : w1.cell? ⟨g, 0, none⟩ = some (.slice AP nP cP) := (hb1.cell (p := ⟨g, 0, none⟩) hg).trans h0
  have hcall := isOf_any AP nP cP e.to w1 hP
  clear h0 y0 hP
  go_enter Try.func91, Try.ntmps91
  go_upto_region 1 with fail
  rw [show #[I e.pl, I e.kd, I e.nm, I e.to] = edC e from rfl, ← hw1]
  clear hw1
  go_wp2_with (go_at_call 92; refine hcall.mono ?_; rintro e w' ⟨rfl, rfl⟩)
  go_ret
  exact ⟨rfl, hb1⟩
set_option maxRecDepth 100000 in
set_option maxHeartbeats 2000000 in
theorem indexEd_any (g : Nat) (lb : Array Value) (eg : ∀ args w, (callFunc g args).run Try.prog w = .ok (.enter g args) w) (p : Ed → Bool) (A : Option Addr) (c : Nat) (es : List Ed) (w : World)
    (hp : ∀ (W : World) (x : Ed), Below w.heap.size w W → Calls Try.prog g (#[edV x] ++ lb) W fun e w' => e = .returned (.bool (p x)) ∧ Below W.heap.size W w')
    (hR : EdR w w.heap.size A es) (hd : es.length ≤ 1000000) :
    Calls Try.prog 107 #[.slice A es.length c, .func (.func g) #[] lb] w fun e w' => ∃ r : Int, e = .returned (I r) ∧ decide (0 ≤ r) = es.any p ∧ Below w.heap.size w w' := by
  have HP := Lib.hid hp
  clear hp
  go_enter Try.func107, Try.ntmps107
  go_wp2_with fail
  go_loopw [8] (fun i wr => ∃ k : Nat, k ≤ es.length ∧ i = .int .i64 k ∧ Below w.heap.size w wr ∧ Hid ((es.take k).all (fun x => !p x) = true)) (fun i _ => es.length - (intOf i).toNat)
  case atStart => exact ⟨0, Nat.zero_le _, rfl, Below.refl _ _, Lib.hid rfl⟩
  case round =>
    obtain ⟨k, hk, rfl, hB, HA⟩ := hrel
    obtain ⟨wo, hwo⟩ : ∃ wo : World, wo = wr := ⟨_, rfl⟩
    rw [← hwo] at hB
    rw [← hwo]
    clear hwo
    by_cases hlt : k < es.length
    · obtain ⟨b, o, rfl, hb, d0, d1, d2, d3⟩ := (edr_call hB hR).at_ hlt
      have hcall := HP.out wo es[k] hB
      obtain ⟨x, hx⟩ : ∃ x, x = es[k] := ⟨_, rfl⟩
      rw [← hx] at d0 d1 d2 d3 hcall
      have HX := Lib.hid hx
      clear hx
      cases hq : p x with
      | true =>
        have HN := Lib.hid (show es.any p = true by
          rw [List.any_eq_true]
          exact ⟨es[k], List.getElem_mem hlt, by rw [← HX.out]; exact hq⟩)
        rw [hq] at hcall
        clear hq
        go_wp2_with (go_at_fn g; refine hcall.mono ?_; rintro e w2 ⟨rfl, hb'⟩)
        go_ret
        exact ⟨_, rfl, by rw [HN.out]; simp, hB.trans (hb'.mono hB.size)⟩
      | false =>
        have HN := Lib.hid (show (es.take (k + 1)).all (fun x => !p x) = true from all_take_snocL _ es k hlt HA.out (by rw [← HX.out, hq]; rfl))
        rw [hq] at hcall
        clear hq
        go_wp2_with (go_at_fn g; refine hcall.mono ?_; rintro e w2 ⟨rfl, hb'⟩)
        go_roundw
        case rel => exact ⟨k + 1, by omega, by go_num, hB.trans (hb'.mono hB.size), HN⟩
        case measure => simp [intOf]; omega
    · obtain rfl : k = es.length := by omega
      have HN := Lib.hid (show es.any p = false by
        have h := HA.out
        rw [List.take_length, List.all_eq_true] at h
        rw [List.any_eq_false]
        intro x hx
        have := h x hx
        simpa using this)
      go_wp2_with fail
      go_ret
      exact ⟨_, rfl, by rw [HN.out]; rfl, hB⟩
theorem hasEd_any (g : Nat) (lb : Array Value) (eg : ∀ args w, (callFunc g args).run Try.prog w = .ok (.enter g args) w) (p : Ed → Bool) (A : Option Addr) (c : Nat) (es : List Ed) (w : World)
    (hp : ∀ (W : World) (x : Ed), Below w.heap.size w W → Calls Try.prog g (#[edV x] ++ lb) W fun e w' => e = .returned (.bool (p x)) ∧ Below W.heap.size W w')
    (hR : EdR w w.heap.size A es) (hd : es.length ≤ 1000000) :
    Calls Try.prog 94 #[.slice A es.length c, .func (.func g) #[] lb] w fun e w' => e = .returned (.bool (es.any p)) ∧ Below w.heap.size w w' := by
  have hcall := indexEd_any g lb eg p A c es w hp hR hd
  clear hp hR
  go_enter Try.func94, Try.ntmps94
  go_wp2_with (go_at_call 107; refine hcall.mono ?_; rintro e w2 ⟨r, rfl, hr, hb⟩; have HR := Lib.hid hr; clear hr)
  go_ret
  exact ⟨ret_bool HR.out, hb⟩
set_option maxRecDepth 100000 in
set_option maxHeartbeats 2000000 in
theorem indexGr_any (g : Nat) (lb : Array Value) (eg : ∀ args w, (callFunc g args).run Try.prog w = .ok (.enter g args) w) (p : List Ed → Bool) (A : Option Addr) (c : Nat) (G : List (List Ed)) (w : World)
    (hp : ∀ (W : World) (Ap : Option Addr) (cp : Nat) (es : List Ed), es ∈ G → EdR W W.heap.size Ap es → Below w.heap.size w W → Calls Try.prog g (#[.slice Ap es.length cp] ++ lb) W fun e w' => e = .returned (.bool (p es)) ∧ Below W.heap.size W w')
    (hR : GrR w w.heap.size A G) (hd : G.length ≤ 1000000) :
    Calls Try.prog 108 #[.slice A G.length c, .func (.func g) #[] lb] w fun e w' => ∃ r : Int, e = .returned (I r) ∧ decide (0 ≤ r) = G.any p ∧ Below w.heap.size w w' := by
  have HP := Lib.hid hp
  clear hp
  go_enter Try.func108, Try.ntmps108
  go_wp2_with fail
  go_loopw [8] (fun i wr => ∃ k : Nat, k ≤ G.length ∧ i = .int .i64 k ∧ Below w.heap.size w wr ∧ Hid ((G.take k).all (fun x => !p x) = true)) (fun i _ => G.length - (intOf i).toNat)
  case atStart => exact ⟨0, Nat.zero_le _, rfl, Below.refl _ _, Lib.hid rfl⟩
  case round =>
    obtain ⟨k, hk, rfl, hB, HA⟩ := hrel
    obtain ⟨wo, hwo⟩ : ∃ wo : World, wo = wr := ⟨_, rfl⟩
    rw [← hwo] at hB
    rw [← hwo]
    clear hwo
    by_cases hlt : k < G.length
    · obtain ⟨b, o, rfl, hb, Ap, cp, d0, d1⟩ := (grr_call hB hR).at_ hlt
      have hcall := HP.out wo Ap cp G[k] (List.getElem_mem hlt) d1 hB
      obtain ⟨x, hx⟩ : ∃ x, x = G[k] := ⟨_, rfl⟩
      rw [← hx] at d0 hcall
      have HX := Lib.hid hx
      clear hx d1
      cases hq : p x with
      | true =>
        have HN := Lib.hid (show G.any p = true by
          rw [List.any_eq_true]
          exact ⟨G[k], List.getElem_mem hlt, by rw [← HX.out]; exact hq⟩)
        rw [hq] at hcall
        clear hq
        go_wp2_with (go_at_fn g; refine hcall.mono ?_; rintro e w2 ⟨rfl, hb'⟩)
        go_ret
        exact ⟨_, rfl, by rw [HN.out]; simp, hB.trans (hb'.mono hB.size)⟩
      | false =>
        have HN := Lib.hid (show (G.take (k + 1)).all (fun x => !p x) = true from all_take_snocL _ G k hlt HA.out (by rw [← HX.out, hq]; rfl))
        rw [hq] at hcall
        clear hq
        go_wp2_with (go_at_fn g; refine hcall.mono ?_; rintro e w2 ⟨rfl, hb'⟩)
        go_roundw
        case rel => exact ⟨k + 1, by omega, by go_num, hB.trans (hb'.mono hB.size), HN⟩
        case measure => simp [intOf]; omega
    · obtain rfl : k = G.length := by omega
      have HN := Lib.hid (show G.any p = false by
        have h := HA.out
        rw [List.take_length, List.all_eq_true] at h
        rw [List.any_eq_false]
        intro x hx
        have := h x hx
        simpa using this)
      go_wp2_with fail
      go_ret
      exact ⟨_, rfl, by rw [HN.out]; rfl, hB⟩
theorem hasGr_any (g : Nat) (lb : Array Value) (eg : ∀ args w, (callFunc g args).run Try.prog w = .ok (.enter g args) w) (p : List Ed → Bool) (A : Option Addr) (c : Nat) (G : List (List Ed)) (w : World)
    (hp : ∀ (W : World) (Ap : Option Addr) (cp : Nat) (es : List Ed), es ∈ G → EdR W W.heap.size Ap es → Below w.heap.size w W → Calls Try.prog g (#[.slice Ap es.length cp] ++ lb) W fun e w' => e = .returned (.bool (p es)) ∧ Below W.heap.size W w')
    (hR : GrR w w.heap.size A G) (hd : G.length ≤ 1000000) :
    Calls Try.prog 95 #[.slice A G.length c, .func (.func g) #[] lb] w fun e w' => e = .returned (.bool (G.any p)) ∧ Below w.heap.size w w' := by
  have hcall := indexGr_any g lb eg p A c G w hp hR hd
  clear hp hR
  go_enter Try.func95, Try.ntmps95
  go_wp2_with (go_at_call 108; refine hcall.mono ?_; rintro e w2 ⟨r, rfl, hr, hb⟩; have HR := Lib.hid hr; clear hr)
  go_ret
  exact ⟨ret_bool HR.out, hb⟩
def farE (nP : Nat) (es : List Ed) : Bool := es.any fun e => !wi e.to 0 ((nP : Int) - 1)
def badE (nP : Nat) (es : List Ed) : Bool := decide (100 < es.length) || farE nP es
def whB (nP : Nat) (G : List (List Ed)) (nD : Nat) : Bool := wi nP 1 300 && decide (G.length = nP) && decide (nD = nP) && !G.any (badE nP)
set_option maxHeartbeats 2000000 in
/-- isWrong -/
theorem whole2_any (es : List Ed) (Ap AP : Option Addr) (cp nP cP f g : Nat) (w : World) (hR : EdR w w.heap.size Ap es) (hl : es.length ≤ maxLen) (h1 : w.cell? ⟨f, 0, none⟩ = some (.func (.func 91) #[] #[.pointer (some ⟨g, 0, none⟩)])) (hg : g < w.heap.size) (h0 : w.cell? ⟨g, 0, none⟩ = some (.slice AP nP cP)) (hP : nP ≤ maxLen) :
    Calls Try.prog 93 #[.slice Ap es.length cp, .pointer (some ⟨f, 0, none⟩)] w fun r w' => r = .returned (.bool (badE nP es)) ∧ Below w.heap.size w w' := by
  unfold maxLen at hl
  by_cases hlt : 100 < es.length
  · have HB := Lib.hid (show badE nP es = true by rw [badE, decide_eq_true hlt]; rfl)
    have q1 : decide ((100 : Int) < (es.length : Int)) = true := decide_eq_true (by omega)
    have q2 : decide (100 < es.length) = true := decide_eq_true hlt
    clear hR h0
    go_enter Try.func93, Try.ntmps93
    go_wp2_with fail
    go_ret
    exact ⟨ret_bool HB.out.symm, Below.refl _ _⟩
  · have HB := Lib.hid (show badE nP es = farE nP es by rw [badE, decide_eq_false hlt]; rfl)
    have q1 : decide ((100 : Int) < (es.length : Int)) = false := decide_eq_false (by omega)
    have q2 : decide (100 < es.length) = false := decide_eq_false hlt
    have hcall := hasEd_any 91 #[.pointer (some ⟨g, 0, none⟩)] (fun args w => enters_of Try.func91 (by kernel_rfl) rfl args w) (fun e => !wi e.to 0 ((nP : Int) - 1)) Ap cp es w (fun W x hW => whole1_any x AP nP cP g W (Nat.lt_of_lt_of_le hg hW.size) ((hW.cell (p := ⟨g, 0, none⟩) hg).trans h0) hP) hR (by omega)
    clear hR h0 hP
    go_enter Try.func93, Try.ntmps93
    go_wp2_with (go_at_call 94; refine hcall.mono ?_; rintro e w2 ⟨rfl, hb⟩)
    go_ret
    exact ⟨ret_bool HB.out.symm, hb⟩
set_option maxRecDepth 100000 in
set_option maxHeartbeats 4000000 in
theorem isWhole_any (AP AE AD : Option Addr) (nP cP cE cD : Nat) (G : List (List Ed)) (D : List Int) (w : World) (hm : MdR w AE AD G D) (hP : nP ≤ maxLen) (hlE : G.length ≤ maxLen) (_hlD : D.length ≤ maxLen) (hle : ∀ es ∈ G, es.length ≤ maxLen) :
    Calls Try.prog 70 #[mdlV (.slice AP nP cP) AE AD G.length cE D.length cD] w fun e w' => e = .returned (.bool (whB nP G D.length)) ∧ Below w.heap.size w w' := by
  obtain ⟨w1, hw1, hs1, y0, hb1⟩ := one_box w (.cells #[.slice AP nP cP, .slice AE G.length cE, .slice AD D.length cD] 64)
  obtain ⟨w2, hw2, hs2, y2, hb2⟩ := one_box w1 (.cells #[.func (.func 91) #[] #[.pointer (some ⟨w.heap.size, 0, none⟩)]] 120)
  have s0 : w.heap.size < w1.heap.size := by omega
  have a0 : w1.cell? ⟨w.heap.size, 0, none⟩ = some (.slice AP nP cP) := cell_of_row w1 _ 0 _ _ _ y0
  have b0 : w2.cell? ⟨w.heap.size, 0, none⟩ = some (.slice AP nP cP) := (hb2.cell (p := ⟨w.heap.size, 0, none⟩) s0).trans a0
  have b1 : w2.cell? ⟨w.heap.size, 1, none⟩ = some (.slice AE G.length cE) := (hb2.cell (p := ⟨w.heap.size, 1, none⟩) s0).trans (cell_of_row w1 _ 1 _ _ _ y0)
  have b2 : w2.cell? ⟨w.heap.size, 2, none⟩ = some (.slice AD D.length cD) := (hb2.cell (p := ⟨w.heap.size, 2, none⟩) s0).trans (cell_of_row w1 _ 2 _ _ _ y0)
  have f0 : w2.cell? ⟨w1.heap.size, 0, none⟩ = some (.func (.func 91) #[] #[.pointer (some ⟨w.heap.size, 0, none⟩)]) := cell_of_row w2 _ 0 _ _ _ y2
  have hm2 := (hm.call hb1).call hb2
  have s1 : w1.heap.size < w2.heap.size := by omega
  have hB2 := hb1.trans (hb2.mono hb1.size)
  have hwi : ∀ V, Calls Try.prog 55 #[I nP, I 1, I 300] V fun e w' => e = .returned (.bool (wi nP 1 300)) ∧ V = w' := fun V => within_any _ _ _ _
  have hP' := hP
  unfold maxLen at hlE hP'
  have hgr : wi nP 1 300 = true → G.length = nP → ∀ V, Below w2.heap.size w2 V → Calls Try.prog 95 #[.slice AE G.length cE, .func (.func 93) #[] #[.pointer (some ⟨w1.heap.size, 0, none⟩)]] V fun e w' => e = .returned (.bool (G.any (badE nP))) ∧ Below V.heap.size V w' := fun q1 q2 V hV => by
    have hn : nP ≤ 300 := by have : (1 : Int) ≤ nP ∧ (nP : Int) ≤ 300 := by simpa [wi] using q1
                             omega
    exact hasGr_any 93 #[.pointer (some ⟨w1.heap.size, 0, none⟩)] (fun args w => enters_of Try.func93 (by kernel_rfl) rfl args w) (badE nP) AE cE G V (fun W Ap cp es hes hR hW => by
      have hW2 : Below w2.heap.size w2 W := hV.trans (hW.mono hV.size)
      exact whole2_any es Ap AP cp nP cP w1.heap.size w.heap.size W hR (hle es hes) ((hW2.cell (p := ⟨w1.heap.size, 0, none⟩) s1).trans f0) (Nat.lt_of_lt_of_le (by omega) hW2.size) ((hW2.cell (p := ⟨w.heap.size, 0, none⟩) (show w.heap.size < w2.heap.size by omega)).trans b0) hP) (hm2.call hV).g (by omega)
  have W1 := hw1
  have W2 := hw2
  clear hm hm2 f0 y0 y2 hw1 hw2 hb1 hb2 hle
  go_enter Try.func70, Try.ntmps70
  go_upto_region 1 with fail
  rw [← W1]
  clear W1
  go_upto_region 4 with fail
  rw [← W2]
  clear W2
  have HB := Lib.hid hB2
  have HG := Lib.hid hgr
  clear hB2 hgr
  cases q1 : wi nP 1 300 with
  | false =>
    have HQ := Lib.hid (show whB nP G D.length = false by rw [whB, q1]; rfl)
    rw [q1] at hwi
    clear q1
    go_wp2_with (go_at_call 55; refine (hwi _).mono ?_; rintro e w' ⟨rfl, rfl⟩)
    go_ret
    exact ⟨ret_bool HQ.out.symm, HB.out⟩
  | true =>
    have Q1 := Lib.hid q1
    rw [q1] at hwi
    clear q1
    by_cases q2 : G.length = nP
    · have HG2 := Lib.hid (HG.out Q1.out q2 _ (Below.refl _ _))
      have d1 : decide ((G.length : Int) = (nP : Int)) = true := decide_eq_true (by omega)
      have d2 : decide (G.length = nP) = true := decide_eq_true q2
      have d3 : ((G.length : Int) == (nP : Int)) = true := by simp; omega
      have Q2 := Lib.hid q2
      clear q2
      by_cases q3 : D.length = nP
      · have e1 : decide ((D.length : Int) = (nP : Int)) = true := decide_eq_true (by omega)
        have e2 : decide (D.length = nP) = true := decide_eq_true q3
        have e3 : ((D.length : Int) == (nP : Int)) = true := by simp; omega
        have HQ := Lib.hid (show whB nP G D.length = !G.any (badE nP) by rw [whB, Q1.out, decide_eq_true Q2.out, decide_eq_true q3]; simp)
        clear q3
        have hgx := HG2.out
        rw [hs1] at hgx
        go_wp2_with (first
          | (go_at_call 55; refine (hwi _).mono ?_; rintro e w' ⟨rfl, rfl⟩)
          | (go_at_call 95; refine hgx.mono ?_; rintro e w' ⟨rfl, hb3⟩))
        go_ret
        exact ⟨ret_bool HQ.out.symm, HB.out.trans (hb3.mono HB.out.size)⟩
      · have e1 : decide ((D.length : Int) = (nP : Int)) = false := decide_eq_false (by omega)
        have e2 : decide (D.length = nP) = false := decide_eq_false q3
        have e3 : ((D.length : Int) == (nP : Int)) = false := by simp; omega
        have HQ := Lib.hid (show whB nP G D.length = false by rw [whB, decide_eq_false q3]; simp)
        clear q3
        go_wp2_with (go_at_call 55; refine (hwi _).mono ?_; rintro e w' ⟨rfl, rfl⟩)
        go_ret
        exact ⟨ret_bool HQ.out.symm, HB.out⟩
    · have d1 : decide ((G.length : Int) = (nP : Int)) = false := decide_eq_false (by omega)
      have d2 : decide (G.length = nP) = false := decide_eq_false q2
      have d3 : ((G.length : Int) == (nP : Int)) = false := by simp; omega
      have HQ := Lib.hid (show whB nP G D.length = false by rw [whB, decide_eq_false q2]; simp)
      clear q2
      go_wp2_with (go_at_call 55; refine (hwi _).mono ?_; rintro e w' ⟨rfl, rfl⟩)
      go_ret
      exact ⟨ret_bool HQ.out.symm, HB.out⟩
end Go.Proofs.Ytehoaenkkmmobaa

/-
  LAYER 6, CONTRACT: next. (Written by gen/gen_srq.py.)
-/
import Derived.Test.YtehoaenkkmmobaaSrO
namespace Go.Proofs.Ytehoaenkkmmobaa
open Go.RowKit Go.Shelf
/-- what is left of the way back, at any offset of a row -/
def BackR (w : World) (base : Nat) (v : Value) (L : List Nat) : Prop := (L = [] ∧ ∃ A c, v = .slice A 0 c) ∨ QRow w base v (numI L)
theorem BackR.kept {w w' : World} {base : Nat} {v : Value} {L : List Nat} {row : Option Nat} (h : BackR w base v L) (hg : w.grownBy w' row) (hne : v.ownBlock = none ∨ v.ownBlock ≠ row ∨ L = []) : BackR w' base v L := by
  rcases h with h | h
  · exact .inl h
  · rcases hne with e | e | rfl
    · obtain ⟨g, off, c, cur, rfl, -⟩ := h
      simp [Value.ownBlock] at e
    · exact .inr (h.kept hg e)
    · obtain ⟨g, off, c, cur, rfl, -⟩ := h
      exact .inl ⟨rfl, _, _, rfl⟩
theorem BackR.upd {w w' : World} {base : Nat} {v : Value} {L : List Nat} {ex : Nat → Prop} (h : BackR w base v L) (hg : Upd ex w w') (hne : ∀ k, v.ownBlock = some k → ¬ ex k) : BackR w' base v L := by
  rcases h with h | ⟨g, off, c, cur, rfl, h1, h2, h3, h4⟩
  · exact .inl h
  · exact .inr ⟨g, off, c, cur, rfl, h1, h2, (hg.block g (Array.getElem?_eq_some_iff.1 h3).1 (hne g (by simp [Value.ownBlock]))).trans h3, h4⟩
theorem BackR.ne_pl {w : World} {base P : Nat} {v : Value} {L : List Nat} {cs : Array Value} (h : QRow w base v (numI L)) (h2 : PlAt w P cs) : v.ownBlock ≠ some P := by
  obtain ⟨g, off, c, cur, rfl, -, -, h3, -⟩ := h
  intro e
  simp [Value.ownBlock] at e
  subst e
  rw [PlAt, h3] at h2
  injection h2 with h2
  injection h2 with _ h2
  exact absurd h2 (by decide)
theorem BackR.of_own {w : World} {base : Nat} {v : Value} {L : List Nat} (h : OwnI w base v (numI L)) : BackR w base v L := by
  have hi := own_ints h
  rcases h.2 with ⟨rfl, h0⟩ | ⟨g, cap, cur, rfl, hb, hg, h1, h2, h3, h4⟩
  · rw [numI_length] at h0
    exact .inl ⟨List.eq_nil_of_length_eq_zero h0, none, 0, rfl⟩
  · refine .inr ⟨g, 0, cap, cur, rfl, h2, hb, hg, by omega, h1, fun j hj => ?_⟩
    obtain ⟨A, c, e, hx, -⟩ := hi
    injection e with e
    subst e
    obtain ⟨ad, e, -, hc⟩ := hx.at_ hj
    injection e with e
    subst e
    rw [Addr.add_mid, cell_of_row w g _ cur _ _ hg] at hc
    exact hc
theorem BackR.mono {w : World} {base base' : Nat} {v : Value} {L : List Nat} (h : BackR w base v L) (hb : base' ≤ base) : BackR w base' v L := by
  rcases h with h | ⟨g, off, c, cur, e, h1, h2, h3⟩
  · exact .inl h
  · exact .inr ⟨g, off, c, cur, e, h1, Nat.le_trans hb h2, h3⟩
theorem BackR.updP {w w' : World} {base P : Nat} {v : Value} {L : List Nat} {cs : Array Value} (h : BackR w base v L) (hp : PlAt w P cs) (hg : Upd (fun k => k = P) w w') : BackR w' base v L := by
  rcases h with h | h
  · exact .inl h
  · exact BackR.upd (.inr h) hg (fun k hk e => BackR.ne_pl h hp (by rw [hk, e]))
theorem BackR.len {w : World} {base : Nat} {v : Value} {L : List Nat} (h : BackR w base v L) : ∃ A c, v = .slice A L.length c := by
  rcases h with ⟨rfl, A, c, rfl⟩ | ⟨g, off, c, cur, rfl, -⟩
  · exact ⟨A, c, rfl⟩
  · exact ⟨_, _, by rw [numI_length]⟩
theorem BackR.cons {w : World} {base : Nat} {v : Value} {x : Nat} {t : List Nat} (h : BackR w base v (x :: t)) : ∃ g off c, v = .slice (some ⟨g, off, none⟩) (t.length + 1) c ∧ t.length + 1 ≤ c ∧ base ≤ g ∧ g < w.heap.size ∧ w.cell? ⟨g, off, none⟩ = some (I x) ∧ BackR w base (.slice (some ⟨g, off + 1, none⟩) t.length (c - 1)) t := by
  rcases h with ⟨h, -⟩ | ⟨g, off, c, cur, rfl, h1, h2, h3, h4, h5, h6⟩
  · cases h
  · rw [numI_length, List.length_cons] at h5 h6
    have e0 := h6 0 (by omega)
    have hn0 : nth (numI (x :: t)) 0 = (x : Nat) := numI_nth (l := x :: t) (k := 0) (by simp)
    rw [hn0] at e0
    refine ⟨g, off, c, by rw [numI_length, List.length_cons], h5, h2, (Array.getElem?_eq_some_iff.1 h3).1, (cell_of_row w g off cur _ _ h3).trans e0, .inr ⟨g, off + 1, c - 1, cur, by rw [numI_length], by omega, h2, h3, by omega, by rw [numI_length]; omega, fun j hj => ?_⟩⟩
    rw [numI_length] at hj
    have e1 := h6 (j + 1) (by omega)
    have hn1 : nth (numI (x :: t)) (j + 1) = nth (numI t) j := by
      rw [numI_nth (l := x :: t) (k := j + 1) (by simpa using hj), numI_nth hj]
      simp
    rw [hn1] at e1
    rw [← e1]
    congr 1
    omega
/-- where the way back's row comes from -/
structure Fr (N : Nat) (vB vB' : Value) (b b' : List Nat) : Prop where
  out : ∀ k, vB'.ownBlock = some k → b' = [] ∨ N ≤ k ∨ (vB.ownBlock = some k ∧ b ≠ [])
theorem Fr.same (N : Nat) (v : Value) (b : List Nat) : Fr N v v b b := ⟨fun k h => by
  cases b with
  | nil => exact .inl rfl
  | cons x t => exact .inr (.inr ⟨h, by simp⟩)⟩
theorem Fr.done (N : Nat) (v v' : Value) (b : List Nat) : Fr N v v' b [] := ⟨fun _ _ => .inl rfl⟩
theorem Fr.pop {N : Nat} {v v' : Value} {x : Nat} {t t' : List Nat} (h : v'.ownBlock = v.ownBlock) : Fr N v v' (x :: t) t' := ⟨fun _ h' => .inr (.inr ⟨by rw [← h]; exact h', by simp⟩)⟩
theorem Fr.fresh {N : Nat} {v v' : Value} {b b' : List Nat} (h : ∀ k, v'.ownBlock = some k → N ≤ k) : Fr N v v' b b' := ⟨fun k h' => .inr (.inl (h k h'))⟩
theorem plC_set8 (vP : Value) (AE AD : Option Addr) (nE cE nD cD : Nat) (mo tu : Int) (at_ : Nat) (vL : Value) (B : Nat) (vB : Value) (lost : Bool) (vT u : Value) : (plC vP AE AD nE cE nD cD mo tu at_ vL B vB lost vT).setIfInBounds 8 u = plC vP AE AD nE cE nD cD mo tu at_ vL B u lost vT := rfl
theorem plC_set9 (vP : Value) (AE AD : Option Addr) (nE cE nD cD : Nat) (mo tu : Int) (at_ : Nat) (vL : Value) (B : Nat) (vB : Value) (lost : Bool) (vT : Value) (u : Bool) : (plC vP AE AD nE cE nD cD mo tu at_ vL B vB lost vT).setIfInBounds 9 (.bool u) = plC vP AE AD nE cE nD cD mo tu at_ vL B vB u vT := rfl
theorem untr_mem {E : Nat → List Nat} {t p : Nat} {mem : List Lk} (h : untr E t mem p = none) (hp : 0 < (E p).length) : ∃ q ∈ mem, q.1 = p := by
  rw [untr, List.find?_eq_none] at h
  have := h (t % (E p).length) (by
    rw [ord, List.mem_map]
    exact ⟨0, List.mem_range.2 hp, by simp⟩)
  simp at this
  exact ⟨_, this, rfl⟩

theorem grown_below_none {w w' : World} (h : w.grownBy w' none) : Below w.heap.size w w' := ⟨h.os, h.tape, h.output, h.size, fun k hk => h.block k hk (by simp)⟩
set_option maxRecDepth 100000 in
set_option maxHeartbeats 4000000 in
theorem next_any (base P nP cP : Nat) (AP AE AD : Option Addr) (cE cD : Nat) (mo : Int) (tu at_ : Nat) (vL vB vT : Value) (lost : Bool) (B n : Nat) (G : List (List Ed)) (D : List Int) (mem : List Lk) (back trail : List Nat) (w : World)
    (hP : PlAt w P (plC (.slice AP nP cP) AE AD G.length cE D.length cD mo tu at_ vL B vB lost vT)) (hm : MdR w AE AD G D) (hv : Vld G D) (hL : LRow w base vL mem) (hl : LnkR w B n mem) (hB : BackR w base vB back) (hat : at_ < G.length) (ht : tu ≤ 99) (hne : 0 < (eOf G at_).length) (hml : mem.length ≤ 300) (hbw : base ≤ w.heap.size) :
    Calls Try.prog 82 #[.pointer (some ⟨P, 0, none⟩)] w fun e w' => ∃ vB', e = .returned (I (nxtP (eOf G) G.length tu ⟨at_, mem, back, lost, trail⟩).1) ∧ PlAt w' P (plC (.slice AP nP cP) AE AD G.length cE D.length cD mo tu at_ vL B vB' (nxtP (eOf G) G.length tu ⟨at_, mem, back, lost, trail⟩).2.2 vT) ∧ BackR w' base vB' (nxtP (eOf G) G.length tu ⟨at_, mem, back, lost, trail⟩).2.1 ∧ Upd (fun k => k = P) w w' ∧ Fr w.heap.size vB vB' back (nxtP (eOf G) G.length tu ⟨at_, mem, back, lost, trail⟩).2.1 := by
  have hu := untried_any P (.slice AP nP cP) AE AD cE cD mo tu at_ vL vB vT lost B n G D mem at_ w hP hm hv hl hat ht
  have p5 : w.cell? ⟨P, 5, none⟩ = some (I at_) := cell_of_row w P 5 _ _ _ hP
  cases hq : untr (eOf G) tu mem at_ with
  | some e =>
    have HN := Lib.hid (show nxtP (eOf G) G.length tu ⟨at_, mem, back, lost, trail⟩ = (e, back, lost) by simp only [nxtP, hq])
    rw [hq] at hu
    have PX := Lib.hid hP
    have BX := Lib.hid hB
    clear hP hm hv hL hl hB hq
    go_enter Try.func82, Try.ntmps82
    go_wp2_with (go_at_call 102; refine hu.mono ?_; rintro e' wu ⟨rfl, hwu⟩; rw [hwu]; clear hwu)
    go_ret
    rw [HN.out]
    exact ⟨vB, rfl, PX.out, BX.out, Upd.refl _ _, Fr.same _ _ _⟩
  | none =>
    have hmem := untr_mem hq hne
    rw [hq] at hu
    have p9 : w.cell? ⟨P, 9, none⟩ = some (.bool lost) := cell_of_row w P 9 _ _ _ hP
    have f8 : w.frozen? ⟨P, 8, none⟩ = false := frozen_of_row hP 8
    have sPw := row_lt' hP
    cases lost with
    | true =>
      have HN := Lib.hid (show nxtP (eOf G) G.length tu ⟨at_, mem, back, true, trail⟩ = (firM mem at_, back, true) by simp [nxtP, hq])
      obtain ⟨A, c, e8⟩ := hB.len
      subst e8
      have p8 : w.cell? ⟨P, 8, none⟩ = some (.slice A back.length c) := cell_of_row w P 8 _ _ _ hP
      have plX := hP
      have brX := hB
      have lstX := hL
      have updX := Upd.refl (fun k => k = P) w
      have ownX := True.intro
      clear hP hm hL hl hB hq
      cases back with
      | nil =>
        have sX := row_lt' plX
        have p5 : w.cell? ⟨P, 5, none⟩ = some (I at_) := cell_of_row w P 5 _ _ _ plX
        have p9 : w.cell? ⟨P, 9, none⟩ = some (.bool true) := cell_of_row w P 9 _ _ _ plX
        have hF : ∀ V, KeptW w V → Calls Try.prog 104 #[.pointer (some ⟨P, 6, none⟩), I at_] V fun e w' => e = .returned (I (firM mem at_)) ∧ Below V.heap.size V w' := fun V hV => by
          refine (memFirst_any base P (.slice AP nP cP) AE AD G.length cE D.length cD mo tu at_ vL (.slice A ([] : List Nat).length c) vT true B mem at_ V ((hV.1.block P sX).trans plX) (lstX.call hV.1) hml hmem).mono ?_
          rintro e w' ⟨rfl, hg⟩
          exact ⟨rfl, grown_below_none hg⟩
        have PX := Lib.hid plX
        have BX := Lib.hid brX
        have UX := Lib.hid updX
        have OX := Lib.hid ownX
        clear plX brX updX ownX lstX
        go_enter Try.func82, Try.ntmps82
        go_upto_region 8 with (go_at_call 102; refine hu.mono ?_; rintro e' wu ⟨rfl, hwu⟩; rw [hwu]; clear hwu)
        go_region_held3 (fun w' => Below w.heap.size w w' ∧ (∀ a : Addr, a.block < w.heap.size → w'.cell? a = w.cell? a))
          (first | exact keptW_drew _ | exact keptW_call (by assumption) hb | assumption)
          ((go_at_call 104; go_must (refine (hF _ (by assumption)).mono ?_); rintro e w' ⟨rfl, hb⟩))
        all_goals
          clear hF p5 p9
          go_wp2_with fail
          go_ret
          have hK := keptW_below (by assumption)
          rw [HN.out]
          exact ⟨_, rfl, (hK.block P sX).trans PX.out, BX.out.updP PX.out (.of_below hK), UX.out.trans (.of_below hK), Fr.same _ _ _⟩
      | cons x t =>
        have sX := row_lt' plX
        have p5 : w.cell? ⟨P, 5, none⟩ = some (I at_) := cell_of_row w P 5 _ _ _ plX
        have p9 : w.cell? ⟨P, 9, none⟩ = some (.bool true) := cell_of_row w P 9 _ _ _ plX
        have hF : ∀ V, KeptW w V → Calls Try.prog 104 #[.pointer (some ⟨P, 6, none⟩), I at_] V fun e w' => e = .returned (I (firM mem at_)) ∧ Below V.heap.size V w' := fun V hV => by
          refine (memFirst_any base P (.slice AP nP cP) AE AD G.length cE D.length cD mo tu at_ vL (.slice A (x :: t).length c) vT true B mem at_ V ((hV.1.block P sX).trans plX) (lstX.call hV.1) hml hmem).mono ?_
          rintro e w' ⟨rfl, hg⟩
          exact ⟨rfl, grown_below_none hg⟩
        have PX := Lib.hid plX
        have BX := Lib.hid brX
        have UX := Lib.hid updX
        have OX := Lib.hid ownX
        clear plX brX updX ownX lstX
        go_enter Try.func82, Try.ntmps82
        go_upto_region 8 with (go_at_call 102; refine hu.mono ?_; rintro e' wu ⟨rfl, hwu⟩; rw [hwu]; clear hwu)
        go_region_held3 (fun w' => Below w.heap.size w w' ∧ (∀ a : Addr, a.block < w.heap.size → w'.cell? a = w.cell? a))
          (first | exact keptW_drew _ | exact keptW_call (by assumption) hb | assumption)
          ((go_at_call 104; go_must (refine (hF _ (by assumption)).mono ?_); rintro e w' ⟨rfl, hb⟩))
        all_goals
          clear hF p5 p9
          go_wp2_with fail
          go_ret
          have hK := keptW_below (by assumption)
          rw [HN.out]
          exact ⟨_, rfl, (hK.block P sX).trans PX.out, BX.out.updP PX.out (.of_below hK), UX.out.trans (.of_below hK), Fr.same _ _ _⟩
    | false =>
      cases back with
      | cons x t =>
        have HN := Lib.hid (show nxtP (eOf G) G.length tu ⟨at_, mem, x :: t, false, trail⟩ = (x, t, false) by simp [nxtP, hq])
        have plX := hP
        have brX := hB
        have updX := Upd.refl (fun k => k = P) w
        have hvB := fun k (h : vB.ownBlock = some k) => h
        clear hm hl hq hL hP hB
        obtain ⟨g, off, c, e8, hct, -, hgl, q0, brT⟩ := brX.cons
        subst e8
        have p8 : w.cell? ⟨P, 8, none⟩ = some (.slice (some ⟨g, off, none⟩) (t.length + 1) c) := cell_of_row w P 8 _ _ _ plX
        have PX := Lib.hid plX
        have BT := Lib.hid brT
        clear plX brX brT updX hvB
        go_enter Try.func82, Try.ntmps82
        go_wp2_with (go_at_call 102; refine hu.mono ?_; rintro e' wu ⟨rfl, hwu⟩; rw [hwu]; clear hwu)
        · go_ret
          have pl := row_set PX.out 8 (.slice (some ⟨g, off, none⟩) t.length 0)
          rw [plC_set8] at pl
          obtain rfl : t = [] := by
            cases t with
            | nil => rfl
            | cons a b => rw [List.length_cons] at hct; omega
          rw [HN.out]
          exact ⟨rfl, _, pl, .inl ⟨rfl, _, _, rfl⟩, (Upd.refl _ _).of_grown (grown_setCell _ _ _) (fun k e _ => by injection e with e; exact e.symm), Fr.pop rfl⟩
        · go_ret
          have pl := row_set PX.out 8 (.slice (some ⟨g, off + 1, none⟩) t.length (c - 1))
          rw [plC_set8] at pl
          have hU : Upd (fun k => k = P) w (w.setCell ⟨P, 8, none⟩ (.slice (some ⟨g, off + 1, none⟩) t.length (c - 1))) := (Upd.refl _ _).of_grown (grown_setCell _ _ _) (fun k e _ => by injection e with e; exact e.symm)
          rw [HN.out]
          exact ⟨rfl, _, pl, BT.out.updP PX.out hU, hU, Fr.pop rfl⟩
      | nil =>
        obtain ⟨A, c, e8⟩ := hB.len
        subst e8
        have p8 : w.cell? ⟨P, 8, none⟩ = some (.slice A ([] : List Nat).length c) := cell_of_row w P 8 _ _ _ hP
        have hwb := wayBack_any P nP cP AP AE AD cE cD mo tu at_ vL (.slice A ([] : List Nat).length c) vT false B n G D mem w hP hm hv hl hat ht
        have HP := Lib.hid hP
        have HL := Lib.hid hL
        cases hLW : wayB (eOf G) G.length tu mem at_ with
        | nil =>
          have HN := Lib.hid (show nxtP (eOf G) G.length tu ⟨at_, mem, [], false, trail⟩ = (firM mem at_, [], true) by simp [nxtP, hq, hLW])
          rw [hLW] at hwb
          clear hP hm hL hl hB hq hLW
          go_enter Try.func82, Try.ntmps82
          go_upto_region 7 with (first
            | (go_at_call 102; refine hu.mono ?_; rintro e' wu ⟨rfl, hwu⟩; rw [hwu]; clear hwu)
            | (go_at_call 103; refine hwb.mono ?_; rintro e' w2 ⟨v2, rfl, hO2, hb2⟩; obtain ⟨A2, c2, e2, -⟩ := own_ints hO2; have e3 : v2 = .slice A2 0 c2 := e2; subst e3; clear e2; have pl2 : PlAt w2 P _ := (hb2.block P sPw).trans HP.out; have p8 : w2.cell? ⟨P, 8, none⟩ = some (.slice A ([] : List Nat).length c) := cell_of_row w2 P 8 _ _ _ pl2; have f8 : w2.frozen? ⟨P, 8, none⟩ = false := frozen_of_row pl2 8; have p9 : w2.cell? ⟨P, 9, none⟩ = some (.bool false) := cell_of_row w2 P 9 _ _ _ pl2; have f9 : w2.frozen? ⟨P, 9, none⟩ = false := frozen_of_row pl2 9; have s2P := row_lt' pl2))
          obtain ⟨X, hX⟩ : ∃ X, X = (w2.setCell ⟨P, 8, none⟩ (.slice A2 0 c2)).setCell ⟨P, 9, none⟩ (.bool true) := ⟨_, rfl⟩
          rw [← hX]
          have plX : PlAt X P (plC (.slice AP nP cP) AE AD G.length cE D.length cD mo tu at_ vL B (.slice A2 0 c2) true vT) := by
            have := row_set (row_set pl2 8 (.slice A2 0 c2)) 9 (.bool true)
            rw [plC_set8, plC_set9] at this
            rw [hX]; exact this
          have hU2 : Upd (fun k => k = P) w2 X := by
            rw [hX]
            exact ((Upd.refl _ _).of_grown (grown_setCell _ _ _) (fun k e _ => by injection e with e; exact e.symm)).of_grown (grown_setCell _ _ _) (fun k e _ => by injection e with e; exact e.symm)
          have updX := (Upd.of_below (ex := fun k => k = P) hb2).trans hU2
          have hL2 := HL.out.call hb2
          have hne2 := hL2.ne_pl pl2
          have lstX : LRow X base vL mem := by
            rw [hX]
            exact (hL2.kept (grown_setCell _ _ _) (.inr hne2)).kept (grown_setCell _ _ _) (.inr hne2)
          have brX : BackR X base (.slice A2 0 c2) [] := .inl ⟨rfl, _, _, rfl⟩
          have ownX := True.intro
          clear hU2 hL2 hne2 hX pl2 p8 f8 p9 f9 s2P hO2 hb2 p5
          have sX := row_lt' plX
          have p5 : X.cell? ⟨P, 5, none⟩ = some (I at_) := cell_of_row X P 5 _ _ _ plX
          have p9 : X.cell? ⟨P, 9, none⟩ = some (.bool true) := cell_of_row X P 9 _ _ _ plX
          have hF : ∀ V, KeptW X V → Calls Try.prog 104 #[.pointer (some ⟨P, 6, none⟩), I at_] V fun e w' => e = .returned (I (firM mem at_)) ∧ Below V.heap.size V w' := fun V hV => by
            refine (memFirst_any base P (.slice AP nP cP) AE AD G.length cE D.length cD mo tu at_ vL (.slice A2 0 c2) vT true B mem at_ V ((hV.1.block P sX).trans plX) (lstX.call hV.1) hml hmem).mono ?_
            rintro e w' ⟨rfl, hg⟩
            exact ⟨rfl, grown_below_none hg⟩
          have PX := Lib.hid plX
          have BX := Lib.hid brX
          have UX := Lib.hid updX
          have OX := Lib.hid ownX
          clear plX brX updX ownX lstX
          go_upto_region 8 with fail
          go_region_held3 (fun w' => Below X.heap.size X w' ∧ (∀ a : Addr, a.block < X.heap.size → w'.cell? a = X.cell? a))
            (first | exact keptW_drew _ | exact keptW_call (by assumption) hb | assumption)
            ((go_at_call 104; go_must (refine (hF _ (by assumption)).mono ?_); rintro e w' ⟨rfl, hb⟩))
          all_goals
            clear hF p5 p9
            go_wp2_with fail
            go_ret
            have hK := keptW_below (by assumption)
            rw [HN.out]
            exact ⟨_, rfl, (hK.block P sX).trans PX.out, BX.out.updP PX.out (.of_below hK), UX.out.trans (.of_below hK), Fr.done _ _ _ _⟩
        | cons x t =>
          have HN := Lib.hid (show nxtP (eOf G) G.length tu ⟨at_, mem, [], false, trail⟩ = (x, t, false) by simp [nxtP, hq, hLW])
          rw [hLW] at hwb
          clear hP hm hL hl hB hq hLW
          go_enter Try.func82, Try.ntmps82
          go_upto_region 7 with (first
            | (go_at_call 102; refine hu.mono ?_; rintro e' wu ⟨rfl, hwu⟩; rw [hwu]; clear hwu)
            | (go_at_call 103; refine hwb.mono ?_; rintro e' w2 ⟨v2, rfl, hO2, hb2⟩; have br2 := BackR.of_own hO2; obtain ⟨g, off, c2, e3, hct, hbg, hgl, q0, brT⟩ := br2.cons; subst e3; have pl2 : PlAt w2 P _ := (hb2.block P sPw).trans HP.out; have p8 : w2.cell? ⟨P, 8, none⟩ = some (.slice A ([] : List Nat).length c) := cell_of_row w2 P 8 _ _ _ pl2; have f8 : w2.frozen? ⟨P, 8, none⟩ = false := frozen_of_row pl2 8; have p9 : w2.cell? ⟨P, 9, none⟩ = some (.bool false) := cell_of_row w2 P 9 _ _ _ pl2; have f9 : w2.frozen? ⟨P, 9, none⟩ = false := frozen_of_row pl2 9; have s2P := row_lt' pl2))
          have hz : ((t.length : Int) + 1 == 0) = false := by rw [beq_eq_false_iff_ne]; omega
          rw [hz]
          clear hz
          obtain ⟨X, hX⟩ : ∃ X, X = (w2.setCell ⟨P, 8, none⟩ (.slice (some ⟨g, off, none⟩) (t.length + 1) c2)).setCell ⟨P, 9, none⟩ (.bool false) := ⟨_, rfl⟩
          rw [← hX]
          have plX : PlAt X P (plC (.slice AP nP cP) AE AD G.length cE D.length cD mo tu at_ vL B (.slice (some ⟨g, off, none⟩) (t.length + 1) c2) false vT) := by
            have := row_set (row_set pl2 8 (.slice (some ⟨g, off, none⟩) (t.length + 1) c2)) 9 (.bool false)
            rw [plC_set8, plC_set9] at this
            rw [hX]; exact this
          have hU2 : Upd (fun k => k = P) w2 X := by
            rw [hX]
            exact ((Upd.refl _ _).of_grown (grown_setCell _ _ _) (fun k e _ => by injection e with e; exact e.symm)).of_grown (grown_setCell _ _ _) (fun k e _ => by injection e with e; exact e.symm)
          have UX := Lib.hid ((Upd.of_below (ex := fun k => k = P) hb2).trans hU2)
          have brX := br2.updP pl2 hU2
          have BT := Lib.hid ((brT.updP pl2 hU2).mono hbw)
          obtain ⟨g', off', c', e3, -, -, hgX, qX, -⟩ := brX.cons
          injection e3 with e3 _ e4
          injection e3 with e3
          injection e3 with e5 e6 _
          subst e4 e5 e6
          have p8X : X.cell? ⟨P, 8, none⟩ = some (.slice (some ⟨g, off, none⟩) (t.length + 1) c2) := cell_of_row X P 8 _ _ _ plX
          have p9X : X.cell? ⟨P, 9, none⟩ = some (.bool false) := cell_of_row X P 9 _ _ _ plX
          have f8X : X.frozen? ⟨P, 8, none⟩ = false := frozen_of_row plX 8
          have PX := Lib.hid plX
          have sXP := row_lt' plX
          clear hU2 hX pl2 p8 f8 p9 f9 s2P hO2 hb2 p5 br2 brT brX plX q0 hgl
          go_wp2_with fail
          · go_ret
            have pl := row_set PX.out 8 (.slice (some ⟨g, off, none⟩) t.length 0)
            rw [plC_set8] at pl
            obtain rfl : t = [] := by
              cases t with
              | nil => rfl
              | cons a b => rw [List.length_cons] at hct; omega
            rw [HN.out]
            first | exact ⟨_, rfl, pl, .inl ⟨rfl, _, _, rfl⟩, UX.out.trans ((Upd.refl _ _).of_grown (grown_setCell _ _ _) (fun k e _ => by injection e with e; exact e.symm)), Fr.done _ _ _ _⟩ | exact ⟨rfl, _, pl, .inl ⟨rfl, _, _, rfl⟩, UX.out.trans ((Upd.refl _ _).of_grown (grown_setCell _ _ _) (fun k e _ => by injection e with e; exact e.symm)), Fr.done _ _ _ _⟩
          · go_ret
            have pl := row_set PX.out 8 (.slice (some ⟨g, off + 1, none⟩) t.length (c2 - 1))
            rw [plC_set8] at pl
            have hU : Upd (fun k => k = P) X (X.setCell ⟨P, 8, none⟩ (.slice (some ⟨g, off + 1, none⟩) t.length (c2 - 1))) := (Upd.refl _ _).of_grown (grown_setCell _ _ _) (fun k e _ => by injection e with e; exact e.symm)
            rw [HN.out]
            first | exact ⟨_, rfl, pl, BT.out.updP PX.out hU, UX.out.trans hU, Fr.fresh (fun k h => by simp [Value.ownBlock] at h; omega)⟩ | exact ⟨rfl, _, pl, BT.out.updP PX.out hU, UX.out.trans hU, Fr.fresh (fun k h => by simp [Value.ownBlock] at h; omega)⟩
end Go.Proofs.Ytehoaenkkmmobaa

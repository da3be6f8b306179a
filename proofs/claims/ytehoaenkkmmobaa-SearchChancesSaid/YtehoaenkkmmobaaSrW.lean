/-
  LAYER 6, CONTRACT: search.
-/
import Derived.Test.YtehoaenkkmmobaaSrV
namespace Go.Proofs.Ytehoaenkkmmobaa
open Go.RowKit Go.Shelf
theorem LRow.updP {w w' : World} {base P : Nat} {v : Value} {zs : List Lk} {cs : Array Value} (h : LRow w base v zs) (hp : PlAt w P cs) (hg : Upd (fun k => k = P) w w') : LRow w' base v zs := by
  rcases h with h | ⟨g, off, c, n, F, rfl, h1, h2, h3, h4⟩
  · exact .inl h
  · exact .inr ⟨g, off, c, n, F, rfl, h1, h2, (hg.block g h3.lt (fun e => hp.ne_link h3 e.symm)).trans h3, h4⟩
theorem LnkR.updP {w w' : World} {P B n : Nat} {mem : List Lk} {cs : Array Value} (h : LnkR w B n mem) (hp : PlAt w P cs) (hg : Upd (fun k => k = P) w w') : LnkR w' B n mem := by
  obtain ⟨f, h1, h2⟩ := h
  have hne := hp.ne_map h1
  have hlt := h1.lt
  obtain ⟨D, ⟨es, clock, h3, h4⟩, h5⟩ := h1
  exact ⟨f, ⟨D, ⟨es, clock, (hg.block B hlt (fun e => hne e.symm)).trans h3, h4⟩, h5⟩, h2⟩
theorem TrR.updP {w w' : World} {base P : Nat} {v : Value} {L : List Nat} {cs : Array Value} (h : TrR w base v L) (hp : PlAt w P cs) (hg : Upd (fun k => k = P) w w') : TrR w' base v L := by
  rcases h with h | h
  · exact .inl h
  · exact .inr (h.upd hg (fun k hk e => BackR.ne_pl h hp (by rw [hk, e])))
theorem TrR.blk {w : World} {base : Nat} {v : Value} {L : List Nat} (h : TrR w base v L) {k : Nat} (hk : v.ownBlock = some k) : k < w.heap.size := by
  rcases h with ⟨rfl, -⟩ | h
  · simp [Value.ownBlock] at hk
  · exact (h.block hk).2.1
/-- the way back and the trail lie apart, still -/
theorem Fr.apart {w : World} {base N : Nat} {vB vB' vT : Value} {b b' L : List Nat} (h : Fr N vB vB' b b') (ht : TrR w base vT L) (hN : w.heap.size ≤ N) (ha : vB.ownBlock = none ∨ vB.ownBlock ≠ vT.ownBlock ∨ b = []) : vB'.ownBlock = none ∨ vB'.ownBlock ≠ vT.ownBlock ∨ b' = [] := by
  cases hk : vB'.ownBlock with
  | none => exact .inl rfl
  | some k =>
    rcases h.out k hk with h1 | h1 | ⟨h1, h2⟩
    · exact .inr (.inr h1)
    · refine .inr (.inl fun e => ?_)
      have := ht.blk e.symm
      omega
    · rcases ha with e | e | e
      · rw [h1] at e; cases e
      · rw [h1] at e; exact .inr (.inl e)
      · exact absurd e h2
theorem runS_stay {E : Nat → List Nat} {n tu mo : Nat} {d : Nat → Int} {s : PSt} (h : stay E d s.at_ = true) : ∀ f, runS E n tu mo d f s = s := by
  intro f
  cases f with
  | zero => rfl
  | succ f => rw [runS, if_pos h]
theorem TrR.len {w : World} {base : Nat} {v : Value} {L : List Nat} (h : TrR w base v L) : ∃ A c, v = .slice A L.length c := by
  rcases h with ⟨rfl, rfl⟩ | ⟨g, off, c, cur, rfl, -⟩
  · exact ⟨_, _, rfl⟩
  · exact ⟨_, _, by rw [numI_length]⟩
theorem TrR.call {w w' : World} {base : Nat} {v : Value} {L : List Nat} (h : TrR w base v L) (hb : Below w.heap.size w w') : TrR w' base v L := by
  rcases h with h | ⟨g, off, c, cur, e, h1, h2, h3, h4⟩
  · exact .inl h
  · exact .inr ⟨g, off, c, cur, e, h1, h2, (hb.block g (Array.getElem?_eq_some_iff.1 h3).1).trans h3, h4⟩
set_option maxRecDepth 100000 in
set_option maxHeartbeats 4000000 in
theorem search_any (AP AE AD : Option Addr) (nP cP cE cD tu mo most : Nat) (G : List (List Ed)) (D : List Int) (w : World) (hm : MdR w AE AD G D) (hv : Vld G D) (ht : tu ≤ 99) (hmo : mo ≤ 200) (hms : most ≤ 2000) :
    Calls Try.prog 59 #[mdlV (.slice AP nP cP) AE AD G.length cE D.length cD, .agg #[I mo, I tu], I most] w fun e w' => ∃ v, e = .returned (.tuple #[v, .bool (dOf D (runS (eOf G) G.length tu mo (dOf D) most iniP).at_ == 0)]) ∧ TrR w' w.heap.size v (runS (eOf G) G.length tu mo (dOf D) most iniP).trail ∧ Below w.heap.size w w' := by
  have hmm := @run_makeMap Try.prog
  obtain ⟨w1, hw1, hs1, y1, hb1⟩ := one_box w (.cells #[.slice AP nP cP, .slice AE G.length cE, .slice AD D.length cD] 64)
  obtain ⟨w2, hw2, hs2, y2, hb2⟩ := one_box w1 (.cells #[I mo, I tu] 40)
  have y1' := (hb2.block w.heap.size (by omega)).trans y1
  have m0 : w2.cell? ⟨w.heap.size, 0, none⟩ = some (.slice AP nP cP) := cell_of_row w2 _ 0 _ _ _ y1'
  have m1 : w2.cell? ⟨w.heap.size, 1, none⟩ = some (.slice AE G.length cE) := cell_of_row w2 _ 1 _ _ _ y1'
  have m2 : w2.cell? ⟨w.heap.size, 2, none⟩ = some (.slice AD D.length cD) := cell_of_row w2 _ 2 _ _ _ y1'
  have i0 : w2.cell? ⟨w.heap.size + 1, 0, none⟩ = some (I mo) := by rw [← hs1]; exact cell_of_row w2 _ 0 _ _ _ y2
  have i1 : w2.cell? ⟨w.heap.size + 1, 1, none⟩ = some (I tu) := by rw [← hs1]; exact cell_of_row w2 _ 1 _ _ _ y2
  have hw12 := hw2
  rw [hw1] at hw12
  have HB2 := Lib.hid (hb1.trans (hb2.mono hb1.size))
  have HM := Lib.hid hm
  clear hm hw1 hw2 y1 y2 y1' hb1 hb2
  go_enter Try.func59, Try.ntmps59
  go_upto_region 1 with fail
  rw [← hw12]
  clear hw12
  obtain ⟨w4, hw4⟩ : ∃ w4, w4 = (w2.alloc (.map #[] 0)).alloc (.cells (plC (.slice AP nP cP) AE AD G.length cE D.length cD mo tu 0 (.slice none 0 0) (w.heap.size + 1 + 1) (.slice none 0 0) false (.slice none 0 0)) 105) := ⟨_, rfl⟩
  have hs2' : w2.heap.size = w.heap.size + 1 + 1 := by omega
  have hs3 : (w2.alloc (.map #[] 0)).heap.size = w.heap.size + 1 + 1 + 1 := by simp [hs2']
  have hb24 : Below w2.heap.size w2 w4 := by rw [hw4]; exact (((Below.refl _ _).alloc (Nat.le_refl _) _).alloc (by simp) _)
  have hpl : PlAt w4 (w.heap.size + 1 + 1 + 1) (plC (.slice AP nP cP) AE AD G.length cE D.length cD mo tu 0 (.slice none 0 0) (w.heap.size + 1 + 1) (.slice none 0 0) false (.slice none 0 0)) := by
    rw [← hs3, hw4]; exact alloc_obj _ _ _ rfl
  have hst : LnkR w4 (w.heap.size + 1 + 1) 0 [] := by
    refine ⟨fun _ => none, ?_, fun p e => by simp⟩
    have := MapG.made w2 71 (.bool false)
    rw [hs2'] at this
    rw [hw4]
    exact this.below (M := w.heap.size + 1 + 1 + 1) ((Below.refl _ _).alloc (by rw [hs3]; exact Nat.le_refl _) _) (by omega)
  have HS := Lib.hid (show SrS G D AP AE AD nP cP cE cD tu mo most w (w.heap.size + 1 + 1 + 1) (w.heap.size + 1 + 1) w4 iniP (.slice none 0 0) (.slice none 0 0) (.slice none 0 0) 0 from
    { inv := PInv.start hv.pos, tl := Nat.zero_le _, run := by rw [show iniP.trail.length = 0 from rfl, Nat.sub_zero], pl := hpl, lst := .inl ⟨rfl, rfl⟩, set_ := hst, nl := Nat.zero_le _, bk := .inl ⟨rfl, none, 0, rfl⟩, tr := .inl ⟨rfl, rfl⟩, ap := .inl rfl, low := HB2.out.trans (hb24.mono HB2.out.size) })
  clear hpl hst hb24 hs3
  go_wp2_with fail
  go_loopg [] (most + 1) (fun gg wr => ∃ (s : PSt) (vL vB vT : Value) (n : Nat), most + 1 - s.trail.length ≤ gg ∧ Hid (SrS G D AP AE AD nP cP cE cD tu mo most w (w.heap.size + 1 + 1 + 1) (w.heap.size + 1 + 1) wr s vL vB vT n))
  case atStart => exact ⟨iniP, _, _, _, 0, Nat.le_refl _, by
    have h := HS
    rw [hw4] at h
    exact h⟩
  case round =>
    obtain ⟨s, vL, vB, vT, n, hgs, H⟩ := hrel
    obtain ⟨wo, hwo⟩ : ∃ wo : World, wo = wr := ⟨_, rfl⟩
    rw [← hwo] at H
    rw [← hwo]
    clear hwo HS hw4 m0 m1 m2 i0 i1
    have h := H.out
    obtain ⟨AT, cT, eT⟩ := h.tr.len
    subst eT
    have hpl := h.pl
    have c10 : wo.cell? ⟨w.heap.size + 1 + 1 + 1, 10, none⟩ = some (.slice AT s.trail.length cT) := cell_of_row wo (w.heap.size + 1 + 1 + 1) 10 _ _ _ hpl
    have sP := row_lt' hpl
    have htl := h.tl
    by_cases hlt : s.trail.length < most
    · have c0 : wo.cell? ⟨w.heap.size + 1 + 1 + 1, 0, none⟩ = some (.slice AP nP cP) := cell_of_row wo (w.heap.size + 1 + 1 + 1) 0 _ _ _ hpl
      have c1 : wo.cell? ⟨w.heap.size + 1 + 1 + 1, 1, none⟩ = some (.slice AE G.length cE) := cell_of_row wo (w.heap.size + 1 + 1 + 1) 1 _ _ _ hpl
      have c2 : wo.cell? ⟨w.heap.size + 1 + 1 + 1, 2, none⟩ = some (.slice AD D.length cD) := cell_of_row wo (w.heap.size + 1 + 1 + 1) 2 _ _ _ hpl
      have c5 : wo.cell? ⟨w.heap.size + 1 + 1 + 1, 5, none⟩ = some (I s.at_) := cell_of_row wo (w.heap.size + 1 + 1 + 1) 5 _ _ _ hpl
      have hsty := stays_any (.slice AP nP cP) AE AD cE cD G D s.at_ wo (HM.out.call h.low) hv h.inv.at_
      cases hst : stay (eOf G) (dOf D) s.at_ with
      | true =>
        rw [hst] at hsty
        have HR := Lib.hid (show runS (eOf G) G.length tu mo (dOf D) most iniP = s by rw [h.run]; exact runS_stay hst _)
        have HH := Lib.hid h
        clear h hpl hst H
        go_upto_region 4 with (go_at_call 80; refine hsty.mono ?_; rintro e w5 ⟨rfl, hb5⟩)
        have h := HH.out
        have plX : PlAt w5 (w.heap.size + 1 + 1 + 1) _ := (hb5.block _ sP).trans h.pl
        have trX := h.tr.call hb5
        have lowX := h.low.trans (hb5.mono h.low.size)
        have hatX := h.inv.at_
        clear h HH c10 c0 c1 c2 c5 sP hb5 hsty

        have sX := row_lt' plX
        have e10 : w5.cell? ⟨w.heap.size + 1 + 1 + 1, 10, none⟩ = some (.slice AT s.trail.length cT) := cell_of_row w5 (w.heap.size + 1 + 1 + 1) 10 _ _ _ plX
        have e0 : w5.cell? ⟨w.heap.size + 1 + 1 + 1, 0, none⟩ = some (.slice AP nP cP) := cell_of_row w5 (w.heap.size + 1 + 1 + 1) 0 _ _ _ plX
        have e1 : w5.cell? ⟨w.heap.size + 1 + 1 + 1, 1, none⟩ = some (.slice AE G.length cE) := cell_of_row w5 (w.heap.size + 1 + 1 + 1) 1 _ _ _ plX
        have e2 : w5.cell? ⟨w.heap.size + 1 + 1 + 1, 2, none⟩ = some (.slice AD D.length cD) := cell_of_row w5 (w.heap.size + 1 + 1 + 1) 2 _ _ _ plX
        have e5 : w5.cell? ⟨w.heap.size + 1 + 1 + 1, 5, none⟩ = some (I s.at_) := cell_of_row w5 (w.heap.size + 1 + 1 + 1) 5 _ _ _ plX
        have hF : ∀ V, KeptW w5 V → Calls Try.prog 79 #[mdlV (.slice AP nP cP) AE AD G.length cE D.length cD, I s.at_] V fun e w' => e = .returned (.bool (dOf D s.at_ == 0)) ∧ Below V.heap.size V w' := fun V hV => isFinished_any (.slice AP nP cP) AE AD cE cD G D s.at_ V (HM.out.call (lowX.trans (hV.1.mono lowX.size))) hv hatX
        have TX := Lib.hid trX
        have LX := Lib.hid lowX
        clear plX trX lowX
        go_region_held3 (fun w' => Below w5.heap.size w5 w' ∧ (∀ a : Addr, a.block < w5.heap.size → w'.cell? a = w5.cell? a))
          (first | exact keptW_drew _ | exact keptW_call (by assumption) hb | assumption)
          ((go_at_call 79; go_must (refine (hF _ (by assumption)).mono ?_); rintro e w' ⟨rfl, hb⟩))
        all_goals
          clear hF e10 e0 e1 e2 e5
          go_wp2_with fail
          go_ret2
          have hK := keptW_below (by assumption)
          rw [HR.out]
          exact ⟨_, rfl, TX.out.call hK, LX.out.trans (hK.mono LX.out.size)⟩
      | false =>
        rw [hst] at hsty
        have hne : 0 < (eOf G s.at_).length := by
          cases hq : eOf G s.at_ with
          | nil => rw [stay, hq] at hst; simp at hst
          | cons a b => simp
        have hRS := Lib.hid (show runS (eOf G) G.length tu mo (dOf D) most iniP = runS (eOf G) G.length tu mo (dOf D) (most - (stpP (eOf G) G.length tu mo s).trail.length) (stpP (eOf G) G.length tu mo s) by
          have e1 : (stpP (eOf G) G.length tu mo s).trail.length = s.trail.length + 1 := by simp [stpP]
          rw [h.run, e1, show most - s.trail.length = (most - (s.trail.length + 1)) + 1 by omega, runS, if_neg (by rw [hst]; simp)])
        have HH := Lib.hid h
        clear h hpl hst H
        go_upto_region 3 with (go_at_call 80; refine hsty.mono ?_; rintro e w5 ⟨rfl, hb5⟩)
        have h := HH.out
        have plX : PlAt w5 (w.heap.size + 1 + 1 + 1) _ := (hb5.block _ sP).trans h.pl
        have lowX := h.low.trans (hb5.mono h.low.size)
        have lst5 := h.lst.call hb5
        have set5 := h.set_.below hb5 h.set_.lt
        have bk5 : BackR w5 w.heap.size vB s.back := BackR.upd h.bk (.of_below (ex := fun _ => False) hb5) (fun _ _ e => e)
        have tr5 := h.tr.call hb5
        have hmx := hv.many
        have hml : s.mem.length ≤ 300 := by have := h.inv.len; omega
        have hat := h.inv.at_
        have htg : ∀ p, p < G.length → ∀ j, j < (eOf G p).length → tgt (eOf G) p j < G.length := fun p hp j hj => (eOf_tgt hv hp (by rw [← eOf_len hp]; exact hj)).2
        have hstep := h.inv.step htg hne
        have hnxt := (h.inv.nxt htg hne).1
        have hbd : ∀ q ∈ s.mem, q.1 ≤ 1000 ∧ q.2 ≤ 1000 := fun q hq => by
          obtain ⟨h1, h2⟩ := h.inv.lk q hq
          have h3 := hv.few q.1 h1
          rw [← eOf_len h1] at h3
          omega
        have hnl := h.nl
        have hnx : Calls Try.prog 82 #[.pointer (some ⟨w.heap.size + 1 + 1 + 1, 0, none⟩)] w5 fun e w' => ∃ vB', e = .returned (I (nxtP (eOf G) G.length tu s).1) ∧ PlAt w' (w.heap.size + 1 + 1 + 1) (plC (.slice AP nP cP) AE AD G.length cE D.length cD mo tu s.at_ vL (w.heap.size + 1 + 1) vB' (nxtP (eOf G) G.length tu s).2.2 (.slice AT s.trail.length cT)) ∧ BackR w' w.heap.size vB' (nxtP (eOf G) G.length tu s).2.1 ∧ Upd (fun k => k = w.heap.size + 1 + 1 + 1) w5 w' ∧ Fr w5.heap.size vB vB' s.back (nxtP (eOf G) G.length tu s).2.1 :=
          next_any w.heap.size (w.heap.size + 1 + 1 + 1) nP cP AP AE AD cE cD mo tu s.at_ vL vB (.slice AT s.trail.length cT) s.lost (w.heap.size + 1 + 1) n G D s.mem s.back s.trail w5 plX (HM.out.call lowX) hv lst5 set5 bk5 hat ht hne hml lowX.size
        have hwk : ∀ (vB' : Value) (w6 : World), PlAt w6 (w.heap.size + 1 + 1 + 1) (plC (.slice AP nP cP) AE AD G.length cE D.length cD mo tu s.at_ vL (w.heap.size + 1 + 1) vB' (nxtP (eOf G) G.length tu s).2.2 (.slice AT s.trail.length cT)) → BackR w6 w.heap.size vB' (nxtP (eOf G) G.length tu s).2.1 → Upd (fun k => k = w.heap.size + 1 + 1 + 1) w5 w6 → Fr w5.heap.size vB vB' s.back (nxtP (eOf G) G.length tu s).2.1 →
            Calls Try.prog 81 #[.pointer (some ⟨w.heap.size + 1 + 1 + 1, 0, none⟩), I (nxtP (eOf G) G.length tu s).1] w6 fun r w' => r = .returned (.tuple #[]) ∧ ∃ vL' vT', SrS G D AP AE AD nP cP cE cD tu mo most w (w.heap.size + 1 + 1 + 1) (w.heap.size + 1 + 1) w' (stpP (eOf G) G.length tu mo s) vL' vB' vT' (n + 1) := fun vB' w6 q1 q2 q3 q4 => by
          have low6 : Below w.heap.size w w6 := lowX.trans (q3.below lowX.size (fun k e => by omega))
          have ap6 := q4.apart tr5 (Nat.le_refl _) h.ap
          refine (walk_any w.heap.size (w.heap.size + 1 + 1 + 1) nP cP AP AE AD cE cD mo tu s.at_ (nxtP (eOf G) G.length tu s).1 vL vB' (.slice AT s.trail.length cT) (nxtP (eOf G) G.length tu s).2.2 (w.heap.size + 1 + 1) n G D s.mem (nxtP (eOf G) G.length tu s).2.1 s.trail w6 q1 (fun V hV => HM.out.call (low6.trans hV)) hv (lst5.updP plX q3) (set5.updP plX q3) q2 (tr5.updP plX q3) ap6 hat hnxt (by omega) (by omega) low6.size h.inv.nd hml (by omega) hmo hbd (by omega)).mono ?_
          rintro r w7 ⟨rfl, vL', vT', r1, r2, r3, r4, r5, r6, r7⟩
          exact ⟨rfl, vL', vT', { inv := hstep, tl := by simp [stpP]; omega, run := hRS.out, pl := r1, lst := r2, set_ := r3, nl := by simp [stpP]; omega, bk := r4, tr := r5, ap := r6, low := low6.trans r7 }⟩
        have hlen : (stpP (eOf G) G.length tu mo s).trail.length = s.trail.length + 1 := by simp [stpP]
        have HL := Lib.hid hlen
        clear h HH plX lowX lst5 set5 bk5 tr5 hmx hml hat htg hstep hnxt hbd hnl c10 c0 c1 c2 c5 hsty hRS hlen
        go_wp2_with (first
          | (go_at_call 82; refine hnx.mono ?_; rintro e w6 ⟨vB', rfl, q1, q2, q3, q4⟩; have hwk' := hwk vB' w6 q1 q2 q3 q4; clear hwk hnx q1 q2 q3 q4)
          | (go_at_call 81; refine hwk'.mono ?_; rintro e w7 ⟨rfl, vL', vT', hS⟩))
        go_roundg (gk - 1)
        case measure => omega
        case rel => exact ⟨stpP (eOf G) G.length tu mo s, vL', vB', vT', n + 1, by rw [HL.out]; omega, Lib.hid hS⟩
    · have HR := Lib.hid (show runS (eOf G) G.length tu mo (dOf D) most iniP = s by rw [h.run, show most - s.trail.length = 0 by omega]; rfl)
      have plX := h.pl
      have trX := h.tr
      have lowX := h.low
      have hatX := h.inv.at_
      have hlt2 : most ≤ s.trail.length := by omega
      clear h hpl c10 sP H

      have sX := row_lt' plX
      have e10 : wo.cell? ⟨w.heap.size + 1 + 1 + 1, 10, none⟩ = some (.slice AT s.trail.length cT) := cell_of_row wo (w.heap.size + 1 + 1 + 1) 10 _ _ _ plX
      have e0 : wo.cell? ⟨w.heap.size + 1 + 1 + 1, 0, none⟩ = some (.slice AP nP cP) := cell_of_row wo (w.heap.size + 1 + 1 + 1) 0 _ _ _ plX
      have e1 : wo.cell? ⟨w.heap.size + 1 + 1 + 1, 1, none⟩ = some (.slice AE G.length cE) := cell_of_row wo (w.heap.size + 1 + 1 + 1) 1 _ _ _ plX
      have e2 : wo.cell? ⟨w.heap.size + 1 + 1 + 1, 2, none⟩ = some (.slice AD D.length cD) := cell_of_row wo (w.heap.size + 1 + 1 + 1) 2 _ _ _ plX
      have e5 : wo.cell? ⟨w.heap.size + 1 + 1 + 1, 5, none⟩ = some (I s.at_) := cell_of_row wo (w.heap.size + 1 + 1 + 1) 5 _ _ _ plX
      have hF : ∀ V, KeptW wo V → Calls Try.prog 79 #[mdlV (.slice AP nP cP) AE AD G.length cE D.length cD, I s.at_] V fun e w' => e = .returned (.bool (dOf D s.at_ == 0)) ∧ Below V.heap.size V w' := fun V hV => isFinished_any (.slice AP nP cP) AE AD cE cD G D s.at_ V (HM.out.call (lowX.trans (hV.1.mono lowX.size))) hv hatX
      have TX := Lib.hid trX
      have LX := Lib.hid lowX
      clear plX trX lowX
      go_upto_region 4 with fail
      go_region_held3 (fun w' => Below wo.heap.size wo w' ∧ (∀ a : Addr, a.block < wo.heap.size → w'.cell? a = wo.cell? a))
        (first | exact keptW_drew _ | exact keptW_call (by assumption) hb | assumption)
        ((go_at_call 79; go_must (refine (hF _ (by assumption)).mono ?_); rintro e w' ⟨rfl, hb⟩))
      all_goals
        clear hF e10 e0 e1 e2 e5
        go_wp2_with fail
        go_ret2
        have hK := keptW_below (by assumption)
        rw [HR.out]
        exact ⟨_, rfl, TX.out.call hK, LX.out.trans (hK.mono LX.out.size)⟩
end Go.Proofs.Ytehoaenkkmmobaa

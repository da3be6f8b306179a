/-
  LAYER 6, CONTRACT: walk. (Written by gen/gen_srr.py.)
-/
import Derived.Test.YtehoaenkkmmobaaSrQ
namespace Go.Proofs.Ytehoaenkkmmobaa
open Go.RowKit Go.Shelf
theorem Upd.pre {ex : Nat → Prop} {a b c : World} (h : Below a.heap.size a b) (k : Upd ex b c) : Upd ex a c := (Upd.of_below h).trans k
theorem plC_set10 (vP : Value) (AE AD : Option Addr) (nE cE nD cD : Nat) (mo tu : Int) (at_ : Nat) (vL : Value) (B : Nat) (vB : Value) (lost : Bool) (vT u : Value) : (plC vP AE AD nE cE nD cD mo tu at_ vL B vB lost vT).setIfInBounds 10 u = plC vP AE AD nE cE nD cD mo tu at_ vL B vB lost u := rfl
theorem plC_set5 (vP : Value) (AE AD : Option Addr) (nE cE nD cD : Nat) (mo tu : Int) (at_ T : Nat) (vL : Value) (B : Nat) (vB : Value) (lost : Bool) (vT : Value) : (plC vP AE AD nE cE nD cD mo tu at_ vL B vB lost vT).setIfInBounds 5 (I T) = plC vP AE AD nE cE nD cD mo tu T vL B vB lost vT := rfl
theorem QRow.slice {w : World} {base : Nat} {v : Value} {L : List Int} (h : QRow w base v L) : ∃ g off n c, v = .slice (some ⟨g, off, none⟩) n c := by
  obtain ⟨g, off, c, cur, rfl, -⟩ := h
  exact ⟨_, _, _, _, rfl⟩
/-- the trail -/
def TrR (w : World) (base : Nat) (v : Value) (L : List Nat) : Prop := (v = .slice none 0 0 ∧ L = []) ∨ QRow w base v (numI L)
theorem QRow.block {w : World} {base : Nat} {v : Value} {L : List Int} (h : QRow w base v L) {k : Nat} (hk : v.ownBlock = some k) : base ≤ k ∧ k < w.heap.size ∧ ∃ cur, w.heap[k]? = some (.cells cur 3 (0, 0)) := by
  obtain ⟨g, off, c, cur, rfl, h1, h2, h3, h4⟩ := h
  simp [Value.ownBlock] at hk
  subst hk
  exact ⟨h2, (Array.getElem?_eq_some_iff.1 h3).1, cur, h3⟩
theorem QRow.upd {w w' : World} {base : Nat} {v : Value} {L : List Int} {ex : Nat → Prop} (h : QRow w base v L) (hg : Upd ex w w') (hne : ∀ k, v.ownBlock = some k → ¬ ex k) : QRow w' base v L := by
  obtain ⟨g, off, c, cur, rfl, h1, h2, h3, h4⟩ := h
  exact ⟨g, off, c, cur, rfl, h1, h2, (hg.block g (Array.getElem?_eq_some_iff.1 h3).1 (hne g (by simp [Value.ownBlock]))).trans h3, h4⟩
theorem LRow.block {w : World} {base : Nat} {v : Value} {zs : List Lk} (h : LRow w base v zs) {k : Nat} (hk : v.ownBlock = some k) : ∃ cur, w.heap[k]? = some (.cells cur 71 (0, 0)) := by
  rcases h with ⟨rfl, -⟩ | ⟨g, off, c, m, F, rfl, -, -, h3, -⟩
  · simp [Value.ownBlock] at hk
  · simp [Value.ownBlock] at hk
    subst hk
    exact ⟨_, h3⟩
/-- a row of numbers is none of the blocks that add turns -/
theorem QRow.apart {w : World} {base P B n : Nat} {v vL : Value} {L : List Int} {mem : List Lk} {cs : Array Value} (h : QRow w base v L) (hp : PlAt w P cs) (hl : LRow w base vL mem) (hs : LnkR w B n mem) : ∀ k, v.ownBlock = some k → ¬ (k = P ∨ k = B ∨ vL.ownBlock = some k) := fun k hk e => by
  obtain ⟨-, -, cur, hc⟩ := h.block hk
  rcases e with rfl | rfl | e
  · rw [PlAt, hc] at hp
    injection hp with hp
    injection hp with _ hp
    exact absurd hp (by decide)
  · obtain ⟨f, hf, -⟩ := hs
    obtain ⟨es, c, e⟩ := hf.block
    rw [hc] at e
    cases e
  · obtain ⟨cur', hc'⟩ := hl.block e
    rw [hc] at hc'
    injection hc' with hc'
    injection hc' with _ hc'
    exact absurd hc' (by decide)
set_option maxRecDepth 100000 in
theorem run_append_t {w : World} {base : Nat} {v : Value} {L : List Nat} (h : TrR w base v L) (ty : TypeId) (blk c' y : Nat) (hx : w.cell? ⟨blk, 0, none⟩ = some (I y)) (hl : L.length ≤ 1000000) (hbase : base ≤ w.heap.size) :
    ∃ v' w', (Builtin.append_ #[26, 26] ty #[v, .slice (some ⟨blk, 0, none⟩) 1 c']).run Try.prog w = .ok v' w' ∧ QRow w' base v' (numI (L ++ [y])) ∧ w.grownBy w' v.ownBlock ∧ (v'.ownBlock = v.ownBlock ∨ v'.ownBlock = some w.heap.size) := by
  rcases h with ⟨rfl, rfl⟩ | h
  · obtain ⟨i0, hi, hz0, hz1, hz2⟩ := info_parts info_int
    have hnews : ∀ (j : Nat) (u : Value), ([I y] : List Value)[j]? = some u → w.cell? ((⟨blk, 0, none⟩ : Addr).add j) = some u := by
      intro j u hj
      rw [Addr.add_mid, Nat.zero_add]
      match j with
      | 0 => rw [hx]; simpa using hj
      | j + 1 => simp at hj
    have hr := run_append_nil (P := Try.prog) w 26 ty 3 i0 (.int .i64 0) Try.underlying26 hi hz0 ⟨blk, 0, none⟩ 1 c' [I y] (by rw [hz1]; rfl) hnews (by omega) (by omega) (by rw [hz2]; omega)
    have hge := grownCap_ge w 1 0 3
    have hcm : grownCap w 1 0 3 ≤ maxLen := grownCap_le_maxLen w 1 0 3 (by unfold maxLen; omega)
    refine ⟨_, _, hr, ⟨w.heap.size, 0, _, _, rfl, hcm, hbase, heap_alloc_new w.drew _, by simp [size_zeroCells, Value.cells]; omega, hge, fun j hj => ?_⟩, ⟨rfl, rfl, rfl, by simp, fun k hk _ => heap_alloc_old w.drew _ hk⟩, .inr rfl⟩
    have hj0 : j = 0 := by simp [numI] at hj; omega
    subst hj0
    rw [Array.getElem?_append_left (by simp)]
    rfl
  · have := run_append_q h ty ⟨blk, 0, none⟩ c' y hx (by rw [numI_length]; exact hl) hbase
    rw [numI_snoc]
    exact this
theorem wpList_append_t {ops : Array Oper} {rest : List Oper} {o : Oper} {a : Act} {Q : Exit → Act → World → Prop} {w : World} (hgd : o.guard = none) (s x : Operand)
    (ho : o.op = .call { callee := .builtin .append, args := #[s, x], argTypes := #[26, 26] }) (base : Nat) (v : Value) (L : List Nat) (hs : a.eval s = v) (hq : TrR w base v L)
    (blk c' y : Nat) (hx : a.eval x = .slice (some ⟨blk, 0, none⟩) 1 c') (hy : w.cell? ⟨blk, 0, none⟩ = some (I y)) (hl : L.length ≤ 1000000) (hbase : base ≤ w.heap.size)
    (h : ∀ v' w', QRow w' base v' (numI (L ++ [y])) → w.grownBy w' v.ownBlock → (v'.ownBlock = v.ownBlock ∨ v'.ownBlock = some w.heap.size) → wpList Try.prog ops Q rest (a.put o.dst v') w') : wpList Try.prog ops Q (o :: rest) a w := by
  refine wpList_plain hgd fun _ hK => ?_
  obtain ⟨v', w', hr, h2, h3, h4⟩ := run_append_t hq o.type blk c' y hy hl hbase
  unfold Oper.wp execOp
  simp only [ho, resolve, invoke, builtin, Sem.run_bind, Sem.run_pure, Result.andThen_ok, List.map_toArray, List.map_cons, List.map_nil, hs, hx, hr]
  exact hK _ _ (h v' w' h2 h3 h4)
set_option maxRecDepth 100000 in
set_option maxHeartbeats 4000000 in
theorem walk_any (base P nP cP : Nat) (AP AE AD : Option Addr) (cE cD : Nat) (mo tu at_ e : Nat) (vL vB vT : Value) (lost : Bool) (B n : Nat) (G : List (List Ed)) (D : List Int) (mem : List Lk) (back trail : List Nat) (w : World)
    (hP : PlAt w P (plC (.slice AP nP cP) AE AD G.length cE D.length cD mo tu at_ vL B vB lost vT)) (hm : ∀ V, Below base w V → MdR V AE AD G D) (hv : Vld G D) (hL : LRow w base vL mem) (hl : LnkR w B n mem) (hB : BackR w base vB back) (hT : TrR w base vT trail) (hBT : vB.ownBlock = none ∨ vB.ownBlock ≠ vT.ownBlock ∨ back = [])
    (hat : at_ < G.length) (he : e < (eOf G at_).length) (hbP : base ≤ P) (hbB : base ≤ B) (hbw : base ≤ w.heap.size) (hnd : mem.Nodup) (hml : mem.length ≤ 300) (hn : n ≤ 100000) (hmo : mo ≤ 200) (hbd : ∀ q ∈ mem, q.1 ≤ 1000 ∧ q.2 ≤ 1000) (htl : trail.length ≤ 2000) :
    Calls Try.prog 81 #[.pointer (some ⟨P, 0, none⟩), I e] w fun r w' => r = .returned (.tuple #[]) ∧ ∃ vL' vT', PlAt w' P (plC (.slice AP nP cP) AE AD G.length cE D.length cD mo tu (tgt (eOf G) at_ e) vL' B vB lost vT') ∧ LRow w' base vL' (addM mo mem (at_, e)) ∧ LnkR w' B (n + 1) (addM mo mem (at_, e)) ∧ BackR w' base vB back ∧ TrR w' base vT' (trail ++ [e]) ∧ (vB.ownBlock = none ∨ vB.ownBlock ≠ vT'.ownBlock ∨ back = []) ∧ Below base w w' := by
  obtain ⟨w1, hw1, hs1, y0, hb1⟩ := one_box w (.cells #[I at_, I e] 71)
  have sPw := row_lt' hP
  have hP1 : PlAt w1 P _ := (hb1.block P sPw).trans hP
  have p5 : w.cell? ⟨P, 5, none⟩ = some (I at_) := cell_of_row w P 5 _ _ _ hP
  have p3 : w1.cell? ⟨P, 3, none⟩ = some (I mo) := cell_of_row w1 P 3 _ _ _ hP1
  have x0 : w1.cell? ⟨w.heap.size, 0, none⟩ = some (I at_) := cell_of_row w1 _ 0 _ _ _ y0
  have x1 : w1.cell? ⟨w.heap.size, 1, none⟩ = some (I e) := cell_of_row w1 _ 1 _ _ _ y0
  have s1P : P < w1.heap.size := by omega
  have s1X : w.heap.size < w1.heap.size := by omega
  have hmx := hv.many
  have he100 : e ≤ 100 := by have := hv.few at_ hat; rw [eOf_len hat] at he; omega
  have hL1 := hL.call hb1
  have hl1 := hl.below hb1 hl.lt
  have hadd : ∀ V, Below w1.heap.size w1 V → Calls Try.prog 101 #[.pointer (some ⟨P, 6, none⟩), lkV (at_, e), I mo] V fun r w' => r = .returned (.tuple #[]) ∧ (∃ vL', PlAt w' P (plC (.slice AP nP cP) AE AD G.length cE D.length cD mo tu at_ vL' B vB lost vT) ∧ LRow w' base vL' (addM mo mem (at_, e)) ∧ LnkR w' B (n + 1) (addM mo mem (at_, e)) ∧ Upd (fun k => k = P ∨ k = B ∨ vL.ownBlock = some k) w1 w' ∧ (∀ k, vL'.ownBlock = some k → vL.ownBlock = some k ∨ w1.heap.size ≤ k)) := fun V hV => by
    refine (add_any base P (.slice AP nP cP) AE AD G.length cE D.length cD mo tu at_ vL vB vT lost B n mo mem (at_, e) V ((hV.block P s1P).trans hP1) (hL1.call hV) (hl1.below hV hl1.lt) (by have := hV.size; omega) hnd hml hn hmo (by show at_ ≤ 1000; omega) (by show e ≤ 1000; omega) hbd).mono ?_
    rintro r w' ⟨rfl, vL', a1, a2, a3, a4, a5⟩
    exact ⟨rfl, vL', a1, a2, a3, a4.pre hV, fun k hk => (a5 k hk).imp id (fun h => Nat.le_trans hV.size h)⟩
  have HEX := Lib.hid (show ∀ k, (k = P ∨ k = B ∨ vL.ownBlock = some k) → k < w.heap.size ∧ base ≤ k from fun k hk => by
    rcases hk with rfl | rfl | h
    · exact ⟨sPw, hbP⟩
    · exact ⟨hl.lt, hbB⟩
    · exact ⟨(hL.lt k h).2, (hL.lt k h).1⟩)
  have HBK := Lib.hid (show ∀ V, Upd (fun k => k = P ∨ k = B ∨ vL.ownBlock = some k) w V → BackR V base vB back from fun V hV => by
    rcases hB with h | h
    · exact .inl h
    · exact .inr (h.upd hV (h.apart hP hL hl)))
  have HTK := Lib.hid (show ∀ V, Upd (fun k => k = P ∨ k = B ∨ vL.ownBlock = some k) w V → TrR V base vT trail from fun V hV => by
    rcases hT with h | h
    · exact .inl h
    · exact .inr (h.upd hV (h.apart hP hL hl)))
  have HTL := Lib.hid (show ∀ k, vT.ownBlock = some k → k < w.heap.size from fun k hk => by
    rcases hT with ⟨rfl, -⟩ | h
    · simp [Value.ownBlock] at hk
    · exact (h.block hk).2.1)
  have htl' : trail.length ≤ 1000000 := by omega
  have HM := Lib.hid hm
  have HB := Lib.hid hB
  have HT := Lib.hid hT
  have HBT := Lib.hid hBT
  clear hP hP1 hm hL hl hB hT hBT hbd y0 hL1 hl1
  go_enter Try.func81, Try.ntmps81
  go_upto_region 1 with fail
  rw [← hw1]
  clear hw1
  refine wp_region_inv (by kernel_rfl) (fun L a w' => L.size = 10 ∧ ∃ u11 u12 u13 u14 u15 u16 u17 u18 u19 u20 : Value, a = { tmps := #[.pointer (some ⟨P, 0, none⟩), I e, undef, undef, .pointer (some ⟨w.heap.size, 0, none⟩), .pointer (some ⟨P, 0, none⟩), .pointer (some ⟨P, 0, none⟩), .pointer (some ⟨P, 5, none⟩), I at_, I e, lkV (at_, e), u11, u12, u13, u14, u15, u16, u17, u18, u19, u20, undef, undef, undef, undef, undef, undef, undef, undef, undef, undef, undef, undef, undef, undef, undef, undef, undef, undef, undef], defers := [] } ∧ (L.getD 9 false = false → Below w1.heap.size w1 w') ∧ (L.getD 0 false = true → u11 = .pointer (some ⟨P, 0, none⟩)) ∧ (L.getD 1 false = true → u12 = .pointer (some ⟨P, 0, none⟩)) ∧ (L.getD 2 false = true → u13 = .pointer (some ⟨P, 6, none⟩)) ∧ (L.getD 3 false = true → u14 = lkV (at_, e)) ∧ (L.getD 4 false = true → u15 = .pointer (some ⟨P, 0, none⟩)) ∧ (L.getD 5 false = true → u16 = .pointer (some ⟨P, 0, none⟩)) ∧ (L.getD 6 false = true → u17 = .pointer (some ⟨P, 3, none⟩)) ∧ (L.getD 7 false = true → u18 = .pointer (some ⟨P, 3, none⟩)) ∧ (L.getD 8 false = true → u19 = I mo) ∧ (L.getD 9 false = true → (∀ d, d ∈ ([3, 8] : List Nat) → L.getD d false = true) ∧ (∃ vL', PlAt w' P (plC (.slice AP nP cP) AE AD G.length cE D.length cD mo tu at_ vL' B vB lost vT) ∧ LRow w' base vL' (addM mo mem (at_, e)) ∧ LnkR w' B (n + 1) (addM mo mem (at_, e)) ∧ Upd (fun k => k = P ∨ k = B ∨ vL.ownBlock = some k) w1 w' ∧ (∀ k, vL'.ownBlock = some k → vL.ownBlock = some k ∨ w1.heap.size ≤ k)))) ?_ ?_ ?_
  · exact ⟨by simp, _, _, _, _, _, _, _, _, _, _, rfl, fun _ => (Below.refl _ _).drew, by simp, by simp, by simp, by simp, by simp, by simp, by simp, by simp, by simp, by simp⟩
  · rintro i L a w' ⟨hL, u11, u12, u13, u14, u15, u16, u17, u18, u19, u20, rfl, hbw, h0, h1, h2, h3, h4, h5, h6, h7, h8, h9⟩ hi
    have hcases : i = 0 ∨ i = 1 ∨ i = 2 ∨ i = 3 ∨ i = 4 ∨ i = 5 ∨ i = 6 ∨ i = 7 ∨ i = 8 ∨ i = 9 := by
      have : i < 10 := ready_lt hi
      omega
    have hni := ready_not' hi (by rw [hL]; exact ready_lt hi)
    rcases hcases with rfl | rfl | rfl | rfl | rfl | rfl | rfl | rfl | rfl | rfl
    · refine wpOp_val (.pointer (some ⟨P, 0, none⟩)) rfl (by rfl) (by go_simp) ?_
      exact ⟨by simpa using hL, _, _, _, _, _, _, _, _, _, _, rfl, fun h' => hbw ((set_other (by decide)).symm.trans h'), fun _ => rfl, (fun h => (h1 ((set_other (by decide)).symm.trans h))), (fun h => (h2 ((set_other (by decide)).symm.trans h))), (fun h => (h3 ((set_other (by decide)).symm.trans h))), (fun h => (h4 ((set_other (by decide)).symm.trans h))), (fun h => (h5 ((set_other (by decide)).symm.trans h))), (fun h => (h6 ((set_other (by decide)).symm.trans h))), (fun h => (h7 ((set_other (by decide)).symm.trans h))), (fun h => (h8 ((set_other (by decide)).symm.trans h))), (fun h => ⟨fun d hd => set_keep ((h9 ((set_other (by decide)).symm.trans h)).1 d hd), (h9 ((set_other (by decide)).symm.trans h)).2⟩)⟩
    · obtain rfl := h0 (ready_dep hi 0 (by kernel_rfl))
      refine wpOp_val (.pointer (some ⟨P, 0, none⟩)) rfl (by rfl) (by go_simp) ?_
      exact ⟨by simpa using hL, _, _, _, _, _, _, _, _, _, _, rfl, fun h' => hbw ((set_other (by decide)).symm.trans h'), (fun h => (h0 ((set_other (by decide)).symm.trans h))), fun _ => rfl, (fun h => (h2 ((set_other (by decide)).symm.trans h))), (fun h => (h3 ((set_other (by decide)).symm.trans h))), (fun h => (h4 ((set_other (by decide)).symm.trans h))), (fun h => (h5 ((set_other (by decide)).symm.trans h))), (fun h => (h6 ((set_other (by decide)).symm.trans h))), (fun h => (h7 ((set_other (by decide)).symm.trans h))), (fun h => (h8 ((set_other (by decide)).symm.trans h))), (fun h => ⟨fun d hd => set_keep ((h9 ((set_other (by decide)).symm.trans h)).1 d hd), (h9 ((set_other (by decide)).symm.trans h)).2⟩)⟩
    · obtain rfl := h1 (ready_dep hi 1 (by kernel_rfl))
      refine wpOp_val (.pointer (some ⟨P, 6, none⟩)) rfl (by rfl) (by go_simp) ?_
      exact ⟨by simpa using hL, _, _, _, _, _, _, _, _, _, _, rfl, fun h' => hbw ((set_other (by decide)).symm.trans h'), (fun h => (h0 ((set_other (by decide)).symm.trans h))), (fun h => (h1 ((set_other (by decide)).symm.trans h))), fun _ => rfl, (fun h => (h3 ((set_other (by decide)).symm.trans h))), (fun h => (h4 ((set_other (by decide)).symm.trans h))), (fun h => (h5 ((set_other (by decide)).symm.trans h))), (fun h => (h6 ((set_other (by decide)).symm.trans h))), (fun h => (h7 ((set_other (by decide)).symm.trans h))), (fun h => (h8 ((set_other (by decide)).symm.trans h))), (fun h => ⟨fun d hd => set_keep ((h9 ((set_other (by decide)).symm.trans h)).1 d hd), (h9 ((set_other (by decide)).symm.trans h)).2⟩)⟩
    · have hk0 : L.getD 9 false = false := by
        cases hq : L.getD 9 false with
        | false => rfl
        | true => exact absurd ((h9 hq).1 3 (by decide)) (by rw [hni]; simp)
      have hb' := hbw hk0
      have hc' := bcellS hb'
      have hsz : w1.heap.size ≤ w'.heap.size := hb'.size
      refine wpOp_val (lkV (at_, e)) rfl (by rfl) (by go_simp) ?_
      exact ⟨by simpa using hL, _, _, _, _, _, _, _, _, _, _, rfl, fun h' => hbw ((set_other (by decide)).symm.trans h'), (fun h => (h0 ((set_other (by decide)).symm.trans h))), (fun h => (h1 ((set_other (by decide)).symm.trans h))), (fun h => (h2 ((set_other (by decide)).symm.trans h))), fun _ => rfl, (fun h => (h4 ((set_other (by decide)).symm.trans h))), (fun h => (h5 ((set_other (by decide)).symm.trans h))), (fun h => (h6 ((set_other (by decide)).symm.trans h))), (fun h => (h7 ((set_other (by decide)).symm.trans h))), (fun h => (h8 ((set_other (by decide)).symm.trans h))), (fun h => ⟨fun d hd => set_keep ((h9 ((set_other (by decide)).symm.trans h)).1 d hd), (h9 ((set_other (by decide)).symm.trans h)).2⟩)⟩
    · refine wpOp_val (.pointer (some ⟨P, 0, none⟩)) rfl (by rfl) (by go_simp) ?_
      exact ⟨by simpa using hL, _, _, _, _, _, _, _, _, _, _, rfl, fun h' => hbw ((set_other (by decide)).symm.trans h'), (fun h => (h0 ((set_other (by decide)).symm.trans h))), (fun h => (h1 ((set_other (by decide)).symm.trans h))), (fun h => (h2 ((set_other (by decide)).symm.trans h))), (fun h => (h3 ((set_other (by decide)).symm.trans h))), fun _ => rfl, (fun h => (h5 ((set_other (by decide)).symm.trans h))), (fun h => (h6 ((set_other (by decide)).symm.trans h))), (fun h => (h7 ((set_other (by decide)).symm.trans h))), (fun h => (h8 ((set_other (by decide)).symm.trans h))), (fun h => ⟨fun d hd => set_keep ((h9 ((set_other (by decide)).symm.trans h)).1 d hd), (h9 ((set_other (by decide)).symm.trans h)).2⟩)⟩
    · obtain rfl := h4 (ready_dep hi 4 (by kernel_rfl))
      refine wpOp_val (.pointer (some ⟨P, 0, none⟩)) rfl (by rfl) (by go_simp) ?_
      exact ⟨by simpa using hL, _, _, _, _, _, _, _, _, _, _, rfl, fun h' => hbw ((set_other (by decide)).symm.trans h'), (fun h => (h0 ((set_other (by decide)).symm.trans h))), (fun h => (h1 ((set_other (by decide)).symm.trans h))), (fun h => (h2 ((set_other (by decide)).symm.trans h))), (fun h => (h3 ((set_other (by decide)).symm.trans h))), (fun h => (h4 ((set_other (by decide)).symm.trans h))), fun _ => rfl, (fun h => (h6 ((set_other (by decide)).symm.trans h))), (fun h => (h7 ((set_other (by decide)).symm.trans h))), (fun h => (h8 ((set_other (by decide)).symm.trans h))), (fun h => ⟨fun d hd => set_keep ((h9 ((set_other (by decide)).symm.trans h)).1 d hd), (h9 ((set_other (by decide)).symm.trans h)).2⟩)⟩
    · obtain rfl := h5 (ready_dep hi 5 (by kernel_rfl))
      refine wpOp_val (.pointer (some ⟨P, 3, none⟩)) rfl (by rfl) (by go_simp) ?_
      exact ⟨by simpa using hL, _, _, _, _, _, _, _, _, _, _, rfl, fun h' => hbw ((set_other (by decide)).symm.trans h'), (fun h => (h0 ((set_other (by decide)).symm.trans h))), (fun h => (h1 ((set_other (by decide)).symm.trans h))), (fun h => (h2 ((set_other (by decide)).symm.trans h))), (fun h => (h3 ((set_other (by decide)).symm.trans h))), (fun h => (h4 ((set_other (by decide)).symm.trans h))), (fun h => (h5 ((set_other (by decide)).symm.trans h))), fun _ => rfl, (fun h => (h7 ((set_other (by decide)).symm.trans h))), (fun h => (h8 ((set_other (by decide)).symm.trans h))), (fun h => ⟨fun d hd => set_keep ((h9 ((set_other (by decide)).symm.trans h)).1 d hd), (h9 ((set_other (by decide)).symm.trans h)).2⟩)⟩
    · obtain rfl := h6 (ready_dep hi 6 (by kernel_rfl))
      refine wpOp_val (.pointer (some ⟨P, 3, none⟩)) rfl (by rfl) (by go_simp) ?_
      exact ⟨by simpa using hL, _, _, _, _, _, _, _, _, _, _, rfl, fun h' => hbw ((set_other (by decide)).symm.trans h'), (fun h => (h0 ((set_other (by decide)).symm.trans h))), (fun h => (h1 ((set_other (by decide)).symm.trans h))), (fun h => (h2 ((set_other (by decide)).symm.trans h))), (fun h => (h3 ((set_other (by decide)).symm.trans h))), (fun h => (h4 ((set_other (by decide)).symm.trans h))), (fun h => (h5 ((set_other (by decide)).symm.trans h))), (fun h => (h6 ((set_other (by decide)).symm.trans h))), fun _ => rfl, (fun h => (h8 ((set_other (by decide)).symm.trans h))), (fun h => ⟨fun d hd => set_keep ((h9 ((set_other (by decide)).symm.trans h)).1 d hd), (h9 ((set_other (by decide)).symm.trans h)).2⟩)⟩
    · obtain rfl := h7 (ready_dep hi 7 (by kernel_rfl))
      have hk0 : L.getD 9 false = false := by
        cases hq : L.getD 9 false with
        | false => rfl
        | true => exact absurd ((h9 hq).1 8 (by decide)) (by rw [hni]; simp)
      have hb' := hbw hk0
      have hc' := bcellS hb'
      have hsz : w1.heap.size ≤ w'.heap.size := hb'.size
      refine wpOp_val (I mo) rfl (by rfl) (by go_simp) ?_
      exact ⟨by simpa using hL, _, _, _, _, _, _, _, _, _, _, rfl, fun h' => hbw ((set_other (by decide)).symm.trans h'), (fun h => (h0 ((set_other (by decide)).symm.trans h))), (fun h => (h1 ((set_other (by decide)).symm.trans h))), (fun h => (h2 ((set_other (by decide)).symm.trans h))), (fun h => (h3 ((set_other (by decide)).symm.trans h))), (fun h => (h4 ((set_other (by decide)).symm.trans h))), (fun h => (h5 ((set_other (by decide)).symm.trans h))), (fun h => (h6 ((set_other (by decide)).symm.trans h))), (fun h => (h7 ((set_other (by decide)).symm.trans h))), fun _ => rfl, (fun h => ⟨fun d hd => set_keep ((h9 ((set_other (by decide)).symm.trans h)).1 d hd), (h9 ((set_other (by decide)).symm.trans h)).2⟩)⟩
    · obtain rfl := h2 (ready_dep hi 2 (by kernel_rfl))
      obtain rfl := h3 (ready_dep hi 3 (by kernel_rfl))
      obtain rfl := h8 (ready_dep hi 8 (by kernel_rfl))
      have hk0 : L.getD 9 false = false := hni
      have hb' := hbw hk0
      have hc' := bcellS hb'
      have hsz : w1.heap.size ≤ w'.heap.size := hb'.size
      refine wpOp_wp rfl (by rfl) (wp_call_fns (vs := #[.pointer (some ⟨P, 6, none⟩), lkV (at_, e), I mo]) rfl (by simp [Act.eval]) (enters_of Try.func101 (by kernel_rfl) rfl) ((hadd w' hb').mono ?_))
      rintro r w2 ⟨rfl, hadd2⟩
      exact ⟨by simpa using hL, _, _, _, _, _, _, _, _, _, _, rfl, (fun h' => by rw [set_same (by omega)] at h'; cases h'), (fun h => (h0 ((set_other (by decide)).symm.trans h))), (fun h => (h1 ((set_other (by decide)).symm.trans h))), (fun h => (h2 ((set_other (by decide)).symm.trans h))), (fun h => (h3 ((set_other (by decide)).symm.trans h))), (fun h => (h4 ((set_other (by decide)).symm.trans h))), (fun h => (h5 ((set_other (by decide)).symm.trans h))), (fun h => (h6 ((set_other (by decide)).symm.trans h))), (fun h => (h7 ((set_other (by decide)).symm.trans h))), (fun h => (h8 ((set_other (by decide)).symm.trans h))), fun _ => ⟨fun d hd => set_keep (by rcases (by simpa using hd : d = 3 ∨ d = 8) with rfl | rfl <;> (first | exact ready_dep hi 3 (by kernel_rfl) | exact ready_dep hi 8 (by kernel_rfl))), hadd2⟩⟩
  · rintro L a w' ⟨hL, u11, u12, u13, u14, u15, u16, u17, u18, u19, u20, rfl, hbw, h0, h1, h2, h3, h4, h5, h6, h7, h8, h9⟩ hr
    have hall := all_listed hL (by kernel_rfl) hr
    obtain rfl := h0 (hall 0 (by decide))
    obtain rfl := h1 (hall 1 (by decide))
    obtain rfl := h2 (hall 2 (by decide))
    obtain rfl := h3 (hall 3 (by decide))
    obtain rfl := h4 (hall 4 (by decide))
    obtain rfl := h5 (hall 5 (by decide))
    obtain rfl := h6 (hall 6 (by decide))
    obtain rfl := h7 (hall 7 (by decide))
    obtain rfl := h8 (hall 8 (by decide))
    have g9 := (h9 (hall 9 (by decide))).2
    clear hall hr hL hbw h0 h1 h2 h3 h4 h5 h6 h7 h8
    try dsimp only
    obtain ⟨vL', pl2, l2, s2, u2, o2⟩ := g9
    obtain ⟨w2, hw2⟩ : ∃ w2 : World, w2 = w' := ⟨_, rfl⟩
    rw [← hw2] at pl2 l2 s2 u2 ⊢
    clear hw2 hadd p3 p5
    have hU := u2.pre hb1
    have x0 := u2.cell x0 (fun h => by have := (HEX.out _ h).1; simp only at this; omega)
    have x1 := u2.cell x1 (fun h => by have := (HEX.out _ h).1; simp only at this; omega)
    have sz2 := hU.size
    have B2 := HBK.out w2 hU
    have hUa : Upd (fun k => k = P ∨ k = B ∨ vL.ownBlock = some k) w (w2.alloc (.cells #[I e] 3)) := hU.trans (.of_below ((Below.refl _ _).alloc (Nat.le_refl _) _))
    have hTa := HTK.out _ hUa
    have hba : base ≤ (w2.alloc (.cells #[I e] 3)).heap.size := by have := hUa.size; omega
    have hca : (w2.alloc (.cells #[I e] 3)).cell? ⟨w2.heap.size, 0, none⟩ = some (I e) := alloc_cell _ _ _ 0
    have hga : w2.grownBy (w2.alloc (.cells #[I e] 3)) none := World.grownBy_alloc _ _ _
    have pla := pl2.kept hga (by simp)
    have la := l2.kept hga (by cases h : vL'.ownBlock with | none => exact .inl rfl | some k => exact .inr (by simp))
    have sa := s2.kept hga (by simp)
    have Ba := B2.kept hga (by cases h : vB.ownBlock with | none => exact .inl rfl | some k => exact .inr (.inl (by simp)))
    have xa0 := hga.cell x0 (by simp)
    have xa1 := hga.cell x1 (by simp)
    have HXT := Lib.hid (show vT.ownBlock ≠ some w.heap.size from fun h => by have := HTL.out _ h; omega)
    have hTap : ∀ k, vT.ownBlock = some k → ¬ (k = P ∨ k = B ∨ vL'.ownBlock = some k) := by
      rcases hTa with ⟨rfl, -⟩ | h
      · intro k hk; simp [Value.ownBlock] at hk
      · exact h.apart pla la sa
    have p10 : w2.cell? ⟨P, 10, none⟩ = some vT := cell_of_row w2 P 10 _ _ _ pl2
    have s2P := row_lt' pl2
    clear pl2 l2 s2 B2 x0 x1 u2 hga
    go_upto_region 3 with (at_builtin; refine wpList_append_t rfl _ _ rfl base vT trail rfl hTa w2.heap.size 1 e rfl hca htl' hba ?_; intro v' w4 hq4 hg4 ho4; obtain ⟨g4, o4, n4, c4, rfl⟩ := hq4.slice; have pl4 := pla.kept hg4 (fun h => hTap P h.symm (.inl rfl)); have p10 : w4.cell? ⟨P, 10, none⟩ = some vT := cell_of_row w4 P 10 _ _ _ pl4; have f10 : w4.frozen? ⟨P, 10, none⟩ = false := frozen_of_row pl4 10; have s4P := row_lt' pl4)
    have hTb : ∀ k, vT.ownBlock = some k → base ≤ k := by
      rcases hTa with ⟨rfl, -⟩ | h
      · intro k hk; simp [Value.ownBlock] at hk
      · exact fun k hk => (h.block hk).1
    obtain ⟨X, hX⟩ : ∃ X, X = w4.setCell ⟨P, 10, none⟩ (.slice (some ⟨g4, o4, none⟩) n4 c4) := ⟨_, rfl⟩
    rw [← hX]
    have hgX : w4.grownBy X (some P) := by rw [hX]; exact grown_setCell _ _ _
    have plX : PlAt X P (plC (.slice AP nP cP) AE AD G.length cE D.length cD mo tu at_ vL' B vB lost (.slice (some ⟨g4, o4, none⟩) n4 c4)) := by
      have := row_set pl4 10 (.slice (some ⟨g4, o4, none⟩) n4 c4)
      rw [plC_set10] at this
      rw [hX]; exact this
    have qX := hq4.kept hgX (BackR.ne_pl hq4 pl4)
    have l4 := la.kept hg4 (by cases h : vL'.ownBlock with | none => exact .inl rfl | some k => exact .inr (fun e' => hTap k e'.symm (.inr (.inr h))))
    have lX := l4.kept hgX (.inr (l4.ne_pl pl4))
    have s4 := sa.kept hg4 (fun h => hTap B h.symm (.inr (.inl rfl)))
    have sX := s4.kept hgX (fun h => by obtain ⟨f, hf, -⟩ := s4; exact pl4.ne_map hf (by injection h with h; exact h.symm))
    have bX := (Ba.kept hg4 HBT.out).updP pl4 ((Upd.refl _ _).of_grown hgX (fun k e' _ => by injection e' with e'; exact e'.symm))
    have xX0 := hgX.cell (hg4.cell xa0 (fun h => HXT.out h.symm)) (fun h => by injection h with h; simp only at h; omega)
    have xX1 := hgX.cell (hg4.cell xa1 (fun h => HXT.out h.symm)) (fun h => by injection h with h; simp only at h; omega)
    have BX : Below base w X := ((hUa.below hbw (fun k hk => (HEX.out k hk).2)).grown hg4 hba (fun j hj => hTb j hj)).grown hgX (by have := hg4.size; omega) (fun j hj => by injection hj with hj; omega)
    have OX : vB.ownBlock = none ∨ vB.ownBlock ≠ (Value.slice (some ⟨g4, o4, none⟩) n4 c4).ownBlock ∨ back = [] := by
      rcases HBT.out with a | a | a
      · exact .inl a
      · rcases ho4 with h' | h'
        · exact .inr (.inl (by rw [h']; exact a))
        · rcases Ba with ⟨h, -⟩ | hq
          · exact .inr (.inr h)
          · exact .inr (.inl (fun h => by have := (hq.block (h.trans h')).2.1; omega))
      · exact .inr (.inr a)
    have HOX := Lib.hid OX
    obtain ⟨T, hT'⟩ : ∃ T, T = tgt (eOf G) at_ e := ⟨_, rfl⟩
    have HT2 := Lib.hid hT'
    have hbe : ∀ V, Below X.heap.size X V → Calls Try.prog 98 #[mdlV (.slice AP nP cP) AE AD G.length cE D.length cD, lkV (at_, e)] V fun r w' => r = .returned (I T) ∧ Below V.heap.size V w' := fun V hV => by
      rw [hT']
      exact behind_any (.slice AP nP cP) AE AD cE cD G D at_ e V ((HM.out X BX).call hV) hv hat he
    have q0 : X.cell? ⟨P, 0, none⟩ = some (.slice AP nP cP) := cell_of_row X P 0 _ _ _ plX
    have q1 : X.cell? ⟨P, 1, none⟩ = some (.slice AE G.length cE) := cell_of_row X P 1 _ _ _ plX
    have q2 : X.cell? ⟨P, 2, none⟩ = some (.slice AD D.length cD) := cell_of_row X P 2 _ _ _ plX
    have sXP := row_lt' plX
    have sXX := cell_lt xX0
    have HBX := Lib.hid BX
    have hbw0 := hbw
    clear hU sz2 hUa hTa hba hca pla la sa Ba xa0 xa1 HXT hTap p10 s2P pl4 f10 s4P hq4 hg4 ho4 hTb hX hgX l4 s4 BX OX hT'
    refine wp_region_inv (by kernel_rfl) (fun L a w' => L.size = 10 ∧ ∃ u31 u32 u33 u34 u35 u36 u37 u38 u39 : Value, a = { tmps := #[.pointer (some ⟨P, 0, none⟩), I e, undef, undef, .pointer (some ⟨w.heap.size, 0, none⟩), .pointer (some ⟨P, 0, none⟩), .pointer (some ⟨P, 0, none⟩), .pointer (some ⟨P, 5, none⟩), I at_, I e, lkV (at_, e), .pointer (some ⟨P, 0, none⟩), .pointer (some ⟨P, 0, none⟩), .pointer (some ⟨P, 6, none⟩), lkV (at_, e), .pointer (some ⟨P, 0, none⟩), .pointer (some ⟨P, 0, none⟩), .pointer (some ⟨P, 3, none⟩), .pointer (some ⟨P, 3, none⟩), I mo, u20, .pointer (some ⟨P, 0, none⟩), .pointer (some ⟨P, 0, none⟩), .pointer (some ⟨P, 0, none⟩), .pointer (some ⟨P, 10, none⟩), vT, I e, .slice (some ⟨w2.heap.size, 0, none⟩) 1 1, .slice (some ⟨g4, o4, none⟩) n4 c4, .pointer (some ⟨P, 0, none⟩), .pointer (some ⟨P, 10, none⟩), u31, u32, u33, u34, u35, u36, u37, u38, u39], defers := [] } ∧ (L.getD 9 false = false → Below X.heap.size X w') ∧ (L.getD 0 false = true → u31 = .pointer (some ⟨P, 0, none⟩)) ∧ (L.getD 1 false = true → u32 = .pointer (some ⟨P, 0, none⟩)) ∧ (L.getD 2 false = true → u33 = .pointer (some ⟨P, 0, none⟩)) ∧ (L.getD 3 false = true → u34 = .pointer (some ⟨P, 0, none⟩)) ∧ (L.getD 4 false = true → u35 = mdlV (.slice AP nP cP) AE AD G.length cE D.length cD) ∧ (L.getD 5 false = true → u36 = lkV (at_, e)) ∧ (L.getD 6 false = true → L.getD 4 false = true ∧ L.getD 5 false = true ∧ u37 = I T) ∧ (L.getD 7 false = true → u38 = .pointer (some ⟨P, 0, none⟩)) ∧ (L.getD 8 false = true → u39 = .pointer (some ⟨P, 5, none⟩)) ∧ (L.getD 9 false = true → (∀ d, d ∈ ([4, 5, 6] : List Nat) → L.getD d false = true) ∧ (PlAt w' P (plC (.slice AP nP cP) AE AD G.length cE D.length cD mo tu T vL' B vB lost (.slice (some ⟨g4, o4, none⟩) n4 c4)) ∧ LRow w' base vL' (addM mo mem (at_, e)) ∧ LnkR w' B (n + 1) (addM mo mem (at_, e)) ∧ BackR w' base vB back ∧ QRow w' base (.slice (some ⟨g4, o4, none⟩) n4 c4) (numI (trail ++ [e])) ∧ Below base w w'))) ?_ ?_ ?_
    · exact ⟨by simp, _, _, _, _, _, _, _, _, _, rfl, fun _ => (Below.refl _ _).drew, by simp, by simp, by simp, by simp, by simp, by simp, by simp, by simp, by simp, by simp⟩
    · rintro i L a w' ⟨hL, u31, u32, u33, u34, u35, u36, u37, u38, u39, rfl, hbw, h0, h1, h2, h3, h4, h5, h6, h7, h8, h9⟩ hi
      have hcases : i = 0 ∨ i = 1 ∨ i = 2 ∨ i = 3 ∨ i = 4 ∨ i = 5 ∨ i = 6 ∨ i = 7 ∨ i = 8 ∨ i = 9 := by
        have : i < 10 := ready_lt hi
        omega
      have hni := ready_not' hi (by rw [hL]; exact ready_lt hi)
      rcases hcases with rfl | rfl | rfl | rfl | rfl | rfl | rfl | rfl | rfl | rfl
      · refine wpOp_val (.pointer (some ⟨P, 0, none⟩)) rfl (by rfl) (by go_simp) ?_
        exact ⟨by simpa using hL, _, _, _, _, _, _, _, _, _, rfl, fun h' => hbw ((set_other (by decide)).symm.trans h'), fun _ => rfl, (fun h => (h1 ((set_other (by decide)).symm.trans h))), (fun h => (h2 ((set_other (by decide)).symm.trans h))), (fun h => (h3 ((set_other (by decide)).symm.trans h))), (fun h => (h4 ((set_other (by decide)).symm.trans h))), (fun h => (h5 ((set_other (by decide)).symm.trans h))), (fun h => ⟨set_keep (h6 ((set_other (by decide)).symm.trans h)).1, set_keep (h6 ((set_other (by decide)).symm.trans h)).2.1, (h6 ((set_other (by decide)).symm.trans h)).2.2⟩), (fun h => (h7 ((set_other (by decide)).symm.trans h))), (fun h => (h8 ((set_other (by decide)).symm.trans h))), (fun h => ⟨fun d hd => set_keep ((h9 ((set_other (by decide)).symm.trans h)).1 d hd), (h9 ((set_other (by decide)).symm.trans h)).2⟩)⟩
      · refine wpOp_val (.pointer (some ⟨P, 0, none⟩)) rfl (by rfl) (by go_simp) ?_
        exact ⟨by simpa using hL, _, _, _, _, _, _, _, _, _, rfl, fun h' => hbw ((set_other (by decide)).symm.trans h'), (fun h => (h0 ((set_other (by decide)).symm.trans h))), fun _ => rfl, (fun h => (h2 ((set_other (by decide)).symm.trans h))), (fun h => (h3 ((set_other (by decide)).symm.trans h))), (fun h => (h4 ((set_other (by decide)).symm.trans h))), (fun h => (h5 ((set_other (by decide)).symm.trans h))), (fun h => ⟨set_keep (h6 ((set_other (by decide)).symm.trans h)).1, set_keep (h6 ((set_other (by decide)).symm.trans h)).2.1, (h6 ((set_other (by decide)).symm.trans h)).2.2⟩), (fun h => (h7 ((set_other (by decide)).symm.trans h))), (fun h => (h8 ((set_other (by decide)).symm.trans h))), (fun h => ⟨fun d hd => set_keep ((h9 ((set_other (by decide)).symm.trans h)).1 d hd), (h9 ((set_other (by decide)).symm.trans h)).2⟩)⟩
      · obtain rfl := h1 (ready_dep hi 1 (by kernel_rfl))
        refine wpOp_val (.pointer (some ⟨P, 0, none⟩)) rfl (by rfl) (by go_simp) ?_
        exact ⟨by simpa using hL, _, _, _, _, _, _, _, _, _, rfl, fun h' => hbw ((set_other (by decide)).symm.trans h'), (fun h => (h0 ((set_other (by decide)).symm.trans h))), (fun h => (h1 ((set_other (by decide)).symm.trans h))), fun _ => rfl, (fun h => (h3 ((set_other (by decide)).symm.trans h))), (fun h => (h4 ((set_other (by decide)).symm.trans h))), (fun h => (h5 ((set_other (by decide)).symm.trans h))), (fun h => ⟨set_keep (h6 ((set_other (by decide)).symm.trans h)).1, set_keep (h6 ((set_other (by decide)).symm.trans h)).2.1, (h6 ((set_other (by decide)).symm.trans h)).2.2⟩), (fun h => (h7 ((set_other (by decide)).symm.trans h))), (fun h => (h8 ((set_other (by decide)).symm.trans h))), (fun h => ⟨fun d hd => set_keep ((h9 ((set_other (by decide)).symm.trans h)).1 d hd), (h9 ((set_other (by decide)).symm.trans h)).2⟩)⟩
      · obtain rfl := h2 (ready_dep hi 2 (by kernel_rfl))
        refine wpOp_val (.pointer (some ⟨P, 0, none⟩)) rfl (by rfl) (by go_simp) ?_
        exact ⟨by simpa using hL, _, _, _, _, _, _, _, _, _, rfl, fun h' => hbw ((set_other (by decide)).symm.trans h'), (fun h => (h0 ((set_other (by decide)).symm.trans h))), (fun h => (h1 ((set_other (by decide)).symm.trans h))), (fun h => (h2 ((set_other (by decide)).symm.trans h))), fun _ => rfl, (fun h => (h4 ((set_other (by decide)).symm.trans h))), (fun h => (h5 ((set_other (by decide)).symm.trans h))), (fun h => ⟨set_keep (h6 ((set_other (by decide)).symm.trans h)).1, set_keep (h6 ((set_other (by decide)).symm.trans h)).2.1, (h6 ((set_other (by decide)).symm.trans h)).2.2⟩), (fun h => (h7 ((set_other (by decide)).symm.trans h))), (fun h => (h8 ((set_other (by decide)).symm.trans h))), (fun h => ⟨fun d hd => set_keep ((h9 ((set_other (by decide)).symm.trans h)).1 d hd), (h9 ((set_other (by decide)).symm.trans h)).2⟩)⟩
      · obtain rfl := h3 (ready_dep hi 3 (by kernel_rfl))
        have hk0 : L.getD 9 false = false := by
          cases hq : L.getD 9 false with
          | false => rfl
          | true => exact absurd ((h9 hq).1 4 (by decide)) (by rw [hni]; simp)
        have hb' := hbw hk0
        have hc' := bcellS hb'
        have hsz : X.heap.size ≤ w'.heap.size := hb'.size
        refine wpOp_val (mdlV (.slice AP nP cP) AE AD G.length cE D.length cD) rfl (by rfl) (by go_simp) ?_
        exact ⟨by simpa using hL, _, _, _, _, _, _, _, _, _, rfl, fun h' => hbw ((set_other (by decide)).symm.trans h'), (fun h => (h0 ((set_other (by decide)).symm.trans h))), (fun h => (h1 ((set_other (by decide)).symm.trans h))), (fun h => (h2 ((set_other (by decide)).symm.trans h))), (fun h => (h3 ((set_other (by decide)).symm.trans h))), fun _ => rfl, (fun h => (h5 ((set_other (by decide)).symm.trans h))), (fun h => ⟨set_keep (h6 ((set_other (by decide)).symm.trans h)).1, set_keep (h6 ((set_other (by decide)).symm.trans h)).2.1, (h6 ((set_other (by decide)).symm.trans h)).2.2⟩), (fun h => (h7 ((set_other (by decide)).symm.trans h))), (fun h => (h8 ((set_other (by decide)).symm.trans h))), (fun h => ⟨fun d hd => set_keep ((h9 ((set_other (by decide)).symm.trans h)).1 d hd), (h9 ((set_other (by decide)).symm.trans h)).2⟩)⟩
      · have hk0 : L.getD 9 false = false := by
          cases hq : L.getD 9 false with
          | false => rfl
          | true => exact absurd ((h9 hq).1 5 (by decide)) (by rw [hni]; simp)
        have hb' := hbw hk0
        have hc' := bcellS hb'
        have hsz : X.heap.size ≤ w'.heap.size := hb'.size
        refine wpOp_val (lkV (at_, e)) rfl (by rfl) (by go_simp) ?_
        exact ⟨by simpa using hL, _, _, _, _, _, _, _, _, _, rfl, fun h' => hbw ((set_other (by decide)).symm.trans h'), (fun h => (h0 ((set_other (by decide)).symm.trans h))), (fun h => (h1 ((set_other (by decide)).symm.trans h))), (fun h => (h2 ((set_other (by decide)).symm.trans h))), (fun h => (h3 ((set_other (by decide)).symm.trans h))), (fun h => (h4 ((set_other (by decide)).symm.trans h))), fun _ => rfl, (fun h => ⟨set_keep (h6 ((set_other (by decide)).symm.trans h)).1, set_keep (h6 ((set_other (by decide)).symm.trans h)).2.1, (h6 ((set_other (by decide)).symm.trans h)).2.2⟩), (fun h => (h7 ((set_other (by decide)).symm.trans h))), (fun h => (h8 ((set_other (by decide)).symm.trans h))), (fun h => ⟨fun d hd => set_keep ((h9 ((set_other (by decide)).symm.trans h)).1 d hd), (h9 ((set_other (by decide)).symm.trans h)).2⟩)⟩
      · obtain rfl := h4 (ready_dep hi 4 (by kernel_rfl))
        obtain rfl := h5 (ready_dep hi 5 (by kernel_rfl))
        have hk0 : L.getD 9 false = false := by
          cases hq : L.getD 9 false with
          | false => rfl
          | true => exact absurd ((h9 hq).1 6 (by decide)) (by rw [hni]; simp)
        have hb' := hbw hk0
        have hc' := bcellS hb'
        have hsz : X.heap.size ≤ w'.heap.size := hb'.size
        refine wpOp_wp rfl (by rfl) (wp_call_fns (vs := #[mdlV (.slice AP nP cP) AE AD G.length cE D.length cD, lkV (at_, e)]) rfl (by simp [Act.eval]) (enters_of Try.func98 (by kernel_rfl) rfl) ((hbe w' hb').mono ?_))
        rintro r w2' ⟨rfl, hb2'⟩
        exact ⟨by simpa using hL, _, _, _, _, _, _, _, _, _, rfl, fun h' => (hb'.trans (hb2'.mono hsz)), (fun h => (h0 ((set_other (by decide)).symm.trans h))), (fun h => (h1 ((set_other (by decide)).symm.trans h))), (fun h => (h2 ((set_other (by decide)).symm.trans h))), (fun h => (h3 ((set_other (by decide)).symm.trans h))), (fun h => (h4 ((set_other (by decide)).symm.trans h))), (fun h => (h5 ((set_other (by decide)).symm.trans h))), fun _ => ⟨set_keep (ready_dep hi 4 (by kernel_rfl)), set_keep (ready_dep hi 5 (by kernel_rfl)), rfl⟩, (fun h => (h7 ((set_other (by decide)).symm.trans h))), (fun h => (h8 ((set_other (by decide)).symm.trans h))), (fun h => absurd ((set_other (by decide)).symm.trans h) (by rw [hk0]; simp))⟩
      · obtain rfl := h0 (ready_dep hi 0 (by kernel_rfl))
        refine wpOp_val (.pointer (some ⟨P, 0, none⟩)) rfl (by rfl) (by go_simp) ?_
        exact ⟨by simpa using hL, _, _, _, _, _, _, _, _, _, rfl, fun h' => hbw ((set_other (by decide)).symm.trans h'), (fun h => (h0 ((set_other (by decide)).symm.trans h))), (fun h => (h1 ((set_other (by decide)).symm.trans h))), (fun h => (h2 ((set_other (by decide)).symm.trans h))), (fun h => (h3 ((set_other (by decide)).symm.trans h))), (fun h => (h4 ((set_other (by decide)).symm.trans h))), (fun h => (h5 ((set_other (by decide)).symm.trans h))), (fun h => ⟨set_keep (h6 ((set_other (by decide)).symm.trans h)).1, set_keep (h6 ((set_other (by decide)).symm.trans h)).2.1, (h6 ((set_other (by decide)).symm.trans h)).2.2⟩), fun _ => rfl, (fun h => (h8 ((set_other (by decide)).symm.trans h))), (fun h => ⟨fun d hd => set_keep ((h9 ((set_other (by decide)).symm.trans h)).1 d hd), (h9 ((set_other (by decide)).symm.trans h)).2⟩)⟩
      · obtain rfl := h7 (ready_dep hi 7 (by kernel_rfl))
        refine wpOp_val (.pointer (some ⟨P, 5, none⟩)) rfl (by rfl) (by go_simp) ?_
        exact ⟨by simpa using hL, _, _, _, _, _, _, _, _, _, rfl, fun h' => hbw ((set_other (by decide)).symm.trans h'), (fun h => (h0 ((set_other (by decide)).symm.trans h))), (fun h => (h1 ((set_other (by decide)).symm.trans h))), (fun h => (h2 ((set_other (by decide)).symm.trans h))), (fun h => (h3 ((set_other (by decide)).symm.trans h))), (fun h => (h4 ((set_other (by decide)).symm.trans h))), (fun h => (h5 ((set_other (by decide)).symm.trans h))), (fun h => ⟨set_keep (h6 ((set_other (by decide)).symm.trans h)).1, set_keep (h6 ((set_other (by decide)).symm.trans h)).2.1, (h6 ((set_other (by decide)).symm.trans h)).2.2⟩), (fun h => (h7 ((set_other (by decide)).symm.trans h))), fun _ => rfl, (fun h => ⟨fun d hd => set_keep ((h9 ((set_other (by decide)).symm.trans h)).1 d hd), (h9 ((set_other (by decide)).symm.trans h)).2⟩)⟩
      · obtain rfl := h8 (ready_dep hi 8 (by kernel_rfl))
        have hk0 : L.getD 9 false = false := hni
        have hb' := hbw hk0
        have hc' := bcellS hb'
        have hsz : X.heap.size ≤ w'.heap.size := hb'.size
        obtain ⟨d4, d5, rfl⟩ := h6 (ready_dep hi 6 (by kernel_rfl))
        have plV : PlAt w' P _ := (hb'.block P sXP).trans plX
        have hcl : X.cell? ⟨P, 5, none⟩ = some (I at_) := cell_of_row X P 5 _ _ _ plX
        have hfr : X.frozen? ⟨P, 5, none⟩ = false := frozen_of_row plX 5
        have lV := lX.call hb'
        have sV := sX.below hb' sX.lt
        have hUV : Upd (fun k => k = P) X w' := .of_below hb'
        have bV := bX.updP plX hUV
        have qV := qX.upd (ex := fun k => k = P) hUV (fun k hk e' => BackR.ne_pl qX plX (by rw [hk, e']))
        have hgV : w'.grownBy (w'.setCell ⟨P, 5, none⟩ (I T)) (some P) := grown_setCell w' ⟨P, 5, none⟩ (I T)
        have plW := row_set plV 5 (I T)
        rw [plC_set5] at plW
        have bW := bV.updP plV ((Upd.refl _ _).of_grown hgV (fun k e' _ => by injection e' with e'; exact e'.symm))
        refine wpOp_st (w'.setCell ⟨P, 5, none⟩ (I T)) rfl (by rfl) (by go_simp) ?_
        exact ⟨by simpa using hL, _, _, _, _, _, _, _, _, _, rfl, (fun h' => by rw [set_same (by omega)] at h'; cases h'), (fun h => (h0 ((set_other (by decide)).symm.trans h))), (fun h => (h1 ((set_other (by decide)).symm.trans h))), (fun h => (h2 ((set_other (by decide)).symm.trans h))), (fun h => (h3 ((set_other (by decide)).symm.trans h))), (fun h => (h4 ((set_other (by decide)).symm.trans h))), (fun h => (h5 ((set_other (by decide)).symm.trans h))), (fun h => ⟨set_keep (h6 ((set_other (by decide)).symm.trans h)).1, set_keep (h6 ((set_other (by decide)).symm.trans h)).2.1, (h6 ((set_other (by decide)).symm.trans h)).2.2⟩), (fun h => (h7 ((set_other (by decide)).symm.trans h))), (fun h => (h8 ((set_other (by decide)).symm.trans h))), fun _ => ⟨fun d hd => set_keep (by rcases (by simpa using hd : d = 4 ∨ d = 5 ∨ d = 6) with rfl | rfl | rfl <;> (first | exact d4 | exact d5 | exact ready_dep hi 6 (by kernel_rfl))), plW, lV.kept hgV (.inr (lV.ne_pl plV)), sV.kept hgV (fun h => by obtain ⟨f, hf, -⟩ := sV; exact plV.ne_map hf (by injection h with h; exact h.symm)), bW, qV.kept hgV (BackR.ne_pl qV plV), (HBX.out.trans (hb'.mono (Nat.le_trans hbw0 HBX.out.size))).grown hgV (by have := hb'.size; have := HBX.out.size; omega) (fun j hj => by injection hj with hj; omega)⟩⟩
    · rintro L a w' ⟨hL, u31, u32, u33, u34, u35, u36, u37, u38, u39, rfl, hbw, h0, h1, h2, h3, h4, h5, h6, h7, h8, h9⟩ hr
      have hall := all_listed hL (by kernel_rfl) hr
      obtain rfl := h0 (hall 0 (by decide))
      obtain rfl := h1 (hall 1 (by decide))
      obtain rfl := h2 (hall 2 (by decide))
      obtain rfl := h3 (hall 3 (by decide))
      obtain rfl := h4 (hall 4 (by decide))
      obtain rfl := h5 (hall 5 (by decide))
      have g6 := h6 (hall 6 (by decide))
      obtain rfl := h7 (hall 7 (by decide))
      obtain rfl := h8 (hall 8 (by decide))
      have g9 := (h9 (hall 9 (by decide))).2
      clear hall hr hL hbw h0 h1 h2 h3 h4 h5 h7 h8
      try dsimp only
      obtain ⟨a1, a2, a3, a4, a5, a6⟩ := g9
      have A1 := Lib.hid a1
      clear a1
      go_wp2_with fail
      refine bodyPost_end (results_none rfl _ _ _) rfl ?_
      rw [← HT2.out]
      exact ⟨rfl, _, _, A1.out, a2, a3, a4, .inr a5, HOX.out, a6⟩
end Go.Proofs.Ytehoaenkkmmobaa

/-
  A TABLE OF LISTS IN MEMORY THAT THE CALL ITSELF MADE: its rows grow by append.
-/
import Derived.Test.YthegmomjfbcabaaDoorReads
import Derived.ArgAppend
namespace Go.Proofs.YthegmomjfbcabaaDoor
open Go.RowKit
theorem wpList_append_new {P : Program} {w : World} {ops : Array Oper} {rest : List Oper} {o : Oper} {a : Act} {Q : Exit → Act → World → Prop} (hgd : o.guard = none) (s x : Operand) (t : TypeId)
    (ho : o.op = .call { callee := .builtin .append, args := #[s, x], argTypes := #[t, t] })
    (base : Nat) (e : TypeId) (i : TypeInfo) (z : Value) (size bytes : Nat) (ht : P.underlying t = some (.slice e)) (hi : P.info? e = some i) (hz : i.zero = some z)
    (hsize : i.size = size) (hby : i.bytes = bytes) (hzs : z.cells.size = size) (hsz : 0 < size)
    (v : Value) (n : Nat) (xs : List Value) (hs : a.eval s = v) (hown : w.ownsRow base e size v n xs)
    (ad : Addr) (m c : Nat) (news : List Value) (hx : a.eval x = .slice (some ad) m c) (hl : news.length = m * size) (hnews : ∀ j u, news[j]? = some u → w.cell? (ad.add j) = some u) (h1 : ∀ u ∈ news, u.oneCell' = true)
    (h63 : n + m ≤ maxLen) (hbytes : (n + m) * bytes ≤ 140737488355328) (hbase : base ≤ w.heap.size) (hm : 0 < m)
    (h : ∀ v' w', w'.ownsRow base e size v' (n + m) (xs ++ news) → w.grownBy w' v.ownBlock → (v'.ownBlock = v.ownBlock ∨ ∃ b, v'.ownBlock = some b ∧ w.heap.size ≤ b) → wpList P ops Q rest (a.put o.dst v') w') : wpList P ops Q (o :: rest) a w := by
  have grew : ∀ v' (w' : World), w'.ownsRow w.heap.size e size v' (n + m) (xs ++ news) → ∃ b, v'.ownBlock = some b ∧ w.heap.size ≤ b := fun v' w' ho => by
    rcases ho.2 with ⟨-, h0⟩ | ⟨g, cap, cur, rfl, hb, -⟩
    · omega
    · exact ⟨g, rfl, hb⟩
  rcases hown.2 with ⟨rfl, rfl⟩ | ⟨g, cap, cur, rfl, hb, hg, hle, hcm, hcs, htk⟩
  · have hxs : xs = [] := by have := hown.1; simpa using this
    subst hxs
    refine wpList_append_grows w hgd s x t ho e i z size bytes ht hi hz hsize hby hzs hsz none 0 0 [] hs (fun _ => ⟨rfl, rfl⟩) (by simp) (fun b h => by cases h) ad m c news hx hl hnews h1 (by omega) h63 hbytes fun v' w' h2 h3 => ?_
    exact h v' w' (own_base h2 hbase) h3 (.inr (grew v' w' h2))
  · by_cases hroom : n + m ≤ cap
    · exact wpList_append_fits w hgd s x t ho base e i size ht hi hsize g n cap xs hs hown ad m c news hx hl hnews h1 hroom fun w' h2 h3 => h _ w' h2 h3 (.inl rfl)
    · refine wpList_append_grows w hgd s x t ho e i z size bytes ht hi hz hsize hby hzs hsz (some ⟨g, 0, none⟩) n cap xs hs (fun h => by cases h) hown.1 (fun b hb' => by injection hb' with hb'; subst hb'; exact hown.cells rfl) ad m c news hx hl hnews h1 (by omega) h63 hbytes fun v' w' h2 h3 => ?_
      exact h v' w' (own_base h2 hbase) ⟨h3.os, h3.tape, h3.output, h3.size, fun k hk _ => h3.block k hk (by simp)⟩ (.inr (grew v' w' h2))
/-- a table: its own block, and a block for each list, all apart -/
def Tbl (w : World) (base g : Nat) (xss : List (List Int)) : Prop :=
  ∃ vs : List Value, vs.length = xss.length ∧ w.heap[g]? = some (.cells vs.toArray 24 (0, 0)) ∧ (∀ j (h : j < xss.length), ∃ u, vs[j]? = some u ∧ w.ownsRow base 3 1 u xss[j].length (xss[j].map I)) ∧
    ∀ (i j : Nat) (u v : Value) (a : Nat), i ≠ j → vs[i]? = some u → vs[j]? = some v → u.ownBlock = some a → v.ownBlock ≠ some a
theorem Tbl.new {w : World} {base g W : Nat} (h : w.heap[g]? = some (.cells (Array.replicate W (.slice none 0 0)) 24 (0, 0))) : Tbl w base g (List.replicate W []) := by
  refine ⟨List.replicate W (.slice none 0 0), by simp, by simpa using h, fun j hj => ⟨.slice none 0 0, by rw [List.length_replicate] at hj; rw [List.getElem?_replicate, if_pos hj], ?_⟩, fun i j u v a _ hi _ ha => ?_⟩
  · simp only [List.getElem_replicate]
    exact World.ownsRow_nil _ _ _ _
  · have := List.mem_of_getElem? hi
    simp at this
    rw [this.2] at ha
    simp [Value.ownBlock] at ha
theorem Tbl.grown {w w' : World} {base g : Nat} {xss : List (List Int)} (h : Tbl w base g xss) (hg : w.grownBy w' none) : Tbl w' base g xss := by
  obtain ⟨vs, h1, h2, h3, h4⟩ := h
  refine ⟨vs, h1, (hg.block g (Array.getElem?_eq_some_iff.1 h2).1 (by simp)).trans h2, fun j hj => ?_, h4⟩
  obtain ⟨u, e, h5⟩ := h3 j hj
  exact ⟨u, e, own_grown h5 hg⟩
theorem Tbl.below {B : Nat} {w w' : World} {base g : Nat} {xss : List (List Int)} (h : Tbl w base g xss) (hb : Below B w w') (hB : w.heap.size ≤ B) : Tbl w' base g xss := h.grown (grown_of_below hb hB)
theorem tbl_step {w w2 w' : World} {base g j : Nat} {xss : List (List Int)} {vs : List Value} {u v' : Value} {s : Int} (h1 : vs.length = xss.length) (h2 : w.heap[g]? = some (.cells vs.toArray 24 (0, 0)))
    (h3 : ∀ j (h : j < xss.length), ∃ u, vs[j]? = some u ∧ w.ownsRow base 3 1 u xss[j].length (xss[j].map I)) (h4 : ∀ (i j : Nat) (u v : Value) (a : Nat), i ≠ j → vs[i]? = some u → vs[j]? = some v → u.ownBlock = some a → v.ownBlock ≠ some a)
    (hg : g < base) (hj : j < xss.length) (hu : vs[j]? = some u) (hg2 : w.grownBy w2 none)
    (hown' : w'.ownsRow base 3 1 v' (xss[j].length + 1) (xss[j].map I ++ [I s])) (hgrow : w2.grownBy w' u.ownBlock) (hnew : v'.ownBlock = u.ownBlock ∨ ∃ b, v'.ownBlock = some b ∧ w2.heap.size ≤ b) :
    Tbl (w'.setCell ⟨g, j, none⟩ v') base g (xss.set j (xss[j] ++ [s])) := by
  obtain ⟨u0, hu0, hown⟩ := h3 j hj
  obtain rfl : u = u0 := Option.some.inj (hu.symm.trans hu0)
  have hgw : g < w.heap.size := (Array.getElem?_eq_some_iff.1 h2).1
  have hub := hown.lt
  have hrow : w'.heap[g]? = some (.cells vs.toArray 24 (0, 0)) := by
    refine (hgrow.block g (Nat.lt_of_lt_of_le hgw hg2.size) (fun e => ?_)).trans ((hg2.block g hgw (by simp)).trans h2)
    have := (hub g e.symm).1
    omega
  refine ⟨vs.set j v', by simp [h1], ?_, fun k hk => ?_, fun p q x y a hpq hx hy hxa => ?_⟩
  · rw [row_set hrow j v']
    simp
  · rw [List.length_set] at hk
    by_cases hkj : k = j
    · subst hkj
      refine ⟨v', by simp [h1, hj], ?_⟩
      simp only [List.getElem_set_self, List.length_append, List.length_cons, List.length_nil, List.map_append, List.map_cons, List.map_nil]
      exact ownsRow_setCell_below hown' (by show g < base; exact hg) _
    · obtain ⟨y, ey, hy⟩ := h3 k hk
      refine ⟨y, by rw [List.getElem?_set_ne (Ne.symm hkj)]; exact ey, ?_⟩
      rw [List.getElem_set_ne (Ne.symm hkj)]
      refine ownsRow_setCell_below ((own_grown hy hg2).kept hgrow ?_) (by show g < base; exact hg) _
      cases hyb : y.ownBlock with
      | none => exact .inl rfl
      | some b => exact .inr (fun e => h4 k j y u b hkj ey hu hyb e.symm)
  · have key : ∀ k y a, k ≠ j → vs[k]? = some y → v'.ownBlock = some a → y.ownBlock ≠ some a := fun k y a hk hy' hv hya => by
      rcases hnew with e | ⟨b, e, hb⟩
      · exact h4 k j y u a hk hy' hu hya (e.symm.trans hv)
      · have hkl : k < xss.length := by have := (List.getElem?_eq_some_iff.1 hy').1; omega
        obtain ⟨y2, e2, hy2⟩ := h3 k hkl
        obtain rfl : y = y2 := Option.some.inj (hy'.symm.trans e2)
        have h5 := (hy2.lt a hya).2
        have h6 := hg2.size
        rw [e] at hv
        injection hv with hv
        omega
    by_cases hp : p = j
    · subst hp
      have hx' : x = v' := by
        have : (vs.set p v')[p]? = some v' := by simp [h1, hj]
        exact Option.some.inj (hx.symm.trans this)
      subst hx'
      rw [List.getElem?_set_ne hpq] at hy
      exact key q y a (Ne.symm hpq) hy hxa
    · rw [List.getElem?_set_ne (Ne.symm hp)] at hx
      by_cases hq : q = j
      · subst hq
        have hy' : y = v' := by
          have : (vs.set q v')[q]? = some v' := by simp [h1, hj]
          exact Option.some.inj (hy.symm.trans this)
        subst hy'
        exact fun e => key p x a hp hx e hxa
      · rw [List.getElem?_set_ne (Ne.symm hq)] at hy
        exact h4 p q x y a hpq hx hy hxa
theorem Tbl.sls {w : World} {base g : Nat} {xss : List (List Int)} (h : Tbl w base g xss) : SlsR w w.heap.size (some ⟨g, 0, none⟩) xss := fun h0 => by
  obtain ⟨vs, h1, h2, h3, h4⟩ := h
  refine ⟨_, rfl, (Array.getElem?_eq_some_iff.1 h2).1, fun j hj => ?_⟩
  obtain ⟨u, e, h5⟩ := h3 j hj
  obtain ⟨A, c, rfl, hi, hm⟩ := own_ints h5
  refine ⟨A, c, ?_, hi, hm⟩
  have hadd : (⟨g, 0, none⟩ : Addr).add j = ⟨g, j, none⟩ := by unfold Addr.add; split <;> simp_all
  rw [hadd, cell_of_row w g j _ _ _ h2]
  simpa using e
end Go.Proofs.YthegmomjfbcabaaDoor
/-
  CONTRACT of the document's own answer padlockref01.Shows.
-/
namespace Go.Proofs.YthegmomjfbcabaaDoor
open Go.RowKit
/-- does a wheel show a symbol in some reading -/
def col (R : List (List Int)) (w s : Nat) : Bool := R.any (fun r => nth r w == (s : Int))
/-- the symbols below t that a wheel shows -/
def full (R : List (List Int)) (w t : Nat) : List Int := ((List.range t).filter (col R w)).map (fun s => ((s : Nat) : Int))
/-- the table when k wheels are done and the next one has been looked at below t -/
def shT (R : List (List Int)) (W S k t : Nat) : List (List Int) := (List.range W).map (fun w => if w < k then full R w S else if w = k then full R w t else [])
theorem shT_length (R : List (List Int)) (W S k t : Nat) : (shT R W S k t).length = W := by simp [shT]
theorem shT_at (R : List (List Int)) (W S k t j : Nat) (h : j < (shT R W S k t).length) : (shT R W S k t)[j] = if j < k then full R j S else if j = k then full R j t else [] := by simp [shT]
theorem shT_zero (R : List (List Int)) (W S : Nat) : shT R W S 0 0 = List.replicate W [] := by
  apply List.ext_getElem (by simp [shT])
  intro i h1 h2
  rw [shT_at]
  simp [full]
theorem full_yes {R : List (List Int)} {w t : Nat} (h : col R w t = true) : full R w (t + 1) = full R w t ++ [(t : Int)] := by
  rw [full, List.range_succ, List.filter_append, List.map_append]; simp [h, full]
theorem full_no {R : List (List Int)} {w t : Nat} (h : col R w t = false) : full R w (t + 1) = full R w t := by
  rw [full, List.range_succ, List.filter_append, List.map_append]; simp [h, full]
theorem full_length (R : List (List Int)) (w t : Nat) : (full R w t).length ≤ t := by
  rw [full, List.length_map]
  exact Nat.le_trans (List.length_filter_le _ _) (by simp)
theorem shT_set (R : List (List Int)) (W S k t : Nat) : (shT R W S k t).set k (full R k (t + 1)) = shT R W S k (t + 1) := by
  apply List.ext_getElem (by simp [shT])
  intro i h1 h2
  rw [shT_at, List.getElem_set]
  by_cases e : k = i
  · subst e; simp
  · rw [if_neg e, shT_at]
    by_cases hlt : i < k
    · simp [hlt]
    · simp [hlt, Ne.symm e]
theorem shT_skip {R : List (List Int)} {W S k t : Nat} (h : full R k (t + 1) = full R k t) : shT R W S k (t + 1) = shT R W S k t := by
  apply List.ext_getElem (by simp [shT])
  intro i h1 h2
  rw [shT_at, shT_at]
  by_cases e : i = k
  · subst e; simp [h]
  · simp [e]
theorem shT_next (R : List (List Int)) (W S k : Nat) : shT R W S k S = shT R W S (k + 1) 0 := by
  apply List.ext_getElem (by simp [shT])
  intro i h1 h2
  rw [shT_at, shT_at]
  by_cases hlt : i < k
  · simp [hlt, Nat.lt_succ_of_lt hlt]
  · by_cases e : i = k
    · subst e; simp
    · have h3 : ¬ i < k + 1 := by omega
      simp [hlt, e, h3, full]
def shw (R : List (List Int)) (W S : Nat) : List (List Int) := (List.range W).map (fun w => full R w S)
theorem shT_all (R : List (List Int)) (W S t : Nat) : shT R W S W t = shw R W S := by
  apply List.ext_getElem (by simp [shT, shw])
  intro i h1 h2
  rw [shT_at, shT_length] at *
  simp [shw, h1]
def shwL (W S : Int) (cs : List Cl) : List (List Int) := if cntE W S cs = 0 then shw (readings W.toNat S.toNat cs) W.toNat S.toNat else []
theorem take_any_succ {α : Type} {p : α → Bool} {xs : List α} {q : Nat} (hq : q < xs.length) : (xs.take (q + 1)).any p = ((xs.take q).any p || p xs[q]) := by
  rw [List.take_succ_eq_append_getElem hq, List.any_append]; simp
theorem made_nils (n : Nat) : madeCells #[Value.slice none 0 0] n = Array.replicate n (Value.slice none 0 0) := by
  apply Array.ext (by simp [size_madeCells])
  intro i h1 h2
  rw [size_madeCells] at h1
  simp [madeCells, Nat.mod_one]

set_option maxRecDepth 100000 in
set_option maxHeartbeats 4000000 in
theorem rShows_any (W S : Int) (A : Option Addr) (c : Nat) (cs : List Cl) (w : World) (hx : ClsR w w.heap.size A cs) (hl : cs.length ≤ maxLen) :
    Calls Tryd.prog 38 #[lockV W S, .slice A cs.length c] w fun e w' => ∃ A' c', e = .returned (.tuple #[.slice A' (shwL W S cs).length c', I (cntE W S cs)]) ∧ SlsR w' w'.heap.size A' (shwL W S cs) ∧ (shwL W S cs).length ≤ maxLen ∧ Below w.heap.size w w' := by
  go_enter Tryd.func38, Tryd.ntmps38
  go_wp2_with fail
  obtain ⟨w1, hw1⟩ : ∃ w1, w1 = w.alloc (.cells #[I W, I S] 23) := ⟨_, rfl⟩
  rw [← hw1]
  have l0 : w1.cell? ⟨w.heap.size, 0, none⟩ = some (I W) := by rw [hw1]; exact alloc_cell _ _ _ 0
  have l1 : w1.cell? ⟨w.heap.size, 1, none⟩ = some (I S) := by rw [hw1]; exact alloc_cell _ _ _ 1
  have hb1 : Below w.heap.size w w1 := by rw [hw1]; exact (Below.refl _ _).alloc (Nat.le_refl _) _
  have s1 : w.heap.size < w1.heap.size := by rw [hw1]; simp
  have hx1 := cls_call hb1 hx
  clear hw1 hx
  refine (rCheckClues_any W S A c cs w1 hx1 hl).mono ?_
  rintro e w2 ⟨rfl, hb2⟩
  have l0 := (hb2.cell (p := ⟨w.heap.size, 0, none⟩) s1).trans l0
  have l1 := (hb2.cell (p := ⟨w.heap.size, 1, none⟩) s1).trans l1
  have hx2 := cls_call hb2 hx1
  have s2 : w.heap.size < w2.heap.size := by have := hb2.size; omega
  have hbb2 : Below w.heap.size w w2 := hb1.trans (hb2.mono (by omega))
  clear hb1 hb2 hx1
  by_cases he : cntE W S cs = 0
  · have hb0 : (cntE W S cs != 0) = false := by simp [he]
    obtain ⟨W', S', rfl, rfl, hW, hW4, hS, hS10, hC⟩ := cntE_nat he
    have HE := Lib.hid he
    have HL := Lib.hid (show shwL W' S' cs = shw (readings W' S' cs) W' S' from if_pos he)
    clear he
    go_wp2_with fail
    refine (All_any W' S' hW hW4 hS hS10 A c cs hC w2 hx2 hl).mono ?_
    rintro e w3 ⟨v, rfl, hLs, hb3⟩
    have l0 := (hb3.cell (p := ⟨w.heap.size, 0, none⟩) s2).trans l0
    have l1 := (hb3.cell (p := ⟨w.heap.size, 1, none⟩) s2).trans l1
    have hbb3 : Below w.heap.size w w3 := hbb2.trans (hb3.mono (by omega))
    have s3 : w.heap.size < w3.heap.size := by have := hb3.size; omega
    obtain ⟨A', c', rfl, hs, hm, hc⟩ := hLs.sls
    have hbd := rd_bound hW4 hS10 cs
    have hmem := fun x (h : x ∈ readings W' S' cs) => rd_mem hS hS10 h
    generalize hR : readings W' S' cs = R at *
    have hmk := run_make_row' (P := Tryd.prog) 44 24 (.slice none 0 0) 24 Tryd.underlying44 info_sl rfl .i64 .i64 W' (by omega) (by omega)
    simp only [made_nils] at hmk
    clear hb3 hLs hx2 hR
    go_wp2_with fail
    obtain ⟨w4, hw4⟩ : ∃ w4, w4 = w3.alloc (.cells (Array.replicate W' (.slice none 0 0)) 24) := ⟨_, rfl⟩
    rw [← hw4]
    have hg4 : w4.heap[w3.heap.size]? = some (.cells (Array.replicate W' (.slice none 0 0)) 24 (0, 0)) := by rw [hw4]; exact alloc_obj _ _ _ rfl
    have hb4 : Below w3.heap.size w3 w4 := by rw [hw4]; exact (Below.refl _ _).alloc (Nat.le_refl _) _
    have ht4 := Tbl.new (base := w3.heap.size + 1) hg4
    clear hw4 hg4 hmk
    go_loopw [9] (fun i wr => ∃ k : Nat, k ≤ W' ∧ i = .int .i64 k ∧ Tbl wr (w3.heap.size + 1) w3.heap.size (shT R W' S' k 0) ∧ Below w3.heap.size w3 wr) (fun i _ => W' - (intOf i).toNat)
    case atStart => exact ⟨0, Nat.zero_le _, rfl, by rw [shT_zero]; exact ht4, hb4⟩
    case round =>
      obtain ⟨k, hk, rfl, hT, hB⟩ := hrel
      clear ht4 hb4
      have l0' := (hB.cell (p := ⟨w.heap.size, 0, none⟩) s3).trans l0
      have l1' := (hB.cell (p := ⟨w.heap.size, 1, none⟩) s3).trans l1
      by_cases hlt : k < W'
      · go_wp2_with fail
        obtain ⟨wo, hwo⟩ : ∃ wo : World, wo = wr := ⟨_, rfl⟩
        subst hwo
        clear l0' l1'
        go_loopw [10] (fun i wx => ∃ t : Nat, t ≤ S' ∧ i = .int .i64 t ∧ Tbl wx (w3.heap.size + 1) w3.heap.size (shT R W' S' k t) ∧ Below w3.heap.size w3 wx) (fun i _ => S' - (intOf i).toNat)
        case atStart => exact ⟨0, Nat.zero_le _, rfl, hT, hB⟩
        case round =>
          obtain ⟨t, ht, rfl, hT2, hB2⟩ := hrel
          clear hT hB
          have l0' := (hB2.cell (p := ⟨w.heap.size, 0, none⟩) s3).trans l0
          have l1' := (hB2.cell (p := ⟨w.heap.size, 1, none⟩) s3).trans l1
          have hs2 := hs.below hB2 (Nat.le_refl _)
          by_cases hlt2 : t < S'
          · go_wp2_with fail
            clear l0' l1'
            go_loop [11, 12] (fun s i => ∃ q : Nat, q ≤ R.length ∧ i = .int .i64 q ∧ s = .bool ((R.take q).any (fun r => nth r k == (t : Int)))) (fun _ i => R.length - (intOf i).toNat)
            case atStart => exact ⟨0, Nat.zero_le _, rfl, rfl⟩
            case round =>
              obtain ⟨q, hq, rfl, rfl⟩ := hrel
              by_cases hlt3 : q < R.length
              · have hsn := take_any_succ (p := fun r => nth r k == (t : Int)) hlt3
                obtain ⟨ad, e, hab, hcc⟩ := hs2 (by omega)
                obtain ⟨A2, c2, d1, d2, d3⟩ := hcc q hlt3
                obtain ⟨m1, m2, _, _, _⟩ := hmem R[q] (List.getElem_mem hlt3)
                generalize hx0 : R[q] = x at *
                have HSN := Lib.hid hsn
                have HM := Lib.hid m1
                obtain ⟨ad2, e2, hab2, hc2⟩ := d2.at_ (k := k) (by omega)
                subst e e2
                have hkx : k < x.length := by omega
                clear hx0 hcc hsn hmem d2 d3
                have HKX := Lib.hid hkx
                rw [m1] at d1
                clear hkx m1 m2
                cases hany : (R.take q).any (fun r => nth r k == (t : Int))
                · by_cases hxe : nth x k = (t : Int)
                  · have hb5 : (nth x k == (t : Int)) = true := by simp [hxe]
                    have HN := Lib.hid (show (R.take (q + 1)).any (fun r => nth r k == (t : Int)) = true by rw [HSN.out, hany, hb5]; rfl)
                    clear hxe
                    go_wp2
                    go_round
                    case rel => exact ⟨q + 1, by omega, by go_num, by rw [HN.out]⟩
                    case measure => simp [intOf]; omega
                  · have hb5 : (nth x k == (t : Int)) = false := by simpa using hxe
                    have HN := Lib.hid (show (R.take (q + 1)).any (fun r => nth r k == (t : Int)) = false by rw [HSN.out, hany, hb5]; rfl)
                    clear hxe
                    go_wp2
                    go_round
                    case rel => exact ⟨q + 1, by omega, by go_num, by rw [HN.out]⟩
                    case measure => simp [intOf]; omega
                · have HN := Lib.hid (show (R.take (q + 1)).any (fun r => nth r k == (t : Int)) = true by rw [HSN.out, hany]; rfl)
                  go_wp2
                  go_round
                  case rel => exact ⟨q + 1, by omega, by go_num, by rw [HN.out]⟩
                  case measure => simp [intOf]; omega
              · obtain rfl : q = R.length := by omega
                have hcol : (R.take R.length).any (fun r => nth r k == (t : Int)) = col R k t := by rw [List.take_length]; rfl
                rw [hcol]
                cases hcl : col R k t
                · have HF := Lib.hid (shT_skip (W := W') (S := S') (full_no hcl))
                  clear hcol hcl
                  go_wp2_with fail
                  go_roundw
                  case rel => exact ⟨t + 1, by omega, by go_num, by rw [HF.out]; exact hT2, hB2⟩
                  case measure => simp [intOf]; omega
                · have hfy := full_yes hcl
                  have HF := Lib.hid (shT_set R W' S' k t)
                  have hjl : k < (shT R W' S' k t).length := by rw [shT_length]; exact hlt
                  have hat : (shT R W' S' k t)[k] = full R k t := by rw [shT_at]; simp
                  rw [hfy, ← hat] at HF
                  have hfl : (shT R W' S' k t)[k].length ≤ 10 := by rw [hat]; exact Nat.le_trans (full_length R k t) (by omega)
                  generalize hxs : shT R W' S' k t = xss at *
                  obtain ⟨vs, hv1, hv2, hv3, hv4⟩ := hT2
                  obtain ⟨u, hu, hown⟩ := hv3 k hjl
                  obtain ⟨i0, hi, hz0, hz1, hz2⟩ := info_parts info_int
                  have hsz := hB2.size
                  have hgl : w3.heap.size < wr.heap.size := (Array.getElem?_eq_some_iff.1 hv2).1
                  have cu : wr.cell? ⟨w3.heap.size, k, none⟩ = some u := (cell_of_row wr _ k _ _ _ hv2).trans (by simpa using hu)
                  have hub := hown.lt
                  have HV2 := Lib.hid hv2
                  clear hv2 hcol hcl hfy hat hxs
                  go_wp2_with (at_builtin; refine wpList_append_new rfl _ _ 24 rfl (w3.heap.size + 1) 3 i0 (.int .i64 0) 1 8 Tryd.underlying24 hi hz0 hz1 hz2 rfl (by decide) _ _ _ rfl (hown.alloc _) ⟨wr.heap.size, 0, none⟩ 1 1 [.int .i64 t] rfl rfl ?c1 ?c2 ?c3 ?c4 ?c5 ?c6 ?_)
                  case c2 => rfl
                  case c3 => unfold maxLen; omega
                  case c4 => omega
                  · intro v' w5 hown' hgrow hnew
                    have hown2 : w5.ownsRow (w3.heap.size + 1) 3 1 v' (xss[k] ++ [(t : Int)]).length ((xss[k] ++ [(t : Int)]).map I) := by simpa using hown'
                    obtain ⟨Av, cv, hv, -, -⟩ := own_ints hown2
                    rw [show (xss[k] ++ [(t : Int)]).length = xss[k].length + 1 by simp] at hv
                    subst hv
                    have hrw : w5.heap[w3.heap.size]? = some (.cells vs.toArray 24 (0, 0)) := (hgrow.block _ (by simp; omega) (fun e => by have := (hub _ e.symm).1; omega)).trans ((Below.heap_alloc _ _ _ hgl).trans HV2.out)
                    have e1 : w5.cell? ⟨w3.heap.size, k, none⟩ = some u := (cell_of_row w5 _ k _ _ _ hrw).trans (by simpa using hu)
                    have f1 := frozen_of_row hrw k
                    have hT5 := tbl_step hv1 HV2.out hv3 hv4 (by omega) hjl hu (World.grownBy_alloc _ _ _) hown' hgrow (by rw [World.size_alloc]; exact hnew)
                    rw [HF.out] at hT5
                    have hB5 : Below w3.heap.size w3 (w5.setCell ⟨w3.heap.size, k, none⟩ (.slice Av (xss[k].length + 1) cv)) := (((hB2.alloc (by omega) _).grown hgrow (by simp; omega) (fun b hb => by have := (hub b hb).1; omega))).setCell (p := ⟨w3.heap.size, k, none⟩) (Nat.le_refl _) _
                    clear hown' hown2 hgrow hnew hv3 hv4 hown hub hrw cu
                    go_wp2
                    go_roundw
                    case rel => exact ⟨t + 1, by omega, by go_num, hT5, hB5⟩
                    case measure => simp [intOf]; omega
          · obtain rfl : S' = t := by omega
            go_wp2_with fail
            go_roundw
            case rel => exact ⟨k + 1, by omega, by go_num, by rw [← shT_next]; exact hT2, hB2⟩
            case measure => simp [intOf]; omega
      · obtain rfl : W' = k := by omega
        rw [shT_all] at hT
        go_wp2
        go_ret2
        have hlen : (shw R W' S').length = W' := by simp [shw]
        refine ⟨some ⟨w3.heap.size, 0, none⟩, W', by rw [HL.out, HE.out, hlen]; rfl, by rw [HL.out]; exact hT.sls, by rw [HL.out, hlen]; unfold maxLen; omega, hbb3.trans (hB.mono (by omega))⟩
  · have hb0 : (cntE W S cs != 0) = true := by simpa using he
    have HL := Lib.hid (show shwL W S cs = [] from if_neg he)
    clear he
    go_wp2
    go_ret2
    refine ⟨none, 0, by rw [HL.out]; rfl, by rw [HL.out]; exact fun h => absurd h (Nat.lt_irrefl 0), by rw [HL.out]; exact Nat.zero_le _, hbb2⟩
end Go.Proofs.YthegmomjfbcabaaDoor

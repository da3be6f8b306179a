/-
  A TABLE OF LISTS IN MEMORY THAT THE CALL ITSELF MADE: its rows grow by append.
-/
import Derived.Test.YtadbkoioipjgmaaDoorReads
import Derived.ArgAppend
namespace Go.Proofs.YtadbkoioipjgmaaDoor
open Go.RowKit
theorem wpList_append_new {P : Program} {w : World} {ops : Array Oper} {rest : List Oper} {o : Oper} {a : Act} {Q : Exit → Act → World → Prop} (hgd : o.guard = none) (s x : Operand) (t : TypeId)
    (ho : o.op = .call { callee := .builtin .append, args := #[s, x], argTypes := #[t, t] })
    (base : Nat) (e : TypeId) (i : TypeInfo) (z : Value) (size bytes : Nat) (ht : P.underlying t = some (.slice e)) (hi : P.info? e = some i) (hz : i.zero = some z)
    (hsize : i.size = size) (hby : i.bytes = bytes) (hzs : z.cells.size = size) (hsz : 0 < size)
    (v : Value) (n : Nat) (xs : List Value) (hs : a.eval s = v) (hown : w.ownsRow base e size v n xs)
    (ad : Addr) (m c : Nat) (news : List Value) (hx : a.eval x = .slice (some ad) m c) (hl : news.length = m * size) (hnews : ∀ j u, news[j]? = some u → w.cell? (ad.add j) = some u) (h1 : ∀ u ∈ news, u.oneCell' = true)
    (h63 : n + m ≤ maxLen) (hbytes : (n + m) * bytes ≤ 140737488355328) (hbase : base ≤ w.heap.size) (hm : 0 < m)
    (h : ∀ v' w', w'.ownsRow base e size v' (n + m) (xs ++ news) → w.grownBy w' v.ownBlock → (v'.ownBlock = v.ownBlock ∨ ∃ b, v'.ownBlock = some b ∧ w.heap.size ≤ b) → wpList P ops Q rest (a.put o.dst v') w') : wpList P ops Q (o :: rest) a w := by
  have grew : ∀ v' (w' : World), w'.ownsRow w.heap.size e size v' (n + m) (xs ++ news) → ∃ b, v'.ownBlock = some b ∧ w.heap.size ≤ b := fun v' w' ho => by
    rcases ho.2 with ⟨-, h0⟩ | ⟨g, cap, cur, rfl, hb, -⟩
    · omega
    · exact ⟨g, rfl, hb⟩
  rcases hown.2 with ⟨rfl, rfl⟩ | ⟨g, cap, cur, rfl, hb, hg, hle, hcm, hcs, htk⟩
  · have hxs : xs = [] := by have := hown.1; simpa using this
    subst hxs
    refine wpList_append_grows w hgd s x t ho e i z size bytes ht hi hz hsize hby hzs hsz none 0 0 [] hs (fun _ => ⟨rfl, rfl⟩) (by simp) (fun b h => by cases h) ad m c news hx hl hnews h1 (by omega) h63 hbytes fun v' w' h2 h3 => ?_
    exact h v' w' (own_base h2 hbase) h3 (.inr (grew v' w' h2))
  · by_cases hroom : n + m ≤ cap
    · exact wpList_append_fits w hgd s x t ho base e i size ht hi hsize g n cap xs hs hown ad m c news hx hl hnews h1 hroom fun w' h2 h3 => h _ w' h2 h3 (.inl rfl)
    · refine wpList_append_grows w hgd s x t ho e i z size bytes ht hi hz hsize hby hzs hsz (some ⟨g, 0, none⟩) n cap xs hs (fun h => by cases h) hown.1 (fun b hb' => by injection hb' with hb'; subst hb'; exact hown.cells rfl) ad m c news hx hl hnews h1 (by omega) h63 hbytes fun v' w' h2 h3 => ?_
      exact h v' w' (own_base h2 hbase) ⟨h3.os, h3.tape, h3.output, h3.size, fun k hk _ => h3.block k hk (by simp)⟩ (.inr (grew v' w' h2))
/-- a table: its own block, and a block for each list, all apart -/
def Tbl (w : World) (base g : Nat) (xss : List (List Int)) : Prop :=
  ∃ vs : List Value, vs.length = xss.length ∧ w.heap[g]? = some (.cells vs.toArray 24 (0, 0)) ∧ (∀ j (h : j < xss.length), ∃ u, vs[j]? = some u ∧ w.ownsRow base 3 1 u xss[j].length (xss[j].map I)) ∧
    ∀ (i j : Nat) (u v : Value) (a : Nat), i ≠ j → vs[i]? = some u → vs[j]? = some v → u.ownBlock = some a → v.ownBlock ≠ some a
theorem Tbl.new {w : World} {base g W : Nat} (h : w.heap[g]? = some (.cells (Array.replicate W (.slice none 0 0)) 24 (0, 0))) : Tbl w base g (List.replicate W []) := by
  refine ⟨List.replicate W (.slice none 0 0), by simp, by simpa using h, fun j hj => ⟨.slice none 0 0, by rw [List.length_replicate] at hj; rw [List.getElem?_replicate, if_pos hj], ?_⟩, fun i j u v a _ hi _ ha => ?_⟩
  · simp only [List.getElem_replicate]
    exact World.ownsRow_nil _ _ _ _
  · have := List.mem_of_getElem? hi
    simp at this
    rw [this.2] at ha
    simp [Value.ownBlock] at ha
theorem Tbl.grown {w w' : World} {base g : Nat} {xss : List (List Int)} (h : Tbl w base g xss) (hg : w.grownBy w' none) : Tbl w' base g xss := by
  obtain ⟨vs, h1, h2, h3, h4⟩ := h
  refine ⟨vs, h1, (hg.block g (Array.getElem?_eq_some_iff.1 h2).1 (by simp)).trans h2, fun j hj => ?_, h4⟩
  obtain ⟨u, e, h5⟩ := h3 j hj
  exact ⟨u, e, own_grown h5 hg⟩
theorem Tbl.below {B : Nat} {w w' : World} {base g : Nat} {xss : List (List Int)} (h : Tbl w base g xss) (hb : Below B w w') (hB : w.heap.size ≤ B) : Tbl w' base g xss := h.grown (grown_of_below hb hB)
theorem tbl_step {w w2 w' : World} {base g j : Nat} {xss : List (List Int)} {vs : List Value} {u v' : Value} {s : Int} (h1 : vs.length = xss.length) (h2 : w.heap[g]? = some (.cells vs.toArray 24 (0, 0)))
    (h3 : ∀ j (h : j < xss.length), ∃ u, vs[j]? = some u ∧ w.ownsRow base 3 1 u xss[j].length (xss[j].map I)) (h4 : ∀ (i j : Nat) (u v : Value) (a : Nat), i ≠ j → vs[i]? = some u → vs[j]? = some v → u.ownBlock = some a → v.ownBlock ≠ some a)
    (hg : g < base) (hj : j < xss.length) (hu : vs[j]? = some u) (hg2 : w.grownBy w2 none)
    (hown' : w'.ownsRow base 3 1 v' (xss[j].length + 1) (xss[j].map I ++ [I s])) (hgrow : w2.grownBy w' u.ownBlock) (hnew : v'.ownBlock = u.ownBlock ∨ ∃ b, v'.ownBlock = some b ∧ w2.heap.size ≤ b) :
    Tbl (w'.setCell ⟨g, j, none⟩ v') base g (xss.set j (xss[j] ++ [s])) := by
  obtain ⟨u0, hu0, hown⟩ := h3 j hj
  obtain rfl : u = u0 := Option.some.inj (hu.symm.trans hu0)
  have hgw : g < w.heap.size := (Array.getElem?_eq_some_iff.1 h2).1
  have hub := hown.lt
  have hrow : w'.heap[g]? = some (.cells vs.toArray 24 (0, 0)) := by
    refine (hgrow.block g (Nat.lt_of_lt_of_le hgw hg2.size) (fun e => ?_)).trans ((hg2.block g hgw (by simp)).trans h2)
    have := (hub g e.symm).1
    omega
  refine ⟨vs.set j v', by simp [h1], ?_, fun k hk => ?_, fun p q x y a hpq hx hy hxa => ?_⟩
  · rw [row_set hrow j v']
    simp
  · rw [List.length_set] at hk
    by_cases hkj : k = j
    · subst hkj
      refine ⟨v', by simp [h1, hj], ?_⟩
      simp only [List.getElem_set_self, List.length_append, List.length_cons, List.length_nil, List.map_append, List.map_cons, List.map_nil]
      exact ownsRow_setCell_below hown' (by show g < base; exact hg) _
    · obtain ⟨y, ey, hy⟩ := h3 k hk
      refine ⟨y, by rw [List.getElem?_set_ne (Ne.symm hkj)]; exact ey, ?_⟩
      rw [List.getElem_set_ne (Ne.symm hkj)]
      refine ownsRow_setCell_below ((own_grown hy hg2).kept hgrow ?_) (by show g < base; exact hg) _
      cases hyb : y.ownBlock with
      | none => exact .inl rfl
      | some b => exact .inr (fun e => h4 k j y u b hkj ey hu hyb e.symm)
  · have key : ∀ k y a, k ≠ j → vs[k]? = some y → v'.ownBlock = some a → y.ownBlock ≠ some a := fun k y a hk hy' hv hya => by
      rcases hnew with e | ⟨b, e, hb⟩
      · exact h4 k j y u a hk hy' hu hya (e.symm.trans hv)
      · have hkl : k < xss.length := by have := (List.getElem?_eq_some_iff.1 hy').1; omega
        obtain ⟨y2, e2, hy2⟩ := h3 k hkl
        obtain rfl : y = y2 := Option.some.inj (hy'.symm.trans e2)
        have h5 := (hy2.lt a hya).2
        have h6 := hg2.size
        rw [e] at hv
        injection hv with hv
        omega
    by_cases hp : p = j
    · subst hp
      have hx' : x = v' := by
        have : (vs.set p v')[p]? = some v' := by simp [h1, hj]
        exact Option.some.inj (hx.symm.trans this)
      subst hx'
      rw [List.getElem?_set_ne hpq] at hy
      exact key q y a (Ne.symm hpq) hy hxa
    · rw [List.getElem?_set_ne (Ne.symm hp)] at hx
      by_cases hq : q = j
      · subst hq
        have hy' : y = v' := by
          have : (vs.set q v')[q]? = some v' := by simp [h1, hj]
          exact Option.some.inj (hy.symm.trans this)
        subst hy'
        exact fun e => key p x a hp hx e hxa
      · rw [List.getElem?_set_ne (Ne.symm hq)] at hy
        exact h4 p q x y a hpq hx hy hxa
theorem Tbl.sls {w : World} {base g : Nat} {xss : List (List Int)} (h : Tbl w base g xss) : SlsR w w.heap.size (some ⟨g, 0, none⟩) xss := fun h0 => by
  obtain ⟨vs, h1, h2, h3, h4⟩ := h
  refine ⟨_, rfl, (Array.getElem?_eq_some_iff.1 h2).1, fun j hj => ?_⟩
  obtain ⟨u, e, h5⟩ := h3 j hj
  obtain ⟨A, c, rfl, hi, hm⟩ := own_ints h5
  refine ⟨A, c, ?_, hi, hm⟩
  have hadd : (⟨g, 0, none⟩ : Addr).add j = ⟨g, j, none⟩ := by unfold Addr.add; split <;> simp_all
  rw [hadd, cell_of_row w g j _ _ _ h2]
  simpa using e
end Go.Proofs.YtadbkoioipjgmaaDoor

/-
  LAYER 6, CONTRACT: wayBack. (Written by gen/gen_sro.py.)
-/
import Derived.Test.YtehoaenkkmmobaaSrN
namespace Go.Proofs.Ytehoaenkkmmobaa
open Go.RowKit Go.Shelf
/-- what holds at the head of the loop -/
structure WBk (E : Nat → List Nat) (n tu : Nat) (mem : List Lk) (at_ f : Nat) (W : Nat → Option Lk) (lvl : List Nat) : Prop where
  dom : ∀ x ∈ lvl, (W x).isSome = true ∧ x < n
  len : lvl.length ≤ n
  dep : ∃ d, Dep W at_ n d ∧ d + f = n + 1
  fuel : lvl ≠ [] → n + 2 ≤ f + kn W n
  eq : wbk E tu mem (n + 1) (waysP at_) [at_] = wbk E tu mem f W lvl
section
variable {E : Nat → List Nat} {n tu : Nat} {mem : List Lk} {at_ f : Nat} {W : Nat → Option Lk} {lvl : List Nat}
theorem WBk.start (h : at_ < n) : WBk E n tu mem at_ (n + 1) (waysP at_) [at_] where
  dom := fun x hx => by
    simp at hx
    subst hx
    exact ⟨by simp [waysP], h⟩
  len := by simp; omega
  dep := ⟨0, Dep.start _ _, by omega⟩
  fuel := fun _ => by rw [kn_start h]; omega
  eq := rfl
theorem WBk.ext (h : WBk E n tu mem at_ f W lvl) (ht : ∀ p, p < n → ∀ j, j < (E p).length → tgt E p j < n) : Ext n W (sprA E lvl (W, [])) := Ext.all ht lvl h.dom _ (Ext.refl n W)
theorem WBk.pos (h : WBk E n tu mem at_ f W lvl) (hne : lvl ≠ []) : ∃ f', f = f' + 1 := ⟨f - 1, by have := h.fuel hne; have := kn_le W n; omega⟩
theorem WBk.next (h : WBk E n tu mem at_ (f + 1) W lvl) (ht : ∀ p, p < n → ∀ j, j < (E p).length → tgt E p j < n) (hne : lvl ≠ []) (he : ((sprA E lvl (W, [])).2.filter fun x => (untr E tu mem x).isSome) = []) : WBk E n tu mem at_ f (sprA E lvl (W, [])).1 (sprA E lvl (W, [])).2 where
  dom := (h.ext ht).mem
  len := by have := (h.ext ht).num; have := kn_le (sprA E lvl (W, [])).1 n; omega
  dep := by
    obtain ⟨d, h1, h2⟩ := h.dep
    exact ⟨d + 1, h1.next (h.ext ht), by omega⟩
  fuel := fun hne' => by
    have h1 := h.fuel hne
    have h2 := (h.ext ht).num
    have h3 : 0 < (sprA E lvl (W, [])).2.length := List.length_pos_iff.2 hne'
    omega
  eq := by
    have hi : lvl.isEmpty = false := by cases lvl <;> simp_all
    rw [h.eq, wbk, hi, if_neg (by simp)]
    simp only [he, List.min?_nil]
theorem WBk.hit (h : WBk E n tu mem at_ (f + 1) W lvl) (ht : ∀ p, p < n → ∀ j, j < (E p).length → tgt E p j < n) (hne : lvl ≠ []) {m : Nat} (h1 : m ∈ ((sprA E lvl (W, [])).2.filter fun x => (untr E tu mem x).isSome)) (h2 : ∀ x ∈ ((sprA E lvl (W, [])).2.filter fun x => (untr E tu mem x).isSome), m ≤ x) :
    wayB E n tu mem at_ = edg (sprA E lvl (W, [])).1 at_ (n + 1) m ∧ wayOk (sprA E lvl (W, [])).1 at_ n (n + 1) m ∧ m < n := by
  have hi : lvl.isEmpty = false := by cases lvl <;> simp_all
  have hx := h.ext ht
  have hm := hx.mem m (List.mem_filter.1 h1).1
  obtain ⟨d, d1, d2⟩ := h.dep
  refine ⟨?_, wayOk_le (by omega) (d1.next hx m hm.1), hm.2⟩
  have : wbk E tu mem (n + 1) (waysP at_) [at_] = some ((sprA E lvl (W, [])).1, m) := by
    rw [h.eq, wbk, hi, if_neg (by simp)]
    simp only [min_eq h1 h2]
  rw [wayB, this]
theorem WBk.miss (h : WBk E n tu mem at_ f W []) : wayB E n tu mem at_ = [] := by
  rw [wayB, h.eq, wbk_nil]
end
theorem min_ex {l : List Nat} (h : l ≠ []) : ∃ m, m ∈ l ∧ ∀ x ∈ l, m ≤ x := by
  cases e : l.min? with
  | none => exact absurd (List.min?_eq_none_iff.1 e) h
  | some m => exact ⟨m, (List.min?_eq_some_iff.1 e).1, (List.min?_eq_some_iff.1 e).2⟩
theorem numI_filter (l : List Nat) (q : Nat → Bool) : (numI l).filter (fun x => !(!q x.toNat)) = numI (l.filter q) := by
  induction l with
  | nil => rfl
  | cons a t ih =>
    have e : numI (a :: t) = (a : Int) :: numI t := rfl
    rw [e, List.filter_cons, List.filter_cons, ih]
    cases h : q a <;> simp [numI, h]
theorem tgt_lt {G : List (List Ed)} {D : List Int} (hv : Vld G D) : ∀ p, p < G.length → ∀ j, j < (eOf G p).length → tgt (eOf G) p j < G.length := fun p hp j hj => (eOf_tgt hv hp (by rw [← eOf_len hp]; exact hj)).2
set_option maxRecDepth 100000 in
set_option maxHeartbeats 4000000 in
theorem wayBack_any (P nP cP : Nat) (AP AE AD : Option Addr) (cE cD : Nat) (mo : Int) (tu at_ : Nat) (vL vB vT : Value) (lost : Bool) (B n : Nat) (G : List (List Ed)) (D : List Int) (mem : List Lk) (w : World)
    (hP : PlAt w P (plC (.slice AP nP cP) AE AD G.length cE D.length cD mo tu at_ vL B vB lost vT)) (hm : MdR w AE AD G D) (hv : Vld G D) (hl : LnkR w B n mem) (hat : at_ < G.length) (ht : tu ≤ 99) :
    Calls Try.prog 103 #[.pointer (some ⟨P, 0, none⟩)] w fun e w' => ∃ v, e = .returned v ∧ OwnI w' w.heap.size v (numI (wayB (eOf G) G.length tu mem at_)) ∧ Below w.heap.size w w' := by
  obtain ⟨w1, hw1, hs1, y0, hb1⟩ := one_box w (.cells #[.pointer (some ⟨P, 0, none⟩)] 128)
  have hP1 : PlAt w1 P _ := (hb1.block P (row_lt' hP)).trans hP
  have sP : P < w1.heap.size := by have := row_lt' hP; omega
  have sX : w.heap.size < w1.heap.size := by omega
  have hm1 := hm.call hb1
  have hl1 := hl.below hb1 hl.lt
  have x0 : w1.cell? ⟨w.heap.size, 0, none⟩ = some (.pointer (some ⟨P, 0, none⟩)) := cell_of_row w1 _ 0 _ _ _ y0
  have HT := Lib.hid (tgt_lt hv)
  have hmx := hv.many
  -- what holds in every world behind w1
  have HW := Lib.hid (show ∀ V, Below w1.heap.size w1 V → PlAt V P (plC (.slice AP nP cP) AE AD G.length cE D.length cD mo tu at_ vL B vB lost vT) ∧ MdR V AE AD G D ∧ LnkR V B n mem ∧ V.cell? ⟨w.heap.size, 0, none⟩ = some (.pointer (some ⟨P, 0, none⟩)) from fun V hV => ⟨(hV.block P sP).trans hP1, hm1.call hV, hl1.below hV hl1.lt, (hV.cell sX).trans x0⟩)
  have hP5 : ∀ V, Below w1.heap.size w1 V → V.cell? ⟨P, 5, none⟩ = some (I at_) := fun V hV => cell_of_row V P 5 _ _ _ (HW.out V hV).1
  have H5 := Lib.hid hP5
  have p5 := hP5 w1 (Below.refl _ _)
  have hwf := waysFrom_any at_ G.length hat hmx w1
  clear hP hP1 hm hm1 hl hl1 y0 hP5
  go_enter Try.func103, Try.ntmps103
  go_upto_region 1 with fail
  rw [← hw1]
  clear hw1
  go_upto_region 3 with (go_at_call 99; refine hwf.mono ?_; rintro e w2 ⟨Bw, rfl, hBw, hWw, hb2⟩)
  have x2 := (HW.out w2 hb2).2.2.2
  have p2 := H5.out w2 hb2
  obtain ⟨w3, hw3, hs3, y3, hb3⟩ := one_box w2 (.cells #[I at_] 3)
  subst hw3
  have hb23 := hb2.trans (hb3.mono hb2.size)
  have hO3 : OwnI (w2.alloc (.cells #[I at_] 3)) w1.heap.size (.slice (some ⟨w2.heap.size, 0, none⟩) 1 1) (numI [at_]) := own_block (x := [(at_ : Int)]) (by simpa using y3) hb2.size (by unfold maxLen; simp)
  have hW3 := hWw.below hb3 hWw.lt
  have HS := Lib.hid (⟨hb23, hW3, hO3, WBk.start (E := eOf G) (tu := tu) (mem := mem) hat⟩ : Below w1.heap.size w1 (w2.alloc (.cells #[I at_] 3)) ∧ WayR (w2.alloc (.cells #[I at_] 3)) Bw (kn (waysP at_) G.length) (waysP at_) ∧ OwnI (w2.alloc (.cells #[I at_] 3)) w1.heap.size (.slice (some ⟨w2.heap.size, 0, none⟩) 1 1) (numI [at_]) ∧ WBk (eOf G) G.length tu mem at_ (G.length + 1) (waysP at_) [at_])
  have sB : Bw < w2.heap.size := hWw.lt
  clear hwf hWw hb23 hO3 hW3 y3 p5 x0 hs3 hb3
  go_wp2_with fail
  go_loopg [5] (G.length + 1) (fun gg lv wr => ∃ (f : Nat) (W : Nat → Option Lk) (lvl : List Nat), f ≤ gg ∧ Hid (Below w1.heap.size w1 wr ∧ WayR wr Bw (kn W G.length) W ∧ OwnI wr w1.heap.size lv (numI lvl) ∧ WBk (eOf G) G.length tu mem at_ f W lvl))
  case atStart => exact ⟨_, _, _, Nat.le_refl _, HS⟩
  case round =>
    obtain ⟨f, W, lvl, hf, HH⟩ := hrel
    obtain ⟨v, hv5⟩ : ∃ v : Value, v = u5 := ⟨_, rfl⟩
    subst hv5
    obtain ⟨wo, hwo⟩ : ∃ wo : World, wo = wr := ⟨_, rfl⟩
    rw [← hwo] at HH
    rw [← hwo]
    clear hwo HS
    obtain ⟨hbo, hWo, hOo, hK⟩ := HH.out
    obtain ⟨A, c, e5, hxo, -⟩ := own_ints hOo
    rw [numI_length] at e5
    by_cases hne : lvl = []
    · subst hne
      subst e5
      have HK := Lib.hid hK.miss
      have HB := Lib.hid (hb1.trans (hbo.mono hb1.size))
      clear HH hbo hWo hOo hK hxo hb1 hb2
      go_wp2_with fail
      go_ret
      exact ⟨_, rfl, by rw [HK.out]; exact World.ownsRow_nil _ _ _ _, HB.out⟩
    · obtain ⟨f', rfl⟩ := hK.pos hne
      obtain ⟨hPo, hmo', hlo, xo⟩ := HW.out wo hbo
      have po := H5.out wo hbo
      have q0 : wo.cell? ⟨P, 0, none⟩ = some (.slice AP nP cP) := cell_of_row wo P 0 _ _ _ hPo
      have q1 : wo.cell? ⟨P, 1, none⟩ = some (.slice AE G.length cE) := cell_of_row wo P 1 _ _ _ hPo
      have q2 : wo.cell? ⟨P, 2, none⟩ = some (.slice AD D.length cD) := cell_of_row wo P 2 _ _ _ hPo
      have hsp := spread_any AP nP cP AE AD A cE cD c Bw G D W lvl wo hmo' hv hWo hxo (fun p hp => (hK.dom p hp).2) (Nat.le_trans hK.len hmx)
      have hlp : 0 < lvl.length := List.length_pos_iff.2 hne
      have hll : lvl.length ≤ 300 := Nat.le_trans hK.len hmx
      have HX := Lib.hid (hK.ext HT.out)
      have HNX := Lib.hid (fun he => hK.next HT.out hne he)
      have HHIT := Lib.hid (fun (m : Nat) h1 h2 => hK.hit HT.out hne (m := m) h1 h2)
      obtain ⟨s, hs⟩ : ∃ s, s = sprA (eOf G) lvl (W, []) := ⟨_, rfl⟩
      rw [← hs] at hsp HX HNX HHIT
      have HBO := Lib.hid hbo
      have sW : w1.heap.size ≤ wo.heap.size := hbo.size
      have hsn : s.2.length ≤ 300 := by have := HX.out.num; have := kn_le s.1 G.length; omega
      subst e5
      clear HH hWo hOo hK hxo hPo hmo' hlo hs hbo hne
      go_upto_region 6 with (go_at_call 100; refine hsp.mono ?_; rintro e w4 ⟨v4, rfl, hO4, hW4, hg4⟩)
      have hb4 : Below w1.heap.size w1 w4 := HBO.out.grown hg4 sW (fun j hj => by injection hj with hj; omega)
      have hO4' : OwnI w4 wo.heap.size v4 (numI s.2) := by rw [OwnI, numI_length]; exact hO4
      have hcl := clone_own hO4' (by rw [numI_length]; omega)
      have HD := Lib.hid (show ∀ (w5 : World) (v5 : Value), OwnI w5 w4.heap.size v5 (numI s.2) → Below w4.heap.size w4 w5 → Calls Try.prog 112 #[v5, .func (.func 111) #[] #[.pointer (some ⟨w.heap.size, 0, none⟩)]] w5 fun e w' => ∃ A c, e = .returned (.slice A (s.2.filter fun x => (untr (eOf G) tu mem x).isSome).length c) ∧ IntsR w' w'.heap.size A (numI (s.2.filter fun x => (untr (eOf G) tu mem x).isSome)) ∧ w5.grownBy w' v5.ownBlock from fun w5 v5 hO5 hb5 => by
        have hd := delete_own 111 #[.pointer (some ⟨w.heap.size, 0, none⟩)] (fun args w => enters_of Try.func111 (by kernel_rfl) rfl args w) (fun x => !(untr (eOf G) tu mem x.toNat).isSome) hO5 (by rw [numI_length]; omega) (fun W x hx hgW => by
          obtain ⟨y, hy, rfl⟩ := List.mem_map.1 hx
          have hbW : Below w1.heap.size w1 W := (hb4.trans (hb5.mono hb4.size)).grown hgW (Nat.le_trans hb4.size hb5.size) (fun j hj => by have := (hO5.lt j hj).1; have := hb4.size; omega)
          obtain ⟨a1, a2, a3, a4⟩ := HW.out W hbW
          refine (isKnown_any P w.heap.size (.slice AP nP cP) AE AD cE cD mo tu at_ vL vB vT lost B n G D mem y W a1 a2 hv a3 (HX.out.mem y hy).2 ht a4).mono ?_
          rintro e w' ⟨rfl, rfl⟩
          exact ⟨ret_bool (by show _ = !(untr (eOf G) tu mem ((y : Int).toNat)).isSome; rw [Int.toNat_natCast]; cases untr (eOf G) tu mem y <;> rfl), grown_refl _ _⟩)
        have e : (numI s.2).filter (fun x => !(!(untr (eOf G) tu mem x.toNat).isSome)) = numI (s.2.filter fun x => (untr (eOf G) tu mem x).isSome) := numI_filter s.2 (fun x => (untr (eOf G) tu mem x).isSome)
        rw [e, numI_length] at hd
        exact hd)
      have HO4 := Lib.hid hO4'
      have HW4 := Lib.hid hW4
      have sW4 := hb4.size
      have HB4 := Lib.hid hb4
      clear hsp hO4 hO4' hW4 hg4 hb4 po q0 q1 q2 xo
      go_upto_region 7 with (first
        | (go_at_call 113; refine hcl.mono ?_; rintro e w5 ⟨v5, rfl, hO5, hb5⟩; have hdel := HD.out w5 v5 hO5 hb5)
        | (go_at_call 112; refine hdel.mono ?_; rintro e w6 ⟨A6, c6, rfl, hx6, hg6⟩))
      obtain ⟨L6, hL6⟩ : ∃ L6, L6 = s.2.filter fun x => (untr (eOf G) tu mem x).isSome := ⟨_, rfl⟩
      rw [← hL6] at hx6 ⊢
      have HL6 := Lib.hid hL6
      have hL6l : L6.length ≤ 300 := by rw [hL6]; exact Nat.le_trans (List.length_filter_le _ _) hsn
      have hsz5 : w4.heap.size ≤ w5.heap.size := hb5.size
      have hb6 : Below w1.heap.size w1 w6 := (HB4.out.trans (hb5.mono sW4)).grown hg6 (by omega) (fun j hj => by have := (hO5.lt j hj).1; omega)
      have hWl := HW4.out.lt
      have hW6 := (HW4.out.below hb5 hWl).kept hg6 (fun e => by have := (hO5.lt Bw e.symm).1; omega)
      have hO6 : OwnI w6 w1.heap.size v4 (numI s.2) := OwnI.mono (base := wo.heap.size) ((own_call HO4.out hb5).kept hg6 (by
        cases hv : v4.ownBlock with
        | none => exact .inl rfl
        | some k => exact .inr fun e => by have := (HO4.out.lt k hv).2; have := (hO5.lt k e.symm).1; omega)) sW
      clear hL6 hcl hdel HD HB4 HO4 HW4 hO5 hb5 hg6 hsz5 hWl
      by_cases hE : L6 = []
      · have HR := Lib.hid (⟨hb6, hW6, hO6, HNX.out (by rw [← HL6.out]; exact hE)⟩ : Below w1.heap.size w1 w6 ∧ WayR w6 Bw (kn s.1 G.length) s.1 ∧ OwnI w6 w1.heap.size v4 (numI s.2) ∧ WBk (eOf G) G.length tu mem at_ f' s.1 s.2)
        subst hE
        clear hb6 hW6 hO6 HNX HHIT HX HL6 hx6 HBO
        go_wp2_with fail
        go_roundg f'
        case measure => omega
        case rel => exact ⟨f', s.1, s.2, Nat.le_refl _, HR⟩
      · obtain ⟨m0, hm1, hm2⟩ := min_ex hE
        obtain ⟨hw, hok, hmn⟩ := HHIT.out m0 (by rw [← HL6.out]; exact hm1) (by rw [← HL6.out]; exact hm2)
        have hlen6 : 0 < L6.length := List.length_pos_iff.2 hE
        obtain ⟨LE, hLE⟩ : ∃ LE, LE = edg s.1 at_ (G.length + 1) m0 := ⟨_, rfl⟩
        rw [← hLE] at hw
        have HWB := Lib.hid hw
        have CM : ∀ V, Below w6.heap.size w6 V → Calls Try.prog 115 #[.slice A6 L6.length c6] V fun e w' => e = .returned (I m0) ∧ Below V.heap.size V w' := fun V hV => by
          have h := min_any A6 c6 (numI L6) V (ints_call hV hx6) (by rw [numI_length]; exact hlen6) (by rw [numI_length]; omega)
          rw [numI_length] at h
          refine h.mono ?_
          rintro e w' ⟨m, rfl, ⟨j, hj, h1⟩, h2, rfl⟩
          obtain ⟨i, hi, e⟩ := List.getElem_of_mem hm1
          have h3 := h2 i hi
          rw [numI_nth hi, e] at h3
          rw [numI_nth hj] at h1
          have h4 := hm2 L6[j] (List.getElem_mem hj)
          obtain rfl : m = m0 := by omega
          exact ⟨rfl, Below.refl _ _⟩
        have CE : ∀ V, Below w6.heap.size w6 V → Calls Try.prog 114 #[.map (some Bw), I at_, I m0] V fun e w' => ∃ v, e = .returned v ∧ OwnI w' V.heap.size v (numI LE) ∧ Below V.heap.size V w' := fun V hV => by
          rw [hLE]
          exact edges_any Bw (kn s.1 G.length) G.length at_ s.1 hmx hat (G.length + 1) m0 V (by omega) hmn hok (hW6.below hV hW6.lt)
        have x6 := (HW.out w6 hb6).2.2.2
        have p6 := H5.out w6 hb6
        have s6 := hb6.size
        have s6P : P < w6.heap.size := by omega
        have s6X : w.heap.size < w6.heap.size := by omega
        have HB6 := Lib.hid (hb1.trans (hb6.mono hb1.size))
        have hz1 := hb1.size
        clear hw hok hmn hm1 hm2 hLE hb6 hW6 hO6 HNX HHIT HX HL6 hx6 HBO hE HW H5 HT
        go_upto_region 8 with fail
        refine wp_region_inv (by kernel_rfl) (fun L a w' => L.size = 9 ∧ ∃ u35 u36 u37 u38 u39 u40 u41 u42 u2 : Value, a = { tmps := #[.pointer (some ⟨P, 0, none⟩), .pointer (some ⟨w.heap.size, 0, none⟩), u2, .map (some Bw), .func (.func 111) #[] #[.pointer (some ⟨w.heap.size, 0, none⟩)], v4, .slice A6 L6.length c6, .pointer (some ⟨P, 0, none⟩), .pointer (some ⟨P, 0, none⟩), .pointer (some ⟨P, 5, none⟩), I at_, .map (some Bw), .func (.func 111) #[] #[.pointer (some ⟨w.heap.size, 0, none⟩)], .pointer (some ⟨P, 0, none⟩), .pointer (some ⟨P, 0, none⟩), .pointer (some ⟨P, 5, none⟩), I at_, .slice (some ⟨w2.heap.size, 0, none⟩) 1 1, .slice A lvl.length c, I lvl.length, .bool true, .map (some Bw), .pointer (some ⟨P, 0, none⟩), .pointer (some ⟨P, 0, none⟩), .pointer (some ⟨P, 0, none⟩), .agg #[.slice AP nP cP, .slice AE G.length cE, .slice AD D.length cD], .slice A lvl.length c, v4, v4, v5, .func (.func 111) #[] #[.pointer (some ⟨w.heap.size, 0, none⟩)], .slice A6 L6.length c6, .slice A6 L6.length c6, I L6.length, .bool true, u35, u36, u37, u38, u39, u40, u41, u42], defers := [] } ∧ Below w6.heap.size w6 w' ∧ (L.getD 0 false = true → u35 = .map (some Bw)) ∧ (L.getD 1 false = true → u36 = .pointer (some ⟨P, 0, none⟩)) ∧ (L.getD 2 false = true → u37 = .pointer (some ⟨P, 0, none⟩)) ∧ (L.getD 3 false = true → u38 = .pointer (some ⟨P, 5, none⟩)) ∧ (L.getD 4 false = true → u39 = I at_) ∧ (L.getD 5 false = true → u40 = .slice A6 L6.length c6) ∧ (L.getD 6 false = true → u41 = I m0) ∧ (L.getD 7 false = true → OwnI w' w6.heap.size u42 (numI LE)) ∧ (L.getD 8 false = true → OwnI w' w6.heap.size u2 (numI LE))) ?_ ?_ ?_
        · exact ⟨by simp, _, _, _, _, _, _, _, _, _, rfl, (Below.refl _ _).drew, by simp, by simp, by simp, by simp, by simp, by simp, by simp, by simp, by simp⟩
        · rintro i L a w' ⟨hL, u35, u36, u37, u38, u39, u40, u41, u42, u2, rfl, hbw', h0, h1, h2, h3, h4, h5, h6, h7, h8⟩ hi
          have hsz : w6.heap.size ≤ w'.heap.size := hbw'.size
          have hcases : i = 0 ∨ i = 1 ∨ i = 2 ∨ i = 3 ∨ i = 4 ∨ i = 5 ∨ i = 6 ∨ i = 7 ∨ i = 8 := by
            have : i < 9 := ready_lt hi
            omega
          have hc' := bcellS hbw'
          rcases hcases with rfl | rfl | rfl | rfl | rfl | rfl | rfl | rfl | rfl
          · refine wpOp_val (.map (some Bw)) rfl (by rfl) (by go_simp) ?_
            exact ⟨by simpa using hL, _, _, _, _, _, _, _, _, _, rfl, hbw', fun _ => rfl, (fun h => (h1 ((set_other (by decide)).symm.trans h))), (fun h => (h2 ((set_other (by decide)).symm.trans h))), (fun h => (h3 ((set_other (by decide)).symm.trans h))), (fun h => (h4 ((set_other (by decide)).symm.trans h))), (fun h => (h5 ((set_other (by decide)).symm.trans h))), (fun h => (h6 ((set_other (by decide)).symm.trans h))), (fun h => (h7 ((set_other (by decide)).symm.trans h))), (fun h => (h8 ((set_other (by decide)).symm.trans h)))⟩
          · refine wpOp_val (.pointer (some ⟨P, 0, none⟩)) rfl (by rfl) (by go_simp) ?_
            exact ⟨by simpa using hL, _, _, _, _, _, _, _, _, _, rfl, hbw', (fun h => (h0 ((set_other (by decide)).symm.trans h))), fun _ => rfl, (fun h => (h2 ((set_other (by decide)).symm.trans h))), (fun h => (h3 ((set_other (by decide)).symm.trans h))), (fun h => (h4 ((set_other (by decide)).symm.trans h))), (fun h => (h5 ((set_other (by decide)).symm.trans h))), (fun h => (h6 ((set_other (by decide)).symm.trans h))), (fun h => (h7 ((set_other (by decide)).symm.trans h))), (fun h => (h8 ((set_other (by decide)).symm.trans h)))⟩
          · obtain rfl := h1 (ready_dep hi 1 (by kernel_rfl))
            refine wpOp_val (.pointer (some ⟨P, 0, none⟩)) rfl (by rfl) (by go_simp) ?_
            exact ⟨by simpa using hL, _, _, _, _, _, _, _, _, _, rfl, hbw', (fun h => (h0 ((set_other (by decide)).symm.trans h))), (fun h => (h1 ((set_other (by decide)).symm.trans h))), fun _ => rfl, (fun h => (h3 ((set_other (by decide)).symm.trans h))), (fun h => (h4 ((set_other (by decide)).symm.trans h))), (fun h => (h5 ((set_other (by decide)).symm.trans h))), (fun h => (h6 ((set_other (by decide)).symm.trans h))), (fun h => (h7 ((set_other (by decide)).symm.trans h))), (fun h => (h8 ((set_other (by decide)).symm.trans h)))⟩
          · obtain rfl := h2 (ready_dep hi 2 (by kernel_rfl))
            refine wpOp_val (.pointer (some ⟨P, 5, none⟩)) rfl (by rfl) (by go_simp) ?_
            exact ⟨by simpa using hL, _, _, _, _, _, _, _, _, _, rfl, hbw', (fun h => (h0 ((set_other (by decide)).symm.trans h))), (fun h => (h1 ((set_other (by decide)).symm.trans h))), (fun h => (h2 ((set_other (by decide)).symm.trans h))), fun _ => rfl, (fun h => (h4 ((set_other (by decide)).symm.trans h))), (fun h => (h5 ((set_other (by decide)).symm.trans h))), (fun h => (h6 ((set_other (by decide)).symm.trans h))), (fun h => (h7 ((set_other (by decide)).symm.trans h))), (fun h => (h8 ((set_other (by decide)).symm.trans h)))⟩
          · obtain rfl := h3 (ready_dep hi 3 (by kernel_rfl))
            refine wpOp_val (I at_) rfl (by rfl) (by go_simp) ?_
            exact ⟨by simpa using hL, _, _, _, _, _, _, _, _, _, rfl, hbw', (fun h => (h0 ((set_other (by decide)).symm.trans h))), (fun h => (h1 ((set_other (by decide)).symm.trans h))), (fun h => (h2 ((set_other (by decide)).symm.trans h))), (fun h => (h3 ((set_other (by decide)).symm.trans h))), fun _ => rfl, (fun h => (h5 ((set_other (by decide)).symm.trans h))), (fun h => (h6 ((set_other (by decide)).symm.trans h))), (fun h => (h7 ((set_other (by decide)).symm.trans h))), (fun h => (h8 ((set_other (by decide)).symm.trans h)))⟩
          · refine wpOp_val (.slice A6 L6.length c6) rfl (by rfl) (by go_simp) ?_
            exact ⟨by simpa using hL, _, _, _, _, _, _, _, _, _, rfl, hbw', (fun h => (h0 ((set_other (by decide)).symm.trans h))), (fun h => (h1 ((set_other (by decide)).symm.trans h))), (fun h => (h2 ((set_other (by decide)).symm.trans h))), (fun h => (h3 ((set_other (by decide)).symm.trans h))), (fun h => (h4 ((set_other (by decide)).symm.trans h))), fun _ => rfl, (fun h => (h6 ((set_other (by decide)).symm.trans h))), (fun h => (h7 ((set_other (by decide)).symm.trans h))), (fun h => (h8 ((set_other (by decide)).symm.trans h)))⟩
          · obtain rfl := h5 (ready_dep hi 5 (by kernel_rfl))
            refine wpOp_wp rfl (by rfl) (wp_call_fns (vs := #[.slice A6 L6.length c6]) rfl (by simp [Act.eval]) (enters_of Try.func115 (by kernel_rfl) rfl) (((CM w' hbw')).mono ?_))
            rintro e w2 ⟨rfl, hb⟩
            exact ⟨by simpa using hL, _, _, _, _, _, _, _, _, _, rfl, (hbw'.trans (hb.mono hbw'.size)), (fun h => (h0 ((set_other (by decide)).symm.trans h))), (fun h => (h1 ((set_other (by decide)).symm.trans h))), (fun h => (h2 ((set_other (by decide)).symm.trans h))), (fun h => (h3 ((set_other (by decide)).symm.trans h))), (fun h => (h4 ((set_other (by decide)).symm.trans h))), (fun h => (h5 ((set_other (by decide)).symm.trans h))), fun _ => rfl, (fun h => (h7 ((set_other (by decide)).symm.trans h)).call hb), (fun h => (h8 ((set_other (by decide)).symm.trans h)).call hb)⟩
          · obtain rfl := h0 (ready_dep hi 0 (by kernel_rfl))
            obtain rfl := h4 (ready_dep hi 4 (by kernel_rfl))
            obtain rfl := h6 (ready_dep hi 6 (by kernel_rfl))
            refine wpOp_wp rfl (by rfl) (wp_call_fns (vs := #[.map (some Bw), I at_, I m0]) rfl (by simp [Act.eval]) (enters_of Try.func114 (by kernel_rfl) rfl) (((CE w' hbw')).mono ?_))
            rintro e w2 ⟨v, rfl, hv, hb⟩
            exact ⟨by simpa using hL, _, _, _, _, _, _, _, _, _, rfl, (hbw'.trans (hb.mono hbw'.size)), (fun h => (h0 ((set_other (by decide)).symm.trans h))), (fun h => (h1 ((set_other (by decide)).symm.trans h))), (fun h => (h2 ((set_other (by decide)).symm.trans h))), (fun h => (h3 ((set_other (by decide)).symm.trans h))), (fun h => (h4 ((set_other (by decide)).symm.trans h))), (fun h => (h5 ((set_other (by decide)).symm.trans h))), (fun h => (h6 ((set_other (by decide)).symm.trans h))), fun _ => hv.mono hsz, (fun h => (h8 ((set_other (by decide)).symm.trans h)).call hb)⟩
          · have g7 := h7 (ready_dep hi 7 (by kernel_rfl))
            refine wpOp_val (u42) rfl (by rfl) (by go_simp) ?_
            exact ⟨by simpa using hL, _, _, _, _, _, _, _, _, _, rfl, hbw', (fun h => (h0 ((set_other (by decide)).symm.trans h))), (fun h => (h1 ((set_other (by decide)).symm.trans h))), (fun h => (h2 ((set_other (by decide)).symm.trans h))), (fun h => (h3 ((set_other (by decide)).symm.trans h))), (fun h => (h4 ((set_other (by decide)).symm.trans h))), (fun h => (h5 ((set_other (by decide)).symm.trans h))), (fun h => (h6 ((set_other (by decide)).symm.trans h))), (fun h => (h7 ((set_other (by decide)).symm.trans h))), fun _ => g7⟩
        · rintro L a w' ⟨hL, u35, u36, u37, u38, u39, u40, u41, u42, u2, rfl, hbw', h0, h1, h2, h3, h4, h5, h6, h7, h8⟩ hr
          have hall := all_listed hL (by kernel_rfl) hr
          obtain rfl := h0 (hall 0 (by decide))
          obtain rfl := h1 (hall 1 (by decide))
          obtain rfl := h2 (hall 2 (by decide))
          obtain rfl := h3 (hall 3 (by decide))
          obtain rfl := h4 (hall 4 (by decide))
          obtain rfl := h5 (hall 5 (by decide))
          obtain rfl := h6 (hall 6 (by decide))
          have g7 := h7 (hall 7 (by decide))
          have g8 := h8 (hall 8 (by decide))
          clear hall hr hL
          try dsimp only
          go_wp2_with fail
          go_ret
          exact ⟨_, rfl, by rw [HWB.out]; exact g8.mono (by omega), HB6.out.trans (hbw'.mono (by omega))⟩
end Go.Proofs.Ytehoaenkkmmobaa

/-
  LAYER 6, CONTRACT: spread.
-/
import Derived.Test.YtehoaenkkmmobaaSrB
namespace Go.Proofs.Ytehoaenkkmmobaa
open Go.RowKit Go.Shelf
theorem sprP_succ (E : Nat → List Nat) (p k : Nat) (s : (Nat → Option Lk) × List Nat) : sprP E p (k + 1) s = sprE E p (sprP E p k s) k := by simp [sprP, List.range_succ]
theorem sprA_snoc (E : Nat → List Nat) (lv : List Nat) (k : Nat) (hk : k < lv.length) (s : (Nat → Option Lk) × List Nat) : sprA E (lv.take (k + 1)) s = sprP E lv[k] (E lv[k]).length (sprA E (lv.take k) s) := by
  rw [sprA, List.take_succ_eq_append_getElem hk, List.foldl_append]
  rfl
/-- what holds between two edges -/
def Spr (N B : Nat) (w1 : World) (s : (Nat → Option Lk) × List Nat) (v : Value) (wr : World) : Prop :=
  WayR wr B (kn s.1 N) s.1 ∧ wr.ownsRow w1.heap.size 3 1 v s.2.length ((numI s.2).map I) ∧ w1.grownBy wr (some B) ∧ s.2.length ≤ kn s.1 N
theorem own_kp {w w' : World} {base : Nat} {e : TypeId} {size : Nat} {v : Value} {n : Nat} {xs : List Value} {B : Nat} (h : w.ownsRow base e size v n xs) (hg : w.grownBy w' (some B)) (hB : B < base) : w'.ownsRow base e size v n xs :=
  h.kept hg (by
    cases hv : v.ownBlock with
    | none => exact .inl rfl
    | some k => exact .inr fun e => by have := (h.lt k hv).1; injection e with e; omega)
theorem grown_trans {a b c : World} {row : Option Nat} (h : a.grownBy b row) (k : b.grownBy c row) : a.grownBy c row :=
  ⟨k.os.trans h.os, k.tape.trans h.tape, k.output.trans h.output, Nat.le_trans h.size k.size, fun i h1 h2 => (k.block i (Nat.lt_of_lt_of_le h1 h.size) h2).trans (h.block i h1 h2)⟩
theorem grown_below {a b : World} {row : Option Nat} (h : Below a.heap.size a b) : a.grownBy b row := ⟨h.os, h.tape, h.output, h.size, fun i h1 _ => h.block i h1⟩
/-- behind an append: what was there when the call began is as it was -/
theorem grown_own {a b c : World} {row own : Option Nat} (h : a.grownBy b row) (k : b.grownBy c own) (hown : ∀ j, own = some j → a.heap.size ≤ j) : a.grownBy c row :=
  ⟨k.os.trans h.os, k.tape.trans h.tape, k.output.trans h.output, Nat.le_trans h.size k.size, fun i h1 h2 => (k.block i (Nat.lt_of_lt_of_le h1 h.size) (fun e => by have := hown i e.symm; omega)).trans (h.block i h1 h2)⟩
theorem Spr.alloc {N B : Nat} {w1 : World} {s : (Nat → Option Lk) × List Nat} {v : Value} {wr : World} (h : Spr N B w1 s v wr) (o : Obj) : Spr N B w1 s v (wr.alloc o) :=
  ⟨h.1.kept (World.grownBy_alloc wr o none) (by simp), h.2.1.alloc o, grown_trans h.2.2.1 (World.grownBy_alloc wr o _), h.2.2.2⟩
theorem sprE_some {E : Nat → List Nat} {p k : Nat} {s : (Nat → Option Lk) × List Nat} {l : Lk} (h : s.1 (tgt E p k) = some l) : sprE E p s k = s := by rw [sprE, h]
theorem sprE_none {E : Nat → List Nat} {p k : Nat} {s : (Nat → Option Lk) × List Nat} (h : s.1 (tgt E p k) = none) : sprE E p s k = (fun x => if x = tgt E p k then some (p, k) else s.1 x, s.2 ++ [tgt E p k]) := by rw [sprE, h]
set_option maxRecDepth 100000 in
set_option maxHeartbeats 4000000 in
theorem spread_any (AP : Option Addr) (nP cP : Nat) (AE AD AL : Option Addr) (cE cD cL B : Nat) (G : List (List Ed)) (D : List Int) (W : Nat → Option Lk) (lv : List Nat) (w : World) (hm : MdR w AE AD G D) (hv : Vld G D) (hW : WayR w B (kn W G.length) W) (hx : IntsR w w.heap.size AL (numI lv)) (hl : ∀ p ∈ lv, p < G.length) (hll : lv.length ≤ 300) :
    Calls Try.prog 100 #[.map (some B), mdlV (.slice AP nP cP) AE AD G.length cE D.length cD, .slice AL lv.length cL] w fun e w' => ∃ v, e = .returned v ∧ w'.ownsRow w.heap.size 3 1 v (sprA (eOf G) lv (W, [])).2.length ((numI (sprA (eOf G) lv (W, [])).2).map I) ∧
      WayR w' B (kn (sprA (eOf G) lv (W, [])).1 G.length) (sprA (eOf G) lv (W, [])).1 ∧ w.grownBy w' (some B) := by
  obtain ⟨w1, hw1, hs1, y0, hb1⟩ := one_box w (.cells #[.slice AP nP cP, .slice AE G.length cE, .slice AD D.length cD] 64)
  have hm1 := hm.call hb1
  have hx1 := ints_call hb1 hx
  have hBw := hW.lt
  have hW1 := hW.below hb1 hBw
  have s0 : w.heap.size < w1.heap.size := by omega
  have Y0 := Lib.hid y0
  have HLV := Lib.hid hl
  have hmx := hv.many
  have hBk := hW1.block
  have hB1 : B < w1.heap.size := hW1.lt
  obtain ⟨i0, hi, hz0, hz1, hz2⟩ := info_parts info_int
  have hst : Spr G.length B w1 (W, []) (.slice none 0 0) w1 := ⟨hW1, World.ownsRow_nil _ _ _ _, ⟨rfl, rfl, rfl, Nat.le_refl _, fun _ _ _ => rfl⟩, Nat.zero_le _⟩
  have HST := Lib.hid hst
  have hgw : w.grownBy w1 (some B) := grown_below hb1
  clear hm hx hW hW1 y0 hs1 hl hst
  go_enter Try.func100, Try.ntmps100
  go_upto_region 1 with fail
  rw [← hw1]
  clear hw1
  go_wp2_with fail
  go_loopw [7, 16] (fun v i wr => ∃ k : Nat, k ≤ lv.length ∧ i = .int .i64 k ∧ Spr G.length B w1 (sprA (eOf G) (lv.take k) (W, [])) v wr) (fun _ i _ => lv.length - (intOf i).toNat)
  case atStart => exact ⟨0, Nat.zero_le _, rfl, HST.out⟩
  case round =>
    obtain ⟨k, hk, rfl, hS⟩ := hrel
    obtain ⟨v, hv7⟩ : ∃ v : Value, v = u7 := ⟨_, rfl⟩
    subst hv7
    obtain ⟨wo, hwo⟩ : ∃ wo : World, wo = wr := ⟨_, rfl⟩
    rw [← hwo] at hS
    rw [← hwo]
    clear hwo HST
    by_cases hlt : k < lv.length
    · obtain ⟨p, hp⟩ : ∃ p, p = lv[k] := ⟨_, rfl⟩
      have hpn : p < G.length := by rw [hp]; exact HLV.out _ (List.getElem_mem hlt)
      have HSN := Lib.hid (sprA_snoc (eOf G) lv k hlt (W, []))
      rw [← hp] at HSN
      obtain ⟨s0', hs0⟩ : ∃ s, s = sprA (eOf G) (lv.take k) (W, []) := ⟨_, rfl⟩
      rw [← hs0] at hS HSN
      have hxo := hx1.kp hBk hS.2.2.1
      have hmo := hm1.kp hBk hS.2.2.1
      obtain ⟨ad, rfl, hbA, hcA⟩ := hxo.at_ (k := k) (by rw [numI_length]; exact hlt)
      rw [numI_nth hlt, ← hp] at hcA
      obtain ⟨g, o, rfl, hgl, Ap, cp, hcp1, hed⟩ := hm1.g.at_ hpn
      have hcp := cell_kp hBk hS.2.2.1 hcp1
      have yo := (hS.2.2.1.block _ s0 (fun e => by injection e with e; omega)).trans Y0.out
      have b1 : wo.cell? ⟨w.heap.size, 1, none⟩ = some (.slice (some ⟨g, o, none⟩) G.length cE) := cell_of_row wo _ 1 _ _ _ yo
      have hHS : Hid (Spr G.length B w1 (sprP (eOf G) p 0 s0') v wo) := Lib.hid hS
      have hpl := hv.few p hpn
      have HEL := Lib.hid (eOf_len hpn)
      obtain ⟨es, hes⟩ : ∃ es, es = G[p] := ⟨_, rfl⟩
      have hto : ∀ (j : Nat) (h : j < es.length), es[j].to = (tgt (eOf G) p j : Nat) ∧ tgt (eOf G) p j < G.length := by
        intro j h
        have h' : j < G[p].length := by rw [← hes]; exact h
        have := eOf_tgt hv hpn h'
        simp only [hes]
        exact this
      rw [← hes] at hcp hed hpl HEL
      clear hp hs0 hxo hmo yo hS hes hcp1
      go_wp2_with fail
      go_loopw [7, 27] (fun v i wr => ∃ j : Nat, j ≤ es.length ∧ i = .int .i64 j ∧ Spr G.length B w1 (sprP (eOf G) p j s0') v wr) (fun _ i _ => es.length - (intOf i).toNat)
      case atStart => exact ⟨0, Nat.zero_le _, rfl, hHS.out⟩
      case round =>
        obtain ⟨j, hj, rfl, hS⟩ := hrel
        obtain ⟨v, hv7⟩ : ∃ v : Value, v = u7 := ⟨_, rfl⟩
        subst hv7
        obtain ⟨wx, hwx⟩ : ∃ wx : World, wx = wr := ⟨_, rfl⟩
        rw [← hwx] at hS
        rw [← hwx]
        clear hwx hHS hcp b1 hcA
        by_cases hlj : j < es.length
        · obtain ⟨g2, o2, rfl, hg2, c0, c1, c2, c3⟩ := (hed.kp hBk hS.2.2.1).at_ hlj
          obtain ⟨hty, hyN⟩ := hto j hlj
          rw [hty] at c3
          obtain ⟨y, hy⟩ : ∃ y, y = tgt (eOf G) p j := ⟨_, rfl⟩
          obtain ⟨s1, hs1⟩ : ∃ s1, s1 = sprP (eOf G) p j s0' := ⟨_, rfl⟩
          rw [← hy] at c3 hyN
          rw [← hs1] at hS
          have HSS := Lib.hid (sprP_succ (eOf G) p j s0')
          rw [← hs1] at HSS
          have HY := Lib.hid hy
          have hky := keyAtI y (by omega)
          obtain ⟨f, hf1, hf2⟩ := hS.1
          have hfy := hf2 y
          generalize es[j].pl = e0 at *
          generalize es[j].kd = e1 at *
          generalize es[j].nm = e2 at *
          clear hty hs1 hy
          cases hWy : s1.1 y with
          | some l =>
            have HE := Lib.hid (sprE_some (E := eOf G) (p := p) (k := j) (s := s1) (l := l) (by rw [← HY.out]; exact hWy))
            have HS := Lib.hid hS
            rw [hWy] at hfy
            have hr1 : (f (I y)).getD zeroL = lkV l := by rw [hfy]; rfl
            have hr2 : (f (I y)).isSome = true := by rw [hfy]; rfl
            have HF := Lib.hid hf1
            clear hWy hS hf1 hf2 hfy
            go_wp2_with (at_lookup; refine wpList_g_ok rfl _ _ 94 rfl 3 71 keyInt Try.underlying94 (zeroLk _) rfl (HF.out.kept (World.grownBy_alloc _ _ none) (by simp)) (I y) rfl hky (lkV l) true hr1 hr2 ?_)
            go_roundw
            case rel => exact ⟨j + 1, by omega, by go_num, by rw [HSS.out, HE.out]; exact (HS.out.alloc _).alloc _⟩
            case measure => simp [intOf]; omega
          | none =>
            have HE := Lib.hid (sprE_none (E := eOf G) (p := p) (k := j) (s := s1) (by rw [← HY.out]; exact hWy))
            have HKN := Lib.hid (kn_put (W := s1.1) (x := y) (l := (p, j)) G.length hWy)
            rw [hWy] at hfy
            have hr1 : (f (I y)).getD zeroL = zeroL := by rw [hfy]; rfl
            have hr2 : (f (I y)).isSome = false := by rw [hfy]; rfl
            have HF := Lib.hid hf1
            have HF2 := Lib.hid (putW hf2 y (p, j))
            have hkl := kn_le s1.1 G.length
            have hknm : kn s1.1 G.length < maxLen := by unfold maxLen; omega
            obtain ⟨h1, h2, h3, h4⟩ := hS
            have H2 := Lib.hid h2
            have hrow := h2.lt
            clear hWy hf1 hf2 hfy h1 h2
            go_upto_region 11 with (first
              | (at_lookup; refine wpList_g_ok rfl _ _ 94 rfl 3 71 keyInt Try.underlying94 (zeroLk _) rfl (HF.out.kept (World.grownBy_alloc _ _ none) (by simp)) (I y) rfl hky zeroL false hr1 hr2 ?_)
              | (at_mapUpdate; refine wpList_g_put rfl _ _ _ 94 (.inl rfl) 3 71 keyInt Try.underlying94 hknm rfl ((HF.out.kept (World.grownBy_alloc _ _ none) (by simp)).kept (World.grownBy_alloc _ _ none) (by simp)) (I y) (lkV (p, j)) rfl rfl hky ?_; intro w3 hm3 hg3))
            have hbx : ((wx.alloc (.cells #[I e0, I e1, I e2, I y] 58)).alloc (.cells #[I 0, I 0] 71)).cell? ⟨wx.heap.size, 3, none⟩ = some (I y) :=
              ((World.grownBy_alloc (wx.alloc (.cells #[I e0, I e1, I e2, I y] 58)) (.cells #[I 0, I 0] 71) none).cell (alloc_cell _ _ _ 3) (by simp))
            have hne : some wx.heap.size ≠ some B := fun e => by injection e with e; have := h3.size; omega
            have hby := hg3.cell hbx hne
            have hown3 := own_kp ((H2.out.alloc _).alloc _) hg3 hB1
            have hW3 : WayR w3 B (kn (fun x => if x = y then some (p, j) else s1.1 x) G.length) (fun x => if x = y then some (p, j) else s1.1 x) := by
              rw [HKN.out, if_pos hyN]
              exact ⟨_, hm3, HF2.out⟩
            have h33 : w1.grownBy w3 (some B) := grown_trans (grown_trans (grown_trans h3 (World.grownBy_alloc _ _ _)) (World.grownBy_alloc _ _ _)) hg3
            have hrow3 := hown3.lt
            have HW3 := Lib.hid hW3
            have h3s := h33.size
            clear hbx hm3 hg3 hW3 hne h3
            go_wp2_with (at_builtin; refine wpList_append_own _ rfl _ _ 26 rfl w1.heap.size 3 i0 (.int .i64 0) 1 8 Try.underlying26 hi hz0 hz1 hz2 rfl (by decide) v _ _ rfl (hown3.alloc _) ⟨w3.heap.size, 0, none⟩ 1 1 [I y] rfl rfl ?c1 ?c2 ?c3 ?c4 ?c5 ?_)
            case c2 => rfl
            case c3 => unfold maxLen; omega
            case c4 => omega
            case c5 => first | omega | (simp; omega)
            intro v' w5 hown5 hgrow _
            have hw35 : w1.grownBy w5 (some B) := grown_own (grown_trans h33 (World.grownBy_alloc w3 _ _)) hgrow (fun j hj => (hrow3 j hj).1)
            have hW5 : WayR w5 B _ _ := (HW3.out.kept (World.grownBy_alloc w3 (.cells #[I y] 3) none) (by simp)).kept hgrow (fun e => by
              have := (hrow3 B e.symm).1
              omega)
            have hown6 : w5.ownsRow w1.heap.size 3 1 v' (s1.2 ++ [y]).length ((numI (s1.2 ++ [y])).map I) := by
              rw [numI_snoc, List.map_append, List.length_append]; exact hown5
            have hS5 : Spr G.length B w1 (fun x => if x = y then some (p, j) else s1.1 x, s1.2 ++ [y]) v' w5 := ⟨hW5, hown6, hw35, by
              have := HKN.out
              rw [if_pos hyN] at this
              show (s1.2 ++ [y]).length ≤ kn (fun x => if x = y then some (p, j) else s1.1 x) G.length
              rw [this, List.length_append, List.length_singleton]
              omega⟩
            have HS5 := Lib.hid hS5
            clear hS5 hown6 hW5 hw35 hown5 hgrow hown3 hrow3 hby
            go_wp2_with fail
            go_roundw
            case rel => exact ⟨j + 1, by omega, by go_num, by rw [HSS.out, HE.out, ← HY.out]; exact HS5.out⟩
            case measure => simp [intOf]; omega
        · obtain rfl : j = es.length := by omega
          have HN := Lib.hid hS
          clear hS
          go_wp2_with fail
          go_roundw
          case rel => exact ⟨k + 1, by omega, by go_num, by rw [HSN.out, HEL.out]; exact HN.out⟩
          case measure => simp [intOf]; omega
    · obtain rfl : k = lv.length := by omega
      rw [List.take_length] at hS
      obtain ⟨h1, h2, h3, h4⟩ := hS
      have H1 := Lib.hid h1
      have H2 := Lib.hid (show wo.ownsRow w.heap.size 3 1 v _ _ from ⟨h2.1, h2.2.imp id fun ⟨g, cap, cur, a1, a2, a3⟩ => ⟨g, cap, cur, a1, Nat.le_trans (Nat.le_of_lt s0) a2, a3⟩⟩)
      clear h2 h1
      go_wp2_with fail
      go_ret
      exact ⟨v, rfl, H2.out, H1.out, grown_trans hgw h3⟩
end Go.Proofs.Ytehoaenkkmmobaa

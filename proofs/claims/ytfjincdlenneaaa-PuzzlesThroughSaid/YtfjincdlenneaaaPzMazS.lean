/-
  CONTRACT: maze.routes: what it returns is a map with all cells in which a ball can come to lie, each with the first of the shortest lists of moves.
-/
import Derived.Test.YtfjincdlenneaaaPzMazQ
import Derived.Deep.LoopGhost
import Derived.Deep.RegionHeld3
namespace Go.Proofs.Ytfjincdlenneaaa
open Go.RowKit Go.Shelf
/-- numbers of cells, as they lie in memory -/
def numI (l : List Nat) : List Int := l.map fun x : Nat => (x : Int)
theorem numI_snoc (l : List Nat) (x : Nat) : numI (l ++ [x]) = numI l ++ [(x : Int)] := by simp [numI]
theorem numI_length (l : List Nat) : (numI l).length = l.length := by simp [numI]
theorem numI_head (h : Nat) (l : List Nat) : nth (numI (h :: l)) 0 = (h : Int) := rfl
theorem add_zero_addr (ad : Addr) : ad.add 0 = ad := by unfold Addr.add; split <;> simp_all
/-- the first number of a queue, as it is read -/
theorem QRow.head {w : World} {base : Nat} {v : Value} {h : Nat} {l : List Nat} (q : QRow w base v (numI (h :: l))) : ∃ g off c, v = .slice (some ⟨g, off, none⟩) (l.length + 1) c ∧ g < w.heap.size ∧ base ≤ g ∧ l.length + 1 ≤ c ∧ c ≤ maxLen ∧ w.cell? ⟨g, off, none⟩ = some (I h) := by
  obtain ⟨g, off, c, h1, h2, h3, h4, h5, h6⟩ := q.ints
  have h0 := h6.at_ (k := 0) (by simp [numI])
  obtain ⟨ad, e, hb, hc⟩ := h0
  have e' := (Option.some.inj e).symm
  subst e'
  rw [numI_head, add_zero_addr] at hc
  exact ⟨g, off, c, by rw [h1]; simp [numI], h5, h2, by simpa [numI] using h3, h4, hc⟩
/-- the queue without its first number -/
theorem QRow.tail {w : World} {base g off : Nat} {h h2 n c : Nat} {l : List Nat} (q : QRow w base (.slice (some ⟨g, off, none⟩) n c) (numI (h :: h2 :: l))) : QRow w base (.slice (some ⟨g, off + 1, none⟩) (n - 1) (c - 1)) (numI (h2 :: l)) := by
  obtain ⟨g', off', c', cur, h1, h3, h4, h5, h6, h7, h8⟩ := q
  injection h1 with e1 e2 e3
  injection e1 with e1
  injection e1 with e1 e4
  subst e1 e2 e3 e4
  have hl : (numI (h :: h2 :: l)).length = (numI (h2 :: l)).length + 1 := rfl
  rw [hl] at h7 h8 ⊢
  refine ⟨g, off + 1, c - 1, cur, rfl, by omega, h4, h5, by omega, by omega, fun j hj => ?_⟩
  have := h8 (j + 1) (by omega)
  rw [show off + (j + 1) = off + 1 + j by omega] at this
  rw [this]
  rfl
/-- what holds ahead of a round of the queue's loop -/
def Rts (W H : Nat) (wall : Nat → Bool) (fr N B : Nat) (w1 : World) (gk : Nat) (v : Value) (wr : World) : Prop :=
  ∃ f R n, MapF wr B n f ∧ RowsF wr B v.ownBlock f R ∧ Below w1.heap.size w1 wr ∧
    ((∃ D h Q ph, Sch W H wall fr D h Q R ph 0 ∧ QRow wr (w1.heap.size + 1) v (numI (h :: Q)) ∧ D.length + gk = N ∧ n = D.length + Q.length + 1) ∨ (Fnd W H wall fr R ∧ ∃ A c, v = .slice A 0 c))
/-- what holds ahead of a side -/
def Rti (W H : Nat) (wall : Nat → Bool) (fr B : Nat) (w1 : World) (D : List Nat) (h : Nat) (ph : List Int) (v i : Value) (wx : World) : Prop :=
  ∃ (s : Nat) (Q : List Nat) (f : Nat → Option Value) (R : Nat → Option (List Int)), s ≤ 4 ∧ i = I s ∧ Sch W H wall fr D h Q R ph s ∧ MapF wx B (D.length + Q.length + 1) f ∧ RowsF wx B v.ownBlock f R ∧ QRow wx (w1.heap.size + 1) v (numI (h :: Q)) ∧ Below w1.heap.size w1 wx
theorem kept_boos {w1 w' : World} {A : Option Addr} {f : Nat → Bool} {n : Nat} (h : KeptS w1 w') (hx : BoosR w1 w1.heap.size A f n) : BoosR w' w'.heap.size A f n := boos_call h.1 hx
theorem QRow.call {w w' : World} {base : Nat} {v : Value} {zs : List Int} (h : QRow w base v zs) (hb : Below w.heap.size w w') : QRow w' base v zs := by
  obtain ⟨g, off, c, cur, rfl, h1, h2, h3, h4⟩ := h
  exact ⟨g, off, c, cur, rfl, h1, h2, (hb.block g (Array.getElem?_eq_some_iff.1 h3).1).trans h3, h4⟩
set_option maxRecDepth 100000 in
set_option maxHeartbeats 4000000 in
theorem routes_any (W H fr N : Nat) (fr' tt : Int) (A : Option Addr) (cap : Nat) (wall : Nat → Bool) (w : World) (hW : 1 ≤ W) (hW9 : W ≤ 64) (hH : H ≤ 64) (hN : N = W * H) (hN9 : N ≤ 64) (hfr : fr < N) (hwf : wall fr = false) (hx : BoosR w w.heap.size A wall N) :
    Calls Try.prog 110 #[mazV W H fr' tt A N cap, I fr] w fun e w' => ∃ B n f R gq, e = .returned (.map (some B)) ∧ MapF w' B n f ∧ RowsF w' B gq f R ∧ Fnd W H wall fr R ∧ Below w.heap.size w w' := by
  obtain ⟨w1, hw1, hs1, y0, hb1⟩ := one_box w (.cells #[I W, I H, I fr', I tt, .slice A N cap] 117)
  have hx1 := boos_call hb1 hx
  have s0 : w.heap.size < w1.heap.size := by omega
  have HN := Lib.hid hN
  have hmm := @run_makeMap Try.prog
  obtain ⟨i0, hi, hz0, hz1, hz2⟩ := info_parts info_int
  have hml : 0 < maxLen := by unfold maxLen; omega
  have hfr9 : fr ≤ 1000 := by omega
  clear hx hs1 hN
  go_enter Try.func110, Try.ntmps110
  go_upto_region 1 with fail
  rw [← hw1]
  clear hw1
  have Y0 := Lib.hid y0
  clear y0
  go_wp2_with (refine wpList_map_ins rfl _ _ _ rfl w1.heap.size 0 _ rfl (MapF.made w1) hml fr hfr9 rfl nilS rfl ?_; intro w2 hm2 hg2)
  obtain ⟨w3, hw3⟩ : ∃ w3, w3 = w2.alloc (.cells #[I fr] 3) := ⟨_, rfl⟩
  rw [← hw3]
  have hs3 : w3.heap.size = w2.heap.size + 1 := by rw [hw3]; simp
  have hs2 : w1.heap.size + 1 ≤ w2.heap.size := by have := hg2.size; simpa using this
  have hB2 : Below w1.heap.size w1 w2 := ((Below.refl _ _).alloc (Nat.le_refl _) _).grown hg2 (by simp) (fun j hj => by cases hj; exact Nat.le_refl _)
  have hB3 : Below w1.heap.size w1 w3 := by rw [hw3]; exact hB2.alloc (by omega) _
  have hg3 : w2.grownBy w3 none := by rw [hw3]; exact World.grownBy_alloc _ _ _
  have hr3 : w3.heap[w2.heap.size]? = some (.cells #[I fr] 3 (0, 0)) := by rw [hw3]; exact alloc_obj _ _ _ rfl
  have hstart : Rts W H wall fr N w1.heap.size w1 N (.slice (some ⟨w2.heap.size, 0, none⟩) 1 1) w3 := by
    refine ⟨_, updR (fun _ => none) fr [], 1, hm2.kept hg3 (by simp), ?_, hB3, .inl ⟨[], fr, [], [], Sch.first (by rw [← HN.out]; exact hfr) hwf, ?_, by simp, rfl⟩⟩
    · exact RowsF.put ⟨fun _ _ => rfl, fun _ _ e => by cases e⟩ (.inl ⟨rfl, rfl⟩) (by simp [Value.ownBlock]) (.inl rfl)
    · exact ⟨w2.heap.size, 0, 1, _, rfl, by unfold maxLen; omega, hs2, hr3, by simp, by simp [numI], fun j hj => by
        obtain rfl : j = 0 := by simp [numI] at hj; omega
        rfl⟩
  have HST := Lib.hid hstart
  clear hw3 hm2 hg2 hs3 hs2 hB2 hB3 hg3 hr3 hstart hmm
  go_loopg [6] N (fun gk v wr => Rts W H wall fr N w1.heap.size w1 gk v wr)
  case atStart => exact HST.out
  case round =>
    obtain ⟨f, R, n, hm, hro, hB, hcase⟩ := hrel
    rcases hcase with ⟨D, h, Q, ph, hS, hq, hD, hn⟩ | ⟨hF, A0, c0, rfl⟩
    · obtain ⟨g, off, cq, rfl, hqb, hqB, hqc, hqm, hc0⟩ := hq.head
      have hDn := hS.most
      have HDN := Lib.hid hDn
      have hnz : (0 : Int) < ((Q.length + 1 : Nat) : Int) := by omega
      have HI0 : Hid (Rti W H wall fr w1.heap.size w1 D h ph (.slice (some ⟨g, off, none⟩) (Q.length + 1) cq) (I (0 : Nat)) wr) := Lib.hid ⟨0, Q, f, R, by omega, rfl, hS, by rw [← hn]; exact hm, hro, hq, hB⟩
      have HHD := Lib.hid hS.hd
      have HD := Lib.hid hD
      clear hm hro hS hq hD hn hqb hqB hqc hqm hc0 hDn
      obtain ⟨wo, hwo⟩ : ∃ wo : World, wo = wr := ⟨_, rfl⟩
      rw [← hwo] at HI0 hB
      rw [← hwo]
      clear hwo
      go_wp2_with fail
      go_loopw [6, 21] (fun v i wx => Rti W H wall fr w1.heap.size w1 D h ph v i wx) (fun _ i _ => 4 - (intOf i).toNat)
      case atStart => exact HI0.out
      case round =>
        obtain ⟨s, Q', f', R', hs4, rfl, hS, hm, hro, hq, hBx⟩ := hrel
        obtain ⟨wx, hwx⟩ : ∃ wx : World, wx = wr := ⟨_, rfl⟩
        rw [← hwx] at hm hro hq hBx
        rw [← hwx]
        clear hwx
        by_cases hlt : s < 4
        · obtain ⟨g', off', cq', rfl, hqb, hqB, hqc, hqm, hc0⟩ := hq.head
          have y0 := (hBx.block _ s0).trans Y0.out
          have b0 : wx.cell? ⟨w.heap.size, 0, none⟩ = some (I W) := cell_of_row wx _ 0 _ _ _ y0
          have b1 : wx.cell? ⟨w.heap.size, 1, none⟩ = some (I H) := cell_of_row wx _ 1 _ _ _ y0
          have b2 : wx.cell? ⟨w.heap.size, 2, none⟩ = some (I fr') := cell_of_row wx _ 2 _ _ _ y0
          have b3 : wx.cell? ⟨w.heap.size, 3, none⟩ = some (I tt) := cell_of_row wx _ 3 _ _ _ y0
          have b4 : wx.cell? ⟨w.heap.size, 4, none⟩ = some (.slice A N cap) := cell_of_row wx _ 4 _ _ _ y0
          have sx : w.heap.size < wx.heap.size := by have := hBx.size; omega
          have hxx := boos_call hBx hx1
          have hin := hS.path _ _ hS.hd
          have hyin := rol_in hW (show s ≤ 3 by omega) hin.2.2.1 hin.2.2.2
          obtain ⟨y, hy⟩ : ∃ y, y = rolF W H wall h s := ⟨_, rfl⟩
          rw [← hy] at hyin
          have hyN : y < N := by rw [HN.out]; exact hyin.1
          have hhN : h < N := by rw [HN.out]; exact hin.2.2.1
          have HY := Lib.hid hy
          have C1 : ∀ V, KeptS wx V → Calls Try.prog 107 #[mazV W H fr' tt A N cap, I h, I s] V fun e w' => e = .returned (I y) ∧ Below V.heap.size V w' := fun V hV => by
            rw [HY.out]
            exact roll_any W H h s N fr' tt A cap wall V hW hW9 hH HN.out hN9 hhN (by omega) (kept_boos hV hxx)
          have HS := Lib.hid hS
          have HRO := Lib.hid hro
          have HM := Lib.hid hm
          have HQ := Lib.hid hq
          clear hy hyin hin hS hro hm hq y0
          have hd4 : decide ((s : Int) < 4) = true := decide_eq_true (by omega)
          go_upto_region 8 with fail
          go_cut [8] from 24 to 29 (fun s8 wy => s8 = I y ∧ KeptS wx wy)
          case first =>
            go_region_held3 (fun w' => Below wx.heap.size wx w' ∧ (∀ b o, b < wx.heap.size → w'.cell? ⟨b, o, none⟩ = wx.cell? ⟨b, o, none⟩))
              (first | exact keptS_drew _ | exact keptS_call (by assumption) hb | assumption)
              ((go_at_call 107; go_must (refine (C1 _ (by assumption)).mono ?_); rintro e w' ⟨rfl, hb⟩))
            all_goals
              go_wp2_with fail
              go_meet
              exact ⟨rfl, by assumption⟩
          case rest =>
            obtain ⟨rfl, hkk⟩ := hcut
            have hBc : Below w1.heap.size w1 wc := hBx.trans (hkk.1.mono hBx.size)
            have hmc := HM.out.below hkk.1 HM.out.lt
            have hroc := HRO.out.call hkk.1
            have hqc' := HQ.out.call hkk.1
            have hc1 := (hkk.2 g' off' hqb).trans hc0
            have hgc : g' < wc.heap.size := by have := hkk.1.size; omega
            have hsz : w1.heap.size + 1 ≤ wc.heap.size := by omega
            have hy9 : y ≤ 1000 := by omega
            have hh9 : h ≤ 1000 := by omega
            have hmost := HS.out.most
            have hphl := HS.out.hlong
            have hn9 : D.length + Q'.length + 1 ≤ 64 := by have := HN.out; omega
            clear hkk b0 b1 b2 b3 b4 hxx C1 hc0 hqb sx
            cases hR : R' y with
            | some p' =>
              obtain ⟨v', hf', _, _⟩ := hroc.som y p' hR
              have HNX := Lib.hid (HS.out.found (p' := p') (by rw [← HY.out]; exact hR))
              have HROC := Lib.hid hroc
              have HQC := Lib.hid hqc'
              clear hR hroc hqc' hmost
              go_wp2_with (at_lookup; refine wpList_map_hit rfl _ _ rfl w1.heap.size _ f' rfl hmc y hy9 rfl v' hf' ?_)
              go_roundw
              case rel => exact ⟨s + 1, Q', f', R', by omega, by go_num, HNX.out, hmc, HROC.out, HQC.out, hBc⟩
              case measure => simp [intOf]; omega
            | none =>
              have hf' := hroc.non y hR
              obtain ⟨vh, hfh, hsh, _, _⟩ := hroc.som h ph HS.out.hd
              have HNX := HS.out.fresh hW (show s ≤ 3 by omega) (by rw [← HY.out]; exact hR)
              rw [← HY.out] at HNX
              have HNX := Lib.hid HNX
              have hpl : ph.length ≤ 1000 := by omega
              have hgB : some g' ≠ some w1.heap.size := fun e => by injection e with e; omega
              have hnl : D.length + Q'.length + 1 < maxLen := by unfold maxLen; omega
              have HRC := Lib.hid hroc
              have HQC := Lib.hid hqc'
              clear hR hroc hqc' hmost
              go_wp2_with (first
                | (at_lookup; refine wpList_map_miss rfl _ _ rfl w1.heap.size _ f' rfl hmc y hy9 rfl hf' ?_)
                | (at_lookup; refine wpList_map_get rfl _ _ rfl w1.heap.size _ f' rfl hmc h hh9 rfl vh hfh ?_))
              refine (clone_slc hsh hpl).mono ?_
              rintro e w4 ⟨v4, rfl, hown4, hb4⟩
              have hrow4 := hown4.lt
              go_wp2_with (at_builtin; refine wpList_append_own _ rfl _ _ 29 rfl wc.heap.size 3 i0 (.int .i64 0) 1 8 Try.underlying29 hi hz0 hz1 hz2 rfl (by decide) _ _ _ rfl (hown4.alloc _) ⟨w4.heap.size, 0, none⟩ 1 1 [I s] rfl rfl ?c1 ?c2 ?c3 ?c4 ?c5 ?_)
              case c1 =>
                intro j u hj
                match j, hj with
                | 0, hj => simp at hj; subst hj; simp [Addr.add]
              case c2 => intro u hu; simp at hu; subst hu; rfl
              case c3 => unfold maxLen; omega
              case c4 => omega
              case c5 => exact Nat.le_trans hb4.size (by simp)
              intro v5 w5 hown5 hgrow5 _
              have hB5 : Below wc.heap.size wc w5 := (hb4.alloc hb4.size _).grown hgrow5 (by have := hb4.size; simp; omega) (fun j hj => (hrow4 j hj).1)
              have hm5 := hmc.below hB5 hmc.lt
              have hs5 : SlcR w5 v5 (ph ++ [(s : Int)]) := SlcR.of_own (base := wc.heap.size) (by simpa using hown5)
              have hrow5 := hown5.lt
              have hv5 : v5.ownBlock ≠ some w1.heap.size := fun e => by have := (hrow5 _ e).1; omega
              have hv5' : v5.ownBlock = none ∨ v5.ownBlock ≠ some g' := .inr fun e => by have := (hrow5 _ e).1; omega
              have hro5 := (HRC.out.call hB5).put (k := y) hs5 hv5 hv5'
              have hq5 := HQC.out.call hB5
              have HR5 := Lib.hid hro5
              have HQ5 := Lib.hid hq5
              have hBs5 := hB5.size
              have hBB5 : Below w1.heap.size w1 w5 := hBc.trans (hB5.mono (by omega))
              clear hro5 hq5 hs5 hrow5 hv5 hv5' hB5 hown5 hgrow5 hrow4 hown4 hb4 hsh hfh hmc hf'
              go_upto_region 12 with (at_mapUpdate; refine wpList_map_put rfl _ _ _ rfl w1.heap.size _ f' rfl hm5 hnl y hy9 rfl v5 rfl ?_; intro w6 hm6 hg6)
              have hro6 := HR5.out.mapped hg6
              have hq6 := HQ5.out.kept hg6 hgB
              have hBs6 := hg6.size
              have hBB6 : Below w1.heap.size w1 w6 := hBB5.grown hg6 (by omega) (fun j hj => by cases hj; exact Nat.le_refl _)
              clear hm5 hg6 hBB5 HR5 HQ5
              have HR6 := Lib.hid hro6
              have hq6a := hq6.kept (World.grownBy_alloc w6 (.cells #[I y] 3) none) (by simp [Value.ownBlock])
              have hlq : (numI (h :: Q')).length ≤ 1000000 := by rw [numI_length]; simp; omega
              have hcy : (w6.alloc (.cells #[I y] 3)).cell? ⟨w6.heap.size, 0, none⟩ = some (I y) := alloc_cell _ _ _ 0
              have hbs : w1.heap.size + 1 ≤ (w6.alloc (.cells #[I y] 3)).heap.size := by simp; omega
              clear hro6 hq6
              go_wp2_with (at_builtin; refine wpList_append_q rfl _ _ rfl (w1.heap.size + 1) (.slice (some ⟨g', off', none⟩) (Q'.length + 1) cq') (numI (h :: Q')) rfl hq6a ⟨w6.heap.size, 0, none⟩ 1 y rfl hcy hlq hbs ?_; intro v7 w7 hq7 hg7 hv7)
              have hm7 : MapF w7 w1.heap.size (D.length + (Q' ++ [y]).length + 1) (updV f' y v5) := by
                have := (hm6.kept (World.grownBy_alloc w6 (.cells #[I y] 3) none) (by simp)).kept hg7 (fun e => hgB e.symm)
                rw [List.length_append, List.length_singleton]
                exact this
              have hro7 := (HR6.out.call ((Below.refl _ _).alloc (Nat.le_refl _) (.cells #[I y] 3))).queued hg7 hv7
              have hq7' : QRow w7 (w1.heap.size + 1) v7 (numI (h :: (Q' ++ [y]))) := by
                have e : numI (h :: (Q' ++ [y])) = numI (h :: Q') ++ [(y : Int)] := numI_snoc (h :: Q') y
                rw [e]; exact hq7
              have hB7 : Below w1.heap.size w1 w7 := by
                refine (hBB6.alloc (by omega) _).grown hg7 (by simp; omega) (fun j hj => ?_)
                have e9 : g' = j := by simpa [Value.ownBlock] using hj
                omega
              go_roundw
              case rel => exact ⟨s + 1, Q' ++ [y], _, _, by omega, by go_num, HNX.out, hm7, hro7, hq7', hB7⟩
              case measure => simp [intOf]; omega
        · obtain rfl : s = 4 := by omega
          have hmost := hS.most
          have hgk : gk - 1 < gk := by have := HD.out; have := HN.out; omega
          have hd4 : decide (((4 : Nat) : Int) < 4) = false := rfl
          obtain ⟨g', off', cq', rfl, hqb, hqB, hqc, hqm, hc0⟩ := hq.head
          have HRO := Lib.hid hro
          have HM := Lib.hid hm
          have HQ := Lib.hid hq
          clear hro hm hq hc0 hmost
          cases Q' with
          | nil =>
            have HF := Lib.hid hS.last
            clear hS
            by_cases hq1 : cq' = 1
            · subst hq1
              go_wp2
              go_roundg (gk - 1)
              case measure => exact hgk
              case rel => exact ⟨f', R', _, HM.out, HRO.out, hBx, .inr ⟨HF.out, _, _, rfl⟩⟩
            · have hq2 : (1 : Nat) < cq' := by simp at hqc; omega
              go_wp2
              go_roundg (gk - 1)
              case measure => exact hgk
              case rel => exact ⟨f', R', _, HM.out, HRO.out, hBx, .inr ⟨HF.out, _, _, rfl⟩⟩
          | cons h2 Q2 =>
            obtain ⟨p2, _, hS2⟩ := hS.next
            have HS2 := Lib.hid hS2
            have HQT := Lib.hid HQ.out.tail
            have hq2 : (1 : Nat) < cq' := by simp at hqc; omega
            clear hS hS2
            go_wp2
            go_roundg (gk - 1)
            case measure => exact hgk
            case rel =>
              refine ⟨f', R', _, HM.out, HRO.out, hBx, .inl ⟨D ++ [h], h2, Q2, p2, HS2.out, ?_, by have := HD.out; simp; omega, by simp; omega⟩⟩
              exact HQT.out
    · have HF := Lib.hid hF
      have HRO := Lib.hid hro
      clear hF hro
      go_wp2
      go_ret
      exact ⟨_, n, f, R, _, rfl, hm, HRO.out, HF.out, hb1.trans (hB.mono hb1.size)⟩
end Go.Proofs.Ytfjincdlenneaaa

/-
  LAYER 6: CONTRACTS: slices.IndexFunc and DeleteFunc at numbers. (Written by gen/gen_srk.py out of SrF, SrG.)
-/
import Derived.Test.YtehoaenkkmmobaaSrJ
namespace Go.Proofs.Ytehoaenkkmmobaa
open Go.RowKit Go.Shelf
theorem zeroI (w : World) : (zeroValue 3).run Try.prog w = .ok (I 0) w := by kernel_rfl
theorem imem {d : Array Int} {k : Nat} (h : k < d.size) : d[k]! ∈ d.toList := by rw [getElem!_pos d k h]; exact Array.getElem_mem_toList h
/-- the numbers d lie in the cells F from off on -/
def IC (F : Nat → Value) (off : Nat) (d : Array Int) : Prop := ∀ j, j < d.size → F (off + j) = I d[j]!
theorem IC.set {F : Nat → Value} {off : Nat} {d : Array Int} (h : IC F off d) {i : Nat} (hi : i < d.size) (l : Int) : IC (fun x => if x = off + i then I l else F x) off (d.setIfInBounds i l) := by
  intro j hj
  rw [Array.size_setIfInBounds] at hj
  by_cases e : j = i
  · subst e
    rw [Go.Sort.getElem!_set_same d j l hi]
    simp
  · rw [Go.Sort.getElem!_set_other d i j l e]
    simp only []
    rw [if_neg (by omega)]
    exact h j hj
set_option maxRecDepth 100000 in
theorem run_clear_i (w : World) (ty : TypeId) (b o n c N : Nat) (F : Nat → Value) (hn : 0 < n) (hR : RowAt w b 3 F N) (hN : o + n ≤ N) :
    ∃ w', (Builtin.clear_ #[26] ty #[.slice (some ⟨b, o, none⟩) n c]).run Try.prog w = .ok (.tuple #[]) w' ∧ w.grownBy w' (some b) ∧ ∃ F', RowAt w' b 3 F' N ∧ ∀ x, x < o → F' x = F x := by
  obtain ⟨vs, hvs⟩ : ∃ vs, vs = (Builtin.zeroCells (I 0 : Value).cells n).toList := ⟨_, rfl⟩
  have hl : vs.length = n := by rw [hvs]; simp [Builtin.zeroCells, Value.cells]
  have h1 : ∀ v ∈ vs, v.oneCell' = true := by
    intro v hv
    rw [hvs] at hv
    simp only [Builtin.zeroCells, Value.cells, Array.toList_map, List.mem_map] at hv
    obtain ⟨i, -, rfl⟩ := hv
    have : i % 1 = 0 := by omega
    simp [this]
    rfl
  have hst := run_storeCells_at Try.prog b o 3 vs 0 (rowF F N) w hR (by rw [rowF_size, hl]; omega) h1
  simp only [Nat.add_zero] at hst
  obtain ⟨m, rfl⟩ : ∃ m, n = m + 1 := ⟨n - 1, by omega⟩
  have hz := zeroI w
  obtain ⟨arr, harr⟩ : ∃ arr, arr = ((rowF F N).toList.take o ++ vs ++ (rowF F N).toList.drop (o + vs.length)).toArray := ⟨_, rfl⟩
  have hcl : (rowF F N).toList.length = N := by simp [rowF]
  have hsz : arr.size = N := by
    rw [harr]
    simp only [List.size_toArray, List.length_append, List.length_take, List.length_drop, hcl, hl]
    omega
  rw [← harr] at hst
  refine ⟨w.setRow b arr, ?_, ⟨rfl, rfl, rfl, by simp [World.setRow], fun k _ hk => setRow_other w b k _ (fun e => hk (by rw [e]))⟩, fun x => arr.getD x undef, ?_, ?_⟩
  · rw [hvs] at hst
    simp [Builtin.clear_, run_underlying Try.underlying26, hz, hst]
  · have := setRow_heap w b (rowF F N) arr 3 _ hR
    rw [RowAt, this]
    congr 2
    apply Array.ext_getElem?
    intro i
    rw [rowF_get]
    by_cases h : i < N
    · rw [if_pos h]
      simp [Array.getD, hsz, h]
    · rw [if_neg h, Array.getElem?_eq_none (by omega)]
  · intro x hx
    have hx' : x < N := by omega
    have : arr[x]? = some (F x) := by
      rw [harr, List.getElem?_toArray, List.append_assoc, List.getElem?_append_left (by rw [List.length_take, hcl]; omega), List.getElem?_take_of_lt (by omega), Array.getElem?_toList, rowF_at F hx']
    simp [Array.getD_eq_getD_getElem?, this]
theorem wpList_clear_i {ops : Array Oper} {rest : List Oper} {o : Oper} {a : Act} {Q : Exit → Act → World → Prop} {w : World} (hg : o.guard = none) (s : Operand) (hop : o.op = .call { callee := .builtin .clear, args := #[s], argTypes := #[26] })
    (b off n c N : Nat) (F : Nat → Value) (hs : a.eval s = .slice (some ⟨b, off, none⟩) n c) (hn : 0 < n) (hR : RowAt w b 3 F N) (hN : off + n ≤ N)
    (hK : ∀ w' F', w.grownBy w' (some b) → RowAt w' b 3 F' N → (∀ x, x < off → F' x = F x) → wpList Try.prog ops Q rest (a.put o.dst (.tuple #[])) w') : wpList Try.prog ops Q (o :: rest) a w := by
  refine wpList_plain hg fun K' hK' => ?_
  obtain ⟨w', hrun, r1, F', r2, r3⟩ := run_clear_i w o.type b off n c N F hn hR hN
  unfold Oper.wp
  simp [execOp, hop, resolve, invoke, builtin, hs, hrun, Result.andThen]
  exact hK' _ _ (hK w' F' r1 r2 r3)
set_option maxRecDepth 100000 in
set_option maxHeartbeats 2000000 in
theorem indexI_any (g : Nat) (lb : Array Value) (eg : ∀ args w, (callFunc g args).run Try.prog w = .ok (.enter g args) w) (p : Int → Bool) (b off c N : Nat) (F : Nat → Value) (d : Array Int) (w : World)
    (hp : ∀ (W : World) (x : Int), x ∈ d.toList → w.grownBy W none → Calls Try.prog g (#[I x] ++ lb) W fun e w' => e = .returned (.bool (p x)) ∧ W.grownBy w' none)
    (hR : RowAt w b 3 F N) (hlc : IC F off d) (hN : off + d.size ≤ N) (hd : d.size ≤ 1000000) :
    Calls Try.prog 118 #[.slice (some ⟨b, off, none⟩) d.size c, .func (.func g) #[] lb] w fun e w' => ∃ r : Int, e = .returned (I r) ∧ ((r = -1 ∧ ∀ j, j < d.size → p d[j]! = false) ∨ ∃ k : Nat, r = k ∧ k < d.size ∧ p d[k]! = true ∧ ∀ j, j < k → p d[j]! = false) ∧ w.grownBy w' none := by
  have HR := Lib.hid hR
  have HL := Lib.hid hlc
  have HP := Lib.hid hp
  clear hR hlc hp
  go_enter Try.func118, Try.ntmps118
  go_wp2_with fail
  go_loopw [8] (fun i wr => ∃ k : Nat, k ≤ d.size ∧ i = .int .i64 k ∧ w.grownBy wr none ∧ Hid (∀ j, j < k → p d[j]! = false)) (fun i _ => d.size - (intOf i).toNat)
  case atStart => exact ⟨0, Nat.zero_le _, rfl, ⟨rfl, rfl, rfl, Nat.le_refl _, fun _ _ _ => rfl⟩, Lib.hid fun j hj => absurd hj (Nat.not_lt_zero _)⟩
  case round =>
    obtain ⟨k, hk, rfl, hg, HA⟩ := hrel
    obtain ⟨wo, hwo⟩ : ∃ wo : World, wo = wr := ⟨_, rfl⟩
    rw [← hwo] at hg
    rw [← hwo]
    clear hwo
    by_cases hlt : k < d.size
    · have hR' := HR.out.kept hg (by simp)
      have e0 := HL.out k hlt
      have c0 : wo.cell? ⟨b, off + k, none⟩ = some (I d[k]!) := (hR'.at_ (by omega)).trans (by rw [e0])
      have hcall := HP.out wo d[k]! (imem hlt) hg
      obtain ⟨x, hx⟩ : ∃ x, x = d[k]! := ⟨_, rfl⟩
      rw [← hx] at c0 hcall
      have HX := Lib.hid hx
      clear e0 hR' hx
      cases hq : p x with
      | true =>
        have HQ := Lib.hid hq
        rw [hq] at hcall
        clear hq
        go_wp2_with (go_at_fn g; refine hcall.mono ?_; rintro e w2 ⟨rfl, hb'⟩)
        go_ret
        exact ⟨_, rfl, .inr ⟨k, rfl, hlt, by rw [← HX.out]; exact HQ.out, HA.out⟩, grown_trans hg hb'⟩
      | false =>
        have HQ := Lib.hid hq
        rw [hq] at hcall
        clear hq
        go_wp2_with (go_at_fn g; refine hcall.mono ?_; rintro e w2 ⟨rfl, hb'⟩)
        go_roundw
        case rel => exact ⟨k + 1, by omega, by go_num, grown_trans hg hb', Lib.hid fun j hj => by
          rcases Nat.lt_or_ge j k with h | h
          · exact HA.out j h
          · obtain rfl : j = k := by omega
            rw [← HX.out]; exact HQ.out⟩
        case measure => simp [intOf]; omega
    · obtain rfl : k = d.size := by omega
      go_wp2_with fail
      go_ret
      exact ⟨_, rfl, .inl ⟨rfl, HA.out⟩, hg⟩
theorem IC.congr {F F' : Nat → Value} {off : Nat} {d d' : Array Int} (h : IC F off d) (hs : d'.size ≤ d.size) (e : ∀ x, x < off + d'.size → F' x = F x) (ed : ∀ j, j < d'.size → d'[j]! = d[j]!) : IC F' off d' := fun j hj => by
  rw [e _ (by omega), ed j hj]
  exact h j (by omega)
set_option maxRecDepth 100000 in
set_option maxHeartbeats 4000000 in
theorem deleteI_any (g : Nat) (lb : Array Value) (eg : ∀ args w, (callFunc g args).run Try.prog w = .ok (.enter g args) w) (p : Int → Bool) (b off c N : Nat) (F : Nat → Value) (d : Array Int) (w : World)
    (hp : ∀ (W : World) (x : Int), x ∈ d.toList → w.grownBy W (some b) → Calls Try.prog g (#[I x] ++ lb) W fun e w' => e = .returned (.bool (p x)) ∧ W.grownBy w' none)
    (hR : RowAt w b 3 F N) (hlc : IC F off d) (hN : off + c ≤ N) (hdc : d.size ≤ c) (hd : d.size ≤ 1000000) :
    Calls Try.prog 112 #[.slice (some ⟨b, off, none⟩) d.size c, .func (.func g) #[] lb] w fun e w' => ∃ F', e = .returned (.slice (some ⟨b, off, none⟩) (d.toList.filter fun x => !p x).length c) ∧ w.grownBy w' (some b) ∧ RowAt w' b 3 F' N ∧ IC F' off (d.toList.filter fun x => !p x).toArray := by
  have hIF := indexI_any g lb eg p b off c N F d w (fun W x hx h => hp W x hx (weak2 h)) hR hlc (by omega) hd
  obtain ⟨kp, HK⟩ : ∃ kp : Nat → Bool, Hid (kp = fun j => !p d[j]!) := ⟨_, Lib.hid rfl⟩
  have hfil : (d.toList.filter fun x => !p x) = Go.Lib.keptUpTo kp d d.size := by rw [HK.out]; exact (Go.Lib.keptUpTo_filter (fun x => !p x) d).symm
  rw [hfil]
  have HR := Lib.hid hR
  have HL := Lib.hid hlc
  have HP := Lib.hid hp
  clear hR hlc hp hfil
  go_enter Try.func112, Try.ntmps112
  go_upto_region 2 with (go_at_call 118; refine hIF.mono ?_; rintro e w1 ⟨r, rfl, hr, hg1⟩)
  rcases hr with ⟨rfl, hall⟩ | ⟨k0, rfl, hk0, ht, hall⟩
  · have hkeep : ∀ j, j < d.size → kp j = true := fun j hj => by rw [HK.out]; show (!p d[j]!) = true; rw [hall j hj]; rfl
    have e3 : Go.Lib.keptUpTo kp d d.size = d.toList := by
      have := Go.Lib.keptUpTo_filter (fun x => !p x) d
      rw [HK.out, this, List.filter_eq_self]
      intro x hx
      obtain ⟨j, hj, e⟩ := List.getElem_of_mem hx
      have hj' : j < d.size := by simpa using hj
      have := hall j hj'
      rw [getElem!_pos d j hj'] at this
      rw [← e]
      simp [this]
    have E3 := Lib.hid e3
    clear hIF hall hkeep e3
    go_wp2
    go_ret
    rw [E3.out]
    exact ⟨F, by simp, weak2 hg1, HR.out.kept hg1 (by simp), by simpa using HL.out⟩
  · have hkeep : ∀ j, j < k0 → kp j = true := fun j hj => by rw [HK.out]; show (!p d[j]!) = true; rw [hall j hj]; rfl
    have hdrop : kp k0 = false := by rw [HK.out]; show (!p d[k0]!) = false; rw [ht]; rfl
    have hne1 : ((k0 : Int) == -1) = false := beq_eq_false_iff_ne.2 (by omega)
    have HI := Lib.hid (Go.Lib.KeptInv.start (kp := kp) (d := d) (k0 := k0) hkeep hdrop)
    have hg1' : w.grownBy w1 (some b) := weak2 hg1
    have hR1 := Lib.hid (HR.out.kept hg1 (by simp))
    clear hIF hall hkeep hdrop ht
    go_wp2_with fail
    go_loopw [5, 6] (fun s5 s6 wr => ∃ (i j : Nat) (dk : Array Int) (F' : Nat → Value), s5 = .int .i64 i ∧ s6 = .int .i64 j ∧ j ≤ d.size ∧ w.grownBy wr (some b) ∧ Hid (RowAt wr b 3 F' N) ∧ Hid (IC F' off dk) ∧ Hid (Go.Lib.KeptInv kp d j i dk)) (fun _ s6 _ => d.size - (intOf s6).toNat)
    case atStart => exact ⟨k0, k0 + 1, d, F, rfl, by go_num, by omega, hg1', hR1, HL, HI⟩
    case round =>
      obtain ⟨i, j, dk, F', rfl, rfl, hjd, hgw, hR', hL', I2⟩ := hrel
      obtain ⟨wo, hwo⟩ : ∃ wo : World, wo = wr := ⟨_, rfl⟩
      rw [← hwo] at hgw hR'
      rw [← hwo]
      clear hwo hR1 hg1' hg1 HI
      have hij := I2.out.lt
      have hds := Lib.hid I2.out.size
      by_cases hlt : j < d.size
      · have e0 := hL'.out j (by rw [hds.out]; exact hlt)
        rw [I2.out.high j (by omega)] at e0
        have c0 : wo.cell? ⟨b, off + j, none⟩ = some (I d[j]!) := (hR'.out.at_ (by omega)).trans (by rw [e0])
        obtain ⟨x, hx⟩ : ∃ x, x = d[j]! := ⟨_, rfl⟩
        rw [← hx] at c0
        have hgwa := hgw
        have hcall := HP.out wo x (by rw [hx]; exact imem hlt) hgw
        have HX := Lib.hid hx
        clear e0 hx
        go_upto_region 8 with fail
        clear c0
        cases hq : p x with
        | true =>
          have HQ := Lib.hid hq
          rw [hq] at hcall
          clear hq
          go_wp2_with (go_at_fn g; refine hcall.mono ?_; rintro e w2 ⟨rfl, hb'⟩)
          go_roundw
          case rel => exact ⟨i, j + 1, dk, F', rfl, by go_num, by omega, grown_trans hgwa (weak2 hb'), Lib.hid (hR'.out.kept hb' (by simp)), hL', Lib.hid (I2.out.skip (by rw [HK.out]; show (!p d[j]!) = false; rw [← HX.out, HQ.out]; rfl))⟩
          case measure => simp [intOf]; omega
        | false =>
          have HQ := Lib.hid hq
          rw [hq] at hcall
          clear hq
          go_upto_region 9 with (go_at_fn g; refine hcall.mono ?_; rintro e w2 ⟨rfl, hb'⟩)
          have hR2 := hR'.out.kept hb' (by simp)
          have g0 := hR2.at_ (i := off + i) (by omega)
          have f0 := hR2.free (off + i)
          have hR3 := Lib.hid (hR2.set (off + i) (I x))
          have hL3 := Lib.hid (hL'.out.set (i := i) (by rw [hds.out]; omega) x)
          have hI3 := Lib.hid (I2.out.keep hlt (by rw [HK.out]; show (!p d[j]!) = true; rw [← HX.out, HQ.out]; rfl))
          have hg3 := grown_trans (grown_trans hgwa (weak2 hb')) (grown_setCell w2 ⟨b, off + i, none⟩ (I x))
          clear hR2 hcall
          generalize F' (off + i) = v0 at g0
          go_wp2_with fail
          go_roundw
          case rel => exact ⟨i + 1, j + 1, _, _, by go_num, by go_num, by omega, hg3, hR3, hL3, by rw [HX.out]; exact hI3⟩
          case measure => simp [intOf]; omega
      · obtain rfl : j = d.size := by omega
        have hle : i < d.size := hij
        go_upto_region 12 with (refine wpList_clear_i rfl _ rfl b (off + i) (d.size - i) (c - i) N F' rfl (by omega) hR'.out (by omega) ?_; intro w4 F4 hg4 hR4 hF4)
        have HR4 := Lib.hid hR4
        have HF4 := Lib.hid hF4
        have hg5 := grown_trans hgw hg4
        clear hR4 hF4 hg4
        go_wp2_with fail
        go_ret
        have hI := I2.out
        have hlen := hI.len
        refine ⟨F4, by rw [hlen]; rfl, hg5, HR4.out, hL'.out.congr (by simp [hlen]; rw [hds.out]; omega) (fun x hx => HF4.out x (by simp [hlen] at hx; exact hx)) (fun k hk => ?_)⟩
        have hk' : k < i := by simpa [hlen] using hk
        have := hI.low k hk'
        rw [getElem!_pos _ k hk]
        simp only [List.getElem_toArray]
        rw [List.getElem?_eq_getElem (by rw [hlen]; exact hk')] at this
        exact Option.some.inj this
end Go.Proofs.Ytehoaenkkmmobaa

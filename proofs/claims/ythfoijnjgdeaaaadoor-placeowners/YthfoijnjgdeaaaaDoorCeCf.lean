/- Claims: what the reference's Pick answers. -/
import Derived.Test.YthfoijnjgdeaaaaDoorCcCd
import Derived.Lib.LazyBuf
import Derived.Lib.SliceRun
namespace Go.Proofs.YthfoijnjgdeaaaaDoor
open Go.Shelf Go.RowKit Go.Lib Go.Sort
set_option linter.unusedVariables false
set_option linter.unusedSimpArgs false
attribute [local go_sem ↓] Go.wp_at_zero Go.wp_at_succ
/-- The owner that is picked for a shard. -/
def pk (al : List Bool) (os : List (List Int)) (j : Nat) : Int := (liveL al (os.getD j [])).getD (j % (liveL al (os.getD j [])).length) 0
def pks (al : List Bool) (os : List (List Int)) (n : Nat) : List Int := (List.range n).map (pk al os)
def allLive (al : List Bool) (os : List (List Int)) : Bool := os.all fun zs => decide (liveL al zs ≠ [])
def pkE (N S R : Int) (nm : ByteArray) (cs : List Col) (os : List (List Int)) (al : List Bool) : Int := if claimE N S R nm cs os = 0 then (if allLive al os = true then 0 else 18) else claimE N S R nm cs os
def zsP (N S R : Int) (nm : ByteArray) (cs : List Col) (os : List (List Int)) (al : List Bool) : List Int := if pkE N S R nm cs os al = 0 then pks al os os.length else []
theorem areO_all {N : Int} : ∀ {zs : List Int} {la : Int}, 0 ≤ la → la ≤ N - 1 → areO N la zs = true → (∀ z ∈ zs, 1 ≤ z ∧ z ≤ N - 1) ∧ (zs.length : Int) ≤ N - 1 - la
  | [], la, h0, h1, _ => ⟨by simp, by simp; omega⟩
  | z :: zs, la, h0, h1, h => by
    rw [areO] at h
    simp only [Bool.and_eq_true, decide_eq_true_eq] at h
    obtain ⟨⟨a, b⟩, c⟩ := h
    obtain ⟨h2, h3⟩ := areO_all (by omega) b c
    refine ⟨fun y hy => ?_, by simp; omega⟩
    rcases List.mem_cons.1 hy with rfl | hy
    · exact ⟨by omega, b⟩
    · exact h2 y hy
theorem claimE_ok {N S R : Int} {nm : ByteArray} {cs : List Col} {os : List (List Int)} (h : claimE N S R nm cs os = 0) : layE N S R = 0 ∧ (os.length : Int) = S ∧ ∀ zs ∈ os, (∀ z ∈ zs, 1 ≤ z ∧ z ≤ N - 1) ∧ zs.length ≤ 7 := by
  unfold claimE at h
  by_cases h0 : layE N S R = 0
  · rw [if_pos h0] at h
    by_cases h1 : tableV nm cs [] = 0
    · rw [if_pos h1] at h
      by_cases h2 : (os.length : Int) = S
      · rw [if_pos h2] at h
        by_cases h3 : allO N os = true
        · refine ⟨h0, h2, fun zs hz => ?_⟩
          obtain ⟨k1, k2, _⟩ := layE_zero.1 h0
          have := List.all_eq_true.1 h3 zs hz
          rw [areOs, Bool.and_eq_true] at this
          obtain ⟨a, b⟩ := areO_all (by omega) (by omega) this.1
          exact ⟨a, by omega⟩
        · rw [if_neg h3] at h; cases h
      · rw [if_neg h2] at h; cases h
    · rw [if_neg h1] at h; cases h
  · rw [if_neg h0] at h; cases h
theorem pks_step (al : List Bool) (os : List (List Int)) (i : Nat) : pks al os (i + 1) = pks al os i ++ [pk al os i] := by
  unfold pks
  rw [List.range_succ, List.map_append]; rfl
theorem pks_len (al : List Bool) (os : List (List Int)) (i : Nat) : (pks al os i).length = i := by simp [pks]
theorem allLive_at (al : List Bool) (os : List (List Int)) (i : Nat) (hi : i < os.length) : allLive al (os.drop i) = (decide (liveL al os[i] ≠ []) && allLive al (os.drop (i + 1))) := by
  rw [List.drop_eq_getElem_cons hi]; rfl
set_option maxRecDepth 100000 in
set_option maxHeartbeats 2000000 in
theorem refPick_any (N S R : Int) (nm : ByteArray) (pc : Option Addr) (mc cc : Nat) (cs : List Col) (vb vl : Int) (vo : Value) (os : List (List Int)) (va : Value) (al : List Bool) (w : World) (hc : ColA w (.slice pc mc cc) cs) (ho : OwnsL w vo os) (ha : BoolsL w va al) :
    Calls Tryd.prog 21 #[.agg #[.int .i64 N, .int .i64 S, .int .i64 R], .agg #[.string nm, .slice pc mc cc, .int .u64 vb, .int .u64 vl, vo], va] w fun e w' => ∃ u, e = .returned (.tuple #[u, .int .i64 (pkE N S R nm cs os al)]) ∧ IntsL w' u (zsP N S R nm cs os al) ∧ Below w.heap.size w w' := by
  have C1 : Hid (∀ W, Below w.heap.size w W → Calls Tryd.prog 23 #[.agg #[.int .i64 N, .int .i64 S, .int .i64 R], .agg #[.string nm, .slice pc mc cc, .int .u64 vb, .int .u64 vl, vo]] W fun e w' => e = .returned (.int .i64 (claimE N S R nm cs os)) ∧ Below W.heap.size W w') := fun W h => refClaim_any N S R nm pc mc cc cs vb vl vo os W (hc.below h) (ho.below h)
  have HAl : Hid (BoolsL w va al) := ha
  obtain ⟨po, co, rfl, hol, hp⟩ := ho
  obtain ⟨pa, ca, rfl, _, _⟩ := ha
  have HP : Hid (0 < os.length → ∃ b o, po = some ⟨b, o, none⟩ ∧ b < w.heap.size ∧ ∀ j (h : j < os.length), ∃ u, w.cell? ⟨b, o + j, none⟩ = some u ∧ IntsL w u os[j]) := hp
  clear hc hp
  by_cases h0 : claimE N S R nm cs os = 0
  · obtain ⟨hlay, hS, hos⟩ := claimE_ok h0
    obtain ⟨k1, k2, k3, k4, k5, k6⟩ := layE_zero.1 hlay
    have hS8 : os.length ≤ 8 := by omega
    have HO : Hid (∀ zs ∈ os, (∀ z ∈ zs, 1 ≤ z ∧ z ≤ N - 1) ∧ zs.length ≤ 7) := hos
    rw [h0] at C1
    obtain ⟨T, hT⟩ : ∃ T, allLive al os = T := ⟨_, rfl⟩
    have HT : Hid (allLive al (os.drop 0) = T) := hT
    have e1 : pkE N S R nm cs os al = if T = true then 0 else 18 := by unfold pkE; rw [if_pos h0, hT]
    have e2 : zsP N S R nm cs os al = if T = true then pks al os os.length else [] := by
      unfold zsP
      rw [e1]
      cases T
      · simp
      · simp
    rw [e1, e2]
    obtain ⟨A, hA⟩ : ∃ A : Int, (if T = true then (0 : Int) else 18) = A := ⟨_, rfl⟩
    obtain ⟨Z, hZ⟩ : ∃ Z : List Int, (if T = true then pks al os os.length else []) = Z := ⟨_, rfl⟩
    have HA : Hid ((if T = true then (0 : Int) else 18) = A) := hA
    have HZ : Hid ((if T = true then pks al os os.length else []) = Z) := hZ
    rw [hA, hZ]
    obtain ⟨i0, hi0, hz0', hz1', hz2'⟩ := info3
    clear hA hZ e1 e2 hT hS h0 hlay hos
    go_enter Tryd.func21, Tryd.ntmps21
    go_wp2_with fail
    refine (C1.out _ (two_below w _ _)).mono ?_
    rintro e w1 ⟨rfl, hb1⟩
    have y4 : w1.cell? ⟨w.heap.size + 1, 4, none⟩ = some (.slice po os.length co) := by rw [hb1.cell (by simp)]; exact two_second w _ _ _ _ _ rfl
    have HB : Hid (Below w.heap.size w w1) := (two_below w _ _).trans (hb1.mono (by simp; omega))
    have HJ : Hid (OwnI w1 (.slice none 0 0) (pks al os 0) w1) := ⟨World.ownsRow_nil _ _ _ _, Below.refl _ _⟩
    clear hb1
    go_wp2_with fail
    go_loopg [9, 22] os.length (fun gf s9 s22 wx => ∃ (u : Value) (i : Nat), u = s9 ∧ s22 = .int .i64 i ∧ i ≤ os.length ∧ os.length ≤ i + gf ∧ Hid (OwnI w1 u (pks al os i) wx) ∧ Hid (allLive al (os.drop i) = T))
    case atStart => exact ⟨_, 0, rfl, rfl, by omega, by omega, HJ, HT⟩
    case round =>
      clear HT HJ
      obtain ⟨v9, i, rfl, rfl, hi1, hgf, HJ, HT⟩ := hrel
      have hbr : Below w.heap.size w wr := HB.out.trans (HJ.out.2.mono HB.out.size)
      by_cases hi : i < os.length
      · obtain ⟨g', rfl⟩ : ∃ g', gk = g' + 1 := ⟨gk - 1, by omega⟩
        obtain ⟨b, o, rfl, hB, hcc⟩ := HP.out (by omega)
        obtain ⟨u, c0, c1⟩ := hcc i hi
        rw [← hbr.cell (p := ⟨b, _, none⟩) hB] at c0
        have hat := allLive_at al os i hi
        rw [HT.out] at hat
        obtain ⟨hz, hz7⟩ := HO.out os[i] (List.getElem_mem hi)
        have ei : os.getD i [] = os[i] := by simp [List.getD, hi]
        have CL : Hid (Calls Tryd.prog 25 #[u, .slice pa al.length ca] wr fun e w' => ∃ u', e = .returned u' ∧ OwnI wr u' (liveL al os[i]) w') := live_any u _ os[i] al wr (c1.below hbr) (HAl.out.below hbr) (fun z h => by have := hz z h; omega) (by omega)
        have hll : (liveL al os[i]).length ≤ 7 := Nat.le_trans (liveL_len _ _) hz7
        have HPK : Hid (pk al os i = (liveL al os[i]).getD (i % (liveL al os[i]).length) 0) := by show _ = _; unfold pk; rw [ei]
        obtain ⟨ls, hls⟩ : ∃ ls, liveL al os[i] = ls := ⟨_, rfl⟩
        rw [hls] at CL hll hat HPK
        obtain ⟨pu, cu, rfl, _, _⟩ := c1
        obtain ⟨Lu, hLu⟩ : ∃ Lu, os[i].length = Lu := ⟨_, rfl⟩
        rw [hLu] at CL c0
        have hz0 : (0 : Int) ≤ (i : Int) := by omega
        have hz1 : (i : Int) < (os.length : Int) := by omega
        have HBr : Hid (Below w.heap.size w wr) := hbr
        clear hcc hz hz7 ei hls hLu HT hbr
        go_wp2_with fail
        refine CL.out.mono ?_
        rintro e w2 ⟨u2, rfl, hI2⟩
        have HI2 : Hid (IntsL w2 u2 ls) := hI2.ints (by omega)
        have HB2 : Hid (Below wr.heap.size wr w2) := hI2.2
        clear hI2 CL
        obtain ⟨p2, c2, rfl, _, hcell⟩ := HI2.out
        by_cases hl0 : ls.length = 0
        · have hq : ((ls.length : Int) == 0) = true := beq_iff_eq.2 (by omega)
          have HF : Hid (T = false) := by
            show _ = _
            rw [hat, decide_eq_false (by simp [List.eq_nil_of_length_eq_zero hl0]), Bool.false_and]
          have HA2 : Hid (A = 18) := by show _ = _; rw [← HA.out, HF.out]; rfl
          have HZ2 : Hid (Z = []) := by show _ = _; rw [← HZ.out, HF.out]; rfl
          have HB3 : Hid (Below w.heap.size w w2) := HBr.out.trans (HB2.out.mono HBr.out.size)
          clear hat hcell hl0 HJ
          go_wp2_with fail
          go_ret2
          exact ⟨_, by rw [HA2.out]; rfl, by rw [HZ2.out]; exact ⟨none, 0, rfl, by simp, fun h => by simp at h⟩, HB3.out⟩
        · have hq : ((ls.length : Int) == 0) = false := beq_eq_false_iff_ne.2 (by omega)
          have HT2 : Hid (allLive al (os.drop (i + 1)) = T) := by
            show _ = _
            rw [hat, decide_eq_true (by intro e; rw [e] at hl0; exact hl0 rfl), Bool.true_and]
          obtain ⟨b2, o2, rfl, hB2, hc2⟩ := hcell (by omega)
          have hmod : i % ls.length < ls.length := Nat.mod_lt _ (by omega)
          have d0 := hc2 _ hmod
          have HPK2 : Hid (pk al os i = ls[i % ls.length]) := by show _ = _; rw [HPK.out]; simp [List.getD, hmod]
          obtain ⟨y, hy⟩ : ∃ y, ls[i % ls.length] = y := ⟨_, rfl⟩
          rw [hy] at d0 HPK2
          have q3 : (i : Int).tmod (ls.length : Int) = ((i % ls.length : Nat) : Int) := by rw [Int.tmod_eq_emod_of_nonneg (by omega)]; simp
          obtain ⟨md, hmd⟩ : ∃ md, i % ls.length = md := ⟨_, rfl⟩
          rw [hmd] at d0 q3 hmod
          have q4 : IntKind.i64.wrap (md : Int) = (md : Int) := by rw [IntKind.wrap_i64]; omega
          have q5 : (0 : Int) ≤ (md : Int) := by omega
          have q6 : (md : Int) < (ls.length : Int) := by omega
          obtain ⟨hown0, hbw0⟩ := HJ.out
          have hown : w2.ownsRow w1.heap.size 3 1 v9 (pks al os i).length ((pks al os i).map fun z => .int .i64 z) := hown0.kept (grown_of_below HB2.out) (by cases v9.ownBlock <;> simp)
          have hbw : Below w1.heap.size w1 w2 := hbw0.trans (HB2.out.mono hbw0.size)
          rw [pks_len] at hown
          have hlen9 := pks_len al os i
          obtain ⟨acc, hacc⟩ : ∃ acc, pks al os i = acc := ⟨_, rfl⟩
          have HE : Hid (pks al os (i + 1) = acc ++ [y]) := by show _ = _; rw [pks_step, hacc, HPK2.out]
          rw [hacc] at hown hlen9
          have HLen : Hid (acc.length = i) := hlen9
          clear hat hcell hl0 HJ hown0 hbw0 hc2 hy hmd hacc hlen9
          go_wp2_with (at_builtin; refine wpList_append_own _ rfl _ _ 30 rfl w1.heap.size 3 i0 (.int .i64 0) 1 8 Tryd.underlying30 hi0 hz0' hz1' hz2' rfl (by decide) _ i _ rfl (hown.alloc _) ⟨_, 0, none⟩ 1 1 [.int .i64 y] rfl rfl (cell_one_at _ _ _ _ (by simp)) (fun x hx => by simp at hx; subst hx; rfl) (by unfold maxLen; omega) (by omega) (by have := hbw.size; simp; omega) ?_; intro v' w3 hown' hgrow3 hnil3)
          go_roundg g'
          case measure => omega
          case rel =>
            refine ⟨_, i + 1, rfl, by go_num, by omega, by omega, ?_, HT2⟩
            show OwnI w1 v' _ w3
            rw [HE.out]
            refine ⟨?_, ?_⟩
            · rw [List.map_append, List.length_append, HLen.out]; exact hown'
            · exact Below.grown (hbw.alloc hbw.size _) hgrow3 (by have := hbw.size; simp; omega) (fun j hj => by have := (hown.lt _ hj).1; omega)
      · have hend : i = os.length := by omega
        have hz1 : ¬ (i : Int) < (os.length : Int) := by omega
        have HF : Hid (T = true) := by show _ = _; rw [← HT.out, hend, List.drop_length]; rfl
        have HA2 : Hid (A = 0) := by show _ = _; rw [← HA.out, HF.out]; rfl
        have HI : Hid (IntsL wr v9 Z) := by
          have h := HJ.out.ints (by rw [pks_len]; omega)
          rw [hend] at h
          have e : Z = pks al os os.length := by rw [← HZ.out, HF.out]; rfl
          rw [e]; exact h
        have HBr : Hid (Below w.heap.size w wr) := hbr
        clear HT hend HJ hbr
        go_wp2_with fail
        go_ret2
        exact ⟨_, by rw [HA2.out]; rfl, HI.out, HBr.out⟩
  · have e1 : pkE N S R nm cs os al = claimE N S R nm cs os := by unfold pkE; rw [if_neg h0]
    have e2 : zsP N S R nm cs os al = [] := by unfold zsP; rw [e1, if_neg h0]
    rw [e1, e2]
    obtain ⟨E, hE⟩ : ∃ E, claimE N S R nm cs os = E := ⟨_, rfl⟩
    rw [hE] at C1 h0 ⊢
    have hne : (E != 0) = true := bne_iff_ne.2 h0
    clear e1 e2 hE h0
    go_enter Tryd.func21, Tryd.ntmps21
    go_wp2_with fail
    refine (C1.out _ (two_below w _ _)).mono ?_
    rintro e w1 ⟨rfl, hb1⟩
    have HB : Hid (Below w.heap.size w w1) := (two_below w _ _).trans (hb1.mono (by simp; omega))
    clear hb1
    go_wp2_with fail
    go_ret2
    exact ⟨_, rfl, ⟨none, 0, rfl, by simp, fun h => by simp at h⟩, HB.out⟩
end Go.Proofs.YthfoijnjgdeaaaaDoor
/- Claims: what Pick's closure, and IndexFunc with it, answer; a list of numbers that is cloned. -/
namespace Go.Proofs.YthfoijnjgdeaaaaDoor
open Go.Shelf Go.RowKit Go.Lib Go.Sort
set_option linter.unusedVariables false
set_option linter.unusedSimpArgs false
attribute [local go_sem ↓] Go.wp_at_zero Go.wp_at_succ
/-- The box of those that are alive. -/
def BoxA (W : World) (ba : Nat) (al : List Bool) : Prop := ∃ p c, ba < W.heap.size ∧ W.cell? ⟨ba, 0, none⟩ = some (.slice p al.length c) ∧ BoolsL W (.slice p al.length c) al
theorem BoxA.below {W W' : World} {ba : Nat} {al : List Bool} (h : BoxA W ba al) (hb : Below W.heap.size W W') : BoxA W' ba al := by
  obtain ⟨p, c, h0, h1, h2⟩ := h
  exact ⟨p, c, Nat.lt_of_lt_of_le h0 hb.size, by rw [hb.cell (p := ⟨ba, _, none⟩) h0]; exact h1, h2.below hb⟩
set_option maxRecDepth 100000 in
set_option maxHeartbeats 2000000 in
theorem isDead_any (ba : Nat) (al : List Bool) (y : Nat) (w : World) (hx : BoxA w ba al) :
    Calls Tryd.prog 34 #[.int .i64 (y : Int), .pointer (some ⟨ba, 0, none⟩)] w fun e w' => e = .returned (.bool (!aliveB al (y : Int))) ∧ w' = w := by
  obtain ⟨p, c, h0, h1, h2⟩ := hx
  obtain ⟨p', c', ev, hl, hp⟩ := h2
  simp only [Value.slice.injEq] at ev
  obtain ⟨rfl, _, rfl⟩ := ev
  have hzy : (0 : Int) ≤ (y : Int) := by omega
  by_cases hy : y < al.length
  · obtain ⟨b2, o2, rfl, hB2, hc2⟩ := hp (by omega)
    have x1 := hc2 y hy
    have ea : aliveB al (y : Int) = al[y] := by unfold aliveB; simp [List.getD, hy]
    rw [ea]
    obtain ⟨T, hT⟩ : ∃ T, al[y] = T := ⟨_, rfl⟩
    rw [hT] at x1 ⊢
    have hy1 : (y : Int) < (al.length : Int) := by omega
    have hy2 : ¬ (al.length : Int) ≤ (y : Int) := by omega
    clear hc2 ea hp hT
    go_enter Tryd.func34, Tryd.ntmps34
    go_wp2_with fail
    go_ret
    exact ⟨rfl, rfl⟩
  · have hy1 : (al.length : Int) ≤ (y : Int) := by omega
    have ea : aliveB al (y : Int) = false := by unfold aliveB; simp [List.getD, List.getElem?_eq_none (Nat.le_of_not_lt hy)]
    rw [ea]
    clear hp ea
    go_enter Tryd.func34, Tryd.ntmps34
    go_wp2_with fail
    go_ret
    exact ⟨rfl, rfl⟩
set_option maxRecDepth 100000 in
set_option maxHeartbeats 2000000 in
/-- The first one that is dead, or none. -/
theorem deadIdx_any (ba : Nat) (al : List Bool) (v : Value) (zs : List Int) (w : World) (hx : BoxA w ba al) (hz : IntsL w v zs) (hn : ∀ z ∈ zs, 0 ≤ z) :
    Calls Tryd.prog 55 #[v, .func (.func 34) #[] #[.pointer (some ⟨ba, 0, none⟩)]] w fun e w' => w' = w ∧ ((e = .returned (.int .i64 (-1)) ∧ liveL al zs = zs) ∨ ∃ k : Nat, k < zs.length ∧ e = .returned (.int .i64 k) ∧ liveL al (zs.take (k + 1)) = zs.take k ∧ (zs.take k).length = k) := by
  obtain ⟨p, c, rfl, hl, hp⟩ := hz
  have HP : Hid (0 < zs.length → ∃ b o, p = some ⟨b, o, none⟩ ∧ b < w.heap.size ∧ ∀ j (h : j < zs.length), w.cell? ⟨b, o + j, none⟩ = some (.int .i64 zs[j])) := hp
  have HX : Hid (BoxA w ba al) := hx
  have HN : Hid (∀ z ∈ zs, 0 ≤ z) := hn
  clear hp hx hn
  go_enter Tryd.func55, Tryd.ntmps55
  go_wp2_with fail
  go_loopg [8] zs.length (fun gf s8 wx => ∃ i : Nat, s8 = .int .i64 i ∧ i ≤ zs.length ∧ zs.length ≤ i + gf ∧ wx = w ∧ Hid (liveL al (zs.take i) = zs.take i))
  case atStart => exact ⟨0, rfl, by omega, by omega, rfl, (show _ = _ from rfl)⟩
  case round =>
    obtain ⟨i, rfl, hi1, hgf, hwx, HT⟩ := hrel
    subst hwx
    by_cases hi : i < zs.length
    · obtain ⟨g', rfl⟩ : ∃ g', gk = g' + 1 := ⟨gk - 1, by omega⟩
      obtain ⟨b, o, rfl, hB, hc⟩ := HP.out (by omega)
      have c0 := hc i hi
      have hzn := HN.out _ (List.getElem_mem hi)
      have hst := liveL_step al zs i hi
      have htk : zs.take (i + 1) = zs.take i ++ [zs[i]] := List.take_succ_eq_append_getElem hi
      obtain ⟨z, hz⟩ : ∃ z, zs[i] = z := ⟨_, rfl⟩
      rw [hz] at c0 hzn hst htk
      obtain ⟨y, rfl⟩ : ∃ y : Nat, z = (y : Int) := ⟨z.toNat, by omega⟩
      have C1 : Hid (Calls Tryd.prog 34 #[.int .i64 (y : Int), .pointer (some ⟨ba, 0, none⟩)] wr fun e w' => e = .returned (.bool (!aliveB al (y : Int))) ∧ w' = wr) := isDead_any ba al y wr HX.out
      have hz0 : (0 : Int) ≤ (i : Int) := by omega
      have hz1 : (i : Int) < (zs.length : Int) := by omega
      clear hc hz hzn
      cases ha : aliveB al (y : Int)
      · rw [ha] at hst C1
        have HF : Hid (liveL al (zs.take (i + 1)) = zs.take i) := by show _ = _; rw [hst]; exact HT.out
        have HL : Hid ((zs.take i).length = i) := by show _ = _; rw [List.length_take]; omega
        clear hst ha HT htk
        go_wp2_with fail
        refine C1.out.mono ?_
        rintro e w2 ⟨rfl, rfl⟩
        clear C1
        go_wp2_with fail
        go_ret
        exact ⟨rfl, .inr ⟨i, hi, rfl, HF.out, HL.out⟩⟩
      · rw [ha] at hst C1
        have HT2 : Hid (liveL al (zs.take (i + 1)) = zs.take (i + 1)) := by show _ = _; rw [hst, htk, if_pos rfl, HT.out]
        clear hst ha HT htk
        go_wp2_with fail
        refine C1.out.mono ?_
        rintro e w2 ⟨rfl, rfl⟩
        clear C1
        go_wp2_with fail
        go_roundg g'
        case measure => omega
        case rel => exact ⟨i + 1, by go_num, by omega, by omega, rfl, HT2⟩
    · have hend : i = zs.length := by omega
      have hz1 : ¬ (i : Int) < (zs.length : Int) := by omega
      have HF : Hid (liveL al zs = zs) := by have := HT.out; rwa [hend, List.take_length] at this
      clear HT hend
      go_wp2_with fail
      go_ret
      exact ⟨rfl, .inl ⟨rfl, HF.out⟩⟩
set_option maxRecDepth 100000 in
set_option maxHeartbeats 2000000 in
theorem cloneInts_any (v : Value) (zs : List Int) (w : World) (hz : IntsL w v zs) (h0 : 0 < zs.length) (h8 : zs.length * 8 ≤ 140737488355328) :
    Calls Tryd.prog 36 #[v] w fun e w' => ∃ u, e = .returned u ∧ OwnI w u zs w' := by
  obtain ⟨p, c, rfl, hl, hp⟩ := hz
  obtain ⟨b, o, rfl, hB, hc⟩ := hp h0
  obtain ⟨i0, hi0, hz0', hz1', hz2'⟩ := info3
  have hown : (w.alloc (.cells #[] 3)).ownsRow w.heap.size 3 1 (.slice (some ⟨w.heap.size, 0, none⟩) 0 0) 0 [] := ⟨rfl, .inr ⟨w.heap.size, 0, #[], rfl, Nat.le_refl _, heap_alloc_new w _, Nat.le_refl _, Nat.zero_le _, rfl, rfl⟩⟩
  have HC : Hid (∀ j u, (zs.map fun z => Value.int .i64 z)[j]? = some u → (w.alloc (.cells #[] 3)).cell? ((⟨b, o, none⟩ : Addr).add j) = some u) := fun j u hu => by
    rw [Go.WideShapes.add_plain, World.cell?_of_block (w := w) (heap_alloc_old w _ hB)]
    rw [List.getElem?_map] at hu
    by_cases hj : j < zs.length
    · rw [List.getElem?_eq_getElem hj] at hu
      rw [hc j hj]
      simpa using hu
    · rw [List.getElem?_eq_none (by omega)] at hu; cases hu
  have hq : (binOp .eql 30 (.slice (some ⟨b, o, none⟩) zs.length c) (.slice none 0 0)).run Tryd.prog w = .ok (.bool false) w := Lib.run_eql_slice_nil (h := Tryd.underlying30) ..
  clear hc hp
  go_enter Tryd.func36, Tryd.ntmps36
  go_wp2_with (at_builtin; refine wpList_append_own _ rfl _ _ 30 rfl w.heap.size 3 i0 (.int .i64 0) 1 8 Tryd.underlying30 hi0 hz0' hz1' hz2' rfl (by decide) _ 0 [] rfl hown ⟨b, o, none⟩ zs.length c (zs.map fun z => .int .i64 z) rfl (by simp) HC.out (fun x hx => by simp at hx; obtain ⟨z, _, rfl⟩ := hx; rfl) (by unfold maxLen; omega) (by omega) (by simp) ?_; intro v' w3 hown' hgrow3 hnil3)
  go_ret
  refine ⟨_, rfl, ?_, ?_⟩
  · simpa using hown'
  · exact Below.grown ((Below.refl _ _).alloc (Nat.le_refl _) _) hgrow3 (by simp) (fun j hj => by have := (hown.lt _ hj).1; omega)
end Go.Proofs.YthfoijnjgdeaaaaDoor

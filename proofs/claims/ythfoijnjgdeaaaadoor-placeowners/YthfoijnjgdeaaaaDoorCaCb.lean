/- Claims: what areOwners answers. -/
import Derived.Test.YthfoijnjgdeaaaaDoorPnPo
namespace Go.Proofs.YthfoijnjgdeaaaaDoor
open Go.Shelf Go.RowKit Go.Lib Go.Sort
set_option linter.unusedVariables false
set_option linter.unusedSimpArgs false
attribute [local go_sem ↓] Go.wp_at_zero Go.wp_at_succ
/-- Owners, each above the one before. -/
def areO (N : Int) : Int → List Int → Bool
  | _, [] => true
  | last, z :: zs => (decide (last + 1 ≤ z) && decide (z ≤ N - 1)) && areO N z zs
def areOs (N : Int) (zs : List Int) : Bool := areO N 0 zs && decide (0 < zs.length)
set_option maxRecDepth 100000 in
set_option maxHeartbeats 2000000 in
theorem areOwners_any (N S R : Int) (v : Value) (zs : List Int) (w : World) (hN : 2 ≤ N ∧ N ≤ 8) (hz : IntsL w v zs) :
    Calls Tryd.prog 39 #[.agg #[.int .i64 N, .int .i64 S, .int .i64 R], v] w fun e w' => e = .returned (.bool (areOs N zs)) ∧ Below w.heap.size w w' := by
  obtain ⟨p, c, rfl, hl, hp⟩ := hz
  have HP : Hid (0 < zs.length → ∃ b o, p = some ⟨b, o, none⟩ ∧ b < w.heap.size ∧ ∀ j (h : j < zs.length), w.cell? ⟨b, o + j, none⟩ = some (.int .i64 zs[j])) := hp
  obtain ⟨T, hT⟩ : ∃ T, areO N 0 zs = T := ⟨_, rfl⟩
  have HT : Hid (areO N 0 (zs.drop 0) = T) := hT
  have e : areOs N zs = (T && decide (0 < zs.length)) := by unfold areOs; rw [hT]
  rw [e]
  have hw : IntKind.i64.wrap (N - 1) = N - 1 := by rw [IntKind.wrap_i64]; omega
  obtain ⟨hN1, hN2⟩ := hN
  clear hp hT e
  go_enter Tryd.func39, Tryd.ntmps39
  go_wp2_with fail
  go_loopg [5, 10] zs.length (fun gf s5 s10 wx => ∃ (i : Nat) (la : Int), s5 = .int .i64 la ∧ s10 = .int .i64 i ∧ i ≤ zs.length ∧ zs.length ≤ i + gf ∧ 0 ≤ la ∧ la ≤ 7 ∧ Hid (Below w.heap.size w wx ∧ wx.cell? ⟨w.heap.size, 0, none⟩ = some (.int .i64 N)) ∧ Hid (areO N la (zs.drop i) = T))
  case atStart => exact ⟨0, 0, rfl, rfl, by omega, by omega, by omega, by omega, ⟨box3_below w _ _ _, cell_box w _ _ _ _ rfl⟩, HT⟩
  case round =>
    clear HT
    obtain ⟨i, la, rfl, rfl, hi1, hgf, la0, la7, HB, HT⟩ := hrel
    by_cases hi : i < zs.length
    · obtain ⟨g', rfl⟩ : ∃ g', gk = g' + 1 := ⟨gk - 1, by omega⟩
      obtain ⟨b, o, rfl, hB, hc⟩ := HP.out (by omega)
      have x0 := hc i hi
      rw [← HB.out.1.cell (p := ⟨b, _, none⟩) hB] at x0
      have x1 := HB.out.2
      have hd : zs.drop i = zs[i] :: zs.drop (i + 1) := List.drop_eq_getElem_cons hi
      obtain ⟨z, hz⟩ : ∃ z, zs[i] = z := ⟨_, rfl⟩
      rw [hz] at x0 hd
      have ht := HT.out
      rw [hd] at ht
      have hz0 : (0 : Int) ≤ (i : Int) := by omega
      have hz1 : (i : Int) < (zs.length : Int) := by omega
      have hw1 : IntKind.i64.wrap (la + 1) = la + 1 := by rw [IntKind.wrap_i64]; omega
      by_cases hin : la + 1 ≤ z ∧ z ≤ N - 1
      · have d1 : (decide (la + 1 ≤ z) && decide (z ≤ N - 1)) = true := by simp [hin.1, hin.2]
        have HT2 : Hid (areO N z (zs.drop (i + 1)) = T) := by
          show _ = _
          rw [← ht, areO, d1, Bool.true_and]
        have z0 : 0 ≤ z := by omega
        have z7 : z ≤ 7 := by omega
        clear hc HT hd hz ht hin
        go_wp2_with fail
        refine (within_any _ _ _ _).mono ?_
        rintro e w2 ⟨rfl, rfl⟩
        rw [d1]
        go_wp2_with fail
        go_roundg g'
        case measure => omega
        case rel => exact ⟨i + 1, z, rfl, by go_num, by omega, by omega, z0, z7, HB, HT2⟩
      · have d1 : (decide (la + 1 ≤ z) && decide (z ≤ N - 1)) = false := by
          cases hd : (decide (la + 1 ≤ z) && decide (z ≤ N - 1))
          · rfl
          · simp at hd; exact absurd hd hin
        have HF : Hid (T = false) := by
          show _ = _
          rw [← ht, areO, d1, Bool.false_and]
        clear hc HT hd hz ht hin
        go_wp2_with fail
        refine (within_any _ _ _ _).mono ?_
        rintro e w2 ⟨rfl, rfl⟩
        rw [d1]
        go_wp2_with fail
        go_ret
        exact ⟨by rw [HF.out, Bool.false_and]; rfl, HB.out.1⟩
    · have hend : i = zs.length := by omega
      have hz1 : ¬ (i : Int) < (zs.length : Int) := by omega
      have HF : Hid (T = true) := by
        show _ = _
        rw [← HT.out, hend, List.drop_length, areO]
      clear HT hend
      by_cases h0 : 0 < zs.length
      · have hz2 : (0 : Int) < (zs.length : Int) := by omega
        go_wp2_with fail
        go_ret
        exact ⟨by first | (rw [HF.out]; rfl) | rfl, HB.out.1⟩
      · have hz2 : ¬ (0 : Int) < (zs.length : Int) := by omega
        go_wp2_with fail
        go_ret
        exact ⟨by first | (rw [HF.out]; rfl) | rfl, HB.out.1⟩
end Go.Proofs.YthfoijnjgdeaaaaDoor
/- Claims: what the reference's Live answers. -/
namespace Go.Proofs.YthfoijnjgdeaaaaDoor
open Go.Shelf Go.RowKit Go.Lib Go.Sort
set_option linter.unusedVariables false
set_option linter.unusedSimpArgs false
attribute [local go_sem ↓] Go.wp_at_zero Go.wp_at_succ
/-- Those that are alive. -/
def aliveB (al : List Bool) (z : Int) : Bool := al.getD z.toNat false
def liveL (al : List Bool) (zs : List Int) : List Int := zs.filter fun z => aliveB al z
/-- A list of booleans that lies in memory. -/
def BoolsL (w : World) (v : Value) (bs : List Bool) : Prop :=
  ∃ p c, v = .slice p bs.length c ∧ bs.length ≤ 9223372036854775807 ∧ (0 < bs.length → ∃ b o, p = some ⟨b, o, none⟩ ∧ b < w.heap.size ∧ ∀ j (h : j < bs.length), w.cell? ⟨b, o + j, none⟩ = some (.bool bs[j]))
theorem BoolsL.below {w W : World} {v : Value} {bs : List Bool} (h : BoolsL w v bs) (hb : Below w.heap.size w W) : BoolsL W v bs := by
  obtain ⟨p, c, rfl, hl, h⟩ := h
  refine ⟨p, c, rfl, hl, fun h0 => ?_⟩
  obtain ⟨b, o, rfl, hlt, hc⟩ := h h0
  exact ⟨b, o, rfl, Nat.lt_of_lt_of_le hlt hb.size, fun j hj => by rw [hb.cell (p := ⟨b, _, none⟩) hlt]; exact hc j hj⟩
theorem liveL_step (al : List Bool) (zs : List Int) (i : Nat) (hi : i < zs.length) : liveL al (zs.take (i + 1)) = if aliveB al zs[i] then liveL al (zs.take i) ++ [zs[i]] else liveL al (zs.take i) := by
  unfold liveL
  rw [List.take_succ_eq_append_getElem hi, List.filter_append]
  by_cases h : aliveB al zs[i] = true
  · rw [if_pos h]; simp [h]
  · rw [if_neg h]; simp [h]
theorem liveL_len (al : List Bool) (zs : List Int) : (liveL al zs).length ≤ zs.length := List.length_filter_le _ _
set_option maxRecDepth 100000 in
set_option maxHeartbeats 2000000 in
theorem live_any (v va : Value) (zs : List Int) (al : List Bool) (w : World) (hz : IntsL w v zs) (ha : BoolsL w va al) (hn : ∀ z ∈ zs, 0 ≤ z) (h8 : (zs.length + 1) * 8 ≤ 140737488355328) :
    Calls Tryd.prog 25 #[v, va] w fun e w' => ∃ u, e = .returned u ∧ OwnI w u (liveL al zs) w' := by
  obtain ⟨p, c, rfl, hl, hp⟩ := hz
  obtain ⟨pa, ca, rfl, hla, hpa⟩ := ha
  have HP : Hid (0 < zs.length → ∃ b o, p = some ⟨b, o, none⟩ ∧ b < w.heap.size ∧ ∀ j (h : j < zs.length), w.cell? ⟨b, o + j, none⟩ = some (.int .i64 zs[j])) := hp
  have HA : Hid (0 < al.length → ∃ b o, pa = some ⟨b, o, none⟩ ∧ b < w.heap.size ∧ ∀ j (h : j < al.length), w.cell? ⟨b, o + j, none⟩ = some (.bool al[j])) := hpa
  have HN : Hid (∀ z ∈ zs, 0 ≤ z) := hn
  obtain ⟨i0, hi0, hz0', hz1', hz2'⟩ := info3
  have HJ : Hid (OwnI w (.slice none 0 0) (liveL al (zs.take 0)) w) := ⟨World.ownsRow_nil _ _ _ _, Below.refl _ _⟩
  clear hp hpa hn
  go_enter Tryd.func25, Tryd.ntmps25
  go_wp2_with fail
  go_loopg [5, 10] zs.length (fun gf s5 s10 wx => ∃ (u : Value) (i : Nat), u = s5 ∧ s10 = .int .i64 i ∧ i ≤ zs.length ∧ zs.length ≤ i + gf ∧ Hid (OwnI w u (liveL al (zs.take i)) wx))
  case atStart => exact ⟨_, 0, rfl, rfl, by omega, by omega, HJ⟩
  case round =>
    clear HJ
    obtain ⟨u, i, rfl, rfl, hi1, hgf, HJ⟩ := hrel
    by_cases hi : i < zs.length
    · obtain ⟨g', rfl⟩ : ∃ g', gk = g' + 1 := ⟨gk - 1, by omega⟩
      obtain ⟨b, o, rfl, hB, hc⟩ := HP.out (by omega)
      have x0 := hc i hi
      rw [← HJ.out.2.cell (p := ⟨b, _, none⟩) hB] at x0
      have hzn := HN.out _ (List.getElem_mem hi)
      have hst := liveL_step al zs i hi
      obtain ⟨z, hz⟩ : ∃ z, zs[i] = z := ⟨_, rfl⟩
      rw [hz] at x0 hzn hst
      obtain ⟨y, rfl⟩ : ∃ y : Nat, z = (y : Int) := ⟨z.toNat, by omega⟩
      have hz0 : (0 : Int) ≤ (i : Int) := by omega
      have hz1 : (i : Int) < (zs.length : Int) := by omega
      have hzy : (0 : Int) ≤ (y : Int) := by omega
      have hlen : (liveL al (zs.take i)).length ≤ i := Nat.le_trans (liveL_len _ _) (by simp; omega)
      clear hc hz hzn
      by_cases hy : y < al.length
      · obtain ⟨b2, o2, rfl, hB2, hc2⟩ := HA.out (by omega)
        have x1 := hc2 y hy
        rw [← HJ.out.2.cell (p := ⟨b2, _, none⟩) hB2] at x1
        have ea : aliveB al (y : Int) = al[y] := by unfold aliveB; simp [List.getD, hy]
        rw [ea] at hst
        have hy1 : (y : Int) < (al.length : Int) := by omega
        clear hc2 ea
        cases hal : al[y]
        · rw [hal] at x1 hst
          have HJ2 : Hid (OwnI w u (liveL al (zs.take (i + 1))) wr) := by rw [hst]; exact HJ.out
          clear HJ hst hal
          go_wp2_with fail
          go_roundg g'
          case measure => omega
          case rel => exact ⟨_, i + 1, rfl, by go_num, by omega, by omega, HJ2⟩
        · rw [hal] at x1 hst
          obtain ⟨ls, hls⟩ : ∃ ls, liveL al (zs.take i) = ls := ⟨_, rfl⟩
          rw [hls] at hlen
          have HE : Hid (liveL al (zs.take (i + 1)) = ls ++ [(y : Int)]) := by show _ = _; rw [hst, hls]; rfl
          obtain ⟨hown, hbw⟩ := HJ.out
          rw [hls] at hown
          clear HJ hst hal hls
          go_wp2_with (at_builtin; refine wpList_append_own _ rfl _ _ 30 rfl w.heap.size 3 i0 (.int .i64 0) 1 8 Tryd.underlying30 hi0 hz0' hz1' hz2' rfl (by decide) _ ls.length _ rfl (hown.alloc _) ⟨_, 0, none⟩ 1 1 [.int .i64 (y : Int)] rfl rfl (cell_one_at _ _ _ _ (by simp)) (fun x hx => by simp at hx; subst hx; rfl) (by unfold maxLen; omega) (by omega) (by have := hbw.size; simp; omega) ?_; intro v' w3 hown' hgrow3 hnil3)
          go_roundg g'
          case measure => omega
          case rel =>
            refine ⟨_, i + 1, rfl, by go_num, by omega, by omega, ?_⟩
            show OwnI w v' _ w3
            rw [HE.out]
            refine ⟨?_, ?_⟩
            · rw [List.map_append, List.length_append]; exact hown'
            · exact Below.grown (hbw.alloc hbw.size _) hgrow3 (by have := hbw.size; simp; omega) (fun j hj => by have := (hown.lt _ hj).1; omega)
      · have hy1 : ¬ (y : Int) < (al.length : Int) := by omega
        have ea : aliveB al (y : Int) = false := by unfold aliveB; simp [List.getD, List.getElem?_eq_none (Nat.le_of_not_lt hy)]
        rw [ea] at hst
        have HJ2 : Hid (OwnI w u (liveL al (zs.take (i + 1))) wr) := by rw [hst]; exact HJ.out
        clear HJ hst ea
        go_wp2_with fail
        go_roundg g'
        case measure => omega
        case rel => exact ⟨_, i + 1, rfl, by go_num, by omega, by omega, HJ2⟩
    · have hend : i = zs.length := by omega
      have hz1 : ¬ (i : Int) < (zs.length : Int) := by omega
      have HF : Hid (OwnI w u (liveL al zs) wr) := by have := HJ.out; rwa [hend, List.take_length] at this
      clear HJ hend HP HA
      go_wp2_with fail
      go_ret
      exact ⟨_, rfl, HF.out⟩
end Go.Proofs.YthfoijnjgdeaaaaDoor

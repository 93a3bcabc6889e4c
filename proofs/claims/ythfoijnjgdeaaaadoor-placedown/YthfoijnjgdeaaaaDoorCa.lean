/- Claims: what areOwners answers. -/
import Derived.Test.YthfoijnjgdeaaaaDoorPo
namespace Go.Proofs.YthfoijnjgdeaaaaDoor
open Go.Shelf Go.RowKit Go.Lib Go.Sort
set_option linter.unusedVariables false
set_option linter.unusedSimpArgs false
attribute [local go_sem ↓] Go.wp_at_zero Go.wp_at_succ
/-- Owners, each above the one before. -/
def areO (N : Int) : Int → List Int → Bool
  | _, [] => true
  | last, z :: zs => (decide (last + 1 ≤ z) && decide (z ≤ N - 1)) && areO N z zs
def areOs (N : Int) (zs : List Int) : Bool := areO N 0 zs && decide (0 < zs.length)
set_option maxRecDepth 100000 in
set_option maxHeartbeats 2000000 in
theorem areOwners_any (N S R : Int) (v : Value) (zs : List Int) (w : World) (hN : 2 ≤ N ∧ N ≤ 8) (hz : IntsL w v zs) :
    Calls Tryd.prog 39 #[.agg #[.int .i64 N, .int .i64 S, .int .i64 R], v] w fun e w' => e = .returned (.bool (areOs N zs)) ∧ Below w.heap.size w w' := by
  obtain ⟨p, c, rfl, hl, hp⟩ := hz
  have HP : Hid (0 < zs.length → ∃ b o, p = some ⟨b, o, none⟩ ∧ b < w.heap.size ∧ ∀ j (h : j < zs.length), w.cell? ⟨b, o + j, none⟩ = some (.int .i64 zs[j])) := hp
  obtain ⟨T, hT⟩ : ∃ T, areO N 0 zs = T := ⟨_, rfl⟩
  have HT : Hid (areO N 0 (zs.drop 0) = T) := hT
  have e : areOs N zs = (T && decide (0 < zs.length)) := by unfold areOs; rw [hT]
  rw [e]
  have hw : IntKind.i64.wrap (N - 1) = N - 1 := by rw [IntKind.wrap_i64]; omega
  obtain ⟨hN1, hN2⟩ := hN
  clear hp hT e
  go_enter Tryd.func39, Tryd.ntmps39
  go_wp2_with fail
  go_loopg [5, 10] zs.length (fun gf s5 s10 wx => ∃ (i : Nat) (la : Int), s5 = .int .i64 la ∧ s10 = .int .i64 i ∧ i ≤ zs.length ∧ zs.length ≤ i + gf ∧ 0 ≤ la ∧ la ≤ 7 ∧ Hid (Below w.heap.size w wx ∧ wx.cell? ⟨w.heap.size, 0, none⟩ = some (.int .i64 N)) ∧ Hid (areO N la (zs.drop i) = T))
  case atStart => exact ⟨0, 0, rfl, rfl, by omega, by omega, by omega, by omega, ⟨box3_below w _ _ _, cell_box w _ _ _ _ rfl⟩, HT⟩
  case round =>
    clear HT
    obtain ⟨i, la, rfl, rfl, hi1, hgf, la0, la7, HB, HT⟩ := hrel
    by_cases hi : i < zs.length
    · obtain ⟨g', rfl⟩ : ∃ g', gk = g' + 1 := ⟨gk - 1, by omega⟩
      obtain ⟨b, o, rfl, hB, hc⟩ := HP.out (by omega)
      have x0 := hc i hi
      rw [← HB.out.1.cell (p := ⟨b, _, none⟩) hB] at x0
      have x1 := HB.out.2
      have hd : zs.drop i = zs[i] :: zs.drop (i + 1) := List.drop_eq_getElem_cons hi
      obtain ⟨z, hz⟩ : ∃ z, zs[i] = z := ⟨_, rfl⟩
      rw [hz] at x0 hd
      have ht := HT.out
      rw [hd] at ht
      have hz0 : (0 : Int) ≤ (i : Int) := by omega
      have hz1 : (i : Int) < (zs.length : Int) := by omega
      have hw1 : IntKind.i64.wrap (la + 1) = la + 1 := by rw [IntKind.wrap_i64]; omega
      by_cases hin : la + 1 ≤ z ∧ z ≤ N - 1
      · have d1 : (decide (la + 1 ≤ z) && decide (z ≤ N - 1)) = true := by simp [hin.1, hin.2]
        have HT2 : Hid (areO N z (zs.drop (i + 1)) = T) := by
          show _ = _
          rw [← ht, areO, d1, Bool.true_and]
        have z0 : 0 ≤ z := by omega
        have z7 : z ≤ 7 := by omega
        clear hc HT hd hz ht hin
        go_wp2_with fail
        refine (within_any _ _ _ _).mono ?_
        rintro e w2 ⟨rfl, rfl⟩
        rw [d1]
        go_wp2_with fail
        go_roundg g'
        case measure => omega
        case rel => exact ⟨i + 1, z, rfl, by go_num, by omega, by omega, z0, z7, HB, HT2⟩
      · have d1 : (decide (la + 1 ≤ z) && decide (z ≤ N - 1)) = false := by
          cases hd : (decide (la + 1 ≤ z) && decide (z ≤ N - 1))
          · rfl
          · simp at hd; exact absurd hd hin
        have HF : Hid (T = false) := by
          show _ = _
          rw [← ht, areO, d1, Bool.false_and]
        clear hc HT hd hz ht hin
        go_wp2_with fail
        refine (within_any _ _ _ _).mono ?_
        rintro e w2 ⟨rfl, rfl⟩
        rw [d1]
        go_wp2_with fail
        go_ret
        exact ⟨by rw [HF.out, Bool.false_and]; rfl, HB.out.1⟩
    · have hend : i = zs.length := by omega
      have hz1 : ¬ (i : Int) < (zs.length : Int) := by omega
      have HF : Hid (T = true) := by
        show _ = _
        rw [← HT.out, hend, List.drop_length, areO]
      clear HT hend
      by_cases h0 : 0 < zs.length
      · have hz2 : (0 : Int) < (zs.length : Int) := by omega
        go_wp2_with fail
        go_ret
        exact ⟨by first | (rw [HF.out]; rfl) | rfl, HB.out.1⟩
      · have hz2 : ¬ (0 : Int) < (zs.length : Int) := by omega
        go_wp2_with fail
        go_ret
        exact ⟨by first | (rw [HF.out]; rfl) | rfl, HB.out.1⟩
end Go.Proofs.YthfoijnjgdeaaaaDoor

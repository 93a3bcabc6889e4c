/- The law LeaseNobody returns true, of any number of nodes and any time. -/
import Derived.Test.YtdcgppdljcokpaaLm
namespace Go.Proofs.Ytdcgppdljcokpaa
open Go.Shelf Go.RowKit Go.Lib Go.Sort
set_option linter.unusedVariables false
set_option linter.unusedSimpArgs false
attribute [local go_sem ↓] Go.wp_at_zero Go.wp_at_succ
theorem nobody_ok (k : Nat) (h : 2 ≤ k ∧ k ≤ 8) : okL (List.replicate k 0) (List.replicate k 0) := ⟨rfl, by simp; omega, by simp; omega⟩
theorem nobody_alive (k : Nat) (now : Int) (h : 2 ≤ k ∧ k ≤ 8) : alvL (List.replicate k 0) (List.replicate k 0) now = (List.range k).map (fun i => i == 0) := by
  unfold alvL
  rw [if_pos (chL_ok (nobody_ok k h))]
  simp only [List.length_replicate]
  refine List.map_congr_left fun i hi => ?_
  have hi' : i < k := by simpa using hi
  unfold aliveB
  simp [List.getD, hi']
set_option maxRecDepth 100000 in
set_option maxHeartbeats 4000000 in
theorem nobody_core (n now : Int) (w : World) (hno : 0 ≤ now ∧ now < 18446744073709551616) : Calls Try.prog 6 #[.int .i64 n, .int .u64 now] w fun e w' => e = .returned (.bool true) ∧ Below w.heap.size w w' := by
  have CL := hid (lives_any w)
  have CN := hid (fun W => New_any n W)
  by_cases hok : 2 ≤ n ∧ n ≤ 8
  · obtain ⟨k, rfl⟩ : ∃ k : Nat, n = (k : Int) := ⟨n.toNat, by omega⟩
    have hk : 2 ≤ k ∧ k ≤ 8 := by omega
    have e1 : nobody (k : Int) = List.replicate k 0 := by unfold nobody; rw [if_pos hok]; simp
    rw [e1, show newE (k : Int) = 0 from if_pos hok] at CN
    obtain ⟨zs, hzs⟩ : ∃ zs : List Int, List.replicate k 0 = zs := ⟨_, rfl⟩
    have hl : zs.length = k := by rw [← hzs]; simp
    have ha := nobody_alive k now hk
    have hck : chL zs zs = 0 := by rw [← hzs]; exact chL_ok (nobody_ok k hk)
    rw [hzs] at CN ha
    have CA := hid (fun (u v : Value) (W : World) (h : NumsL W u zs) (h' : NumsL W v zs) => Alive_any u v zs zs now W h h' hno)
    have CC := hid (fun (u v : Value) (W : World) (h : NumsL W u zs) (h' : NumsL W v zs) => check_any u v zs zs W h h')
    obtain ⟨al, hal⟩ : ∃ al, (List.range k).map (fun i => i == 0) = al := ⟨_, rfl⟩
    have hla : al.length = k := by rw [← hal]; simp
    have hat : ∀ i (h : i < al.length), al[i] = (i == 0) := fun i hi => by simp [← hal]
    rw [ha, hal, hck] at CA
    rw [hck] at CC
    have HAT : Hid (∀ i (h : i < al.length), al[i] = (i == 0)) := hat
    have HLA : Hid (al.length = k) := hla
    have HLZ : Hid (zs.length = k) := hl
    have tk : ((al.length : Int) == (k : Int)) = true := by simp; omega
    clear hat hla hl hal ha hck hzs e1 hok
    go_enter Try.func6, Try.ntmps6
    go_wp2_with fail
    refine CL.out.mono ?_
    rintro e w0 ⟨rfl, hb0⟩
    have HB0 : Hid (Below w.heap.size w w0) := hb0
    have K1 := CN.out w0
    clear CL CN hb0
    go_wp2_with fail
    refine K1.mono ?_
    rintro e w1 ⟨p, c, q, d, rfl, hn1, hn2, hb1⟩
    obtain ⟨V1, hV1⟩ : ∃ V, w1.alloc (.cells #[.slice p zs.length c, .slice q zs.length d] 24) = V := ⟨_, rfl⟩
    have hbV : Below w1.heap.size w1 V1 := by rw [← hV1]; exact one_below _ _
    have gV : V1.heap[w1.heap.size]? = some (.cells #[.slice p zs.length c, .slice q zs.length d] 24 (0, 0)) := by rw [← hV1]; exact heap_alloc_new w1 _
    have x0 := cell_of_row (k := 0) (v := .slice p zs.length c) gV rfl
    have x1 := cell_of_row (k := 1) (v := .slice q zs.length d) gV rfl
    have HG : Hid (∀ W, Below V1.heap.size V1 W → W.cell? ⟨w1.heap.size, 0, none⟩ = some (.slice p zs.length c) ∧ W.cell? ⟨w1.heap.size, 1, none⟩ = some (.slice q zs.length d)) := fun W hb => by
      have := (Array.getElem?_eq_some_iff.1 gV).1
      exact ⟨by rw [hb.cell (p := ⟨w1.heap.size, _, none⟩) this]; exact x0, by rw [hb.cell (p := ⟨w1.heap.size, _, none⟩) this]; exact x1⟩
    have HN1 : Hid (NumsL V1 (.slice p zs.length c) zs) := hn1.below hbV
    have HN2 : Hid (NumsL V1 (.slice q zs.length d) zs) := hn2.below hbV
    have HBV : Hid (Below w.heap.size w V1) := (HB0.out.trans (hb1.mono HB0.out.size)).trans (hbV.mono (Nat.le_trans HB0.out.size hb1.size))
    have K2 := CA.out _ _ V1 HN1.out HN2.out
    clear K1 CA hn1 hn2 hb1 hbV gV
    go_wp2_with fail
    refine K2.mono ?_
    rintro e w2 ⟨pa, ca, rfl, hB, hb2⟩
    obtain ⟨pa', ca', ev, h8, hp⟩ := hB
    simp only [Value.slice.injEq] at ev
    obtain ⟨rfl, _, rfl⟩ := ev
    have HP : Hid _ := hp
    have HB2 : Hid (Below V1.heap.size V1 w2) := hb2
    clear K2 hp hb2 x0 x1
    go_wp2_with fail
    go_loopg [34] al.length (fun gf s34 wx => ∃ i : Nat, s34 = .int .i64 i ∧ i ≤ al.length ∧ al.length ≤ i + gf ∧ wx = w2)
    case atStart => exact ⟨0, rfl, by omega, by omega, rfl⟩
    case round =>
      obtain ⟨i, rfl, hi1, hgf, hwx⟩ := hrel
      subst hwx
      by_cases hi : i < al.length
      · obtain ⟨g', rfl⟩ : ∃ g', gk = g' + 1 := ⟨gk - 1, by omega⟩
        obtain ⟨b, o, rfl, hlt, hc⟩ := HP.out (by omega)
        have c0 := hc i hi
        rw [HAT.out i hi] at c0
        have z0 : (0 : Int) ≤ (i : Int) := by omega
        have z1 : (i : Int) < (al.length : Int) := by omega
        have e2 : ((i : Int) == 0) = (i == 0) := by
          by_cases hq : i = 0
          · simp [hq]
          · have h1 : ((i : Int) == 0) = false := by simp; omega
            have h2 : (i == 0) = false := by simp; omega
            rw [h1, h2]
        rw [← e2] at c0
        clear hc e2
        cases hq : ((i : Int) == 0)
        · rw [hq] at c0
          go_wp2_with fail
          go_roundg g'
          case measure => omega
          case rel => exact ⟨i + 1, by go_num, by omega, by omega, rfl⟩
        · rw [hq] at c0
          go_wp2_with fail
          go_roundg g'
          case measure => omega
          case rel => exact ⟨i + 1, by go_num, by omega, by omega, rfl⟩
      · have z1 : ¬ (i : Int) < (al.length : Int) := by omega
        obtain ⟨y0, y1⟩ := HG.out wr HB2.out
        have K3 := CC.out _ _ wr (HN1.out.below HB2.out) (HN2.out.below HB2.out)
        clear CC
        go_wp2_with fail
        refine K3.mono ?_
        rintro e w3 ⟨rfl, hb3⟩
        have HF : Hid (Below w.heap.size w w3) := by
          have h1 : Below w.heap.size w wr := HBV.out.trans (HB2.out.mono HBV.out.size)
          exact h1.trans (hb3.mono h1.size)
        clear K3 hb3 y0 y1
        go_wp2_with fail
        go_ret
        exact ⟨rfl, HF.out⟩
  · have e1 : nobody n = [] := if_neg hok
    rw [e1, show newE n = 2 from if_neg hok] at CN
    clear e1
    by_cases k1 : n < 2
    · go_enter Try.func6, Try.ntmps6
      go_wp2_with fail
      refine CL.out.mono ?_
      rintro e w0 ⟨rfl, hb0⟩
      have HB0 : Hid (Below w.heap.size w w0) := hb0
      have K1 := CN.out w0
      clear CL CN hb0
      go_wp2_with fail
      refine K1.mono ?_
      rintro e w1 ⟨p, c, q, d, rfl, hn1, hn2, hb1⟩
      have HB1 : Hid (Below w.heap.size w (w1.alloc (.cells #[.slice p 0 c, .slice q 0 d] 24))) := by
        have h1 := HB0.out.trans (hb1.mono HB0.out.size)
        exact h1.alloc h1.size _
      clear K1 hn1 hn2 hb1
      go_wp2_with fail
      go_ret
      exact ⟨rfl, HB1.out⟩
    · have k2 : (8 : Int) < n := by omega
      go_enter Try.func6, Try.ntmps6
      go_wp2_with fail
      refine CL.out.mono ?_
      rintro e w0 ⟨rfl, hb0⟩
      have HB0 : Hid (Below w.heap.size w w0) := hb0
      have K1 := CN.out w0
      clear CL CN hb0
      go_wp2_with fail
      refine K1.mono ?_
      rintro e w1 ⟨p, c, q, d, rfl, hn1, hn2, hb1⟩
      have HB1 : Hid (Below w.heap.size w (w1.alloc (.cells #[.slice p 0 c, .slice q 0 d] 24))) := by
        have h1 := HB0.out.trans (hb1.mono HB0.out.size)
        exact h1.alloc h1.size _
      clear K1 hn1 hn2 hb1
      go_wp2_with fail
      go_ret
      exact ⟨rfl, HB1.out⟩
end Go.Proofs.Ytdcgppdljcokpaa

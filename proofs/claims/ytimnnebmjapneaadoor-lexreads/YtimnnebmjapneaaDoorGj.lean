/- What the reference's quoted reads. -/
import Derived.Test.YtimnnebmjapneaaDoorGi
namespace Go.Proofs.YtimnnebmjapneaaDoor
open Go.RowKit Go.Lib
set_option linter.unusedVariables false
theorem refE_some {l : List Let} {p : Int × Nat} (h : escL l = some p) : refE l = p := by unfold refE; rw [h]
theorem refE_none {l : List Let} (h : escL l = none) : refE l = (0, 0) := by unfold refE; rw [h]
theorem okZ_range {x : Int} (h : okZ x) : -2147483648 ≤ x ∧ x ≤ 2147483647 := by
  obtain ⟨r, rfl, hr⟩ := h
  unfold okR at hr
  omega
set_option maxRecDepth 100000 in
set_option maxHeartbeats 4000000 in
theorem quotedR_any (b o c : Nat) (ls : List Let) (w : World) (hg : GA w (some ⟨b, o, none⟩) ls) (hl : ls.length ≤ 2048) (hc1 : ls.length ≤ c) (hc2 : c ≤ maxLen) (ho : ∀ x ∈ ls, okZ x.1) (hbad : BadIs ls) (hf : ∃ x m, ls = x :: m ∧ x.1 = 34) :
    Calls Tryd.prog 24 #[.slice (some ⟨b, o, none⟩) ls.length c] w fun e w' => e = .returned (textAns ls 0).v ∧ Below w.heap.size w w' := by
  unfold maxLen at hc2
  have HQ0 : Hid (QI ls 1 []) := by
    obtain ⟨x, m, rfl, hx⟩ := hf
    refine QI_first x m ?_
    cases e : x.2 with
    | false => rfl
    | true => have := hbad x (by simp) e; omega
  have h1l : 1 ≤ ls.length := by
    obtain ⟨x, m, rfl, hx⟩ := hf
    simp
  have HG : Hid (∀ W, Below w.heap.size w W → GA W (some ⟨b, o, none⟩) ls) := fun W hW => hg.below hW
  have HOK : Hid (∀ x ∈ ls, okZ x.1) := ho
  have HBAD : Hid (BadIs ls) := hbad
  have HC : Hid (∀ W (j : Nat) (h : j < ls.length), Below w.heap.size w W → W.cell? ⟨b, o + j * 2, none⟩ = some (.int .i32 ls[j].1) ∧ W.cell? ⟨b, o + j * 2 + 1, none⟩ = some (.bool ls[j].2)) := fun W j h hW => by
    obtain ⟨b', o', e, _, hc⟩ := (hg.below hW) (by omega)
    simp only [Option.some.injEq, Addr.mk.injEq, and_true] at e
    obtain ⟨rfl, rfl⟩ := e
    exact hc j h
  obtain ⟨ANS, hANS⟩ : ∃ A, textAns ls 0 = A := ⟨_, rfl⟩
  have HA : Hid (textAns ls 0 = ANS) := hANS
  rw [hANS]
  obtain ⟨i0, hi, hz0, hz1, hz2⟩ := info_parts info50
  clear hg ho hbad hf hANS
  go_enter Tryd.func24, Tryd.ntmps24
  go_wp2
  go_loopg [5, 6] (ls.length + 1) (fun gf s5 s6 wx => ∃ (q : Nat) (acc : List Let), s6 = .int .i64 q ∧ 1 ≤ q ∧ wx.ownsRow (w.heap.size + 1) 50 2 s5 acc.length (flatT acc) ∧ Below w.heap.size w wx ∧ wx.heap[w.heap.size]? = some (tokO 0 ⟨#[]⟩ 0 0) ∧ Hid (QI ls q acc) ∧ Hid (∀ x ∈ acc, okZ x.1) ∧ acc.length ≤ q ∧ q ≤ ls.length ∧ ls.length < q + gf)
  case atStart => exact ⟨1, [], rfl, by omega, World.ownsRow_nil _ _ _ _, (Below.refl _ w).alloc (Nat.le_refl _) _, own_new w _, HQ0, (fun x hx => by simp at hx), by simp, h1l, by omega⟩
  case round =>
    obtain ⟨q, acc, rfl, hq1, hown, hbw, hbl, HQ, HO, hal, hql, hgf⟩ := hrel
    have hbs := hbw.size
    have hblt := lt_of_block hbl
    by_cases hlt : q < ls.length
    · obtain ⟨g', rfl⟩ : ∃ g', gk = g' + 1 := ⟨gk - 1, by omega⟩
      have z0 : (0 : Int) ≤ (q : Int) := by omega
      have z1 : (q : Int) < (ls.length : Int) := by omega
      obtain ⟨x0, x1⟩ := HC.out wr q hlt hbw
      have hok := HOK.out _ (List.getElem_mem hlt)
      have hstop := QI_stop ls q acc HQ.out hlt
      have hplain := QI_plain ls q acc HQ.out hlt
      have hesc := fun h p he => QI_esc ls q acc HQ.out hlt h p he HBAD.out
      have hnone := QI_none ls q acc HQ.out hlt
      rw [HA.out] at hstop hnone
      obtain ⟨⟨r, bd⟩, hr⟩ : ∃ x, ls[q] = x := ⟨_, rfl⟩
      rw [hr] at x0 x1 hok hstop hplain hesc hnone
      simp only at x0 x1 hok hstop hplain hesc hnone
      clear hr HQ
      by_cases h34 : r = 34
      · subst h34
        have hA := hstop rfl
        clear hstop hplain hesc hnone
        obtain ⟨pa, ca, rfl, hga, hca1, hca2⟩ := gv_own hown
        have CX : Hid (∀ W, Below wr.heap.size wr W → Calls Tryd.prog 36 #[.slice pa acc.length ca] W fun e w' => e = .returned (.string ⟨(enc acc).toArray⟩) ∧ Below W.heap.size W w') := fun W hW => text_any pa ca acc W (hga.below hW) (by omega) HO.out _ (by show _ = _; rfl)
        have CI : Hid (∀ W, Below w.heap.size w W → Calls Tryd.prog 37 #[.slice (some ⟨b, o, none⟩) q c] W fun e w' => e = .returned (.bool (anyBad (ls.take q))) ∧ Below W.heap.size W w') := fun W hW => by
          have := ill_any (some ⟨b, o, none⟩) c (ls.take q) W ((HG.out W hW).take q) (by rw [List.length_take]; omega) _ (by show _ = _; rfl)
          rwa [List.length_take, Nat.min_eq_left (by omega)] at this
        have hS := enc_le acc
        obtain ⟨S, hSe⟩ : ∃ S, enc acc = S := ⟨_, rfl⟩
        rw [hSe] at hA hS CX
        have hsz := size_mk S
        obtain ⟨BAD, hBAD⟩ : ∃ B, anyBad (ls.take q) = B := ⟨_, rfl⟩
        rw [hBAD] at hA CI
        have z3 : (q : Int) ≤ (c : Int) := by omega
        have z4 : (q : Int) ≤ (ls.length : Int) := by omega
        have HB0 : Hid (Below w.heap.size w wr) := hbw
        have hbl0 : Hid (wr.heap[w.heap.size]? = some (tokO 0 ⟨#[]⟩ 0 0)) := hbl
        clear hga hown hSe hBAD HO hca1 hca2 hbw hbl hok HA HOK HBAD HG HC
        go_wp2_with fail
        refine (CX.out _ (Below.refl _ _)).mono ?_
        rintro e w1 ⟨rfl, hw1⟩
        have HB1 : Hid (Below w.heap.size w w1) := HB0.out.trans (hw1.mono hbs)
        have hbl1 : Hid (w1.heap[w.heap.size]? = some (tokO 0 ⟨#[]⟩ 0 0)) := (hw1.block _ hblt).trans hbl0.out
        clear hw1 CX
        go_wp2_with fail
        refine (CI.out _ HB1.out).mono ?_
        rintro e w2 ⟨rfl, hw2⟩
        have HB2 : Hid (Below w.heap.size w w2) := HB1.out.trans (hw2.mono (HB1.out.size))
        have hbl2 : Hid (w2.heap[w.heap.size]? = some (tokO 0 ⟨#[]⟩ 0 0)) := (hw2.block _ (lt_of_block hbl1.out)).trans hbl1.out
        clear hw2 CI
        obtain ⟨k0, k1, k2, k3, f0, f1, f2, f3⟩ := tok_cells hbl2.out
        cases BAD with
        | true =>
          obtain rfl : ⟨noTok, 0, 9⟩ = ANS := by rw [hA, if_pos rfl]
          clear hA
          go_wp2_with fail
          obtain ⟨d0', d1', d2', d3', _⟩ := tok_cells (setTok_at hbl2.out 0 ⟨#[]⟩ 0 0)
          have HBt : Hid (Below w.heap.size w (setTok w2 w.heap.size 0 ⟨#[]⟩ 0 0)) := setTok_below (HB2.out) (Nat.le_refl _) _ _ _ _
          generalize hW : setTok w2 w.heap.size 0 ⟨#[]⟩ 0 0 = W4 at d0' d1' d2' d3' HBt
          unfold setTok at hW
          rw [hW]
          exact bodyPost_ret (v := .tuple #[.agg #[.int .u8 0, .string ⟨#[]⟩, .int .i64 0, .int .i64 0], .int .i64 0, .int .i64 9]) (by simp [results, Tryd.results24, go_sem, d0', d1', d2', d3']) rfl ⟨rfl, HBt.out⟩
        | false =>
          rw [if_neg (by simp)] at hA
          by_cases h256 : 256 < S.length
          · have t1 : (256 : Int) < ((⟨S.toArray⟩ : ByteArray).size : Int) := by omega
            obtain rfl : ⟨noTok, 0, 4⟩ = ANS := by rw [hA, if_pos h256]
            clear hA
            go_wp2_with fail
            obtain ⟨d0', d1', d2', d3', _⟩ := tok_cells (setTok_at hbl2.out 0 ⟨#[]⟩ 0 0)
            have HBt : Hid (Below w.heap.size w (setTok w2 w.heap.size 0 ⟨#[]⟩ 0 0)) := setTok_below (HB2.out) (Nat.le_refl _) _ _ _ _
            generalize hW : setTok w2 w.heap.size 0 ⟨#[]⟩ 0 0 = W4 at d0' d1' d2' d3' HBt
            unfold setTok at hW
            rw [hW]
            exact bodyPost_ret (v := .tuple #[.agg #[.int .u8 0, .string ⟨#[]⟩, .int .i64 0, .int .i64 0], .int .i64 0, .int .i64 4]) (by simp [results, Tryd.results24, go_sem, d0', d1', d2', d3']) rfl ⟨rfl, HBt.out⟩
          · have t1 : ¬ (256 : Int) < ((⟨S.toArray⟩ : ByteArray).size : Int) := by omega
            obtain rfl : ⟨⟨5, S, 0, 0⟩, ((q + 1 : Nat) : Int), 0⟩ = ANS := by rw [hA, if_neg h256]
            clear hA
            go_wp2_with fail
            obtain ⟨d0', d1', d2', d3', _⟩ := tok_cells (setTok_at hbl2.out 5 ⟨S.toArray⟩ 0 0)
            have HBt : Hid (Below w.heap.size w (setTok w2 w.heap.size 5 ⟨S.toArray⟩ 0 0)) := setTok_below (HB2.out) (Nat.le_refl _) _ _ _ _
            generalize hW : setTok w2 w.heap.size 5 ⟨S.toArray⟩ 0 0 = W4 at d0' d1' d2' d3' HBt
            unfold setTok at hW
            rw [hW]
            exact bodyPost_ret (v := .tuple #[.agg #[.int .u8 5, .string ⟨S.toArray⟩, .int .i64 0, .int .i64 0], .int .i64 ((q + 1 : Nat) : Int), .int .i64 0]) (by simp [results, Tryd.results24, go_sem, d0', d1', d2', d3']) rfl ⟨rfl, HBt.out⟩
      · have n34 : (r == 34) = false := beq_eq_false_iff_ne.2 h34
        clear hstop
        by_cases h92 : r = 92
        · subst h92
          clear hplain
          have z4 : (q : Int) + 1 ≤ (ls.length : Int) := by omega
          by_cases hcq : c = q + 1
          · subst hcq
            have hd0 : (ls.drop (q + 1)).length = 0 := by rw [List.length_drop]; omega
            have he : escL (ls.drop (q + 1)) = none := by rw [List.eq_nil_of_length_eq_zero hd0]; rfl
            have ce := escapeR_any (some ⟨b, o, none⟩) 0 (ls.drop (q + 1)) wr (fun h => by omega) (by omega) (fun x hx => okZ_range (HOK.out x (List.mem_of_mem_drop hx))) _ (by show _ = _; rfl)
            rw [hd0] at ce
            rw [refE_none he] at ce
            obtain rfl : ANS = ⟨noTok, 0, 13⟩ := hnone rfl he
            have CE : Hid (Calls Tryd.prog 38 #[.slice (some ⟨b, o, none⟩) 0 0] wr fun e w' => e = .returned (.tuple #[.int .i32 0, .int .i64 0]) ∧ w' = wr) := ce
            obtain ⟨k0, k1, k2, k3, f0, f1, f2, f3⟩ := tok_cells hbl
            have HB0 : Hid (Below w.heap.size w wr) := hbw
            have hbl0 : Hid (wr.heap[w.heap.size]? = some (tokO 0 ⟨#[]⟩ 0 0)) := hbl
            clear ce hesc hnone he hown HO HA HOK HBAD HG HC hok hbw hbl hd0
            go_wp2_with fail
            refine CE.out.mono ?_
            rintro e w1 ⟨rfl, rfl⟩
            go_wp2_with fail
            obtain ⟨d0', d1', d2', d3', _⟩ := tok_cells (setTok_at hbl0.out 0 ⟨#[]⟩ 0 0)
            have HBt : Hid (Below w.heap.size w (setTok w1 w.heap.size 0 ⟨#[]⟩ 0 0)) := setTok_below (HB0.out) (Nat.le_refl _) _ _ _ _
            generalize hW : setTok w1 w.heap.size 0 ⟨#[]⟩ 0 0 = W4 at d0' d1' d2' d3' HBt
            unfold setTok at hW
            rw [hW]
            exact bodyPost_ret (v := .tuple #[.agg #[.int .u8 0, .string ⟨#[]⟩, .int .i64 0, .int .i64 0], .int .i64 0, .int .i64 13]) (by simp [results, Tryd.results24, go_sem, d0', d1', d2', d3']) rfl ⟨rfl, HBt.out⟩
          have ce := escapeR_any (some ⟨b, o + (q + 1) * 2, none⟩) (c - (q + 1)) (ls.drop (q + 1)) wr ((HG.out wr hbw).drop (q + 1)) (by rw [List.length_drop]; omega) (fun x hx => okZ_range (HOK.out x (List.mem_of_mem_drop hx))) _ (by show _ = _; rfl)
          rw [List.length_drop] at ce
          have z3 : (q : Int) + 1 ≤ (c : Int) := by omega
          cases he : escL (ls.drop (q + 1)) with
          | none =>
            rw [refE_none he] at ce
            obtain rfl : ANS = ⟨noTok, 0, 13⟩ := hnone rfl he
            have CE : Hid (Calls Tryd.prog 38 #[.slice (some ⟨b, o + (q + 1) * 2, none⟩) (ls.length - (q + 1)) (c - (q + 1))] wr fun e w' => e = .returned (.tuple #[.int .i32 0, .int .i64 0]) ∧ w' = wr) := ce
            obtain ⟨k0, k1, k2, k3, f0, f1, f2, f3⟩ := tok_cells hbl
            have HB0 : Hid (Below w.heap.size w wr) := hbw
            have hbl0 : Hid (wr.heap[w.heap.size]? = some (tokO 0 ⟨#[]⟩ 0 0)) := hbl
            clear ce hesc hnone he hown HO HA HOK HBAD HG HC hok hbw hbl
            go_wp2_with fail
            refine CE.out.mono ?_
            rintro e w1 ⟨rfl, rfl⟩
            go_wp2_with fail
            obtain ⟨d0', d1', d2', d3', _⟩ := tok_cells (setTok_at hbl0.out 0 ⟨#[]⟩ 0 0)
            have HBt : Hid (Below w.heap.size w (setTok w1 w.heap.size 0 ⟨#[]⟩ 0 0)) := setTok_below (HB0.out) (Nat.le_refl _) _ _ _ _
            generalize hW : setTok w1 w.heap.size 0 ⟨#[]⟩ 0 0 = W4 at d0' d1' d2' d3' HBt
            unfold setTok at hW
            rw [hW]
            exact bodyPost_ret (v := .tuple #[.agg #[.int .u8 0, .string ⟨#[]⟩, .int .i64 0, .int .i64 0], .int .i64 0, .int .i64 13]) (by simp [results, Tryd.results24, go_sem, d0', d1', d2', d3']) rfl ⟨rfl, HBt.out⟩
          | some p =>
            rw [refE_some he] at ce
            have hle := escL_le he
            rw [List.length_drop] at hle
            have HQ2 : Hid (QI ls (q + 1 + p.2) (acc ++ [(p.1, false)])) := hesc rfl p he
            have HO2 : Hid (∀ x ∈ acc ++ [((p.1, false) : Let)], okZ x.1) := fun x hx => by
              rcases List.mem_append.1 hx with hx | hx
              · exact HO.out x hx
              · simp at hx; subst hx; exact escL_ok he
            obtain ⟨pr, pk⟩ := p
            simp only at hle HQ2 HO2
            have CE : Hid (Calls Tryd.prog 38 #[.slice (some ⟨b, o + (q + 1) * 2, none⟩) (ls.length - (q + 1)) (c - (q + 1))] wr fun e w' => e = .returned (.tuple #[.int .i32 pr, .int .i64 pk]) ∧ w' = wr) := ce
            have tk : ((pk : Int) == 0) = false := beq_eq_false_iff_ne.2 (by omega)
            clear ce hesc hnone he HO HA HOK HBAD HG HC hok
            go_wp2_with fail
            refine CE.out.mono ?_
            rintro e w1 ⟨rfl, rfl⟩
            go_wp2_with (first
              | (at_builtin; refine wpList_append_own _ rfl _ _ 39 rfl (w.heap.size + 1) 50 i0 (.agg #[.int .i32 0, .bool false]) 2 8 Tryd.underlying39 hi hz0 hz1 hz2 rfl (by decide) _ _ _ rfl (hown.alloc _) ⟨_, 0, none⟩ 1 1 [.int .i32 pr, .bool false] rfl rfl (cell_two_new _ _ _ _) (fun x hx => by simp at hx; rcases hx with rfl | rfl <;> rfl) (by unfold maxLen; omega) (by omega) (by simp; omega) ?_; intro v' w3 hown' hgrow3 hnil3)
              | fail)
            have hbl3 : w3.heap[w.heap.size]? = some (tokO 0 ⟨#[]⟩ 0 0) := by
              rw [hgrow3.block w.heap.size (by simp; omega) (fun h => by have := (hown.lt _ h.symm).1; omega), Below.heap_alloc _ _ _ hblt]; exact hbl
            have hbw3 : Below w.heap.size w w3 := Below.grown (hbw.alloc (by omega) _) hgrow3 (by simp; omega) (fun j hj => by have := (hown.lt _ hj).1; omega)
            go_roundg g'
            case measure => omega
            case rel => exact ⟨q + 1 + pk, acc ++ [(pr, false)], by go_num, by omega, by rw [List.length_append, flatT_app]; exact hown', hbw3, hbl3, HQ2, HO2, by simp; omega, by omega, by omega⟩
        · have n92 : (r == 92) = false := beq_eq_false_iff_ne.2 h92
          have HQ2 : Hid (QI ls (q + 1) (acc ++ [(r, bd)])) := hplain h34 h92
          have HO2 : Hid (∀ x ∈ acc ++ [((r, bd) : Let)], okZ x.1) := fun x hx => by
              rcases List.mem_append.1 hx with hx | hx
              · exact HO.out x hx
              · simp at hx; subst hx; exact hok
          clear hplain hesc hnone HO HA HOK HBAD HG HC hok
          go_wp2_with (first
            | (at_builtin; refine wpList_append_own _ rfl _ _ 39 rfl (w.heap.size + 1) 50 i0 (.agg #[.int .i32 0, .bool false]) 2 8 Tryd.underlying39 hi hz0 hz1 hz2 rfl (by decide) _ _ _ rfl (hown.alloc _) ⟨_, 0, none⟩ 1 1 [.int .i32 r, .bool bd] rfl rfl (cell_two_new _ _ _ _) (fun x hx => by simp at hx; rcases hx with rfl | rfl <;> rfl) (by unfold maxLen; omega) (by omega) (by simp; omega) ?_; intro v' w3 hown' hgrow3 hnil3)
            | fail)
          have hbl3 : w3.heap[w.heap.size]? = some (tokO 0 ⟨#[]⟩ 0 0) := by
            rw [hgrow3.block w.heap.size (by simp; omega) (fun h => by have := (hown.lt _ h.symm).1; omega), Below.heap_alloc _ _ _ hblt]; exact hbl
          have hbw3 : Below w.heap.size w w3 := Below.grown (hbw.alloc (by omega) _) hgrow3 (by simp; omega) (fun j hj => by have := (hown.lt _ hj).1; omega)
          go_roundg g'
          case measure => omega
          case rel => exact ⟨q + 1, acc ++ [(r, bd)], by go_num, by omega, by rw [List.length_append, flatT_app]; exact hown', hbw3, hbl3, HQ2, HO2, by simp; omega, by omega, by omega⟩
    · have z1 : ¬ (q : Int) < (ls.length : Int) := by omega
      have hA := QI_end ls q acc HQ.out (by omega)
      rw [HA.out] at hA
      subst hA
      obtain ⟨k0, k1, k2, k3, f0, f1, f2, f3⟩ := tok_cells hbl
      have HB0 : Hid (Below w.heap.size w wr) := hbw
      have hbl0 : Hid (wr.heap[w.heap.size]? = some (tokO 0 ⟨#[]⟩ 0 0)) := hbl
      clear HQ HO HA HOK HBAD HG HC hbw hbl hown
      go_wp2_with fail
      obtain ⟨d0', d1', d2', d3', _⟩ := tok_cells (setTok_at hbl0.out 0 ⟨#[]⟩ 0 0)
      have HBt : Hid (Below w.heap.size w (setTok wr w.heap.size 0 ⟨#[]⟩ 0 0)) := setTok_below (HB0.out) (Nat.le_refl _) _ _ _ _
      generalize hW : setTok wr w.heap.size 0 ⟨#[]⟩ 0 0 = W4 at d0' d1' d2' d3' HBt
      unfold setTok at hW
      rw [hW]
      exact bodyPost_ret (v := .tuple #[.agg #[.int .u8 0, .string ⟨#[]⟩, .int .i64 0, .int .i64 0], .int .i64 0, .int .i64 13]) (by simp [results, Tryd.results24, go_sem, d0', d1', d2', d3']) rfl ⟨rfl, HBt.out⟩
end Go.Proofs.YtimnnebmjapneaaDoor

/- The law LexBrackets returns true. -/
import Derived.Test.YtfpcelbpgmoadaaDoorPr
import Derived.Test.YtfpcelbpgmoadaaDoorPlacesWalk
namespace Go.Proofs.YtfpcelbpgmoadaaDoor
open Go.RowKit Go.Lib Go.Sort
set_option linter.unusedVariables false
set_option linter.unusedSimpArgs false
attribute [local go_sem ↓] Go.wp_at_zero Go.wp_at_succ

theorem lexGo_at (ls : List Let) : ∀ (f p : Nat) (acc : List Tok), (∀ t ∈ acc, 0 ≤ t.a ∧ t.a < ls.length) → ∀ t ∈ (lexGo ls f p acc).1, 0 ≤ t.a ∧ t.a < ls.length
  | 0, p, acc, h => by simpa [lexGo] using h
  | f + 1, p, acc, h => by
    by_cases hlt : p < ls.length
    · rw [lexGo_step ls f p acc hlt]
      by_cases h0 : (tokAns ls p).err = 0
      · rw [if_pos h0]
        refine lexGo_at ls f _ _ ?_
        intro t ht
        rcases List.mem_append.1 ht with h1 | h1
        · exact h t h1
        · rw [List.mem_singleton.1 h1, tokAns_a ls p hlt h0]
          omega
      · rw [if_neg h0]
        intro t ht
        cases ht
    · rw [lexGo_end _ _ _ _ hlt]
      exact h
/-- Places lie within the text. -/
theorem lexP_at (l : List UInt8) : ∀ t ∈ (lexP l).1, 0 ≤ t.a ∧ t.a < 2048 := by
  unfold lexP
  split
  · intro t ht; cases ht
  · intro t ht
    have := lexGo_at _ _ _ [] (fun t h => by cases h) t ht
    have h2 := letL_le l.length l
    unfold lets at this
    omega
set_option maxRecDepth 100000 in
set_option maxHeartbeats 8000000 in
theorem brackets_any (s : ByteArray) (hs : s.size ≤ 140737488355328) (w : World) (hG : Glob2 w) :
    Calls Tryd.prog 5 #[.string s] w fun e w' => e = .returned (.bool true) ∧ Below w.heap.size w w' := by
  have CV : Hid (Calls Tryd.prog 9 #[] w fun e w' => e = .returned (.bool true) ∧ Below w.heap.size w w') := lives_any w hG
  obtain ⟨⟨ts, er, pl⟩, hP⟩ : ∃ P, lexP s.data.toList = P := ⟨_, rfl⟩
  have CL : Hid (∀ W, Below w.heap.size w W → Calls Tryd.prog 11 #[.string s] W fun e w' => ∃ v, e = .returned (.tuple #[v, .int .i64 er, .int .i64 pl]) ∧ LexOut W w' v ts ∧ Below W.heap.size W w') := fun W h => by
    have := lex_any s W (by omega) (hG.below h).1
    rw [hP] at this
    exact this
  have hz1 : ¬ 9223372036854775807 < 1 + s.size := by omega
  have hz2 : ¬ 9223372036854775807 < 1 + s.size + 2 := by omega
  go_enter Tryd.func5, Tryd.ntmps5
  go_wp2_with fail
  refine CV.out.mono ?_
  rintro e w1 ⟨rfl, hb1⟩
  have HB1 : Hid (Below w.heap.size w w1) := hb1
  clear hb1 CV
  go_wp2_with fail
  refine (CL.out _ HB1.out).mono ?_
  rintro e w2 ⟨v, rfl, ho, hb2⟩
  obtain ⟨pp, cap0, rfl⟩ := own_slice ho
  have HB2 : Hid (Below w.heap.size w w2) := HB1.out.trans (hb2.mono HB1.out.size)
  clear hb2
  go_wp2_with fail
  have hTl : (({ data := #[40] } : ByteArray) ++ s ++ { data := #[10, 41] }).data.toList = 40 :: (s.data.toList ++ [10, 41]) := by simp
  have hTs : (({ data := #[40] } : ByteArray) ++ s ++ { data := #[10, 41] }).size = s.size + 3 := by
    rw [Lib.size_eq, hTl, Lib.size_eq s]; simp
  generalize (({ data := #[40] } : ByteArray) ++ s ++ { data := #[10, 41] }) = T at *
  have CT := lex_any T w2 (by omega) (hG.below HB2.out).1
  rw [hTl] at CT
  refine CT.mono ?_
  rintro e w3 ⟨v, rfl, ho3, hb3⟩
  clear CT
  by_cases hlong : 2048 < s.size + 3
  · have e : lexP (40 :: (s.data.toList ++ [10, 41])) = ([], 4, 0) := by
      unfold lexP; rw [if_pos (by simp only [List.length_cons, List.length_append, ← Lib.size_eq, List.length_nil]; omega)]
    rw [e] at ho3 ⊢
    obtain ⟨p3, cap3, rfl⟩ := own_slice ho3
    have t1 : (2048 : Int) < (T.size : Int) := by omega
    have HB3 : Hid (Below w.heap.size w w3) := HB2.out.trans (hb3.mono HB2.out.size)
    clear hG hP CL ho ho3 HB1 hb3 hTl
    simp only [List.length_nil]
    go_wp2_with fail
    go_ret
    exact ⟨rfl, HB3.out⟩
  have t1 : ¬ (2048 : Int) < (T.size : Int) := by omega
  have hB := lex_brackets s.data.toList (by rw [← Lib.size_eq]; omega)
  rw [hP] at hB
  simp only at hB
  by_cases her : er = 0
  · subst her
    rw [if_pos rfl] at hB
    rw [hB] at ho3 ⊢
    generalize (lets s.data.toList).length + 2 = en at *
    obtain ⟨ms, hms⟩ : ∃ ms : List Tok, ⟨1, [], 0, 0⟩ :: List.map (shT 1) ts ++ [clT en] = ms := ⟨_, rfl⟩
    simp only [hms] at ho3 ⊢
    have hml : ms.length = ts.length + 2 := by rw [← hms]; simp
    have htl := own_len ho3
    obtain ⟨g, cap, rfl, hgl, hgw, hcells⟩ := own_cells ho3 (by rw [← hms]; simp)
    have HB3 : Hid (Below w.heap.size w w3) := HB2.out.trans (hb3.mono HB2.out.size)
    have hm0 : ∀ h : 0 < ms.length, ms[0] = ⟨1, [], 0, 0⟩ := fun h => by subst hms; rfl
    have hmi : ∀ i (h : i + 1 < ms.length) (h' : i < ts.length), ms[i + 1] = shT 1 ts[i] := fun i h h' => by
      subst hms
      simp only [List.cons_append, List.getElem_cons_succ]
      rw [List.getElem_append_left (by simpa using h')]
      simp
    have hme : ∀ h : ts.length + 1 < ms.length, ms[ts.length + 1] = clT en := fun h => by
      subst hms
      simp only [List.cons_append, List.getElem_cons_succ]
      rw [List.getElem_append_right (by simp)]
      simp
    obtain ⟨M, hM⟩ : ∃ M, ms.length = M := ⟨_, rfl⟩
    have HM2 : Hid (M = ts.length + 2) := by show _ = _; omega
    have hL4 : (M : Int) ≤ 9223372036854775807 := by omega
    have c0 : w3.cell? ⟨g, 0, none⟩ = some (.int .u8 1) := by
      have := (flat_at ms 0 (by omega)).1
      rw [hm0 (by omega)] at this
      exact (hcells 0 (by omega)).trans this
    have ce : w3.cell? ⟨g, (M - 1) * 4, none⟩ = some (.int .u8 2) := by
      rw [show M - 1 = ts.length + 1 by have := HM2.out; omega]
      have := (flat_at ms (ts.length + 1) (by omega)).1
      rw [hme (by omega)] at this
      exact (hcells _ (by omega)).trans this
    have HC : Hid (∀ i, (h' : i < ts.length) → ∀ W, Below w3.heap.size w3 W → W.cell? ⟨g, (i + 1) * 4, none⟩ = some (.int .u8 ts[i].k) ∧ W.cell? ⟨g, (i + 1) * 4 + 1, none⟩ = some (.string ⟨ts[i].t.toArray⟩) ∧ W.cell? ⟨g, (i + 1) * 4 + 2, none⟩ = some (.int .i64 ts[i].n) ∧ W.cell? ⟨g, (i + 1) * 4 + 3, none⟩ = some (.int .i64 (ts[i].a + 1))) := fun i h' W h => by
      obtain ⟨q0, q1, q2, q3⟩ := flat_at ms (i + 1) (by omega)
      rw [hmi i (by omega) h'] at q0 q1 q2 q3
      rw [h.cell (p := ⟨g, _, none⟩) hgl, h.cell (p := ⟨g, _, none⟩) hgl, h.cell (p := ⟨g, _, none⟩) hgl, h.cell (p := ⟨g, _, none⟩) hgl]
      exact ⟨(hcells _ (by omega)).trans q0, (hcells _ (by omega)).trans q1, (hcells _ (by omega)).trans q2, (hcells _ (by omega)).trans q3⟩
    have HV : Hid (ts ≠ [] → ∃ g0 c0, pp = some ⟨g0, 0, none⟩ ∧ g0 < w2.heap.size ∧ ∀ j, j < ts.length * 4 → w2.cell? ⟨g0, j, none⟩ = (flatK ts)[j]?) := fun hne => by
      obtain ⟨g0, cap0, h1, h2, _, h3⟩ := own_cells ho hne
      simp only [Value.slice.injEq, true_and] at h1
      exact ⟨g0, cap0, h1.1, h2, h3⟩
    have HB23 : Hid (Below w2.heap.size w2 w3) := hb3
    have hms2 : w2.heap.size ≤ w3.heap.size := hb3.size
    have HAT : Hid (∀ t ∈ ts, 0 ≤ t.a ∧ t.a < 2048) := by
      have := lexP_at s.data.toList
      rw [hP] at this
      exact this
    rw [hM]
    clear hG hP CL ho ho3 HB1 hb3 hTl hB hms hm0 hmi hme hcells hM hml
    have hL1 : (0 : Int) < (M : Int) := by have := HM2.out; omega
    have hL2 : ((M : Int) != (ts.length : Int) + 2) = false := by have := HM2.out; simp only [bne_eq_false_iff_eq]; omega
    have hL2w : ((M : Int) != wrap64 ((ts.length : Int) + 2)) = false := by have := HM2.out; simp only [bne_eq_false_iff_eq]; unfold wrap64; omega
    have hL3 : (0 : Int) ≤ (M : Int) - 1 := by omega
    clear hTs hs htl hz1 hz2
    go_wp2_with fail
    clear c0 ce hL1 hL2 hL2w hL3
    go_loopg [81] ts.length (fun gf s81 wx => ∃ i : Nat, s81 = .int .i64 i ∧ Below w3.heap.size w3 wx ∧ i ≤ ts.length ∧ ts.length ≤ i + gf)
    case atStart => exact ⟨0, rfl, Below.refl _ _, by omega, by omega⟩
    case round =>
      obtain ⟨i, rfl, hbw, hi1, hgf⟩ := hrel
      by_cases hi : i < ts.length
      · obtain ⟨g', rfl⟩ : ∃ g', gk = g' + 1 := ⟨gk - 1, by omega⟩
        obtain ⟨g0, cz, rfl, hg0, hcells0⟩ := HV.out (by intro e; rw [e] at hi; simp at hi)
        obtain ⟨q0, q1, q2, q3⟩ := flat_at ts i hi
        have HX : Hid (∀ W, Below w3.heap.size w3 W → W.cell? ⟨g0, i * 4, none⟩ = some (.int .u8 ts[i].k) ∧ W.cell? ⟨g0, i * 4 + 1, none⟩ = some (.string ⟨ts[i].t.toArray⟩) ∧ W.cell? ⟨g0, i * 4 + 2, none⟩ = some (.int .i64 ts[i].n) ∧ W.cell? ⟨g0, i * 4 + 3, none⟩ = some (.int .i64 ts[i].a)) := fun W h => by
          have hh : Below w2.heap.size w2 W := HB23.out.trans (h.mono HB23.out.size)
          rw [hh.cell (p := ⟨g0, _, none⟩) hg0, hh.cell (p := ⟨g0, _, none⟩) hg0, hh.cell (p := ⟨g0, _, none⟩) hg0, hh.cell (p := ⟨g0, _, none⟩) hg0]
          exact ⟨(hcells0 _ (by omega)).trans q0, (hcells0 _ (by omega)).trans q1, (hcells0 _ (by omega)).trans q2, (hcells0 _ (by omega)).trans q3⟩
        have HCi := HC.out i hi
        have HC' : Hid (∀ W, Below w3.heap.size w3 W → W.cell? ⟨g, (i + 1) * 4, none⟩ = some (.int .u8 ts[i].k) ∧ W.cell? ⟨g, (i + 1) * 4 + 1, none⟩ = some (.string ⟨ts[i].t.toArray⟩) ∧ W.cell? ⟨g, (i + 1) * 4 + 2, none⟩ = some (.int .i64 ts[i].n) ∧ W.cell? ⟨g, (i + 1) * 4 + 3, none⟩ = some (.int .i64 (ts[i].a + 1))) := HCi
        clear HCi HV hcells0 q0 q1 q2 q3 HC
        have hat := HAT.out ts[i] (List.getElem_mem hi)
        generalize ts[i] = t at HX HC' hat
        obtain ⟨tk, tt, tn, ta⟩ := t
        simp only at HX HC' hat
        obtain ⟨hat1, hat2⟩ := hat
        obtain ⟨x0, x1, x2, x3⟩ := HX.out wr hbw
        have y0 : (i : Int) < (ts.length : Int) := by omega
        have y1 : (0 : Int) ≤ (i : Int) := by omega
        have y2 : (0 : Int) ≤ (i : Int) + 1 := by omega
        have y3 : (i : Int) + 1 < (M : Int) := by have := HM2.out; omega
        go_wp2_with fail
        have HB4 : Hid (Below w3.heap.size w3 (wr.alloc (tokO tk ⟨tt.toArray⟩ tn (ta + 1)))) := hbw.alloc hbw.size _
        obtain ⟨v0, v1, v2, v3, _, _, _, _⟩ := tok_cells (own_new wr (tokO tk ⟨tt.toArray⟩ tn (ta + 1)))
        obtain ⟨z0, z1, z2, z3⟩ := HC'.out _ HB4.out
        have heq : ∀ W, (binOp .neq 28 (.agg #[.int .u8 tk, .string ⟨tt.toArray⟩, .int .i64 tn, .int .i64 (ta + 1)]) (.agg #[.int .u8 tk, .string ⟨tt.toArray⟩, .int .i64 tn, .int .i64 (ta + 1)])).run Tryd.prog W = .ok (.bool false) W := fun W => by
          have := tok_neq ⟨tk, tt, tn, ta + 1⟩ ⟨tk, tt, tn, ta + 1⟩ W
          rw [same_self] at this
          exact this
        unfold tokO at HB4 v0 v1 v2 v3 z0 z1 z2 z3
        generalize wr.alloc (.cells #[.int .u8 tk, .string ⟨tt.toArray⟩, .int .i64 tn, .int .i64 (ta + 1)] 28) = W2 at *
        clear x0 x1 x2 x3 HX HC'
        go_quiet (fail)
        go_wp2_with fail
        go_roundg g'
        case measure => omega
        case rel => exact ⟨i + 1, by go_num, below_drewN HB4.out _, by omega, by omega⟩
      · have hend : i = ts.length := by omega
        subst hend
        clear HV HC
        go_wp2_with fail
        go_ret
        exact ⟨rfl, HB3.out.trans (hbw.mono HB3.out.size)⟩
  · rw [if_neg her] at hB
    rw [hB] at ho3 ⊢
    have hne : (er != 0) = true := bne_iff_ne.2 her
    have hf := lexP_fail s.data.toList (by rw [hP]; exact her)
    rw [hP] at hf
    simp only at hf
    obtain ⟨rfl, h1, h2⟩ := hf
    rw [← Lib.size_eq] at h2
    obtain ⟨p3, cap3, rfl⟩ := own_slice ho3
    have HB3 : Hid (Below w.heap.size w w3) := HB2.out.trans (hb3.mono HB2.out.size)
    clear hG hP CL ho ho3 HB1 hb3 hTl hB
    simp only [List.length_nil]
    go_wp2_with fail
    go_ret
    exact ⟨rfl, HB3.out⟩
end Go.Proofs.YtfpcelbpgmoadaaDoor

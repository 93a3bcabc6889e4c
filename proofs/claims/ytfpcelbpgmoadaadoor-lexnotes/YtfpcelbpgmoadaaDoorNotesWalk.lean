/- The law LexNotes returns true. -/
import Derived.Test.YtfpcelbpgmoadaaDoorPn
import Derived.Test.YtfpcelbpgmoadaaDoorSm
import Derived.Test.YtfpcelbpgmoadaaDoorQuotesWalk
import Derived.Test.YtfpcelbpgmoadaaDoorBracketsWalk
namespace Go.Proofs.YtfpcelbpgmoadaaDoor
open Go.RowKit Go.Lib Go.Sort
set_option linter.unusedVariables false
set_option linter.unusedSimpArgs false
attribute [local go_sem ↓] Go.wp_at_zero Go.wp_at_succ

/-- The first i as they are, the others n places further. -/
def mix (n : Nat) : Nat → List Tok → List Tok
  | 0, ts => ts.map (shT n)
  | i + 1, [] => []
  | i + 1, t :: ts => t :: mix n i ts
theorem mix_len (n : Nat) : ∀ i ts, (mix n i ts).length = ts.length
  | 0, ts => by simp [mix]
  | i + 1, [] => rfl
  | i + 1, t :: ts => by simp [mix, mix_len n i ts]
theorem mix_end (n : Nat) : ∀ ts, mix n ts.length ts = ts
  | [] => rfl
  | t :: ts => by simp [mix, mix_end n ts]
theorem mix_set (n : Nat) : ∀ (i : Nat) (ts : List Tok) (h : i < ts.length), (flatK (mix n i ts)).set (i * 4 + 3) (.int .i64 ts[i].a) = flatK (mix n (i + 1) ts) ∧ (flatK (mix n i ts))[i * 4 + 3]? = some (.int .i64 (ts[i].a + n))
  | 0, t :: ts, _ => by simp [mix, flatK, shT]
  | i + 1, t :: ts, h => by
    have ih := mix_set n i ts (by simpa using h)
    have e : ∀ x y : List Tok, flatK (t :: x) = [.int .u8 t.k, .string ⟨t.t.toArray⟩, .int .i64 t.n, .int .i64 t.a] ++ flatK x := fun x _ => rfl
    simp only [mix, List.getElem_cons_succ]
    rw [e _ [], e _ [], show (i + 1) * 4 + 3 = (i * 4 + 3) + 4 by omega]
    refine ⟨?_, ?_⟩
    · rw [← ih.1]; rfl
    · rw [← ih.2]; rfl
theorem own_set {w : World} {base g cap n i : Nat} {ys : List Value} (h : w.ownsRow base 28 4 (.slice (some ⟨g, 0, none⟩) n cap) n ys) (v : Value) :
    (w.setCell ⟨g, i, none⟩ v).ownsRow base 28 4 (.slice (some ⟨g, 0, none⟩) n cap) n (ys.set i v) ∧ w.frozen? ⟨g, i, none⟩ = false ∧ base ≤ g ∧ g < w.heap.size := by
  obtain ⟨h1, ⟨h2, _⟩ | ⟨g', cap', cur, h2, hb, hg, hc1, hc2, hc3, hc4⟩⟩ := h
  · cases h2
  · cases h2
    refine ⟨⟨by simpa using h1, .inr ⟨g, cap, cur.setIfInBounds i v, rfl, hb, ?_, hc1, hc2, by simpa using hc3, ?_⟩⟩, ?_, hb, (Array.getElem?_eq_some_iff.1 hg).1⟩
    · simp only [World.setCell, Array.getElem?_modify, hg, if_true, Option.map_some]
      rfl
    · rw [Array.toList_setIfInBounds, List.take_set, hc4]
    · simp [World.frozen?, hg]
set_option maxRecDepth 100000 in
set_option maxHeartbeats 8000000 in
theorem notes_any (s note : ByteArray) (hs : s.size ≤ 140737488355328) (hn : note.size ≤ 140737488355328) (w : World) (hG : Glob2 w) :
    Calls Tryd.prog 6 #[.string s, .string note] w fun e w' => e = .returned (.bool true) ∧ Below w.heap.size w w' := by
  have CV : Hid (Calls Tryd.prog 9 #[] w fun e w' => e = .returned (.bool true) ∧ Below w.heap.size w w') := lives_any w hG
  obtain ⟨⟨ts, er, pl⟩, hP⟩ : ∃ P, lexP s.data.toList = P := ⟨_, rfl⟩
  have CL : Hid (∀ W, Below w.heap.size w W → Calls Tryd.prog 11 #[.string s] W fun e w' => ∃ v, e = .returned (.tuple #[v, .int .i64 er, .int .i64 pl]) ∧ LexOut W w' v ts ∧ Below W.heap.size W w') := fun W h => by
    have := lex_any s W (by omega) (hG.below h).1
    rw [hP] at this
    exact this
  have HP : Hid (lexP s.data.toList = (ts, er, pl)) := hP
  have HG : Hid (∀ W, Below w.heap.size w W → Glob W) := fun W h => (hG.below h).1
  clear hP hG
  go_enter Tryd.func6, Tryd.ntmps6
  go_wp2_with fail
  refine CV.out.mono ?_
  rintro e w1 ⟨rfl, hb1⟩
  have HB1 : Hid (Below w.heap.size w w1) := hb1
  clear hb1 CV
  go_wp2_with fail
  go_loopg [5, 6] note.size (fun gf s5 s6 wx => ∃ (pos : Nat) (F : ByteArray) (rs : List Nat), s5 = .string F ∧ s6 = .int .i64 ((rs.length + 2 : Nat) : Int) ∧ wx.heap[w1.heap.size]? = some (.stringIter note pos) ∧ Below w1.heap.size w1 wx ∧ Hid (Front F.data.toList rs) ∧ rs.length ≤ pos ∧ F.size ≤ 1 + 4 * pos ∧ note.size ≤ pos + gf ∧ pos ≤ note.size)
  case atStart => exact ⟨0, ⟨#[59]⟩, [], rfl, rfl, World.iter_heap w1 note 0, (Below.refl _ _).alloc (Nat.le_refl _) _, front_one, by simp, by (show 1 ≤ 1 + 4 * 0; omega), by omega, by omega⟩
  case round =>
    obtain ⟨pos, F, rs, rfl, rfl, hit, hbw, HF, hrs, hFs, hgf, hps⟩ := hrel
    by_cases hp : pos < note.size
    · obtain ⟨g', rfl⟩ : ∃ g', gk = g' + 1 := ⟨gk - 1, by omega⟩
      have hnxt : ∀ ty, (Instr.next (.pointer (some ⟨w1.heap.size, 0, none⟩)) true ty).run Tryd.prog wr = _ := fun ty => Lib.run_next_any_at wr w1.heap.size note pos ty hit hp
      have hok := okR_of (note.data.toList.drop pos)
      rw [Lib.decodeL_drop] at hok
      have hwd := Lib.width_pos note pos
      have hwl : pos + (Utf8.decode note pos).2 ≤ note.size := by
        have hne : note.data.toList.drop pos ≠ [] := by
          intro e
          have := congrArg List.length e
          rw [List.length_drop, ← Lib.size_eq] at this
          simp at this
          omega
        have := Lib.decodeL_le _ hne
        rw [List.length_drop, ← Lib.size_eq, Lib.decodeL_drop] at this
        omega
      obtain ⟨R, hR⟩ : ∃ R, (Utf8.decode note pos).1 = R := ⟨_, rfl⟩
      obtain ⟨K, hK⟩ : ∃ K, (Utf8.decode note pos).2 = K := ⟨_, rfl⟩
      rw [hR, hK] at hnxt
      rw [hR] at hok
      rw [hK] at hwd hwl
      have hit2 := Lib.iterAt_heap wr w1.heap.size note pos (pos + K) hit
      have hbw2 := Lib.below_iterAt hbw (k := w1.heap.size) (Nat.le_refl _) note (pos + K)
      obtain ⟨W1, hW1⟩ : ∃ W1, wr.iterAt w1.heap.size note (pos + K) = W1 := ⟨_, rfl⟩
      rw [hW1] at hnxt hit2 hbw2
      clear hW1 hit hbw hR hK
      by_cases h10 : R = 10
      · have hq : ((R : Int) != 10) = false := by subst h10; rfl
        clear hok
        go_wp2_with fail
        go_roundg g'
        case measure => omega
        case rel => exact ⟨pos + K, F, rs, rfl, rfl, hit2, hbw2, HF, by omega, by omega, by omega, hwl⟩
      by_cases hbad : R = 65533
      · have hq : ((R : Int) != 10) = true := by subst hbad; rfl
        have hq2 : ((R : Int) != 65533) = false := by subst hbad; rfl
        clear hok
        go_wp2_with fail
        go_roundg g'
        case measure => omega
        case rel => exact ⟨pos + K, F, rs, rfl, rfl, hit2, hbw2, HF, by omega, by omega, by omega, hwl⟩
      · have hq : ((R : Int) != 10) = true := bne_iff_ne.2 (by omega)
        have hq2 : ((R : Int) != 65533) = true := bne_iff_ne.2 (by omega)
        have HF2 : Hid (Front (F ++ Utf8.encode R).data.toList (rs ++ [R])) := by
          have := front_step F.data.toList rs R HF.out hok h10 hbad
          show Front _ _
          rw [show (F ++ Utf8.encode R).data.toList = F.data.toList ++ (Utf8.encode R).data.toList by simp]
          exact this
        have hE := enc_some (R : Int)
        have hES : (F ++ Utf8.encode (R : Int)).size = F.size + (Utf8.encode (R : Int)).size := by simp
        have hz : ¬ 9223372036854775807 < F.size + (Utf8.encode (R : Int)).size := by omega
        clear hok HF
        go_wp2_with fail
        go_roundg g'
        case measure => omega
        case rel => exact ⟨pos + K, F ++ Utf8.encode R, rs ++ [R], rfl, by simp only [List.length_append, List.length_cons, List.length_nil]; go_num, hit2, hbw2, HF2, by simp only [List.length_append, List.length_cons, List.length_nil]; omega, by omega, by omega, hwl⟩
    · have hnxt : ∀ ty, (Instr.next (.pointer (some ⟨w1.heap.size, 0, none⟩)) true ty).run Tryd.prog wr = _ := fun ty => Lib.run_next_end_at wr w1.heap.size note pos ty hit (by omega)
      have hz : ¬ 9223372036854775807 < F.size + 1 := by omega
      have hz2 : ¬ 9223372036854775807 < F.size + 1 + s.size := by omega
      go_wp2_with fail
      have HB1' : Hid (Below w.heap.size w wr) := HB1.out.trans (hbw.mono HB1.out.size)
      clear hit hbw hnxt HB1
      refine (CL.out _ HB1'.out).mono ?_
      rintro e w2 ⟨v, rfl, ho, hb2⟩
      obtain ⟨pp, cap0, rfl⟩ := own_slice ho
      have HB2 : Hid (Below w.heap.size w w2) := HB1'.out.trans (hb2.mono HB1'.out.size)
      clear hb2 CL
      go_wp2_with fail
      have hTl : (F ++ ({ data := #[10] } : ByteArray) ++ s).data.toList = F.data.toList ++ [10] ++ s.data.toList := by simp
      have hTs : (F ++ ({ data := #[10] } : ByteArray) ++ s).size = F.size + 1 + s.size := by
        rw [Lib.size_eq, hTl, Lib.size_eq s, Lib.size_eq F]; simp; omega
      generalize (F ++ ({ data := #[10] } : ByteArray) ++ s) = T at *
      have CT := lex_any T w2 (by omega) (HG.out _ HB2.out)
      rw [hTl] at CT
      refine CT.mono ?_
      rintro e w3 ⟨v, rfl, ho3, hb3⟩
      clear CT
      by_cases hlong : 2048 < F.size + 1 + s.size
      · have e : lexP (F.data.toList ++ [10] ++ s.data.toList) = ([], 4, 0) := by
          unfold lexP; rw [if_pos (by simp only [List.length_cons, List.length_append, ← Lib.size_eq, List.length_nil]; omega)]
        rw [e] at ho3 ⊢
        obtain ⟨p3, cap3, rfl⟩ := own_slice ho3
        have t1 : (2048 : Int) < (F.size : Int) + 1 + (s.size : Int) := by omega
        have HB3 : Hid (Below w.heap.size w w3) := HB2.out.trans (hb3.mono HB2.out.size)
        clear HG HP ho ho3 HB1' hb3 hTl hTs HF
        simp only [List.length_nil]
        go_wp2_with fail
        go_ret
        exact ⟨rfl, HB3.out⟩
      have t1 : ¬ (2048 : Int) < (F.size : Int) + 1 + (s.size : Int) := by omega
      have hB := lex_notes F.data.toList s.data.toList rs HF.out (by simp only [List.length_append, List.length_cons, List.length_nil, ← Lib.size_eq]; omega)
      rw [HP.out] at hB
      simp only at hB
      obtain ⟨n, hn2⟩ : ∃ n, rs.length + 2 = n := ⟨_, rfl⟩
      rw [hn2] at hB
      have hn3 : (rs.length : Int) + 2 = (n : Int) := by omega
      rw [hn3]
      have hnl : n ≤ 140737488355330 := by omega
      clear hn2 hn3 hrs hFs hgf hps hp hz hz2
      by_cases her : er = 0
      · subst her
        rw [if_pos rfl] at hB
        rw [hB] at ho3 ⊢
        have HAT : Hid (∀ t ∈ ts, 0 ≤ t.a ∧ t.a < 2048) := by
          have := lexP_at s.data.toList
          rw [HP.out] at this
          exact this
        clear hB HG HP HB1' hTl hTs HF
        simp only at ho3 ⊢
        have htl := own_len ho
        have HV : Hid (ts ≠ [] → ∃ g0, pp = some ⟨g0, 0, none⟩ ∧ g0 < w2.heap.size ∧ ∀ j, j < ts.length * 4 → w2.cell? ⟨g0, j, none⟩ = (flatK ts)[j]?) := fun hne => by
          obtain ⟨g0, cz, h1, h2, _, h3⟩ := own_cells ho hne
          simp only [Value.slice.injEq, true_and] at h1
          exact ⟨g0, h1.1, h2, h3⟩
        obtain ⟨p3, cap3, rfl⟩ := own_slice ho3
        have y1 : (List.map (shT n) ts).length = ts.length := by simp
        rw [y1] at ho3 ⊢
        have HO3 : Hid (w3.ownsRow w2.heap.size 28 4 (.slice p3 ts.length cap3) ts.length (flatK (mix n 0 ts))) := by
          have := ho3
          unfold LexOut at this
          rw [y1] at this
          exact this
        have HB23 : Hid (Below w2.heap.size w2 w3) := hb3
        clear y1 ho ho3 hb3
        go_wp2_with fail
        go_loopg [78] ts.length (fun gf s78 wx => ∃ i : Nat, s78 = .int .i64 i ∧ Below w2.heap.size w2 wx ∧ Hid (wx.ownsRow w2.heap.size 28 4 (.slice p3 ts.length cap3) ts.length (flatK (mix n i ts))) ∧ i ≤ ts.length ∧ ts.length ≤ i + gf)
        case atStart => exact ⟨0, rfl, HB23.out, HO3, by omega, by omega⟩
        case round =>
          obtain ⟨i, rfl, hbw, HO, hi1, hgf⟩ := hrel
          by_cases hi : i < ts.length
          · obtain ⟨g', rfl⟩ : ∃ g', gk = g' + 1 := ⟨gk - 1, by omega⟩
            obtain ⟨g, rfl⟩ : ∃ g, p3 = some ⟨g, 0, none⟩ := by
              obtain ⟨_, ⟨_, h2⟩ | ⟨g, cap, cur, h2, _⟩⟩ := HO.out
              · omega
              · simp only [Value.slice.injEq, true_and] at h2
                exact ⟨g, h2.1⟩
            have hms := mix_set n i ts hi
            have hat := HAT.out ts[i] (List.getElem_mem hi)
            have x3 : wr.cell? ⟨g, i * 4 + 3, none⟩ = some (.int .i64 (ts[i].a + n)) := (World.ownsRow.cellAt HO.out (i * 4 + 3) (by omega)).trans hms.2
            have HS : Hid (∀ X, X = ts[i].a → (wr.setCell ⟨g, i * 4 + 3, none⟩ (.int .i64 X)).ownsRow w2.heap.size 28 4 (.slice (some ⟨g, 0, none⟩) ts.length cap3) ts.length (flatK (mix n (i + 1) ts)) ∧ Below w2.heap.size w2 (wr.setCell ⟨g, i * 4 + 3, none⟩ (.int .i64 X))) := fun X hX => by
              subst hX
              have := own_set (i := i * 4 + 3) HO.out (.int .i64 ts[i].a)
              rw [hms.1] at this
              exact ⟨this.1, hbw.setCell this.2.2.1 _⟩
            have f3 : wr.frozen? ⟨g, i * 4 + 3, none⟩ = false := (own_set (i := i * 4 + 3) HO.out (.int .i64 0)).2.1
            have y0 : (i : Int) < (ts.length : Int) := by omega
            have y1 : (0 : Int) ≤ (i : Int) := by omega
            clear hms HO HV
            generalize ts[i].a = ta at *
            obtain ⟨hat1, hat2⟩ := hat
            have y5 : (n : Int) ≤ 140737488355330 := by omega
            have y6 : (0 : Int) ≤ (n : Int) := by omega
            go_wp2_with fail
            go_roundg g'
            case measure => omega
            case rel => exact ⟨i + 1, by go_num, (HS.out _ (by omega)).2, (HS.out _ (by omega)).1, by omega, by omega⟩
          · have hend : i = ts.length := by omega
            subst hend
            have CS : Hid (Calls Tryd.prog 12 #[.slice pp ts.length cap0, .slice p3 ts.length cap3] wr fun e w' => e = .returned (.bool true) ∧ Below wr.heap.size wr w') := by
              refine same_any wr _ _ ts ⟨pp, cap0, rfl, fun hne => ?_⟩ ⟨p3, cap3, rfl, fun hne => ?_⟩ htl
              · obtain ⟨g0, rfl, hg0, hc⟩ := HV.out hne
                exact ⟨g0, rfl, Nat.lt_of_lt_of_le hg0 hbw.size, fun j hj => (hbw.cell (p := ⟨g0, _, none⟩) hg0).trans (hc j hj)⟩
              · have ho := HO.out
                rw [mix_end] at ho
                obtain ⟨g0, cap', h1, h2, _, h3⟩ := own_cells (w := w2) ho hne
                simp only [Value.slice.injEq, true_and] at h1
                exact ⟨g0, h1.1, h2, h3⟩
            clear HV HO HAT
            go_wp2_with fail
            refine CS.out.mono ?_
            rintro e w5 ⟨rfl, hb5⟩
            have HB5 : Hid (Below w.heap.size w w5) := (HB2.out.trans (hbw.mono HB2.out.size)).trans (hb5.mono ((HB2.out.trans (hbw.mono HB2.out.size)).size))
            clear hb5 CS
            go_wp2_with fail
            go_ret
            exact ⟨rfl, HB5.out⟩
      · rw [if_neg her] at hB
        rw [hB] at ho3 ⊢
        have hne : (er != 0) = true := bne_iff_ne.2 her
        have hf := lexP_fail s.data.toList (by rw [HP.out]; exact her)
        rw [HP.out] at hf
        simp only at hf
        obtain ⟨rfl, h1, h2⟩ := hf
        rw [← Lib.size_eq] at h2
        obtain ⟨p3, cap3, rfl⟩ := own_slice ho3
        have HB3 : Hid (Below w.heap.size w w3) := HB2.out.trans (hb3.mono HB2.out.size)
        clear HG HP ho ho3 HB1' hb3 hTl hB HF hTs
        simp only [List.length_nil]
        go_wp2_with fail
        go_ret
        exact ⟨rfl, HB3.out⟩
end Go.Proofs.YtfpcelbpgmoadaaDoor

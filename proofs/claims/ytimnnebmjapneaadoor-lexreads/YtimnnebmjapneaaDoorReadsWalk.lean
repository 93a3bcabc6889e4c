/- The law LexReads returns true, of any text and any token. -/
import Derived.Test.YtimnnebmjapneaaDoorGq
import Derived.Test.YtimnnebmjapneaaDoorSm
namespace Go.Proofs.YtimnnebmjapneaaDoor
open Go.RowKit Go.Lib
set_option linter.unusedVariables false
attribute [local go_sem ↓] Go.wp_at_zero Go.wp_at_succ
theorem tokAt_own {w : World} {base : Nat} {v : Value} {Z : List Tok} (h : w.ownsRow base 24 4 v Z.length (flatK Z)) : TokAt w v Z := by
  have h' := h
  obtain ⟨h1, ⟨rfl, h2⟩ | ⟨g, cap, cur, rfl, hb, hg, _⟩⟩ := h
  · have : Z = [] := List.eq_nil_of_length_eq_zero h2
    subst this
    exact ⟨none, 0, rfl, fun hne => absurd rfl hne⟩
  · exact ⟨_, cap, rfl, fun _ => ⟨g, rfl, (Array.getElem?_eq_some_iff.1 hg).1, fun j hj => World.ownsRow.cellAt h' j hj⟩⟩
theorem TokAt.below {w W : World} {v : Value} {ts : List Tok} (h : TokAt w v ts) (hb : Below w.heap.size w W) : TokAt W v ts := by
  obtain ⟨p, c, rfl, h⟩ := h
  refine ⟨p, c, rfl, fun hne => ?_⟩
  obtain ⟨g, rfl, hg, hc⟩ := h hne
  exact ⟨g, rfl, Nat.lt_of_lt_of_le hg hb.size, fun j hj => by rw [hb.cell (p := ⟨g, j, none⟩) hg]; exact hc j hj⟩
theorem lexGo_count (ls : List Let) : ∀ (f p : Nat) (acc : List Tok), (lexGo ls f p acc).1.length ≤ acc.length + f
  | 0, p, acc => by simp [lexGo]
  | f + 1, p, acc => by
    by_cases hp : p < ls.length
    · rw [lexGo_step ls f p acc hp]
      split
      · have := lexGo_count ls f ((tokAns ls p).fin.toNat + skipL false (ls.drop (tokAns ls p).fin.toNat)) (acc ++ [(tokAns ls p).tok])
        rw [List.length_append] at this
        simp at this
        omega
      · simp
    · rw [lexGo_end _ _ _ _ hp]
      simp
theorem lexP_len (l : List UInt8) : (lexP l).1.length ≤ 2049 := by
  unfold lexP
  split
  · simp
  · have h1 := lexGo_count (lets l) ((lets l).length + 1) (skipL false (lets l)) []
    have h2 := letL_le l.length l
    unfold lets at h1 ⊢
    simp at h1
    omega
set_option maxRecDepth 100000 in
set_option maxHeartbeats 8000000 in
theorem reads_core (s : ByteArray) (t : Tok) (w : World) (hG : Glob2 w) (hs : s.size ≤ 9223372036854775807) (ht : t.t.length ≤ 140737488355328) (hn0 : -9223372036854775808 ≤ t.n) (hn1 : t.n ≤ 9223372036854775807) :
    Calls Tryd.prog 3 #[.string s, t.v] w fun e w' => e = .returned (.bool true) ∧ Below w.heap.size w w' := by
  have c1 := fun W (h : Below w.heap.size w W) => lex_any s W hs (hG.below h).1
  have c2 := fun W => lexR_any s W
  have hlen := lexP_len s.data.toList
  obtain ⟨⟨T, er, pl⟩, hP⟩ : ∃ P, lexP s.data.toList = P := ⟨_, rfl⟩
  rw [hP] at c1 c2 hlen
  simp only at hlen
  have C1 : Hid (∀ W, Below w.heap.size w W → Calls Tryd.prog 4 #[.string s] W fun e w' => ∃ v, e = .returned (.tuple #[v, .int .i64 er, .int .i64 pl]) ∧ LexOut W w' v T ∧ Below W.heap.size W w') := c1
  have C2 : Hid (∀ W, Calls Tryd.prog 5 #[.string s] W fun e w' => ∃ v, e = .returned (.tuple #[v, .int .i64 er, .int .i64 pl]) ∧ LexOut W w' v T ∧ Below W.heap.size W w') := c2
  have c3 := fun W (h : Below w.heap.size w W) => show_any t W (by omega) hn0 hn1 (hG.below h)
  have c4 := fun W => showR_any t W ht hn0 hn1
  obtain ⟨⟨S, se⟩, hS⟩ : ∃ P, showP t = P := ⟨_, rfl⟩
  rw [hS] at c3 c4
  obtain ⟨SB, hSB⟩ : ∃ b, (⟨S.toArray⟩ : ByteArray) = b := ⟨_, rfl⟩
  simp only [hSB] at c3 c4
  obtain ⟨k, tt, n, a⟩ := t
  simp only at ht hn0 hn1
  have c3' : ∀ W, Below w.heap.size w W → Calls Tryd.prog 6 #[.agg #[.int .u8 k, .string ⟨tt.toArray⟩, .int .i64 n, .int .i64 a]] W fun e w' => e = .returned (.tuple #[.string SB, .int .i64 se]) ∧ Below W.heap.size W w' := c3
  have c4' : ∀ W, Calls Tryd.prog 7 #[.agg #[.int .u8 k, .string ⟨tt.toArray⟩, .int .i64 n, .int .i64 a]] W fun e w' => e = .returned (.tuple #[.string SB, .int .i64 se]) ∧ Below W.heap.size W w' := c4
  show Calls Tryd.prog 3 #[.string s, .agg #[.int .u8 k, .string ⟨tt.toArray⟩, .int .i64 n, .int .i64 a]] w _
  obtain ⟨TB, hTB⟩ : ∃ b, (⟨tt.toArray⟩ : ByteArray) = b := ⟨_, rfl⟩
  simp only [hTB] at c3' c4' ⊢
  have C3 : Hid (∀ W, Below w.heap.size w W → Calls Tryd.prog 6 #[.agg #[.int .u8 k, .string TB, .int .i64 n, .int .i64 a]] W fun e w' => e = .returned (.tuple #[.string SB, .int .i64 se]) ∧ Below W.heap.size W w') := c3'
  have C4 : Hid (∀ W, Calls Tryd.prog 7 #[.agg #[.int .u8 k, .string TB, .int .i64 n, .int .i64 a]] W fun e w' => e = .returned (.tuple #[.string SB, .int .i64 se]) ∧ Below W.heap.size W w') := c4'
  have CV : Hid (∀ W, Below w.heap.size w W → Calls Tryd.prog 8 #[] W fun e w' => e = .returned (.bool true) ∧ Below W.heap.size W w') := fun W h => lives_any W (hG.below h)
  have hb0 : Below w.heap.size w (w.alloc (tokO k TB n a)) := (Below.refl _ w).alloc (Nat.le_refl _) _
  have HB : Hid (Below w.heap.size w (w.alloc (tokO k TB n a))) := hb0
  have hno : Hid ((w.alloc (tokO k TB n a)).heap[w.heap.size]? = some (tokO k TB n a)) := own_new w _
  clear c1 c2 c3 c4 c3' c4' hP hS hSB hTB hb0 hG ht hn0 hn1
  go_enter Tryd.func3, Tryd.ntmps3
  go_wp2_with fail
  refine (C1.out _ HB.out).mono ?_
  rintro e w1 ⟨v1, rfl, ho1, hb1⟩
  have HB1 : Hid (Below w.heap.size w w1) := HB.out.trans (hb1.mono HB.out.size)
  have hno1 : Hid (w1.heap[w.heap.size]? = some (tokO k TB n a)) := (hb1.block _ (lt_of_block hno.out)).trans hno.out
  have TA1 : Hid (TokAt w1 v1 T) := tokAt_own ho1
  obtain ⟨pa, ca, rfl⟩ := own_slice ho1
  clear ho1 hb1 C1 HB hno
  go_wp2_with fail
  refine (C2.out _).mono ?_
  rintro e w2 ⟨v2, rfl, ho2, hb2⟩
  have HB2 : Hid (Below w.heap.size w w2) := HB1.out.trans (hb2.mono HB1.out.size)
  have hno2 : Hid (w2.heap[w.heap.size]? = some (tokO k TB n a)) := (hb2.block _ (lt_of_block hno1.out)).trans hno1.out
  have TA2 : Hid (TokAt w2 (.slice pa T.length ca) T) := TA1.out.below hb2
  have TB2 : Hid (TokAt w2 v2 T) := tokAt_own ho2
  obtain ⟨pb, cb, rfl⟩ := own_slice ho2
  clear ho2 hb2 C2 HB1 hno1 TA1
  obtain ⟨a0, a1, a2, a3, f0, f1, f2, f3⟩ := tok_cells hno2.out
  go_wp2_with fail
  refine (C3.out _ HB2.out).mono ?_
  rintro e w3 ⟨rfl, hb3⟩
  have HB3 : Hid (Below w.heap.size w w3) := HB2.out.trans (hb3.mono HB2.out.size)
  have hno3 : Hid (w3.heap[w.heap.size]? = some (tokO k TB n a)) := (hb3.block _ (lt_of_block hno2.out)).trans hno2.out
  have TA3 : Hid (TokAt w3 (.slice pa T.length ca) T) := TA2.out.below hb3
  have TB3 : Hid (TokAt w3 (.slice pb T.length cb) T) := TB2.out.below hb3
  clear hb3 C3 HB2 hno2 TA2 TB2 a0 a1 a2 a3 f0 f1 f2 f3
  obtain ⟨a0, a1, a2, a3, f0, f1, f2, f3⟩ := tok_cells hno3.out
  go_wp2_with fail
  refine (C4.out _).mono ?_
  rintro e w4 ⟨rfl, hb4⟩
  have HB4 : Hid (Below w.heap.size w w4) := HB3.out.trans (hb4.mono HB3.out.size)
  have TA4 : Hid (TokAt w4 (.slice pa T.length ca) T) := TA3.out.below hb4
  have TB4 : Hid (TokAt w4 (.slice pb T.length cb) T) := TB3.out.below hb4
  clear hb4 C4 HB3 hno3 TA3 TB3 a0 a1 a2 a3 f0 f1 f2 f3
  have S9 : Hid (∀ W, Below w4.heap.size w4 W → Calls Tryd.prog 9 #[.slice pa T.length ca, .slice pb T.length cb] W fun e w' => e = .returned (.bool true) ∧ Below W.heap.size W w') := fun W h => same_any W _ _ T (TA4.out.below h) (TB4.out.below h) (by omega)
  clear TA4 TB4
  go_wp2_with fail
  refine (CV.out _ HB4.out).mono ?_
  rintro e w5 ⟨rfl, hb5⟩
  have H5 : Hid (Below w4.heap.size w4 w5) := hb5
  clear hb5 CV
  go_wp2_with fail
  refine (S9.out _ H5.out).mono ?_
  rintro e w6 ⟨rfl, hb6⟩
  have HB6 : Hid (Below w.heap.size w w6) := HB4.out.trans ((H5.out.trans (hb6.mono H5.out.size)).mono HB4.out.size)
  clear hb6 S9 H5 HB4
  go_wp2_with fail
  go_ret
  exact ⟨rfl, HB6.out⟩
end Go.Proofs.YtimnnebmjapneaaDoor

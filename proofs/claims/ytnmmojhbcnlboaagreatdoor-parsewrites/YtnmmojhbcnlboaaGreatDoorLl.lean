/- What quote writes. -/
import Derived.Test.YtnmmojhbcnlboaaGreatDoorLk
namespace Go.Proofs.YtnmmojhbcnlboaaGreatDoor
open Go.RowKit Go.Lib Go.Sort
set_option linter.unusedVariables false
set_option linter.unusedSimpArgs false

def Glob2 (w : World) : Prop := Glob w ∧ w.cell? ⟨9, 15, none⟩ = some (.int .u8 4)
theorem Glob2.below {w w' : World} (h : Glob2 w) (hb : Below w.heap.size w w') : Glob2 w' := ⟨h.1.below hb, cell_below hb h.2⟩
/-- A rune as it is shown. -/
def qR (r : Int) : List UInt8 := if r = 34 ∨ r = 92 then 92 :: Lib.encodeRune r else if r < 32 ∨ r = 127 then [92, 117, 123] ++ hexS r.toNat ++ [125] else Lib.encodeRune r
def quoteL (ls : List Let) : List UInt8 := ls.flatMap fun x => qR x.1
def quoteP (l : List UInt8) : List UInt8 := [34] ++ quoteL (lets l) ++ [34]
theorem hexS_len (r : Nat) : (hexS r).length ≤ 2 := by unfold hexS; split <;> simp
theorem qR_len (r : Int) : (qR r).length ≤ 6 := by
  unfold qR
  have h1 := encR_le r
  have h2 := hexS_len r.toNat
  split
  · simp; omega
  split
  · simp; omega
  · omega
set_option maxRecDepth 100000 in
set_option maxHeartbeats 4000000 in
theorem quote_any (s : ByteArray) (w : World) (hs : s.size ≤ 100000) (hG : Glob2 w) :
    Calls Tryz.prog 93 #[.string s] w fun e w' => e = .returned (.string ⟨(quoteP s.data.toList).toArray⟩) ∧ Below w.heap.size w w' := by
  have HF : Hid (∀ (r : Nat) W, r < 256 → Below w.heap.size w W → Calls Tryz.prog 92 #[.int .i64 r, .int .i64 16] W fun e w' => e = .returned (.string ⟨(hexS r).toArray⟩) ∧ Below W.heap.size W w') := fun r W hr h => formatInt16 r hr W (hG.below h).2 (World.block_lt_of_cell? W ⟨9, 15, none⟩ (hG.below h).2)
  clear hG
  obtain ⟨tot, htot⟩ : ∃ t, quoteP s.data.toList = t := ⟨_, rfl⟩
  have HT : Hid (quoteP s.data.toList = tot) := htot
  rw [htot]
  clear htot
  have c0 := Tryz.Builder_WriteByte_k w.heap.size w.heap.size [] 34 _ (Lib.IsBuilderF.of (Lib.fresh_isBuilder 58 5 w)) (by simp) (by simp)
  have C0 : Hid (Calls Tryz.prog 114 #[.pointer (some ⟨w.heap.size, 0, none⟩), .int .u8 34] (w.alloc (.cells #[.pointer none, .slice none 0 0] 58)) fun e w' => e = .returned .nilIface ∧ Lib.IsBuilderF 58 5 w.heap.size w.heap.size (Lib.byteCells [34]) w' ∧ Below w.heap.size (w.alloc (.cells #[.pointer none, .slice none 0 0] 58)) w') := c0.mono fun _ _ h => ⟨h.1, Or.inr h.2.1, h.2.2.1⟩
  clear c0
  go_enter Tryz.func93, Tryz.ntmps93
  go_wp2_with fail
  refine C0.out.mono ?_
  rintro e w1 ⟨rfl, hI1, hb1⟩
  have hbw1 : Below w.heap.size w w1 := ((Below.refl _ w).alloc (Nat.le_refl _) _).trans hb1
  have hlt1 := builder_lt hI1
  clear hb1 C0
  go_wp2_with fail
  go_loopg [] s.size (fun gf wx => ∃ (pos : Nat) (acc : List UInt8), Lib.IsBuilderF 58 5 w.heap.size w.heap.size (Lib.byteCells acc) wx ∧ wx.heap[w1.heap.size]? = some (.stringIter s pos) ∧ Below w.heap.size w wx ∧ Hid (acc ++ quoteL (lets (s.data.toList.drop pos)) ++ [34] = tot) ∧ s.size ≤ pos + gf ∧ acc.length ≤ 6 * pos + 1 ∧ pos ≤ s.size)
  case atStart =>
    refine ⟨0, [34], hI1.alloc _, World.iter_heap w1 s 0, hbw1.alloc hbw1.size _, ?_, by omega, by simp, by omega⟩
    show _ = _
    rw [← HT.out]
    simp [quoteP]
  case round =>
    obtain ⟨pos, acc, hI, hit, hbw, HS, hb, hal, hps⟩ := hrel
    have hne1 : w.heap.size ≠ w1.heap.size := by omega
    by_cases hp : pos < s.size
    · obtain ⟨g', rfl⟩ : ∃ g', gk = g' + 1 := ⟨gk - 1, by omega⟩
      have hnx : ∀ ty, (Instr.next (.pointer (some ⟨w1.heap.size, 0, none⟩)) true ty).run Tryz.prog wr = _ := fun ty => Lib.run_next_any_at wr w1.heap.size s pos ty hit hp
      have hne : s.data.toList.drop pos ≠ [] := by
        intro e
        have := congrArg List.length e
        rw [List.length_drop, ← Lib.size_eq] at this
        simp at this
        omega
      have hwd := Lib.width_pos s pos
      have hwl : pos + (Utf8.decode s pos).2 ≤ s.size := by
        have := Lib.decodeL_le _ hne
        rw [List.length_drop, ← Lib.size_eq, Lib.decodeL_drop] at this
        omega
      have hhi := decodeL_hi (s.data.toList.drop pos)
      have hS := HS.out
      rw [lets_cons _ hne, List.drop_drop, quoteL, List.flatMap_cons, ← quoteL, ← List.append_assoc] at hS
      rw [Lib.decodeL_drop] at hS hhi
      obtain ⟨R, hR⟩ : ∃ R, (Utf8.decode s pos).1 = R := ⟨_, rfl⟩
      obtain ⟨K, hK⟩ : ∃ K, (Utf8.decode s pos).2 = K := ⟨_, rfl⟩
      rw [hR, hK] at hnx hS
      rw [hR] at hhi
      rw [hK] at hwd hwl
      have hI2 := hI.iterAt hit (pos + K)
      have hit2 := Lib.iterAt_heap wr w1.heap.size s pos (pos + K) hit
      have hbw2 := Lib.below_iterAt hbw (k := w1.heap.size) (by omega) s (pos + K)
      have hsz2 : w.heap.size ≤ (wr.iterAt w1.heap.size s (pos + K)).heap.size := hbw2.size
      obtain ⟨W1, hW1⟩ : ∃ W1, wr.iterAt w1.heap.size s (pos + K) = W1 := ⟨_, rfl⟩
      rw [hW1] at hnx hit2 hbw2 hI2 hsz2
      have HS2 : Hid (acc ++ qR (R : Int) ++ quoteL (lets (s.data.toList.drop (pos + K))) ++ [34] = tot) := hS
      have hq6 := qR_len (R : Int)
      clear hW1 hit hI hbw hS hR hK hne HS
      by_cases hq : R = 34 ∨ R = 92
      · have eq : qR (R : Int) = 92 :: Lib.encodeRune R := by unfold qR; rw [if_pos (by omega)]
        have c1 := Tryz.Builder_WriteByte_k w.heap.size w.heap.size _ 92 _ hI2 (by rw [Lib.byteCells_length]; omega) hsz2
        have C1 : Hid (Calls Tryz.prog 114 #[.pointer (some ⟨w.heap.size, 0, none⟩), .int .u8 92] W1 fun e w' => e = .returned .nilIface ∧ Lib.IsBuilderF 58 5 w.heap.size w.heap.size (Lib.byteCells (acc ++ [92])) w' ∧ Below w.heap.size W1 w' ∧ w'.heap[w1.heap.size]? = some (.stringIter s (pos + K))) :=
          c1.mono fun _ _ h => ⟨h.1, by rw [Lib.byteCells_append]; exact Or.inr h.2.1, h.2.2.1, h.2.2.2.iter hit2 (by omega)⟩
        have C2 : Hid (∀ W, Lib.IsBuilderF 58 5 w.heap.size w.heap.size (Lib.byteCells (acc ++ [92])) W → w.heap.size ≤ W.heap.size → W.heap[w1.heap.size]? = some (.stringIter s (pos + K)) → Calls Tryz.prog 80 #[.pointer (some ⟨w.heap.size, 0, none⟩), .int .i32 R] W fun e w' => e = .returned (.tuple #[.int .i64 (Lib.runeCells R).length, .nilIface]) ∧ Lib.IsBuilderF 58 5 w.heap.size w.heap.size (Lib.byteCells (acc ++ qR (R : Int))) w' ∧ Below w.heap.size W w' ∧ w'.heap[w1.heap.size]? = some (.stringIter s (pos + K))) := fun W h1 h2 h3 =>
          (Tryz.Builder_WriteRune_k w.heap.size w.heap.size _ R (by omega) (by omega) W h1 (by rw [Lib.byteCells_length, List.length_append]; simp; omega) h2).mono fun _ _ h => ⟨h.1, by rw [eq, show acc ++ 92 :: Lib.encodeRune (R : Int) = (acc ++ [92]) ++ Lib.encodeRune (R : Int) by simp, Lib.byteCells_append, Lib.byteCells_encodeRune]; exact Or.inr h.2.1, h.2.2.1, h.2.2.2.iter h3 (by omega)⟩
        clear c1 hI2 hit2
        have tq : ((R : Int) == 34) = true ∨ (((R : Int) == 34) = false ∧ ((R : Int) == 92) = true) := by
          rcases hq with h | h
          · left; simp [h]
          · right; simp [h]
        have HB2 : Hid (Below w.heap.size w W1) := hbw2
        clear hq hbw2
        rcases tq with tq | ⟨tq, tq2⟩
        all_goals
          go_wp2_with fail
          refine C1.out.mono ?_
          rintro e w2 ⟨rfl, h1, h2, h3⟩
          have HB3 : Hid (Below w.heap.size w w2) := HB2.out.trans h2
          clear h2
          go_wp2_with fail
          refine (C2.out _ h1 HB3.out.size h3).mono ?_
          rintro e w3 ⟨rfl, h4, h5, h6⟩
          go_wp2_with fail
          go_roundg g'
          case measure => omega
          case rel => exact ⟨pos + K, acc ++ qR R, h4, h6, HB3.out.trans h5, HS2, by omega, by rw [List.length_append]; omega, by omega⟩
      · have n1 : ((R : Int) == 34) = false := beq_eq_false_iff_ne.2 (by omega)
        have n2 : ((R : Int) == 92) = false := beq_eq_false_iff_ne.2 (by omega)
        have HB2 : Hid (Below w.heap.size w W1) := hbw2
        by_cases hc : R < 32 ∨ R = 127
        · have eq : qR (R : Int) = [92, 117, 123] ++ hexS R ++ [125] := by unfold qR; rw [if_neg (by omega), if_pos (by omega)]; simp
          have C1 : Hid (Calls Tryz.prog 92 #[.int .i64 R, .int .i64 16] W1 fun e w' => e = .returned (.string ⟨(hexS R).toArray⟩) ∧ Below W1.heap.size W1 w') := HF.out R W1 (by omega) hbw2
          have hcat : ((⟨#[92, 117, 123]⟩ : ByteArray) ++ ⟨(hexS R).toArray⟩) ++ ⟨#[125]⟩ = ⟨(qR (R : Int)).toArray⟩ := by
            rw [eq]
            apply ByteArray.ext
            simp
          have hqs : (⟨(qR (R : Int)).toArray⟩ : ByteArray).size = (qR (R : Int)).length := by show (qR (R : Int)).toArray.size = _; simp
          have C2 : Hid (∀ W, Below W1.heap.size W1 W → Calls Tryz.prog 32 #[.pointer (some ⟨w.heap.size, 0, none⟩), .string (((⟨#[92, 117, 123]⟩ : ByteArray) ++ ⟨(hexS R).toArray⟩) ++ ⟨#[125]⟩)] W fun e w' => e = .returned (.tuple #[.int .i64 (qR (R : Int)).length, .nilIface]) ∧ Lib.IsBuilderF 58 5 w.heap.size w.heap.size (Lib.byteCells (acc ++ qR (R : Int))) w' ∧ Below w.heap.size W w' ∧ w'.heap[w1.heap.size]? = some (.stringIter s (pos + K))) := fun W h => by
            rw [hcat]
            refine (Tryz.Builder_WriteString_k w.heap.size w.heap.size _ ⟨(qR (R : Int)).toArray⟩ W (builder_below hI2 h) (by rw [Lib.byteCells_length, hqs]; omega) (Nat.le_trans hsz2 h.size)).mono fun _ _ h' => ⟨by rw [h'.1, hqs], ?_, h'.2.2.1, h'.2.2.2.iter ((h.block _ (Array.getElem?_eq_some_iff.1 hit2).1).trans hit2) (by omega)⟩
            rw [Lib.byteCells_append]
            exact Or.inr h'.2.1
          have hz0 := hexS_len R
          have hz1 : ¬ 9223372036854775807 < 3 + (hexS R).length := by omega
          have hz2 : ¬ 9223372036854775807 < 3 + (hexS R).length + 1 := by omega
          clear hI2 hit2 hcat hqs eq hbw2
          have tc : (R : Int) < 32 ∨ (¬ (R : Int) < 32 ∧ ((R : Int) == 127) = true) := by
            rcases hc with h | h
            · left; omega
            · right; subst h; simp
          clear hc
          rcases tc with tc | ⟨tc, tc2⟩
          all_goals
            go_wp2_with fail
            refine C1.out.mono ?_
            rintro e w2 ⟨rfl, h2⟩
            have HB3 : Hid (Below w.heap.size w w2) := HB2.out.trans (h2.mono HB2.out.size)
            go_wp2_with fail
            refine (C2.out _ h2).mono ?_
            rintro e w3 ⟨rfl, h4, h5, h6⟩
            go_wp2_with fail
            go_roundg g'
            case measure => omega
            case rel => exact ⟨pos + K, acc ++ qR R, h4, h6, HB3.out.trans h5, HS2, by omega, by rw [List.length_append]; omega, by omega⟩
        · have eq : qR (R : Int) = Lib.encodeRune R := by unfold qR; rw [if_neg (by omega), if_neg (by omega)]
          have n3 : ¬ (R : Int) < 32 := by omega
          have n4 : ((R : Int) == 127) = false := beq_eq_false_iff_ne.2 (by omega)
          have C2 : Hid (Calls Tryz.prog 80 #[.pointer (some ⟨w.heap.size, 0, none⟩), .int .i32 R] W1 fun e w' => e = .returned (.tuple #[.int .i64 (Lib.runeCells R).length, .nilIface]) ∧ Lib.IsBuilderF 58 5 w.heap.size w.heap.size (Lib.byteCells (acc ++ qR (R : Int))) w' ∧ Below w.heap.size W1 w' ∧ w'.heap[w1.heap.size]? = some (.stringIter s (pos + K))) :=
            (Tryz.Builder_WriteRune_k w.heap.size w.heap.size _ R (by omega) (by omega) W1 hI2 (by rw [Lib.byteCells_length]; omega) hsz2).mono fun _ _ h => ⟨h.1, by rw [eq, Lib.byteCells_append, Lib.byteCells_encodeRune]; exact Or.inr h.2.1, h.2.2.1, h.2.2.2.iter hit2 (by omega)⟩
          clear hI2 hit2 hbw2 hq hc
          go_wp2_with fail
          refine C2.out.mono ?_
          rintro e w3 ⟨rfl, h4, h5, h6⟩
          go_wp2_with fail
          go_roundg g'
          case measure => omega
          case rel => exact ⟨pos + K, acc ++ qR R, h4, h6, HB2.out.trans h5, HS2, by omega, by rw [List.length_append]; omega, by omega⟩
    · have hnx : ∀ ty, (Instr.next (.pointer (some ⟨w1.heap.size, 0, none⟩)) true ty).run Tryz.prog wr = _ := fun ty => Lib.run_next_end_at wr w1.heap.size s pos ty hit (by omega)
      have hE : acc ++ [34] = tot := by
        have := HS.out
        rw [List.drop_of_length_le (by rw [← Lib.size_eq]; omega)] at this
        simpa [quoteL, lets_nil] using this
      have HW : Hid (Below w.heap.size w wr) := hbw
      have C1 : Hid (Calls Tryz.prog 114 #[.pointer (some ⟨w.heap.size, 0, none⟩), .int .u8 34] wr fun e w' => e = .returned .nilIface ∧ Lib.IsBuilderF 58 5 w.heap.size w.heap.size (Lib.byteCells tot) w' ∧ Below w.heap.size wr w') :=
        (Tryz.Builder_WriteByte_k w.heap.size w.heap.size _ 34 _ hI (by rw [Lib.byteCells_length]; omega) hbw.size).mono fun _ _ h => ⟨h.1, by rw [← hE, Lib.byteCells_append]; exact Or.inr h.2.1, h.2.2.1⟩
      clear hI HS hE hit hbw
      go_wp2_with fail
      refine C1.out.mono ?_
      rintro e w2 ⟨rfl, h1, h2⟩
      have HB3 : Hid (Below w.heap.size w w2) := HW.out.trans h2
      clear h2
      go_wp2_with fail
      refine (Tryz.Builder_String_any_k w.heap.size w.heap.size tot w2 h1 HB3.out.size).mono ?_
      rintro e w3 ⟨rfl, _, h5, _⟩
      go_wp2_with fail
      go_ret
      exact ⟨rfl, HB3.out.trans h5⟩
end Go.Proofs.YtnmmojhbcnlboaaGreatDoor

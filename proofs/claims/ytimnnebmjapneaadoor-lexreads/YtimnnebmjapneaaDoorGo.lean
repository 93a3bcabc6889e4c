/- What the reference's Quoted writes. -/
import Derived.Test.YtimnnebmjapneaaDoorGm
import Derived.Test.YtimnnebmjapneaaDoorGn
import Derived.Laws.Runes
namespace Go.Proofs.YtimnnebmjapneaaDoor
open Go.RowKit Go.Lib
set_option linter.unusedVariables false
def hexB : ByteArray := ⟨#[48, 49, 50, 51, 52, 53, 54, 55, 56, 57, 97, 98, 99, 100, 101, 102]⟩
theorem hex_at (d : Nat) (h : d < 16) : hexB.extract d (d + 1) = ⟨#[hexDig d]⟩ := by
  match d, h with
  | 0, _ => rfl
  | 1, _ => rfl
  | 2, _ => rfl
  | 3, _ => rfl
  | 4, _ => rfl
  | 5, _ => rfl
  | 6, _ => rfl
  | 7, _ => rfl
  | 8, _ => rfl
  | 9, _ => rfl
  | 10, _ => rfl
  | 11, _ => rfl
  | 12, _ => rfl
  | 13, _ => rfl
  | 14, _ => rfl
  | 15, _ => rfl
  | n + 16, h => exact absurd h (by omega)
theorem hex_slice (d : Nat) (h : d < 16) (W : World) : (Instr.slice 9 (.string hexB) (some (.int .i32 (d : Int))) (some (.int .i32 ((d : Int) + 1))) none).run Tryd.prog W = .ok (.string ⟨#[hexDig d]⟩) W := by
  rw [run_slice_string (P := Tryd.prog) W 9 _ .i32 .i32 (d : Int) ((d : Int) + 1) Tryd.underlying9 (by omega) (by omega) (by show _ ≤ (16 : Int); omega)]
  rw [Int.toNat_natCast, show ((d : Int) + 1).toNat = d + 1 by omega, hex_at d h]
set_option maxRecDepth 100000 in
set_option maxHeartbeats 4000000 in
theorem quoteT_any (s : ByteArray) (w : World) (hs : s.size ≤ 140737488355328) :
    Calls Tryd.prog 19 #[.string s] w fun e w' => e = .returned (.string ⟨(quoteP s.data.toList).toArray⟩) ∧ Below w.heap.size w w' := by
  obtain ⟨tot, htot⟩ : ∃ t, quoteP s.data.toList = t := ⟨_, rfl⟩
  have HT : Hid (quoteP s.data.toList = tot) := htot
  rw [htot]
  clear htot
  go_enter Tryd.func19, Tryd.ntmps19
  go_wp2
  go_loopg [3] s.size (fun gf s3 wx => ∃ (pos : Nat) (acc : ByteArray), s3 = .string acc ∧ wx.heap[w.heap.size]? = some (.stringIter s pos) ∧ Below w.heap.size w wx ∧ Hid ([34] ++ acc.data.toList ++ quoteL (lets (s.data.toList.drop pos)) ++ [34] = tot) ∧ s.size ≤ pos + gf ∧ acc.size ≤ 6 * pos ∧ pos ≤ s.size)
  case atStart =>
    refine ⟨0, ⟨#[]⟩, rfl, World.iter_heap w s 0, (Below.refl _ _).alloc (Nat.le_refl _) _, ?_, by omega, by show 0 ≤ _; omega, by omega⟩
    show _ = _
    rw [← HT.out]
    simp [quoteP]
  case round =>
    obtain ⟨pos, acc, rfl, hit, hbw, HS, hb, hal, hps⟩ := hrel
    by_cases hp : pos < s.size
    · obtain ⟨g', rfl⟩ : ∃ g', gk = g' + 1 := ⟨gk - 1, by omega⟩
      have hnx : ∀ ty, (Instr.next (.pointer (some ⟨w.heap.size, 0, none⟩)) true ty).run Tryd.prog wr = _ := fun ty => Lib.run_next_any_at wr w.heap.size s pos ty hit hp
      have hne : s.data.toList.drop pos ≠ [] := by
        intro e
        have := congrArg List.length e
        rw [List.length_drop, ← Lib.size_eq] at this
        simp at this
        omega
      have hwd := Lib.width_pos s pos
      have hwl : pos + (Utf8.decode s pos).2 ≤ s.size := by
        have := Lib.decodeL_le _ hne
        rw [List.length_drop, ← Lib.size_eq, Lib.decodeL_drop] at this
        omega
      have hhi := decodeL_hi (s.data.toList.drop pos)
      have hok := okR_of (s.data.toList.drop pos)
      have hS := HS.out
      rw [lets_cons _ hne, List.drop_drop, quoteL, List.flatMap_cons, ← quoteL, ← List.append_assoc] at hS
      rw [Lib.decodeL_drop] at hS hhi hok
      obtain ⟨R, hR⟩ : ∃ R, (Utf8.decode s pos).1 = R := ⟨_, rfl⟩
      obtain ⟨K, hK⟩ : ∃ K, (Utf8.decode s pos).2 = K := ⟨_, rfl⟩
      rw [hR, hK] at hnx hS
      rw [hR] at hhi hok
      rw [hK] at hwd hwl
      have hit2 := Lib.iterAt_heap wr w.heap.size s pos (pos + K) hit
      have hbw2 := Lib.below_iterAt hbw (k := w.heap.size) (Nat.le_refl _) s (pos + K)
      obtain ⟨W1, hW1⟩ : ∃ W1, wr.iterAt w.heap.size s (pos + K) = W1 := ⟨_, rfl⟩
      rw [hW1] at hnx hit2 hbw2
      have HS2 : Hid ([34] ++ acc.data.toList ++ qR (R : Int) ++ quoteL (lets (s.data.toList.drop (pos + K))) ++ [34] = tot) := hS
      have hq6 := qR_len (R : Int)
      have HQ6 : Hid ((qR (R : Int)).length ≤ 6) := hq6
      have HIT2 : Hid (W1.heap[w.heap.size]? = some (.stringIter s (pos + K))) := hit2
      have HBW2 : Hid (Below w.heap.size w W1) := hbw2
      have HE : Hid (Lib.encodeRune (R : Int) = (Utf8.encode (R : Int)).data.toList) := encR_eq R hok
      obtain ⟨he1, he2⟩ := enc_some (R : Int)
      obtain ⟨E, hE⟩ : ∃ E, Utf8.encode (R : Int) = E := ⟨_, rfl⟩
      rw [hE] at HE he1 he2
      have hcv : ∀ W, (convert 21 9 (.int .i32 (R : Int))).run Tryd.prog W = .ok (.string E) W := fun W => by
        rw [run_convert_int_string W 21 9 .i32 (R : Int) (by rw [Tryd.underlying21]; rfl) Tryd.underlying9, hE]
      have FIN : Hid (∀ X : ByteArray, X.data.toList = qR (R : Int) → Hid ([34] ++ (acc ++ X).data.toList ++ quoteL (lets (s.data.toList.drop (pos + K))) ++ [34] = tot) ∧ (acc ++ X).size ≤ 6 * (pos + K)) := fun X hX => by
        refine ⟨?_, ?_⟩
        · show _ = _
          rw [← HS2.out, ← hX]
          simp
        · rw [ByteArray.size_append, Lib.size_eq X, hX]
          omega
      have zA : acc.size ≤ 844424930131968 := by omega
      clear hW1 hit hbw hS hR hK hne HS HT hit2 hbw2 hq6 hE hok HS2
      by_cases hq : R = 34 ∨ R = 92
      · have eq : qR (R : Int) = 92 :: Lib.encodeRune R := by unfold qR; rw [if_pos (by omega)]
        have F := FIN.out (⟨#[92]⟩ ++ E) (by rw [eq, HE.out]; simp)
        have HF : Hid (Hid ([34] ++ (acc ++ (⟨#[92]⟩ ++ E)).data.toList ++ quoteL (lets (s.data.toList.drop (pos + K))) ++ [34] = tot) ∧ (acc ++ (⟨#[92]⟩ ++ E)).size ≤ 6 * (pos + K)) := F
        have z1 : ¬ 9223372036854775807 < 1 + E.size := by omega
        have z2 : ¬ 9223372036854775807 < acc.size + (1 + E.size) := by omega
        have tq : ((R : Int) == 34) = true ∨ (((R : Int) == 34) = false ∧ ((R : Int) == 92) = true) := by
          rcases hq with h | h
          · left; simp [h]
          · right; simp [h]
        clear hq F FIN eq HE
        rcases tq with tq | ⟨tq, tq2⟩
        all_goals
          go_wp2_with fail
          go_roundg g'
          case measure => omega
          case rel => exact ⟨pos + K, acc ++ (⟨#[92]⟩ ++ E), rfl, HIT2.out, HBW2.out, HF.out.1, by omega, HF.out.2, by omega⟩
      · have n1 : ((R : Int) == 34) = false := beq_eq_false_iff_ne.2 (by omega)
        have n2 : ((R : Int) == 92) = false := beq_eq_false_iff_ne.2 (by omega)
        by_cases h16 : R < 16
        · have t1 : (R : Int) < 16 := by omega
          have eq : qR (R : Int) = [92, 117, 123] ++ [hexDig R] ++ [125] := by unfold qR; rw [if_neg (by omega), if_pos (by omega)]; simp [hexS, h16]
          have hsl : ∀ W, (Instr.slice 9 (.string ⟨#[48, 49, 50, 51, 52, 53, 54, 55, 56, 57, 97, 98, 99, 100, 101, 102]⟩) (some (.int .i32 (R : Int))) (some (.int .i32 ((R : Int) + 1))) none).run Tryd.prog W = .ok (.string ⟨#[hexDig R]⟩) W := fun W => hex_slice R h16 W
          have hX : (((⟨#[92, 117, 123]⟩ : ByteArray) ++ ⟨#[hexDig R]⟩) ++ ⟨#[125]⟩).data.toList = qR (R : Int) := by rw [eq]; simp
          obtain ⟨D, hD⟩ : ∃ D, (⟨#[hexDig R]⟩ : ByteArray) = D := ⟨_, rfl⟩
          have hDs : D.size = 1 := by rw [← hD]; rfl
          rw [hD] at hX hsl
          have HF : Hid (Hid ([34] ++ (acc ++ (⟨#[92, 117, 123]⟩ ++ D ++ ⟨#[125]⟩)).data.toList ++ quoteL (lets (s.data.toList.drop (pos + K))) ++ [34] = tot) ∧ (acc ++ (⟨#[92, 117, 123]⟩ ++ D ++ ⟨#[125]⟩)).size ≤ 6 * (pos + K)) := FIN.out _ hX
          have z1 : ¬ 9223372036854775807 < 3 + D.size := by omega
          have z2 : ¬ 9223372036854775807 < 3 + D.size + 1 := by omega
          have z3 : ¬ 9223372036854775807 < acc.size + (3 + D.size + 1) := by omega
          clear eq FIN HE hD hDs hX hq h16
          go_wp2_with fail
          go_roundg g'
          case measure => omega
          case rel => exact ⟨pos + K, acc ++ (⟨#[92, 117, 123]⟩ ++ D ++ ⟨#[125]⟩), rfl, HIT2.out, HBW2.out, HF.out.1, by omega, HF.out.2, by omega⟩
        · have t1 : ¬ (R : Int) < 16 := by omega
          by_cases h32 : R < 32
          · have t2 : (R : Int) < 32 := by omega
            have eq : qR (R : Int) = [92, 117, 123, 49] ++ [hexDig (R - 16)] ++ [125] := by
              unfold qR; rw [if_neg (by omega), if_pos (by omega)]
              have e1 : R / 16 = 1 := by omega
              have e2 : R % 16 = R - 16 := by omega
              have e3 : hexDig 1 = 49 := by decide
              simp [hexS, h16, e1, e2, e3]
            have hsl : ∀ W, (Instr.slice 9 (.string ⟨#[48, 49, 50, 51, 52, 53, 54, 55, 56, 57, 97, 98, 99, 100, 101, 102]⟩) (some (.int .i32 ((R : Int) - 16))) (some (.int .i32 ((R : Int) - 15))) none).run Tryd.prog W = .ok (.string ⟨#[hexDig (R - 16)]⟩) W := fun W => by
              have := hex_slice (R - 16) (by omega) W
              rw [show ((R - 16 : Nat) : Int) = (R : Int) - 16 by omega, show (R : Int) - 16 + 1 = (R : Int) - 15 by omega] at this
              exact this
            have hX : (((⟨#[92, 117, 123, 49]⟩ : ByteArray) ++ ⟨#[hexDig (R - 16)]⟩) ++ ⟨#[125]⟩).data.toList = qR (R : Int) := by rw [eq]; simp
            obtain ⟨D, hD⟩ : ∃ D, (⟨#[hexDig (R - 16)]⟩ : ByteArray) = D := ⟨_, rfl⟩
            have hDs : D.size = 1 := by rw [← hD]; rfl
            rw [hD] at hX hsl
            have HF : Hid (Hid ([34] ++ (acc ++ (⟨#[92, 117, 123, 49]⟩ ++ D ++ ⟨#[125]⟩)).data.toList ++ quoteL (lets (s.data.toList.drop (pos + K))) ++ [34] = tot) ∧ (acc ++ (⟨#[92, 117, 123, 49]⟩ ++ D ++ ⟨#[125]⟩)).size ≤ 6 * (pos + K)) := FIN.out _ hX
            have z1 : ¬ 9223372036854775807 < 4 + D.size := by omega
            have z2 : ¬ 9223372036854775807 < 4 + D.size + 1 := by omega
            have z3 : ¬ 9223372036854775807 < acc.size + (4 + D.size + 1) := by omega
            clear eq FIN HE hD hDs hX hq
            go_wp2_with fail
            go_roundg g'
            case measure => omega
            case rel => exact ⟨pos + K, acc ++ (⟨#[92, 117, 123, 49]⟩ ++ D ++ ⟨#[125]⟩), rfl, HIT2.out, HBW2.out, HF.out.1, by omega, HF.out.2, by omega⟩
          · have t2 : ¬ (R : Int) < 32 := by omega
            by_cases h127 : R = 127
            · subst h127
              have eq : qR ((127 : Nat) : Int) = [92, 117, 123, 55, 102, 125] := by decide
              have HF : Hid (Hid ([34] ++ (acc ++ ⟨#[92, 117, 123, 55, 102, 125]⟩).data.toList ++ quoteL (lets (s.data.toList.drop (pos + K))) ++ [34] = tot) ∧ (acc ++ ⟨#[92, 117, 123, 55, 102, 125]⟩).size ≤ 6 * (pos + K)) := FIN.out ⟨#[92, 117, 123, 55, 102, 125]⟩ (by rw [eq])
              have z1 : ¬ 9223372036854775807 < acc.size + 6 := by omega
              clear eq FIN HE hq n1 n2 t1 t2 h16 h32
              go_wp2_with fail
              go_roundg g'
              case measure => omega
              case rel => exact ⟨pos + K, acc ++ ⟨#[92, 117, 123, 55, 102, 125]⟩, rfl, HIT2.out, HBW2.out, HF.out.1, by omega, HF.out.2, by omega⟩
            · have n3 : ((R : Int) == 127) = false := beq_eq_false_iff_ne.2 (by omega)
              have eq : qR (R : Int) = Lib.encodeRune R := by unfold qR; rw [if_neg (by omega), if_neg (by omega)]
              have HF : Hid (Hid ([34] ++ (acc ++ E).data.toList ++ quoteL (lets (s.data.toList.drop (pos + K))) ++ [34] = tot) ∧ (acc ++ E).size ≤ 6 * (pos + K)) := FIN.out E (by rw [eq, HE.out])
              have z1 : ¬ 9223372036854775807 < acc.size + E.size := by omega
              clear eq FIN HE hq
              go_wp2_with fail
              go_roundg g'
              case measure => omega
              case rel => exact ⟨pos + K, acc ++ E, rfl, HIT2.out, HBW2.out, HF.out.1, by omega, HF.out.2, by omega⟩
    · have hnx : ∀ ty, (Instr.next (.pointer (some ⟨w.heap.size, 0, none⟩)) true ty).run Tryd.prog wr = _ := fun ty => Lib.run_next_end_at wr w.heap.size s pos ty hit (by omega)
      have HE : Hid ((⟨#[34]⟩ ++ acc) ++ ⟨#[34]⟩ = (⟨tot.toArray⟩ : ByteArray)) := by
        show _ = _
        have := HS.out
        rw [List.drop_of_length_le (by rw [← Lib.size_eq]; omega), lets_nil] at this
        apply ByteArray.ext
        apply Array.toList_inj.1
        rw [← this]
        simp [quoteL]
      have z1 : ¬ 9223372036854775807 < 1 + acc.size := by omega
      have z2 : ¬ 9223372036854775807 < 1 + acc.size + 1 := by omega
      have HB : Hid (Below w.heap.size w wr) := hbw
      clear HS HT hbw
      go_wp2_with fail
      go_ret
      refine ⟨?_, HB.out⟩
      rw [← HE.out]
      rfl
end Go.Proofs.YtimnnebmjapneaaDoor

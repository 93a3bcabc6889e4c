/- What the reference's glyphs and text make. -/
import Derived.Test.YtimnnebmjapneaaDoorGc
import Derived.Laws.Cover4
namespace Go.Proofs.YtimnnebmjapneaaDoor
open Go.RowKit Go.Lib
set_option linter.unusedVariables false
theorem info50 : (Tryd.prog.info? 50).map (fun i => (i.zero, i.size, i.bytes)) = some (some (.agg #[.int .i32 0, .bool false]), 2, 8) := by kernel_rfl
/-- A slice of glyphs at hand. -/
def GV (w : World) (v : Value) (ls : List Let) : Prop := ∃ p c, v = .slice p ls.length c ∧ GA w p ls ∧ ls.length ≤ c ∧ c ≤ maxLen
theorem gv_own {w : World} {base : Nat} {v : Value} {ls : List Let} (h : w.ownsRow base 50 2 v ls.length (flatT ls)) : GV w v ls := by
  obtain ⟨h1, ⟨rfl, h2⟩ | ⟨g, cap, cur, rfl, hb, hg, hc1, hc2, hc3, hc4⟩⟩ := h
  · exact ⟨none, 0, by rw [h2], fun h => by omega, by omega, by unfold maxLen; omega⟩
  · refine ⟨_, cap, rfl, fun h0 => ⟨g, 0, rfl, (Array.getElem?_eq_some_iff.1 hg).1, ?_⟩, hc1, hc2⟩
    intro j hj
    have hw : w.ownsRow base 50 2 (.slice (some ⟨g, 0, none⟩) ls.length cap) ls.length (flatT ls) := ⟨h1, .inr ⟨g, cap, cur, rfl, hb, hg, hc1, hc2, hc3, hc4⟩⟩
    rw [Nat.zero_add, hw.cellAt (j * 2) (by omega), hw.cellAt (j * 2 + 1) (by omega)]
    exact flatT_get ls j hj
theorem pre_short (l : List UInt8) (h : l.length < 3) : Lib.hasPrefix l [239, 191, 189] = false := by
  rw [← Lib.hasPrefix_of_take]
  simp
  omega
theorem pre_long (s : ByteArray) (pos : Nat) (h : pos + 3 ≤ s.size) : Lib.hasPrefix (s.data.toList.drop pos) [239, 191, 189] = true ↔ (s.extract pos (pos + 3)) = ⟨#[239, 191, 189]⟩ := by
  rw [← Lib.hasPrefix_of_take]
  have h1 : ([239, 191, 189] : List UInt8).length ≤ (s.data.toList.drop pos).length := by
    rw [List.length_drop, ← Lib.size_eq]; simp; omega
  rw [decide_eq_true h1, Bool.true_and]
  have e : ((s.data.toList.drop pos).take ([239, 191, 189] : List UInt8).length) = (s.extract pos (pos + 3)).data.toList := by
    rw [ByteArray.data_extract, Array.toList_extract, List.extract_eq_take_drop]
    simp
  rw [e, beq_iff_eq]
  constructor
  · intro h2
    apply ByteArray.ext
    apply Array.toList_inj.1
    rw [h2]
  · intro h2
    rw [h2]
set_option maxRecDepth 100000 in
set_option maxHeartbeats 2000000 in
theorem glyphs_any (s : ByteArray) (w : World) (hs : s.size ≤ 2048) :
    Calls Tryd.prog 13 #[.string s] w fun e w' => ∃ v, e = .returned v ∧ GV w' v (lets s.data.toList) ∧ Below w.heap.size w w' := by
  obtain ⟨i0, hi, hz0, hz1, hz2⟩ := info_parts info50
  go_enter Tryd.func13, Tryd.ntmps13
  go_wp2
  go_loopg [3] s.size (fun gf v wx => ∃ (pos : Nat) (ls : List Let), wx.heap[w.heap.size]? = some (.stringIter s pos) ∧ wx.ownsRow (w.heap.size + 1) 50 2 v ls.length (flatT ls) ∧ Below w.heap.size w wx ∧ Hid (ls ++ lets (s.data.toList.drop pos) = lets s.data.toList) ∧ s.size ≤ pos + gf ∧ ls.length ≤ pos)
  case atStart => exact ⟨0, [], World.iter_heap w s 0, World.ownsRow_nil _ _ _ _, (Below.refl _ _).alloc (Nat.le_refl _) _, (by show _ = _; simp), by omega, by simp⟩
  case round =>
    obtain ⟨pos, ls, hit, hown, hbw, HS, hb, hlen⟩ := hrel
    by_cases hp : pos < s.size
    · obtain ⟨g', rfl⟩ : ∃ g', gk = g' + 1 := ⟨gk - 1, by omega⟩
      have hnx : ∀ ty, (Instr.next (.pointer (some ⟨w.heap.size, 0, none⟩)) true ty).run Tryd.prog wr = _ := fun ty => Lib.run_next_any_at wr w.heap.size s pos ty hit hp
      have hne : s.data.toList.drop pos ≠ [] := by
        intro e
        have := congrArg List.length e
        rw [List.length_drop, ← Lib.size_eq] at this
        simp at this
        omega
      have hwd := Lib.width_pos s pos
      have hS := HS.out
      rw [lets_cons _ hne, List.drop_drop] at hS
      have hbd : badL (s.data.toList.drop pos) = (decide ((Utf8.decode s pos).1 = 65533) && !(Lib.hasPrefix (s.data.toList.drop pos) [239, 191, 189])) := by
        unfold badL; rw [Lib.decodeL_drop]
      rw [Lib.decodeL_drop, hbd] at hS
      have hps := pre_short (s.data.toList.drop pos)
      have hpl := pre_long s pos
      rw [List.length_drop, ← Lib.size_eq] at hps
      obtain ⟨R, hR⟩ : ∃ R, (Utf8.decode s pos).1 = R := ⟨_, rfl⟩
      obtain ⟨K, hK⟩ : ∃ K, (Utf8.decode s pos).2 = K := ⟨_, rfl⟩
      obtain ⟨B, hB⟩ : ∃ B, Lib.hasPrefix (s.data.toList.drop pos) [239, 191, 189] = B := ⟨_, rfl⟩
      rw [hB] at hps hpl hS
      rw [hR, hK] at hnx hS
      rw [hK] at hwd
      have hit2 := Lib.iterAt_heap wr w.heap.size s pos (pos + K) hit
      have hbw2 := Lib.below_iterAt hbw (k := w.heap.size) (Nat.le_refl _) s (pos + K)
      have hown2 := ownsRow_iterAt hown (k := w.heap.size) (by omega) s (pos + K)
      obtain ⟨W1, hW1⟩ : ∃ W1, wr.iterAt w.heap.size s (pos + K) = W1 := ⟨_, rfl⟩
      rw [hW1] at hnx hit2 hbw2 hown2
      have hBlt := lt_of_block hit2
      have HS2 : Hid (ls ++ ((R : Int), decide (R = 65533) && !B) :: lets (s.data.toList.drop (pos + K)) = lets s.data.toList) := hS
      clear hW1 hit hown hbw hS hB hR hK hbd hne HS
      by_cases hr : R = 65533
      · subst hr
        by_cases h3 : s.size < pos + 3
        · have h3' : (s.size : Int) < (pos : Int) + 3 := by omega
          obtain rfl : B = false := hps (by omega)
          clear hps hpl
          go_wp2_with (first
            | (at_builtin; refine wpList_append_own _ rfl _ _ 39 rfl (w.heap.size + 1) 50 i0 (.agg #[.int .i32 0, .bool false]) 2 8 Tryd.underlying39 hi hz0 hz1 hz2 rfl (by decide) _ _ _ rfl (hown2.alloc _) ⟨_, 0, none⟩ 1 1 [.int .i32 65533, .bool true] rfl rfl (cell_two_new _ _ _ _) (fun x hx => by simp at hx; rcases hx with rfl | rfl <;> rfl) (by unfold maxLen; omega) (by omega) (by simp; omega) ?_; intro v' w3 hown' hgrow3 hnil3))
          have hit3 : w3.heap[w.heap.size]? = some (.stringIter s (pos + K)) := by
            rw [hgrow3.block w.heap.size (by simp; omega) (fun h => by have := (hown2.lt _ h.symm).1; omega), Below.heap_alloc _ _ _ hBlt]; exact hit2
          have hbw3 : Below w.heap.size w w3 := Below.grown (hbw2.alloc (by omega) _) hgrow3 (by simp; omega) (fun j hj => by have := (hown2.lt _ hj).1; omega)
          go_roundg g'
          case measure => omega
          case rel => exact ⟨pos + K, ls ++ [(65533, true)], hit3, by rw [List.length_append, flatT_app]; exact hown', hbw3, (by show _ = _; rw [← HS2.out, List.append_assoc]; simp), by omega, by simp; omega⟩
        · have h3' : ¬ (s.size : Int) < (pos : Int) + 3 := by omega
          have hB := hpl (by omega)
          have hsl : ∀ W, (Instr.slice 9 (.string s) (some (.int .i64 (pos : Int))) (some (.int .i64 ((pos : Int) + 3))) none).run Tryd.prog W = .ok (.string (s.extract pos (pos + 3))) W := fun W => by
            rw [run_slice_string (P := Tryd.prog) W 9 s .i64 .i64 (pos : Int) ((pos : Int) + 3) Tryd.underlying9 (by omega) (by omega) (by omega)]
            rw [Int.toNat_natCast, show ((pos : Int) + 3).toNat = pos + 3 by omega]
          obtain ⟨S, hS⟩ : ∃ S, s.extract pos (pos + 3) = S := ⟨_, rfl⟩
          rw [hS] at hB hsl
          clear hps hpl hS
          cases B with
          | true =>
            obtain rfl : S = ⟨#[239, 191, 189]⟩ := hB.1 rfl
            clear hB
            go_wp2_with (first
              | (at_builtin; refine wpList_append_own _ rfl _ _ 39 rfl (w.heap.size + 1) 50 i0 (.agg #[.int .i32 0, .bool false]) 2 8 Tryd.underlying39 hi hz0 hz1 hz2 rfl (by decide) _ _ _ rfl (hown2.alloc _) ⟨_, 0, none⟩ 1 1 [.int .i32 65533, .bool false] rfl rfl (cell_two_new _ _ _ _) (fun x hx => by simp at hx; rcases hx with rfl | rfl <;> rfl) (by unfold maxLen; omega) (by omega) (by simp; omega) ?_; intro v' w3 hown' hgrow3 hnil3))
            have hit3 : w3.heap[w.heap.size]? = some (.stringIter s (pos + K)) := by
              rw [hgrow3.block w.heap.size (by simp; omega) (fun h => by have := (hown2.lt _ h.symm).1; omega), Below.heap_alloc _ _ _ hBlt]; exact hit2
            have hbw3 : Below w.heap.size w w3 := Below.grown (hbw2.alloc (by omega) _) hgrow3 (by simp; omega) (fun j hj => by have := (hown2.lt _ hj).1; omega)
            go_roundg g'
            case measure => omega
            case rel => exact ⟨pos + K, ls ++ [(65533, false)], hit3, by rw [List.length_append, flatT_app]; exact hown', hbw3, (by show _ = _; rw [← HS2.out, List.append_assoc]; simp), by omega, by simp; omega⟩
          | false =>
            have hne : S ≠ ⟨#[239, 191, 189]⟩ := fun h => by simpa using hB.2 h
            have hne3 : (S.toList == [239, 191, 189]) = false := beq_eq_false_iff_ne.2 fun h2 => hne (by
              apply ByteArray.ext
              apply Array.toList_inj.1
              have := ByteArray.toList_eq S
              simpa [← this] using h2)
            clear hB
            go_wp2_with (first
              | (at_builtin; refine wpList_append_own _ rfl _ _ 39 rfl (w.heap.size + 1) 50 i0 (.agg #[.int .i32 0, .bool false]) 2 8 Tryd.underlying39 hi hz0 hz1 hz2 rfl (by decide) _ _ _ rfl (hown2.alloc _) ⟨_, 0, none⟩ 1 1 [.int .i32 65533, .bool true] rfl rfl (cell_two_new _ _ _ _) (fun x hx => by simp at hx; rcases hx with rfl | rfl <;> rfl) (by unfold maxLen; omega) (by omega) (by simp; omega) ?_; intro v' w3 hown' hgrow3 hnil3))
            have hit3 : w3.heap[w.heap.size]? = some (.stringIter s (pos + K)) := by
              rw [hgrow3.block w.heap.size (by simp; omega) (fun h => by have := (hown2.lt _ h.symm).1; omega), Below.heap_alloc _ _ _ hBlt]; exact hit2
            have hbw3 : Below w.heap.size w w3 := Below.grown (hbw2.alloc (by omega) _) hgrow3 (by simp; omega) (fun j hj => by have := (hown2.lt _ hj).1; omega)
            go_roundg g'
            case measure => omega
            case rel => exact ⟨pos + K, ls ++ [(65533, true)], hit3, by rw [List.length_append, flatT_app]; exact hown', hbw3, (by show _ = _; rw [← HS2.out, List.append_assoc]; simp), by omega, by simp; omega⟩
      · have hr2 : ((R : Int) == 65533) = false := beq_eq_false_iff_ne.2 (by omega)
        clear hps hpl
        go_wp2_with (first
          | (at_builtin; refine wpList_append_own _ rfl _ _ 39 rfl (w.heap.size + 1) 50 i0 (.agg #[.int .i32 0, .bool false]) 2 8 Tryd.underlying39 hi hz0 hz1 hz2 rfl (by decide) _ _ _ rfl (hown2.alloc _) ⟨_, 0, none⟩ 1 1 [.int .i32 (R : Int), .bool false] rfl rfl (cell_two_new _ _ _ _) (fun x hx => by simp at hx; rcases hx with rfl | rfl <;> rfl) (by unfold maxLen; omega) (by omega) (by simp; omega) ?_; intro v' w3 hown' hgrow3 hnil3))
        have hit3 : w3.heap[w.heap.size]? = some (.stringIter s (pos + K)) := by
          rw [hgrow3.block w.heap.size (by simp; omega) (fun h => by have := (hown2.lt _ h.symm).1; omega), Below.heap_alloc _ _ _ hBlt]; exact hit2
        have hbw3 : Below w.heap.size w w3 := Below.grown (hbw2.alloc (by omega) _) hgrow3 (by simp; omega) (fun j hj => by have := (hown2.lt _ hj).1; omega)
        go_roundg g'
        case measure => omega
        case rel => exact ⟨pos + K, ls ++ [((R : Int), false)], hit3, by rw [List.length_append, flatT_app]; exact hown', hbw3, (by show _ = _; rw [← HS2.out, List.append_assoc]; simp [hr]), by omega, by simp; omega⟩
    · have hnx : ∀ ty, (Instr.next (.pointer (some ⟨w.heap.size, 0, none⟩)) true ty).run Tryd.prog wr = _ := fun ty => Lib.run_next_end_at wr w.heap.size s pos ty hit (by omega)
      have HE : Hid (ls = lets s.data.toList) := by
        have := HS.out
        rw [List.drop_of_length_le (by rw [← Lib.size_eq]; omega), lets_nil, List.append_nil] at this
        exact this
      clear HS
      go_wp2
      go_ret
      exact ⟨_, rfl, by rw [← HE.out]; exact gv_own hown, hbw⟩
end Go.Proofs.YtimnnebmjapneaaDoor

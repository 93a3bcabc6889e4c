/- What lettersOf makes of a text: its runes, each with whether it is a bad one. -/
import Derived.Test.YtnmmojhbcnlboaaGreatDoorLc
import Derived.Test.YtnmmojhbcnlboaaGreatDoorShelf
import Derived.Lib.RuneCount
import Derived.Lib.RuneCountTail
import Derived.Lib.TrimU
import Derived.Lib.TrimUEq
import Derived.Lib.OthersKept
import Derived.WalkKit
import Derived.WalkSpells
import Derived.Maps.AppendAt
namespace Go.Proofs.YtnmmojhbcnlboaaGreatDoor
open Go.RowKit Go.Lib
set_option linter.unusedVariables false

/-- Whether bytes begin with none: their first rune is 65533, and not by its own three bytes. -/
def badL (l : List UInt8) : Bool := decide ((decodeL l).1 = 65533) && !(Lib.hasPrefix l [239, 191, 189])
/-- The letters of bytes. -/
def letL : Nat → List UInt8 → List Let
  | 0, _ => []
  | n + 1, l => if l = [] then [] else (((decodeL l).1 : Int), badL l) :: letL n (l.drop (decodeL l).2)
theorem letL_nil (n : Nat) : letL n [] = [] := by cases n <;> simp [letL]
theorem letL_fuel : ∀ (n m : Nat) (l : List UInt8), l.length ≤ n → l.length ≤ m → letL n l = letL m l
  | 0, m, l, h, _ => by
    have : l = [] := List.eq_nil_of_length_eq_zero (by omega)
    subst this
    rw [letL_nil, letL_nil]
  | n + 1, 0, l, _, h => by
    have : l = [] := List.eq_nil_of_length_eq_zero (by omega)
    subst this
    rw [letL_nil, letL_nil]
  | n + 1, m + 1, l, h, h' => by
    have hw := Lib.decodeL_width l
    unfold letL
    by_cases e : l = []
    · rw [if_pos e, if_pos e]
    · rw [if_neg e, if_neg e, letL_fuel n m _ (by rw [List.length_drop]; omega) (by rw [List.length_drop]; omega)]
/-- The letters of a text. -/
def lets (l : List UInt8) : List Let := letL l.length l
theorem lets_cons (l : List UInt8) (h : l ≠ []) : lets l = (((decodeL l).1 : Int), badL l) :: lets (l.drop (decodeL l).2) := by
  have hw := Lib.decodeL_width l
  have hl : 0 < l.length := by cases l with
    | nil => exact absurd rfl h
    | cons _ _ => simp
  unfold lets
  obtain ⟨n, hn⟩ : ∃ n, l.length = n + 1 := ⟨l.length - 1, by omega⟩
  rw [hn]
  conv => lhs; unfold letL
  rw [if_neg h, letL_fuel n (l.drop (decodeL l).2).length _ (by rw [List.length_drop]; omega) (Nat.le_refl _)]
theorem lets_nil : lets [] = [] := rfl
/-- The letters' cells, one behind the other. -/
def flatT (ls : List Let) : List Value := ls.flatMap fun x => [.int .i32 x.1, .bool x.2]
theorem flatT_length : ∀ ls : List Let, (flatT ls).length = ls.length * 2
  | [] => rfl
  | x :: xs => by
    have := flatT_length xs
    simp only [flatT, List.flatMap_cons, List.length_append, List.length_cons, List.length_nil] at this ⊢
    omega
theorem flatT_app (a b : List Let) : flatT (a ++ b) = flatT a ++ flatT b := by simp [flatT]
theorem flatT_get : ∀ (ls : List Let) (j : Nat) (h : j < ls.length), (flatT ls)[j * 2]? = some (.int .i32 ls[j].1) ∧ (flatT ls)[j * 2 + 1]? = some (.bool ls[j].2)
  | x :: xs, 0, _ => by simp [flatT]
  | x :: xs, j + 1, h => by
    have := flatT_get xs j (by simpa using h)
    simp only [flatT, List.flatMap_cons] at this ⊢
    rw [show (j + 1) * 2 = j * 2 + 2 by omega, show j * 2 + 2 + 1 = (j * 2 + 1) + 2 by omega]
    simpa using this
theorem info66 : (Tryz.prog.info? 114).map (fun i => (i.zero, i.size, i.bytes)) = some (some (.agg #[.int .i32 0, .bool false]), 2, 8) := by kernel_rfl
theorem ownsRow_iterAt {w : World} {base : Nat} {e : TypeId} {size : Nat} {v : Value} {n : Nat} {xs : List Value} (h : w.ownsRow base e size v n xs) {k : Nat} (hk : k < base) (s : ByteArray) (p : Nat) : (w.iterAt k s p).ownsRow base e size v n xs := by
  obtain ⟨h1, h2⟩ := h
  refine ⟨h1, ?_⟩
  rcases h2 with h2 | ⟨g, cap, cur, a, b, c, d⟩
  · exact .inl h2
  · exact .inr ⟨g, cap, cur, a, b, by rw [Lib.iterAt_other _ _ _ _ _ (by omega)]; exact c, d⟩
theorem cell_two_new (w : World) (a b : Value) (t : TypeId) : ∀ j u, [a, b][j]? = some u → (w.alloc (.cells #[a, b] t)).cell? ((⟨w.heap.size, 0, none⟩ : Addr).add j) = some u := by
  intro j u hj
  match j, hj with
  | 0, hj => simp at hj; subst hj; simp [Addr.add]
  | 1, hj => simp at hj; subst hj; simp [Addr.add]
  | j + 2, hj => simp at hj
/-- A slice of letters. -/
def LetsV (w : World) (v : Value) (ls : List Let) : Prop :=
  (v = .slice none 0 0 ∧ ls = []) ∨ ∃ g cap, v = .slice (some ⟨g, 0, none⟩) ls.length cap ∧ LetsAt w g ls ∧ g < w.heap.size ∧ ls.length ≤ cap ∧ cap ≤ maxLen
theorem letsV_own {w : World} {base : Nat} {v : Value} {ls : List Let} (h : w.ownsRow base 114 2 v ls.length (flatT ls)) : LetsV w v ls := by
  obtain ⟨h1, ⟨rfl, h2⟩ | ⟨g, cap, cur, rfl, hb, hg, hc1, hc2, hc3, hc4⟩⟩ := h
  · exact .inl ⟨rfl, List.eq_nil_of_length_eq_zero h2⟩
  · refine .inr ⟨g, cap, rfl, ?_, (Array.getElem?_eq_some_iff.1 hg).1, hc1, hc2⟩
    intro j hj
    have hw : w.ownsRow base 114 2 (.slice (some ⟨g, 0, none⟩) ls.length cap) ls.length (flatT ls) := ⟨h1, .inr ⟨g, cap, cur, rfl, hb, hg, hc1, hc2, hc3, hc4⟩⟩
    rw [hw.cellAt (j * 2) (by omega), hw.cellAt (j * 2 + 1) (by omega)]
    exact flatT_get ls j hj

theorem tail_list (s : ByteArray) (p : Nat) : (s.extract p s.size).data.toList = s.data.toList.drop p := by
  rw [ByteArray.data_extract, Array.toList_extract, List.extract_eq_take_drop]
  rw [List.take_of_length_le]
  rw [List.length_drop, ← Lib.size_eq]; omega
theorem lt_of_block {w : World} {k : Nat} {o : Obj} (h : w.heap[k]? = some o) : k < w.heap.size := (Array.getElem?_eq_some_iff.1 h).1
set_option maxRecDepth 100000 in
set_option maxHeartbeats 2000000 in
theorem lettersOf_any (s : ByteArray) (w : World) (hs : s.size ≤ 2048) :
    Calls Tryz.prog 53 #[.string s] w fun e w' => ∃ v, e = .returned v ∧ LetsV w' v (lets s.data.toList) ∧ Below w.heap.size w w' := by
  obtain ⟨i0, hi, hz0, hz1, hz2⟩ := info_parts info66
  go_enter Tryz.func53, Tryz.ntmps53
  go_wp2
  go_loopg [3] s.size (fun gf v wx => ∃ (pos : Nat) (ls : List Let), wx.heap[w.heap.size]? = some (.stringIter s pos) ∧ wx.ownsRow (w.heap.size + 1) 114 2 v ls.length (flatT ls) ∧ Below w.heap.size w wx ∧ Hid (ls ++ lets (s.data.toList.drop pos) = lets s.data.toList) ∧ s.size ≤ pos + gf ∧ ls.length ≤ pos)
  case atStart => exact ⟨0, [], World.iter_heap w s 0, World.ownsRow_nil _ _ _ _, (Below.refl _ _).alloc (Nat.le_refl _) _, (by show _ = _; simp), by omega, by simp⟩
  case round =>
    obtain ⟨pos, ls, hit, hown, hbw, HS, hb, hlen⟩ := hrel
    by_cases hp : pos < s.size
    · obtain ⟨g', rfl⟩ : ∃ g', gk = g' + 1 := ⟨gk - 1, by omega⟩
      have hnx : ∀ ty, (Instr.next (.pointer (some ⟨w.heap.size, 0, none⟩)) true ty).run Tryz.prog wr = _ := fun ty => Lib.run_next_any_at wr w.heap.size s pos ty hit hp
      have hne : s.data.toList.drop pos ≠ [] := by
        intro e
        have := congrArg List.length e
        rw [List.length_drop, ← Lib.size_eq] at this
        simp at this
        omega
      have hwd := Lib.width_pos s pos
      have hS := HS.out
      rw [lets_cons _ hne, List.drop_drop] at hS
      have hbd : badL (s.data.toList.drop pos) = (decide ((Utf8.decode s pos).1 = 65533) && !(Lib.hasPrefix (s.data.toList.drop pos) [239, 191, 189])) := by
        unfold badL; rw [Lib.decodeL_drop]
      rw [Lib.decodeL_drop, hbd] at hS
      have hpx := Tryz.strings_HasPrefix (s.extract pos s.size) ⟨#[239, 191, 189]⟩
      rw [tail_list s pos] at hpx
      obtain ⟨R, hR⟩ : ∃ R, (Utf8.decode s pos).1 = R := ⟨_, rfl⟩
      obtain ⟨K, hK⟩ : ∃ K, (Utf8.decode s pos).2 = K := ⟨_, rfl⟩
      obtain ⟨B, hB⟩ : ∃ B, Lib.hasPrefix (s.data.toList.drop pos) [239, 191, 189] = B := ⟨_, rfl⟩
      rw [hB] at hpx hS
      rw [hR, hK] at hnx hS
      rw [hK] at hwd
      have hit2 := Lib.iterAt_heap wr w.heap.size s pos (pos + K) hit
      have hbw2 := Lib.below_iterAt hbw (k := w.heap.size) (Nat.le_refl _) s (pos + K)
      have hown2 := ownsRow_iterAt hown (k := w.heap.size) (by omega) s (pos + K)
      obtain ⟨W1, hW1⟩ : ∃ W1, wr.iterAt w.heap.size s (pos + K) = W1 := ⟨_, rfl⟩
      rw [hW1] at hnx hit2 hbw2 hown2
      have hsl : ∀ W, (Instr.slice 9 (.string s) (some (.int .i64 (pos : Int))) none none).run Tryz.prog W = .ok (.string (s.extract pos s.size)) W := fun W => by
        rw [run_slice_string_l (P := Tryz.prog) W 9 s Tryz.underlying9 .i64 (pos : Int) (by omega) (by omega)]
        rw [Int.toNat_natCast]
      have hBlt := lt_of_block hit2
      have HPX : Hid (∀ W, Calls Tryz.prog 64 #[.string (s.extract pos s.size), .string ⟨#[239, 191, 189]⟩] W fun e w' => e = .returned (.bool B) ∧ w' = W) := hpx
      have HS2 : Hid (ls ++ ((R : Int), decide (R = 65533) && !B) :: lets (s.data.toList.drop (pos + K)) = lets s.data.toList) := hS
      clear hW1 hit hown hbw hpx hS hB hR hK hbd hne HS
      by_cases hr : R = 65533
      · subst hr
        go_wp2_with (first
          | (go_at_call 64; refine (HPX.out _).mono ?_; rintro e w' ⟨rfl, rfl⟩)
          | (at_builtin; refine wpList_append_own _ rfl _ _ 95 rfl (w.heap.size + 1) 114 i0 (.agg #[.int .i32 0, .bool false]) 2 8 Tryz.underlying95 hi hz0 hz1 hz2 rfl (by decide) _ _ _ rfl (hown2.alloc _) ⟨_, 0, none⟩ 1 1 [.int .i32 65533, .bool (!B)] rfl rfl (cell_two_new _ _ _ _) (fun x hx => by simp at hx; rcases hx with rfl | rfl <;> rfl) (by unfold maxLen; omega) (by omega) (by simp; omega) ?_; intro v' w3 hown' hgrow3 hnil3))
        have hit3 : w3.heap[w.heap.size]? = some (.stringIter s (pos + K)) := by
          rw [hgrow3.block w.heap.size (by simp; omega) (fun h => by have := (hown2.lt _ h.symm).1; omega), Below.heap_alloc _ _ _ hBlt]; exact hit2
        have hbw3 : Below w.heap.size w w3 := Below.grown (hbw2.alloc (by omega) _) hgrow3 (by simp; omega) (fun j hj => by have := (hown2.lt _ hj).1; omega)
        go_roundg g'
        case measure => omega
        case rel => exact ⟨pos + K, ls ++ [(65533, !B)], hit3, by rw [List.length_append, flatT_app]; exact hown', hbw3, (by show _ = _; rw [← HS2.out, List.append_assoc]; simp), by omega, by simp; omega⟩
      · have hr2 : ((R : Int) == 65533) = false := beq_eq_false_iff_ne.2 (by omega)
        go_wp2_with (first
          | (at_builtin; refine wpList_append_own _ rfl _ _ 95 rfl (w.heap.size + 1) 114 i0 (.agg #[.int .i32 0, .bool false]) 2 8 Tryz.underlying95 hi hz0 hz1 hz2 rfl (by decide) _ _ _ rfl (hown2.alloc _) ⟨_, 0, none⟩ 1 1 [.int .i32 (R : Int), .bool false] rfl rfl (cell_two_new _ _ _ _) (fun x hx => by simp at hx; rcases hx with rfl | rfl <;> rfl) (by unfold maxLen; omega) (by omega) (by simp; omega) ?_; intro v' w3 hown' hgrow3 hnil3))
        have hit3 : w3.heap[w.heap.size]? = some (.stringIter s (pos + K)) := by
          rw [hgrow3.block w.heap.size (by simp; omega) (fun h => by have := (hown2.lt _ h.symm).1; omega), Below.heap_alloc _ _ _ hBlt]; exact hit2
        have hbw3 : Below w.heap.size w w3 := Below.grown (hbw2.alloc (by omega) _) hgrow3 (by simp; omega) (fun j hj => by have := (hown2.lt _ hj).1; omega)
        go_roundg g'
        case measure => omega
        case rel => exact ⟨pos + K, ls ++ [((R : Int), false)], hit3, by rw [List.length_append, flatT_app]; exact hown', hbw3, (by show _ = _; rw [← HS2.out, List.append_assoc]; simp [hr]), by omega, by simp; omega⟩
    · have hnx : ∀ ty, (Instr.next (.pointer (some ⟨w.heap.size, 0, none⟩)) true ty).run Tryz.prog wr = _ := fun ty => Lib.run_next_end_at wr w.heap.size s pos ty hit (by omega)
      have HE : Hid (ls = lets s.data.toList) := by
        have := HS.out
        rw [List.drop_of_length_le (by rw [← Lib.size_eq]; omega), lets_nil, List.append_nil] at this
        exact this
      clear HS
      go_wp2
      go_ret
      exact ⟨_, rfl, by rw [← HE.out]; exact letsV_own hown, hbw⟩
end Go.Proofs.YtnmmojhbcnlboaaGreatDoor

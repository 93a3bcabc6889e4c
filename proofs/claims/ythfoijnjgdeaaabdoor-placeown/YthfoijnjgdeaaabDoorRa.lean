/- What the reference's Utf and Check answer: what Check answers. -/
import Derived.Test.YthfoijnjgdeaaabDoorUtfB
import Derived.Lib.ValidLaws
namespace Go.Proofs.YthfoijnjgdeaaabDoor
open Go.RowKit Go.Lib
set_option linter.unusedVariables false
attribute [local go_sem ↓] Go.wp_at_zero Go.wp_at_succ

/-- A rune 65533 is a bad one just if it is not spelled with its own three bytes. -/
theorem bad_iff (l : List UInt8) (hne : l ≠ []) (h : (decodeL l).1 = 65533) : (decodeL l).2 = 1 ↔ l.take 3 ≠ [239, 191, 189] := by
  constructor
  · intro h1 e
    have hl : l = [239, 191, 189] ++ l.drop 3 := by rw [← e, List.take_append_drop]
    have hd : decodeL [239, 191, 189] = (65533, 3) := by decide +kernel
    rw [hl, decodeL_app _ _ (by simp) (by rw [hd]; decide), hd] at h1
    cases h1
  · intro hn
    by_cases h1 : (decodeL l).2 = 1
    · exact h1
    · exfalso
      apply hn
      have t := Lib.encode_decode l hne (fun x => h1 x.2)
      have hk := Lib.decodeL_le l hne
      rw [h] at t
      have t2 : [239, 191, 189] = l.take (decodeL l).2 := by rw [← t]; decide +kernel
      have hlen := congrArg List.length t2
      rw [List.length_take] at hlen
      simp at hlen
      rw [show (3 : Nat) = (decodeL l).2 by omega]
      exact t2.symm
theorem bare_iff (k : Int) (b : Bool) (n : Int) (s : ByteArray) : sameV ⟨k, b, n, s⟩ (Val.bare ⟨k, b, n, s⟩) = true ↔ (k = 1 ∨ b = false) ∧ (k = 2 ∨ n = 0) ∧ (k = 3 ∨ s.size = 0) := by
  have hs : s.size = 0 ↔ s = ⟨#[]⟩ := by
    constructor
    · intro h
      apply ByteArray.ext
      exact Array.eq_empty_of_size_eq_zero h
    · rintro rfl; rfl
  rw [sameV_iff, hs]
  simp only [Val.bare, Val.mk.injEq, true_and]
  refine and_congr ?_ (and_congr ?_ ?_)
  · by_cases h : k = 1 <;> simp [h]
  · by_cases h : k = 2 <;> simp [h]
  · by_cases h : k = 3 <;> simp [h]
theorem chk_typ (k : Int) (b : Bool) (n : Int) (s : ByteArray) (h : 4 ≤ k ∨ (k ≠ 1 ∧ b = true) ∨ (k ≠ 2 ∧ n ≠ 0) ∨ (k ≠ 3 ∧ s.size ≠ 0)) : chkV ⟨k, b, n, s⟩ = 5 := by
  unfold chkV
  rw [if_pos]
  rcases h with h | h
  · exact .inl h
  · refine .inr ?_
    cases e : sameV ⟨k, b, n, s⟩ (Val.bare ⟨k, b, n, s⟩) with
    | false => rfl
    | true =>
      obtain ⟨h1, h2, h3⟩ := (bare_iff k b n s).1 e
      rcases h with ⟨a, c⟩ | ⟨a, c⟩ | ⟨a, c⟩
      · rcases h1 with h1 | h1
        · exact absurd h1 a
        · rw [c] at h1; cases h1
      · rcases h2 with h2 | h2
        · exact absurd h2 a
        · exact absurd h2 c
      · rcases h3 with h3 | h3
        · exact absurd h3 a
        · exact absurd h3 c
theorem chk_fit (k : Int) (b : Bool) (n : Int) (s : ByteArray) (h0 : ¬ 4 ≤ k) (h1 : k = 1 ∨ b = false) (h2 : k = 2 ∨ n = 0) (h3 : k = 3 ∨ s.size = 0) :
    chkV ⟨k, b, n, s⟩ = if 256 < s.size then 4 else if Lib.validD s.data.toList then 0 else 9 := by
  unfold chkV
  rw [if_neg]
  rintro (h | h)
  · exact h0 h
  · rw [(bare_iff k b n s).2 ⟨h1, h2, h3⟩] at h
    cases h
theorem three_list (s : ByteArray) (p : Nat) : (s.extract p (p + 3)).toList = (s.data.toList.drop p).take 3 := by
  rw [Lib.toList_data, ByteArray.data_extract, Array.toList_extract, List.extract_eq_take_drop]
  congr 1
  omega
theorem drop_ne (s : ByteArray) (pos : Nat) (h : pos < s.size) : s.data.toList.drop pos ≠ [] := by
  intro e
  have := congrArg List.length e
  rw [List.length_drop, ← Lib.size_eq] at this
  simp at this
  omega
theorem empty_iff (s : ByteArray) : s.toList.isEmpty = true ↔ s.size = 0 := by
  rw [Lib.toList_data, Lib.size_eq]
  cases s.data.toList <;> simp
theorem full_of (s : ByteArray) (h : s.size ≠ 0) : s.toList.isEmpty = false := by
  cases e : s.toList.isEmpty with
  | false => rfl
  | true => exact absurd ((empty_iff s).1 e) h
end Go.Proofs.YthfoijnjgdeaaabDoor

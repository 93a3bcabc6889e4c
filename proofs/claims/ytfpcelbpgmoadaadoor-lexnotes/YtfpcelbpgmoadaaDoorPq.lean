/- A text with a line's end and a closing bracket behind it: its letters, its tokens. No walk stands in this text. -/
import Derived.Test.YtfpcelbpgmoadaaDoorPp
namespace Go.Proofs.YtfpcelbpgmoadaaDoor
open Go.RowKit Go.Lib Go.Sort
set_option linter.unusedVariables false
set_option linter.unusedSimpArgs false

def Cont (n k b n' b' : Nat) : Prop := ((k < n ∧ b / 64 = 2) ∧ (k < n' ∧ b' / 64 = 2) ∧ b = b') ∨ (¬ (k < n ∧ b / 64 = 2) ∧ ¬ (k < n' ∧ b' / 64 = 2))
theorem decodeN_same {n n' b0 b1 b2 b3 c1 c2 c3 : Nat} (h1 : Cont n 1 b1 n' c1) (h2 : Cont n 2 b2 n' c2) (h3 : Cont n 3 b3 n' c3) : decodeN n b0 b1 b2 b3 = decodeN n' b0 c1 c2 c3 := by
  unfold decodeN
  rcases h1 with ⟨a1, a2, rfl⟩ | ⟨a1, a2⟩
  · rcases h2 with ⟨b1, b2, rfl⟩ | ⟨b1, b2⟩
    · rcases h3 with ⟨d1, d2, rfl⟩ | ⟨d1, d2⟩
      · simp only [a1, a2, b1, b2, d1, d2, and_self, true_and, and_true]
      · simp only [a1, a2, b1, b2, d1, d2, and_self, true_and, and_true, and_false, if_false]
    · simp only [a1, a2, b1, b2, and_self, true_and, and_true, and_false, false_and, if_false]
  · simp only [a1, a2, and_false, false_and, if_false]
theorem decodeL_line (l : List UInt8) (h : l ≠ []) : decodeL (l ++ [10, 41]) = decodeL l := by
  rw [decodeL_N, decodeL_N]
  match l, h with
  | [a], _ => exact decodeN_same (.inr ⟨by simp, by simp⟩) (.inr ⟨by simp, by simp⟩) (.inr ⟨by simp, by simp⟩)
  | [a, b], _ =>
    refine decodeN_same ?_ (.inr ⟨by simp, by simp⟩) (.inr ⟨by simp, by simp⟩)
    by_cases hb : b.toNat / 64 = 2
    · exact .inl ⟨⟨by simp, by simpa using hb⟩, ⟨by simp, by simpa using hb⟩, rfl⟩
    · exact .inr ⟨fun x => hb (by simpa using x.2), fun x => hb (by simpa using x.2)⟩
  | [a, b, c], _ =>
    refine decodeN_same ?_ ?_ (.inr ⟨by simp, by simp⟩)
    · by_cases hb : b.toNat / 64 = 2
      · exact .inl ⟨⟨by simp, by simpa using hb⟩, ⟨by simp, by simpa using hb⟩, rfl⟩
      · exact .inr ⟨fun x => hb (by simpa using x.2), fun x => hb (by simpa using x.2)⟩
    · by_cases hb : c.toNat / 64 = 2
      · exact .inl ⟨⟨by simp, by simpa using hb⟩, ⟨by simp, by simpa using hb⟩, rfl⟩
      · exact .inr ⟨fun x => hb (by simpa using x.2), fun x => hb (by simpa using x.2)⟩
  | a :: b :: c :: d :: r, _ =>
    refine decodeN_same ?_ ?_ ?_
    · by_cases hb : b.toNat / 64 = 2
      · exact .inl ⟨⟨by simp, by simpa using hb⟩, ⟨by simp, by simpa using hb⟩, rfl⟩
      · exact .inr ⟨fun x => hb (by simpa using x.2), fun x => hb (by simpa using x.2)⟩
    · by_cases hb : c.toNat / 64 = 2
      · exact .inl ⟨⟨by simp, by simpa using hb⟩, ⟨by simp, by simpa using hb⟩, rfl⟩
      · exact .inr ⟨fun x => hb (by simpa using x.2), fun x => hb (by simpa using x.2)⟩
    · by_cases hb : d.toNat / 64 = 2
      · exact .inl ⟨⟨by simp, by simpa using hb⟩, ⟨by simp, by simpa using hb⟩, rfl⟩
      · exact .inr ⟨fun x => hb (by simpa using x.2), fun x => hb (by simpa using x.2)⟩
theorem prefix_line (l : List UInt8) (h : l ≠ []) : Lib.hasPrefix (l ++ [10, 41]) [239, 191, 189] = Lib.hasPrefix l [239, 191, 189] := by
  match l, h with
  | [a], _ => simp [Lib.hasPrefix, List.isPrefixOf]
  | [a, b], _ => simp [Lib.hasPrefix, List.isPrefixOf]
  | a :: b :: c :: r, _ => simp [Lib.hasPrefix, List.isPrefixOf]
def tailL : List Let := [(10, false), (41, false)]
theorem lets_line : ∀ (n : Nat) (l : List UInt8), l.length ≤ n → lets (l ++ [10, 41]) = lets l ++ tailL
  | 0, l, h => by
    have : l = [] := List.eq_nil_of_length_eq_zero (by omega)
    subst this
    rfl
  | n + 1, l, h => by
    by_cases e : l = []
    · subst e; rfl
    · have hw := Lib.decodeL_width l
      have hle := Lib.decodeL_le l e
      rw [lets_cons _ (by simp), lets_cons l e, decodeL_line l e, List.drop_append_of_le_length hle]
      have hb : badL (l ++ [10, 41]) = badL l := by unfold badL; rw [decodeL_line l e, prefix_line l e]
      rw [hb, lets_line n (l.drop (decodeL l).2) (by rw [List.length_drop]; omega)]
      rfl
theorem wlen_line : ∀ l : List Let, wlen (l ++ tailL) = wlen l
  | [] => rfl
  | x :: l => by
    simp only [List.cons_append, wlen]
    rw [wlen_line l]
theorem hexGo_line : ∀ (n : Nat) (x : Int) (l : List Let), hexGo n x (l ++ tailL) = hexGo n x l
  | 0, x, l => by simp [hexGo]
  | n + 1, x, [] => rfl
  | n + 1, x, c :: l => by
    simp only [List.cons_append, hexGo]
    cases hexV c.1 with
    | none => rfl
    | some d => simp only [hexGo_line n _ l]
theorem hexEsc_line (l : List Let) : hexEsc (l ++ tailL) = hexEsc l := by
  cases l with
  | nil => rfl
  | cons c l =>
    simp only [List.cons_append, hexEsc, hexGo_line]
    split
    · rfl
    · have hle := (hexGo_le 6 0 l).2
      rw [List.drop_append_of_le_length hle]
      cases hd : l.drop (hexGo 6 0 l).2 with
      | nil => simp [tailL]
      | cons d r => rfl
theorem escL_line (l : List Let) : escL (l ++ tailL) = escL l := by
  cases l with
  | nil => rfl
  | cons c l =>
    simp only [List.cons_append, escL, hexEsc_line]
theorem textL_line : ∀ (f : Nat) (l : List Let), textL f (l ++ tailL) = textL f l
  | 0, l => rfl
  | 1, [] => rfl
  | 2, [] => rfl
  | f + 3, [] => rfl
  | f + 1, x :: l => by
    simp only [List.cons_append, textL, escL_line]
    split
    · rfl
    split
    · cases he : escL l with
      | none => rfl
      | some p =>
        have := escL_le he
        simp only
        rw [List.drop_append_of_le_length this.2.1, textL_line f]
    · rw [textL_line f]
theorem skipL_line : ∀ (b : Bool) (l : List Let), skipL b (l ++ tailL) = if skipL b l = l.length then l.length + 1 else skipL b l
  | false, [] => rfl
  | true, [] => rfl
  | true, x :: l => by
    simp only [List.cons_append, skipL, List.length_cons]
    split
    · rw [skipL_line false l]; split <;> simp_all
    · rw [skipL_line true l]; split <;> simp_all
  | false, x :: l => by
    simp only [List.cons_append, skipL, List.length_cons]
    split
    · rw [skipL_line false l]; split <;> simp_all
    split
    · rw [skipL_line true l]; split <;> simp_all
    · simp
end Go.Proofs.YtfpcelbpgmoadaaDoor

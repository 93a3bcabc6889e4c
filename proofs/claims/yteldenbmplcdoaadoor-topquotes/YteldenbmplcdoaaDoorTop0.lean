/- What TopQuotes' walk wants of values that are texts. No walk stands in this text. -/
import Derived.Test.YteldenbmplcdoaaDoorPt
import Derived.Test.YteldenbmplcdoaaDoorVChkB
import Derived.Test.YteldenbmplcdoaaDoorVHash
namespace Go.Proofs.YteldenbmplcdoaaDoor
open Go.RowKit Go.Lib
set_option linter.unusedVariables false

/-- A text as a value. -/
def txt (s : ByteArray) : V.Val := ⟨3, false, 0, s⟩
theorem chk_txt (s : ByteArray) : V.chkV (txt s) = if 256 < s.size then 4 else if Lib.validD s.data.toList then 0 else 9 := by
  unfold V.chkV
  rw [if_neg]
  · rfl
  · rintro (h | h)
    · exact absurd h (show ¬ (4 : Int) ≤ 3 by decide)
    · rw [(V.sameV_iff (txt s) (txt s).bare).2 (by simp [txt, V.Val.bare])] at h
      cases h
theorem cmpI_zero {a b : Int} (h : V.cmpI a b = 0) : a = b := by
  unfold V.cmpI at h
  split at h
  · omega
  split at h
  · omega
  · omega
theorem cmpL_zero : ∀ (x y : List Int), V.cmpL x y = 0 → x = y
  | [], [], _ => rfl
  | [], _ :: _, h => by simp [V.cmpL] at h
  | _ :: _, [], h => by simp [V.cmpL] at h
  | a :: x, b :: y, h => by
    unfold V.cmpL at h
    by_cases e : a = b
    · rw [if_pos e] at h
      rw [e, cmpL_zero x y h]
    · rw [if_neg e] at h
      exact absurd (cmpI_zero h) e
theorem cmpL_self : ∀ x : List Int, V.cmpL x x = 0
  | [] => rfl
  | a :: x => by
    unfold V.cmpL
    rw [if_pos rfl]
    exact cmpL_self x
theorem cmp_txt (a b : ByteArray) : V.cmpV (txt a) (txt b) = V.cmpS a b := by simp [V.cmpV, txt]
/-- Right texts are alike just if they are one. -/
theorem cmp_zero (a b : ByteArray) (ha : Lib.validD a.data.toList = true) (hb : Lib.validD b.data.toList = true) : V.cmpV (txt a) (txt b) = 0 ↔ a = b := by
  rw [cmp_txt]
  constructor
  · intro h
    exact V.valid_inj a b ha hb (cmpL_zero _ _ h)
  · rintro rfl
    exact cmpL_self _
theorem right_of (s : ByteArray) (h : V.chkV (txt s) = 0) : Lib.validD s.data.toList = true ∧ s.data.toList.length ≤ 256 := by
  rw [chk_txt] at h
  rw [← Lib.size_eq]
  split at h
  · omega
  split at h
  · rename_i h1 h2
    exact ⟨h2, by omega⟩
  · omega
theorem wrong_of (s : ByteArray) (h : V.chkV (txt s) ≠ 0) : (showP ⟨5, s.data.toList, 0, 0⟩).2 ≠ 0 := by
  intro h0
  obtain ⟨h1, h2⟩ := show_right _ h0
  rw [← Lib.size_eq] at h2
  apply h
  rw [chk_txt, if_neg (by omega), if_pos h1]
end Go.Proofs.YteldenbmplcdoaaDoor

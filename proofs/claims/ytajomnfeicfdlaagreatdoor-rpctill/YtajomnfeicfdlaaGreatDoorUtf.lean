/- Texts that are UTF-8 have their runes alone: two of the same runes are one. No walk stands in this text. -/
import Derived.Test.YtajomnfeicfdlaaGreatDoorChk
import Derived.Lib.MapLaws
import Derived.Lib.ValidU
import Derived.Lib.TrimUEq
namespace Go.Proofs.YtajomnfeicfdlaaGreatDoor
open Go.RowKit Go.Lib
set_option linter.unusedVariables false

/-- The runes of a list of bytes. -/
def rl : Nat → List UInt8 → List Int
 | 0, _ => []
 | n + 1, l => if l = [] then [] else ((decodeL l).1 : Int) :: rl n (l.drop (decodeL l).2)
theorem rl_nil (n : Nat) : rl n [] = [] := by cases n <;> simp [rl]
theorem runesFrom_rl (s : ByteArray) : ∀ (f pos : Nat), runesFrom s f pos = rl f (s.data.toList.drop pos)
 | 0, _ => rfl
 | f + 1, pos => by
  have ih := runesFrom_rl s f
  unfold runesFrom rl
  by_cases h : pos < s.size
  ·have hne : s.data.toList.drop pos ≠ [] := by
    intro e
    have := congrArg List.length e
    rw [List.length_drop, ← Lib.size_eq] at this
    simp at this
    omega
   rw [if_pos h, if_neg hne, Lib.decodeL_drop, ih, List.drop_drop]
  ·have he : s.data.toList.drop pos = [] := List.drop_of_length_le (by rw [← Lib.size_eq]; omega)
   rw [if_neg h, if_pos he]
theorem runesOf_rl (s : ByteArray) : runesOf s = rl s.data.toList.length s.data.toList := by
 unfold runesOf
 rw [runesFrom_rl, List.drop_zero, ← Lib.size_eq]
theorem valid_one : ∀ (n m : Nat) (l k : List UInt8), l.length ≤ n → k.length ≤ m → Lib.validGoD n l = true → Lib.validGoD m k = true → rl n l = rl m k → l = k
 | 0, m, l, k, hl, hk, _, _, h => by
  have : l = [] := List.eq_nil_of_length_eq_zero (by omega)
  subst this
  cases m with
  | zero => exact (List.eq_nil_of_length_eq_zero (by omega)).symm
  | succ m =>
   by_cases e : k = []
   ·exact e.symm
   ·simp [rl, e] at h
 | n + 1, 0, l, k, hl, hk, _, _, h => by
  have : k = [] := List.eq_nil_of_length_eq_zero (by omega)
  subst this
  by_cases e : l = []
  ·exact e
  ·simp [rl, e] at h
 | n + 1, m + 1, l, k, hl, hk, vl, vk, h => by
  by_cases e : l = []
  ·subst e
   by_cases e' : k = []
   ·exact e'.symm
   ·simp [rl, e'] at h
  ·by_cases e' : k = []
   ·subst e'
    simp [rl, e] at h
   ·unfold Lib.validGoD at vl vk
    rw [if_neg e] at vl
    rw [if_neg e'] at vk
    by_cases b1 : (decodeL l).1 = 65533 ∧ (decodeL l).2 = 1
    ·rw [if_pos b1] at vl; cases vl
    by_cases b2 : (decodeL k).1 = 65533 ∧ (decodeL k).2 = 1
    ·rw [if_pos b2] at vk; cases vk
    rw [if_neg b1] at vl
    rw [if_neg b2] at vk
    simp only [rl, if_neg e, if_neg e', List.cons.injEq] at h
    have hc : (decodeL l).1 = (decodeL k).1 := by have := h.1; omega
    have t1 := Lib.encode_decode l e b1
    have t2 := Lib.encode_decode k e' b2
    rw [hc] at t1
    have tt : l.take (decodeL l).2 = k.take (decodeL k).2 := t1.symm.trans t2
    have w1 := Lib.decodeL_le l e
    have w2 := Lib.decodeL_le k e'
    have p1 := Lib.decodeL_width l
    have p2 := Lib.decodeL_width k
    have hw : (decodeL l).2 = (decodeL k).2 := by
     have := congrArg List.length tt
     rw [List.length_take, List.length_take] at this
     omega
    have := valid_one n m (l.drop (decodeL l).2) (k.drop (decodeL k).2) (by rw [List.length_drop]; omega) (by rw [List.length_drop]; omega) vl vk h.2
    rw [← List.take_append_drop (decodeL l).2 l, ← List.take_append_drop (decodeL k).2 k, tt, this]
/-- Two texts that are UTF-8, of the same runes, are one. -/
theorem valid_inj (s t : ByteArray) (vs : Lib.validD s.data.toList = true) (vt : Lib.validD t.data.toList = true) (h : runesOf s = runesOf t) : s = t := by
 rw [runesOf_rl, runesOf_rl] at h
 have := valid_one _ _ _ _ (Nat.le_refl _) (Nat.le_refl _) vs vt h
 exact ByteArray.ext (Array.ext' this)

/-- What Check answers. -/
def chkV (v : Val) : Int := if 4 ≤ v.k ∨ sameV v v.bare = false then 5 else if 256 < v.s.size then 4 else if Lib.validD v.s.data.toList then 0 else 9
end Go.Proofs.YtajomnfeicfdlaaGreatDoor

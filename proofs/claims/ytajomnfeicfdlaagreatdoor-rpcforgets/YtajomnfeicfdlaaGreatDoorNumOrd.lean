/- What the six functions on numbers answer: sums, differences and products, or that they are too great. -/
import Derived.Test.YtajomnfeicfdlaaGreatDoorChecked
import Derived.WalkKit
import Derived.WalkSpells
import Derived.WalkLawsBesides
import Derived.Lib.Walk
import Derived.Lib.RuneCount
import Derived.Laws.RangeString
import Derived.Laws.RangeAny
import Derived.LoopTactic
namespace Go.Proofs.YtajomnfeicfdlaaGreatDoor
open Go.RowKit
set_option linter.unusedVariables false

/-- A number that an int64 holds. -/
def in64 (a : Int) : Bool := decide (-9223372036854775808 ≤ a) && decide (a ≤ 9223372036854775807)
/-- The number, or nought where it is too great; and the error. -/
def cut64 (a : Int) : Int := if in64 a then a else 0
def ovr64 (a : Int) : Int := if in64 a then 0 else 16
theorem in64_iff {a : Int} : in64 a = true ↔ -9223372036854775808 ≤ a ∧ a ≤ 9223372036854775807 := by
 unfold in64; simp
theorem in64_not {a : Int} : in64 a = false ↔ a < -9223372036854775808 ∨ 9223372036854775807 < a := by
 unfold in64; simp; omega
theorem wrap_in64 {a : Int} (h : in64 a = true) : wrap64 a = a := by rw [in64_iff] at h; unfold wrap64; omega
theorem in64_wrap (a : Int) : in64 (wrap64 a) = true := by rw [in64_iff]; unfold wrap64; omega

theorem add_test {a b : Int} (hb : in64 b = true) (ha : in64 a = true) : (decide (0 ≤ b) == decide (a ≤ wrap64 (a + b))) = in64 (a + b) := by
 rw [in64_iff] at hb ha
 cases h : in64 (a + b)
 ·rw [in64_not] at h
  by_cases h0 : 0 ≤ b
  ·have : ¬ a ≤ wrap64 (a + b) := by unfold wrap64; omega
   simp [h0, this]
  ·have : a ≤ wrap64 (a + b) := by unfold wrap64; omega
   simp [h0, this]
 ·rw [wrap_in64 h]
  by_cases h0 : 0 ≤ b
  ·have : a ≤ a + b := by omega
   rw [decide_eq_true h0, decide_eq_true this]; rfl
  ·have : ¬ a ≤ a + b := by omega
   rw [decide_eq_false h0, decide_eq_false this]; rfl
theorem sub_test {a b : Int} (hb : in64 b = true) (ha : in64 a = true) : (decide (0 ≤ b) == decide (wrap64 (a - b) ≤ a)) = in64 (a - b) := by
 rw [in64_iff] at hb ha
 cases h : in64 (a - b)
 ·rw [in64_not] at h
  by_cases h0 : 0 ≤ b
  ·have : ¬ wrap64 (a - b) ≤ a := by unfold wrap64; omega
   simp [h0, this]
  ·have : wrap64 (a - b) ≤ a := by unfold wrap64; omega
   simp [h0, this]
 ·rw [wrap_in64 h]
  by_cases h0 : 0 ≤ b
  ·have : a - b ≤ a := by omega
   simp [h0, this]
  ·have : ¬ a - b ≤ a := by omega
   simp [h0, this]
theorem rsub_test {a b : Int} (hb : in64 b = true) (ha : in64 a = true) : (decide (b ≤ 0) == decide (a ≤ wrap64 (a - b))) = in64 (a - b) := by
 rw [in64_iff] at hb ha
 cases h : in64 (a - b)
 ·rw [in64_not] at h
  by_cases h0 : b ≤ 0
  ·have : ¬ a ≤ wrap64 (a - b) := by unfold wrap64; omega
   simp [h0, this]
  ·have : a ≤ wrap64 (a - b) := by unfold wrap64; omega
   simp [h0, this]
 ·rw [wrap_in64 h]
  by_cases h0 : b ≤ 0
  ·have : a ≤ a - b := by omega
   simp [h0, this]
  ·have : ¬ a ≤ a - b := by omega
   simp [h0, this]
/-- Where the product is divided back: it is the number just if nothing was lost. -/
theorem mul_test {a b : Int} (ha : in64 a = true) (hb : in64 b = true) (h0 : b ≠ 0) (hm : b ≠ -1) : (wrap64 ((wrap64 (a * b)).tdiv b) != a) = !in64 (a * b) := by
 rw [in64_iff] at ha hb
 cases h : in64 (a * b)
 ·rw [in64_not] at h
  simp only [Bool.not_false, bne_iff_ne, ne_eq]
  intro e
  have hb2 : 2 ≤ b ∨ b ≤ -2 := by
   rcases Int.lt_or_le b 2 with h1 | h1
   ·have : b = 1 ∨ b ≤ -2 := by omega
    rcases this with rfl | h2
    ·simp at h; omega
    ·exact .inr h2
   ·exact .inl h1
  have d := Int.mul_tdiv_add_tmod (wrap64 (a * b)) b
  have hr : (wrap64 (a * b)).tmod b < b.natAbs := by
   have := Int.tmod_lt_of_pos (wrap64 (a * b)) (b := (b.natAbs : Int)) (by omega)
   generalize wrap64 (a * b) = p at *
   rcases Int.natAbs_eq b with e1 | e1
   ·rw [← e1] at this ⊢; omega
   ·have e4 := Int.tmod_neg p (b.natAbs : Int)
    rw [← e1] at e4; omega
  have hr2 : -(b.natAbs : Int) < (wrap64 (a * b)).tmod b := by
   have := Int.lt_tmod_of_pos (wrap64 (a * b)) (b := (b.natAbs : Int)) (by omega)
   generalize wrap64 (a * b) = p at *
   rcases Int.natAbs_eq b with e1 | e1
   ·rw [← e1] at this ⊢; omega
   ·have e4 := Int.tmod_neg p (b.natAbs : Int)
    rw [← e1] at e4; omega
  have hw := in64_iff.1 (in64_wrap (a * b))
  have hq : -4611686018427387904 ≤ (wrap64 (a * b)).tdiv b ∧ (wrap64 (a * b)).tdiv b ≤ 4611686018427387904 := by
   have key : (((wrap64 (a * b)).tdiv b).natAbs : Int) ≤ 4611686018427387904 := by
    rw [Int.natAbs_tdiv]
    have h2 : 2 ≤ b.natAbs := by omega
    have h3 : (wrap64 (a * b)).natAbs ≤ 9223372036854775808 := by omega
    have h4 : (wrap64 (a * b)).natAbs / b.natAbs ≤ (wrap64 (a * b)).natAbs / 2 := Nat.div_le_div_left h2 (by omega)
    have h5 : (wrap64 (a * b)).natAbs.div b.natAbs ≤ 4611686018427387904 := Nat.le_trans h4 (by omega)
    omega
   omega
  have e2 : (wrap64 (a * b)).tdiv b = a := by
   rw [wrap_in64 (in64_iff.2 (by omega))] at e
   exact e
  rw [e2] at d
  have e3 : b * a = a * b := Int.mul_comm b a
  rw [e3] at d
  generalize (wrap64 (a * b)).tmod b = r at *
  generalize a * b = m at *
  unfold wrap64 at d
  omega
 ·rw [wrap_in64 h]
  have : (a * b).tdiv b = a := Int.mul_tdiv_cancel a h0
  rw [this, wrap_in64 (in64_iff.2 ha)]
  simp

theorem pick_of {x : Int} (t : Bool) (h : t = in64 x) : (Value.tuple #[.int .i64 (if t then wrap64 x else 0), .int .i64 (if t then 0 else 16)]) = .tuple #[.int .i64 (cut64 x), .int .i64 (ovr64 x)] := by
 subst h
 unfold cut64 ovr64
 cases h : in64 x
 ·rfl
 ·rw [wrap_in64 h]
theorem pick_not {x : Int} (t : Bool) (h : t = !in64 x) : (Value.tuple #[.int .i64 (if t then 0 else wrap64 x), .int .i64 (if t then 16 else 0)]) = .tuple #[.int .i64 (cut64 x), .int .i64 (ovr64 x)] := by
 subst h
 unfold cut64 ovr64
 cases h : in64 x
 ·rfl
 ·rw [wrap_in64 h]; rfl
theorem zero64 : (Value.tuple #[.int .i64 0, .int .i64 0]) = .tuple #[.int .i64 (cut64 0), .int .i64 (ovr64 0)] := rfl
theorem over64 {x : Int} (h : in64 x = false) : (Value.tuple #[.int .i64 0, .int .i64 16]) = .tuple #[.int .i64 (cut64 x), .int .i64 (ovr64 x)] := by
 unfold cut64 ovr64; rw [h]; rfl
theorem fits64 {x : Int} (h : in64 x = true) : (Value.tuple #[.int .i64 (wrap64 x), .int .i64 0]) = .tuple #[.int .i64 (cut64 x), .int .i64 (ovr64 x)] := by
 unfold cut64 ovr64; rw [h, wrap_in64 h]; rfl
end Go.Proofs.YtajomnfeicfdlaaGreatDoor
/- What the small functions answer: orders of numbers and bools, the runes of a text, a value made of a number or a text. -/
namespace Go.Proofs.YtajomnfeicfdlaaGreatDoor
open Go.RowKit
set_option linter.unusedVariables false

/-- -1, 0 or 1. -/
def cmpI (a b : Int) : Int := if a < b then -1 else if b < a then 1 else 0
def cmpB (a b : Bool) : Int := if a == b then 0 else if b then -1 else 1

theorem retI {a b : Int} (h : a = b) : Ending.returned (.int .i64 a) = .returned (.int .i64 b) := by rw [h]

theorem cmpI_lt {a b : Int} (h : a < b) : -1 = cmpI a b := by unfold cmpI; rw [if_pos h]
theorem cmpI_gt {a b : Int} (h : b < a) : 1 = cmpI a b := by unfold cmpI; rw [if_neg (by omega), if_pos h]
theorem cmpI_eq {a b : Int} (h : b ≤ a) (h' : a ≤ b) : 0 = cmpI a b := by unfold cmpI; rw [if_neg (by omega), if_neg (by omega)]
/-- The runes from a place on, as a range over the string hands them over. -/
def runesFrom (s : ByteArray) : Nat → Nat → List Int
 | 0, _ => []
 | fuel + 1, pos => if pos < s.size then (Utf8.decode s pos).1 :: runesFrom s fuel (pos + (Utf8.decode s pos).2) else []
def runesOf (s : ByteArray) : List Int := runesFrom s s.size 0
theorem runesFrom_length (s : ByteArray) : ∀ fuel pos, (runesFrom s fuel pos).length = Lib.runeCountFrom s fuel pos
 | 0, _ => rfl
 | f + 1, pos => by
  unfold runesFrom Lib.runeCountFrom
  split
  ·rw [List.length_cons, runesFrom_length s f]; omega
  ·rfl
theorem runesOf_length (s : ByteArray) : (runesOf s).length = Lib.runeCount s := runesFrom_length s _ _

end Go.Proofs.YtajomnfeicfdlaaGreatDoor

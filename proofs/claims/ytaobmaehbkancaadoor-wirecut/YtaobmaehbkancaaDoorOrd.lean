/- What the small functions answer: orders of numbers and bools, the runes of a text, a value made of a number or a text. -/
import Derived.Test.YtaobmaehbkancaaDoorNum
import Derived.Lib.Walk
import Derived.Lib.RuneCount
import Derived.Laws.RangeString
import Derived.Laws.RangeAny
import Derived.LoopTactic
namespace Go.Proofs.YtaobmaehbkancaaDoor
open Go.RowKit
set_option linter.unusedVariables false

/-- -1, 0 or 1. -/
def cmpI (a b : Int) : Int := if a < b then -1 else if b < a then 1 else 0
def cmpB (a b : Bool) : Int := if a == b then 0 else if b then -1 else 1

theorem retI {a b : Int} (h : a = b) : Ending.returned (.int .i64 a) = .returned (.int .i64 b) := by rw [h]

theorem cmpI_lt {a b : Int} (h : a < b) : -1 = cmpI a b := by unfold cmpI; rw [if_pos h]
theorem cmpI_gt {a b : Int} (h : b < a) : 1 = cmpI a b := by unfold cmpI; rw [if_neg (by omega), if_pos h]
theorem cmpI_eq {a b : Int} (h : b ≤ a) (h' : a ≤ b) : 0 = cmpI a b := by unfold cmpI; rw [if_neg (by omega), if_neg (by omega)]
/-- The runes from a place on, as a range over the string hands them over. -/
def runesFrom (s : ByteArray) : Nat → Nat → List Int
  | 0, _ => []
  | fuel + 1, pos => if pos < s.size then (Utf8.decode s pos).1 :: runesFrom s fuel (pos + (Utf8.decode s pos).2) else []
def runesOf (s : ByteArray) : List Int := runesFrom s s.size 0
theorem runesFrom_length (s : ByteArray) : ∀ fuel pos, (runesFrom s fuel pos).length = Lib.runeCountFrom s fuel pos
  | 0, _ => rfl
  | f + 1, pos => by
    unfold runesFrom Lib.runeCountFrom
    split
    · rw [List.length_cons, runesFrom_length s f]; omega
    · rfl
theorem runesOf_length (s : ByteArray) : (runesOf s).length = Lib.runeCount s := runesFrom_length s _ _

end Go.Proofs.YtaobmaehbkancaaDoor

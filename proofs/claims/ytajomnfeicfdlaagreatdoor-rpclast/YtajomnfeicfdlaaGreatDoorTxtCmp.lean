/- What compareTexts answers: texts rune by rune, the first two that are unlike tell, else the shorter one is below. -/
import Derived.Test.YtajomnfeicfdlaaGreatDoorNumOrd
import Derived.Test.YtajomnfeicfdlaaGreatDoorShelf
import Derived.Lib.RuneCountTail
import Derived.Lib.TrimU
import Derived.Lib.QuoteLoop
import Derived.Lib.OthersKept
import Derived.Deep.LoopGhost
import Derived.Deep.DeepFit
import Derived.WalkSmall
namespace Go.Proofs.YtajomnfeicfdlaaGreatDoor
open Go.RowKit Go.Lib
set_option linter.unusedVariables false

/-! ### The runes from a place on -/
theorem runesFrom_fuel (s : ByteArray) : ∀ (f f' pos : Nat), s.size ≤ pos + f → s.size ≤ pos + f' → runesFrom s f pos = runesFrom s f' pos
 | 0, f', pos, h, _ => by
  have hp : ¬ pos < s.size := by omega
  cases f' with
  | zero => rfl
  | succ f' => unfold runesFrom; rw [if_neg hp]
 | f + 1, 0, pos, _, h' => by
  have hp : ¬ pos < s.size := by omega
  unfold runesFrom; rw [if_neg hp]
 | f + 1, f' + 1, pos, h, h' => by
  have hw := Lib.width_pos s pos
  unfold runesFrom
  rw [runesFrom_fuel s f f' _ (by omega) (by omega)]
def rsAt (s : ByteArray) (pos : Nat) : List Int := runesFrom s (s.size - pos) pos
theorem rsAt_zero (s : ByteArray) : rsAt s 0 = runesOf s := rfl
theorem rsAt_cons (s : ByteArray) (pos : Nat) (h : pos < s.size) : rsAt s pos = ((Utf8.decode s pos).1 : Int) :: rsAt s (pos + (Utf8.decode s pos).2) := by
 have hw := Lib.width_pos s pos
 unfold rsAt
 obtain ⟨f, hf⟩ : ∃ f, s.size - pos = f + 1 := ⟨s.size - pos - 1, by omega⟩
 rw [hf]
 conv => lhs; unfold runesFrom
 rw [if_pos h, runesFrom_fuel s f (s.size - (pos + (Utf8.decode s pos).2)) _ (by omega) (by omega)]
theorem rsAt_nil (s : ByteArray) (pos : Nat) (h : ¬ pos < s.size) : rsAt s pos = [] := by
 unfold rsAt
 rw [show s.size - pos = 0 by omega]; rfl

/-- Texts in order: rune by rune. -/
def cmpL : List Int → List Int → Int
 | [], [] => 0
 | [], _ :: _ => -1
 | _ :: _, [] => 1
 | x :: xs, y :: ys => if x = y then cmpL xs ys else cmpI x y
def cmpS (a b : ByteArray) : Int := cmpL (runesOf a) (runesOf b)

theorem decodeGo_at (s : ByteArray) (pos : Nat) (h : pos < s.size) : Lib.decodeGo (s.extract pos s.size) = Utf8.decode s pos := by
 unfold Lib.decodeGo
 rw [if_neg (by rw [Lib.tail_size]; omega), Lib.tail_decode, Nat.add_zero]
theorem width_at (s : ByteArray) (pos : Nat) (h : pos < s.size) : pos + (Utf8.decode s pos).2 ≤ s.size := by
 have := Lib.width_le (s.extract pos s.size) (by rw [Lib.tail_size]; omega)
 rw [Lib.tail_decode, Lib.tail_size, Nat.add_zero] at this
 omega
theorem extract_twice (s : ByteArray) (p k : Nat) (h : p + k ≤ s.size) : (s.extract p s.size).extract k (s.extract p s.size).size = s.extract (p + k) s.size := by
 rw [Lib.tail_size]
 apply ByteArray.ext
 rw [ByteArray.data_extract, ByteArray.data_extract, ByteArray.data_extract, Array.extract_extract, Nat.min_eq_left (by omega)]
 congr 1
 omega
theorem tail_toList_empty (s : ByteArray) (p : Nat) : (s.extract p s.size).toList.isEmpty = decide (¬ p < s.size) := by
 have hs := Lib.tail_size s p
 rw [Lib.toList_data]
 rw [Lib.size_eq] at hs
 cases h : (s.extract p s.size).data.toList with
 | nil => rw [h] at hs; simp at hs; simp; omega
 | cons x l => rw [h] at hs; simp at hs; simp; omega

end Go.Proofs.YtajomnfeicfdlaaGreatDoor
/- What Compare answers: the order of any two values. -/
namespace Go.Proofs.YtajomnfeicfdlaaGreatDoor
open Go.RowKit Go.Lib
set_option linter.unusedVariables false

/-- A value's four fields. -/
structure Val where
 k : Int
 b : Bool
 n : Int
 s : ByteArray
def Val.agg (v : Val) : Value := .agg #[.int .u8 v.k, .bool v.b, .int .i64 v.n, .string v.s]
/-- The order of values. -/
def cmpV (x y : Val) : Int :=
 if x.k = y.k then (if x.k = 1 then cmpB x.b y.b else if x.k = 2 then cmpI x.n y.n else if x.k = 3 then cmpS x.s y.s else 0) else cmpI x.k y.k

theorem below_two {w : World} (o1 o2 : Obj) : Below w.heap.size w ((w.alloc o1).alloc o2) :=
 ((Below.refl _ _).alloc (Nat.le_refl _) _).alloc (by simp) _

end Go.Proofs.YtajomnfeicfdlaaGreatDoor

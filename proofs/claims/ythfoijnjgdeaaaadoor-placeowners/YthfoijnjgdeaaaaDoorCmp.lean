/- What Compare answers: the order of any two values. -/
import Derived.Test.YthfoijnjgdeaaaaDoorTxt
namespace Go.Proofs.YthfoijnjgdeaaaaDoor
open Go.RowKit Go.Lib
set_option linter.unusedVariables false

/-- A value's four fields. -/
structure Val where
  k : Int
  b : Bool
  n : Int
  s : ByteArray
def Val.agg (v : Val) : Value := .agg #[.int .u8 v.k, .bool v.b, .int .i64 v.n, .string v.s]
/-- The order of values. -/
def cmpV (x y : Val) : Int :=
  if x.k = y.k then (if x.k = 1 then cmpB x.b y.b else if x.k = 2 then cmpI x.n y.n else if x.k = 3 then cmpS x.s y.s else 0) else cmpI x.k y.k

theorem below_two {w : World} (o1 o2 : Obj) : Below w.heap.size w ((w.alloc o1).alloc o2) :=
  ((Below.refl _ _).alloc (Nat.le_refl _) _).alloc (by simp) _

end Go.Proofs.YthfoijnjgdeaaaaDoor

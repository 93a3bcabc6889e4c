/- What Compare answers: the order of any two values. -/
import Derived.Test.YtmagfjlpjjmknaaDoorTxt
namespace Go.Proofs.YtmagfjlpjjmknaaDoor
open Go.RowKit Go.Lib
set_option linter.unusedVariables false

/-- A value's four fields. -/
structure Val where
  k : Int
  b : Bool
  n : Int
  s : ByteArray
def Val.agg (v : Val) : Value := .agg #[.int .u8 v.k, .bool v.b, .int .i64 v.n, .string v.s]
/-- The order of values. -/
def cmpV (x y : Val) : Int :=
  if x.k = y.k then (if x.k = 1 then cmpB x.b y.b else if x.k = 2 then cmpI x.n y.n else if x.k = 3 then cmpS x.s y.s else 0) else cmpI x.k y.k

theorem below_two {w : World} (o1 o2 : Obj) : Below w.heap.size w ((w.alloc o1).alloc o2) :=
  ((Below.refl _ _).alloc (Nat.le_refl _) _).alloc (by simp) _

set_option maxHeartbeats 1000000 in
theorem compare_core (k k' : Int) (b b' : Bool) (n n' : Int) (s s' : ByteArray) (w : World) (hT : Lib.Utf8Tabs 0 1 w) :
    Calls Tryd.prog 12 #[.agg #[.int .u8 k, .bool b, .int .i64 n, .string s], .agg #[.int .u8 k', .bool b', .int .i64 n', .string s']] w
      fun e w' => e = .returned (.int .i64 (cmpV ⟨k, b, n, s⟩ ⟨k', b', n', s'⟩)) ∧ Below w.heap.size w w' := by
  by_cases hk : k = k'
  · subst hk
    have ht : (k != k) = false := by simp
    by_cases h1 : k = 1
    · subst h1
      have hv : cmpV ⟨1, b, n, s⟩ ⟨1, b', n', s'⟩ = cmpB b b' := by simp [cmpV]
      rw [hv]
      clear hv
      go_enter Tryd.func12, Tryd.ntmps12
      go_wp2_with (go_at_call 23; refine (cmpBool_any _ _ _).mono ?_; rintro e w' ⟨rfl, rfl⟩)
      go_ret
      exact ⟨rfl, below_two _ _⟩
    have h1' : (k == 1) = false := beq_eq_false_iff_ne.2 h1
    by_cases h2 : k = 2
    · subst h2
      have hv : cmpV ⟨2, b, n, s⟩ ⟨2, b', n', s'⟩ = cmpI n n' := by simp [cmpV]
      rw [hv]
      clear hv
      go_enter Tryd.func12, Tryd.ntmps12
      go_wp2_with (go_at_call 24; refine (cmpInt64_any _ _ _).mono ?_; rintro e w' ⟨rfl, rfl⟩)
      go_ret
      exact ⟨rfl, below_two _ _⟩
    have h2' : (k == 2) = false := beq_eq_false_iff_ne.2 h2
    by_cases h3 : k = 3
    · subst h3
      have hv : cmpV ⟨3, b, n, s⟩ ⟨3, b', n', s'⟩ = cmpS s s' := by simp [cmpV]
      rw [hv]
      clear hv
      have hT2 : ∀ o1 o2, Lib.Utf8Tabs 0 1 ((w.alloc o1).alloc o2) := fun o1 o2 => Utf8Tabs_below hT (below_two o1 o2)
      clear hT
      go_enter Tryd.func12, Tryd.ntmps12
      go_wp2_with (go_at_call 25; refine (compareTexts_any _ _ _ (hT2 _ _)).mono ?_; rintro e w' ⟨rfl, hb⟩)
      go_ret
      exact ⟨rfl, (below_two _ _).trans (hb.mono (by simp; omega))⟩
    · have h3' : (k == 3) = false := beq_eq_false_iff_ne.2 h3
      have hv : cmpV ⟨k, b, n, s⟩ ⟨k, b', n', s'⟩ = 0 := by simp [cmpV, h1, h2, h3]
      rw [hv]
      clear hv h1 h2 h3 hT
      go_enter Tryd.func12, Tryd.ntmps12
      go_wp2
      go_ret
      exact ⟨rfl, below_two _ _⟩
  · have ht : (k != k') = true := bne_iff_ne.2 hk
    have hv : cmpV ⟨k, b, n, s⟩ ⟨k', b', n', s'⟩ = cmpI k k' := by simp [cmpV, hk]
    rw [hv]
    clear hv hk hT
    go_enter Tryd.func12, Tryd.ntmps12
    go_wp2_with (go_at_call 22; refine (cmpKind_any _ _ _).mono ?_; rintro e w' ⟨rfl, rfl⟩)
    go_ret
    exact ⟨rfl, below_two _ _⟩
theorem compare_any (x y : Val) (w : World) (hT : Lib.Utf8Tabs 0 1 w) :
    Calls Tryd.prog 12 #[x.agg, y.agg] w fun e w' => e = .returned (.int .i64 (cmpV x y)) ∧ Below w.heap.size w w' :=
  compare_core _ _ _ _ _ _ _ _ _ hT
end Go.Proofs.YtmagfjlpjjmknaaDoor

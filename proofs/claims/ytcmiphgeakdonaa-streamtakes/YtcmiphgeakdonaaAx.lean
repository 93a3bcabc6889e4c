/- What lives answers. -/
import Derived.Test.YtcmiphgeakdonaaAw
namespace Go.Proofs.Ytcmiphgeakdonaa
open Go.Shelf Go.RowKit Go.Lib Go.Sort
set_option linter.unusedVariables false
set_option linter.unusedSimpArgs false
attribute [local go_sem ↓] Go.wp_at_zero Go.wp_at_succ
/-- A message of a list. -/
theorem msg_at {K : Nat → Prop} {W : World} {q : Option Addr} {n c : Nat} {ms : List Mg} (h : ListIs rMg 47 640 K W (.slice q n c) ms) (j : Nat) (hj : j < ms.length) : ∃ b o cl, q = some ⟨b, o, none⟩ ∧ K b ∧ W.rangeAt b (o + j * 47) cl ∧ cl.length = 47 ∧ rMg K W cl ms[j] := by
  obtain ⟨q', c', e, _, hp⟩ := h
  obtain ⟨b, o, rfl, hKb, hc⟩ := hp (by omega)
  cases e
  obtain ⟨cs, h1, h2, h3⟩ := hc j hj
  exact ⟨b, o, cs, rfl, hKb, h2, h1, h3⟩
def sL : Strm := ⟨0, 0, 0, 1, 0⟩
def r8 : List (List Val) := [[], [], [], [], [], [], [], []]
def r9 : List (List Val) := [[], [], [], [], [], [], [], [], []]
def oL : Ot := ⟨sL, [r8, [[]]], 0⟩
def mL0 : Mg := ⟨sL, 0, false, r8⟩
def mL1 : Mg := ⟨sL, 1, true, [[]]⟩
def iL0 : In_ := ⟨sL, 0, [], [], false⟩
def iL1 : In_ := ⟨sL, 0, [⟨1, true, [[]]⟩], [], false⟩
def iL2 : In_ := ⟨sL, 2, [], r9, true⟩
theorem cutL : chunkP r9 = [r8, [[]]] := by
  rw [chunkP_more (by decide), chunkP_last (by decide)]; rfl
theorem outL : outE oL = 0 := by decide
theorem sendL : sendP oL = [mL0, mL1] := by rfl
theorem inL0 : inE iL0 = 0 := by decide
theorem refL0 : refE iL0 mL1 = 0 := by decide
theorem takL0 : takeP iL0 mL1 = iL1 := by rfl
theorem inL1 : inE iL1 = 0 := by decide
theorem refL1 : refE iL1 mL0 = 0 := by decide
theorem takL1 : takeP iL1 mL0 = iL2 := by rfl
theorem inL2 : inE iL2 = 0 := by decide
theorem refL2 : refE iL2 mL0 = 15 := by decide
end Go.Proofs.Ytcmiphgeakdonaa

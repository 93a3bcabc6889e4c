/- A number as an argument. -/
import Derived.Test.YtcmiphgeakdonaaOa
namespace Go.Proofs.Ytcmiphgeakdonaa
open Go.ChangeShapes Go.WideShapes Go.ChangeAt Go.RowKit Go.Joins Go.Deep
set_option linter.unusedVariables false
set_option maxRecDepth 100000 in
theorem open_u64 {H : Type} {enc : TypeId × Value → H} {W : World} {base : Nat} {v : Value} {d : DataW H} {ps : List MemPlace} (hv : Value.okWide Try.prog W .any base 22 v) (h : DataW.Trod enc Try.prog W 0 (fun _ => true) true 22 v d ps) : ∃ n : Nat, v = .int .u64 (n : Int) ∧ n < 18446744073709551616 := by
  obtain ⟨k, rfl⟩ := okWide_int Try.underlying22 hv
  obtain ⟨fu, hfu⟩ := h
  obtain ⟨n, e, w⟩ := int_at Try.underlying22 hfu
  obtain ⟨m, rfl, q⟩ := u64_of w
  simp only [Value.cells, List.cons.injEq, and_true] at e
  exact ⟨m, e, q⟩
end Go.Proofs.Ytcmiphgeakdonaa

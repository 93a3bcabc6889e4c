/- Lists of numbers and of flags as arguments. -/
import Derived.Test.YtnajchehdgagmaaBg
import Derived.Test.YtnajchehdgagmaaOa
namespace Go.Proofs.Ytnajchehdgagmaa
open Go.ChangeShapes Go.WideShapes Go.ChangeAt Go.RowKit Go.Joins Go.Deep
set_option linter.unusedVariables false
theorem reads_i64 : ReadsAs rI64 3 1 := fun H enc W fuel cs x h hl hn => by
  obtain ⟨n, e, w⟩ := int_at Try.underlying3 h
  exact ⟨n, e, i64_of w⟩
theorem reads_bl : ReadsAs rBl 4 1 := fun H enc W fuel cs x h hl hn => by
  obtain ⟨b, e⟩ := bool_at Try.underlying4 h
  exact ⟨b, e⟩
set_option maxRecDepth 100000 in
theorem open_ints {H : Type} {enc : TypeId × Value → H} {W : World} {base : Nat} {v : Value} {d : DataW H} {ps : List MemPlace} (hv : Value.okWide Try.prog W .any base 28 v) (h : DataW.Trod enc Try.prog W 0 (fun _ => true) true 28 v d ps) (hl : Lim 28 d) : ∃ xs : List Int, ListIs rI64 1 8 (fun b => b < W.heap.size) W v xs := by
  obtain ⟨a, len, cap, rfl⟩ := okWide_slice Try.underlying28 hv
  obtain ⟨fu, hfu⟩ := h
  exact reads_list (x := (d, ps)) Try.underlying28 (by kernel_rfl) (by kernel_rfl) (by omega) reads_i64 hfu hl
set_option maxRecDepth 100000 in
theorem open_bools {H : Type} {enc : TypeId × Value → H} {W : World} {base : Nat} {v : Value} {d : DataW H} {ps : List MemPlace} (hv : Value.okWide Try.prog W .any base 29 v) (h : DataW.Trod enc Try.prog W 0 (fun _ => true) true 29 v d ps) (hl : Lim 29 d) : ∃ xs : List Bool, ListIs rBl 1 1 (fun b => b < W.heap.size) W v xs := by
  obtain ⟨a, len, cap, rfl⟩ := okWide_slice Try.underlying29 hv
  obtain ⟨fu, hfu⟩ := h
  exact reads_list (x := (d, ps)) Try.underlying29 (by kernel_rfl) (by kernel_rfl) (by omega) reads_bl hfu hl
end Go.Proofs.Ytnajchehdgagmaa

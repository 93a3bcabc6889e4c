/- Boxes of packets. -/
import Derived.Test.YtnfgfbmkeiimlaaNm
namespace Go.Proofs.Ytnfgfbmkeiimlaa
open Go.Shelf Go.RowKit Go.Lib Go.Sort
/-- A packet's own box. -/
def BoxK (g : Nat) (k : PK) (W : World) : Prop := W.heap[g]? = some (.cells #[.int .i64 k.f, .int .i64 k.t, .string k.x] 30 (0, 0))
theorem BoxK.below {g : Nat} {k : PK} {W W' : World} (h : BoxK g k W) (hb : Below W.heap.size W W') : BoxK g k W' := by
  unfold BoxK at h ⊢
  rw [hb.block _ (Array.getElem?_eq_some_iff.1 h).1]; exact h
theorem BoxK.cells {g : Nat} {k : PK} {W : World} (h : BoxK g k W) : W.cell? ⟨g, 0, none⟩ = some (.int .i64 k.f) ∧ W.cell? ⟨g, 1, none⟩ = some (.int .i64 k.t) ∧ W.cell? ⟨g, 2, none⟩ = some (.string k.x) := ⟨cell_of_row h rfl, cell_of_row h rfl, cell_of_row h rfl⟩
theorem box_two {W V : World} {p : Option Addr} {c : Nat} {ps : List PK} {k : PK} (h : PsL W (.slice p ps.length c) ps) (e : (W.alloc (.cells #[.slice p ps.length c] 24)).alloc (.cells #[.int .i64 k.f, .int .i64 k.t, .string k.x] 30) = V) : BoxI W.heap.size p c ps V ∧ BoxK (W.heap.size + 1) k V ∧ Below W.heap.size W V := by
  subst e
  refine ⟨⟨?_, h.below (two_below _ _ _)⟩, ?_, two_below _ _ _⟩
  · rw [heap_alloc_old _ _ (by simp)]; exact heap_alloc_new W _
  · have := heap_alloc_new (W.alloc (.cells #[.slice p ps.length c] 24)) (.cells #[.int .i64 k.f, .int .i64 k.t, .string k.x] 30)
    simpa [BoxK] using this
end Go.Proofs.Ytnfgfbmkeiimlaa

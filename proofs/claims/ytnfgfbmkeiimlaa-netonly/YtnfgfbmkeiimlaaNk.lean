/- Parts of slices, as they are run. -/
import Derived.Test.YtnfgfbmkeiimlaaNi
namespace Go.Proofs.Ytnfgfbmkeiimlaa
open Go.Shelf Go.RowKit Go.Lib Go.Sort
set_option linter.unusedVariables false
set_option linter.unusedSimpArgs false
attribute [local go_sem ↓] Go.wp_at_zero Go.wp_at_succ
theorem add_off (b o k : Nat) : (⟨b, o, none⟩ : Addr).add k = ⟨b, o + k, none⟩ := by unfold Addr.add; split <;> simp_all
theorem slice_to (W : World) (b o n c k : Nat) (hk : k ≤ c) (hc : c ≤ 9223372036854775807) : (Instr.slice 22 (.slice (some ⟨b, o, none⟩) n c) none (some (.int .i64 (k : Int))) none).run Try.prog W = .ok (.slice (some ⟨b, o, none⟩) k c) W := by
  obtain ⟨i0, hi0, hz0, hz1, hz2⟩ := info30
  have h2 : (k : Int) ≤ (c : Int) := by omega
  simp [Instr.slice, Instr.sliceBounds, Instr.sliceBound, run_underlying Try.underlying22, Go.sizeOf, typeInfo, hi0, hz1, asIntOf, h2, hk, add_off]
theorem slice_from (W : World) (b o n c k : Nat) (hk : k ≤ n) (hc : n ≤ c) : (Instr.slice 22 (.slice (some ⟨b, o, none⟩) n c) (some (.int .i64 ((k : Int)))) none none).run Try.prog W = .ok (.slice (if c = k then some ⟨b, o, none⟩ else some ⟨b, o + k * 3, none⟩) (n - k) (c - k)) W := by
  obtain ⟨i0, hi0, hz0, hz1, hz2⟩ := info30
  have h2 : (k : Int) ≤ (n : Int) := by omega
  simp [Instr.slice, Instr.sliceBounds, Instr.sliceBound, run_underlying Try.underlying22, Go.sizeOf, typeInfo, hi0, hz1, asIntOf, h2, hk, add_off]
theorem slice_mid (W : World) (b o n c k : Nat) (hk : k < n) (hc : n ≤ c) : (Instr.slice 22 (.slice (some ⟨b, o, none⟩) n c) (some (.int .i64 (k : Int))) (some (.int .i64 ((k : Int) + 1))) none).run Try.prog W = .ok (.slice (some ⟨b, o + k * 3, none⟩) 1 (c - k)) W := by
  obtain ⟨i0, hi0, hz0, hz1, hz2⟩ := info30
  have h2 : (k : Int) + 1 ≤ (c : Int) := by omega
  have h3 : ¬ c = k := by omega
  have h4 : ((k : Int) + 1).toNat = k + 1 := by omega
  have h5 : (0 : Int) ≤ (k : Int) + 1 := by omega
  have h6 : (k : Int) ≤ ((k + 1 : Nat) : Int) := by omega
  have h7 : (k : Int) ≤ (k : Int) + 1 := by omega
  simp [Instr.slice, Instr.sliceBounds, Instr.sliceBound, run_underlying Try.underlying22, Go.sizeOf, typeInfo, hi0, hz1, asIntOf, h2, h3, h4, h5, h6, h7, add_off]
end Go.Proofs.Ytnfgfbmkeiimlaa

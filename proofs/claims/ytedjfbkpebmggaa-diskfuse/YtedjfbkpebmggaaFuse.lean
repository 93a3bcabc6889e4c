/-
  The law DiskFuse answers true for every fuse and number, and each reads behind the call as it read before: a disk does as many changes as its fuse says, and then none, till it crashed.
  Condition: none.
-/
import Derived.Test.YtedjfbkpebmggaaFuseWalk
import Derived.Test.YtedjfbkpebmggaaOa
import Derived.Test.YtedjfbkpebmggaaRows
import Derived.Stop.Joined
import Derived.Deep.DeepHandedRow
import Derived.Carry
import Derived.LaidMore
import Derived.MakeChecks
import Derived.Lay
namespace Go.Proofs.Ytedjfbkpebmggaa
open Go.ChangeShapes Go.WideShapes Go.ChangeAt Go.RowKit
open Go.ChangeMaps (open_string shut_string)
set_option linter.unusedSimpArgs false
set_option linter.unusedVariables false
theorem fuse_own : ownKnob Try.prog.godebug = none := by kernel_rfl
theorem fuse_laidOut : laidOutB Try.prog = true := by kernel_rfl
theorem fuse_met (os : Os) : laidMetH Try.prog Rows.diskFuseRow.laid ((World.laidAll Try.prog os Rows.diskFuseRow.laid).forCall (fun _ _ => 0) ⟨#[], #[.int .u8 0, .int .i64 0], []⟩).memory := by
  rw [MakeChecks.laidMetH_plain _ _ _ (by kernel_rfl)]
  exact laidMet_laidAll _ (by kernel_rfl) (by kernel_rfl)
theorem fuse_reads (os : Os) {H : Type} (enc : TypeId × Value → H) : ∃ places, DataW.whole enc Try.prog ((World.laidAll Try.prog os Rows.diskFuseRow.laid).forCall (fun _ _ => 0) ⟨#[], #[.int .u8 0, .int .i64 0], []⟩).memory Try.f8.params.toList Rows.diskFuseSpec.vars false (#[.int .u8 0, .int .i64 0] : Array Value).toList 8
    = some ([.lit (.int .u8 0), .lit (.int .i64 0)], [], places) :=
  ⟨[], by kernel_rfl⟩
set_option maxRecDepth 100000 in
theorem fuse_lifted (os : Os) (started : os.Started) (H : Type) (enc : TypeId × Value → H) (F : Stop.Interp) :
    ReturnsInHanded {} Try.checked os 8 .any ((OpenSpec.ofChange Rows.diskFuseSpec).preRow enc Try.prog Try.f8 Rows.diskFuseRow.domain false Rows.diskFuseRow.laid) (((OpenSpec.ofChange Rows.diskFuseSpec).at F).post enc Try.prog Try.f8 false true false false) := by
  obtain ⟨places, hx⟩ := fuse_reads os enc
  refine returnsInHanded_of_row (C := Try.checked) (s := OpenSpec.ofChange Rows.diskFuseSpec) fuse_own started (by kernel_rfl) Try.func8
    (witness_row_at (enc := enc) (C := Try.checked) false (World.laidAll Try.prog os Rows.diskFuseRow.laid) #[.int .u8 0, .int .i64 0] (World.laidAll_os _ _ _) (by kernel_rfl) (by kernel_rfl) (by kernel_rfl)
      (OpenSpec.preRow_of_cond 8 hx (by kernel_rfl) (fun k hk => by cases hk) (by kernel_rfl) (fuse_met os))) ?_
  intro W base args ds gs before hval0 hW _ _ hsz0 hL _ _
  have hval : ∀ (j : Nat) t v, Try.f8.params[j]? = some t → args[j]? = some v → Value.okWide Try.prog W .any base t v := hval0
  have hW' := hW
  obtain ⟨p, q, hA0, hV, rfl, _, _⟩ := hW
  have hA : DataW.TrodAll enc Try.prog W 0 (fun _ => true) true Try.f8.params.toList args.toList ds p := hA0
  have hsz := hsz0
  rw [Try.params8] at hA hval hsz
  obtain ⟨v0, v1, d0, d1, p0, p1, rfl, rfl, rfl, h0, h1⟩ := trodAll_two hA
  obtain ⟨rfl, rfl⟩ := trodVars_none hV
  simp only [List.append_nil] at hW'
  have hlt0 : ∀ x ∈ p0, x.block < W.heap.size := fun x hx => by simpa using hW'.lt x (by simp [hx])
  have hlt1 : ∀ x ∈ p1, x.block < W.heap.size := fun x hx => by simpa using hW'.lt x (by simp [hx])
  obtain ⟨k0, rfl⟩ := okWide_int Try.underlying5 (hval 0 5 v0 rfl rfl)
  obtain ⟨k1, rfl⟩ := okWide_int Try.underlying3 (hval 1 3 v1 rfl rfl)
  obtain ⟨F0, hF0, rfl⟩ : ∃ F0 : Nat, F0 ≤ 255 ∧ k0 = (F0 : Int) := by
    obtain ⟨fuel, hf⟩ := h0
    obtain ⟨c, e2, _, wc⟩ := DataW.trod_int Try.underlying5 (by simpa [Value.cells] using hf)
    simp only [List.cons.injEq, and_true, Value.int.injEq, true_and] at e2
    subst e2
    have hb : (0 : Int) ≤ k0 ∧ k0 ≤ 255 := by simpa [Lit.wf, IntKind.min, IntKind.max, IntKind.bits, IntKind.signed] using wc
    exact ⟨k0.toNat, by omega, by omega⟩
  clear hA0 hval0 hsz0
  refine (fuse_core F0 k1 W hF0).mono ?_
  rintro e W' ⟨rfl, bel⟩
  refine ⟨_, rfl, _, _, _, [], p0 ++ p1, [], hW', ?_, ?_, ?_, bel.frame _, fun h => by cases h⟩
  · exact trodAll_mk1 (shut_bool Try.underlying4 _)
  · exact trodAll_mk2 (Below.trod fuse_laidOut (by kernel_rfl) (of_decide_eq_true (by kernel_rfl)) h0 bel hlt0) (Below.trod fuse_laidOut (by kernel_rfl) (of_decide_eq_true (by kernel_rfl)) h1 bel hlt1)
  · rfl
theorem fuse_holds : Rows.DiskFuseSaid :=
  OpenClaim.holds_of_cond 8 Try.f8 rfl rfl rfl rfl rfl rfl rfl ⟨rfl, rfl, rfl, rfl, rfl⟩ rfl rfl rfl rfl rfl (by kernel_rfl) Try.func8 (by kernel_rfl)
    (of_decide_eq_true (by kernel_rfl)) (by unfold Func.isWrapper; first | (rw [if_pos (by decide +kernel)]; kernel_rfl) | (rw [if_neg (by decide +kernel)]; exact ⟨rfl, rfl⟩))
    (fun os started H enc _ F => by rw [OpenClaim.pre_eq_preRow]; exact fuse_lifted os started H enc F)
#print axioms fuse_holds
end Go.Proofs.Ytedjfbkpebmggaa

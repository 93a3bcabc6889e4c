/-
  The law ValueHeld answers true for every two values that are together of bulk at most 1048576, and each reads behind the call as it read before: Check, Compare, Hash and Runes answer what the document's own definitions answer.
  Condition: the bulk of the two values is at most 1048576; the two tables of unicode/utf8 hold what the program's text lays (the card ties that).
-/
import Derived.Test.YtbhpocjgbccpnaaDoorHeldWalk
import Derived.Test.YtbhpocjgbccpnaaDoorVal
import Derived.Test.YtbhpocjgbccpnaaDoorTabs
import Derived.Test.YtbhpocjgbccpnaaDoorCards
import Derived.SevenTiedAt
import Derived.Stop.Joined
import Derived.Deep.DeepHandedRow
namespace Go.Proofs.YtbhpocjgbccpnaaDoor
open Go.ChangeShapes Go.WideShapes Go.ChangeAt Go.RowKit

/-- What the bound gives: the texts' lengths. -/
theorem held_short {H : Type} {xk yk : Int} {xb yb : Bool} {xn yn : Int} {xs ys : ByteArray}
    (hk : Rows.uptoSmall H [.agg [.lit (.int .u8 xk), .lit (.bool xb), .lit (.int .i64 xn), .lit (.string xs.data.toList)], .agg [.lit (.int .u8 yk), .lit (.bool yb), .lit (.int .i64 yn), .lit (.string ys.data.toList)]] = true) : xs.size ≤ 1048576 ∧ ys.size ≤ 1048576 := by
  have h : Rows.uptoBulkAll [DataW.agg (H := H) [.lit (.int .u8 xk), .lit (.bool xb), .lit (.int .i64 xn), .lit (.string xs.data.toList)], .agg [.lit (.int .u8 yk), .lit (.bool yb), .lit (.int .i64 yn), .lit (.string ys.data.toList)]] ≤ 1048576 := of_decide_eq_true hk
  simp only [Rows.uptoBulkAll, Rows.uptoBulk] at h
  have e : xs.data.toList.length = xs.size := by rw [Array.length_toList]; rfl
  have e' : ys.data.toList.length = ys.size := by rw [Array.length_toList]; rfl
  omega

theorem held_met (os : Os) : laidMetH Tryd.prog Rows.valueHeldUptoRow.laid ((World.laidAll Tryd.prog os Rows.valueHeldUptoRow.laid).forCall (fun _ _ => 0) ⟨#[], #[.agg #[.int .u8 0, .bool false, .int .i64 0, .string ⟨#[]⟩], .agg #[.int .u8 0, .bool false, .int .i64 0, .string ⟨#[]⟩]], []⟩).memory := by
  rw [MakeChecks.laidMetH_plain _ _ _ (by kernel_rfl)]
  exact laidMet_laidAll _ (by kernel_rfl) (by kernel_rfl)
theorem held_reads (os : Os) {H : Type} (enc : TypeId × Value → H) : ∃ places, DataW.whole enc Tryd.prog ((World.laidAll Tryd.prog os Rows.valueHeldUptoRow.laid).forCall (fun _ _ => 0) ⟨#[], #[.agg #[.int .u8 0, .bool false, .int .i64 0, .string ⟨#[]⟩], .agg #[.int .u8 0, .bool false, .int .i64 0, .string ⟨#[]⟩]], []⟩).memory Tryd.f3.params.toList Rows.valueHeldSpec.vars false #[Value.agg #[.int .u8 0, .bool false, .int .i64 0, .string ⟨#[]⟩], .agg #[.int .u8 0, .bool false, .int .i64 0, .string ⟨#[]⟩]].toList 8
    = some ([.agg [.lit (.int .u8 0), .lit (.bool false), .lit (.int .i64 0), .lit (.string [])], .agg [.lit (.int .u8 0), .lit (.bool false), .lit (.int .i64 0), .lit (.string [])]], [], places) :=
  ⟨[], by kernel_rfl⟩

set_option maxRecDepth 100000 in
theorem held_lifted (os : Os) (started : os.Started) (H : Type) (enc : TypeId × Value → H) (F : Stop.Interp) :
    ReturnsInHanded {} Tryd.checked os 3 .any ((Rows.OpenSpec.upto Rows.valueHeldSpec).preRow enc Tryd.prog Tryd.f3 Rows.valueHeldUptoRow.domain false Rows.valueHeldUptoRow.laid) (((Rows.OpenSpec.upto Rows.valueHeldSpec).at F).post enc Tryd.prog Tryd.f3 false true false false) := by
  obtain ⟨places, hx⟩ := held_reads os enc
  refine returnsInHanded_of_row (C := Tryd.checked) (s := Rows.OpenSpec.upto Rows.valueHeldSpec) own started (by kernel_rfl) Tryd.func3
    (witness_row_at (enc := enc) (C := Tryd.checked) false (World.laidAll Tryd.prog os Rows.valueHeldUptoRow.laid) #[.agg #[.int .u8 0, .bool false, .int .i64 0, .string ⟨#[]⟩], .agg #[.int .u8 0, .bool false, .int .i64 0, .string ⟨#[]⟩]] (World.laidAll_os _ _ _) (by kernel_rfl) (by kernel_rfl) (by kernel_rfl)
      (OpenSpec.preRow_of_cond 8 hx (by kernel_rfl) (fun k hk => by cases hk; kernel_rfl) (by kernel_rfl) (held_met os))) ?_
  intro W base args ds gs before hval0 hW _ hcond _ hL _ _
  have hval : ∀ (j : Nat) t v, Tryd.f3.params[j]? = some t → args[j]? = some v → Value.okWide Tryd.prog W .any base t v := hval0
  have hW' := hW
  obtain ⟨p, q, hA0, hV, rfl, _, _⟩ := hW
  have hA : DataW.TrodAll enc Tryd.prog W 0 (fun _ => true) true Tryd.f3.params.toList args.toList ds p := hA0
  rw [Tryd.params3] at hA hval
  obtain ⟨v0, v1, d0, d1, p0, p1, rfl, rfl, rfl, h0, h1⟩ := trodAll_two hA
  obtain ⟨rfl, rfl⟩ := trodVars_none hV
  obtain ⟨xk, xb, xn, xs, rfl, rfl, rfl, wxk, wxn, wxs⟩ := open_val (hval 0 24 v0 rfl rfl) h0
  obtain ⟨yk, yb, yn, ys, rfl, rfl, rfl, wyk, wyn, wys⟩ := open_val (hval 1 24 v1 rfl rfl) h1
  clear hA0 hval0
  simp only [List.append_nil] at hW'
  have hk := hcond _ rfl
  simp only [List.append_nil] at hk
  obtain ⟨sx, sy⟩ := held_short hk
  have bx := bounds_u8 wxk
  refine (held_core xk yk xb yb xn yn xs ys W (tabs_of hL) (by omega) sx sy).mono ?_
  rintro e W' ⟨rfl, bel⟩
  refine ⟨_, rfl, _, _, _, [], [], [], hW', ?_, ?_, ?_, bel.frame _, fun h => by cases h⟩
  · exact trodAll_mk1 (shut_bool Tryd.underlying4 _)
  · exact trodAll_mk2 (shut_val wxk wxn wxs) (shut_val wyk wyn wys)
  · rfl

theorem held_holds : Rows.ValueHeldUptoSaid :=
  OpenClaim.holds_of_cond 3 Tryd.f3 rfl rfl rfl rfl rfl rfl rfl ⟨rfl, rfl, rfl, rfl, rfl⟩ rfl rfl rfl rfl rfl (by kernel_rfl) Tryd.func3 (by kernel_rfl)
    (of_decide_eq_true (by kernel_rfl)) (by unfold Func.isWrapper; first | (rw [if_pos (by decide +kernel)]; kernel_rfl) | (rw [if_neg (by decide +kernel)]; exact ⟨rfl, rfl⟩))
    (fun os started H enc _ F => by rw [OpenClaim.pre_eq_preRow]; exact held_lifted os started H enc F)
theorem held_card : Rows.ValueHeldUptoCardSaid :=
  Claim7.holds_tied_plain_at .later [] [.data, .pinned] true (true, "c1cbc2ca91e9593c235d410f7eeb41398c0f297d6241f7ec3073b02d79036937") false held_holds (fun _ h => by cases h) (by kernel_rfl) (fun _ h => by cases h) valueHeldUpto_row_tie rfl ⟨rfl, rfl⟩ (by kernel_rfl) rfl
    (fun f fn hf hfn => by
      obtain rfl : f = 3 := Option.some.inj ((show Tryd.prog.funcNamed "potsherd/potsherdlaw01.ValueHeld" = some 3 by kernel_rfl).symm.trans hf) |>.symm
      obtain rfl : fn = Tryd.f3 := (Option.some.inj (Tryd.func3.symm.trans hfn)).symm
      exact ⟨by kernel_rfl, fun j t ht => by
        rw [Tryd.params3] at ht
        have hm : t ∈ [24, 24] := by simpa using Array.mem_of_getElem? ht
        have hall : ([24, 24].all fun u => !Tryd.prog.wantsStandIn u) = true := by kernel_rfl
        exact (show Tryd.prog.wantsStandIn t = false by simpa using List.all_eq_true.1 hall t hm)⟩)
    (by kernel_rfl)
#print axioms held_card
end Go.Proofs.YtbhpocjgbccpnaaDoor

/-
  The law WireApart answers true for every two messages, and each reads behind the call as it read before: two messages that are not one have unlike texts.
  Condition: the two tables of unicode/utf8 hold what the program's text lays (the card ties that).
-/
import Derived.Test.YtjpnomkcinfonaaGreatDoorApartWalk
import Derived.Test.YtjpnomkcinfonaaGreatDoorOrOs
import Derived.Test.YtjpnomkcinfonaaGreatDoorTabs
import Derived.Test.YtjpnomkcinfonaaGreatDoorCards
import Derived.SevenTiedAt
import Derived.Stop.Joined
import Derived.Deep.DeepHandedRow
import Derived.Carry
import Derived.SizedLaws
namespace Go.Proofs.YtjpnomkcinfonaaGreatDoor
open Go.ChangeShapes Go.WideShapes Go.ChangeAt Go.RowKit
open Go.ChangeMaps (open_string shut_string)
set_option linter.unusedVariables false
theorem laidOut : laidOutB Tryz.prog = true := by kernel_rfl
def argB : Array Value := #[.agg zc.toArray, .agg zc.toArray]
theorem aprt_met (os : Os) : laidMetH Tryz.prog Rows.wireApartRow.laid ((World.laidAll Tryz.prog os Rows.wireApartRow.laid).forCall (fun _ _ => 0) ⟨#[], argB, []⟩).memory := by
  rw [MakeChecks.laidMetH_plain _ _ _ (by kernel_rfl)]
  exact laidMet_laidAll _ (by kernel_rfl) (by kernel_rfl)
theorem aprt_reads (os : Os) {H : Type} (enc : TypeId × Value → H) : ∃ places, DataW.whole enc Tryz.prog ((World.laidAll Tryz.prog os Rows.wireApartRow.laid).forCall (fun _ _ => 0) ⟨#[], argB, []⟩).memory Tryz.f5.params.toList Rows.wireApartSpec.vars false argB.toList 8
    = some ([.agg [.lit (.int .u8 0), .lit (.int .u64 0), .agg [.agg [.lit (.int .u64 0), .lit (.int .u64 0)], .lit (.int .i64 0), .lit (.int .i64 0), .lit (.int .i64 0)], .agg [.lit (.string []), .lit (.string []), .lit (.int .i64 0), .lit (.int .i64 0), .lit (.int .i64 0), .nil, .nil, .nil, .lit (.bool false), .nil, .nil], .nil, .agg [.lit (.int .i64 0), .lit (.int .i64 0), .agg [.lit (.int .u8 0), .lit (.string []), .agg [.lit (.int .u64 0), .lit (.int .u64 0)], .lit (.int .i64 0), .nil], .agg [.lit (.int .u8 0), .lit (.string []), .agg [.lit (.int .u64 0), .lit (.int .u64 0)], .lit (.int .i64 0), .nil], .lit (.bool false), .lit (.int .i64 0), .nil], .nil, .lit (.int .u64 0), .lit (.bool false), .nil, .agg [.lit (.string []), .agg [.lit (.int .u64 0), .lit (.int .u64 0)], .lit (.int .i64 0), .nil, .nil], .nil], .agg [.lit (.int .u8 0), .lit (.int .u64 0), .agg [.agg [.lit (.int .u64 0), .lit (.int .u64 0)], .lit (.int .i64 0), .lit (.int .i64 0), .lit (.int .i64 0)], .agg [.lit (.string []), .lit (.string []), .lit (.int .i64 0), .lit (.int .i64 0), .lit (.int .i64 0), .nil, .nil, .nil, .lit (.bool false), .nil, .nil], .nil, .agg [.lit (.int .i64 0), .lit (.int .i64 0), .agg [.lit (.int .u8 0), .lit (.string []), .agg [.lit (.int .u64 0), .lit (.int .u64 0)], .lit (.int .i64 0), .nil], .agg [.lit (.int .u8 0), .lit (.string []), .agg [.lit (.int .u64 0), .lit (.int .u64 0)], .lit (.int .i64 0), .nil], .lit (.bool false), .lit (.int .i64 0), .nil], .nil, .lit (.int .u64 0), .lit (.bool false), .nil, .agg [.lit (.string []), .agg [.lit (.int .u64 0), .lit (.int .u64 0)], .lit (.int .i64 0), .nil, .nil], .nil]], [], places) :=
  ⟨[], by kernel_rfl⟩
set_option maxRecDepth 100000 in
theorem aprt_lifted (os : Os) (started : os.Started) (H : Type) (enc : TypeId × Value → H) (F : Stop.Interp) :
    ReturnsInHanded {} Tryz.checked os 5 .any ((OpenSpec.ofChange Rows.wireApartSpec).preRow enc Tryz.prog Tryz.f5 Rows.wireApartRow.domain false Rows.wireApartRow.laid) (((OpenSpec.ofChange Rows.wireApartSpec).at F).post enc Tryz.prog Tryz.f5 false true false false) := by
  obtain ⟨places, hx⟩ := aprt_reads os enc
  refine returnsInHanded_of_row (C := Tryz.checked) (s := OpenSpec.ofChange Rows.wireApartSpec) own started (by kernel_rfl) Tryz.func5
    (witness_row_at (enc := enc) (C := Tryz.checked) false (World.laidAll Tryz.prog os Rows.wireApartRow.laid) argB (World.laidAll_os _ _ _) (by kernel_rfl) (by kernel_rfl) (by kernel_rfl)
      (OpenSpec.preRow_of_cond 8 hx (by kernel_rfl) (fun k hk => by cases hk) (by kernel_rfl) (aprt_met os))) ?_
  intro W base args ds gs before hval0 hW _ _ hsz0 hL _ _
  have hval : ∀ (j : Nat) t v, Tryz.f5.params[j]? = some t → args[j]? = some v → Value.okWide Tryz.prog W .any base t v := hval0
  have hW' := hW
  obtain ⟨p, q, hA0, hV, rfl, _, _⟩ := hW
  have hA : DataW.TrodAll enc Tryz.prog W 0 (fun _ => true) true Tryz.f5.params.toList args.toList ds p := hA0
  have hsz := hsz0
  rw [Tryz.params5] at hA hval hsz
  obtain ⟨v0, v1, d0, d1, p0, p1, rfl, rfl, rfl, h0, h1⟩ := trodAll_two hA
  obtain ⟨rfl, rfl⟩ := trodVars_none hV
  obtain ⟨cs, rfl, hcs⟩ := okWide_struct Tryz.underlying49 (hval 0 49 v0 rfl rfl)
  obtain ⟨cs', rfl, hcs'⟩ := okWide_struct Tryz.underlying49 (hval 1 49 v1 rfl rfl)
  rw [show Tryz.prog.cellsOf 49 = 47 by kernel_rfl] at hcs hcs'
  simp only [List.append_nil] at hW'
  have hlt : ∀ x ∈ p0 ++ p1, x.block < W.heap.size := fun x hx => by simpa using hW'.lt x hx
  obtain ⟨fu, hfu⟩ := id h0
  obtain ⟨fu', hfu'⟩ := id h1
  have hcl : cs.toList.length = 47 := by simpa using hcs
  have hcl' : cs'.toList.length = 47 := by simpa using hcs'
  have hlim : Lim 49 d0 := fun k hk => by
    have := List.all_eq_true.1 hsz k (DataW.weights_mem_each (j := 0) rfl rfl k hk)
    simpa using this
  have hlim' : Lim 49 d1 := fun k hk => by
    have := List.all_eq_true.1 hsz k (DataW.weights_mem_each (j := 1) rfl rfl k hk)
    simpa using this
  obtain ⟨x, hm⟩ := reads_msg (x := (d0, p0)) hfu hlim hcl
  obtain ⟨y, hm'⟩ := reads_msg (x := (d1, p1)) hfu' hlim' hcl'
  have hT := tabs_of hL
  have h2 : 1 < W.heap.size := by
    have := (hT.2 0 (by omega)).1
    by_cases hb : 1 < W.heap.size
    · exact hb
    · have e : W.heap[1]? = none := Array.getElem?_eq_none (by omega)
      simp [World.cell?, e] at this
  clear hA0 hval0 hsz0
  refine (apart_any cs.toList cs'.toList _ _ x y W (fun b hb => hb) (fun b hb => hb) hT h2 hm hm').mono ?_
  rintro e W' ⟨rfl, bel⟩
  refine ⟨_, rfl, _, _, _, [], p0 ++ p1, [], hW', ?_, ?_, ?_, bel.frame _, fun h => by cases h⟩
  · exact trodAll_mk1 (shut_bool Tryz.underlying4 _)
  · exact trodAll_mk2 (Below.trod laidOut (by kernel_rfl) (of_decide_eq_true (by kernel_rfl)) h0 bel (fun x hx => hlt x (List.mem_append.2 (.inl hx)))) (Below.trod laidOut (by kernel_rfl) (of_decide_eq_true (by kernel_rfl)) h1 bel (fun x hx => hlt x (List.mem_append.2 (.inr hx))))
  · rfl
theorem aprt_holds : Rows.WireApartSaid :=
  OpenClaim.holds_of_cond 5 Tryz.f5 rfl rfl rfl rfl rfl rfl rfl ⟨rfl, rfl, rfl, rfl, rfl⟩ rfl rfl rfl rfl rfl (by kernel_rfl) Tryz.func5 (by kernel_rfl)
    (of_decide_eq_true (by kernel_rfl)) (by unfold Func.isWrapper; first | (rw [if_pos (by decide +kernel)]; kernel_rfl) | (rw [if_neg (by decide +kernel)]; exact ⟨rfl, rfl⟩))
    (fun os started H enc _ F => by rw [OpenClaim.pre_eq_preRow]; exact aprt_lifted os started H enc F)
theorem aprt_card : Rows.WireApartCardSaid :=
  Claim7.holds_tied_plain_at .later [] [.data, .pinned] true (true, "ee9870f43cd406a468cf227b1547d27a01bc4ca1c256d1e8e1e68ae94b101768") true aprt_holds (fun _ h => by cases h) (by kernel_rfl) (fun _ h => by cases h) wireApart_row_tie rfl ⟨rfl, rfl⟩ (by kernel_rfl) rfl
    (fun f fn hf hfn => by
      obtain rfl : f = 5 := Option.some.inj ((show Tryz.prog.funcNamed "potsherd/potsherdlaw09.WireApart" = some 5 by kernel_rfl).symm.trans hf) |>.symm
      obtain rfl : fn = Tryz.f5 := (Option.some.inj (Tryz.func5.symm.trans hfn)).symm
      exact ⟨by kernel_rfl, fun j t ht => by
        rw [Tryz.params5] at ht
        have hm : t ∈ [49, 49] := by simpa using Array.mem_of_getElem? ht
        have hall : ([49, 49].all fun u => !Tryz.prog.wantsStandIn u) = true := by kernel_rfl
        exact (show Tryz.prog.wantsStandIn t = false by simpa using List.all_eq_true.1 hall t hm)⟩)
    (by kernel_rfl)
#print axioms aprt_card
end Go.Proofs.YtjpnomkcinfonaaGreatDoor

/-
  The law WireCut answers true for every message, every number and every text, and each reads behind the call as it read before: a message's text that is cut short is none, nor is one with a byte more.
  Condition: the two tables of unicode/utf8 hold what the program's text lays (the card ties that).
-/
import Derived.Test.YtaobmaehbkancaaDoorCutWalk
import Derived.Test.YtaobmaehbkancaaDoorOrOs
import Derived.Test.YtaobmaehbkancaaDoorTabs
import Derived.Test.YtaobmaehbkancaaDoorCards
import Derived.SevenTiedAt
import Derived.Stop.Joined
import Derived.Deep.DeepHandedRow
import Derived.Carry
import Derived.SizedLaws
namespace Go.Proofs.YtaobmaehbkancaaDoor
open Go.ChangeShapes Go.WideShapes Go.ChangeAt Go.RowKit
open Go.ChangeMaps (open_string shut_string)
set_option linter.unusedVariables false
theorem laidOut : laidOutB Tryd.prog = true := by kernel_rfl
def argC : Array Value := #[.agg zc.toArray, .int .i64 0, .string ⟨#[]⟩]
theorem cut_met (os : Os) : laidMetH Tryd.prog Rows.wireCutRow.laid ((World.laidAll Tryd.prog os Rows.wireCutRow.laid).forCall (fun _ _ => 0) ⟨#[], argC, []⟩).memory := by
  rw [MakeChecks.laidMetH_plain _ _ _ (by kernel_rfl)]
  exact laidMet_laidAll _ (by kernel_rfl) (by kernel_rfl)
theorem cut_reads (os : Os) {H : Type} (enc : TypeId × Value → H) : ∃ places, DataW.whole enc Tryd.prog ((World.laidAll Tryd.prog os Rows.wireCutRow.laid).forCall (fun _ _ => 0) ⟨#[], argC, []⟩).memory Tryd.f3.params.toList Rows.wireCutSpec.vars false argC.toList 8
    = some ([.agg [.lit (.int .u8 0), .lit (.int .u64 0), .agg [.agg [.lit (.int .u64 0), .lit (.int .u64 0)], .lit (.int .i64 0), .lit (.int .i64 0), .lit (.int .i64 0)], .agg [.lit (.string []), .lit (.string []), .lit (.int .i64 0), .lit (.int .i64 0), .lit (.int .i64 0), .nil, .nil, .nil, .lit (.bool false), .nil, .nil], .nil, .agg [.lit (.int .i64 0), .lit (.int .i64 0), .agg [.lit (.int .u8 0), .lit (.string []), .agg [.lit (.int .u64 0), .lit (.int .u64 0)], .lit (.int .i64 0), .nil], .agg [.lit (.int .u8 0), .lit (.string []), .agg [.lit (.int .u64 0), .lit (.int .u64 0)], .lit (.int .i64 0), .nil], .lit (.bool false), .lit (.int .i64 0), .nil], .nil, .lit (.int .u64 0), .lit (.bool false), .nil, .agg [.lit (.string []), .agg [.lit (.int .u64 0), .lit (.int .u64 0)], .lit (.int .i64 0), .nil, .nil], .nil], .lit (.int .i64 0), .lit (.string [])], [], places) :=
  ⟨[], by kernel_rfl⟩
set_option maxRecDepth 100000 in
theorem cut_lifted (os : Os) (started : os.Started) (H : Type) (enc : TypeId × Value → H) (F : Stop.Interp) :
    ReturnsInHanded {} Tryd.checked os 3 .any ((OpenSpec.ofChange Rows.wireCutSpec).preRow enc Tryd.prog Tryd.f3 Rows.wireCutRow.domain false Rows.wireCutRow.laid) (((OpenSpec.ofChange Rows.wireCutSpec).at F).post enc Tryd.prog Tryd.f3 false true false false) := by
  obtain ⟨places, hx⟩ := cut_reads os enc
  refine returnsInHanded_of_row (C := Tryd.checked) (s := OpenSpec.ofChange Rows.wireCutSpec) own started (by kernel_rfl) Tryd.func3
    (witness_row_at (enc := enc) (C := Tryd.checked) false (World.laidAll Tryd.prog os Rows.wireCutRow.laid) argC (World.laidAll_os _ _ _) (by kernel_rfl) (by kernel_rfl) (by kernel_rfl)
      (OpenSpec.preRow_of_cond 8 hx (by kernel_rfl) (fun k hk => by cases hk) (by kernel_rfl) (cut_met os))) ?_
  intro W base args ds gs before hval0 hW _ _ hsz0 hL _ _
  have hval : ∀ (j : Nat) t v, Tryd.f3.params[j]? = some t → args[j]? = some v → Value.okWide Tryd.prog W .any base t v := hval0
  have hW' := hW
  obtain ⟨p, q, hA0, hV, rfl, _, _⟩ := hW
  have hA : DataW.TrodAll enc Tryd.prog W 0 (fun _ => true) true Tryd.f3.params.toList args.toList ds p := hA0
  have hsz := hsz0
  rw [Tryd.params3] at hA hval hsz
  obtain ⟨v0, v1, v2, d0, d1, d2, p0, p1, p2, rfl, rfl, rfl, h0, h1, h2'⟩ := trodAll_three hA
  obtain ⟨rfl, rfl⟩ := trodVars_none hV
  obtain ⟨cs, rfl, hcs⟩ := okWide_struct Tryd.underlying49 (hval 0 49 v0 rfl rfl)
  rw [show Tryd.prog.cellsOf 49 = 47 by kernel_rfl] at hcs
  simp only [List.append_nil] at hW'
  have hlt : ∀ x ∈ p0 ++ (p1 ++ p2), x.block < W.heap.size := fun x hx => by
    have h7 := hW'.lt x (by simpa [List.append_assoc] using hx)
    simpa using h7
  obtain ⟨cut, rfl, rfl, rfl, wn⟩ := open_int Tryd.underlying3 (hval 1 3 v1 rfl rfl) h1
  obtain ⟨more, rfl, rfl, rfl, ws⟩ := open_string Tryd.underlying9 (hval 2 9 v2 rfl rfl) h2'
  have hmo : more.size ≤ 140737488351232 := by
    have h5 := sized_string hsz (j := 2) rfl rfl
    have h6 : more.data.toList.length = more.size := by simp
    have := rb
    omega
  obtain ⟨fu, hfu⟩ := id h0
  have hcl : cs.toList.length = 47 := by simpa using hcs
  have hlim : Lim 49 d0 := fun k hk => by
    have := List.all_eq_true.1 hsz k (DataW.weights_mem_each (j := 0) rfl rfl k hk)
    simpa using this
  obtain ⟨x, hm⟩ := reads_msg (x := (d0, p0)) hfu hlim hcl
  have hT := tabs_of hL
  have h2 : 1 < W.heap.size := by
    have := (hT.2 0 (by omega)).1
    by_cases hb : 1 < W.heap.size
    · exact hb
    · have e : W.heap[1]? = none := Array.getElem?_eq_none (by omega)
      simp [World.cell?, e] at this
  clear hA0 hval0 hsz0
  refine (cut_any cs.toList _ x cut more W (fun b hb => hb) hT h2 hm (i64_of wn) hmo).mono ?_
  rintro e W' ⟨rfl, bel⟩
  refine ⟨_, rfl, _, _, _, [], p0 ++ ([] ++ []), [], hW', ?_, ?_, ?_, bel.frame _, fun h => by cases h⟩
  · exact trodAll_mk1 (shut_bool Tryd.underlying4 _)
  · exact trodAll_mk3 (Below.trod laidOut (by kernel_rfl) (of_decide_eq_true (by kernel_rfl)) h0 bel (fun x hx => hlt x (List.mem_append.2 (.inl hx)))) (shut_int Tryd.underlying3 wn) (shut_string Tryd.underlying9 ws)
  · rfl
theorem cut_holds : Rows.WireCutSaid :=
  OpenClaim.holds_of_cond 3 Tryd.f3 rfl rfl rfl rfl rfl rfl rfl ⟨rfl, rfl, rfl, rfl, rfl⟩ rfl rfl rfl rfl rfl (by kernel_rfl) Tryd.func3 (by kernel_rfl)
    (of_decide_eq_true (by kernel_rfl)) (by unfold Func.isWrapper; first | (rw [if_pos (by decide +kernel)]; kernel_rfl) | (rw [if_neg (by decide +kernel)]; exact ⟨rfl, rfl⟩))
    (fun os started H enc _ F => by rw [OpenClaim.pre_eq_preRow]; exact cut_lifted os started H enc F)
theorem cut_card : Rows.WireCutCardSaid :=
  Claim7.holds_tied_plain_at .later [] [.data, .pinned] true (true, "7791d8fe0dbb5e8607bd26f26c6043127b91e1066131ebbef233efca516f24fc") true cut_holds (fun _ h => by cases h) (by kernel_rfl) (fun _ h => by cases h) wireCut_row_tie rfl ⟨rfl, rfl⟩ (by kernel_rfl) rfl
    (fun f fn hf hfn => by
      obtain rfl : f = 3 := Option.some.inj ((show Tryd.prog.funcNamed "potsherd/potsherdlaw09.WireCut" = some 3 by kernel_rfl).symm.trans hf) |>.symm
      obtain rfl : fn = Tryd.f3 := (Option.some.inj (Tryd.func3.symm.trans hfn)).symm
      exact ⟨by kernel_rfl, fun j t ht => by
        rw [Tryd.params3] at ht
        have hm : t ∈ [49, 3, 9] := by simpa using Array.mem_of_getElem? ht
        have hall : ([49, 3, 9].all fun u => !Tryd.prog.wantsStandIn u) = true := by kernel_rfl
        exact (show Tryd.prog.wantsStandIn t = false by simpa using List.all_eq_true.1 hall t hm)⟩)
    (by kernel_rfl)
#print axioms cut_card
end Go.Proofs.YtaobmaehbkancaaDoor

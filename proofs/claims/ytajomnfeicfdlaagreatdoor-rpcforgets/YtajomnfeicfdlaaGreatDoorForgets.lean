/-
 The law RpcForgets answers true for every input, and each argument reads behind the call as it read before: what is forgotten of a query are its starts alone; forgotten twice is forgotten once.
 Condition: the two tables of unicode/utf8 hold what the program's text lays (the card ties that).
-/
import Derived.Test.YtajomnfeicfdlaaGreatDoorIqForgetsWalk
import Derived.Test.YtajomnfeicfdlaaGreatDoorOvOw
import Derived.Test.YtajomnfeicfdlaaGreatDoorTabs
import Derived.Test.YtajomnfeicfdlaaGreatDoorCards
import Derived.SevenTiedAt
import Derived.Stop.Joined
import Derived.Deep.DeepHandedRow
import Derived.Carry
import Derived.SizedLaws
namespace Go.Proofs.YtajomnfeicfdlaaGreatDoor
open Go.ChangeShapes Go.WideShapes Go.ChangeAt Go.RowKit
set_option linter.unusedVariables false
set_option linter.unusedSimpArgs false
theorem laidOut : laidOutB Tryz.prog = true := by kernel_rfl
def argB : Array Value := #[.agg #[.slice none 0 0], .agg #[.int .u64 0, .int .u64 0]]
theorem forgetsR_met (os : Os) : laidMetH Tryz.prog Rows.rpcForgetsRow.laid ((World.laidAll Tryz.prog os Rows.rpcForgetsRow.laid).forCall (fun _ _ => 0) ⟨#[], argB, []⟩).memory := by
 rw [MakeChecks.laidMetH_plain _ _ _ (by kernel_rfl)]
 exact laidMet_laidAll _ (by kernel_rfl) (by kernel_rfl)
theorem forgetsR_reads (os : Os) {H : Type} (enc : TypeId × Value → H) : ∃ places, DataW.whole enc Tryz.prog ((World.laidAll Tryz.prog os Rows.rpcForgetsRow.laid).forCall (fun _ _ => 0) ⟨#[], argB, []⟩).memory Tryz.f6.params.toList Rows.rpcForgetsSpec.vars false argB.toList 8
  = some ([.agg [.nil], .agg [.lit (.int .u64 0), .lit (.int .u64 0)]], [], places) :=
 ⟨[], by kernel_rfl⟩
set_option maxRecDepth 100000 in
theorem forgetsR_lifted (os : Os) (started : os.Started) (H : Type) (enc : TypeId × Value → H) (F : Stop.Interp) :
  ReturnsInHanded {} Tryz.checked os 6 .any ((OpenSpec.ofChange Rows.rpcForgetsSpec).preRow enc Tryz.prog Tryz.f6 Rows.rpcForgetsRow.domain false Rows.rpcForgetsRow.laid) (((OpenSpec.ofChange Rows.rpcForgetsSpec).at F).post enc Tryz.prog Tryz.f6 false true false false) := by
 obtain ⟨places, hx⟩ := forgetsR_reads os enc
 refine returnsInHanded_of_row (C := Tryz.checked) (s := OpenSpec.ofChange Rows.rpcForgetsSpec) own started (by kernel_rfl) Tryz.func6
  (witness_row_at (enc := enc) (C := Tryz.checked) false (World.laidAll Tryz.prog os Rows.rpcForgetsRow.laid) argB (World.laidAll_os _ _ _) (by kernel_rfl) (by kernel_rfl) (by kernel_rfl)
   (OpenSpec.preRow_of_cond 8 hx (by kernel_rfl) (fun k hk => by cases hk) (by kernel_rfl) (forgetsR_met os))) ?_
 intro W base args ds gs before hval0 hW _ _ hsz0 hL _ _
 have hval : ∀ (j : Nat) t v, Tryz.f6.params[j]? = some t → args[j]? = some v → Value.okWide Tryz.prog W .any base t v := hval0
 have hW' := hW
 obtain ⟨p, q, hA0, hV, rfl, _, _⟩ := hW
 have hA : DataW.TrodAll enc Tryz.prog W 0 (fun _ => true) true Tryz.f6.params.toList args.toList ds p := hA0
 have hsz := hsz0
 rw [Tryz.params6] at hA hval hsz
 obtain ⟨v0, v1, d0, d1, p0, p1, rfl, rfl, rfl, h0, h1⟩ := trodAll_two hA
 obtain ⟨rfl, rfl⟩ := trodVars_none hV
 simp only [List.append_nil] at hW'
 have hlt0 : ∀ x ∈ p0, x.block < W.heap.size := fun x hx => by simpa using hW'.lt x (by simp [hx])
 have hlt1 : ∀ x ∈ p1, x.block < W.heap.size := fun x hx => by simpa using hW'.lt x (by simp [hx])
 obtain ⟨u0, xs0, rfl, hl0⟩ := open_outbox (hval 0 38 v0 rfl rfl) h0 (lim_of hsz (j := 0) rfl rfl)
 obtain ⟨y1, rfl⟩ := open_qid (hval 1 27 v1 rfl rfl) h1 (lim_of hsz (j := 1) rfl rfl)
 have hT := tabs_of hL
 have hz1 := tabs_lt hT
 clear hA0 hval0 hsz0
 refine (forgets_any u0 xs0 y1 _ W hl0 (fun b hb => hb) hT hz1).mono ?_
 rintro e W' ⟨rfl, bel⟩
 refine ⟨_, rfl, _, _, _, [], p0 ++ p1, [], hW', ?_, ?_, ?_, bel.frame _, fun h => by cases h⟩
 ·exact trodAll_mk1 (shut_bool Tryz.underlying4 _)
 ·exact trodAll_mk2 (Below.trod laidOut (by kernel_rfl) (of_decide_eq_true (by kernel_rfl)) h0 bel hlt0) (Below.trod laidOut (by kernel_rfl) (of_decide_eq_true (by kernel_rfl)) h1 bel hlt1)
 ·rfl
theorem forgetsR_holds : Rows.RpcForgetsSaid :=
 OpenClaim.holds_of_cond 6 Tryz.f6 rfl rfl rfl rfl rfl rfl rfl ⟨rfl, rfl, rfl, rfl, rfl⟩ rfl rfl rfl rfl rfl (by kernel_rfl) Tryz.func6 (by kernel_rfl)
  (of_decide_eq_true (by kernel_rfl)) (by unfold Func.isWrapper; first | (rw [if_pos (by decide +kernel)]; kernel_rfl) | (rw [if_neg (by decide +kernel)]; exact ⟨rfl, rfl⟩))
  (fun os started H enc _ F => by rw [OpenClaim.pre_eq_preRow]; exact forgetsR_lifted os started H enc F)
theorem forgetsR_card : Rows.RpcForgetsCardSaid :=
 Claim7.holds_tied_plain_at .later [] [.data, .pinned] true (true, "6b6ab388c0a2ce7d3bd98f32de4f3be5c5e1d5e77e392e31e7b903bbf59d8935") true forgetsR_holds (fun _ h => by cases h) (by kernel_rfl) (fun _ h => by cases h) rpcForgets_row_tie rfl ⟨rfl, rfl⟩ (by kernel_rfl) rfl
  (fun f fn hf hfn => by
   obtain rfl : f = 6 := Option.some.inj ((show Tryz.prog.funcNamed "potsherd/potsherdlaw12.RpcForgets" = some 6 by kernel_rfl).symm.trans hf) |>.symm
   obtain rfl : fn = Tryz.f6 := (Option.some.inj (Tryz.func6.symm.trans hfn)).symm
   exact ⟨by kernel_rfl, fun j t ht => by
    rw [Tryz.params6] at ht
    have hm : t ∈ [38, 27] := by simpa using Array.mem_of_getElem? ht
    have hall : ([38, 27].all fun u => !Tryz.prog.wantsStandIn u) = true := by kernel_rfl
    exact (show Tryz.prog.wantsStandIn t = false by simpa using List.all_eq_true.1 hall t hm)⟩)
  (by kernel_rfl)
#print axioms forgetsR_card
end Go.Proofs.YtajomnfeicfdlaaGreatDoor

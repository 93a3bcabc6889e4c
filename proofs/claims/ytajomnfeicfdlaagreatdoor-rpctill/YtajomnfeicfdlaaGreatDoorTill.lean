/-
 The law RpcTill answers true for every input, and each argument reads behind the call as it read before: what is asked is there till its own answer comes; another node's, or another one's, leaves it there; asked and answered all is as it was.
 Condition: the two tables of unicode/utf8 hold what the program's text lays (the card ties that).
-/
import Derived.Test.YtajomnfeicfdlaaGreatDoorRefusedWalkIrTillWalk
import Derived.Test.YtajomnfeicfdlaaGreatDoorOvOw
import Derived.Test.YtajomnfeicfdlaaGreatDoorTabs
import Derived.Test.YtajomnfeicfdlaaGreatDoorCards
import Derived.SevenTiedAt
import Derived.Stop.Joined
import Derived.Deep.DeepHandedRow
import Derived.Carry
import Derived.SizedLaws
namespace Go.Proofs.YtajomnfeicfdlaaGreatDoor
open Go.ChangeShapes Go.WideShapes Go.ChangeAt Go.RowKit
set_option linter.unusedVariables false
set_option linter.unusedSimpArgs false
theorem laidOut : laidOutB Tryz.prog = true := by kernel_rfl
def argB : Array Value := #[.agg #[.slice none 0 0], .int .i64 0, .agg #[.string ⟨#[]⟩, .int .u64 0, .int .u64 0, .int .i64 0, .slice none 0 0, .slice none 0 0], .int .i64 0]
theorem tillR_met (os : Os) : laidMetH Tryz.prog Rows.rpcTillRow.laid ((World.laidAll Tryz.prog os Rows.rpcTillRow.laid).forCall (fun _ _ => 0) ⟨#[], argB, []⟩).memory := by
 rw [MakeChecks.laidMetH_plain _ _ _ (by kernel_rfl)]
 exact laidMet_laidAll _ (by kernel_rfl) (by kernel_rfl)
theorem tillR_reads (os : Os) {H : Type} (enc : TypeId × Value → H) : ∃ places, DataW.whole enc Tryz.prog ((World.laidAll Tryz.prog os Rows.rpcTillRow.laid).forCall (fun _ _ => 0) ⟨#[], argB, []⟩).memory Tryz.f5.params.toList Rows.rpcTillSpec.vars false argB.toList 8
  = some ([.agg [.nil], .lit (.int .i64 0), .agg [.lit (.string []), .agg [.lit (.int .u64 0), .lit (.int .u64 0)], .lit (.int .i64 0), .nil, .nil], .lit (.int .i64 0)], [], places) :=
 ⟨[], by kernel_rfl⟩
set_option maxRecDepth 100000 in
theorem tillR_lifted (os : Os) (started : os.Started) (H : Type) (enc : TypeId × Value → H) (F : Stop.Interp) :
  ReturnsInHanded {} Tryz.checked os 5 .any ((OpenSpec.ofChange Rows.rpcTillSpec).preRow enc Tryz.prog Tryz.f5 Rows.rpcTillRow.domain false Rows.rpcTillRow.laid) (((OpenSpec.ofChange Rows.rpcTillSpec).at F).post enc Tryz.prog Tryz.f5 false true false false) := by
 obtain ⟨places, hx⟩ := tillR_reads os enc
 refine returnsInHanded_of_row (C := Tryz.checked) (s := OpenSpec.ofChange Rows.rpcTillSpec) own started (by kernel_rfl) Tryz.func5
  (witness_row_at (enc := enc) (C := Tryz.checked) false (World.laidAll Tryz.prog os Rows.rpcTillRow.laid) argB (World.laidAll_os _ _ _) (by kernel_rfl) (by kernel_rfl) (by kernel_rfl)
   (OpenSpec.preRow_of_cond 8 hx (by kernel_rfl) (fun k hk => by cases hk) (by kernel_rfl) (tillR_met os))) ?_
 intro W base args ds gs before hval0 hW _ _ hsz0 hL _ _
 have hval : ∀ (j : Nat) t v, Tryz.f5.params[j]? = some t → args[j]? = some v → Value.okWide Tryz.prog W .any base t v := hval0
 have hW' := hW
 obtain ⟨p, q, hA0, hV, rfl, _, _⟩ := hW
 have hA : DataW.TrodAll enc Tryz.prog W 0 (fun _ => true) true Tryz.f5.params.toList args.toList ds p := hA0
 have hsz := hsz0
 rw [Tryz.params5] at hA hval hsz
 obtain ⟨v0, v1, v2, v3, d0, d1, d2, d3, p0, p1, p2, p3, rfl, rfl, rfl, h0, h1, h2, h3⟩ := trodAll_four hA
 obtain ⟨rfl, rfl⟩ := trodVars_none hV
 simp only [List.append_nil] at hW'
 have hlt0 : ∀ x ∈ p0, x.block < W.heap.size := fun x hx => by simpa using hW'.lt x (by simp [hx])
 have hlt1 : ∀ x ∈ p1, x.block < W.heap.size := fun x hx => by simpa using hW'.lt x (by simp [hx])
 have hlt2 : ∀ x ∈ p2, x.block < W.heap.size := fun x hx => by simpa using hW'.lt x (by simp [hx])
 have hlt3 : ∀ x ∈ p3, x.block < W.heap.size := fun x hx => by simpa using hW'.lt x (by simp [hx])
 obtain ⟨u0, xs0, rfl, hl0⟩ := open_outbox (hval 0 38 v0 rfl rfl) h0 (lim_of hsz (j := 0) rfl rfl)
 obtain ⟨n1, rfl, hi1⟩ := open_whole (hval 1 3 v1 rfl rfl) h1
 obtain ⟨f2, vc2, vr2, rfl, hf2⟩ := open_file (hval 2 44 v2 rfl rfl) h2 (lim_of hsz (j := 2) rfl rfl)
 obtain ⟨n3, rfl, hi3⟩ := open_whole (hval 3 3 v3 rfl rfl) h3
 have hT := tabs_of hL
 have hz1 := tabs_lt hT
 clear hA0 hval0 hsz0
 refine (till_any u0 xs0 n1 f2 vc2 vr2 n3 _ W hl0 hf2 hi1 (fun b hb => hb) hT hz1).mono ?_
 rintro e W' ⟨rfl, bel⟩
 refine ⟨_, rfl, _, _, _, [], p0 ++ (p1 ++ (p2 ++ p3)), [], hW', ?_, ?_, ?_, bel.frame _, fun h => by cases h⟩
 ·exact trodAll_mk1 (shut_bool Tryz.underlying4 _)
 ·exact trodAll_mk4 (Below.trod laidOut (by kernel_rfl) (of_decide_eq_true (by kernel_rfl)) h0 bel hlt0) (Below.trod laidOut (by kernel_rfl) (of_decide_eq_true (by kernel_rfl)) h1 bel hlt1) (Below.trod laidOut (by kernel_rfl) (of_decide_eq_true (by kernel_rfl)) h2 bel hlt2) (Below.trod laidOut (by kernel_rfl) (of_decide_eq_true (by kernel_rfl)) h3 bel hlt3)
 ·rfl
theorem tillR_holds : Rows.RpcTillSaid :=
 OpenClaim.holds_of_cond 5 Tryz.f5 rfl rfl rfl rfl rfl rfl rfl ⟨rfl, rfl, rfl, rfl, rfl⟩ rfl rfl rfl rfl rfl (by kernel_rfl) Tryz.func5 (by kernel_rfl)
  (of_decide_eq_true (by kernel_rfl)) (by unfold Func.isWrapper; first | (rw [if_pos (by decide +kernel)]; kernel_rfl) | (rw [if_neg (by decide +kernel)]; exact ⟨rfl, rfl⟩))
  (fun os started H enc _ F => by rw [OpenClaim.pre_eq_preRow]; exact tillR_lifted os started H enc F)
theorem tillR_card : Rows.RpcTillCardSaid :=
 Claim7.holds_tied_plain_at .later [] [.data, .pinned] true (true, "6b6ab388c0a2ce7d3bd98f32de4f3be5c5e1d5e77e392e31e7b903bbf59d8935") true tillR_holds (fun _ h => by cases h) (by kernel_rfl) (fun _ h => by cases h) rpcTill_row_tie rfl ⟨rfl, rfl⟩ (by kernel_rfl) rfl
  (fun f fn hf hfn => by
   obtain rfl : f = 5 := Option.some.inj ((show Tryz.prog.funcNamed "potsherd/potsherdlaw12.RpcTill" = some 5 by kernel_rfl).symm.trans hf) |>.symm
   obtain rfl : fn = Tryz.f5 := (Option.some.inj (Tryz.func5.symm.trans hfn)).symm
   exact ⟨by kernel_rfl, fun j t ht => by
    rw [Tryz.params5] at ht
    have hm : t ∈ [38, 3, 44, 3] := by simpa using Array.mem_of_getElem? ht
    have hall : ([38, 3, 44, 3].all fun u => !Tryz.prog.wantsStandIn u) = true := by kernel_rfl
    exact (show Tryz.prog.wantsStandIn t = false by simpa using List.all_eq_true.1 hall t hm)⟩)
  (by kernel_rfl)
#print axioms tillR_card
end Go.Proofs.YtajomnfeicfdlaaGreatDoor

/-
 The law RpcTwice answers true for every input, and each argument reads behind the call as it read before: a number that is put again stands last, and is there once.
 Condition: the two tables of unicode/utf8 hold what the program's text lays (the card ties that).
-/
import Derived.Test.YtajomnfeicfdlaaGreatDoorTwiceWalk
import Derived.Test.YtajomnfeicfdlaaGreatDoorOv
import Derived.Test.YtajomnfeicfdlaaGreatDoorTabs
import Derived.Test.YtajomnfeicfdlaaGreatDoorCards
import Derived.SevenTiedAt
import Derived.Stop.Joined
import Derived.Deep.DeepHandedRow
import Derived.Carry
import Derived.SizedLaws
namespace Go.Proofs.YtajomnfeicfdlaaGreatDoor
open Go.ChangeShapes Go.WideShapes Go.ChangeAt Go.RowKit
set_option linter.unusedVariables false
set_option linter.unusedSimpArgs false
theorem laidOut : laidOutB Tryz.prog = true := by kernel_rfl
def argB : Array Value := #[.agg #[.slice none 0 0], .agg #[.int .u64 0, .int .u64 0], .slice none 0 0]
theorem twiceR_met (os : Os) : laidMetH Tryz.prog Rows.rpcTwiceRow.laid ((World.laidAll Tryz.prog os Rows.rpcTwiceRow.laid).forCall (fun _ _ => 0) ⟨#[], argB, []⟩).memory := by
 rw [MakeChecks.laidMetH_plain _ _ _ (by kernel_rfl)]
 exact laidMet_laidAll _ (by kernel_rfl) (by kernel_rfl)
theorem twiceR_reads (os : Os) {H : Type} (enc : TypeId × Value → H) : ∃ places, DataW.whole enc Tryz.prog ((World.laidAll Tryz.prog os Rows.rpcTwiceRow.laid).forCall (fun _ _ => 0) ⟨#[], argB, []⟩).memory Tryz.f7.params.toList Rows.rpcTwiceSpec.vars false argB.toList 8
  = some ([.agg [.nil], .agg [.lit (.int .u64 0), .lit (.int .u64 0)], .nil], [], places) :=
 ⟨[], by kernel_rfl⟩
set_option maxRecDepth 100000 in
theorem twiceR_lifted (os : Os) (started : os.Started) (H : Type) (enc : TypeId × Value → H) (F : Stop.Interp) :
  ReturnsInHanded {} Tryz.checked os 7 .any ((OpenSpec.ofChange Rows.rpcTwiceSpec).preRow enc Tryz.prog Tryz.f7 Rows.rpcTwiceRow.domain false Rows.rpcTwiceRow.laid) (((OpenSpec.ofChange Rows.rpcTwiceSpec).at F).post enc Tryz.prog Tryz.f7 false true false false) := by
 obtain ⟨places, hx⟩ := twiceR_reads os enc
 refine returnsInHanded_of_row (C := Tryz.checked) (s := OpenSpec.ofChange Rows.rpcTwiceSpec) own started (by kernel_rfl) Tryz.func7
  (witness_row_at (enc := enc) (C := Tryz.checked) false (World.laidAll Tryz.prog os Rows.rpcTwiceRow.laid) argB (World.laidAll_os _ _ _) (by kernel_rfl) (by kernel_rfl) (by kernel_rfl)
   (OpenSpec.preRow_of_cond 8 hx (by kernel_rfl) (fun k hk => by cases hk) (by kernel_rfl) (twiceR_met os))) ?_
 intro W base args ds gs before hval0 hW _ _ hsz0 hL _ _
 have hval : ∀ (j : Nat) t v, Tryz.f7.params[j]? = some t → args[j]? = some v → Value.okWide Tryz.prog W .any base t v := hval0
 have hW' := hW
 obtain ⟨p, q, hA0, hV, rfl, _, _⟩ := hW
 have hA : DataW.TrodAll enc Tryz.prog W 0 (fun _ => true) true Tryz.f7.params.toList args.toList ds p := hA0
 have hsz := hsz0
 rw [Tryz.params7] at hA hval hsz
 obtain ⟨v0, v1, v2, d0, d1, d2, p0, p1, p2, rfl, rfl, rfl, h0, h1, h2⟩ := trodAll_three hA
 obtain ⟨rfl, rfl⟩ := trodVars_none hV
 simp only [List.append_nil] at hW'
 have hlt0 : ∀ x ∈ p0, x.block < W.heap.size := fun x hx => by simpa using hW'.lt x (by simp [hx])
 have hlt1 : ∀ x ∈ p1, x.block < W.heap.size := fun x hx => by simpa using hW'.lt x (by simp [hx])
 have hlt2 : ∀ x ∈ p2, x.block < W.heap.size := fun x hx => by simpa using hW'.lt x (by simp [hx])
 obtain ⟨u0, xs0, rfl, hl0, hc0⟩ := open_win (hval 0 24 v0 rfl rfl) h0 (lim_of hsz (j := 0) rfl rfl)
 obtain ⟨y1, rfl⟩ := open_qid (hval 1 27 v1 rfl rfl) h1 (lim_of hsz (j := 1) rfl rfl)
 obtain ⟨xs2, hl2, hc2⟩ := open_qids (hval 2 22 v2 rfl rfl) h2 (lim_of hsz (j := 2) rfl rfl)
 have hT := tabs_of hL
 have hz1 := tabs_lt hT
 clear hA0 hval0 hsz0
 refine (twice_any y1 u0 v2 xs0 xs2 _ W hl0 hl2 (fun b hb => hb) hc0 hT hz1).mono ?_
 rintro e W' ⟨rfl, bel⟩
 refine ⟨_, rfl, _, _, _, [], p0 ++ (p1 ++ p2), [], hW', ?_, ?_, ?_, bel.frame _, fun h => by cases h⟩
 ·exact trodAll_mk1 (shut_bool Tryz.underlying4 _)
 ·exact trodAll_mk3 (Below.trod laidOut (by kernel_rfl) (of_decide_eq_true (by kernel_rfl)) h0 bel hlt0) (Below.trod laidOut (by kernel_rfl) (of_decide_eq_true (by kernel_rfl)) h1 bel hlt1) (Below.trod laidOut (by kernel_rfl) (of_decide_eq_true (by kernel_rfl)) h2 bel hlt2)
 ·rfl
theorem twiceR_holds : Rows.RpcTwiceSaid :=
 OpenClaim.holds_of_cond 7 Tryz.f7 rfl rfl rfl rfl rfl rfl rfl ⟨rfl, rfl, rfl, rfl, rfl⟩ rfl rfl rfl rfl rfl (by kernel_rfl) Tryz.func7 (by kernel_rfl)
  (of_decide_eq_true (by kernel_rfl)) (by unfold Func.isWrapper; first | (rw [if_pos (by decide +kernel)]; kernel_rfl) | (rw [if_neg (by decide +kernel)]; exact ⟨rfl, rfl⟩))
  (fun os started H enc _ F => by rw [OpenClaim.pre_eq_preRow]; exact twiceR_lifted os started H enc F)
theorem twiceR_card : Rows.RpcTwiceCardSaid :=
 Claim7.holds_tied_plain_at .later [] [.data, .pinned] true (true, "6b6ab388c0a2ce7d3bd98f32de4f3be5c5e1d5e77e392e31e7b903bbf59d8935") true twiceR_holds (fun _ h => by cases h) (by kernel_rfl) (fun _ h => by cases h) rpcTwice_row_tie rfl ⟨rfl, rfl⟩ (by kernel_rfl) rfl
  (fun f fn hf hfn => by
   obtain rfl : f = 7 := Option.some.inj ((show Tryz.prog.funcNamed "potsherd/potsherdlaw12.RpcTwice" = some 7 by kernel_rfl).symm.trans hf) |>.symm
   obtain rfl : fn = Tryz.f7 := (Option.some.inj (Tryz.func7.symm.trans hfn)).symm
   exact ⟨by kernel_rfl, fun j t ht => by
    rw [Tryz.params7] at ht
    have hm : t ∈ [24, 27, 22] := by simpa using Array.mem_of_getElem? ht
    have hall : ([24, 27, 22].all fun u => !Tryz.prog.wantsStandIn u) = true := by kernel_rfl
    exact (show Tryz.prog.wantsStandIn t = false by simpa using List.all_eq_true.1 hall t hm)⟩)
  (by kernel_rfl)
#print axioms twiceR_card
end Go.Proofs.YtajomnfeicfdlaaGreatDoor

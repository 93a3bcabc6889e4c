/-
  The law ValueBags answers true for every two lists of rows that are together of bulk at most 1048576, and each reads behind the call as it read before: Sort and SameBag answer what the document's own definitions answer, and what is handed in stays.
  Condition: the bulk of the two lists is at most 1048576; the two tables of unicode/utf8 hold what the program's text lays (the card ties that).
-/
import Derived.Test.YtaekbmpiohmciaaDoorBagsWalk
import Derived.Test.YtaekbmpiohmciaaDoorOn
import Derived.Test.YtaekbmpiohmciaaDoorTabs
import Derived.Test.YtaekbmpiohmciaaDoorCards
import Derived.SevenTiedAt
import Derived.Stop.Joined
import Derived.Deep.DeepHandedRow
import Derived.Carry
namespace Go.Proofs.YtaekbmpiohmciaaDoor
open Go.ChangeShapes Go.WideShapes Go.ChangeAt Go.RowKit

theorem bulk_mem {H : Type} : ∀ {ds : List (DataW H)} {d : DataW H}, d ∈ ds → Rows.uptoBulk d ≤ Rows.uptoBulkAll ds
  | d0 :: ds, d, h => by
    simp only [Rows.uptoBulkAll]
    rcases List.mem_cons.1 h with rfl | h
    · omega
    · have := bulk_mem h; omega
theorem small_of {H : Type} {ds : List (DataW H)} (hk : Rows.uptoSmall H ds = true) {d : DataW H} (hd : d ∈ ds) {rs : List (List Val)} (hr : RowsD rs d) : ∀ r ∈ rs, SmallR r := by
  have h : Rows.uptoBulkAll ds ≤ 1048576 := of_decide_eq_true hk
  have h1 := bulk_mem hd
  intro r hrm x hx
  obtain ⟨i, hi, rfl⟩ := List.getElem_of_mem hrm
  rcases hr with ⟨rfl, _⟩ | ⟨es, sp, rfl, hl, he⟩
  · simp at hi
  · obtain ⟨e, e1, e2⟩ := he i hi
    have h2 := bulk_mem (List.mem_of_getElem? e1)
    rcases e2 with ⟨e2, _⟩ | ⟨sp', rfl⟩
    · rw [e2] at hx; simp at hx
    · have h3 := bulk_mem (ds := rs[i].map valD) (d := (valD x : DataW H)) (List.mem_map.2 ⟨x, hx, rfl⟩)
      simp only [Rows.uptoBulk, Rows.uptoBulkAll, valD] at h1 h2 h3
      have e : x.s.data.toList.length = x.s.size := by rw [Array.length_toList]; rfl
      omega
theorem bags_laidOut : laidOutB Tryd.prog = true := by kernel_rfl
theorem bags_met (os : Os) : laidMetH Tryd.prog Rows.valueBagsUptoRow.laid ((World.laidAll Tryd.prog os Rows.valueBagsUptoRow.laid).forCall (fun _ _ => 0) ⟨#[], #[.slice none 0 0, .slice none 0 0], []⟩).memory := by
  rw [MakeChecks.laidMetH_plain _ _ _ (by kernel_rfl)]
  exact laidMet_laidAll _ (by kernel_rfl) (by kernel_rfl)
theorem bags_reads (os : Os) {H : Type} (enc : TypeId × Value → H) : ∃ places, DataW.whole enc Tryd.prog ((World.laidAll Tryd.prog os Rows.valueBagsUptoRow.laid).forCall (fun _ _ => 0) ⟨#[], #[.slice none 0 0, .slice none 0 0], []⟩).memory Tryd.f6.params.toList Rows.valueBagsSpec.vars false #[Value.slice none 0 0, .slice none 0 0].toList 8
    = some ([.nil, .nil], [], places) :=
  ⟨[], by kernel_rfl⟩

set_option maxRecDepth 100000 in
theorem bags_lifted (os : Os) (started : os.Started) (H : Type) (enc : TypeId × Value → H) (F : Stop.Interp) :
    ReturnsInHanded {} Tryd.checked os 6 .any ((Rows.OpenSpec.upto Rows.valueBagsSpec).preRow enc Tryd.prog Tryd.f6 Rows.valueBagsUptoRow.domain false Rows.valueBagsUptoRow.laid) (((Rows.OpenSpec.upto Rows.valueBagsSpec).at F).post enc Tryd.prog Tryd.f6 false true false false) := by
  obtain ⟨places, hx⟩ := bags_reads os enc
  refine returnsInHanded_of_row (C := Tryd.checked) (s := Rows.OpenSpec.upto Rows.valueBagsSpec) own started (by kernel_rfl) Tryd.func6
    (witness_row_at (enc := enc) (C := Tryd.checked) false (World.laidAll Tryd.prog os Rows.valueBagsUptoRow.laid) #[.slice none 0 0, .slice none 0 0] (World.laidAll_os _ _ _) (by kernel_rfl) (by kernel_rfl) (by kernel_rfl)
      (OpenSpec.preRow_of_cond 8 hx (by kernel_rfl) (fun k hk => by cases hk; kernel_rfl) (by kernel_rfl) (bags_met os))) ?_
  intro W base args ds gs before hval0 hW _ hcond hsz0 hL _ _
  have hval : ∀ (j : Nat) t v, Tryd.f6.params[j]? = some t → args[j]? = some v → Value.okWide Tryd.prog W .any base t v := hval0
  have hW' := hW
  obtain ⟨p, q, hA0, hV, rfl, _, _⟩ := hW
  have hA : DataW.TrodAll enc Tryd.prog W 0 (fun _ => true) true Tryd.f6.params.toList args.toList ds p := hA0
  have hsz := hsz0
  rw [Tryd.params6] at hA hval hsz
  obtain ⟨v0, v1, d0, d1, p0, p1, rfl, rfl, rfl, h0, h1⟩ := trodAll_two hA
  obtain ⟨rfl, rfl⟩ := trodVars_none hV
  simp only [List.append_nil] at hW'
  have hlt : ∀ x ∈ p0 ++ p1, x.block < W.heap.size := fun x hx => by simpa using hW'.lt x hx
  obtain ⟨pz, lz, cz, rfl⟩ := okWide_slice Tryd.underlying34 (hval 0 34 v0 rfl rfl)
  obtain ⟨py, ly, cy, rfl⟩ := okWide_slice Tryd.underlying34 (hval 1 34 v1 rfl rfl)
  obtain ⟨rs, hrs, hrd⟩ : ∃ rs, RowsL W (.slice pz lz cz) rs ∧ RowsD rs d0 := by
    obtain ⟨fuel, hf⟩ := h0
    exact rows_read (v := .slice pz lz cz) (x := (d0, p0)) (by simpa [Value.cells] using hf)
  obtain ⟨ys, hys, hyd⟩ : ∃ rs, RowsL W (.slice py ly cy) rs ∧ RowsD rs d1 := by
    obtain ⟨fuel, hf⟩ := h1
    exact rows_read (v := .slice py ly cy) (x := (d1, p1)) (by simpa [Value.cells] using hf)
  have hk := hcond _ rfl
  simp only [List.append_nil] at hk
  have hsmall := small_of hk (d := d0) (by simp) hrd
  have hsm := rows_small hsz (j := 0) rfl rfl hrd
  obtain ⟨t, ht⟩ : ∃ t : Bool, t = true ↔ rs.Perm ys := by
    by_cases h : rs.Perm ys
    · exact ⟨true, by simpa using h⟩
    · exact ⟨false, by simpa using h⟩
  clear hA0 hval0 hsz0
  refine (bags_core _ _ rs ys W hrs hys hsm.1 hsm.2 hsmall (tabs_of hL) t ht).mono ?_
  rintro e W' ⟨rfl, bel⟩
  refine ⟨_, rfl, _, _, _, [], p0 ++ p1, [], hW', ?_, ?_, ?_, bel.frame _, fun h => by cases h⟩
  · exact trodAll_mk1 (shut_bool Tryd.underlying4 _)
  · exact trodAll_mk2 (Below.trod bags_laidOut (by kernel_rfl) (of_decide_eq_true (by kernel_rfl)) h0 bel (fun x hx => hlt x (List.mem_append.2 (.inl hx)))) (Below.trod bags_laidOut (by kernel_rfl) (of_decide_eq_true (by kernel_rfl)) h1 bel (fun x hx => hlt x (List.mem_append.2 (.inr hx))))
  · rfl

theorem bags_holds : Rows.ValueBagsUptoSaid :=
  OpenClaim.holds_of_cond 6 Tryd.f6 rfl rfl rfl rfl rfl rfl rfl ⟨rfl, rfl, rfl, rfl, rfl⟩ rfl rfl rfl rfl rfl (by kernel_rfl) Tryd.func6 (by kernel_rfl)
    (of_decide_eq_true (by kernel_rfl)) (by unfold Func.isWrapper; first | (rw [if_pos (by decide +kernel)]; kernel_rfl) | (rw [if_neg (by decide +kernel)]; exact ⟨rfl, rfl⟩))
    (fun os started H enc _ F => by rw [OpenClaim.pre_eq_preRow]; exact bags_lifted os started H enc F)
theorem bags_card : Rows.ValueBagsUptoCardSaid :=
  Claim7.holds_tied_plain_at .later [] [.data, .pinned] true (true, "c1cbc2ca91e9593c235d410f7eeb41398c0f297d6241f7ec3073b02d79036937") false bags_holds (fun _ h => by cases h) (by kernel_rfl) (fun _ h => by cases h) valueBagsUpto_row_tie rfl ⟨rfl, rfl⟩ (by kernel_rfl) rfl
    (fun f fn hf hfn => by
      obtain rfl : f = 6 := Option.some.inj ((show Tryd.prog.funcNamed "potsherd/potsherdlaw01.ValueBags" = some 6 by kernel_rfl).symm.trans hf) |>.symm
      obtain rfl : fn = Tryd.f6 := (Option.some.inj (Tryd.func6.symm.trans hfn)).symm
      exact ⟨by kernel_rfl, fun j t ht => by
        rw [Tryd.params6] at ht
        have hm : t ∈ [34, 34] := by simpa using Array.mem_of_getElem? ht
        have hall : ([34, 34].all fun u => !Tryd.prog.wantsStandIn u) = true := by kernel_rfl
        exact (show Tryd.prog.wantsStandIn t = false by simpa using List.all_eq_true.1 hall t hm)⟩)
    (by kernel_rfl)
#print axioms bags_card
end Go.Proofs.YtaekbmpiohmciaaDoor

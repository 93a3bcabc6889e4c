/-
  The law PlaceOwn answers true for every layout and every table, and each reads behind the call as it read before: what Split answers may be spoilt, the table stays.
  Condition: the two tables of unicode/utf8 hold what the program's text lays (the card ties that).
-/
import Derived.Test.YthfoijnjgdeaaabDoorOwnWalk
import Derived.Test.YthfoijnjgdeaaabDoorOt
import Derived.Test.YthfoijnjgdeaaabDoorTabs
import Derived.Test.YthfoijnjgdeaaabDoorCards
import Derived.SevenTiedAt
import Derived.Stop.Joined
import Derived.Deep.DeepHandedRow
import Derived.Carry
import Derived.SizedLaws
namespace Go.Proofs.YthfoijnjgdeaaabDoor
open Go.ChangeShapes Go.WideShapes Go.ChangeAt Go.RowKit

set_option maxRecDepth 100000 in
/-- A layout that is handed in. -/
theorem open_layout {H : Type} {enc : TypeId × Value → H} {W : World} {base : Nat} {v : Value} {d : DataW H} {ps : List MemPlace} (hv : Value.okWide Tryd.prog W .any base 23 v) (h : DataW.Trod enc Tryd.prog W 0 (fun _ => true) true 23 v d ps) :
    ∃ N S R : Int, v = .agg #[.int .i64 N, .int .i64 S, .int .i64 R] := by
  obtain ⟨v0, v1, v2, y0, y1, y2, m, rfl, rfl, rfl, h0, h1, h2⟩ := Go.Joins.open_agg3 Tryd.underlying23 (by kernel_rfl) (show Tryd.prog.cellsOf 23 = 3 by kernel_rfl) hv h
  obtain ⟨a, e0, _, _⟩ := DataW.trod_int Tryd.underlying3 h0
  obtain ⟨b, e1, _, _⟩ := DataW.trod_int Tryd.underlying3 h1
  obtain ⟨c, e2, _, _⟩ := DataW.trod_int Tryd.underlying3 h2
  simp only [List.cons.injEq, and_true] at e0 e1 e2
  subst e0 e1 e2
  exact ⟨a, b, c, rfl⟩
theorem bT35 : Tryd.prog.bytesOf 35 = 24 := by kernel_rfl
theorem bT38 : Tryd.prog.bytesOf 38 = 32 := by kernel_rfl
theorem weights_all {H : Type} {P : Program} {e : TypeId} : ∀ {ds : List (DataW H)} {d : DataW H}, d ∈ ds → ∀ n ∈ d.weights P e, n ∈ DataW.weightsAll P e ds
  | d0 :: ds, d, hd, n, hn => by
    simp only [DataW.weightsAll, List.mem_append]
    rcases List.mem_cons.1 hd with rfl | hd
    · exact .inl hn
    · exact .inr (weights_all hd n hn)
set_option maxRecDepth 100000 in
theorem row_weight {H : Type} {enc : TypeId × Value → H} {W : World} {fuel : Nat} {q : Option Addr} {m d : Nat} {x : DataW H × List MemPlace} (hf : DataW.trod enc Tryd.prog W 0 (fun _ => true) true fuel 35 [.slice q m d] = some x) : m = 0 ∨ ∃ k ∈ x.1.weights Tryd.prog 35, m * 32 ≤ k := by
  rcases Go.Deep.open_slice Tryd.underlying35 hf with ⟨hcs, hx⟩ | ⟨a, len, cap, m', n, D, Pl, hcs, hb, hl, hm, hmm, hx, hel⟩
  · simp only [List.cons.injEq, Value.slice.injEq, and_true] at hcs
    exact .inl hcs.2.1
  · simp only [List.cons.injEq, Value.slice.injEq, and_true] at hcs
    obtain ⟨_, rfl, _⟩ := hcs
    refine .inr ⟨(((List.range m).map D).length + ((List.range (m' - m)).map fun j => D (m + j)).length) * 32, ?_, ?_⟩
    · rw [hx]
      simp [DataW.weights, Tryd.underlying35, bT38]
    · simp only [List.length_map, List.length_range]
      omega
set_option maxRecDepth 100000 in
/-- How great a table's rows are. -/
theorem table_small {H : Type} {enc : TypeId × Value → H} {W : World} {base : Nat} {v : Value} {d : DataW H} {ps : List MemPlace} {ts : List TypeId} {ds : List (DataW H)} (h : (DataW.weightsEach Tryd.prog ts ds).all (· ≤ reachBytes) = true) {j : Nat} (hj : ts[j]? = some 27) (hd : ds[j]? = some d)
    (hv : Value.okWide Tryd.prog W .any base 27 v) (ht : DataW.Trod enc Tryd.prog W 0 (fun _ => true) true 27 v d ps) {a b : Value} {p : Option Addr} {rs : List (List Val)} {c : Nat} (e : v = .agg #[a, b, .slice p rs.length c]) (hr : RowsA W p rs) : (rs.length + 1) * 24 ≤ 140737488355328 ∧ ∀ r ∈ rs, r.length * 32 ≤ 140737488355328 := by
  have hb : reachBytes = 140737488351232 := rfl
  obtain ⟨v0, v1, v2, y0, y1, y2, m, rfl, rfl, rfl, h0, h1, h2⟩ := Go.Joins.open_agg3 Tryd.underlying27 (by kernel_rfl) (show Tryd.prog.cellsOf 27 = 3 by kernel_rfl) hv ht
  simp only [Value.agg.injEq, Array.mk.injEq, List.cons.injEq, and_true] at e
  obtain ⟨rfl, rfl, rfl⟩ := e
  have hw : ∀ x ∈ y2.1.weights Tryd.prog 25, x ∈ DataW.weightsEach Tryd.prog ts ds := fun x hx => by
    refine DataW.weights_mem_each hj hd _ ?_
    rw [DataW.weights, Tryd.underlying27]
    exact DataW.weights_mem_each (j := 2) rfl rfl x hx
  rcases Go.Deep.open_slice1 Tryd.underlying25 (show Tryd.prog.cellsOf 35 = 1 by kernel_rfl) h2 with ⟨hcs, hx⟩ | ⟨ad, len, cap, m', n', V, D, Pl, hcs, hb', hl, hm, hmm, hx, hel⟩
  · simp only [List.cons.injEq, Value.slice.injEq, and_true] at hcs
    obtain ⟨_, h0, _⟩ := hcs
    have : rs = [] := List.eq_nil_of_length_eq_zero h0
    subst this
    simp
  · simp only [List.cons.injEq, Value.slice.injEq, and_true] at hcs
    obtain ⟨rfl, rfl, _⟩ := hcs
    simp only [if_true] at hmm
    subst hmm
    refine ⟨?_, fun r hrm => ?_⟩
    · have hmem : (((List.range rs.length).map D).length + ((List.range (m' - rs.length)).map fun j => D (rs.length + j)).length) * 24 ∈ DataW.weightsEach Tryd.prog ts ds := by
        refine hw _ ?_
        rw [hx]
        simp [DataW.weights, Tryd.underlying25, bT35]
      have := List.all_eq_true.1 h _ hmem
      simp at this
      omega
    · obtain ⟨i, hi, rfl⟩ := List.getElem_of_mem hrm
      obtain ⟨bb, o, ep, hlt, hc⟩ := hr.2 (by omega)
      obtain rfl := Option.some.inj ep
      obtain ⟨q, mm, dd, g1, g2⟩ := hc i hi
      obtain ⟨g3, g4⟩ := hel i (by omega)
      have g3' : W.cell? ⟨bb, o + i, none⟩ = some (V i) := by rwa [Go.WideShapes.add_plain] at g3
      rw [g3'] at g1
      obtain ⟨_, _, ev, _⟩ := g2
      simp only [Value.slice.injEq] at ev
      obtain ⟨rfl, rfl, rfl⟩ := ev
      rw [Option.some.inj g1] at g4
      rcases row_weight g4 with h0 | ⟨k, hk, hle⟩
      · omega
      · have hmem : k ∈ DataW.weightsEach Tryd.prog ts ds := by
          refine hw _ ?_
          rw [hx]
          simp only [DataW.weights, Tryd.underlying25, List.mem_cons, List.mem_append]
          exact .inr (.inl (weights_all (List.mem_map.2 ⟨i, List.mem_range.2 hi, rfl⟩) _ hk))
        have := List.all_eq_true.1 h _ hmem
        simp only [decide_eq_true_eq] at this
        omega
theorem ownp_laidOut : laidOutB Tryd.prog = true := by kernel_rfl
theorem ownp_met (os : Os) : laidMetH Tryd.prog Rows.placeOwnRow.laid ((World.laidAll Tryd.prog os Rows.placeOwnRow.laid).forCall (fun _ _ => 0) ⟨#[], #[.agg #[.int .i64 0, .int .i64 0, .int .i64 0], .agg #[.string ⟨#[]⟩, .slice none 0 0, .slice none 0 0]], []⟩).memory := by
  rw [MakeChecks.laidMetH_plain _ _ _ (by kernel_rfl)]
  exact laidMet_laidAll _ (by kernel_rfl) (by kernel_rfl)
theorem ownp_reads (os : Os) {H : Type} (enc : TypeId × Value → H) : ∃ places, DataW.whole enc Tryd.prog ((World.laidAll Tryd.prog os Rows.placeOwnRow.laid).forCall (fun _ _ => 0) ⟨#[], #[.agg #[.int .i64 0, .int .i64 0, .int .i64 0], .agg #[.string ⟨#[]⟩, .slice none 0 0, .slice none 0 0]], []⟩).memory Tryd.f3.params.toList Rows.placeOwnSpec.vars false #[Value.agg #[.int .i64 0, .int .i64 0, .int .i64 0], .agg #[.string ⟨#[]⟩, .slice none 0 0, .slice none 0 0]].toList 8
    = some ([.agg [.lit (.int .i64 0), .lit (.int .i64 0), .lit (.int .i64 0)], .agg [.lit (.string []), .nil, .nil]], [], places) :=
  ⟨[], by kernel_rfl⟩

set_option maxRecDepth 100000 in
theorem ownp_lifted (os : Os) (started : os.Started) (H : Type) (enc : TypeId × Value → H) (F : Stop.Interp) :
    ReturnsInHanded {} Tryd.checked os 3 .any ((OpenSpec.ofChange Rows.placeOwnSpec).preRow enc Tryd.prog Tryd.f3 Rows.placeOwnRow.domain false Rows.placeOwnRow.laid) (((OpenSpec.ofChange Rows.placeOwnSpec).at F).post enc Tryd.prog Tryd.f3 false true false false) := by
  obtain ⟨places, hx⟩ := ownp_reads os enc
  refine returnsInHanded_of_row (C := Tryd.checked) (s := OpenSpec.ofChange Rows.placeOwnSpec) own started (by kernel_rfl) Tryd.func3
    (witness_row_at (enc := enc) (C := Tryd.checked) false (World.laidAll Tryd.prog os Rows.placeOwnRow.laid) #[.agg #[.int .i64 0, .int .i64 0, .int .i64 0], .agg #[.string ⟨#[]⟩, .slice none 0 0, .slice none 0 0]] (World.laidAll_os _ _ _) (by kernel_rfl) (by kernel_rfl) (by kernel_rfl)
      (OpenSpec.preRow_of_cond 8 hx (by kernel_rfl) (fun k hk => by cases hk) (by kernel_rfl) (ownp_met os))) ?_
  intro W base args ds gs before hval0 hW _ _ hsz0 hL _ _
  have hval : ∀ (j : Nat) t v, Tryd.f3.params[j]? = some t → args[j]? = some v → Value.okWide Tryd.prog W .any base t v := hval0
  have hW' := hW
  obtain ⟨p, q, hA0, hV, rfl, _, _⟩ := hW
  have hA : DataW.TrodAll enc Tryd.prog W 0 (fun _ => true) true Tryd.f3.params.toList args.toList ds p := hA0
  have hsz := hsz0
  rw [Tryd.params3] at hA hval hsz
  obtain ⟨v0, v1, d0, d1, p0, p1, rfl, rfl, rfl, h0, h1⟩ := trodAll_two hA
  obtain ⟨rfl, rfl⟩ := trodVars_none hV
  simp only [List.append_nil] at hW'
  have hlt : ∀ x ∈ p0 ++ p1, x.block < W.heap.size := fun x hx => by simpa using hW'.lt x hx
  obtain ⟨N, S, R, rfl⟩ := open_layout (hval 0 23 v0 rfl rfl) h0
  obtain ⟨nm, pc, mc, cc, cs, pr, cr, rs, rfl, hs, hc, hr, hk⟩ := open_table (hval 1 27 v1 rfl rfl) h1
  have hn := table_small hsz (j := 1) rfl rfl (hval 1 27 _ rfl rfl) h1 rfl hr
  clear hA0 hval0 hsz0
  refine (own_core N S R nm pc mc cc cs pr cr rs W hs (tabs_of hL) hc hr hk hn.1 hn.2).mono ?_
  rintro e W' ⟨rfl, bel⟩
  refine ⟨_, rfl, _, _, _, [], p0 ++ p1, [], hW', ?_, ?_, ?_, bel.frame _, fun h => by cases h⟩
  · exact trodAll_mk1 (shut_bool Tryd.underlying4 _)
  · exact trodAll_mk2 (Below.trod ownp_laidOut (by kernel_rfl) (of_decide_eq_true (by kernel_rfl)) h0 bel (fun x hx => hlt x (List.mem_append.2 (.inl hx)))) (Below.trod ownp_laidOut (by kernel_rfl) (of_decide_eq_true (by kernel_rfl)) h1 bel (fun x hx => hlt x (List.mem_append.2 (.inr hx))))
  · rfl

theorem ownp_holds : Rows.PlaceOwnSaid :=
  OpenClaim.holds_of_cond 3 Tryd.f3 rfl rfl rfl rfl rfl rfl rfl ⟨rfl, rfl, rfl, rfl, rfl⟩ rfl rfl rfl rfl rfl (by kernel_rfl) Tryd.func3 (by kernel_rfl)
    (of_decide_eq_true (by kernel_rfl)) (by unfold Func.isWrapper; first | (rw [if_pos (by decide +kernel)]; kernel_rfl) | (rw [if_neg (by decide +kernel)]; exact ⟨rfl, rfl⟩))
    (fun os started H enc _ F => by rw [OpenClaim.pre_eq_preRow]; exact ownp_lifted os started H enc F)
theorem ownp_card : Rows.PlaceOwnCardSaid :=
  Claim7.holds_tied_plain_at .later [] [.data, .pinned] true (true, "c49a019e792a557f2cfafd7c748ea94aae306c5951e712a0c53b8aba56bb5d0b") false ownp_holds (fun _ h => by cases h) (by kernel_rfl) (fun _ h => by cases h) placeOwn_row_tie rfl ⟨rfl, rfl⟩ (by kernel_rfl) rfl
    (fun f fn hf hfn => by
      obtain rfl : f = 3 := Option.some.inj ((show Tryd.prog.funcNamed "potsherd/potsherdlaw06.PlaceOwn" = some 3 by kernel_rfl).symm.trans hf) |>.symm
      obtain rfl : fn = Tryd.f3 := (Option.some.inj (Tryd.func3.symm.trans hfn)).symm
      exact ⟨by kernel_rfl, fun j t ht => by
        rw [Tryd.params3] at ht
        have hm : t ∈ [23, 27] := by simpa using Array.mem_of_getElem? ht
        have hall : ([23, 27].all fun u => !Tryd.prog.wantsStandIn u) = true := by kernel_rfl
        exact (show Tryd.prog.wantsStandIn t = false by simpa using List.all_eq_true.1 hall t hm)⟩)
    (by kernel_rfl)
#print axioms ownp_card
end Go.Proofs.YthfoijnjgdeaaabDoor

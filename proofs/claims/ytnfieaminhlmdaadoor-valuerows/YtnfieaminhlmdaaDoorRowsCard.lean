/-
  The law ValueRows answers true for every row, every list of columns and every value, and each reads behind the call as it read before: a row is right of columns just if each of its values is, column by column; with a value more it is not.
  Condition: the two tables of unicode/utf8 hold what the program's text lays (the card ties that).
-/
import Derived.Test.YtnfieaminhlmdaaDoorRowsWalk
import Derived.Test.YtnfieaminhlmdaaDoorOm
import Derived.Test.YtnfieaminhlmdaaDoorVal
import Derived.Test.YtnfieaminhlmdaaDoorTabs
import Derived.Test.YtnfieaminhlmdaaDoorCards
import Derived.SevenTiedAt
import Derived.Stop.Joined
import Derived.Deep.DeepHandedRow
import Derived.Carry
import Derived.SizedLaws
namespace Go.Proofs.YtnfieaminhlmdaaDoor
open Go.ChangeShapes Go.WideShapes Go.ChangeAt Go.RowKit

theorem rows_any (p q : Option Addr) (c1 c2 : Nat) (xs : List Val) (ks : List Int) (vk : Int) (vb : Bool) (vn : Int) (vs : ByteArray) (w : World) (hT : Lib.Utf8Tabs 0 1 w) (hn : (xs.length + 1) * 32 ≤ 140737488355328) (hm : ks.length ≤ 9223372036854775807)
    (hs : ∀ x ∈ xs, x.s.size ≤ 9223372036854775807) (hr : RowC w p xs) (h1 : 0 < xs.length → ∃ b o, p = some ⟨b, o, none⟩ ∧ RowIs w b o xs ∧ b < w.heap.size) (h2 : 0 < ks.length → ∃ b o, q = some ⟨b, o, none⟩ ∧ ColIs w b o ks ∧ b < w.heap.size) :
    Calls Tryd.prog 6 #[.slice p xs.length c1, .slice q ks.length c2, .agg #[.int .u8 vk, .bool vb, .int .i64 vn, .string vs]] w fun e w' => e = .returned (.bool true) ∧ Below w.heap.size w w' := by
  by_cases hl : xs.length = ks.length
  · have ht : ((xs.length : Int) == (ks.length : Int)) = true := by rw [beq_iff_eq]; omega
    refine rows_core p q ks.length c1 c2 xs ks vk vb vn vs w hT true ht hn hm hr hs ?_ (chkRow xs ks) (by show _ = _; rfl) ?_
    · intro _ h0
      obtain ⟨b1, o1, rfl, hx, hb1⟩ := h1 h0
      obtain ⟨b2, o2, rfl, hk, hb2⟩ := h2 (by omega)
      exact ⟨b1, o1, b2, o2, rfl, rfl, hx, hk, hb1, hb2, hl.symm⟩
    · intro W hb
      by_cases h0 : 0 < xs.length
      · obtain ⟨b1, o1, rfl, hx, hb1⟩ := h1 h0
        obtain ⟨b2, o2, rfl, hk, hb2⟩ := h2 (by omega)
        rw [← hl]
        exact checkRow_some b1 o1 c1 b2 o2 c2 xs ks W hl.symm (fun j hj => by
            obtain ⟨a0, a1, a2, a3⟩ := hx j hj
            rw [hb.cell hb1, hb.cell hb1, hb.cell hb1, hb.cell hb1]
            exact ⟨a0, a1, a2, a3⟩) (fun j hj => by rw [hb.cell hb2]; exact hk j hj) (by omega) (Nat.lt_of_lt_of_le hb1 hb.size) (Nat.lt_of_lt_of_le hb2 hb.size) hs (Utf8Tabs_below hT hb)
      · have e1 : xs = [] := List.eq_nil_of_length_eq_zero (by omega)
        have e2 : ks = [] := List.eq_nil_of_length_eq_zero (by omega)
        subst e1 e2
        refine (checkRow_zero p q c1 c2 W).mono ?_
        rintro e w' ⟨rfl, rfl⟩
        exact ⟨rfl, Below.refl _ _⟩
  · have ht : ((xs.length : Int) == (ks.length : Int)) = false := by rw [beq_eq_false_iff_ne]; omega
    refine rows_core p q ks.length c1 c2 xs ks vk vb vn vs w hT false ht hn hm hr hs (fun h => by cases h) 3 (by show _ = _; rfl) ?_
    intro W hb
    refine (checkRow_many p q xs.length ks.length c1 c2 W hl (by omega) (by omega)).mono ?_
    rintro e w' ⟨rfl, rfl⟩
    exact ⟨rfl, Below.refl _ _⟩

theorem rows_laidOut : laidOutB Tryd.prog = true := by kernel_rfl
theorem rows_bytes : Tryd.checked.prog.bytesOf 30 = 32 := by kernel_rfl
theorem rows_met (os : Os) : laidMetH Tryd.prog Rows.valueRowsRow.laid ((World.laidAll Tryd.prog os Rows.valueRowsRow.laid).forCall (fun _ _ => 0) ⟨#[], #[.slice none 0 0, .slice none 0 0, .agg #[.int .u8 0, .bool false, .int .i64 0, .string ⟨#[]⟩]], []⟩).memory := by
  rw [MakeChecks.laidMetH_plain _ _ _ (by kernel_rfl)]
  exact laidMet_laidAll _ (by kernel_rfl) (by kernel_rfl)
theorem rows_reads (os : Os) {H : Type} (enc : TypeId × Value → H) : ∃ places, DataW.whole enc Tryd.prog ((World.laidAll Tryd.prog os Rows.valueRowsRow.laid).forCall (fun _ _ => 0) ⟨#[], #[.slice none 0 0, .slice none 0 0, .agg #[.int .u8 0, .bool false, .int .i64 0, .string ⟨#[]⟩]], []⟩).memory Tryd.f6.params.toList Rows.valueRowsSpec.vars false #[Value.slice none 0 0, .slice none 0 0, .agg #[.int .u8 0, .bool false, .int .i64 0, .string ⟨#[]⟩]].toList 8
    = some ([.nil, .nil, .agg [.lit (.int .u8 0), .lit (.bool false), .lit (.int .i64 0), .lit (.string [])]], [], places) :=
  ⟨[], by kernel_rfl⟩

set_option maxRecDepth 100000 in
theorem rows_lifted (os : Os) (started : os.Started) (H : Type) (enc : TypeId × Value → H) (F : Stop.Interp) :
    ReturnsInHanded {} Tryd.checked os 6 .any ((OpenSpec.ofChange Rows.valueRowsSpec).preRow enc Tryd.prog Tryd.f6 Rows.valueRowsRow.domain false Rows.valueRowsRow.laid) (((OpenSpec.ofChange Rows.valueRowsSpec).at F).post enc Tryd.prog Tryd.f6 false true false false) := by
  obtain ⟨places, hx⟩ := rows_reads os enc
  refine returnsInHanded_of_row (C := Tryd.checked) (s := OpenSpec.ofChange Rows.valueRowsSpec) own started (by kernel_rfl) Tryd.func6
    (witness_row_at (enc := enc) (C := Tryd.checked) false (World.laidAll Tryd.prog os Rows.valueRowsRow.laid) #[.slice none 0 0, .slice none 0 0, .agg #[.int .u8 0, .bool false, .int .i64 0, .string ⟨#[]⟩]] (World.laidAll_os _ _ _) (by kernel_rfl) (by kernel_rfl) (by kernel_rfl)
      (OpenSpec.preRow_of_cond 8 hx (by kernel_rfl) (fun k hk => by cases hk) (by kernel_rfl) (rows_met os))) ?_
  intro W base args ds gs before hval0 hW _ _ hsz0 hL _ _
  have hval : ∀ (j : Nat) t v, Tryd.f6.params[j]? = some t → args[j]? = some v → Value.okWide Tryd.prog W .any base t v := hval0
  have hW' := hW
  obtain ⟨p, q, hA0, hV, rfl, _, _⟩ := hW
  have hA : DataW.TrodAll enc Tryd.prog W 0 (fun _ => true) true Tryd.f6.params.toList args.toList ds p := hA0
  have hsz := hsz0
  rw [Tryd.params6] at hA hval hsz
  obtain ⟨v0, v1, v2, d0, d1, d2, p0, p1, p2, rfl, rfl, rfl, h0, h1, h2⟩ := trodAll_three hA
  obtain ⟨rfl, rfl⟩ := trodVars_none hV
  obtain ⟨vk, vb, vn, vs, rfl, rfl, rfl, wk, wn, ws⟩ := open_val (hval 2 30 v2 rfl rfl) h2
  simp only [List.append_nil] at hW'
  have hlt : ∀ x ∈ p0 ++ p1, x.block < W.heap.size := fun x hx => by simpa using hW'.lt x hx
  obtain ⟨pp, cp, xs, rfl, lx, sx, rx, ox, zx⟩ := open_row (hval 0 38 v0 rfl rfl) h0
  obtain ⟨pq, cq, ks, rfl, lk, ok⟩ := open_cols (hval 1 41 v1 rfl rfl) h1
  clear hA0 hval0 hsz0
  have hn : (xs.length + 1) * 32 ≤ 140737488355328 := by
    rcases zx with rfl | ⟨es, sp, rfl, he⟩
    · simp
    · have := sized_slice hsz (j := 0) rfl rfl Tryd.underlying38
      rw [rows_bytes, he] at this
      have hb : reachBytes = 140737488351232 := rfl
      omega
  refine (rows_any pp pq cp cq xs ks vk vb vn vs W (tabs_of hL) hn (by unfold maxLen at lk; omega) (fun x hx => by have := sx x hx; unfold maxLen at this; omega) rx ox ok).mono ?_
  rintro e W' ⟨rfl, bel⟩
  refine ⟨_, rfl, _, _, _, [], p0 ++ (p1 ++ []), [], hW', ?_, ?_, ?_, bel.frame _, fun h => by cases h⟩
  · exact trodAll_mk1 (shut_bool Tryd.underlying4 _)
  · exact trodAll_mk3 (Below.trod rows_laidOut (by kernel_rfl) (of_decide_eq_true (by kernel_rfl)) h0 bel (fun x hx => hlt x (List.mem_append.2 (.inl hx)))) (Below.trod rows_laidOut (by kernel_rfl) (of_decide_eq_true (by kernel_rfl)) h1 bel (fun x hx => hlt x (List.mem_append.2 (.inr hx)))) (shut_val wk wn ws)
  · rfl

theorem rows_holds : Rows.ValueRowsSaid :=
  OpenClaim.holds_of_cond 6 Tryd.f6 rfl rfl rfl rfl rfl rfl rfl ⟨rfl, rfl, rfl, rfl, rfl⟩ rfl rfl rfl rfl rfl (by kernel_rfl) Tryd.func6 (by kernel_rfl)
    (of_decide_eq_true (by kernel_rfl)) (by unfold Func.isWrapper; first | (rw [if_pos (by decide +kernel)]; kernel_rfl) | (rw [if_neg (by decide +kernel)]; exact ⟨rfl, rfl⟩))
    (fun os started H enc _ F => by rw [OpenClaim.pre_eq_preRow]; exact rows_lifted os started H enc F)
theorem rows_card : Rows.ValueRowsCardSaid :=
  Claim7.holds_tied_plain_at .later [] [.data, .pinned] true (true, "9346c0f0ebc87260b555630d5f10bc13e12f572dd34aa1fb5255ca59a33bedc3") false rows_holds (fun _ h => by cases h) (by kernel_rfl) (fun _ h => by cases h) valueRows_row_tie rfl ⟨rfl, rfl⟩ (by kernel_rfl) rfl
    (fun f fn hf hfn => by
      obtain rfl : f = 6 := Option.some.inj ((show Tryd.prog.funcNamed "potsherd/potsherdlaw01.ValueRows" = some 6 by kernel_rfl).symm.trans hf) |>.symm
      obtain rfl : fn = Tryd.f6 := (Option.some.inj (Tryd.func6.symm.trans hfn)).symm
      exact ⟨by kernel_rfl, fun j t ht => by
        rw [Tryd.params6] at ht
        have hm : t ∈ [38, 41, 30] := by simpa using Array.mem_of_getElem? ht
        have hall : ([38, 41, 30].all fun u => !Tryd.prog.wantsStandIn u) = true := by kernel_rfl
        exact (show Tryd.prog.wantsStandIn t = false by simpa using List.all_eq_true.1 hall t hm)⟩)
    (by kernel_rfl)
#print axioms rows_card
end Go.Proofs.YtnfieaminhlmdaaDoor

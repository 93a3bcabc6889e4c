/-
  The law LexReads answers true for every text and every token, and each reads behind the call as it read before: Lex and Show answer what the document's own definitions answer.
  Condition: the tables of internal/strconv and math/bits and the two errors of strconv hold what the program text lays (the card ties that).
-/
import Derived.Test.YtimnnebmjapneaaDoorReadsWalk
import Derived.Test.YtimnnebmjapneaaDoorTabs
import Derived.Test.YtimnnebmjapneaaDoorCards
import Derived.ProofKit
import Derived.OpenShut
import Derived.SevenTiedAt
import Derived.Stop.Joined
import Derived.SizedLaws
import Derived.Lib.SmallJoins
namespace Go.Proofs.YtimnnebmjapneaaDoor
open Go.ChangeShapes Go.WideShapes Go.ChangeAt Go.RowKit Go.Joins
open Go.ChangeMaps (open_string shut_string)

theorem cells24 : Tryd.prog.cellsOf 24 = 4 := by kernel_rfl
set_option maxRecDepth 100000 in
theorem open_tok {H : Type} {enc : TypeId × Value → H} {W : World} {base b0 : Nat} {v : Value} {d : DataW H} {p : List MemPlace} (hv : Value.okWide Tryd.prog W .any base 24 v)
    (h : DataW.Trod enc Tryd.prog W b0 (fun _ => true) true 24 v d p) :
    ∃ (k : Int) (s : ByteArray) (n a : Int), v = .agg #[.int .u8 k, .string s, .int .i64 n, .int .i64 a] ∧ d = .agg [.lit (.int .u8 k), .lit (.string s.data.toList), .lit (.int .i64 n), .lit (.int .i64 a)] ∧ p = [] ∧
      (Lit.int .u8 k).wf = true ∧ s.size ≤ maxLen ∧ (Lit.int .i64 n).wf = true ∧ (Lit.int .i64 a).wf = true := by
  obtain ⟨v0, v1, v2, v3, y0, y1, y2, y3, m, rfl, rfl, rfl, h0, h1, h2, h3⟩ := open_agg4 Tryd.underlying24 (by kernel_rfl) cells24 hv h
  obtain ⟨k, e0, rfl, wk⟩ := DataW.trod_int Tryd.underlying22 h0
  obtain ⟨s, e1, rfl, ws⟩ := DataW.trod_string Tryd.underlying9 h1
  obtain ⟨n, e2, rfl, wn⟩ := DataW.trod_int Tryd.underlying2 h2
  obtain ⟨a, e3, rfl, wa⟩ := DataW.trod_int Tryd.underlying3 h3
  simp only [List.cons.injEq, and_true] at e0 e1 e2 e3
  subst e0 e1 e2 e3
  exact ⟨k, s, n, a, rfl, rfl, rfl, wk, ws, wn, wa⟩
set_option maxRecDepth 100000 in
theorem shut_tok {H : Type} {enc : TypeId × Value → H} {W : World} {b0 : Nat} {sp : Nat → Bool} {k n a : Int} {s : ByteArray} (wk : (Lit.int .u8 k).wf = true) (ws : s.size ≤ maxLen) (wn : (Lit.int .i64 n).wf = true) (wa : (Lit.int .i64 a).wf = true) :
    DataW.Trod enc Tryd.prog W b0 sp true 24 (.agg #[.int .u8 k, .string s, .int .i64 n, .int .i64 a]) (.agg [.lit (.int .u8 k), .lit (.string s.data.toList), .lit (.int .i64 n), .lit (.int .i64 a)]) [] :=
  shut_agg4 (y0 := (.lit (.int .u8 k), [])) (y1 := (.lit (.string s.data.toList), [])) (y2 := (.lit (.int .i64 n), [])) (y3 := (.lit (.int .i64 a), [])) Tryd.underlying24 (by kernel_rfl) cells24
    ⟨1, by simp [DataW.trod, Tryd.underlying22, wk]⟩ ⟨1, by simp [DataW.trod, Tryd.underlying9, ws]⟩ ⟨1, by simp [DataW.trod, Tryd.underlying2, wn]⟩ ⟨1, by simp [DataW.trod, Tryd.underlying3, wa]⟩
theorem sized_tok {H : Type} {ts : List TypeId} {ds : List (DataW H)} (h : (DataW.weightsEach Tryd.prog ts ds).all (· ≤ reachBytes) = true) {j : Nat} {a c d : DataW H} {bytes : List UInt8} (ht : ts[j]? = some 24) (hd : ds[j]? = some (.agg [a, .lit (.string bytes), c, d])) : bytes.length ≤ reachBytes := by
  have := List.all_eq_true.1 h _ (DataW.weights_mem_each ht hd bytes.length (by simp [DataW.weights, Tryd.underlying24, DataW.weightsEach]))
  simpa using this

set_option maxRecDepth 100000 in
theorem reads_lifted (os : Os) (started : os.Started) (H : Type) (enc : TypeId × Value → H) :
    ReturnsInHanded {} Tryd.checked os 3 .any (fun w args => (Rows.lexReadsSpec.pre enc Tryd.prog Tryd.f3 Rows.lexReadsRow.domain false w args ∧ laidMetH Tryd.prog Rows.lexReadsRow.laid w) ∧ sizedMet enc Tryd.prog Tryd.f3 (OpenSpec.ofChange Rows.lexReadsSpec) false w args)
      (Rows.lexReadsSpec.post enc Tryd.prog Tryd.f3 false true false false) := by
  refine returnsInHanded_of_change_and (C := Tryd.checked) (X := fun w _ => laidMetH Tryd.prog Rows.lexReadsRow.laid w) (fun _ _ _ hh h => h.of_heap hh) own started (by kernel_rfl) Tryd.func3
    (ChangeSpec.witness_shaped (enc := enc) (C := Tryd.checked) (os := os) (X := fun w _ => laidMetH Tryd.prog Rows.lexReadsRow.laid w) false (World.laidAll Tryd.prog os Rows.lexReadsRow.laid) #[.string ⟨#[]⟩, .agg #[.int .u8 0, .string ⟨#[]⟩, .int .i64 0, .int .i64 0]] 8 (World.laidAll_os _ _ _)
      (World.shaped_of_ZipB (by kernel_rfl) (by kernel_rfl)) (by kernel_rfl) (by kernel_rfl) (by kernel_rfl)
      (by rw [MakeChecks.laidMetH_plain _ _ _ (by kernel_rfl)]; exact laidMet_laidAll _ (by kernel_rfl) (by kernel_rfl))) ?_
  intro W base args ds gs before hval0 hW _ hsz hL _
  have hval : ∀ (j : Nat) t v, Tryd.f3.params[j]? = some t → args[j]? = some v → Value.okWide Tryd.prog W .any base t v := hval0
  have hW' := hW
  obtain ⟨p, q, hA0, hV, rfl, _, _⟩ := hW
  have hA : DataW.TrodAll enc Tryd.prog W 0 (fun _ => true) true Tryd.f3.params.toList args.toList ds p := hA0
  rw [Tryd.params3] at hA hval
  obtain ⟨v0, v1, d0, d1, p0, p1, rfl, rfl, rfl, h0, h1⟩ := trodAll_two hA
  obtain ⟨rfl, rfl⟩ := trodVars_none hV
  obtain ⟨s, rfl, rfl, rfl, ws⟩ := open_string Tryd.underlying9 (hval 0 9 v0 rfl rfl) h0
  obtain ⟨k, tx, n, a, rfl, rfl, rfl, wk, wt, wn, wa⟩ := open_tok (hval 1 24 v1 rfl rfl) h1
  clear hA0 hval0
  simp only [List.append_nil] at hW'
  have hla := sized_string hsz (j := 0) (t := 9) rfl rfl
  have hlb : s.size ≤ 9223372036854775807 := by rw [Lib.size_eq]; exact Nat.le_trans hla (by decide)
  have hta := sized_tok hsz (j := 1) rfl rfl
  have htb : tx.data.toList.length ≤ 140737488355328 := Nat.le_trans hta (by decide)
  have hub := bounds_i64 wn
  have core := reads_core s ⟨k, tx.data.toList, n, a⟩ W (glob_of (l := Rows.lexReadsRow.laid) (by have h := hL; rw [MakeChecks.laidMetH_plain _ _ _ (by kernel_rfl)] at h; exact h) (.tail _ (.tail _ (.head _))) (.tail _ (.tail _ (.tail _ (.tail _ (.head _))))) (.tail _ (.tail _ (.tail _ (.head _)))) (.tail _ (.head _))) hlb htb hub.1 hub.2
  have etx : (⟨tx.data.toList.toArray⟩ : ByteArray) = tx := by simp
  simp only [Tok.v, etx] at core
  refine core.mono ?_
  rintro e W' ⟨rfl, bel⟩
  refine ⟨_, rfl, _, _, _, [], [], [], hW', ?_, ?_, ?_, bel.frame _, fun h => by cases h⟩
  · exact trodAll_mk1 (shut_bool Tryd.underlying4 _)
  · exact trodAll_mk2 (shut_string Tryd.underlying9 ws) (shut_tok wk wt wn wa)
  · rfl

theorem reads_holds : Rows.LexReadsSaid :=
  OpenClaim.holds_of_wide 3 Tryd.f3 rfl rfl rfl rfl rfl rfl rfl ⟨rfl, rfl, rfl, rfl, rfl⟩ rfl rfl rfl rfl rfl (by kernel_rfl) Tryd.func3 (by kernel_rfl)
    (of_decide_eq_true (by kernel_rfl)) (by unfold Func.isWrapper; first | (rw [if_pos (by decide +kernel)]; kernel_rfl) | (rw [if_neg (by decide +kernel)]; exact ⟨rfl, rfl⟩))
    (fun os started H enc _ => reads_lifted os started H enc)
theorem reads_card : Rows.LexReadsCardSaid :=
  Claim7.holds_tied_plain_at .later [] _ _ _ _ reads_holds (fun _ h => by cases h) (by kernel_rfl) (fun _ h => by cases h) lexReads_row_tie rfl ⟨rfl, rfl⟩ (by kernel_rfl) rfl
    (fun f fn hf hfn => by
      obtain rfl : f = 3 := Option.some.inj ((show Tryd.prog.funcNamed "potsherd/potsherdlaw02.LexReads" = some 3 by kernel_rfl).symm.trans hf) |>.symm
      obtain rfl : fn = Tryd.f3 := (Option.some.inj (Tryd.func3.symm.trans hfn)).symm
      exact ⟨by kernel_rfl, fun j t ht => by
        rw [Tryd.params3] at ht
        have hm : t ∈ [9, 24] := by simpa using Array.mem_of_getElem? ht
        have hall : ([9, 24].all fun u => !Tryd.prog.wantsStandIn u) = true := by kernel_rfl
        exact (show Tryd.prog.wantsStandIn t = false by simpa using List.all_eq_true.1 hall t hm)⟩)
    (by kernel_rfl)
#print axioms reads_card
end Go.Proofs.YtimnnebmjapneaaDoor

/- What is panicked with is caught. -/
import Derived.Test.YtnmmojhbcnlboaaGreatDoorQt
import Derived.Recover
namespace Go.Proofs.YtnmmojhbcnlboaaGreatDoor
open Go.Shelf Go.RowKit Go.Lib Go.Sort
set_option linter.unusedVariables false
set_option linter.unusedSimpArgs false
attribute [local go_sem ↓] Go.wp_at_zero Go.wp_at_succ
theorem sz_flt : (Tryz.prog.info? 76).map (·.size) = some 2 := by kernel_rfl
theorem assert51 (W : World) (v : Value) : (Instr.typeAssert (.iface 76 v) 20 76 false).run Tryz.prog W = .ok v W := by kernel_rfl
/-- Behind a fault: an empty query, and why and where. -/
def FaultAt (g1 g2 : Nat) (y a : Int) (w w' : World) : Prop := w'.heap[g1]? = some (.cells #[.slice none 0 0, .string ⟨#[]⟩, .string ⟨#[]⟩, .string ⟨#[]⟩, .string ⟨#[]⟩, .slice none 0 0, .slice none 0 0] 26 (0, 0)) ∧ w'.heap[g2]? = some (.cells #[.int .i64 y, .int .i64 a] 76 (0, 0)) ∧ Kept (fun b => b ≠ g1 ∧ b ≠ g2) w w'
set_option maxRecDepth 100000 in
set_option maxHeartbeats 4000000 in
theorem catch_fault (g1 g2 : Nat) (y a : Int) (w : World) (z1 z2 : Array Value) (h1 : z1.size = 7) (h2 : z2.size = 2) (hg1 : w.heap[g1]? = some (.cells z1 26 (0, 0))) (hg2 : w.heap[g2]? = some (.cells z2 76 (0, 0))) (hne : g1 ≠ g2) :
    CallsD Tryz.prog 56 #[.pointer (some ⟨g1, 0, none⟩), .pointer (some ⟨g2, 0, none⟩)] (.panicking [{ v := .iface 76 (.agg #[.int .i64 y, .int .i64 a]), recovered := false }]) w fun e u' w' => e = .returned (.tuple #[]) ∧ u' = .panicking [{ v := .iface 76 (.agg #[.int .i64 y, .int .i64 a]), recovered := true }] ∧ FaultAt g1 g2 y a w w' := by
  obtain ⟨w0, hw0⟩ : ∃ w0, w.drew = w0 := ⟨_, rfl⟩
  have hk0 : Kept (fun b => b ≠ g1 ∧ b ≠ g2) w w0 := by rw [← hw0]; exact (Kept.refl _ _).drew
  have hq1 : w0.heap[g1]? = some (.cells z1 26 (0, 0)) := by rw [← hw0]; exact hg1
  have hq2 : w0.heap[g2]? = some (.cells z2 76 (0, 0)) := by rw [← hw0]; exact hg2
  -- the query first
  obtain ⟨ta, A, hA, _, _, hkA⟩ := put_row w0 g1 z1 26 hq1 [.slice none 0 0, .string ⟨#[]⟩, .string ⟨#[]⟩, .string ⟨#[]⟩, .string ⟨#[]⟩, .slice none 0 0, .slice none 0 0] h1 Tryz.underlying26 rfl sz_qry
  have gA1 : A.heap[g1]? = some (.cells #[.slice none 0 0, .string ⟨#[]⟩, .string ⟨#[]⟩, .string ⟨#[]⟩, .string ⟨#[]⟩, .slice none 0 0, .slice none 0 0] 26 (0, 0)) := by rw [← hA]; exact box_full w0 g1 z1 26 hq1 [.slice none 0 0, .string ⟨#[]⟩, .string ⟨#[]⟩, .string ⟨#[]⟩, .string ⟨#[]⟩, .slice none 0 0, .slice none 0 0] h1
  have gA2 : A.heap[g2]? = some (.cells z2 76 (0, 0)) := (hkA.block g2 (Ne.symm hne)).trans hq2
  obtain ⟨tb, AB, hAB, _, _, hkAB⟩ := put_row A g2 z2 76 gA2 [.int .i64 y, .int .i64 a] h2 Tryz.underlying76 rfl sz_flt
  have gAB2 : AB.heap[g2]? = some (.cells #[.int .i64 y, .int .i64 a] 76 (0, 0)) := by rw [← hAB]; exact box_full A g2 z2 76 gA2 [.int .i64 y, .int .i64 a] h2
  have F1 : Hid (FaultAt g1 g2 y a w AB) := ⟨(hkAB.block g1 hne).trans gA1, gAB2, (hk0.trans (hkA.less fun b hb => hb.1)).trans (hkAB.less fun b hb => hb.2)⟩
  have HON1 : Hid ((#[.slice none 0 0, .string ⟨#[]⟩, .string ⟨#[]⟩, .string ⟨#[]⟩, .string ⟨#[]⟩, .slice none 0 0, .slice none 0 0] : Array Value).all (·.oneCell') = true) := by show _ = _; simp [Value.oneCell']
  have HON2 : Hid ((#[.int .i64 y, .int .i64 a] : Array Value).all (·.oneCell') = true) := by show _ = _; simp [Value.oneCell']
  have HTA := hid ta
  have HTB := hid tb
  have HA : Hid (w0.setCells g1 0 (#[.slice none 0 0, .string ⟨#[]⟩, .string ⟨#[]⟩, .string ⟨#[]⟩, .string ⟨#[]⟩, .slice none 0 0, .slice none 0 0] : Array Value).toList = A) := hA
  have HAB : Hid (A.setCells g2 0 (#[.int .i64 y, .int .i64 a] : Array Value).toList = AB) := hAB
  clear hk0 hq1 hq2 ta hA hkA gA1 gA2 tb hAB hkAB gAB2 hg1 hg2 h1 h2 hne
  refine callsD_of_wpS Tryz.func56 rfl fun c₀ cs hu => ?_
  simp only [Tryz.ntmps56, List.size_toArray, List.length_cons, List.length_nil, Nat.reduceAdd, Nat.reduceSub, Array.replicate_succ, Array.replicate_zero, List.push_toArray, List.append_toArray, List.nil_append, List.cons_append]
  apply wpS_seq
  apply wpS_region
  simp [wpOpsS, go_sem, recoverD, hu, Tryz.ntmps56, Exit.thenS]
  apply wpS_seq
  apply wpS_region
  simp [wpOpsS, go_sem, Exit.thenS]
  refine wpS_cond (t := true) (by simp [Act.eval, Array.replicate]) ?_
  simp only [if_true]
  refine wpS_of_wp ?_
  refine wp_region_held_drew (S := fun V => True) (by kernel_rfl) trivial (fun hHeld => ?_)
  refine wpAnyH_take (i := 0) (v := .agg #[.slice none 0 0, .string ⟨#[]⟩, .string ⟨#[]⟩, .string ⟨#[]⟩, .string ⟨#[]⟩, .slice none 0 0, .slice none 0 0]) rfl (by kernel_rfl) (by kernel_rfl) (by kernel_rfl) (fun _ _ _ h => h) (.inl ⟨by rfl, fun W hW => by go_simp⟩) hHeld ?_
  simp only [Act.put, List.getElem_toArray, List.getElem_cons_zero, List.getElem_cons_succ, List.setIfInBounds_toArray, List.set_cons_zero, List.set_cons_succ]
  refine wpAnyH_take (i := 1) (v := .iface 76 (.agg #[.int .i64 y, .int .i64 a])) rfl (by kernel_rfl) (by kernel_rfl) (by kernel_rfl) (fun _ _ _ h => h) (.inl ⟨by rfl, fun W hW => by go_simp⟩) hHeld ?_
  simp only [Act.put, List.getElem_toArray, List.getElem_cons_zero, List.getElem_cons_succ, List.setIfInBounds_toArray, List.set_cons_zero, List.set_cons_succ]
  refine wpAnyH_take (i := 2) (v := .agg #[.int .i64 y, .int .i64 a]) rfl (by kernel_rfl) (by kernel_rfl) (by kernel_rfl) (fun _ _ _ h => h) (.inl ⟨by rfl, fun W hW => by have hta := fun W => assert51 W (.agg #[.int .i64 y, .int .i64 a]); go_simp⟩) hHeld ?_
  simp only [Act.put, List.getElem_toArray, List.getElem_cons_zero, List.getElem_cons_succ, List.setIfInBounds_toArray, List.set_cons_zero, List.set_cons_succ]
  rw [hw0]
  clear hw0
  refine wpAnyH_ready (rs := [3]) (by kernel_rfl) (by simp) ?_
  refine AllReadyH.cons rfl (fun K' hK => ?_) AllReadyH.nil
  rw [if_pos (by rfl)]
  refine wp_store_mid 26 (.tmp 0) (.tmp 6) rfl g1 0 #[.slice none 0 0, .string ⟨#[]⟩, .string ⟨#[]⟩, .string ⟨#[]⟩, .string ⟨#[]⟩, .slice none 0 0, .slice none 0 0] rfl rfl HTA.out sz_qry HON1.out ?_
  rw [HA.out]
  refine hK _ _ trivial (fun hHeld => ?_)
  clear hK K'
  refine wpAnyH_ready (rs := [4]) (by kernel_rfl) (by simp) ?_
  refine AllReadyH.cons rfl (fun K' hK => ?_) AllReadyH.nil
  rw [if_pos (by rfl)]
  refine wp_store_mid 76 (.tmp 1) (.tmp 8) rfl g2 0 #[.int .i64 y, .int .i64 a] rfl rfl HTB.out sz_flt HON2.out ?_
  rw [HAB.out]
  refine hK _ _ trivial (fun hHeld => ?_)
  clear hK K'
  refine wpAnyH_done (by kernel_rfl) ?_ _
  simp [bodyPostS, results, Tryz.results56, go_sem]
  exact F1.out
end Go.Proofs.YtnmmojhbcnlboaaGreatDoor

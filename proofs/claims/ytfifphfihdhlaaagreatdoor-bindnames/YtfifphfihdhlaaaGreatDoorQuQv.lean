/- What is panicked with is caught. -/
import Derived.Test.YtfifphfihdhlaaaGreatDoorQbTk
import Derived.Test.YtfifphfihdhlaaaGreatDoorQsQt
import Derived.Recover
set_option maxRecDepth 100000
set_option maxHeartbeats 32000000
namespace Go.Proofs.YtfifphfihdhlaaaGreatDoor
open Tryz
open Go.Shelf Go.RowKit Go.Lib Go.Sort
set_option linter.unusedVariables false
set_option linter.unusedSimpArgs false
attribute [local go_sem ↓] Go.wp_at_zero Go.wp_at_succ
theorem sz_flt : (prog.info? 136).map (·.size) = some 2 := by kernel_rfl
theorem assert51 (W : World) (v : Value) : (Instr.typeAssert (.iface 136 v) 20 136 false).run prog W = .ok v W := by kernel_rfl
def FaultAt (g1 g2 : Nat) (y a : Int) (w w' : World) : Prop := w'.heap[g1]? = some (.cells #[.slice none 0 0, .string ⟨#[]⟩, .string ⟨#[]⟩, .string ⟨#[]⟩, .string ⟨#[]⟩, .slice none 0 0, .slice none 0 0] 26 (0, 0)) ∧ w'.heap[g2]? = some (.cells #[.int .i64 y, .int .i64 a] 136 (0, 0)) ∧ Kept (fun b => b ≠ g1 ∧ b ≠ g2) w w'
theorem catch_fault (g1 g2 : Nat) (y a : Int) (w : World) (z1 z2 : Array Value) (h1 : z1.size = 7) (h2 : z2.size = 2) (hg1 : w.heap[g1]? = some (.cells z1 26 (0, 0))) (hg2 : w.heap[g2]? = some (.cells z2 136 (0, 0))) (hne : g1 ≠ g2) :
 CallsD prog 131 #[.pointer (some ⟨g1, 0, none⟩), .pointer (some ⟨g2, 0, none⟩)] (.panicking [{ v := .iface 136 (.agg #[.int .i64 y, .int .i64 a]), recovered := false }]) w fun e u' w' => e = .returned (.tuple #[]) ∧ u' = .panicking [{ v := .iface 136 (.agg #[.int .i64 y, .int .i64 a]), recovered := true }] ∧ FaultAt g1 g2 y a w w' := by
 obtain ⟨w0, hw0⟩ := gen w.drew
 have hk0 : Kept (fun b => b ≠ g1 ∧ b ≠ g2) w w0 := by rw [← hw0]; exact (Kept.refl _ _).drew
 have hq1 : w0.heap[g1]? = some (.cells z1 26 (0, 0)) := by rw [← hw0]; exact hg1
 have hq2 : w0.heap[g2]? = some (.cells z2 136 (0, 0)) := by rw [← hw0]; exact hg2
 obtain ⟨ta, A, hA, _, _, hkA⟩ := put_row w0 g1 z1 26 hq1 [.slice none 0 0, .string ⟨#[]⟩, .string ⟨#[]⟩, .string ⟨#[]⟩, .string ⟨#[]⟩, .slice none 0 0, .slice none 0 0] h1 underlying26 rfl sz_qry
 have gA1 : A.heap[g1]? = some (.cells #[.slice none 0 0, .string ⟨#[]⟩, .string ⟨#[]⟩, .string ⟨#[]⟩, .string ⟨#[]⟩, .slice none 0 0, .slice none 0 0] 26 (0, 0)) := by rw [← hA]; exact box_full w0 g1 z1 26 hq1 [.slice none 0 0, .string ⟨#[]⟩, .string ⟨#[]⟩, .string ⟨#[]⟩, .string ⟨#[]⟩, .slice none 0 0, .slice none 0 0] h1
 have gA2 : A.heap[g2]? = some (.cells z2 136 (0, 0)) := (hkA.block g2 (Ne.symm hne)).trans hq2
 obtain ⟨tb, AB, hAB, _, _, hkAB⟩ := put_row A g2 z2 136 gA2 [.int .i64 y, .int .i64 a] h2 underlying136 rfl sz_flt
 have gAB2 : AB.heap[g2]? = some (.cells #[.int .i64 y, .int .i64 a] 136 (0, 0)) := by rw [← hAB]; exact box_full A g2 z2 136 gA2 [.int .i64 y, .int .i64 a] h2
 have F1 : Hid (FaultAt g1 g2 y a w AB) := ⟨(hkAB.block g1 hne).trans gA1, gAB2, (hk0.trans (hkA.less fun b hb => hb.1)).trans (hkAB.less fun b hb => hb.2)⟩
 have HTA := hid ta
 have HTB := hid tb
 have HA : Hid (w0.setCells g1 0 (#[.slice none 0 0, .string ⟨#[]⟩, .string ⟨#[]⟩, .string ⟨#[]⟩, .string ⟨#[]⟩, .slice none 0 0, .slice none 0 0] : Array Value).toList = A) := hA
 have HAB : Hid (A.setCells g2 0 (#[.int .i64 y, .int .i64 a] : Array Value).toList = AB) := hAB
 clear hk0 hq1 hq2 ta hA hkA gA1 gA2 tb hAB hkAB gAB2 hg1 hg2 h1 h2 hne
 refine callsD_of_wpS func131 rfl fun c₀ cs hu => ?_
 simp only [ntmps131, List.size_toArray, List.length_cons, List.length_nil, Nat.reduceAdd, Nat.reduceSub, Array.replicate_succ, Array.replicate_zero, List.push_toArray, List.append_toArray, List.nil_append, List.cons_append]
 apply wpS_seq
 apply wpS_region
 simp [wpOpsS, go_sem, recoverD, hu, ntmps131, Exit.thenS]
 apply wpS_seq
 apply wpS_region
 simp [wpOpsS, go_sem, Exit.thenS]
 refine wpS_cond (t := true) (by simp [Act.eval, Array.replicate]) ?_
 simp only [if_true]
 refine wpS_of_wp ?_
 refine wp_region_held_drew (S := fun V => True) (by kernel_rfl) trivial (fun hHeld => ?_)
 refine tk0 0 (.agg #[.slice none 0 0, .string ⟨#[]⟩, .string ⟨#[]⟩, .string ⟨#[]⟩, .string ⟨#[]⟩, .slice none 0 0, .slice none 0 0]) rfl hHeld ?_
 refine tk0 1 (.iface 136 (.agg #[.int .i64 y, .int .i64 a])) rfl hHeld ?_
 refine tk 2 (.agg #[.int .i64 y, .int .i64 a]) rfl (.inl ⟨by rfl, fun W hW => by have hta := fun W => assert51 W (.agg #[.int .i64 y, .int .i64 a]); go_simp⟩) hHeld ?_
 simp only [Act.put, List.getElem_toArray, List.getElem_cons_zero, List.getElem_cons_succ, List.setIfInBounds_toArray, List.set_cons_zero, List.set_cons_succ]
 rw [hw0]
 clear hw0
 refine wpAnyH_ready (rs := [3]) (by kernel_rfl) (by simp) ?_
 refine AllReadyH.cons rfl (fun K' hK => ?_) AllReadyH.nil
 rw [if_pos (by rfl)]
 refine wp_store_mid 26 (.tmp 0) (.tmp 6) rfl g1 0 #[.slice none 0 0, .string ⟨#[]⟩, .string ⟨#[]⟩, .string ⟨#[]⟩, .string ⟨#[]⟩, .slice none 0 0, .slice none 0 0] rfl rfl HTA.out sz_qry (by simp [Value.oneCell']) ?_
 rw [HA.out]
 refine hK _ _ trivial (fun hHeld => ?_)
 clear hK K'
 refine wpAnyH_ready (rs := [4]) (by kernel_rfl) (by simp) ?_
 refine AllReadyH.cons rfl (fun K' hK => ?_) AllReadyH.nil
 rw [if_pos (by rfl)]
 refine wp_store_mid 136 (.tmp 1) (.tmp 8) rfl g2 0 #[.int .i64 y, .int .i64 a] rfl rfl HTB.out sz_flt (by simp [Value.oneCell']) ?_
 rw [HAB.out]
 refine hK _ _ trivial (fun hHeld => ?_)
 clear hK K'
 refine wpAnyH_done (by kernel_rfl) ?_ _
 simp [bodyPostS, results, results131, go_sem]
 exact F1.out
theorem catch_idle (g1 g2 : Nat) (w : World) : CallsD prog 131 #[.pointer (some ⟨g1, 0, none⟩), .pointer (some ⟨g2, 0, none⟩)] .returning w fun e u' w' => e = .returned (.tuple #[]) ∧ u' = .returning ∧ w' = w := by
 refine callsD_of_wpS func131 rfl fun c₀ cs hu => ?_
 simp only [ntmps131, List.size_toArray, List.length_cons, List.length_nil, Nat.reduceAdd, Nat.reduceSub, Array.replicate_succ, Array.replicate_zero, List.push_toArray, List.append_toArray, List.nil_append, List.cons_append]
 apply wpS_seq
 apply wpS_region
 simp [wpOpsS, go_sem, recoverD, hu, ntmps131, Exit.thenS]
 apply wpS_seq
 apply wpS_region
 simp [wpOpsS, go_sem, Exit.thenS]
 refine wpS_cond (t := false) (by simp [Act.eval, Array.replicate]) ?_
 simp only [Bool.false_eq_true, if_false]
 refine wpS_of_wp (wp_skip ?_)
 cases c₀
 simp_all [bodyPostS, results, results131]
def zeroQ : Qry := ⟨[], [], [], [], [], [], []⟩
def wholeR (en : Int) (s : PS) : Res Qry := andR (queryR en s) fun q s => match s.ts with
 | [] => .inr (q, s)
 | _ :: _ => .inl (13, placeP en s)
def resQ (r : Res Qry) : Qry × Int × Int := match r with
 | .inl (y, a) => (zeroQ, y, a)
 | .inr (q, _) => (q, 0, 0)
theorem vq_zero (w w' : World) : VQ w w' (.agg #[.slice none 0 0, .string ⟨#[]⟩, .string ⟨#[]⟩, .string ⟨#[]⟩, .string ⟨#[]⟩, .slice none 0 0, .slice none 0 0]) zeroQ := ⟨_, _, _, rfl, qin_none w' _ [] (by simp)⟩
def OutW (B : Nat) (w : World) (r : Res Qry) (e : Ending) (w' : World) : Prop := Kept (fun b => b < w.heap.size ∧ b ≠ B) w w' ∧ ∃ v, e = .returned (.tuple #[v, .agg #[.int .i64 (resQ r).2.1, .int .i64 (resQ r).2.2]]) ∧ VQ w w' v (resQ r).1
theorem whole_any (K : Nat → Prop) (B : Nat) (en : Int) (w : World) (x : PS) (rd : Rdr K w B en x) : Calls prog 99 #[.pointer (some ⟨B, 0, none⟩)] w fun e w' => OutW B w (wholeR en x) e w' := by
 have HKK := hid (And.intro rd.kb rd.lt)
 obtain ⟨W0, hW0, hb0, hs0, g1, g2⟩ := two_boxes2 w #[.slice none 0 0, .string ⟨#[]⟩, .string ⟨#[]⟩, .string ⟨#[]⟩, .string ⟨#[]⟩, .slice none 0 0, .slice none 0 0] #[.int .i64 0, .int .i64 0] 26 136
 have C1 := hid (query_any K B en W0 x (rd.below hb0))
 have HK0 : Hid (Kept (fun b => b < w.heap.size ∧ b ≠ B) w W0) := kept_below hb0
 have HG0 : Hid (W0.heap[w.heap.size]? = some (.cells #[.slice none 0 0, .string ⟨#[]⟩, .string ⟨#[]⟩, .string ⟨#[]⟩, .string ⟨#[]⟩, .slice none 0 0, .slice none 0 0] 26 (0, 0)) ∧ W0.heap[w.heap.size + 1]? = some (.cells #[.int .i64 0, .int .i64 0] 136 (0, 0)) ∧ W0.heap.size = w.heap.size + 2) := ⟨g1, g2, hs0⟩
 have hmf : ∀ (fn : Fn) (first cap : Array Value) (w : World), (Instr.makeFunc fn first cap).run prog w = .ok (.func fn first cap) w := fun _ _ _ _ => rfl
 have HR : Hid (wholeR en x = andR (queryR en x) fun q s => match s.ts with | [] => .inr (q, s) | _ :: _ => .inl (13, placeP en s)) := rfl
 have hBl := rd.lt
 have HNB : Hid (w.heap.size ≠ B ∧ w.heap.size + 1 ≠ B) := ⟨by omega, by omega⟩
 clear rd hb0 hs0 g1 g2 hBl
 go_enter_defers func99, ntmps99
 go_wp2_with fail
 refine C1.out.mono ?_
 rintro e w1 ⟨hk1, ⟨y, a, hr, rfl⟩ | ⟨q, x1, v, hr, rfl, hvq, hrd1⟩⟩
 · have CF := hid (catch_fault w.heap.size (w.heap.size + 1) y a w1 _ _ rfl rfl ((hk1.block _ ⟨by have := HG0.out.2.2; omega, HNB.out.1⟩).trans HG0.out.1) ((hk1.block _ ⟨by have := HG0.out.2.2; omega, HNB.out.2⟩).trans HG0.out.2.1) (by omega))
   have HOUT : Hid (∀ w9, Kept (fun b => b ≠ w.heap.size ∧ b ≠ w.heap.size + 1) w1 w9 → OutW B w (wholeR en x) (.returned (.tuple #[.agg #[.slice none 0 0, .string ⟨#[]⟩, .string ⟨#[]⟩, .string ⟨#[]⟩, .string ⟨#[]⟩, .slice none 0 0, .slice none 0 0], .agg #[.int .i64 y, .int .i64 a]])) w9) := fun w9 hk => by
    have e1 : resQ (wholeR en x) = (zeroQ, y, a) := by rw [HR.out, hr]; rfl
    refine ⟨(HK0.out.step hk1).trans (hk.less fun b hb => by omega), _, by rw [e1], by rw [e1]; exact vq_zero w w9⟩
   clear C1 hk1 hr HR HK0 HG0
   unfold faultE
   go_wp2_with fail
   refine leaves_cons (f := 131) (args := #[.pointer (some ⟨w.heap.size, 0, none⟩), .pointer (some ⟨w.heap.size + 1, 0, none⟩)]) (by simp) (by simp [go_sem]) ?_
   refine CF.out.mono ?_
   rintro e u' w9 ⟨rfl, rfl, hf1, hf2, hfk⟩
   have hld1 : (loadVar 26 ⟨w.heap.size, 0, none⟩).run prog w9 = .ok (.agg #[.slice none 0 0, .string ⟨#[]⟩, .string ⟨#[]⟩, .string ⟨#[]⟩, .string ⟨#[]⟩, .slice none 0 0, .slice none 0 0]) w9 := run_loadVar_mid _ _ 0 26 [.slice none 0 0, .string ⟨#[]⟩, .string ⟨#[]⟩, .string ⟨#[]⟩, .string ⟨#[]⟩, .slice none 0 0, .slice none 0 0] _ (rgz hf1) underlying26 rfl sz_qry
   have hld2 : (loadVar 136 ⟨w.heap.size + 1, 0, none⟩).run prog w9 = .ok (.agg #[.int .i64 y, .int .i64 a]) w9 := run_loadVar_mid _ _ 0 136 [.int .i64 y, .int .i64 a] _ (rgz hf2) underlying136 rfl sz_flt
   refine ⟨.tuple #[.agg #[.slice none 0 0, .string ⟨#[]⟩, .string ⟨#[]⟩, .string ⟨#[]⟩, .string ⟨#[]⟩, .slice none 0 0, .slice none 0 0], .agg #[.int .i64 y, .int .i64 a]], by simp only [results, results99]; simp [asAddr, Act.put, hld1, hld2], ?_⟩
   exact HOUT.out w9 hfk
 · obtain ⟨vi, vw, vg, rfl, hin⟩ := hvq
   obtain ⟨pi, ci, rfl⟩ := hin.1.1.slice
   obtain ⟨pw, cw, rfl⟩ := hin.2.1.slice
   obtain ⟨pg, cg, rfl⟩ := hin.2.2.1.1.slice
   obtain ⟨s0, hs0⟩ := bya q.t
   obtain ⟨s1, hs1⟩ := bya q.j
   obtain ⟨s2, hs2⟩ := bya q.a
   obtain ⟨s3, hs3⟩ := bya q.b
   obtain ⟨ni, hni⟩ := gen q.i.length
   obtain ⟨nw, hnw⟩ := gen q.w.length
   obtain ⟨ng, hng⟩ := gen q.g.length
   have hcl : q.cl (.slice pi q.i.length ci) (.slice pw q.w.length cw) (.slice pg q.g.length cg) = #[.slice pi ni ci, .string s0, .string s1, .string s2, .string s3, .slice pw nw cw, .slice pg ng cg] := by unfold Qry.cl; rw [hs0, hs1, hs2, hs3, hni, hnw, hng]
   have hg1 : w1.heap[w.heap.size]? = some (.cells #[.slice none 0 0, .string ⟨#[]⟩, .string ⟨#[]⟩, .string ⟨#[]⟩, .string ⟨#[]⟩, .slice none 0 0, .slice none 0 0] 26 (0, 0)) := (hk1.block _ ⟨by have := HG0.out.2.2; omega, HNB.out.1⟩).trans HG0.out.1
   have hg2 : w1.heap[w.heap.size + 1]? = some (.cells #[.int .i64 0, .int .i64 0] 136 (0, 0)) := (hk1.block _ ⟨by have := HG0.out.2.2; omega, HNB.out.2⟩).trans HG0.out.2.1
   obtain ⟨hth, X, hX, _, hsX, hkX⟩ := put_row w1 w.heap.size _ 26 hg1 [.slice pi ni ci, .string s0, .string s1, .string s2, .string s3, .slice pw nw cw, .slice pg ng cg] rfl underlying26 rfl sz_qry
   have gX1 : X.heap[w.heap.size]? = some (.cells #[.slice pi ni ci, .string s0, .string s1, .string s2, .string s3, .slice pw nw cw, .slice pg ng cg] 26 (0, 0)) := by rw [← hX]; exact box_full w1 w.heap.size _ 26 hg1 [.slice pi ni ci, .string s0, .string s1, .string s2, .string s3, .slice pw nw cw, .slice pg ng cg] rfl
   have gX2 : X.heap[w.heap.size + 1]? = some (.cells #[.int .i64 0, .int .i64 0] 136 (0, 0)) := (hkX.block _ (by omega)).trans hg2
   have h10 := hrd1.b10
   have hrdX : Rdr K X B en x1 := hrd1.kept (hkX.less fun b hb => by
    have h2 := HKK.out
    rcases hb with hb | hb | hb
    · omega
    · have := h2.1 b hb; omega
    · omega)
   have hkw : Kept (fun b => b < w.heap.size ∧ b ≠ B) w X := (HK0.out.step hk1).trans (hkX.less fun b hb => by omega)
   have CN := hid (nothing_any K X B en x1 hrdX)
   have HRQ : Hid (X.rangeAt w.heap.size 0 [.slice pi ni ci, .string s0, .string s1, .string s2, .string s3, .slice pw nw cw, .slice pg ng cg]) := rgz gX1
   have HTH := hid hth
   have HX : Hid (w1.setCells w.heap.size 0 (#[.slice pi ni ci, .string s0, .string s1, .string s2, .string s3, .slice pw nw cw, .slice pg ng cg] : Array Value).toList = X) := hX
   obtain ⟨hth2, X2, hX2, hld2, hsX2, hkX2⟩ := put_row X w.heap.size _ 26 gX1 [.slice pi ni ci, .string s0, .string s1, .string s2, .string s3, .slice pw nw cw, .slice pg ng cg] rfl underlying26 rfl sz_qry
   have gY1 : X2.heap[w.heap.size]? = some (.cells #[.slice pi ni ci, .string s0, .string s1, .string s2, .string s3, .slice pw nw cw, .slice pg ng cg] 26 (0, 0)) := by rw [← hX2]; exact box_full X w.heap.size _ 26 gX1 [.slice pi ni ci, .string s0, .string s1, .string s2, .string s3, .slice pw nw cw, .slice pg ng cg] rfl
   have gY2 : X2.heap[w.heap.size + 1]? = some (.cells #[.int .i64 0, .int .i64 0] 136 (0, 0)) := (hkX2.block _ (by omega)).trans gX2
   obtain ⟨hth3, X3, hX3, hld3, hsX3, hkX3⟩ := put_row X2 (w.heap.size + 1) _ 136 gY2 [.int .i64 0, .int .i64 0] rfl underlying136 rfl sz_flt
   have gW1 : X3.heap[w.heap.size]? = some (.cells #[.slice pi ni ci, .string s0, .string s1, .string s2, .string s3, .slice pw nw cw, .slice pg ng cg] 26 (0, 0)) := (hkX3.block _ (by omega)).trans gY1
   have HTH2 := hid hth2
   have HX2 : Hid (X.setCells w.heap.size 0 (#[.slice pi ni ci, .string s0, .string s1, .string s2, .string s3, .slice pw nw cw, .slice pg ng cg] : Array Value).toList = X2) := hX2
   have HTH3 := hid hth3
   have HX3 : Hid (X2.setCells (w.heap.size + 1) 0 (#[.int .i64 0, .int .i64 0] : Array Value).toList = X3) := hX3
   have hl1 : (loadVar 26 ⟨w.heap.size, 0, none⟩).run prog X3 = .ok (.agg #[.slice pi ni ci, .string s0, .string s1, .string s2, .string s3, .slice pw nw cw, .slice pg ng cg]) X3 := run_loadVar_mid _ _ 0 26 [.slice pi ni ci, .string s0, .string s1, .string s2, .string s3, .slice pw nw cw, .slice pg ng cg] _ (rgz gW1) underlying26 rfl sz_qry
   have HL1 := hid hl1
   have HL2 := hid hld3
   have hkF : Kept (fun b => b < w.heap.size ∧ b ≠ B) w X3 := (hkw.trans (hkX2.less fun b hb => by omega)).trans (hkX3.less fun b hb => by omega)
   have hinF : QIn w.heap.size X3 (.slice pi q.i.length ci) (.slice pw q.w.length cw) (.slice pg q.g.length cg) q := by
    have h0 := HG0.out.2.2
    refine QIn.base (base := W0.heap.size) ?_ (by omega)
    exact ((hin.held (hkX.less fun b hb => by omega)).held (hkX2.less fun b hb => by omega)).held (hkX3.less fun b hb => by omega)
   have HFOUT : Hid (x1.ts = [] → OutW B w (wholeR en x) (.returned (.tuple #[.agg #[.slice pi ni ci, .string s0, .string s1, .string s2, .string s3, .slice pw nw cw, .slice pg ng cg], .agg #[.int .i64 0, .int .i64 0]])) X3) := fun h0 => by
    have e1 : resQ (wholeR en x) = (q, 0, 0) := by
     rw [HR.out, hr]
     show resQ (match x1.ts with | [] => .inr (q, x1) | _ :: _ => .inl (13, placeP en x1)) = _
     rw [h0]
     rfl
    exact ⟨hkF, _, by rw [e1], by rw [e1]; exact ⟨_, _, _, by rw [hcl], hinF⟩⟩
   have HOUT0 : Hid (x1.ts ≠ [] → ∀ w9, Kept (fun b => b ≠ w.heap.size ∧ b ≠ w.heap.size + 1) X w9 → OutW B w (wholeR en x) (.returned (.tuple #[.agg #[.slice none 0 0, .string ⟨#[]⟩, .string ⟨#[]⟩, .string ⟨#[]⟩, .string ⟨#[]⟩, .slice none 0 0, .slice none 0 0], .agg #[.int .i64 13, .int .i64 (placeP en x1)]])) w9) := fun h0 w9 hk => by
    have e1 : resQ (wholeR en x) = (zeroQ, 13, placeP en x1) := by
     rw [HR.out, hr]
     show resQ (match x1.ts with | [] => .inr (q, x1) | _ :: _ => .inl (13, placeP en x1)) = _
     cases h : x1.ts with
     | nil => exact absurd h h0
     | cons t ts => rfl
    exact ⟨hkw.trans (hk.less fun b hb => by omega), _, by rw [e1], by rw [e1]; exact vq_zero w w9⟩
   have HGX := hid (And.intro gX1 gX2)
   rw [hcl]
   clear C1 hk1 hr hin hrd1 hs0 hs1 hs2 hs3 hni hnw hng hcl hg1 hg2 hth hX hsX hkX gX1 gX2 h10 hrdX hkw hth2 hX2 hld2 hsX2 hkX2 gY1 gY2 hth3 hX3 hld3 hsX3 hkX3 gW1 hl1 hkF hinF HR HK0 HG0 hW0
   go_wp2_with (refine wpList_store_mid rfl 26 _ _ rfl w.heap.size 0 #[.slice pi ni ci, .string s0, .string s1, .string s2, .string s3, .slice pw nw cw, .slice pg ng cg] rfl rfl HTH.out sz_qry (by simp [Value.oneCell']) ?_; rw [HX.out])
   refine CN.out.mono ?_
   rintro e w2 ⟨he, rfl⟩
   clear CN HTH HX
   obtain ⟨ts, op⟩ := x1
   cases ts with
   | nil =>
    have he2 : e = .returned (.tuple #[]) := he
    subst he2
    have HFO := hid (HFOUT.out rfl)
    clear he HFOUT HOUT0 HGX
    go_wp2_with (first | (refine wpList_load_mid rfl 26 _ rfl w.heap.size 0 rfl _ _ HRQ.out underlying26 rfl sz_qry ?_) | (refine wpList_store_mid rfl 26 _ _ rfl w.heap.size 0 #[.slice pi ni ci, .string s0, .string s1, .string s2, .string s3, .slice pw nw cw, .slice pg ng cg] rfl rfl HTH2.out sz_qry (by simp [Value.oneCell']) ?_; rw [HX2.out]) | (refine wpList_store_mid rfl 136 _ _ rfl (w.heap.size + 1) 0 #[.int .i64 0, .int .i64 0] rfl rfl HTH3.out sz_flt (by simp [Value.oneCell']) ?_; rw [HX3.out]))
    refine leaves_cons (f := 131) (args := #[.pointer (some ⟨w.heap.size, 0, none⟩), .pointer (some ⟨w.heap.size + 1, 0, none⟩)]) (by simp) (by simp [go_sem]) ?_
    refine (catch_idle _ _ _).mono ?_
    rintro e u' w9 ⟨rfl, rfl, rfl⟩
    have hl1 := HL1.out
    have hl2 := HL2.out
    refine ⟨.tuple #[.agg #[.slice pi ni ci, .string s0, .string s1, .string s2, .string s3, .slice pw nw cw, .slice pg ng cg], .agg #[.int .i64 0, .int .i64 0]], by simp only [results, results99]; simp [asAddr, Act.put, hl1, hl2], ?_⟩
    exact HFO.out
   | cons t ts =>
    obtain ⟨pp, hpp⟩ := gen (placeP en ⟨t :: ts, op⟩)
    have he2 : e = faultE 13 pp := by rw [← hpp]; exact he
    have HOUT := hid (HOUT0.out (by simp))
    rw [hpp] at HOUT
    have CF := hid (catch_fault w.heap.size (w.heap.size + 1) 13 pp w2 _ _ rfl rfl HGX.out.1 HGX.out.2 (by omega))
    subst he2
    clear he HFOUT HOUT0 HGX hpp HRQ HTH2 HX2 HTH3 HX3 HL1 HL2
    unfold faultE
    go_wp2_with fail
    refine leaves_cons (f := 131) (args := #[.pointer (some ⟨w.heap.size, 0, none⟩), .pointer (some ⟨w.heap.size + 1, 0, none⟩)]) (by simp) (by simp [go_sem]) ?_
    refine CF.out.mono ?_
    rintro e u' w9 ⟨rfl, rfl, hf1, hf2, hfk⟩
    have hld1 : (loadVar 26 ⟨w.heap.size, 0, none⟩).run prog w9 = .ok (.agg #[.slice none 0 0, .string ⟨#[]⟩, .string ⟨#[]⟩, .string ⟨#[]⟩, .string ⟨#[]⟩, .slice none 0 0, .slice none 0 0]) w9 := run_loadVar_mid _ _ 0 26 [.slice none 0 0, .string ⟨#[]⟩, .string ⟨#[]⟩, .string ⟨#[]⟩, .string ⟨#[]⟩, .slice none 0 0, .slice none 0 0] _ (rgz hf1) underlying26 rfl sz_qry
    have hld2 : (loadVar 136 ⟨w.heap.size + 1, 0, none⟩).run prog w9 = .ok (.agg #[.int .i64 13, .int .i64 pp]) w9 := run_loadVar_mid _ _ 0 136 [.int .i64 13, .int .i64 pp] _ (rgz hf2) underlying136 rfl sz_flt
    refine ⟨.tuple #[.agg #[.slice none 0 0, .string ⟨#[]⟩, .string ⟨#[]⟩, .string ⟨#[]⟩, .string ⟨#[]⟩, .slice none 0 0, .slice none 0 0], .agg #[.int .i64 13, .int .i64 pp]], by simp only [results, results99]; simp [asAddr, Act.put, hld1, hld2], ?_⟩
    exact HOUT.out w9 hfk
end Go.Proofs.YtfifphfihdhlaaaGreatDoor

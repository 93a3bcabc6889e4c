/- What resolve panics with is caught; bound queries in memory. -/
import Derived.Test.YtfifphfihdhlaaaGreatDoorQbTk
import Derived.Test.YtfifphfihdhlaaaGreatDoorCuCv
import Derived.Recover
set_option maxRecDepth 100000
set_option maxHeartbeats 32000000
namespace Go.Proofs.YtfifphfihdhlaaaGreatDoor.Bd
open Tryz
open Go.Shelf Go.RowKit Go.Lib Go.Sort
set_option linter.unusedVariables false
set_option linter.unusedSimpArgs false
attribute [local go_sem ↓] Go.wp_at_zero Go.wp_at_succ
theorem assert33 (W : World) (x : Int) : (Instr.typeAssert (.iface 33 (.int .i64 x)) 20 33 false).run prog W = .ok (.int .i64 x) W := by kernel_rfl
def noBndC : List Value := [.string ⟨#[]⟩, .string ⟨#[]⟩, .int .i64 0, .int .i64 0, .int .i64 0, .slice none 0 0, .slice none 0 0, .slice none 0 0, .bool false, .slice none 0 0, .slice none 0 0]
def StopAt (g1 g2 : Nat) (x : Int) (w w' : World) : Prop := w'.heap[g1]? = some (.cells ([.string ⟨#[]⟩, .string ⟨#[]⟩, .int .i64 0, .int .i64 0, .int .i64 0, .slice none 0 0, .slice none 0 0, .slice none 0 0, .bool false, .slice none 0 0, .slice none 0 0] : List Value).toArray 32 (0, 0)) ∧ w'.heap[g2]? = some (.cells #[.int .i64 x] 33 (0, 0)) ∧ Kept (fun b => b ≠ g1 ∧ b ≠ g2) w w'
theorem catch_stop (g1 g2 : Nat) (x : Int) (w : World) (z1 z2 : Array Value) (h1 : z1.size = 11) (h2 : z2.size = 1) (hg1 : w.heap[g1]? = some (.cells z1 32 (0, 0))) (hg2 : w.heap[g2]? = some (.cells z2 33 (0, 0))) (hne : g1 ≠ g2) :
 CallsD prog 61 #[.pointer (some ⟨g1, 0, none⟩), .pointer (some ⟨g2, 0, none⟩)] (.panicking [{ v := .iface 33 (.int .i64 x), recovered := false }]) w fun e u' w' => e = .returned (.tuple #[]) ∧ u' = .panicking [{ v := .iface 33 (.int .i64 x), recovered := true }] ∧ StopAt g1 g2 x w w' := by
 obtain ⟨w0, hw0⟩ := gen w.drew
 have hk0 : Kept (fun b => b ≠ g1 ∧ b ≠ g2) w w0 := by rw [← hw0]; exact (Kept.refl _ _).drew
 have hq1 : w0.heap[g1]? = some (.cells z1 32 (0, 0)) := by rw [← hw0]; exact hg1
 have hq2 : w0.heap[g2]? = some (.cells z2 33 (0, 0)) := by rw [← hw0]; exact hg2
 obtain ⟨ta, A, hA, gA1, _, hkA⟩ := put_all w0 g1 z1 32 hq1 [.string ⟨#[]⟩, .string ⟨#[]⟩, .int .i64 0, .int .i64 0, .int .i64 0, .slice none 0 0, .slice none 0 0, .slice none 0 0, .bool false, .slice none 0 0, .slice none 0 0] h1
 have gA2 : A.heap[g2]? = some (.cells z2 33 (0, 0)) := (hkA.block g2 (Ne.symm hne)).trans hq2
 obtain ⟨u, hu2⟩ : ∃ u, z2 = #[u] := by
  obtain ⟨l⟩ := z2
  match l, h2 with
  | [u], _ => exact ⟨u, rfl⟩
 subst hu2
 obtain ⟨⟨u1, cu⟩, fu, AB, hAB, gAB2, _, hkAB⟩ := put_one A g2 0 [u] 33 gA2 (by simp) (.int .i64 x)
 have F1 : Hid (StopAt g1 g2 x w AB) := ⟨(hkAB.block g1 hne).trans gA1, gAB2, (hk0.trans (hkA.less fun b hb => hb.1)).trans (hkAB.less fun b hb => hb.2)⟩
 have HTA : Hid (w0.there g1 0 11) := ta
 have HA : Hid (w0.setCells g1 0 (#[.string ⟨#[]⟩, .string ⟨#[]⟩, .int .i64 0, .int .i64 0, .int .i64 0, .slice none 0 0, .slice none 0 0, .slice none 0 0, .bool false, .slice none 0 0, .slice none 0 0] : Array Value).toList = A) := hA
 clear hk0 hq1 hq2 ta hA hkA gA1 gA2 gAB2 hkAB hg1 hg2 h1 h2 hne
 refine callsD_of_wpS func61 rfl fun c₀ cs hu => ?_
 simp only [ntmps61, List.size_toArray, List.length_cons, List.length_nil, Nat.reduceAdd, Nat.reduceSub, Array.replicate_succ, Array.replicate_zero, List.push_toArray, List.append_toArray, List.nil_append, List.cons_append]
 apply wpS_seq
 apply wpS_region
 simp [wpOpsS, go_sem, recoverD, hu, ntmps61, Exit.thenS]
 apply wpS_seq
 apply wpS_region
 simp [wpOpsS, go_sem, Exit.thenS]
 refine wpS_cond (t := true) (by simp [Act.eval, Array.replicate]) ?_
 simp only [if_true]
 refine wpS_of_wp ?_
 refine wp_region_held_drew (S := fun V => True) (by kernel_rfl) trivial (fun hHeld => ?_)
 refine tk0 0 (.agg #[.string ⟨#[]⟩, .string ⟨#[]⟩, .int .i64 0, .int .i64 0, .int .i64 0, .slice none 0 0, .slice none 0 0, .slice none 0 0, .bool false, .slice none 0 0, .slice none 0 0]) rfl hHeld ?_
 refine tk0 1 (.iface 33 (.int .i64 x)) rfl hHeld ?_
 refine tk 2 (.int .i64 x) rfl (.inl ⟨by rfl, fun W hW => by have hta := fun W => assert33 W x; go_simp⟩) hHeld ?_
 simp only [Act.put, List.getElem_toArray, List.getElem_cons_zero, List.getElem_cons_succ, List.setIfInBounds_toArray, List.set_cons_zero, List.set_cons_succ]
 rw [hw0]
 clear hw0
 refine wpAnyH_ready (rs := [3]) (by kernel_rfl) (by simp) ?_
 refine AllReadyH.cons rfl (fun K' hK => ?_) AllReadyH.nil
 rw [if_pos (by rfl)]
 refine wp_store_mid 32 (.tmp 0) (.tmp 6) rfl g1 0 #[.string ⟨#[]⟩, .string ⟨#[]⟩, .int .i64 0, .int .i64 0, .int .i64 0, .slice none 0 0, .slice none 0 0, .slice none 0 0, .bool false, .slice none 0 0, .slice none 0 0] rfl rfl HTA.out sz_bnd (by simp [Value.oneCell']) ?_
 rw [HA.out]
 refine hK _ _ trivial (fun hHeld => ?_)
 clear hK K'
 refine wpAnyH_ready (rs := [4]) (by kernel_rfl) (by simp) ?_
 refine AllReadyH.cons rfl (fun K' hK => ?_) AllReadyH.nil
 rw [if_pos (by rfl)]
 go_simp
 refine hK _ _ trivial (fun hHeld => ?_)
 clear hK K'
 refine wpAnyH_done (by kernel_rfl) ?_ _
 simp [bodyPostS, results, results61, go_sem]
 exact F1.out
theorem catch_none (g1 g2 : Nat) (w : World) : CallsD prog 61 #[.pointer (some ⟨g1, 0, none⟩), .pointer (some ⟨g2, 0, none⟩)] .returning w fun e u' w' => e = .returned (.tuple #[]) ∧ u' = .returning ∧ w' = w := by
 refine callsD_of_wpS func61 rfl fun c₀ cs hu => ?_
 simp only [ntmps61, List.size_toArray, List.length_cons, List.length_nil, Nat.reduceAdd, Nat.reduceSub, Array.replicate_succ, Array.replicate_zero, List.push_toArray, List.append_toArray, List.nil_append, List.cons_append]
 apply wpS_seq
 apply wpS_region
 simp [wpOpsS, go_sem, recoverD, hu, ntmps61, Exit.thenS]
 apply wpS_seq
 apply wpS_region
 simp [wpOpsS, go_sem, Exit.thenS]
 refine wpS_cond (t := false) (by simp [Act.eval, Array.replicate]) ?_
 simp only [Bool.false_eq_true, if_false]
 refine wpS_of_wp (wp_skip ?_)
 cases c₀
 simp_all [bodyPostS, results, results61]
def bndC (b : Bnd) (pw pg pi pn pk : Option Addr) (cw cg ci cn ck : Nat) : List Value := [.string ⟨b.t.toArray⟩, .string ⟨b.j.toArray⟩, .int .i64 b.d, .int .i64 b.a, .int .i64 b.b, .slice pw b.w.length cw, .slice pg b.g.length cg, .slice pi b.i.length ci, .bool b.r, .slice pn b.n.length cn, .slice pk b.k.length ck]
def BndIs (K : Nat → Prop) (w : World) (b : Bnd) (v : List Value) : Prop := ∃ pw pg pi pn pk cw cg ci cn ck, v = bndC b pw pg pi pn pk cw cg ci cn ck ∧ ListIs rStpW 3 32 K w (.slice pw b.w.length cw) b.w ∧ ListIs rInt 1 8 K w (.slice pg b.g.length cg) b.g ∧ ListIs rItmW 2 32 K w (.slice pi b.i.length ci) b.i ∧ ListIs rStrW 1 16 K w (.slice pn b.n.length cn) b.n ∧ ListIs rKnd 1 1 K w (.slice pk b.k.length ck) b.k
def resB (r : Except Int Bnd) : Bnd × Int :=
 match r with
 | .error x => (noBnd, x)
 | .ok b => (b, 0)
def OutB (B : Nat) (w' : World) (r : Except Int Bnd) (e : Ending) : Prop := ∃ v, e = .returned (.tuple #[.agg v.toArray, .int .i64 (resB r).2]) ∧ BndIs (From B w') w' (resB r).1 v
theorem noBnd_is (K : Nat → Prop) (w : World) : BndIs K w noBnd noBndC := ⟨none, none, none, none, none, 0, 0, 0, 0, 0, rfl, ListIs.nil none 0, ListIs.nil none 0, ListIs.nil none 0, ListIs.nil none 0, ListIs.nil none 0⟩
def ResB (w : World) (qc : List Value) (S0 : Nat) (sc bc : List Value) (X : World) : Prop :=
 Bl w X ∧ X.heap[w.heap.size]? = some (.cells qc.toArray 26 (0, 0)) ∧ X.heap[w.heap.size + 1]? = some (.cells bc.toArray 32 (0, 0)) ∧ X.heap[w.heap.size + 1 + 1]? = some (.cells #[.int .i64 0] 33 (0, 0)) ∧ w.heap.size + 3 ≤ S0 ∧ X.heap[S0]? = some (.cells sc.toArray 67 (0, 0))
theorem ResB.later {w : World} {qc : List Value} {S0 : Nat} {sc bc : List Value} {X X' : World} (h : ResB w qc S0 sc bc X) (hb : Bl X X') : ResB w qc S0 sc bc X' := by
 obtain ⟨h1, h2, h3, h4, h5, h6⟩ := h
 exact ⟨h1.trans (hb.mono h1.size), (hb.block _ (gsi h2).1).trans h2, (hb.block _ (gsi h3).1).trans h3, (hb.block _ (gsi h4).1).trans h4, h5, (hb.block _ (gsi h6).1).trans h6⟩
theorem ResB.put {w : World} {qc : List Value} {S0 : Nat} {sc bc : List Value} {X : World} (h : ResB w qc S0 sc bc X) (k : Nat) (hk : k < bc.length) (v : Value) : (∃ u, X.cell? ⟨w.heap.size + 1, k, none⟩ = some u) ∧ X.frozen? ⟨w.heap.size + 1, k, none⟩ = false ∧ ∃ X', X.setCell ⟨w.heap.size + 1, k, none⟩ v = X' ∧ ResB w qc S0 sc (bc.set k v) X' ∧ X'.heap.size = X.heap.size ∧ Kept (fun b => b ≠ w.heap.size + 1) X X' := by
 obtain ⟨h1, h2, h3, h4, h5, h6⟩ := h
 obtain ⟨hc, hf, X', hX, hg, hs, hkk⟩ := put_one X (w.heap.size + 1) k bc 32 h3 hk v
 exact ⟨hc, hf, X', hX, ⟨put_below h1 hkk hs (by omega), (hkk.block _ (by show _ ≠ _; omega)).trans h2, hg, (hkk.block _ (by show _ ≠ _; omega)).trans h4, h5, (hkk.block _ (by show _ ≠ _; omega)).trans h6⟩, hs, hkk⟩
theorem ResB.row {w : World} {qc : List Value} {S0 : Nat} {sc bc : List Value} {X : World} (h : ResB w qc S0 sc bc X) : X.rangeAt w.heap.size 0 qc ∧ X.rangeAt (w.heap.size + 1) 0 bc ∧ X.rangeAt S0 0 sc := by
 obtain ⟨h1, h2, h3, h4, h5, h6⟩ := h
 exact ⟨rgz h2, rgz h3, rgz h6⟩
theorem kind_in {e : List Stp} {cols : List Clm} (h : (kindP e cols).2 = 0) : e.any (outP cols.length) = false := by
 unfold kindP at h
 split at h
 · exact absurd h (by decide)
 · split at h
   · exact absurd h (by decide)
   · split at h
     · exact absurd h (by decide)
     · rename_i hf; exact (Bool.not_eq_true _).mp hf
theorem item_in {s : Scp} {x : Itm} {gr : Bool} {g : List Int} (h : itemE s x gr g = 0) (hc : isColI x = true) : 0 ≤ firstN x ∧ firstN x < (s.c.length : Int) := by
 unfold isColI at hc
 simp only [Bool.and_eq_true, decide_eq_true_eq] at hc
 obtain ⟨hg, hl, hk⟩ := hc
 unfold itemE at h
 rw [if_neg (by omega), if_neg (by omega)] at h
 split at h
 · rename_i h0; exact absurd h h0
 · rename_i h0
   have h0 : (kindP x.e s.c).2 = 0 := by simpa using h0
   have hi := kind_in h0
   obtain ⟨y, hy⟩ : ∃ y, x.e = [y] := by
    match x.e, hl with
    | [y], _ => exact ⟨y, rfl⟩
   unfold firstN
   rw [hy] at hi hk ⊢
   simp at hk
   unfold outP at hi
   simp [hk] at hi
   simp
   omega
theorem items_in {s : Scp} {gr : Bool} {g : List Int} : ∀ {l i : List Itm}, itemsGo s gr g l = .ok i → ∀ x ∈ i, isColI x = true → 0 ≤ firstN x ∧ firstN x < (s.c.length : Int) := fun {l i} h x hx hc => by
 have := (itemsGo_ok l i h).2.1
 rw [List.all_eq_true] at this
 exact item_in (of_decide_eq_true (this x hx)) hc
theorem itemsR_in {s : Scp} {gr : Bool} {g : List Int} {l i : List Itm} (h8 : l.length ≤ 8) (h : itemsR s gr g l = .ok i) : i.length ≤ 8 ∧ ∀ x ∈ i, isColI x = true → 0 ≤ firstN x ∧ firstN x < (s.c.length : Int) := by
 unfold itemsR at h
 split at h
 · split at h
   · cases h
   · cases h
     refine ⟨by rw [allP_len]; omega, fun x hx hc => ?_⟩
     unfold allP at hx
     obtain ⟨j, hj, rfl⟩ := List.mem_map.1 hx
     have := List.mem_range.1 hj
     unfold firstN
     simp
     omega
 · exact ⟨by rw [(itemsGo_ok l i h).1]; exact h8, items_in h⟩
theorem load33 (w : World) (g : Nat) (v : Value) (h : w.cell? ⟨g, 0, none⟩ = some v) : (loadVar 33 ⟨g, 0, none⟩).run prog w = .ok v w := by
 have ha := Tryz.isAgg33
 simp [loadVar, Sem.run_bind, ha, go_sem, h]
theorem bq_small {q : Qry} (h : checkQ q = 0) : q.i.length ≤ 8 ∧ q.g.length ≤ 8 := by
 have hQ : queryOkP q = true := by
  unfold checkQ at h
  cases hq : queryOkP q with
  | true => rfl
  | false => rw [hq] at h; simp at h
 unfold queryOkP at hQ
 simp only [Bool.and_eq_true] at hQ
 obtain ⟨hq1, hq2, hq3, hq4, hq5⟩ := hQ
 unfold itemsOkP at hq4
 unfold groupOkP at hq5
 constructor
 · split at hq4
   · cases hq4
   · omega
 · split at hq5
   · cases hq5
   · omega
def restG (s : Scp) (q : Qry) (d a b : Int) (w : List Stp) (g : List Int) : Except Int Bnd :=
 match itemsR s (isGroupedP q.g.length q.i) g q.i with
 | .error e => .error e
 | .ok i => .ok ⟨q.t, q.j, d, a, b, w, g, i, isGroupedP q.g.length q.i, namesGo s 0 i, i.map (kindI s)⟩
def restW (s : Scp) (q : Qry) (d a b : Int) (w : List Stp) : Except Int Bnd :=
 match groupGo s [] q.g with
 | .error e => .error e
 | .ok g => restG s q d a b w g
def restJ (s : Scp) (q : Qry) (d a b : Int) : Except Int Bnd :=
 match whereR s q.w with
 | .error e => .error e
 | .ok w => restW s q d a b w
theorem resolve_empty (s : Scp) (q : Qry) (h : q.j = []) : resolveS s q = restJ s q 0 0 0 := by
 unfold resolveS joinB
 rw [if_pos h]
 rfl
theorem resolve_join (s : Scp) (q : Qry) (h : q.j ≠ []) : resolveS s q = match joinR s q.a q.b with
 | .error e => .error e
 | .ok x => restJ s q s.w x.1 x.2 := by
 unfold resolveS joinB
 rw [if_neg h]
 cases joinR s q.a q.b <;> rfl
theorem list_kept {α : Type} {rel : Rel α} (hm : Mono rel) {size bytes B g : Nat} {X X' : World} {v : Value} {xs : List α} (h : ListIs rel size bytes (From B X) X v xs) (hk : Kept (fun b => b ≠ g) X X') (hg : g < B) : ListIs rel size bytes (From B X') X' v xs :=
 h.kept hm (hk.less fun b (hb : B ≤ b) => by show b ≠ g; omega)
theorem resolve_any (K Kt : Nat → Prop) (pi pw pg : Option Addr) (ci cw cg : Nat) (q : Qry) (pt : Option Addr) (ct : Nat) (l : List Tab) (w : World) (h : QLsW K w pi pw pg ci cw cg q) (hK : ∀ b, K b → b < w.heap.size) (ht : ListIs rTab 3 64 Kt w (.slice pt l.length ct) l) (hKt : ∀ b, Kt b → b < w.heap.size) (hG : GW w) (hcat : catP l = 0) (hq : checkQ q = 0) :
 Calls prog 23 #[.agg (q.cl (.slice pi q.i.length ci) (.slice pw q.w.length cw) (.slice pg q.g.length cg)), .slice pt l.length ct] w fun e w' => OutB w.heap.size w' (resolveP q l) e ∧ Bl w w' := by
 obtain ⟨s0, hs0⟩ := bya q.t
 obtain ⟨s1, hs1⟩ := bya q.j
 obtain ⟨s2, hs2⟩ := bya q.a
 obtain ⟨s3, hs3⟩ := bya q.b
 obtain ⟨ni, hni⟩ := gen q.i.length
 obtain ⟨nw, hnw⟩ := gen q.w.length
 obtain ⟨ng, hng⟩ := gen q.g.length
 obtain ⟨nl, hnl⟩ := gen l.length
 have hcl : q.cl (.slice pi q.i.length ci) (.slice pw q.w.length cw) (.slice pg q.g.length cg) = #[.slice pi ni ci, .string s0, .string s1, .string s2, .string s3, .slice pw nw cw, .slice pg ng cg] := by unfold Qry.cl; rw [hs0, hs1, hs2, hs3, hni, hnw, hng]
 have hmf : ∀ (fn : Fn) (first cap : Array Value) (w : World), (Instr.makeFunc fn first cap).run prog w = .ok (.func fn first cap) w := fun _ _ _ _ => rfl
 obtain ⟨W0, hW0, hb0, hz0, g0, g1, g2⟩ : ∃ W0, ((w.alloc (.cells #[.slice pi ni ci, .string s0, .string s1, .string s2, .string s3, .slice pw nw cw, .slice pg ng cg] 26)).alloc (.cells #[.string ⟨#[]⟩, .string ⟨#[]⟩, .int .i64 0, .int .i64 0, .int .i64 0, .slice none 0 0, .slice none 0 0, .slice none 0 0, .bool false, .slice none 0 0, .slice none 0 0] 32)).alloc (.cells #[.int .i64 0] 33) = W0 ∧ Bl w W0 ∧ W0.heap.size = w.heap.size + 3 ∧ W0.heap[w.heap.size]? = some (.cells #[.slice pi ni ci, .string s0, .string s1, .string s2, .string s3, .slice pw nw cw, .slice pg ng cg] 26 (0, 0)) ∧ W0.heap[w.heap.size + 1]? = some (.cells #[.string ⟨#[]⟩, .string ⟨#[]⟩, .int .i64 0, .int .i64 0, .int .i64 0, .slice none 0 0, .slice none 0 0, .slice none 0 0, .bool false, .slice none 0 0, .slice none 0 0] 32 (0, 0)) ∧ W0.heap[w.heap.size + 1 + 1]? = some (.cells #[.int .i64 0] 33 (0, 0)) := three_boxes w _ _ _ 26 32 33
 have hsm := bq_small hq
 have HQS : Hid (q.i.length ≤ 8 ∧ q.g.length ≤ 8) := hsm
 have hs1d : s1.data.toList = q.j := by rw [← hs1]
 have hE := empty_text hs1d
 have HSS : Hid ((⟨q.t.toArray⟩ : ByteArray) = s0 ∧ (⟨q.j.toArray⟩ : ByteArray) = s1 ∧ (⟨q.a.toArray⟩ : ByteArray) = s2 ∧ (⟨q.b.toArray⟩ : ByteArray) = s3) := ⟨hs0, hs1, hs2, hs3⟩
 have HNN : Hid (q.i.length = ni ∧ q.w.length = nw ∧ q.g.length = ng) := ⟨hni, hnw, hng⟩
 have HLX : Hid (∀ V, Bl w V → QLsW K V pi pw pg ci cw cg q ∧ (∀ b, K b → b < V.heap.size) ∧ GW V) := fun V hV => ⟨h.below hK hV, fun b hb => nlt (hK b hb) hV.size, hG.below hV⟩
 have C1 : Hid (Calls prog 26 #[.string s0, .string s1, .slice pt nl ct] W0 fun e w' => ScpE W0.heap.size l q.t q.j w' e ∧ Bl W0 w') := by
  have := scope_any Kt pt ct l q.t q.j W0 (ht.later mTab hKt hb0) (fun b hb => nlt (hKt b hb) hb0.size) hcat
  rwa [hs0, hs1, hnl] at this
 have HCAT := hid hcat
 obtain ⟨R, hR⟩ := gen (resolveP q l)
 have HR := hid hR
 have HCL0 : Hid (s0.size ≤ 281474976710656 ∧ s1.size ≤ 281474976710656) := by
  have h1 := txt_len q.t
  have h2 := txt_len q.j
  rw [hs0] at h1
  rw [hs1] at h2
  have := h.lt
  have := h.lj
  exact ⟨by omega, by omega⟩
 have c1 := cell_of_row (k := 1) (v := .string s0) g0 rfl
 have c2 := cell_of_row (k := 2) (v := .string s1) g0 rfl
 have HG0 : Hid (∀ V, Bl W0 V → Bl w V ∧ V.heap[w.heap.size]? = some (.cells ([.slice pi ni ci, .string s0, .string s1, .string s2, .string s3, .slice pw nw cw, .slice pg ng cg] : List Value).toArray 26 (0, 0)) ∧ V.heap[w.heap.size + 1]? = some (.cells ([.string ⟨#[]⟩, .string ⟨#[]⟩, .int .i64 0, .int .i64 0, .int .i64 0, .slice none 0 0, .slice none 0 0, .slice none 0 0, .bool false, .slice none 0 0, .slice none 0 0] : List Value).toArray 32 (0, 0)) ∧ V.heap[w.heap.size + 1 + 1]? = some (.cells #[.int .i64 0] 33 (0, 0)) ∧ w.heap.size + 3 ≤ V.heap.size) := fun V hV => ⟨hb0.trans (hV.mono (by omega)), (hV.block _ (by omega)).trans g0, (hV.block _ (by omega)).trans g1, (hV.block _ (by omega)).trans g2, by have := hV.size; omega⟩
 have HZ0 : Hid (W0.heap.size = w.heap.size + 3) := hz0
 rw [hcl, hnl, hR]
 clear h hK ht hKt hG hcat hq hs0 hs1 hs2 hs3 hni hnw hng hnl hcl hb0 hz0 g0 g1 g2 hsm hs1d hR
 go_enter_defers func23, ntmps23
 go_wp2_with fail
 refine C1.out.mono ?_
 rintro e w1 ⟨hS, hb1⟩
 obtain ⟨hbw1, q1, b1, e1, hs1'⟩ := HG0.out w1 hb1
 have HB1 := hid hb1
 clear C1 c1 c2
 rcases hS with ⟨hs, rfl⟩ | ⟨s, ps, ds, hs, rfl, hls⟩
 · have HE : Hid (R = .error 14) := by show _ = _; rw [← HR.out]; unfold resolveP; rw [hs]
   obtain ⟨WS, hWS, hthS, X1, hX1, hgS, hsS, hbS⟩ := box_all w1 67 #[.string ⟨#[]⟩, .string ⟨#[]⟩, .int .i64 0, .slice none 0 0] [.string ⟨#[]⟩, .string ⟨#[]⟩, .int .i64 0, .slice none 0 0] rfl
   have HTS : Hid (WS.there w1.heap.size 0 4) := hthS
   have HXS : Hid (WS.setCells w1.heap.size 0 (#[.string ⟨#[]⟩, .string ⟨#[]⟩, .int .i64 0, .slice none 0 0] : Array Value).toList = X1) := hX1
   have HRX : Hid (ResB w [.slice pi ni ci, .string s0, .string s1, .string s2, .string s3, .slice pw nw cw, .slice pg ng cg] w1.heap.size [.string ⟨#[]⟩, .string ⟨#[]⟩, .int .i64 0, .slice none 0 0] [.string ⟨#[]⟩, .string ⟨#[]⟩, .int .i64 0, .int .i64 0, .int .i64 0, .slice none 0 0, .slice none 0 0, .slice none 0 0, .bool false, .slice none 0 0, .slice none 0 0] X1) := ⟨hbw1.trans (hbS.mono hbw1.size), (hbS.block _ (by omega)).trans q1, (hbS.block _ (by omega)).trans b1, (hbS.block _ (by omega)).trans e1, hs1', hgS⟩
   clear hs hb1 hbw1 q1 b1 e1 hs1' hthS hX1 hgS hsS hbS HG0 HLX hE
   obtain ⟨hBp, _, hbp, hep, _, _⟩ := HRX.out
   have CFp := hid (catch_stop (w.heap.size + 1) (w.heap.size + 1 + 1) (14) X1 _ _ rfl rfl hbp hep (by omega))
   have HBP := hid hBp
   clear hBp hbp hep
   go_wp2_with (refine wpList_store_mid rfl 67 _ _ rfl w1.heap.size 0 #[.string ⟨#[]⟩, .string ⟨#[]⟩, .int .i64 0, .slice none 0 0] rfl rfl HTS.out sz_scp (by simp [Value.oneCell']) ?_; rw [HXS.out])
   refine leaves_cons (f := 61) (args := #[.pointer (some ⟨w.heap.size + 1, 0, none⟩), .pointer (some ⟨w.heap.size + 1 + 1, 0, none⟩)]) (by simp) (by simp [go_sem]) ?_
   refine CFp.out.mono ?_
   rintro e u' w9 ⟨rfl, rfl, hf1, hf2, hfk⟩
   have hld1 := run_loadVar_mid (P := prog) w9 (w.heap.size + 1) 0 32 [.string ⟨#[]⟩, .string ⟨#[]⟩, .int .i64 0, .int .i64 0, .int .i64 0, .slice none 0 0, .slice none 0 0, .slice none 0 0, .bool false, .slice none 0 0, .slice none 0 0] _ (rgz hf1) underlying32 rfl sz_bnd
   have hld2 := load33 w9 (w.heap.size + 1 + 1) (.int .i64 (14)) (cell_of_row (k := 0) hf2 rfl)
   refine ⟨.tuple #[.agg #[.string ⟨#[]⟩, .string ⟨#[]⟩, .int .i64 0, .int .i64 0, .int .i64 0, .slice none 0 0, .slice none 0 0, .slice none 0 0, .bool false, .slice none 0 0, .slice none 0 0], .int .i64 (14)], by simp only [results, results23]; simp [asAddr, Act.put, hld1, hld2], ?_⟩
   refine ⟨⟨noBndC, ?_, ?_⟩, ?_⟩
   · rw [HE.out]; rfl
   · rw [HE.out]; exact noBnd_is _ _
   · have hB := HBP.out
     exact ⟨hfk.os.trans hB.os, hfk.tape.trans hB.tape, hfk.output.trans hB.output, by have := hfk.size; have := hB.size; omega, fun b hb => (hfk.block b ⟨by omega, by omega⟩).trans (hB.block b hb)⟩
 · obtain ⟨ht', hj', hp0, h16, hwd'⟩ := scope_small HCAT.out hs
   obtain ⟨tS, htS⟩ := bya s.t
   obtain ⟨jS, hjS⟩ := bya s.j
   obtain ⟨Nc, hNc⟩ := gen s.c.length
   obtain ⟨wd, hwd⟩ := gen s.w
   have hsc : scpC s ps ds = #[.string tS, .string jS, .int .i64 (wd : Int), .slice ps Nc ds] := by unfold scpC; rw [htS, hjS, hNc, hwd]
   have HSC := hid hsc
   have HS16 : Hid (s.c.length ≤ 16 ∧ s.w ≤ s.c.length ∧ s.w = wd) := ⟨h16, hwd', hwd⟩
   have HRS : Hid (resolveS s q = R) := by show _ = _; rw [← HR.out]; unfold resolveP; rw [hs]
   obtain ⟨WS, hWS, hthS, X1, hX1, hgS, hsS, hbS⟩ := box_all w1 67 #[.string ⟨#[]⟩, .string ⟨#[]⟩, .int .i64 0, .slice none 0 0] [.string tS, .string jS, .int .i64 (wd : Int), .slice ps Nc ds] rfl
   have HTS : Hid (WS.there w1.heap.size 0 4) := hthS
   have HXS : Hid (WS.setCells w1.heap.size 0 (#[.string tS, .string jS, .int .i64 (wd : Int), .slice ps Nc ds] : Array Value).toList = X1) := hX1
   obtain ⟨D, hD⟩ := gen X1.drew
   have hbD : Bl w1 D := by rw [← hD]; exact hbS.drew
   have hgD : D.heap[w1.heap.size]? = some (.cells ([.string tS, .string jS, .int .i64 (wd : Int), .slice ps Nc ds] : List Value).toArray 67 (0, 0)) := by rw [← hD]; exact hgS
   have HRD : Hid (ResB w [.slice pi ni ci, .string s0, .string s1, .string s2, .string s3, .slice pw nw cw, .slice pg ng cg] w1.heap.size [.string tS, .string jS, .int .i64 (wd : Int), .slice ps Nc ds] [.string ⟨#[]⟩, .string ⟨#[]⟩, .int .i64 0, .int .i64 0, .int .i64 0, .slice none 0 0, .slice none 0 0, .slice none 0 0, .bool false, .slice none 0 0, .slice none 0 0] D) := ⟨hbw1.trans (hbD.mono hbw1.size), (hbD.block _ (by omega)).trans q1, (hbD.block _ (by omega)).trans b1, (hbD.block _ (by omega)).trans e1, hs1', hgD⟩
   have HLS : Hid (∀ V, Bl w1 V → ListIs rClm 2 24 (From W0.heap.size w1) V (.slice ps s.c.length ds) s.c ∧ ∀ b, From W0.heap.size w1 b → b < V.heap.size) := fun V hV => ⟨hls.mono mClm (fun _ h => h) (kept_of From.lt hV), fun b hb => nlt hb.2 hV.size⟩
   have HLSK : Hid (∀ V, Kept (fun b => w.heap.size + 3 ≤ b ∧ b < w1.heap.size) w1 V → ListIs rClm 2 24 (From W0.heap.size w1) V (.slice ps s.c.length ds) s.c ∧ ∀ b, From W0.heap.size w1 b → b < V.heap.size) := fun V hV => ⟨hls.mono mClm (fun _ h => h) (hV.less fun b hb => ⟨by have := hb.1; have := HZ0.out; omega, hb.2⟩), fun b hb => by have := hV.size; have := hb.2; omega⟩
   have HKD : Hid (Kept (fun b => w.heap.size + 3 ≤ b ∧ b < w1.heap.size) w1 D) := kept_of (fun b h => h.2) hbD
   have HW1 : Hid (w.heap.size + 3 ≤ w1.heap.size ∧ w1.heap.size < D.heap.size ∧ w1.heap.size = w1.heap.size) := ⟨hs1', (gsi hgD).1, rfl⟩
   have CA := hid (clone_any s0 D HCL0.out.1)
   have CB : Hid (∀ V, Calls prog 62 #[.string s1] V fun e w' => e = .returned (.string s1) ∧ Bl V w') := fun V => clone_any s1 V HCL0.out.2
   have hd1 := cell_of_row (k := 1) (v := .string s0) HRD.out.2.1 rfl
   have hd2 := cell_of_row (k := 2) (v := .string s1) HRD.out.2.1 rfl
   have HSD : Hid (D.cell? ⟨w.heap.size, 1, none⟩ = some (.string s0) ∧ D.cell? ⟨w.heap.size, 2, none⟩ = some (.string s1)) := ⟨hd1, hd2⟩
   rw [hsc]
   clear hs hls hb1 hbw1 q1 b1 e1 hs1' ht' hj' hp0 h16 hwd' htS hjS hNc hwd hsc hthS hX1 hgS hsS hbS hbD hgD HG0 hd1 hd2 HCL0
   go_wp2_with (refine wpList_store_mid rfl 67 _ _ rfl w1.heap.size 0 #[.string tS, .string jS, .int .i64 (wd : Int), .slice ps Nc ds] rfl rfl HTS.out sz_scp (by simp [Value.oneCell']) ?_; rw [HXS.out])
   refine wp_region_noPanic ?_
   refine wp_region_held_drew (S := fun V => V.cell? ⟨w.heap.size, 1, none⟩ = some (.string s0) ∧ V.cell? ⟨w.heap.size, 2, none⟩ = some (.string s1)) (by kernel_rfl) (by rw [hD]; exact HSD.out) (fun hHeld => ?_)
   refine tk0 0 (.pointer (some ⟨w.heap.size, 1, none⟩)) rfl hHeld ?_
   refine tk 1 (.string s0) rfl (.inl ⟨by rfl, fun W hW => by obtain ⟨x1, x2⟩ := hW; go_simp⟩) hHeld ?_
   refine tk0 3 (.pointer (some ⟨w.heap.size, 2, none⟩)) rfl hHeld ?_
   refine tk 4 (.string s1) rfl (.inl ⟨by rfl, fun W hW => by obtain ⟨x1, x2⟩ := hW; go_simp⟩) hHeld ?_
   simp only [Act.put, List.getElem_toArray, List.getElem_cons_zero, List.getElem_cons_succ, List.setIfInBounds_toArray, List.set_cons_zero, List.set_cons_succ]
   rw [hD] at hHeld ⊢
   clear hD
   refine wpAnyH_ready (rs := [2]) (by kernel_rfl) (by simp) ?_
   refine AllReadyH.cons rfl (fun K' hK => ?_) AllReadyH.nil
   rw [if_pos (by rfl)]
   go_simp
   go_at_call 62
   refine CA.out.mono ?_
   rintro e w2 ⟨rfl, hb2⟩
   have hr2 := HRD.out.later hb2
   have HB2 := hid hb2
   have HR2 := hid hr2
   have HS2 : Hid (w2.cell? ⟨w.heap.size, 1, none⟩ = some (.string s0) ∧ w2.cell? ⟨w.heap.size, 2, none⟩ = some (.string s1)) := ⟨cell_of_row (k := 1) hr2.2.1 rfl, cell_of_row (k := 2) hr2.2.1 rfl⟩
   refine hK.out _ _ HS2.out (fun hHeld => ?_)
   clear hK K' hb2 hr2 CA
   refine wpAnyH_ready (rs := [5]) (by kernel_rfl) (by simp) ?_
   refine AllReadyH.cons rfl (fun K' hK => ?_) AllReadyH.nil
   rw [if_pos (by rfl)]
   go_simp
   go_at_call 62
   refine (CB.out w2).mono ?_
   rintro e w3 ⟨rfl, hb3⟩
   have hr3 := HR2.out.later hb3
   have HB3 : Hid (Bl D w3) := HB2.out.trans (hb3.mono HB2.out.size)
   have HS3 : Hid (w3.cell? ⟨w.heap.size, 1, none⟩ = some (.string s0) ∧ w3.cell? ⟨w.heap.size, 2, none⟩ = some (.string s1)) := ⟨cell_of_row (k := 1) hr3.2.1 rfl, cell_of_row (k := 2) hr3.2.1 rfl⟩
   obtain ⟨hth4, X4, hX4, hg4, hs4, hk4⟩ := put_all w3 (w.heap.size + 1) _ 32 hr3.2.2.1 [.string s0, .string s1, .int .i64 0, .int .i64 0, .int .i64 0, .slice none 0 0, .slice none 0 0, .slice none 0 0, .bool false, .slice none 0 0, .slice none 0 0] rfl
   have HT4 : Hid (w3.there (w.heap.size + 1) 0 11) := hth4
   have HX4 : Hid (w3.setCells (w.heap.size + 1) 0 (#[.string s0, .string s1, .int .i64 0, .int .i64 0, .int .i64 0, .slice none 0 0, .slice none 0 0, .slice none 0 0, .bool false, .slice none 0 0, .slice none 0 0] : Array Value).toList = X4) := hX4
   have HR4 : Hid (ResB w [.slice pi ni ci, .string s0, .string s1, .string s2, .string s3, .slice pw nw cw, .slice pg ng cg] w1.heap.size [.string tS, .string jS, .int .i64 (wd : Int), .slice ps Nc ds] [.string s0, .string s1, .int .i64 0, .int .i64 0, .int .i64 0, .slice none 0 0, .slice none 0 0, .slice none 0 0, .bool false, .slice none 0 0, .slice none 0 0] X4) := ⟨put_below hr3.1 hk4 hs4 (by omega), (hk4.block _ (by show _ ≠ _; omega)).trans hr3.2.1, hg4, (hk4.block _ (by show _ ≠ _; omega)).trans hr3.2.2.2.1, hr3.2.2.2.2.1, (hk4.block _ (by show _ ≠ _; have := hr3.2.2.2.2.1; omega)).trans hr3.2.2.2.2.2⟩
   have HS4 : Hid (X4.cell? ⟨w.heap.size, 1, none⟩ = some (.string s0) ∧ X4.cell? ⟨w.heap.size, 2, none⟩ = some (.string s1)) := ⟨cell_of_row (k := 1) HR4.out.2.1 rfl, cell_of_row (k := 2) HR4.out.2.1 rfl⟩
   have HK4 : Hid (Kept (fun b => w.heap.size + 3 ≤ b ∧ b < w1.heap.size) w1 X4) := (HKD.out.trans (kept_of (fun b h => by have := HW1.out; have := h.2; omega) HB3.out)).trans (hk4.less fun b hb => by show b ≠ _; omega)
   refine hK.out _ _ HS3.out (fun hHeld => ?_)
   clear hK K' hb3 hr3 CB hth4 hX4 hg4 hs4 hk4 HKD HR2 HRD
   refine tk0 6 (.agg #[.string s0, .string s1, .int .i64 0, .int .i64 0, .int .i64 0, .slice none 0 0, .slice none 0 0, .slice none 0 0, .bool false, .slice none 0 0, .slice none 0 0]) rfl hHeld ?_
   simp only [Act.put, List.getElem_toArray, List.getElem_cons_zero, List.getElem_cons_succ, List.setIfInBounds_toArray, List.set_cons_zero, List.set_cons_succ]
   refine wpAnyH_ready (rs := [7]) (by kernel_rfl) (by simp) ?_
   refine AllReadyH.cons rfl (fun K' hK => ?_) AllReadyH.nil
   rw [if_pos (by rfl)]
   refine wp_store_mid 32 (.tmp 4) (.tmp 27) rfl (w.heap.size + 1) (0) #[.string s0, .string s1, .int .i64 0, .int .i64 0, .int .i64 0, .slice none 0 0, .slice none 0 0, .slice none 0 0, .bool false, .slice none 0 0, .slice none 0 0] rfl rfl HT4.out sz_bnd (by simp [Value.oneCell']) ?_
   rw [HX4.out]
   simp only [Act.put, List.getElem_toArray, List.getElem_cons_zero, List.getElem_cons_succ, List.setIfInBounds_toArray, List.set_cons_zero, List.set_cons_succ]
   refine hK _ _ HS4.out (fun hHeld => ?_)
   clear hK K'
   refine wpAnyH_done (by kernel_rfl) ?_ _
   refine NoPanic.normal ?_
   by_cases hj : q.j = []
   · have t5 := hE.1 hj
     have HJ0 : Hid (R = restJ s q 0 0 0) := by show _ = _; rw [← HRS.out]; exact resolve_empty s q hj
     obtain ⟨x1, x2⟩ := HS4.out
     clear hj HRS hHeld HS2 HS3 x1
     obtain ⟨hq9, hb9, hs9⟩ := HR4.out.row
     have HQ9 : Hid (X4.cell? ⟨w.heap.size, 5, none⟩ = some (.slice pw nw cw)) := cell_of_row (k := 5) HR4.out.2.1 rfl
     have k5 := HQ9.out
     have HS9 := hid hs9
     have hx9 := HLX.out X4 HR4.out.1
     have hl9 := HLSK.out X4 HK4.out
     have CW : Hid (Calls prog 64 #[.agg #[.string tS, .string jS, .int .i64 (wd : Int), .slice ps Nc ds], .slice pw nw cw] X4 fun e w' => Got (whereR s q.w) (NewS X4.heap.size w') e ∧ Bl X4 w') := by
      have := where_any K (From W0.heap.size w1) s ps ds pw cw q.w X4 hl9.1 hl9.2 HS16.out.1 hx9.1.lw hx9.2.1 hx9.2.2
      rwa [HSC.out, HNN.out.2.1] at this
     obtain ⟨E9, hE9⟩ := gen (whereR s q.w)
     rw [hE9] at CW
     have HE9 := hid hE9
     clear hq9 hb9 hs9 hx9 hl9 hE9
     go_wp2_with (refine wpList_load_mid rfl 67 _ rfl w1.heap.size 0 rfl _ _ HS9.out underlying67 rfl sz_scp ?_)
     refine CW.out.mono ?_
     rintro e w9a ⟨hgot, hb9⟩
     have HR9 : Hid (ResB w [.slice pi ni ci, .string s0, .string s1, .string s2, .string s3, .slice pw nw cw, .slice pg ng cg] w1.heap.size [.string tS, .string jS, .int .i64 (wd : Int), .slice ps Nc ds] [.string s0, .string s1, .int .i64 0, .int .i64 0, .int .i64 0, .slice none 0 0, .slice none 0 0, .slice none 0 0, .bool false, .slice none 0 0, .slice none 0 0] w9a) := HR4.out.later hb9
     have HK9 : Hid (Kept (fun b => w.heap.size + 3 ≤ b ∧ b < w1.heap.size) w1 w9a) := HK4.out.trans (kept_of (fun b h => by have := HW1.out; have := HK4.out.size; have := h.2; omega) hb9)
     have HB9 := hid hb9
     clear CW hb9 k5 HQ9 HS9
     cases E9 with
     | error z =>
      have he : e = stopE z := hgot
      subst he
      have HE : Hid (R = .error z) := by show _ = _; rw [HJ0.out]; unfold restJ; rw [HE9.out]
      clear hgot HLX HLSK HLS hE
      unfold stopE
      obtain ⟨hBp, _, hbp, hep, _, _⟩ := HR9.out
      have CFp := hid (catch_stop (w.heap.size + 1) (w.heap.size + 1 + 1) (z) w9a _ _ rfl rfl hbp hep (by omega))
      have HBP := hid hBp
      clear hBp hbp hep
      go_wp2_with fail
      refine leaves_cons (f := 61) (args := #[.pointer (some ⟨w.heap.size + 1, 0, none⟩), .pointer (some ⟨w.heap.size + 1 + 1, 0, none⟩)]) (by simp) (by simp [go_sem]) ?_
      refine CFp.out.mono ?_
      rintro e u' w9 ⟨rfl, rfl, hf1, hf2, hfk⟩
      have hld1 := run_loadVar_mid (P := prog) w9 (w.heap.size + 1) 0 32 [.string ⟨#[]⟩, .string ⟨#[]⟩, .int .i64 0, .int .i64 0, .int .i64 0, .slice none 0 0, .slice none 0 0, .slice none 0 0, .bool false, .slice none 0 0, .slice none 0 0] _ (rgz hf1) underlying32 rfl sz_bnd
      have hld2 := load33 w9 (w.heap.size + 1 + 1) (.int .i64 (z)) (cell_of_row (k := 0) hf2 rfl)
      refine ⟨.tuple #[.agg #[.string ⟨#[]⟩, .string ⟨#[]⟩, .int .i64 0, .int .i64 0, .int .i64 0, .slice none 0 0, .slice none 0 0, .slice none 0 0, .bool false, .slice none 0 0, .slice none 0 0], .int .i64 (z)], by simp only [results, results23]; simp [asAddr, Act.put, hld1, hld2], ?_⟩
      refine ⟨⟨noBndC, ?_, ?_⟩, ?_⟩
      · rw [HE.out]; rfl
      · rw [HE.out]; exact noBnd_is _ _
      · have hB := HBP.out
        exact ⟨hfk.os.trans hB.os, hfk.tape.trans hB.tape, hfk.output.trans hB.output, by have := hfk.size; have := hB.size; omega, fun b hb => (hfk.block b ⟨by omega, by omega⟩).trans (hB.block b hb)⟩
     | ok wl =>
      obtain ⟨pwn, cwn, he, hlw⟩ : NewS X4.heap.size w9a wl e := hgot
      subst he
      obtain ⟨nwn, hnwn⟩ := gen wl.length
      rw [hnwn]
      have HJ5 : Hid (R = restW s q 0 0 0 wl) := by show _ = _; rw [HJ0.out]; unfold restJ; rw [HE9.out]
      obtain ⟨⟨u5, cu5⟩, fu5, X5, hX5, hr5, hs5, hk5⟩ := HR9.out.put 5 (by simp) (.slice pwn nwn cwn)
      have HNW := hid hnwn
      have HR5 : Hid (ResB w [.slice pi ni ci, .string s0, .string s1, .string s2, .string s3, .slice pw nw cw, .slice pg ng cg] w1.heap.size [.string tS, .string jS, .int .i64 (wd : Int), .slice ps Nc ds] [.string s0, .string s1, .int .i64 0, .int .i64 0, .int .i64 0, .slice pwn nwn cwn, .slice none 0 0, .slice none 0 0, .bool false, .slice none 0 0, .slice none 0 0] X5) := hr5
      have HK5 : Hid (Kept (fun b => w.heap.size + 3 ≤ b ∧ b < w1.heap.size) w1 X5) := HK9.out.trans (hk5.less fun b hb => by show b ≠ _; omega)
      have HLW : Hid (ListIs rStpW 3 32 (From (w.heap.size + 3) X5) X5 (.slice pwn wl.length cwn) wl) := list_kept mStpW (hlw.less mStpW (by have := HW1.out; have := HK4.out.size; omega)) hk5 (by omega)
      have k6 := cell_of_row (k := 6) (v := .slice pg ng cg) hr5.2.1 rfl
      have HS5 := hid hr5.row.2.2
      have hx5 := HLX.out X5 hr5.1
      have hl5 := HLSK.out X5 HK5.out
      have CG : Hid (Calls prog 65 #[.agg #[.string tS, .string jS, .int .i64 (wd : Int), .slice ps Nc ds], .slice pg ng cg] X5 fun e w' => Got (groupGo s [] q.g) (NewI X5.heap.size w') e ∧ Bl X5 w') := by
       have := group_any K (From W0.heap.size w1) s ps ds pg cg q.g X5 hl5.1 hl5.2 HS16.out.1 hx5.1.lg hx5.2.1 HQS.out.2
       rwa [HSC.out, HNN.out.2.2] at this
      obtain ⟨E10, hE10⟩ := gen (groupGo s [] q.g)
      rw [hE10] at CG
      have HE10 := hid hE10
      clear hlw hnwn hr5 hs5 hk5 hx5 hl5 hE10
      go_wp2_with (refine wpList_load_mid rfl 67 _ rfl w1.heap.size 0 rfl _ _ HS5.out underlying67 rfl sz_scp ?_)
      refine CG.out.mono ?_
      rintro e w10 ⟨hgot, hb10⟩
      have HR10 : Hid (ResB w [.slice pi ni ci, .string s0, .string s1, .string s2, .string s3, .slice pw nw cw, .slice pg ng cg] w1.heap.size [.string tS, .string jS, .int .i64 (wd : Int), .slice ps Nc ds] [.string s0, .string s1, .int .i64 0, .int .i64 0, .int .i64 0, .slice pwn nwn cwn, .slice none 0 0, .slice none 0 0, .bool false, .slice none 0 0, .slice none 0 0] w10) := HR5.out.later hb10
      have HK10 : Hid (Kept (fun b => w.heap.size + 3 ≤ b ∧ b < w1.heap.size) w1 w10) := HK5.out.trans (kept_of (fun b h => by have := HW1.out; have := HK5.out.size; have := h.2; omega) hb10)
      have HLW2 : Hid (ListIs rStpW 3 32 (From (w.heap.size + 3) w10) w10 (.slice pwn wl.length cwn) wl) := HLW.out.grow mStpW hb10
      clear CG hb10 k6 HS5 HLW
      cases E10 with
      | error z =>
       have he : e = stopE z := hgot
       subst he
       have HE : Hid (R = .error z) := by show _ = _; rw [HJ5.out]; unfold restW; rw [HE10.out]
       clear hgot HLX HLSK HLS hE
       unfold stopE
       obtain ⟨hBp, _, hbp, hep, _, _⟩ := HR10.out
       have CFp := hid (catch_stop (w.heap.size + 1) (w.heap.size + 1 + 1) (z) w10 _ _ rfl rfl hbp hep (by omega))
       have HBP := hid hBp
       clear hBp hbp hep
       go_wp2_with fail
       refine leaves_cons (f := 61) (args := #[.pointer (some ⟨w.heap.size + 1, 0, none⟩), .pointer (some ⟨w.heap.size + 1 + 1, 0, none⟩)]) (by simp) (by simp [go_sem]) ?_
       refine CFp.out.mono ?_
       rintro e u' w9 ⟨rfl, rfl, hf1, hf2, hfk⟩
       have hld1 := run_loadVar_mid (P := prog) w9 (w.heap.size + 1) 0 32 [.string ⟨#[]⟩, .string ⟨#[]⟩, .int .i64 0, .int .i64 0, .int .i64 0, .slice none 0 0, .slice none 0 0, .slice none 0 0, .bool false, .slice none 0 0, .slice none 0 0] _ (rgz hf1) underlying32 rfl sz_bnd
       have hld2 := load33 w9 (w.heap.size + 1 + 1) (.int .i64 (z)) (cell_of_row (k := 0) hf2 rfl)
       refine ⟨.tuple #[.agg #[.string ⟨#[]⟩, .string ⟨#[]⟩, .int .i64 0, .int .i64 0, .int .i64 0, .slice none 0 0, .slice none 0 0, .slice none 0 0, .bool false, .slice none 0 0, .slice none 0 0], .int .i64 (z)], by simp only [results, results23]; simp [asAddr, Act.put, hld1, hld2], ?_⟩
       refine ⟨⟨noBndC, ?_, ?_⟩, ?_⟩
       · rw [HE.out]; rfl
       · rw [HE.out]; exact noBnd_is _ _
       · have hB := HBP.out
         exact ⟨hfk.os.trans hB.os, hfk.tape.trans hB.tape, hfk.output.trans hB.output, by have := hfk.size; have := hB.size; omega, fun b hb => (hfk.block b ⟨by omega, by omega⟩).trans (hB.block b hb)⟩
      | ok gl =>
       obtain ⟨pgn, cgn, he, hlg⟩ : NewI X5.heap.size w10 gl e := hgot
       subst he
       obtain ⟨ngn, hngn⟩ := gen gl.length
       rw [hngn]
       have HJ6 : Hid (R = restG s q 0 0 0 wl gl) := by show _ = _; rw [HJ5.out]; unfold restW; rw [HE10.out]
       obtain ⟨⟨u6, cu6⟩, fu6, X6, hX6, hr6, hs6, hk6⟩ := HR10.out.put 6 (by simp) (.slice pgn ngn cgn)
       have HNG := hid hngn
       have HR6 : Hid (ResB w [.slice pi ni ci, .string s0, .string s1, .string s2, .string s3, .slice pw nw cw, .slice pg ng cg] w1.heap.size [.string tS, .string jS, .int .i64 (wd : Int), .slice ps Nc ds] [.string s0, .string s1, .int .i64 0, .int .i64 0, .int .i64 0, .slice pwn nwn cwn, .slice pgn ngn cgn, .slice none 0 0, .bool false, .slice none 0 0, .slice none 0 0] X6) := hr6
       have HK6 : Hid (Kept (fun b => w.heap.size + 3 ≤ b ∧ b < w1.heap.size) w1 X6) := HK10.out.trans (hk6.less fun b hb => by show b ≠ _; omega)
       have HLW3 : Hid (ListIs rStpW 3 32 (From (w.heap.size + 3) X6) X6 (.slice pwn wl.length cwn) wl) := list_kept mStpW HLW2.out hk6 (by omega)
       have HLG : Hid (ListIs rInt 1 8 (From (w.heap.size + 3) X6) X6 (.slice pgn gl.length cgn) gl) := list_kept mInt (hlg.less mInt (by have := HW1.out; have := HK5.out.size; omega)) hk6 (by omega)
       have k6b := cell_of_row (k := 6) (v := .slice pg ng cg) hr6.2.1 rfl
       have k0b := cell_of_row (k := 0) (v := .slice pi ni ci) hr6.2.1 rfl
       have hx6 := HLX.out X6 hr6.1
       have CGR : Hid (Calls prog 66 #[.int .i64 (ng : Int), .slice pi ni ci] X6 fun e w' => e = .returned (.bool (isGroupedP q.g.length q.i)) ∧ Bl X6 w') := by
        have := grouped_any K q.g.length pi ci q.i X6 hx6.1.li hx6.2.1
        rwa [HNN.out.1, show ((q.g.length : Nat) : Int) = (ng : Int) from by rw [HNN.out.2.2]] at this
       obtain ⟨gr, hgr⟩ := gen (isGroupedP q.g.length q.i)
       rw [hgr] at CGR
       have HGR := hid hgr
       clear hlg hngn hr6 hs6 hk6 hx6 hgr HLW2
       go_wp2_with fail
       refine CGR.out.mono ?_
       rintro e w11 ⟨rfl, hb11⟩
       have hr11 := HR6.out.later hb11
       obtain ⟨⟨u8, cu8⟩, fu8, X8, hX8, hr8, hs8, hk8⟩ := hr11.put 8 (by simp) (.bool gr)
       have HR8 : Hid (ResB w [.slice pi ni ci, .string s0, .string s1, .string s2, .string s3, .slice pw nw cw, .slice pg ng cg] w1.heap.size [.string tS, .string jS, .int .i64 (wd : Int), .slice ps Nc ds] [.string s0, .string s1, .int .i64 0, .int .i64 0, .int .i64 0, .slice pwn nwn cwn, .slice pgn ngn cgn, .slice none 0 0, .bool gr, .slice none 0 0, .slice none 0 0] X8) := hr8
       have HK8 : Hid (Kept (fun b => w.heap.size + 3 ≤ b ∧ b < w1.heap.size) w1 X8) := (HK6.out.trans (kept_of (fun b h => by have := HW1.out; have := HK6.out.size; have := h.2; omega) hb11)).trans (hk8.less fun b hb => by show b ≠ _; omega)
       have HLW4 : Hid (ListIs rStpW 3 32 (From (w.heap.size + 3) X8) X8 (.slice pwn wl.length cwn) wl) := list_kept mStpW (HLW3.out.grow mStpW hb11) hk8 (by omega)
       have HLG4 : Hid (ListIs rInt 1 8 (From (w.heap.size + 3) X8) X8 (.slice pgn gl.length cgn) gl) := list_kept mInt (HLG.out.grow mInt hb11) hk8 (by omega)
       have k0c := cell_of_row (k := 0) (v := .slice pi ni ci) hr8.2.1 rfl
       have HS8 := hid hr8.row.2.2
       have HD8 := hid hr8.row.2.1
       have hx8 := HLX.out X8 hr8.1
       have hl8 := HLSK.out X8 HK8.out
       have CI : Hid (Calls prog 67 #[.agg #[.string tS, .string jS, .int .i64 (wd : Int), .slice ps Nc ds], .slice pi ni ci, .agg #[.string s0, .string s1, .int .i64 0, .int .i64 0, .int .i64 0, .slice pwn nwn cwn, .slice pgn ngn cgn, .slice none 0 0, .bool gr, .slice none 0 0, .slice none 0 0]] X8 fun e w' => Got (itemsR s gr gl q.i) (NewT X8.heap.size w') e ∧ Bl X8 w') := by
        have := items_any K (From W0.heap.size w1) (From (w.heap.size + 3) X8) s ps ds pi ci q.i pgn cgn gr gl (.string s0) (.string s1) (.int .i64 0) (.int .i64 0) (.int .i64 0) (.slice pwn nwn cwn) (.slice none 0 0) (.slice none 0 0) (.slice none 0 0) X8 hl8.1 hl8.2 HS16.out.1 hx8.1.li hx8.2.1 HQS.out.1 HLG4.out From.lt hx8.2.2
        rwa [HSC.out, HNN.out.1, HNG.out] at this
       obtain ⟨E12, hE12⟩ := gen (itemsR s gr gl q.i)
       rw [hE12] at CI
       have HE12 := hid hE12
       clear CGR hb11 hr11 hr8 hs8 hk8 hx8 hl8 hE12 k6b k0b HLW3 HLG
       go_wp2_with (first | (refine wpList_load_mid rfl 67 _ rfl w1.heap.size 0 rfl _ _ HS8.out underlying67 rfl sz_scp ?_) | (refine wpList_load_mid rfl 32 _ rfl (w.heap.size + 1) 0 rfl _ _ HD8.out underlying32 rfl sz_bnd ?_))
       refine CI.out.mono ?_
       rintro e w12 ⟨hgot, hb12⟩
       have HR12 : Hid (ResB w [.slice pi ni ci, .string s0, .string s1, .string s2, .string s3, .slice pw nw cw, .slice pg ng cg] w1.heap.size [.string tS, .string jS, .int .i64 (wd : Int), .slice ps Nc ds] [.string s0, .string s1, .int .i64 0, .int .i64 0, .int .i64 0, .slice pwn nwn cwn, .slice pgn ngn cgn, .slice none 0 0, .bool gr, .slice none 0 0, .slice none 0 0] w12) := HR8.out.later hb12
       have HK12 : Hid (Kept (fun b => w.heap.size + 3 ≤ b ∧ b < w1.heap.size) w1 w12) := HK8.out.trans (kept_of (fun b h => by have := HW1.out; have := HK8.out.size; have := h.2; omega) hb12)
       have HLW5 : Hid (ListIs rStpW 3 32 (From (w.heap.size + 3) w12) w12 (.slice pwn wl.length cwn) wl) := HLW4.out.grow mStpW hb12
       have HLG5 : Hid (ListIs rInt 1 8 (From (w.heap.size + 3) w12) w12 (.slice pgn gl.length cgn) gl) := HLG4.out.grow mInt hb12
       clear CI hb12 k0c HS8 HD8 HLW4 HLG4
       cases E12 with
       | error z =>
        have he : e = stopE z := hgot
        subst he
        have HE : Hid (R = .error z) := by show _ = _; rw [HJ6.out]; unfold restG; rw [HGR.out, HE12.out]
        clear hgot HLX HLSK HLS hE
        unfold stopE
        obtain ⟨hBp, _, hbp, hep, _, _⟩ := HR12.out
        have CFp := hid (catch_stop (w.heap.size + 1) (w.heap.size + 1 + 1) (z) w12 _ _ rfl rfl hbp hep (by omega))
        have HBP := hid hBp
        clear hBp hbp hep
        go_wp2_with fail
        refine leaves_cons (f := 61) (args := #[.pointer (some ⟨w.heap.size + 1, 0, none⟩), .pointer (some ⟨w.heap.size + 1 + 1, 0, none⟩)]) (by simp) (by simp [go_sem]) ?_
        refine CFp.out.mono ?_
        rintro e u' w9 ⟨rfl, rfl, hf1, hf2, hfk⟩
        have hld1 := run_loadVar_mid (P := prog) w9 (w.heap.size + 1) 0 32 [.string ⟨#[]⟩, .string ⟨#[]⟩, .int .i64 0, .int .i64 0, .int .i64 0, .slice none 0 0, .slice none 0 0, .slice none 0 0, .bool false, .slice none 0 0, .slice none 0 0] _ (rgz hf1) underlying32 rfl sz_bnd
        have hld2 := load33 w9 (w.heap.size + 1 + 1) (.int .i64 (z)) (cell_of_row (k := 0) hf2 rfl)
        refine ⟨.tuple #[.agg #[.string ⟨#[]⟩, .string ⟨#[]⟩, .int .i64 0, .int .i64 0, .int .i64 0, .slice none 0 0, .slice none 0 0, .slice none 0 0, .bool false, .slice none 0 0, .slice none 0 0], .int .i64 (z)], by simp only [results, results23]; simp [asAddr, Act.put, hld1, hld2], ?_⟩
        refine ⟨⟨noBndC, ?_, ?_⟩, ?_⟩
        · rw [HE.out]; rfl
        · rw [HE.out]; exact noBnd_is _ _
        · have hB := HBP.out
          exact ⟨hfk.os.trans hB.os, hfk.tape.trans hB.tape, hfk.output.trans hB.output, by have := hfk.size; have := hB.size; omega, fun b hb => (hfk.block b ⟨by omega, by omega⟩).trans (hB.block b hb)⟩
       | ok il =>
        obtain ⟨pin, cin, he, hli⟩ : NewT X8.heap.size w12 il e := hgot
        subst he
        obtain ⟨nin, hnin⟩ := gen il.length
        rw [hnin]
        have HNI := hid hnin
        have hil := itemsR_in HQS.out.1 HE12.out
        have HIL := hid hil
        have HJ7 : Hid (R = .ok ⟨q.t, q.j, 0, 0, 0, wl, gl, il, gr, namesGo s 0 il, il.map (kindI s)⟩) := by show _ = _; rw [HJ6.out]; unfold restG; rw [HGR.out, HE12.out]
        obtain ⟨⟨u7, cu7⟩, fu7, X7, hX7, hr7, hs7, hk7⟩ := HR12.out.put 7 (by simp) (.slice pin nin cin)
        have HR7 : Hid (ResB w [.slice pi ni ci, .string s0, .string s1, .string s2, .string s3, .slice pw nw cw, .slice pg ng cg] w1.heap.size [.string tS, .string jS, .int .i64 (wd : Int), .slice ps Nc ds] [.string s0, .string s1, .int .i64 0, .int .i64 0, .int .i64 0, .slice pwn nwn cwn, .slice pgn ngn cgn, .slice pin nin cin, .bool gr, .slice none 0 0, .slice none 0 0] X7) := hr7
        have HK7 : Hid (Kept (fun b => w.heap.size + 3 ≤ b ∧ b < w1.heap.size) w1 X7) := HK12.out.trans (hk7.less fun b hb => by show b ≠ _; omega)
        have HLW6 : Hid (ListIs rStpW 3 32 (From (w.heap.size + 3) X7) X7 (.slice pwn wl.length cwn) wl) := list_kept mStpW HLW5.out hk7 (by omega)
        have HLG6 : Hid (ListIs rInt 1 8 (From (w.heap.size + 3) X7) X7 (.slice pgn gl.length cgn) gl) := list_kept mInt HLG5.out hk7 (by omega)
        have HLI : Hid (ListIs rItmW 2 32 (From (w.heap.size + 3) X7) X7 (.slice pin il.length cin) il) := list_kept mItmW (hli.less mItmW (by have := HW1.out; have := HK8.out.size; omega)) hk7 (by omega)
        have k7 := cell_of_row (k := 7) (v := .slice pin nin cin) hr7.2.2.1 rfl
        have HS7 := hid hr7.row.2.2
        have hx7 := HLX.out X7 hr7.1
        have hl7 := HLSK.out X7 HK7.out
        have CANS : Hid (Calls prog 68 #[.agg #[.string tS, .string jS, .int .i64 (wd : Int), .slice ps Nc ds], .slice pin nin cin] X7 fun e w' => AnsE s il X7.heap.size w' e ∧ Bl X7 w') := by
         have := answer_any (From (w.heap.size + 3) X7) (From W0.heap.size w1) s ps ds pin cin il X7 hl7.1 hl7.2 HLI.out From.lt hil.1 hil.2 hx7.2.2
         rwa [HSC.out, hnin] at this
        clear hli hnin hil hr7 hs7 hk7 hx7 hl7 HLW5 HLG5
        go_wp2_with (refine wpList_load_mid rfl 67 _ rfl w1.heap.size 0 rfl _ _ HS7.out underlying67 rfl sz_scp ?_)
        refine CANS.out.mono ?_
        rintro e w13 ⟨⟨pnn, cnn, pkn, ckn, rfl, hln, hlk⟩, hb13⟩
        have hr13 := HR7.out.later hb13
        obtain ⟨⟨u9, cu9⟩, fu9, X9, hX9, hr9, hs9, hk9⟩ := hr13.put 9 (by simp) (.slice pnn nin cnn)
        obtain ⟨⟨uA, cuA⟩, fuA, XA, hXA, hrA, hsA, hkA⟩ := hr9.put 10 (by simp) (.slice pkn nin ckn)
        have hkAB : Kept (fun b => b ≠ w.heap.size + 1) w13 XA := hk9.trans hkA
        have HRA : Hid (ResB w [.slice pi ni ci, .string s0, .string s1, .string s2, .string s3, .slice pw nw cw, .slice pg ng cg] w1.heap.size [.string tS, .string jS, .int .i64 (wd : Int), .slice ps Nc ds] [.string s0, .string s1, .int .i64 0, .int .i64 0, .int .i64 0, .slice pwn nwn cwn, .slice pgn ngn cgn, .slice pin nin cin, .bool gr, .slice pnn nin cnn, .slice pkn nin ckn] XA) := hrA
        have hlwA := list_kept mStpW (HLW6.out.grow mStpW hb13) hkAB (by omega)
        have hlgA := list_kept mInt (HLG6.out.grow mInt hb13) hkAB (by omega)
        have hliA := list_kept mItmW (HLI.out.grow mItmW hb13) hkAB (by omega)
        have hlnA := list_kept mStrW (hln.less mStrW (show w.heap.size + 3 ≤ X7.heap.size by have := HW1.out; have := HK7.out.size; omega)) hkAB (by omega)
        have hlkA := list_kept mKnd (hlk.less mKnd (show w.heap.size + 3 ≤ X7.heap.size by have := HW1.out; have := HK7.out.size; omega)) hkAB (by omega)
        obtain ⟨hthF, XF, hXF, hgF, hsF, hkF⟩ := put_all XA (w.heap.size + 1) _ 32 hrA.2.2.1 [.string s0, .string s1, .int .i64 0, .int .i64 0, .int .i64 0, .slice pwn nwn cwn, .slice pgn ngn cgn, .slice pin nin cin, .bool gr, .slice pnn nin cnn, .slice pkn nin ckn] rfl
        have heF := (hkF.block (w.heap.size + 1 + 1) (by show _ ≠ _; omega)).trans hrA.2.2.2.1
        obtain ⟨⟨uE, cuE⟩, fuE, XE, hXE, hgE, hsE, hkE⟩ := put_one XF (w.heap.size + 1 + 1) 0 [.int .i64 0] 33 heF (by simp) (.int .i64 0)
        have HTF : Hid (XA.there (w.heap.size + 1) 0 11) := hthF
        have HXF : Hid (XA.setCells (w.heap.size + 1) 0 (#[.string s0, .string s1, .int .i64 0, .int .i64 0, .int .i64 0, .slice pwn nwn cwn, .slice pgn ngn cgn, .slice pin nin cin, .bool gr, .slice pnn nin cnn, .slice pkn nin ckn] : Array Value).toList = XF) := hXF
        have HDA := hid hrA.row.2.1
        have hgFE := (hkE.block (w.heap.size + 1) (by show _ ≠ _; omega)).trans hgF
        have HLD1 := hid (run_loadVar_mid (P := prog) XE (w.heap.size + 1) 0 32 [.string s0, .string s1, .int .i64 0, .int .i64 0, .int .i64 0, .slice pwn nwn cwn, .slice pgn ngn cgn, .slice pin nin cin, .bool gr, .slice pnn nin cnn, .slice pkn nin ckn] _ (rgz hgFE) underlying32 rfl sz_bnd)
        have HLD2 := hid (load33 XE (w.heap.size + 1 + 1) (.int .i64 0) (cell_of_row (k := 0) hgE rfl))
        have hkFE : Kept (fun b => w.heap.size + 3 ≤ b) XA XE := (hkF.less fun b hb => by show b ≠ _; omega).trans (hkE.less fun b hb => by show b ≠ _; omega)
        have hbE : Bl w XE := put_below (put_below hrA.1 hkF hsF (by omega)) hkE hsE (by omega)
        have HBE := hid hbE
        have HOUT : Hid (OutB w.heap.size XE R (.returned (.tuple #[.agg #[.string s0, .string s1, .int .i64 0, .int .i64 0, .int .i64 0, .slice pwn nwn cwn, .slice pgn ngn cgn, .slice pin nin cin, .bool gr, .slice pnn nin cnn, .slice pkn nin ckn], .int .i64 0]))) := by
         show OutB _ _ _ _
         rw [HJ7.out]
         refine ⟨[.string s0, .string s1, .int .i64 0, .int .i64 0, .int .i64 0, .slice pwn nwn cwn, .slice pgn ngn cgn, .slice pin nin cin, .bool gr, .slice pnn nin cnn, .slice pkn nin ckn], rfl, pwn, pgn, pin, pnn, pkn, cwn, cgn, cin, cnn, ckn, ?_, ?_, ?_, ?_, ?_, ?_⟩
         · unfold resB bndC; simp only; rw [HSS.out.1, HSS.out.2.1, HNW.out, HNG.out, HNI.out, namesGo_len, List.length_map, HNI.out]
         · exact (hlwA.kept mStpW hkFE).less mStpW (by omega)
         · exact (hlgA.kept mInt hkFE).less mInt (by omega)
         · exact (hliA.kept mItmW hkFE).less mItmW (by omega)
         · show ListIs rStrW 1 16 _ XE (.slice pnn (namesGo s 0 il).length cnn) (namesGo s 0 il)
           rw [namesGo_len]; exact (hlnA.kept mStrW hkFE).less mStrW (by omega)
         · show ListIs rKnd 1 1 _ XE (.slice pkn (il.map (kindI s)).length ckn) (il.map (kindI s))
           rw [List.length_map]; exact (hlkA.kept mKnd hkFE).less mKnd (by omega)
        rw [HNI.out]
        clear hln hlk hb13 hr13 hr9 hs9 hk9 hrA hsA hkA hkAB hlwA hlgA hliA hlnA hlkA hthF hXF hgF hsF hkF heF hgE hsE hkE hgFE hkFE hbE CANS k7 HS7 HLW6 HLG6 HLI HIL HLX HLSK HLS hE
        go_wp2_with (first | (refine wpList_load_mid rfl 32 _ rfl (w.heap.size + 1) 0 rfl _ _ HDA.out underlying32 rfl sz_bnd ?_) | (refine wpList_store_mid rfl 32 _ _ rfl (w.heap.size + 1) 0 #[.string s0, .string s1, .int .i64 0, .int .i64 0, .int .i64 0, .slice pwn nwn cwn, .slice pgn ngn cgn, .slice pin nin cin, .bool gr, .slice pnn nin cnn, .slice pkn nin ckn] rfl rfl HTF.out sz_bnd (by simp [Value.oneCell']) ?_; rw [HXF.out]))
        refine leaves_cons (f := 61) (args := #[.pointer (some ⟨w.heap.size + 1, 0, none⟩), .pointer (some ⟨w.heap.size + 1 + 1, 0, none⟩)]) (by simp) (by simp [go_sem]) ?_
        refine (catch_none _ _ _).mono ?_
        rintro e u' w14 ⟨rfl, rfl, rfl⟩
        have hl1 := HLD1.out
        have hl2 := HLD2.out
        refine ⟨.tuple #[.agg #[.string s0, .string s1, .int .i64 0, .int .i64 0, .int .i64 0, .slice pwn nwn cwn, .slice pgn ngn cgn, .slice pin nin cin, .bool gr, .slice pnn nin cnn, .slice pkn nin ckn], .int .i64 0], by simp only [results, results23]; simp [asAddr, Act.put, hl1, hl2], ?_⟩
        exact ⟨HOUT.out, HBE.out⟩
   · have t5 := hE.2 hj
     have HRJ := hid (HRS.out.symm.trans (resolve_join s q hj))
     obtain ⟨x1, x2⟩ := HS4.out
     obtain ⟨⟨u2, cu2⟩, fu2, XW, hXW, hrw, hsw, hkw⟩ := HR4.out.put 2 (by simp) (.int .i64 (wd : Int))
     have HRW : Hid (ResB w [.slice pi ni ci, .string s0, .string s1, .string s2, .string s3, .slice pw nw cw, .slice pg ng cg] w1.heap.size [.string tS, .string jS, .int .i64 (wd : Int), .slice ps Nc ds] [.string s0, .string s1, .int .i64 (wd : Int), .int .i64 0, .int .i64 0, .slice none 0 0, .slice none 0 0, .slice none 0 0, .bool false, .slice none 0 0, .slice none 0 0] XW) := hrw
     have HKW : Hid (Kept (fun b => w.heap.size + 3 ≤ b ∧ b < w1.heap.size) w1 XW) := HK4.out.trans (hkw.less fun b hb => by show b ≠ _; omega)
     have y2 := cell_of_row (k := 2) (v := .int .i64 (wd : Int)) HR4.out.2.2.2.2.2 rfl
     have y3 := cell_of_row (k := 3) (v := .string s2) hrw.2.1 rfl
     have y4 := cell_of_row (k := 4) (v := .string s3) hrw.2.1 rfl
     have HSW := hid hrw.row.2.2
     have hxw := HLX.out XW hrw.1
     have hlw := HLSK.out XW HKW.out
     have CJ : Hid (Calls prog 63 #[.agg #[.string tS, .string jS, .int .i64 (wd : Int), .slice ps Nc ds], .string s2, .string s3] XW fun e w' => Got (joinR s q.a q.b) RetJ e ∧ Bl XW w') := by
      have := join_any (From W0.heap.size w1) s ps ds q.a q.b XW hlw.1 hlw.2 HS16.out.1 HS16.out.2.1 hxw.1.la hxw.1.lb
      rwa [HSC.out, HSS.out.2.2.1, HSS.out.2.2.2] at this
     obtain ⟨EJ, hEJ⟩ := gen (joinR s q.a q.b)
     rw [hEJ] at CJ
     have HEJ := hid hEJ
     clear hj HRS hHeld HS2 HS3 x1 hrw hsw hkw hxw hlw hEJ
     go_wp2_with (refine wpList_load_mid rfl 67 _ rfl w1.heap.size 0 rfl _ _ HSW.out underlying67 rfl sz_scp ?_)
     refine CJ.out.mono ?_
     rintro e wj ⟨hgot, hbj⟩
     have HRJX : Hid (ResB w [.slice pi ni ci, .string s0, .string s1, .string s2, .string s3, .slice pw nw cw, .slice pg ng cg] w1.heap.size [.string tS, .string jS, .int .i64 (wd : Int), .slice ps Nc ds] [.string s0, .string s1, .int .i64 (wd : Int), .int .i64 0, .int .i64 0, .slice none 0 0, .slice none 0 0, .slice none 0 0, .bool false, .slice none 0 0, .slice none 0 0] wj) := HRW.out.later hbj
     have HKJ : Hid (Kept (fun b => w.heap.size + 3 ≤ b ∧ b < w1.heap.size) w1 wj) := HKW.out.trans (kept_of (fun b h => by have := HW1.out; have := HKW.out.size; have := h.2; omega) hbj)
     clear CJ hbj y2 y3 y4 HSW x2
     cases EJ with
     | error z =>
      have he : e = stopE z := hgot
      subst he
      have HE : Hid (R = .error z) := by show _ = _; rw [HRJ.out, HEJ.out]
      clear hgot HLX HLSK HLS hE
      unfold stopE
      obtain ⟨hBp, _, hbp, hep, _, _⟩ := HRJX.out
      have CFp := hid (catch_stop (w.heap.size + 1) (w.heap.size + 1 + 1) (z) wj _ _ rfl rfl hbp hep (by omega))
      have HBP := hid hBp
      clear hBp hbp hep
      go_wp2_with fail
      refine leaves_cons (f := 61) (args := #[.pointer (some ⟨w.heap.size + 1, 0, none⟩), .pointer (some ⟨w.heap.size + 1 + 1, 0, none⟩)]) (by simp) (by simp [go_sem]) ?_
      refine CFp.out.mono ?_
      rintro e u' w9 ⟨rfl, rfl, hf1, hf2, hfk⟩
      have hld1 := run_loadVar_mid (P := prog) w9 (w.heap.size + 1) 0 32 [.string ⟨#[]⟩, .string ⟨#[]⟩, .int .i64 0, .int .i64 0, .int .i64 0, .slice none 0 0, .slice none 0 0, .slice none 0 0, .bool false, .slice none 0 0, .slice none 0 0] _ (rgz hf1) underlying32 rfl sz_bnd
      have hld2 := load33 w9 (w.heap.size + 1 + 1) (.int .i64 (z)) (cell_of_row (k := 0) hf2 rfl)
      refine ⟨.tuple #[.agg #[.string ⟨#[]⟩, .string ⟨#[]⟩, .int .i64 0, .int .i64 0, .int .i64 0, .slice none 0 0, .slice none 0 0, .slice none 0 0, .bool false, .slice none 0 0, .slice none 0 0], .int .i64 (z)], by simp only [results, results23]; simp [asAddr, Act.put, hld1, hld2], ?_⟩
      refine ⟨⟨noBndC, ?_, ?_⟩, ?_⟩
      · rw [HE.out]; rfl
      · rw [HE.out]; exact noBnd_is _ _
      · have hB := HBP.out
        exact ⟨hfk.os.trans hB.os, hfk.tape.trans hB.tape, hfk.output.trans hB.output, by have := hfk.size; have := hB.size; omega, fun b hb => (hfk.block b ⟨by omega, by omega⟩).trans (hB.block b hb)⟩
     | ok xy =>
      have he : e = .returned (.tuple #[.int .i64 xy.1, .int .i64 xy.2]) := hgot
      subst he
      have HJ0 : Hid (R = restJ s q (wd : Int) xy.1 xy.2) := by show _ = _; rw [HRJ.out, HEJ.out]; simp only; rw [HS16.out.2.2]
      obtain ⟨⟨u3, cu3⟩, fu3, Xa, hXa, hra, hsa, hka⟩ := HRJX.out.put 3 (by simp) (.int .i64 xy.1)
      obtain ⟨⟨u4, cu4⟩, fu4, Xb, hXb, hrb, hsb, hkb⟩ := hra.put 4 (by simp) (.int .i64 xy.2)
      have HRB : Hid (ResB w [.slice pi ni ci, .string s0, .string s1, .string s2, .string s3, .slice pw nw cw, .slice pg ng cg] w1.heap.size [.string tS, .string jS, .int .i64 (wd : Int), .slice ps Nc ds] [.string s0, .string s1, .int .i64 (wd : Int), .int .i64 xy.1, .int .i64 xy.2, .slice none 0 0, .slice none 0 0, .slice none 0 0, .bool false, .slice none 0 0, .slice none 0 0] Xb) := hrb
      have HKB : Hid (Kept (fun b => w.heap.size + 3 ≤ b ∧ b < w1.heap.size) w1 Xb) := (HKJ.out.trans (hka.less fun b hb => by show b ≠ _; omega)).trans (hkb.less fun b hb => by show b ≠ _; omega)
      clear hgot hra hsa hka hrb hsb hkb HRJ
      obtain ⟨hq9, hb9, hs9⟩ := HRB.out.row
      have HQ9 : Hid (Xb.cell? ⟨w.heap.size, 5, none⟩ = some (.slice pw nw cw)) := cell_of_row (k := 5) HRB.out.2.1 rfl
      have k5 := HQ9.out
      have HS9 := hid hs9
      have hx9 := HLX.out Xb HRB.out.1
      have hl9 := HLSK.out Xb HKB.out
      have CW : Hid (Calls prog 64 #[.agg #[.string tS, .string jS, .int .i64 (wd : Int), .slice ps Nc ds], .slice pw nw cw] Xb fun e w' => Got (whereR s q.w) (NewS Xb.heap.size w') e ∧ Bl Xb w') := by
       have := where_any K (From W0.heap.size w1) s ps ds pw cw q.w Xb hl9.1 hl9.2 HS16.out.1 hx9.1.lw hx9.2.1 hx9.2.2
       rwa [HSC.out, HNN.out.2.1] at this
      obtain ⟨E9, hE9⟩ := gen (whereR s q.w)
      rw [hE9] at CW
      have HE9 := hid hE9
      clear hq9 hb9 hs9 hx9 hl9 hE9
      go_wp2_with (refine wpList_load_mid rfl 67 _ rfl w1.heap.size 0 rfl _ _ HS9.out underlying67 rfl sz_scp ?_)
      refine CW.out.mono ?_
      rintro e w9a ⟨hgot, hb9⟩
      have HR9 : Hid (ResB w [.slice pi ni ci, .string s0, .string s1, .string s2, .string s3, .slice pw nw cw, .slice pg ng cg] w1.heap.size [.string tS, .string jS, .int .i64 (wd : Int), .slice ps Nc ds] [.string s0, .string s1, .int .i64 (wd : Int), .int .i64 xy.1, .int .i64 xy.2, .slice none 0 0, .slice none 0 0, .slice none 0 0, .bool false, .slice none 0 0, .slice none 0 0] w9a) := HRB.out.later hb9
      have HK9 : Hid (Kept (fun b => w.heap.size + 3 ≤ b ∧ b < w1.heap.size) w1 w9a) := HKB.out.trans (kept_of (fun b h => by have := HW1.out; have := HKB.out.size; have := h.2; omega) hb9)
      have HB9 := hid hb9
      clear CW hb9 k5 HQ9 HS9
      cases E9 with
      | error z =>
       have he : e = stopE z := hgot
       subst he
       have HE : Hid (R = .error z) := by show _ = _; rw [HJ0.out]; unfold restJ; rw [HE9.out]
       clear hgot HLX HLSK HLS hE
       unfold stopE
       obtain ⟨hBp, _, hbp, hep, _, _⟩ := HR9.out
       have CFp := hid (catch_stop (w.heap.size + 1) (w.heap.size + 1 + 1) (z) w9a _ _ rfl rfl hbp hep (by omega))
       have HBP := hid hBp
       clear hBp hbp hep
       go_wp2_with fail
       refine leaves_cons (f := 61) (args := #[.pointer (some ⟨w.heap.size + 1, 0, none⟩), .pointer (some ⟨w.heap.size + 1 + 1, 0, none⟩)]) (by simp) (by simp [go_sem]) ?_
       refine CFp.out.mono ?_
       rintro e u' w9 ⟨rfl, rfl, hf1, hf2, hfk⟩
       have hld1 := run_loadVar_mid (P := prog) w9 (w.heap.size + 1) 0 32 [.string ⟨#[]⟩, .string ⟨#[]⟩, .int .i64 0, .int .i64 0, .int .i64 0, .slice none 0 0, .slice none 0 0, .slice none 0 0, .bool false, .slice none 0 0, .slice none 0 0] _ (rgz hf1) underlying32 rfl sz_bnd
       have hld2 := load33 w9 (w.heap.size + 1 + 1) (.int .i64 (z)) (cell_of_row (k := 0) hf2 rfl)
       refine ⟨.tuple #[.agg #[.string ⟨#[]⟩, .string ⟨#[]⟩, .int .i64 0, .int .i64 0, .int .i64 0, .slice none 0 0, .slice none 0 0, .slice none 0 0, .bool false, .slice none 0 0, .slice none 0 0], .int .i64 (z)], by simp only [results, results23]; simp [asAddr, Act.put, hld1, hld2], ?_⟩
       refine ⟨⟨noBndC, ?_, ?_⟩, ?_⟩
       · rw [HE.out]; rfl
       · rw [HE.out]; exact noBnd_is _ _
       · have hB := HBP.out
         exact ⟨hfk.os.trans hB.os, hfk.tape.trans hB.tape, hfk.output.trans hB.output, by have := hfk.size; have := hB.size; omega, fun b hb => (hfk.block b ⟨by omega, by omega⟩).trans (hB.block b hb)⟩
      | ok wl =>
       obtain ⟨pwn, cwn, he, hlw⟩ : NewS Xb.heap.size w9a wl e := hgot
       subst he
       obtain ⟨nwn, hnwn⟩ := gen wl.length
       rw [hnwn]
       have HJ5 : Hid (R = restW s q (wd : Int) xy.1 xy.2 wl) := by show _ = _; rw [HJ0.out]; unfold restJ; rw [HE9.out]
       obtain ⟨⟨u5, cu5⟩, fu5, X5, hX5, hr5, hs5, hk5⟩ := HR9.out.put 5 (by simp) (.slice pwn nwn cwn)
       have HNW := hid hnwn
       have HR5 : Hid (ResB w [.slice pi ni ci, .string s0, .string s1, .string s2, .string s3, .slice pw nw cw, .slice pg ng cg] w1.heap.size [.string tS, .string jS, .int .i64 (wd : Int), .slice ps Nc ds] [.string s0, .string s1, .int .i64 (wd : Int), .int .i64 xy.1, .int .i64 xy.2, .slice pwn nwn cwn, .slice none 0 0, .slice none 0 0, .bool false, .slice none 0 0, .slice none 0 0] X5) := hr5
       have HK5 : Hid (Kept (fun b => w.heap.size + 3 ≤ b ∧ b < w1.heap.size) w1 X5) := HK9.out.trans (hk5.less fun b hb => by show b ≠ _; omega)
       have HLW : Hid (ListIs rStpW 3 32 (From (w.heap.size + 3) X5) X5 (.slice pwn wl.length cwn) wl) := list_kept mStpW (hlw.less mStpW (by have := HW1.out; have := HKB.out.size; omega)) hk5 (by omega)
       have k6 := cell_of_row (k := 6) (v := .slice pg ng cg) hr5.2.1 rfl
       have HS5 := hid hr5.row.2.2
       have hx5 := HLX.out X5 hr5.1
       have hl5 := HLSK.out X5 HK5.out
       have CG : Hid (Calls prog 65 #[.agg #[.string tS, .string jS, .int .i64 (wd : Int), .slice ps Nc ds], .slice pg ng cg] X5 fun e w' => Got (groupGo s [] q.g) (NewI X5.heap.size w') e ∧ Bl X5 w') := by
        have := group_any K (From W0.heap.size w1) s ps ds pg cg q.g X5 hl5.1 hl5.2 HS16.out.1 hx5.1.lg hx5.2.1 HQS.out.2
        rwa [HSC.out, HNN.out.2.2] at this
       obtain ⟨E10, hE10⟩ := gen (groupGo s [] q.g)
       rw [hE10] at CG
       have HE10 := hid hE10
       clear hlw hnwn hr5 hs5 hk5 hx5 hl5 hE10
       go_wp2_with (refine wpList_load_mid rfl 67 _ rfl w1.heap.size 0 rfl _ _ HS5.out underlying67 rfl sz_scp ?_)
       refine CG.out.mono ?_
       rintro e w10 ⟨hgot, hb10⟩
       have HR10 : Hid (ResB w [.slice pi ni ci, .string s0, .string s1, .string s2, .string s3, .slice pw nw cw, .slice pg ng cg] w1.heap.size [.string tS, .string jS, .int .i64 (wd : Int), .slice ps Nc ds] [.string s0, .string s1, .int .i64 (wd : Int), .int .i64 xy.1, .int .i64 xy.2, .slice pwn nwn cwn, .slice none 0 0, .slice none 0 0, .bool false, .slice none 0 0, .slice none 0 0] w10) := HR5.out.later hb10
       have HK10 : Hid (Kept (fun b => w.heap.size + 3 ≤ b ∧ b < w1.heap.size) w1 w10) := HK5.out.trans (kept_of (fun b h => by have := HW1.out; have := HK5.out.size; have := h.2; omega) hb10)
       have HLW2 : Hid (ListIs rStpW 3 32 (From (w.heap.size + 3) w10) w10 (.slice pwn wl.length cwn) wl) := HLW.out.grow mStpW hb10
       clear CG hb10 k6 HS5 HLW
       cases E10 with
       | error z =>
        have he : e = stopE z := hgot
        subst he
        have HE : Hid (R = .error z) := by show _ = _; rw [HJ5.out]; unfold restW; rw [HE10.out]
        clear hgot HLX HLSK HLS hE
        unfold stopE
        obtain ⟨hBp, _, hbp, hep, _, _⟩ := HR10.out
        have CFp := hid (catch_stop (w.heap.size + 1) (w.heap.size + 1 + 1) (z) w10 _ _ rfl rfl hbp hep (by omega))
        have HBP := hid hBp
        clear hBp hbp hep
        go_wp2_with fail
        refine leaves_cons (f := 61) (args := #[.pointer (some ⟨w.heap.size + 1, 0, none⟩), .pointer (some ⟨w.heap.size + 1 + 1, 0, none⟩)]) (by simp) (by simp [go_sem]) ?_
        refine CFp.out.mono ?_
        rintro e u' w9 ⟨rfl, rfl, hf1, hf2, hfk⟩
        have hld1 := run_loadVar_mid (P := prog) w9 (w.heap.size + 1) 0 32 [.string ⟨#[]⟩, .string ⟨#[]⟩, .int .i64 0, .int .i64 0, .int .i64 0, .slice none 0 0, .slice none 0 0, .slice none 0 0, .bool false, .slice none 0 0, .slice none 0 0] _ (rgz hf1) underlying32 rfl sz_bnd
        have hld2 := load33 w9 (w.heap.size + 1 + 1) (.int .i64 (z)) (cell_of_row (k := 0) hf2 rfl)
        refine ⟨.tuple #[.agg #[.string ⟨#[]⟩, .string ⟨#[]⟩, .int .i64 0, .int .i64 0, .int .i64 0, .slice none 0 0, .slice none 0 0, .slice none 0 0, .bool false, .slice none 0 0, .slice none 0 0], .int .i64 (z)], by simp only [results, results23]; simp [asAddr, Act.put, hld1, hld2], ?_⟩
        refine ⟨⟨noBndC, ?_, ?_⟩, ?_⟩
        · rw [HE.out]; rfl
        · rw [HE.out]; exact noBnd_is _ _
        · have hB := HBP.out
          exact ⟨hfk.os.trans hB.os, hfk.tape.trans hB.tape, hfk.output.trans hB.output, by have := hfk.size; have := hB.size; omega, fun b hb => (hfk.block b ⟨by omega, by omega⟩).trans (hB.block b hb)⟩
       | ok gl =>
        obtain ⟨pgn, cgn, he, hlg⟩ : NewI X5.heap.size w10 gl e := hgot
        subst he
        obtain ⟨ngn, hngn⟩ := gen gl.length
        rw [hngn]
        have HJ6 : Hid (R = restG s q (wd : Int) xy.1 xy.2 wl gl) := by show _ = _; rw [HJ5.out]; unfold restW; rw [HE10.out]
        obtain ⟨⟨u6, cu6⟩, fu6, X6, hX6, hr6, hs6, hk6⟩ := HR10.out.put 6 (by simp) (.slice pgn ngn cgn)
        have HNG := hid hngn
        have HR6 : Hid (ResB w [.slice pi ni ci, .string s0, .string s1, .string s2, .string s3, .slice pw nw cw, .slice pg ng cg] w1.heap.size [.string tS, .string jS, .int .i64 (wd : Int), .slice ps Nc ds] [.string s0, .string s1, .int .i64 (wd : Int), .int .i64 xy.1, .int .i64 xy.2, .slice pwn nwn cwn, .slice pgn ngn cgn, .slice none 0 0, .bool false, .slice none 0 0, .slice none 0 0] X6) := hr6
        have HK6 : Hid (Kept (fun b => w.heap.size + 3 ≤ b ∧ b < w1.heap.size) w1 X6) := HK10.out.trans (hk6.less fun b hb => by show b ≠ _; omega)
        have HLW3 : Hid (ListIs rStpW 3 32 (From (w.heap.size + 3) X6) X6 (.slice pwn wl.length cwn) wl) := list_kept mStpW HLW2.out hk6 (by omega)
        have HLG : Hid (ListIs rInt 1 8 (From (w.heap.size + 3) X6) X6 (.slice pgn gl.length cgn) gl) := list_kept mInt (hlg.less mInt (by have := HW1.out; have := HK5.out.size; omega)) hk6 (by omega)
        have k6b := cell_of_row (k := 6) (v := .slice pg ng cg) hr6.2.1 rfl
        have k0b := cell_of_row (k := 0) (v := .slice pi ni ci) hr6.2.1 rfl
        have hx6 := HLX.out X6 hr6.1
        have CGR : Hid (Calls prog 66 #[.int .i64 (ng : Int), .slice pi ni ci] X6 fun e w' => e = .returned (.bool (isGroupedP q.g.length q.i)) ∧ Bl X6 w') := by
         have := grouped_any K q.g.length pi ci q.i X6 hx6.1.li hx6.2.1
         rwa [HNN.out.1, show ((q.g.length : Nat) : Int) = (ng : Int) from by rw [HNN.out.2.2]] at this
        obtain ⟨gr, hgr⟩ := gen (isGroupedP q.g.length q.i)
        rw [hgr] at CGR
        have HGR := hid hgr
        clear hlg hngn hr6 hs6 hk6 hx6 hgr HLW2
        go_wp2_with fail
        refine CGR.out.mono ?_
        rintro e w11 ⟨rfl, hb11⟩
        have hr11 := HR6.out.later hb11
        obtain ⟨⟨u8, cu8⟩, fu8, X8, hX8, hr8, hs8, hk8⟩ := hr11.put 8 (by simp) (.bool gr)
        have HR8 : Hid (ResB w [.slice pi ni ci, .string s0, .string s1, .string s2, .string s3, .slice pw nw cw, .slice pg ng cg] w1.heap.size [.string tS, .string jS, .int .i64 (wd : Int), .slice ps Nc ds] [.string s0, .string s1, .int .i64 (wd : Int), .int .i64 xy.1, .int .i64 xy.2, .slice pwn nwn cwn, .slice pgn ngn cgn, .slice none 0 0, .bool gr, .slice none 0 0, .slice none 0 0] X8) := hr8
        have HK8 : Hid (Kept (fun b => w.heap.size + 3 ≤ b ∧ b < w1.heap.size) w1 X8) := (HK6.out.trans (kept_of (fun b h => by have := HW1.out; have := HK6.out.size; have := h.2; omega) hb11)).trans (hk8.less fun b hb => by show b ≠ _; omega)
        have HLW4 : Hid (ListIs rStpW 3 32 (From (w.heap.size + 3) X8) X8 (.slice pwn wl.length cwn) wl) := list_kept mStpW (HLW3.out.grow mStpW hb11) hk8 (by omega)
        have HLG4 : Hid (ListIs rInt 1 8 (From (w.heap.size + 3) X8) X8 (.slice pgn gl.length cgn) gl) := list_kept mInt (HLG.out.grow mInt hb11) hk8 (by omega)
        have k0c := cell_of_row (k := 0) (v := .slice pi ni ci) hr8.2.1 rfl
        have HS8 := hid hr8.row.2.2
        have HD8 := hid hr8.row.2.1
        have hx8 := HLX.out X8 hr8.1
        have hl8 := HLSK.out X8 HK8.out
        have CI : Hid (Calls prog 67 #[.agg #[.string tS, .string jS, .int .i64 (wd : Int), .slice ps Nc ds], .slice pi ni ci, .agg #[.string s0, .string s1, .int .i64 (wd : Int), .int .i64 xy.1, .int .i64 xy.2, .slice pwn nwn cwn, .slice pgn ngn cgn, .slice none 0 0, .bool gr, .slice none 0 0, .slice none 0 0]] X8 fun e w' => Got (itemsR s gr gl q.i) (NewT X8.heap.size w') e ∧ Bl X8 w') := by
         have := items_any K (From W0.heap.size w1) (From (w.heap.size + 3) X8) s ps ds pi ci q.i pgn cgn gr gl (.string s0) (.string s1) (.int .i64 (wd : Int)) (.int .i64 xy.1) (.int .i64 xy.2) (.slice pwn nwn cwn) (.slice none 0 0) (.slice none 0 0) (.slice none 0 0) X8 hl8.1 hl8.2 HS16.out.1 hx8.1.li hx8.2.1 HQS.out.1 HLG4.out From.lt hx8.2.2
         rwa [HSC.out, HNN.out.1, HNG.out] at this
        obtain ⟨E12, hE12⟩ := gen (itemsR s gr gl q.i)
        rw [hE12] at CI
        have HE12 := hid hE12
        clear CGR hb11 hr11 hr8 hs8 hk8 hx8 hl8 hE12 k6b k0b HLW3 HLG
        go_wp2_with (first | (refine wpList_load_mid rfl 67 _ rfl w1.heap.size 0 rfl _ _ HS8.out underlying67 rfl sz_scp ?_) | (refine wpList_load_mid rfl 32 _ rfl (w.heap.size + 1) 0 rfl _ _ HD8.out underlying32 rfl sz_bnd ?_))
        refine CI.out.mono ?_
        rintro e w12 ⟨hgot, hb12⟩
        have HR12 : Hid (ResB w [.slice pi ni ci, .string s0, .string s1, .string s2, .string s3, .slice pw nw cw, .slice pg ng cg] w1.heap.size [.string tS, .string jS, .int .i64 (wd : Int), .slice ps Nc ds] [.string s0, .string s1, .int .i64 (wd : Int), .int .i64 xy.1, .int .i64 xy.2, .slice pwn nwn cwn, .slice pgn ngn cgn, .slice none 0 0, .bool gr, .slice none 0 0, .slice none 0 0] w12) := HR8.out.later hb12
        have HK12 : Hid (Kept (fun b => w.heap.size + 3 ≤ b ∧ b < w1.heap.size) w1 w12) := HK8.out.trans (kept_of (fun b h => by have := HW1.out; have := HK8.out.size; have := h.2; omega) hb12)
        have HLW5 : Hid (ListIs rStpW 3 32 (From (w.heap.size + 3) w12) w12 (.slice pwn wl.length cwn) wl) := HLW4.out.grow mStpW hb12
        have HLG5 : Hid (ListIs rInt 1 8 (From (w.heap.size + 3) w12) w12 (.slice pgn gl.length cgn) gl) := HLG4.out.grow mInt hb12
        clear CI hb12 k0c HS8 HD8 HLW4 HLG4
        cases E12 with
        | error z =>
         have he : e = stopE z := hgot
         subst he
         have HE : Hid (R = .error z) := by show _ = _; rw [HJ6.out]; unfold restG; rw [HGR.out, HE12.out]
         clear hgot HLX HLSK HLS hE
         unfold stopE
         obtain ⟨hBp, _, hbp, hep, _, _⟩ := HR12.out
         have CFp := hid (catch_stop (w.heap.size + 1) (w.heap.size + 1 + 1) (z) w12 _ _ rfl rfl hbp hep (by omega))
         have HBP := hid hBp
         clear hBp hbp hep
         go_wp2_with fail
         refine leaves_cons (f := 61) (args := #[.pointer (some ⟨w.heap.size + 1, 0, none⟩), .pointer (some ⟨w.heap.size + 1 + 1, 0, none⟩)]) (by simp) (by simp [go_sem]) ?_
         refine CFp.out.mono ?_
         rintro e u' w9 ⟨rfl, rfl, hf1, hf2, hfk⟩
         have hld1 := run_loadVar_mid (P := prog) w9 (w.heap.size + 1) 0 32 [.string ⟨#[]⟩, .string ⟨#[]⟩, .int .i64 0, .int .i64 0, .int .i64 0, .slice none 0 0, .slice none 0 0, .slice none 0 0, .bool false, .slice none 0 0, .slice none 0 0] _ (rgz hf1) underlying32 rfl sz_bnd
         have hld2 := load33 w9 (w.heap.size + 1 + 1) (.int .i64 (z)) (cell_of_row (k := 0) hf2 rfl)
         refine ⟨.tuple #[.agg #[.string ⟨#[]⟩, .string ⟨#[]⟩, .int .i64 0, .int .i64 0, .int .i64 0, .slice none 0 0, .slice none 0 0, .slice none 0 0, .bool false, .slice none 0 0, .slice none 0 0], .int .i64 (z)], by simp only [results, results23]; simp [asAddr, Act.put, hld1, hld2], ?_⟩
         refine ⟨⟨noBndC, ?_, ?_⟩, ?_⟩
         · rw [HE.out]; rfl
         · rw [HE.out]; exact noBnd_is _ _
         · have hB := HBP.out
           exact ⟨hfk.os.trans hB.os, hfk.tape.trans hB.tape, hfk.output.trans hB.output, by have := hfk.size; have := hB.size; omega, fun b hb => (hfk.block b ⟨by omega, by omega⟩).trans (hB.block b hb)⟩
        | ok il =>
         obtain ⟨pin, cin, he, hli⟩ : NewT X8.heap.size w12 il e := hgot
         subst he
         obtain ⟨nin, hnin⟩ := gen il.length
         rw [hnin]
         have HNI := hid hnin
         have hil := itemsR_in HQS.out.1 HE12.out
         have HIL := hid hil
         have HJ7 : Hid (R = .ok ⟨q.t, q.j, (wd : Int), xy.1, xy.2, wl, gl, il, gr, namesGo s 0 il, il.map (kindI s)⟩) := by show _ = _; rw [HJ6.out]; unfold restG; rw [HGR.out, HE12.out]
         obtain ⟨⟨u7, cu7⟩, fu7, X7, hX7, hr7, hs7, hk7⟩ := HR12.out.put 7 (by simp) (.slice pin nin cin)
         have HR7 : Hid (ResB w [.slice pi ni ci, .string s0, .string s1, .string s2, .string s3, .slice pw nw cw, .slice pg ng cg] w1.heap.size [.string tS, .string jS, .int .i64 (wd : Int), .slice ps Nc ds] [.string s0, .string s1, .int .i64 (wd : Int), .int .i64 xy.1, .int .i64 xy.2, .slice pwn nwn cwn, .slice pgn ngn cgn, .slice pin nin cin, .bool gr, .slice none 0 0, .slice none 0 0] X7) := hr7
         have HK7 : Hid (Kept (fun b => w.heap.size + 3 ≤ b ∧ b < w1.heap.size) w1 X7) := HK12.out.trans (hk7.less fun b hb => by show b ≠ _; omega)
         have HLW6 : Hid (ListIs rStpW 3 32 (From (w.heap.size + 3) X7) X7 (.slice pwn wl.length cwn) wl) := list_kept mStpW HLW5.out hk7 (by omega)
         have HLG6 : Hid (ListIs rInt 1 8 (From (w.heap.size + 3) X7) X7 (.slice pgn gl.length cgn) gl) := list_kept mInt HLG5.out hk7 (by omega)
         have HLI : Hid (ListIs rItmW 2 32 (From (w.heap.size + 3) X7) X7 (.slice pin il.length cin) il) := list_kept mItmW (hli.less mItmW (by have := HW1.out; have := HK8.out.size; omega)) hk7 (by omega)
         have k7 := cell_of_row (k := 7) (v := .slice pin nin cin) hr7.2.2.1 rfl
         have HS7 := hid hr7.row.2.2
         have hx7 := HLX.out X7 hr7.1
         have hl7 := HLSK.out X7 HK7.out
         have CANS : Hid (Calls prog 68 #[.agg #[.string tS, .string jS, .int .i64 (wd : Int), .slice ps Nc ds], .slice pin nin cin] X7 fun e w' => AnsE s il X7.heap.size w' e ∧ Bl X7 w') := by
          have := answer_any (From (w.heap.size + 3) X7) (From W0.heap.size w1) s ps ds pin cin il X7 hl7.1 hl7.2 HLI.out From.lt hil.1 hil.2 hx7.2.2
          rwa [HSC.out, hnin] at this
         clear hli hnin hil hr7 hs7 hk7 hx7 hl7 HLW5 HLG5
         go_wp2_with (refine wpList_load_mid rfl 67 _ rfl w1.heap.size 0 rfl _ _ HS7.out underlying67 rfl sz_scp ?_)
         refine CANS.out.mono ?_
         rintro e w13 ⟨⟨pnn, cnn, pkn, ckn, rfl, hln, hlk⟩, hb13⟩
         have hr13 := HR7.out.later hb13
         obtain ⟨⟨u9, cu9⟩, fu9, X9, hX9, hr9, hs9, hk9⟩ := hr13.put 9 (by simp) (.slice pnn nin cnn)
         obtain ⟨⟨uA, cuA⟩, fuA, XA, hXA, hrA, hsA, hkA⟩ := hr9.put 10 (by simp) (.slice pkn nin ckn)
         have hkAB : Kept (fun b => b ≠ w.heap.size + 1) w13 XA := hk9.trans hkA
         have HRA : Hid (ResB w [.slice pi ni ci, .string s0, .string s1, .string s2, .string s3, .slice pw nw cw, .slice pg ng cg] w1.heap.size [.string tS, .string jS, .int .i64 (wd : Int), .slice ps Nc ds] [.string s0, .string s1, .int .i64 (wd : Int), .int .i64 xy.1, .int .i64 xy.2, .slice pwn nwn cwn, .slice pgn ngn cgn, .slice pin nin cin, .bool gr, .slice pnn nin cnn, .slice pkn nin ckn] XA) := hrA
         have hlwA := list_kept mStpW (HLW6.out.grow mStpW hb13) hkAB (by omega)
         have hlgA := list_kept mInt (HLG6.out.grow mInt hb13) hkAB (by omega)
         have hliA := list_kept mItmW (HLI.out.grow mItmW hb13) hkAB (by omega)
         have hlnA := list_kept mStrW (hln.less mStrW (show w.heap.size + 3 ≤ X7.heap.size by have := HW1.out; have := HK7.out.size; omega)) hkAB (by omega)
         have hlkA := list_kept mKnd (hlk.less mKnd (show w.heap.size + 3 ≤ X7.heap.size by have := HW1.out; have := HK7.out.size; omega)) hkAB (by omega)
         obtain ⟨hthF, XF, hXF, hgF, hsF, hkF⟩ := put_all XA (w.heap.size + 1) _ 32 hrA.2.2.1 [.string s0, .string s1, .int .i64 (wd : Int), .int .i64 xy.1, .int .i64 xy.2, .slice pwn nwn cwn, .slice pgn ngn cgn, .slice pin nin cin, .bool gr, .slice pnn nin cnn, .slice pkn nin ckn] rfl
         have heF := (hkF.block (w.heap.size + 1 + 1) (by show _ ≠ _; omega)).trans hrA.2.2.2.1
         obtain ⟨⟨uE, cuE⟩, fuE, XE, hXE, hgE, hsE, hkE⟩ := put_one XF (w.heap.size + 1 + 1) 0 [.int .i64 0] 33 heF (by simp) (.int .i64 0)
         have HTF : Hid (XA.there (w.heap.size + 1) 0 11) := hthF
         have HXF : Hid (XA.setCells (w.heap.size + 1) 0 (#[.string s0, .string s1, .int .i64 (wd : Int), .int .i64 xy.1, .int .i64 xy.2, .slice pwn nwn cwn, .slice pgn ngn cgn, .slice pin nin cin, .bool gr, .slice pnn nin cnn, .slice pkn nin ckn] : Array Value).toList = XF) := hXF
         have HDA := hid hrA.row.2.1
         have hgFE := (hkE.block (w.heap.size + 1) (by show _ ≠ _; omega)).trans hgF
         have HLD1 := hid (run_loadVar_mid (P := prog) XE (w.heap.size + 1) 0 32 [.string s0, .string s1, .int .i64 (wd : Int), .int .i64 xy.1, .int .i64 xy.2, .slice pwn nwn cwn, .slice pgn ngn cgn, .slice pin nin cin, .bool gr, .slice pnn nin cnn, .slice pkn nin ckn] _ (rgz hgFE) underlying32 rfl sz_bnd)
         have HLD2 := hid (load33 XE (w.heap.size + 1 + 1) (.int .i64 0) (cell_of_row (k := 0) hgE rfl))
         have hkFE : Kept (fun b => w.heap.size + 3 ≤ b) XA XE := (hkF.less fun b hb => by show b ≠ _; omega).trans (hkE.less fun b hb => by show b ≠ _; omega)
         have hbE : Bl w XE := put_below (put_below hrA.1 hkF hsF (by omega)) hkE hsE (by omega)
         have HBE := hid hbE
         have HOUT : Hid (OutB w.heap.size XE R (.returned (.tuple #[.agg #[.string s0, .string s1, .int .i64 (wd : Int), .int .i64 xy.1, .int .i64 xy.2, .slice pwn nwn cwn, .slice pgn ngn cgn, .slice pin nin cin, .bool gr, .slice pnn nin cnn, .slice pkn nin ckn], .int .i64 0]))) := by
          show OutB _ _ _ _
          rw [HJ7.out]
          refine ⟨[.string s0, .string s1, .int .i64 (wd : Int), .int .i64 xy.1, .int .i64 xy.2, .slice pwn nwn cwn, .slice pgn ngn cgn, .slice pin nin cin, .bool gr, .slice pnn nin cnn, .slice pkn nin ckn], rfl, pwn, pgn, pin, pnn, pkn, cwn, cgn, cin, cnn, ckn, ?_, ?_, ?_, ?_, ?_, ?_⟩
          · unfold resB bndC; simp only; rw [HSS.out.1, HSS.out.2.1, HNW.out, HNG.out, HNI.out, namesGo_len, List.length_map, HNI.out]
          · exact (hlwA.kept mStpW hkFE).less mStpW (by omega)
          · exact (hlgA.kept mInt hkFE).less mInt (by omega)
          · exact (hliA.kept mItmW hkFE).less mItmW (by omega)
          · show ListIs rStrW 1 16 _ XE (.slice pnn (namesGo s 0 il).length cnn) (namesGo s 0 il)
            rw [namesGo_len]; exact (hlnA.kept mStrW hkFE).less mStrW (by omega)
          · show ListIs rKnd 1 1 _ XE (.slice pkn (il.map (kindI s)).length ckn) (il.map (kindI s))
            rw [List.length_map]; exact (hlkA.kept mKnd hkFE).less mKnd (by omega)
         rw [HNI.out]
         clear hln hlk hb13 hr13 hr9 hs9 hk9 hrA hsA hkA hkAB hlwA hlgA hliA hlnA hlkA hthF hXF hgF hsF hkF heF hgE hsE hkE hgFE hkFE hbE CANS k7 HS7 HLW6 HLG6 HLI HIL HLX HLSK HLS hE
         go_wp2_with (first | (refine wpList_load_mid rfl 32 _ rfl (w.heap.size + 1) 0 rfl _ _ HDA.out underlying32 rfl sz_bnd ?_) | (refine wpList_store_mid rfl 32 _ _ rfl (w.heap.size + 1) 0 #[.string s0, .string s1, .int .i64 (wd : Int), .int .i64 xy.1, .int .i64 xy.2, .slice pwn nwn cwn, .slice pgn ngn cgn, .slice pin nin cin, .bool gr, .slice pnn nin cnn, .slice pkn nin ckn] rfl rfl HTF.out sz_bnd (by simp [Value.oneCell']) ?_; rw [HXF.out]))
         refine leaves_cons (f := 61) (args := #[.pointer (some ⟨w.heap.size + 1, 0, none⟩), .pointer (some ⟨w.heap.size + 1 + 1, 0, none⟩)]) (by simp) (by simp [go_sem]) ?_
         refine (catch_none _ _ _).mono ?_
         rintro e u' w14 ⟨rfl, rfl, rfl⟩
         have hl1 := HLD1.out
         have hl2 := HLD2.out
         refine ⟨.tuple #[.agg #[.string s0, .string s1, .int .i64 (wd : Int), .int .i64 xy.1, .int .i64 xy.2, .slice pwn nwn cwn, .slice pgn ngn cgn, .slice pin nin cin, .bool gr, .slice pnn nin cnn, .slice pkn nin ckn], .int .i64 0], by simp only [results, results23]; simp [asAddr, Act.put, hl1, hl2], ?_⟩
         exact ⟨HOUT.out, HBE.out⟩
end Go.Proofs.YtfifphfihdhlaaaGreatDoor.Bd

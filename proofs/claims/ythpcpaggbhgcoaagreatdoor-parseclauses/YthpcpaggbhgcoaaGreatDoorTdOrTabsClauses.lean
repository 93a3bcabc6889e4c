/- Clauses of a query in another order, or twice: the walk of ParseClauses. -/
import Derived.Test.YthpcpaggbhgcoaaGreatDoorTaTbTc
import Derived.Deep.DeepCutAuto
import Derived.Test.YthpcpaggbhgcoaaGreatDoorQy
import Derived.ProofKit
import Derived.OpenShut
import Derived.Lib.SmallJoins
import Derived.Deep.Slices
import Derived.SizedLaws
import Derived.Test.YthpcpaggbhgcoaaGreatDoorRh
import Derived.Test.YthpcpaggbhgcoaaGreatDoorTie
import Derived.Lib.LaidU8T
import Derived.Lib.LaidTab
import Derived.Shelf.Vars
import Derived.PinnedBridge
import Derived.LaidMore
import Derived.MakeChecks
import Derived.Lay
import Derived.Test.YthpcpaggbhgcoaaGreatDoorCards
import Derived.SevenTiedAt
import Derived.Stop.Joined
import Derived.Carry
import Derived.Deep.DeepHandedRow
namespace Go.Proofs.YthpcpaggbhgcoaaGreatDoor
open Go.Shelf Go.RowKit Go.Lib Go.Sort
set_option linter.unusedVariables false
set_option linter.unusedSimpArgs false
attribute [local go_sem ↓] Go.wp_at_zero Go.wp_at_succ
/-- Three boxes that hold the same. -/
def ThreeB (lo : Nat) (cl : List Value) (a b c : Nat) (V : World) : Prop :=
  (lo ≤ a ∧ lo ≤ b ∧ lo ≤ c ∧ a ≠ b ∧ a ≠ c ∧ b ≠ c) ∧ V.heap[a]? = some (.cells cl.toArray 27 (0, 0)) ∧ V.heap[b]? = some (.cells cl.toArray 27 (0, 0)) ∧ V.heap[c]? = some (.cells cl.toArray 27 (0, 0))
theorem below_put {n : Nat} {W V V' : World} {g : Nat} (hb : Below n W V) (hk : Kept (fun b => b ≠ g) V V') (hg : n ≤ g) (hz : V'.heap.size = V.heap.size) : Below n W V' :=
  ⟨hk.os.trans hb.os, hk.tape.trans hb.tape, hk.output.trans hb.output, by have := hb.size; omega, fun b h => (hk.block b (by show b ≠ g; omega)).trans (hb.block b h)⟩
theorem sz_data (s : ByteArray) : s.data.toList.length = s.size := by simp
theorem ext_list (s : ByteArray) (P X S : List UInt8) (h : s.data.toList = P ++ X ++ S) : (s.extract P.length (P.length + X.length)).data.toList = X := by
  rw [ByteArray.data_extract, Array.toList_extract, h]
  simp [List.extract]
theorem wrap_small (n : Nat) (h : n ≤ 1000000000) : IntKind.i64.wrap (n : Int) = (n : Int) := by
  rw [IntKind.wrap_i64]
  omega
theorem app_list (a b : ByteArray) : (a ++ b).data.toList = a.data.toList ++ b.data.toList := by
  rw [ByteArray.data_append, Array.toList_append]
/-- Three new boxes, filled in whatever order they were made. -/
theorem three_new (W : World) (z : Array Value) (cl : List Value) (hz : z.size = cl.length) (hs : cl.length = 7) : ∃ X1 X2 X3, W.alloc (.cells z 27) = X1 ∧ X1.alloc (.cells z 27) = X2 ∧ X2.alloc (.cells z 27) = X3 ∧ Below W.heap.size W X1 ∧ Below W.heap.size W X2 ∧ Below W.heap.size W X3 ∧
    ∀ a b c : Nat, [a, b, c].Perm [W.heap.size, X1.heap.size, X2.heap.size] → ∃ Y1 Y2 Y3, X3.there a 0 cl.toArray.size ∧ X3.setCells a 0 cl.toArray.toList = Y1 ∧ Y1.there b 0 cl.toArray.size ∧ Y1.setCells b 0 cl.toArray.toList = Y2 ∧ Y2.there c 0 cl.toArray.size ∧ Y2.setCells c 0 cl.toArray.toList = Y3 ∧
      Below W.heap.size W Y1 ∧ Below W.heap.size W Y2 ∧ Below W.heap.size W Y3 ∧ ThreeB W.heap.size cl a b c Y3 := by
  obtain ⟨X1, h1⟩ : ∃ X, W.alloc (.cells z 27) = X := ⟨_, rfl⟩
  obtain ⟨X2, h2⟩ : ∃ X, X1.alloc (.cells z 27) = X := ⟨_, rfl⟩
  obtain ⟨X3, h3⟩ : ∃ X, X2.alloc (.cells z 27) = X := ⟨_, rfl⟩
  have s1 : X1.heap.size = W.heap.size + 1 := by rw [← h1]; simp
  have s2 : X2.heap.size = W.heap.size + 2 := by rw [← h2]; simp [s1]
  have s3 : X3.heap.size = W.heap.size + 3 := by rw [← h3]; simp [s2]
  have b1 : Below W.heap.size W X1 := by rw [← h1]; exact below_alloc _ _
  have b2 : Below W.heap.size W X2 := by rw [← h2]; exact b1.alloc b1.size _
  have b3 : Below W.heap.size W X3 := by rw [← h3]; exact b2.alloc b2.size _
  have b12 : Below X1.heap.size X1 X2 := by rw [← h2]; exact below_alloc _ _
  have b23 : Below X2.heap.size X2 X3 := by rw [← h3]; exact below_alloc _ _
  have g0 : X3.heap[W.heap.size]? = some (.cells z 27 (0, 0)) := by
    rw [b23.block _ (by omega), b12.block _ (by omega), ← h1]; exact heap_alloc_new W _
  have g1 : X3.heap[X1.heap.size]? = some (.cells z 27 (0, 0)) := by
    rw [b23.block _ (by omega), ← h2]; exact heap_alloc_new X1 _
  have g2 : X3.heap[X2.heap.size]? = some (.cells z 27 (0, 0)) := by rw [← h3]; exact heap_alloc_new X2 _
  refine ⟨X1, X2, X3, h1, h2, h3, b1, b2, b3, fun a b c hp => ?_⟩
  have hd : a ≠ b ∧ a ≠ c ∧ b ≠ c := by
    have hn : ([W.heap.size, X1.heap.size, X2.heap.size] : List Nat).Nodup := by simp; omega
    have := hp.symm.nodup hn
    simp at this
    exact ⟨this.1.1, this.1.2, this.2⟩
  have hin : ∀ x ∈ [a, b, c], W.heap.size ≤ x ∧ X3.heap[x]? = some (.cells z 27 (0, 0)) := fun x hx => by
    have := hp.mem_iff.1 hx
    simp at this
    rcases this with rfl | rfl | rfl
    · exact ⟨Nat.le_refl _, g0⟩
    · exact ⟨by omega, g1⟩
    · exact ⟨by omega, g2⟩
  obtain ⟨la, ga⟩ := hin a (by simp)
  obtain ⟨lb, gb⟩ := hin b (by simp)
  obtain ⟨lc, gc⟩ := hin c (by simp)
  have hi : (Tryz.prog.info? 27).map (·.size) = some cl.length := by rw [hs]; exact sz_qry
  obtain ⟨t1, Y1, y1, -, z1, k1⟩ := put_row X3 a z 27 ga cl hz Tryz.underlying27 rfl hi
  have p1 := box_full X3 a z 27 ga cl hz
  rw [show X3.setCells a 0 cl.toArray.toList = Y1 from y1] at p1
  have gb1 : Y1.heap[b]? = some (.cells z 27 (0, 0)) := (k1.block b (by show b ≠ a; omega)).trans gb
  have gc1 : Y1.heap[c]? = some (.cells z 27 (0, 0)) := (k1.block c (by show c ≠ a; omega)).trans gc
  obtain ⟨t2, Y2, y2, -, z2, k2⟩ := put_row Y1 b z 27 gb1 cl hz Tryz.underlying27 rfl hi
  have p2 := box_full Y1 b z 27 gb1 cl hz
  rw [show Y1.setCells b 0 cl.toArray.toList = Y2 from y2] at p2
  have gc2 : Y2.heap[c]? = some (.cells z 27 (0, 0)) := (k2.block c (by show c ≠ b; omega)).trans gc1
  have ga2 : Y2.heap[a]? = some (.cells cl.toArray 27 (0, 0)) := (k2.block a (by show a ≠ b; omega)).trans p1
  obtain ⟨t3, Y3, y3, -, z3, k3⟩ := put_row Y2 c z 27 gc2 cl hz Tryz.underlying27 rfl hi
  have p3 := box_full Y2 c z 27 gc2 cl hz
  rw [show Y2.setCells c 0 cl.toArray.toList = Y3 from y3] at p3
  have ga3 : Y3.heap[a]? = some (.cells cl.toArray 27 (0, 0)) := (k3.block a (by show a ≠ c; omega)).trans ga2
  have gb3 : Y3.heap[b]? = some (.cells cl.toArray 27 (0, 0)) := (k3.block b (by show b ≠ c; omega)).trans p2
  have q1 : Below W.heap.size W Y1 := ⟨k1.os.trans b3.os, k1.tape.trans b3.tape, k1.output.trans b3.output, by have := b3.size; omega, fun x hx => (k1.block x (by show x ≠ a; omega)).trans (b3.block x hx)⟩
  have q2 : Below W.heap.size W Y2 := ⟨k2.os.trans q1.os, k2.tape.trans q1.tape, k2.output.trans q1.output, by have := q1.size; omega, fun x hx => (k2.block x (by show x ≠ b; omega)).trans (q1.block x hx)⟩
  have q3 : Below W.heap.size W Y3 := ⟨k3.os.trans q2.os, k3.tape.trans q2.tape, k3.output.trans q2.output, by have := q2.size; omega, fun x hx => (k3.block x (by show x ≠ c; omega)).trans (q2.block x hx)⟩
  exact ⟨Y1, Y2, Y3, t1, y1, t2, y2, t3, y3, q1, q2, q3, ⟨la, lb, lc, hd.1, hd.2.1, hd.2.2⟩, ga3, gb3, p3⟩
theorem perm_012 (x y z : Nat) : [x, y, z].Perm [x, y, z] := List.Perm.refl _
theorem perm_021 (x y z : Nat) : [x, z, y].Perm [x, y, z] := (List.Perm.swap _ _ _).cons _
theorem perm_102 (x y z : Nat) : [y, x, z].Perm [x, y, z] := List.Perm.swap _ _ _
theorem perm_120 (x y z : Nat) : [y, z, x].Perm [x, y, z] := ((List.Perm.swap _ _ _).cons _).trans (List.Perm.swap _ _ _)
theorem perm_201 (x y z : Nat) : [z, x, y].Perm [x, y, z] := (List.Perm.swap _ _ _).trans ((List.Perm.swap _ _ _).cons _)
theorem perm_210 (x y z : Nat) : [z, y, x].Perm [x, y, z] := ((List.Perm.swap _ _ _).cons _).trans ((List.Perm.swap _ _ _).trans ((List.Perm.swap _ _ _).cons _))
set_option maxRecDepth 100000 in
set_option maxHeartbeats 16000000 in
theorem clauses_walk (pi pw pg : Option Addr) (ci cw cg : Nat) (q : Qry) (w : World) (h : QLsW (fun b => b < w.heap.size) w pi pw pg ci cw cg q) (hga : GA w) : Calls Tryz.prog 4 #[.agg (q.cl (.slice pi q.i.length ci) (.slice pw q.w.length cw) (.slice pg q.g.length cg))] w fun e w' => e = .returned (.bool true) ∧ Below w.heap.size w w' := by
  obtain ⟨s0, hs0⟩ : ∃ s : ByteArray, (⟨q.t.toArray⟩ : ByteArray) = s := ⟨_, rfl⟩
  obtain ⟨s1, hs1⟩ : ∃ s : ByteArray, (⟨q.j.toArray⟩ : ByteArray) = s := ⟨_, rfl⟩
  obtain ⟨s2, hs2⟩ : ∃ s : ByteArray, (⟨q.a.toArray⟩ : ByteArray) = s := ⟨_, rfl⟩
  obtain ⟨s3, hs3⟩ : ∃ s : ByteArray, (⟨q.b.toArray⟩ : ByteArray) = s := ⟨_, rfl⟩
  obtain ⟨ni, hni⟩ : ∃ n, q.i.length = n := ⟨_, rfl⟩
  obtain ⟨nw, hnw⟩ : ∃ n, q.w.length = n := ⟨_, rfl⟩
  obtain ⟨ng, hng⟩ : ∃ n, q.g.length = n := ⟨_, rfl⟩
  have hcl : q.cl (.slice pi q.i.length ci) (.slice pw q.w.length cw) (.slice pg q.g.length cg) = #[.slice pi ni ci, .string s0, .string s1, .string s2, .string s3, .slice pw nw cw, .slice pg ng cg] := by unfold Qry.cl; rw [hs0, hs1, hs2, hs3, hni, hnw, hng]
  have HQ := hid h
  have HG := hid hga
  have HCL := hid hcl
  have HS : Hid ((⟨q.t.toArray⟩ : ByteArray) = s0 ∧ (⟨q.j.toArray⟩ : ByteArray) = s1 ∧ (⟨q.a.toArray⟩ : ByteArray) = s2 ∧ (⟨q.b.toArray⟩ : ByteArray) = s3) := ⟨hs0, hs1, hs2, hs3⟩
  have HN : Hid (q.i.length = ni ∧ q.w.length = nw ∧ q.g.length = ng) := ⟨hni, hnw, hng⟩
  obtain ⟨W0, hW0⟩ : ∃ W0, w.alloc (.cells #[.slice pi ni ci, .string s0, .string s1, .string s2, .string s3, .slice pw nw cw, .slice pg ng cg] 27) = W0 := ⟨_, rfl⟩
  have hb0 : Below w.heap.size w W0 := by rw [← hW0]; exact below_alloc _ _
  have hg0 : W0.heap[w.heap.size]? = some (.cells #[.slice pi ni ci, .string s0, .string s1, .string s2, .string s3, .slice pw nw cw, .slice pg ng cg] 27 (0, 0)) := by rw [← hW0]; exact heap_alloc_new w _
  have hl0 : w.heap.size < W0.heap.size := (Array.getElem?_eq_some_iff.1 hg0).1
  have HB := hid hb0
  have HL : Hid (∀ V, Below W0.heap.size W0 V → V.heap[w.heap.size]? = some (.cells #[.slice pi ni ci, .string s0, .string s1, .string s2, .string s3, .slice pw nw cw, .slice pg ng cg] 27 (0, 0)) ∧ Below w.heap.size w V) := fun V hb => ⟨(hb.block _ hl0).trans hg0, hb0.trans (hb.mono hb0.size)⟩
  obtain ⟨cq, hcq⟩ : ∃ cq, checkQ q = cq := ⟨_, rfl⟩
  have C1 := hid (lives_any W0 (hga.below hb0))
  have C2 : Hid (∀ V, Below W0.heap.size W0 V → Calls Tryz.prog 10 #[.agg #[.slice pi ni ci, .string s0, .string s1, .string s2, .string s3, .slice pw nw cw, .slice pg ng cg]] V fun e w' => e = .returned (.int .i64 cq) ∧ Below V.heap.size V w') := fun V hb => by
    have hwV : Below w.heap.size w V := hb0.trans (hb.mono hb0.size)
    have := check_w _ pi pw pg ci cw cg q V (h.below (fun b hb => hb) hwV) (fun b (hb : b < w.heap.size) => Nat.lt_of_lt_of_le hb hwV.size) (hga.below hwV).gw
    rw [hcl, hcq] at this
    exact this
  have HCQ := hid hcq
  rw [hcl]
  clear h hga hb0 hg0 hl0 hs0 hs1 hs2 hs3 hni hnw hng hcl hcq
  go_enter Tryz.func4, Tryz.ntmps4
  go_wp2_with fail
  refine C1.out.mono ?_
  rintro e w1 ⟨rfl, hb1⟩
  have HB1 := hid hb1
  obtain ⟨hg1, -⟩ := HL.out w1 hb1
  have HR1 : Hid (w1.rangeAt w.heap.size 0 [.slice pi ni ci, .string s0, .string s1, .string s2, .string s3, .slice pw nw cw, .slice pg ng cg]) := fun j u hu => by rw [Nat.zero_add]; exact cell_of_row hg1 (by simpa using hu)
  clear C1 hb1 hg1 hW0
  go_wp2_with (first | (refine wpList_load_mid rfl 27 _ rfl w.heap.size 0 rfl _ _ HR1.out Tryz.underlying27 rfl sz_qry ?_) | (refine wpList_load_midH (by rfl) 27 _ rfl w.heap.size 0 rfl _ _ HR1.out Tryz.underlying27 rfl sz_qry ?_))
  refine (C2.out w1 HB1.out).mono ?_
  rintro e w2 ⟨rfl, hb2⟩
  have HB2 : Hid (Below W0.heap.size W0 w2) := HB1.out.trans (hb2.mono HB1.out.size)
  clear C2 hb2 HB1 HR1
  by_cases hc0 : cq = 0
  case neg =>
    have yc : (cq != 0) = true := by simpa using hc0
    have HBW := hid (HL.out w2 HB2.out).2
    clear HL HQ HG HCL HS HN HB HCQ HB2 hc0
    go_wp2_with fail
    go_ret
    exact ⟨rfl, HBW.out⟩
  have yc : (cq != 0) = false := by simp [hc0]
  have HOK : Hid (queryOkP q = true) := by
    show _ = _
    rcases Bool.eq_false_or_eq_true (queryOkP q) with hq | hq
    · exact hq
    · have := HCQ.out; rw [hc0] at this; unfold checkQ at this; rw [hq] at this; cases this
  have HT : Hid (∀ V, Below W0.heap.size W0 V → QLs (fun b => b < w.heap.size) V pi pw pg ci cw cg q ∧ (∀ b, b < w.heap.size → b < V.heap.size) ∧ GA V) := fun V hb => by
    have hwV := (HL.out V hb).2
    exact ⟨((HQ.out.below (fun b hb => hb) hwV).narrow HOK.out), fun b hb => Nat.lt_of_lt_of_le hb hwV.size, HG.out.below hwV⟩
  have HNUM := hid HQ.out.num
  clear hc0 HQ HG HCQ
  obtain ⟨hg2, -⟩ := HL.out w2 HB2.out
  have k1 := cell_of_row (k := 1) (v := .string s0) hg2 rfl
  obtain ⟨FR, hFR⟩ : ∃ T : ByteArray, T.data.toList = queryTextP (bareQ q) := ⟨⟨(queryTextP (bareQ q)).toArray⟩, rfl⟩
  obtain ⟨WA, hWA, hth, V3, hV3, hg3, hb3⟩ := box_any w2 27 #[.slice none 0 0, .string ⟨#[]⟩, .string ⟨#[]⟩, .string ⟨#[]⟩, .string ⟨#[]⟩, .slice none 0 0, .slice none 0 0] [.slice none 0 0, .string s0, .string ⟨#[]⟩, .string ⟨#[]⟩, .string ⟨#[]⟩, .slice none 0 0, .slice none 0 0] rfl
  have HTH : Hid (WA.there w2.heap.size 0 7) := hth
  have HV3 : Hid (WA.setCells w2.heap.size 0 (#[.slice none 0 0, .string s0, .string ⟨#[]⟩, .string ⟨#[]⟩, .string ⟨#[]⟩, .slice none 0 0, .slice none 0 0] : Array Value).toList = V3) := hV3
  have HON : Hid ((#[.slice none 0 0, .string s0, .string ⟨#[]⟩, .string ⟨#[]⟩, .string ⟨#[]⟩, .slice none 0 0, .slice none 0 0] : Array Value).all (·.oneCell') = true) := by show _ = _; simp [Value.oneCell']
  have hB3 : Below W0.heap.size W0 V3 := HB2.out.trans (hb3.mono HB2.out.size)
  have HB3 := hid hB3
  have HG3 := hid hg3
  have HR3 : Hid (V3.rangeAt w2.heap.size 0 [.slice none 0 0, .string s0, .string ⟨#[]⟩, .string ⟨#[]⟩, .string ⟨#[]⟩, .slice none 0 0, .slice none 0 0]) := fun j u hu => by rw [Nat.zero_add]; exact cell_of_row hg3 (by simpa using hu)
  have C3 : Hid (Calls Tryz.prog 9 #[.agg #[.slice none 0 0, .string s0, .string ⟨#[]⟩, .string ⟨#[]⟩, .string ⟨#[]⟩, .slice none 0 0, .slice none 0 0]] V3 fun e w' => e = .returned (.tuple #[.string FR, .int .i64 0]) ∧ Below V3.heap.size V3 w') := by
    obtain ⟨t1, t2, t3⟩ := HT.out V3 hB3
    have := print_right (fun b => b < w.heap.size) none none none 0 0 0 (bareQ q) V3 ⟨ls_none _ _ _ _ _, ls_none _ _ _ _ _, ls_none _ _ _ _ _, t1.lt, by simp [bareQ], by simp [bareQ], by simp [bareQ]⟩ t2 t3 (parts_ok HOK.out).1 FR hFR
    have e : (bareQ q).cl (.slice none (bareQ q).i.length 0) (.slice none (bareQ q).w.length 0) (.slice none (bareQ q).g.length 0) = #[.slice none 0 0, .string s0, .string ⟨#[]⟩, .string ⟨#[]⟩, .string ⟨#[]⟩, .slice none 0 0, .slice none 0 0] := by unfold Qry.cl bareQ; simp only; rw [HS.out.1]; rfl
    rw [e] at this
    exact this
  have HFR : Hid (FR.data.toList = frontP q ++ [41]) := by show _ = _; rw [hFR, (parts_text q).1]
  clear hg2 hth hV3 hg3 hb3 hB3 hFR
  go_wp2_with (first | (refine wpList_store_mid rfl 27 _ _ rfl w2.heap.size 0 #[.slice none 0 0, .string s0, .string ⟨#[]⟩, .string ⟨#[]⟩, .string ⟨#[]⟩, .slice none 0 0, .slice none 0 0] rfl rfl HTH.out sz_qry HON.out ?_; rw [show WA.setCells w2.heap.size 0 (#[.slice none 0 0, .string s0, .string ⟨#[]⟩, .string ⟨#[]⟩, .string ⟨#[]⟩, .slice none 0 0, .slice none 0 0] : Array Value).toList = V3 from HV3.out]) | (refine wpList_load_mid rfl 27 _ rfl w2.heap.size 0 rfl _ _ HR3.out Tryz.underlying27 rfl sz_qry ?_) | (refine wpList_load_midH (by rfl) 27 _ rfl w2.heap.size 0 rfl _ _ HR3.out Tryz.underlying27 rfl sz_qry ?_))
  refine C3.out.mono ?_
  rintro e w3 ⟨rfl, hb3⟩
  obtain ⟨w4, hw4⟩ : ∃ w4, w3.drew = w4 := ⟨_, rfl⟩
  have hb34 : Below V3.heap.size V3 w4 := by rw [← hw4]; exact hb3.drew
  have hB4 : Below W0.heap.size W0 w4 := HB3.out.trans (hb34.mono HB3.out.size)
  have hl2 : w2.heap.size < V3.heap.size := (Array.getElem?_eq_some_iff.1 HG3.out).1
  have hg4 : w4.heap[w2.heap.size]? = some (.cells #[.slice none 0 0, .string s0, .string ⟨#[]⟩, .string ⟨#[]⟩, .string ⟨#[]⟩, .slice none 0 0, .slice none 0 0] 27 (0, 0)) := (hb34.block _ hl2).trans HG3.out
  have hl4 : w2.heap.size < w4.heap.size := (Array.getElem?_eq_some_iff.1 hg4).1
  have HB4 := hid hB4
  have HR4 : Hid (∀ V, Below w4.heap.size w4 V → V.rangeAt w2.heap.size 0 [.slice none 0 0, .string s0, .string ⟨#[]⟩, .string ⟨#[]⟩, .string ⟨#[]⟩, .slice none 0 0, .slice none 0 0]) := fun V hb j u hu => by rw [Nat.zero_add]; exact cell_of_row ((hb.block _ hl4).trans hg4) (by simpa using hu)
  clear C3 hb3 hb34 hB4 hl2 hg4 hl4 HR3 HG3 HB3 HTH HV3 HON hWA k1 HB2
  go_upto_region 7 with fail
  go_cut [6, 7, 8] (fun s6 s7 s8 wx => ∃ a b c : Nat, s6 = .pointer (some ⟨a, 0, none⟩) ∧ s7 = .pointer (some ⟨b, 0, none⟩) ∧ s8 = .pointer (some ⟨c, 0, none⟩) ∧ Hid (ThreeB w4.heap.size [.slice none 0 0, .string s0, .string ⟨#[]⟩, .string ⟨#[]⟩, .string ⟨#[]⟩, .slice none 0 0, .slice none 0 0] a b c wx) ∧ Hid (Below w4.heap.size w4 wx))
  case first =>
    obtain ⟨X1, X2, X3, hX1, hX2, hX3, b1, b2, b3, hall⟩ := three_new w4 #[.slice none 0 0, .string ⟨#[]⟩, .string ⟨#[]⟩, .string ⟨#[]⟩, .string ⟨#[]⟩, .slice none 0 0, .slice none 0 0] [.slice none 0 0, .string s0, .string ⟨#[]⟩, .string ⟨#[]⟩, .string ⟨#[]⟩, .slice none 0 0, .slice none 0 0] rfl rfl
    have HALL := hid hall
    have HX3 := hid (And.intro b1 (And.intro b2 b3))
    clear hall b1 b2 b3
    refine wp_region_held_drew (S := fun V => V.rangeAt w2.heap.size 0 [.slice none 0 0, .string s0, .string ⟨#[]⟩, .string ⟨#[]⟩, .string ⟨#[]⟩, .slice none 0 0, .slice none 0 0]) (by kernel_rfl) (by rw [hw4]; exact HR4.out _ (Below.refl _ _)) (fun hHeld => ?_)
    refine wpAnyH_take (i := 0) (v := .agg #[.slice none 0 0, .string s0, .string ⟨#[]⟩, .string ⟨#[]⟩, .string ⟨#[]⟩, .slice none 0 0, .slice none 0 0]) rfl (by kernel_rfl) (by kernel_rfl) (by kernel_rfl) (fun _ _ _ h => h) (yieldsIf_load_mid (by rfl) 27 (.tmp 3) rfl w2.heap.size 0 rfl [.slice none 0 0, .string s0, .string ⟨#[]⟩, .string ⟨#[]⟩, .string ⟨#[]⟩, .slice none 0 0, .slice none 0 0] _ (fun W hW => hW) Tryz.underlying27 rfl sz_qry) hHeld ?_
    simp only [Act.put, List.getElem_toArray, List.getElem_cons_zero, List.getElem_cons_succ, List.setIfInBounds_toArray, List.set_cons_zero, List.set_cons_succ]
    refine wpAnyH_take (i := 1) (v := .agg #[.slice none 0 0, .string s0, .string ⟨#[]⟩, .string ⟨#[]⟩, .string ⟨#[]⟩, .slice none 0 0, .slice none 0 0]) rfl (by kernel_rfl) (by kernel_rfl) (by kernel_rfl) (fun _ _ _ h => h) (yieldsIf_load_mid (by rfl) 27 (.tmp 3) rfl w2.heap.size 0 rfl [.slice none 0 0, .string s0, .string ⟨#[]⟩, .string ⟨#[]⟩, .string ⟨#[]⟩, .slice none 0 0, .slice none 0 0] _ (fun W hW => hW) Tryz.underlying27 rfl sz_qry) hHeld ?_
    simp only [Act.put, List.getElem_toArray, List.getElem_cons_zero, List.getElem_cons_succ, List.setIfInBounds_toArray, List.set_cons_zero, List.set_cons_succ]
    refine wpAnyH_take (i := 2) (v := .agg #[.slice none 0 0, .string s0, .string ⟨#[]⟩, .string ⟨#[]⟩, .string ⟨#[]⟩, .slice none 0 0, .slice none 0 0]) rfl (by kernel_rfl) (by kernel_rfl) (by kernel_rfl) (fun _ _ _ h => h) (yieldsIf_load_mid (by rfl) 27 (.tmp 3) rfl w2.heap.size 0 rfl [.slice none 0 0, .string s0, .string ⟨#[]⟩, .string ⟨#[]⟩, .string ⟨#[]⟩, .slice none 0 0, .slice none 0 0] _ (fun W hW => hW) Tryz.underlying27 rfl sz_qry) hHeld ?_
    simp only [Act.put, List.getElem_toArray, List.getElem_cons_zero, List.getElem_cons_succ, List.setIfInBounds_toArray, List.set_cons_zero, List.set_cons_succ]
    rw [hw4] at hHeld ⊢
    clear hw4
    refine wpAnyH_ready (rs := [3, 4, 5]) (by kernel_rfl) (by simp) ?_
    refine AllReadyH.cons rfl (fun K' hK => ?_) (AllReadyH.cons rfl (fun K' hK => ?_) (AllReadyH.cons rfl (fun K' hK => ?_) AllReadyH.nil))
    · rw [if_pos (by rfl)]
      go_simp
      refine hK.out _ _ (HR4.out _ HX3.out.1) (fun hHeld => ?_)
      clear hK K'
      refine wpAnyH_ready (rs := [4, 5]) (by kernel_rfl) (by simp) ?_
      refine AllReadyH.cons rfl (fun K' hK => ?_) (AllReadyH.cons rfl (fun K' hK => ?_) AllReadyH.nil)
      · rw [if_pos (by rfl)]
        go_simp
        refine hK.out _ _ (HR4.out _ HX3.out.2.1) (fun hHeld => ?_)
        clear hK K'
        refine wpAnyH_ready (rs := [5]) (by kernel_rfl) (by simp) ?_
        refine AllReadyH.cons rfl (fun K' hK => ?_) AllReadyH.nil
        · rw [if_pos (by rfl)]
          go_simp
          refine hK.out _ _ (HR4.out _ HX3.out.2.2) (fun hHeld => ?_)
          clear hK K'
          have hp : [w4.heap.size, X1.heap.size, X2.heap.size].Perm [w4.heap.size, X1.heap.size, X2.heap.size] := perm_012 _ _ _
          obtain ⟨Y1, Y2, Y3, t1, y1, t2, y2, t3, y3, q1, q2, q3, hthr⟩ := HALL.out _ _ _ hp
          have HT0 : Hid (X3.there w4.heap.size 0 7) := t1
          have HY0 : Hid (X3.setCells w4.heap.size 0 (#[.slice none 0 0, .string s0, .string ⟨#[]⟩, .string ⟨#[]⟩, .string ⟨#[]⟩, .slice none 0 0, .slice none 0 0] : Array Value).toList = Y1) := y1
          have HT1 : Hid (Y1.there X1.heap.size 0 7) := t2
          have HY1 : Hid (Y1.setCells X1.heap.size 0 (#[.slice none 0 0, .string s0, .string ⟨#[]⟩, .string ⟨#[]⟩, .string ⟨#[]⟩, .slice none 0 0, .slice none 0 0] : Array Value).toList = Y2) := y2
          have HT2 : Hid (Y2.there X2.heap.size 0 7) := t3
          have HY2 : Hid (Y2.setCells X2.heap.size 0 (#[.slice none 0 0, .string s0, .string ⟨#[]⟩, .string ⟨#[]⟩, .string ⟨#[]⟩, .slice none 0 0, .slice none 0 0] : Array Value).toList = Y3) := y3
          have HON : Hid ((#[.slice none 0 0, .string s0, .string ⟨#[]⟩, .string ⟨#[]⟩, .string ⟨#[]⟩, .slice none 0 0, .slice none 0 0] : Array Value).all (·.oneCell') = true) := by show _ = _; simp [Value.oneCell']
          have HQ := hid (And.intro q1 (And.intro q2 q3))
          have HTHR := hid hthr
          clear hp t1 y1 t2 y2 t3 y3 q1 q2 q3 hthr
          refine wpAnyH_ready (rs := [6]) (by kernel_rfl) (by simp) ?_
          refine AllReadyH.cons rfl (fun K' hK => ?_) AllReadyH.nil
          rw [if_pos (by rfl)]
          refine wp_store_mid 27 (.tmp 6) (.tmp 34) rfl (w4.heap.size) 0 #[.slice none 0 0, .string s0, .string ⟨#[]⟩, .string ⟨#[]⟩, .string ⟨#[]⟩, .slice none 0 0, .slice none 0 0] rfl rfl HT0.out sz_qry HON.out ?_
          rw [HY0.out]
          refine hK.out _ _ (HR4.out _ HQ.out.1) (fun hHeld => ?_)
          clear hK K'
          refine wpAnyH_ready (rs := [7]) (by kernel_rfl) (by simp) ?_
          refine AllReadyH.cons rfl (fun K' hK => ?_) AllReadyH.nil
          rw [if_pos (by rfl)]
          refine wp_store_mid 27 (.tmp 7) (.tmp 35) rfl (X1.heap.size) 0 #[.slice none 0 0, .string s0, .string ⟨#[]⟩, .string ⟨#[]⟩, .string ⟨#[]⟩, .slice none 0 0, .slice none 0 0] rfl rfl HT1.out sz_qry HON.out ?_
          rw [HY1.out]
          refine hK.out _ _ (HR4.out _ HQ.out.2.1) (fun hHeld => ?_)
          clear hK K'
          refine wpAnyH_ready (rs := [8]) (by kernel_rfl) (by simp) ?_
          refine AllReadyH.cons rfl (fun K' hK => ?_) AllReadyH.nil
          rw [if_pos (by rfl)]
          refine wp_store_mid 27 (.tmp 8) (.tmp 36) rfl (X2.heap.size) 0 #[.slice none 0 0, .string s0, .string ⟨#[]⟩, .string ⟨#[]⟩, .string ⟨#[]⟩, .slice none 0 0, .slice none 0 0] rfl rfl HT2.out sz_qry HON.out ?_
          rw [HY2.out]
          refine hK.out _ _ (HR4.out _ HQ.out.2.2) (fun hHeld => ?_)
          clear hK K'
          refine wpAnyH_done (by kernel_rfl) ?_ _
          clear hHeld
          go_wp2_with fail
          go_meet
          case rel => exact ⟨_, _, _, rfl, rfl, rfl, HTHR.out, HQ.out.2.2⟩
      · rw [if_pos (by rfl)]
        go_simp
        refine hK.out _ _ (HR4.out _ HX3.out.2.1) (fun hHeld => ?_)
        clear hK K'
        refine wpAnyH_ready (rs := [4]) (by kernel_rfl) (by simp) ?_
        refine AllReadyH.cons rfl (fun K' hK => ?_) AllReadyH.nil
        · rw [if_pos (by rfl)]
          go_simp
          refine hK.out _ _ (HR4.out _ HX3.out.2.2) (fun hHeld => ?_)
          clear hK K'
          have hp : [w4.heap.size, X2.heap.size, X1.heap.size].Perm [w4.heap.size, X1.heap.size, X2.heap.size] := perm_021 _ _ _
          obtain ⟨Y1, Y2, Y3, t1, y1, t2, y2, t3, y3, q1, q2, q3, hthr⟩ := HALL.out _ _ _ hp
          have HT0 : Hid (X3.there w4.heap.size 0 7) := t1
          have HY0 : Hid (X3.setCells w4.heap.size 0 (#[.slice none 0 0, .string s0, .string ⟨#[]⟩, .string ⟨#[]⟩, .string ⟨#[]⟩, .slice none 0 0, .slice none 0 0] : Array Value).toList = Y1) := y1
          have HT1 : Hid (Y1.there X2.heap.size 0 7) := t2
          have HY1 : Hid (Y1.setCells X2.heap.size 0 (#[.slice none 0 0, .string s0, .string ⟨#[]⟩, .string ⟨#[]⟩, .string ⟨#[]⟩, .slice none 0 0, .slice none 0 0] : Array Value).toList = Y2) := y2
          have HT2 : Hid (Y2.there X1.heap.size 0 7) := t3
          have HY2 : Hid (Y2.setCells X1.heap.size 0 (#[.slice none 0 0, .string s0, .string ⟨#[]⟩, .string ⟨#[]⟩, .string ⟨#[]⟩, .slice none 0 0, .slice none 0 0] : Array Value).toList = Y3) := y3
          have HON : Hid ((#[.slice none 0 0, .string s0, .string ⟨#[]⟩, .string ⟨#[]⟩, .string ⟨#[]⟩, .slice none 0 0, .slice none 0 0] : Array Value).all (·.oneCell') = true) := by show _ = _; simp [Value.oneCell']
          have HQ := hid (And.intro q1 (And.intro q2 q3))
          have HTHR := hid hthr
          clear hp t1 y1 t2 y2 t3 y3 q1 q2 q3 hthr
          refine wpAnyH_ready (rs := [6]) (by kernel_rfl) (by simp) ?_
          refine AllReadyH.cons rfl (fun K' hK => ?_) AllReadyH.nil
          rw [if_pos (by rfl)]
          refine wp_store_mid 27 (.tmp 6) (.tmp 34) rfl (w4.heap.size) 0 #[.slice none 0 0, .string s0, .string ⟨#[]⟩, .string ⟨#[]⟩, .string ⟨#[]⟩, .slice none 0 0, .slice none 0 0] rfl rfl HT0.out sz_qry HON.out ?_
          rw [HY0.out]
          refine hK.out _ _ (HR4.out _ HQ.out.1) (fun hHeld => ?_)
          clear hK K'
          refine wpAnyH_ready (rs := [7]) (by kernel_rfl) (by simp) ?_
          refine AllReadyH.cons rfl (fun K' hK => ?_) AllReadyH.nil
          rw [if_pos (by rfl)]
          refine wp_store_mid 27 (.tmp 7) (.tmp 35) rfl (X2.heap.size) 0 #[.slice none 0 0, .string s0, .string ⟨#[]⟩, .string ⟨#[]⟩, .string ⟨#[]⟩, .slice none 0 0, .slice none 0 0] rfl rfl HT1.out sz_qry HON.out ?_
          rw [HY1.out]
          refine hK.out _ _ (HR4.out _ HQ.out.2.1) (fun hHeld => ?_)
          clear hK K'
          refine wpAnyH_ready (rs := [8]) (by kernel_rfl) (by simp) ?_
          refine AllReadyH.cons rfl (fun K' hK => ?_) AllReadyH.nil
          rw [if_pos (by rfl)]
          refine wp_store_mid 27 (.tmp 8) (.tmp 36) rfl (X1.heap.size) 0 #[.slice none 0 0, .string s0, .string ⟨#[]⟩, .string ⟨#[]⟩, .string ⟨#[]⟩, .slice none 0 0, .slice none 0 0] rfl rfl HT2.out sz_qry HON.out ?_
          rw [HY2.out]
          refine hK.out _ _ (HR4.out _ HQ.out.2.2) (fun hHeld => ?_)
          clear hK K'
          refine wpAnyH_done (by kernel_rfl) ?_ _
          clear hHeld
          go_wp2_with fail
          go_meet
          case rel => exact ⟨_, _, _, rfl, rfl, rfl, HTHR.out, HQ.out.2.2⟩
    · rw [if_pos (by rfl)]
      go_simp
      refine hK.out _ _ (HR4.out _ HX3.out.1) (fun hHeld => ?_)
      clear hK K'
      refine wpAnyH_ready (rs := [3, 5]) (by kernel_rfl) (by simp) ?_
      refine AllReadyH.cons rfl (fun K' hK => ?_) (AllReadyH.cons rfl (fun K' hK => ?_) AllReadyH.nil)
      · rw [if_pos (by rfl)]
        go_simp
        refine hK.out _ _ (HR4.out _ HX3.out.2.1) (fun hHeld => ?_)
        clear hK K'
        refine wpAnyH_ready (rs := [5]) (by kernel_rfl) (by simp) ?_
        refine AllReadyH.cons rfl (fun K' hK => ?_) AllReadyH.nil
        · rw [if_pos (by rfl)]
          go_simp
          refine hK.out _ _ (HR4.out _ HX3.out.2.2) (fun hHeld => ?_)
          clear hK K'
          have hp : [X1.heap.size, w4.heap.size, X2.heap.size].Perm [w4.heap.size, X1.heap.size, X2.heap.size] := perm_102 _ _ _
          obtain ⟨Y1, Y2, Y3, t1, y1, t2, y2, t3, y3, q1, q2, q3, hthr⟩ := HALL.out _ _ _ hp
          have HT0 : Hid (X3.there X1.heap.size 0 7) := t1
          have HY0 : Hid (X3.setCells X1.heap.size 0 (#[.slice none 0 0, .string s0, .string ⟨#[]⟩, .string ⟨#[]⟩, .string ⟨#[]⟩, .slice none 0 0, .slice none 0 0] : Array Value).toList = Y1) := y1
          have HT1 : Hid (Y1.there w4.heap.size 0 7) := t2
          have HY1 : Hid (Y1.setCells w4.heap.size 0 (#[.slice none 0 0, .string s0, .string ⟨#[]⟩, .string ⟨#[]⟩, .string ⟨#[]⟩, .slice none 0 0, .slice none 0 0] : Array Value).toList = Y2) := y2
          have HT2 : Hid (Y2.there X2.heap.size 0 7) := t3
          have HY2 : Hid (Y2.setCells X2.heap.size 0 (#[.slice none 0 0, .string s0, .string ⟨#[]⟩, .string ⟨#[]⟩, .string ⟨#[]⟩, .slice none 0 0, .slice none 0 0] : Array Value).toList = Y3) := y3
          have HON : Hid ((#[.slice none 0 0, .string s0, .string ⟨#[]⟩, .string ⟨#[]⟩, .string ⟨#[]⟩, .slice none 0 0, .slice none 0 0] : Array Value).all (·.oneCell') = true) := by show _ = _; simp [Value.oneCell']
          have HQ := hid (And.intro q1 (And.intro q2 q3))
          have HTHR := hid hthr
          clear hp t1 y1 t2 y2 t3 y3 q1 q2 q3 hthr
          refine wpAnyH_ready (rs := [6]) (by kernel_rfl) (by simp) ?_
          refine AllReadyH.cons rfl (fun K' hK => ?_) AllReadyH.nil
          rw [if_pos (by rfl)]
          refine wp_store_mid 27 (.tmp 6) (.tmp 34) rfl (X1.heap.size) 0 #[.slice none 0 0, .string s0, .string ⟨#[]⟩, .string ⟨#[]⟩, .string ⟨#[]⟩, .slice none 0 0, .slice none 0 0] rfl rfl HT0.out sz_qry HON.out ?_
          rw [HY0.out]
          refine hK.out _ _ (HR4.out _ HQ.out.1) (fun hHeld => ?_)
          clear hK K'
          refine wpAnyH_ready (rs := [7]) (by kernel_rfl) (by simp) ?_
          refine AllReadyH.cons rfl (fun K' hK => ?_) AllReadyH.nil
          rw [if_pos (by rfl)]
          refine wp_store_mid 27 (.tmp 7) (.tmp 35) rfl (w4.heap.size) 0 #[.slice none 0 0, .string s0, .string ⟨#[]⟩, .string ⟨#[]⟩, .string ⟨#[]⟩, .slice none 0 0, .slice none 0 0] rfl rfl HT1.out sz_qry HON.out ?_
          rw [HY1.out]
          refine hK.out _ _ (HR4.out _ HQ.out.2.1) (fun hHeld => ?_)
          clear hK K'
          refine wpAnyH_ready (rs := [8]) (by kernel_rfl) (by simp) ?_
          refine AllReadyH.cons rfl (fun K' hK => ?_) AllReadyH.nil
          rw [if_pos (by rfl)]
          refine wp_store_mid 27 (.tmp 8) (.tmp 36) rfl (X2.heap.size) 0 #[.slice none 0 0, .string s0, .string ⟨#[]⟩, .string ⟨#[]⟩, .string ⟨#[]⟩, .slice none 0 0, .slice none 0 0] rfl rfl HT2.out sz_qry HON.out ?_
          rw [HY2.out]
          refine hK.out _ _ (HR4.out _ HQ.out.2.2) (fun hHeld => ?_)
          clear hK K'
          refine wpAnyH_done (by kernel_rfl) ?_ _
          clear hHeld
          go_wp2_with fail
          go_meet
          case rel => exact ⟨_, _, _, rfl, rfl, rfl, HTHR.out, HQ.out.2.2⟩
      · rw [if_pos (by rfl)]
        go_simp
        refine hK.out _ _ (HR4.out _ HX3.out.2.1) (fun hHeld => ?_)
        clear hK K'
        refine wpAnyH_ready (rs := [3]) (by kernel_rfl) (by simp) ?_
        refine AllReadyH.cons rfl (fun K' hK => ?_) AllReadyH.nil
        · rw [if_pos (by rfl)]
          go_simp
          refine hK.out _ _ (HR4.out _ HX3.out.2.2) (fun hHeld => ?_)
          clear hK K'
          have hp : [X2.heap.size, w4.heap.size, X1.heap.size].Perm [w4.heap.size, X1.heap.size, X2.heap.size] := perm_201 _ _ _
          obtain ⟨Y1, Y2, Y3, t1, y1, t2, y2, t3, y3, q1, q2, q3, hthr⟩ := HALL.out _ _ _ hp
          have HT0 : Hid (X3.there X2.heap.size 0 7) := t1
          have HY0 : Hid (X3.setCells X2.heap.size 0 (#[.slice none 0 0, .string s0, .string ⟨#[]⟩, .string ⟨#[]⟩, .string ⟨#[]⟩, .slice none 0 0, .slice none 0 0] : Array Value).toList = Y1) := y1
          have HT1 : Hid (Y1.there w4.heap.size 0 7) := t2
          have HY1 : Hid (Y1.setCells w4.heap.size 0 (#[.slice none 0 0, .string s0, .string ⟨#[]⟩, .string ⟨#[]⟩, .string ⟨#[]⟩, .slice none 0 0, .slice none 0 0] : Array Value).toList = Y2) := y2
          have HT2 : Hid (Y2.there X1.heap.size 0 7) := t3
          have HY2 : Hid (Y2.setCells X1.heap.size 0 (#[.slice none 0 0, .string s0, .string ⟨#[]⟩, .string ⟨#[]⟩, .string ⟨#[]⟩, .slice none 0 0, .slice none 0 0] : Array Value).toList = Y3) := y3
          have HON : Hid ((#[.slice none 0 0, .string s0, .string ⟨#[]⟩, .string ⟨#[]⟩, .string ⟨#[]⟩, .slice none 0 0, .slice none 0 0] : Array Value).all (·.oneCell') = true) := by show _ = _; simp [Value.oneCell']
          have HQ := hid (And.intro q1 (And.intro q2 q3))
          have HTHR := hid hthr
          clear hp t1 y1 t2 y2 t3 y3 q1 q2 q3 hthr
          refine wpAnyH_ready (rs := [6]) (by kernel_rfl) (by simp) ?_
          refine AllReadyH.cons rfl (fun K' hK => ?_) AllReadyH.nil
          rw [if_pos (by rfl)]
          refine wp_store_mid 27 (.tmp 6) (.tmp 34) rfl (X2.heap.size) 0 #[.slice none 0 0, .string s0, .string ⟨#[]⟩, .string ⟨#[]⟩, .string ⟨#[]⟩, .slice none 0 0, .slice none 0 0] rfl rfl HT0.out sz_qry HON.out ?_
          rw [HY0.out]
          refine hK.out _ _ (HR4.out _ HQ.out.1) (fun hHeld => ?_)
          clear hK K'
          refine wpAnyH_ready (rs := [7]) (by kernel_rfl) (by simp) ?_
          refine AllReadyH.cons rfl (fun K' hK => ?_) AllReadyH.nil
          rw [if_pos (by rfl)]
          refine wp_store_mid 27 (.tmp 7) (.tmp 35) rfl (w4.heap.size) 0 #[.slice none 0 0, .string s0, .string ⟨#[]⟩, .string ⟨#[]⟩, .string ⟨#[]⟩, .slice none 0 0, .slice none 0 0] rfl rfl HT1.out sz_qry HON.out ?_
          rw [HY1.out]
          refine hK.out _ _ (HR4.out _ HQ.out.2.1) (fun hHeld => ?_)
          clear hK K'
          refine wpAnyH_ready (rs := [8]) (by kernel_rfl) (by simp) ?_
          refine AllReadyH.cons rfl (fun K' hK => ?_) AllReadyH.nil
          rw [if_pos (by rfl)]
          refine wp_store_mid 27 (.tmp 8) (.tmp 36) rfl (X1.heap.size) 0 #[.slice none 0 0, .string s0, .string ⟨#[]⟩, .string ⟨#[]⟩, .string ⟨#[]⟩, .slice none 0 0, .slice none 0 0] rfl rfl HT2.out sz_qry HON.out ?_
          rw [HY2.out]
          refine hK.out _ _ (HR4.out _ HQ.out.2.2) (fun hHeld => ?_)
          clear hK K'
          refine wpAnyH_done (by kernel_rfl) ?_ _
          clear hHeld
          go_wp2_with fail
          go_meet
          case rel => exact ⟨_, _, _, rfl, rfl, rfl, HTHR.out, HQ.out.2.2⟩
    · rw [if_pos (by rfl)]
      go_simp
      refine hK.out _ _ (HR4.out _ HX3.out.1) (fun hHeld => ?_)
      clear hK K'
      refine wpAnyH_ready (rs := [3, 4]) (by kernel_rfl) (by simp) ?_
      refine AllReadyH.cons rfl (fun K' hK => ?_) (AllReadyH.cons rfl (fun K' hK => ?_) AllReadyH.nil)
      · rw [if_pos (by rfl)]
        go_simp
        refine hK.out _ _ (HR4.out _ HX3.out.2.1) (fun hHeld => ?_)
        clear hK K'
        refine wpAnyH_ready (rs := [4]) (by kernel_rfl) (by simp) ?_
        refine AllReadyH.cons rfl (fun K' hK => ?_) AllReadyH.nil
        · rw [if_pos (by rfl)]
          go_simp
          refine hK.out _ _ (HR4.out _ HX3.out.2.2) (fun hHeld => ?_)
          clear hK K'
          have hp : [X1.heap.size, X2.heap.size, w4.heap.size].Perm [w4.heap.size, X1.heap.size, X2.heap.size] := perm_120 _ _ _
          obtain ⟨Y1, Y2, Y3, t1, y1, t2, y2, t3, y3, q1, q2, q3, hthr⟩ := HALL.out _ _ _ hp
          have HT0 : Hid (X3.there X1.heap.size 0 7) := t1
          have HY0 : Hid (X3.setCells X1.heap.size 0 (#[.slice none 0 0, .string s0, .string ⟨#[]⟩, .string ⟨#[]⟩, .string ⟨#[]⟩, .slice none 0 0, .slice none 0 0] : Array Value).toList = Y1) := y1
          have HT1 : Hid (Y1.there X2.heap.size 0 7) := t2
          have HY1 : Hid (Y1.setCells X2.heap.size 0 (#[.slice none 0 0, .string s0, .string ⟨#[]⟩, .string ⟨#[]⟩, .string ⟨#[]⟩, .slice none 0 0, .slice none 0 0] : Array Value).toList = Y2) := y2
          have HT2 : Hid (Y2.there w4.heap.size 0 7) := t3
          have HY2 : Hid (Y2.setCells w4.heap.size 0 (#[.slice none 0 0, .string s0, .string ⟨#[]⟩, .string ⟨#[]⟩, .string ⟨#[]⟩, .slice none 0 0, .slice none 0 0] : Array Value).toList = Y3) := y3
          have HON : Hid ((#[.slice none 0 0, .string s0, .string ⟨#[]⟩, .string ⟨#[]⟩, .string ⟨#[]⟩, .slice none 0 0, .slice none 0 0] : Array Value).all (·.oneCell') = true) := by show _ = _; simp [Value.oneCell']
          have HQ := hid (And.intro q1 (And.intro q2 q3))
          have HTHR := hid hthr
          clear hp t1 y1 t2 y2 t3 y3 q1 q2 q3 hthr
          refine wpAnyH_ready (rs := [6]) (by kernel_rfl) (by simp) ?_
          refine AllReadyH.cons rfl (fun K' hK => ?_) AllReadyH.nil
          rw [if_pos (by rfl)]
          refine wp_store_mid 27 (.tmp 6) (.tmp 34) rfl (X1.heap.size) 0 #[.slice none 0 0, .string s0, .string ⟨#[]⟩, .string ⟨#[]⟩, .string ⟨#[]⟩, .slice none 0 0, .slice none 0 0] rfl rfl HT0.out sz_qry HON.out ?_
          rw [HY0.out]
          refine hK.out _ _ (HR4.out _ HQ.out.1) (fun hHeld => ?_)
          clear hK K'
          refine wpAnyH_ready (rs := [7]) (by kernel_rfl) (by simp) ?_
          refine AllReadyH.cons rfl (fun K' hK => ?_) AllReadyH.nil
          rw [if_pos (by rfl)]
          refine wp_store_mid 27 (.tmp 7) (.tmp 35) rfl (X2.heap.size) 0 #[.slice none 0 0, .string s0, .string ⟨#[]⟩, .string ⟨#[]⟩, .string ⟨#[]⟩, .slice none 0 0, .slice none 0 0] rfl rfl HT1.out sz_qry HON.out ?_
          rw [HY1.out]
          refine hK.out _ _ (HR4.out _ HQ.out.2.1) (fun hHeld => ?_)
          clear hK K'
          refine wpAnyH_ready (rs := [8]) (by kernel_rfl) (by simp) ?_
          refine AllReadyH.cons rfl (fun K' hK => ?_) AllReadyH.nil
          rw [if_pos (by rfl)]
          refine wp_store_mid 27 (.tmp 8) (.tmp 36) rfl (w4.heap.size) 0 #[.slice none 0 0, .string s0, .string ⟨#[]⟩, .string ⟨#[]⟩, .string ⟨#[]⟩, .slice none 0 0, .slice none 0 0] rfl rfl HT2.out sz_qry HON.out ?_
          rw [HY2.out]
          refine hK.out _ _ (HR4.out _ HQ.out.2.2) (fun hHeld => ?_)
          clear hK K'
          refine wpAnyH_done (by kernel_rfl) ?_ _
          clear hHeld
          go_wp2_with fail
          go_meet
          case rel => exact ⟨_, _, _, rfl, rfl, rfl, HTHR.out, HQ.out.2.2⟩
      · rw [if_pos (by rfl)]
        go_simp
        refine hK.out _ _ (HR4.out _ HX3.out.2.1) (fun hHeld => ?_)
        clear hK K'
        refine wpAnyH_ready (rs := [3]) (by kernel_rfl) (by simp) ?_
        refine AllReadyH.cons rfl (fun K' hK => ?_) AllReadyH.nil
        · rw [if_pos (by rfl)]
          go_simp
          refine hK.out _ _ (HR4.out _ HX3.out.2.2) (fun hHeld => ?_)
          clear hK K'
          have hp : [X2.heap.size, X1.heap.size, w4.heap.size].Perm [w4.heap.size, X1.heap.size, X2.heap.size] := perm_210 _ _ _
          obtain ⟨Y1, Y2, Y3, t1, y1, t2, y2, t3, y3, q1, q2, q3, hthr⟩ := HALL.out _ _ _ hp
          have HT0 : Hid (X3.there X2.heap.size 0 7) := t1
          have HY0 : Hid (X3.setCells X2.heap.size 0 (#[.slice none 0 0, .string s0, .string ⟨#[]⟩, .string ⟨#[]⟩, .string ⟨#[]⟩, .slice none 0 0, .slice none 0 0] : Array Value).toList = Y1) := y1
          have HT1 : Hid (Y1.there X1.heap.size 0 7) := t2
          have HY1 : Hid (Y1.setCells X1.heap.size 0 (#[.slice none 0 0, .string s0, .string ⟨#[]⟩, .string ⟨#[]⟩, .string ⟨#[]⟩, .slice none 0 0, .slice none 0 0] : Array Value).toList = Y2) := y2
          have HT2 : Hid (Y2.there w4.heap.size 0 7) := t3
          have HY2 : Hid (Y2.setCells w4.heap.size 0 (#[.slice none 0 0, .string s0, .string ⟨#[]⟩, .string ⟨#[]⟩, .string ⟨#[]⟩, .slice none 0 0, .slice none 0 0] : Array Value).toList = Y3) := y3
          have HON : Hid ((#[.slice none 0 0, .string s0, .string ⟨#[]⟩, .string ⟨#[]⟩, .string ⟨#[]⟩, .slice none 0 0, .slice none 0 0] : Array Value).all (·.oneCell') = true) := by show _ = _; simp [Value.oneCell']
          have HQ := hid (And.intro q1 (And.intro q2 q3))
          have HTHR := hid hthr
          clear hp t1 y1 t2 y2 t3 y3 q1 q2 q3 hthr
          refine wpAnyH_ready (rs := [6]) (by kernel_rfl) (by simp) ?_
          refine AllReadyH.cons rfl (fun K' hK => ?_) AllReadyH.nil
          rw [if_pos (by rfl)]
          refine wp_store_mid 27 (.tmp 6) (.tmp 34) rfl (X2.heap.size) 0 #[.slice none 0 0, .string s0, .string ⟨#[]⟩, .string ⟨#[]⟩, .string ⟨#[]⟩, .slice none 0 0, .slice none 0 0] rfl rfl HT0.out sz_qry HON.out ?_
          rw [HY0.out]
          refine hK.out _ _ (HR4.out _ HQ.out.1) (fun hHeld => ?_)
          clear hK K'
          refine wpAnyH_ready (rs := [7]) (by kernel_rfl) (by simp) ?_
          refine AllReadyH.cons rfl (fun K' hK => ?_) AllReadyH.nil
          rw [if_pos (by rfl)]
          refine wp_store_mid 27 (.tmp 7) (.tmp 35) rfl (X1.heap.size) 0 #[.slice none 0 0, .string s0, .string ⟨#[]⟩, .string ⟨#[]⟩, .string ⟨#[]⟩, .slice none 0 0, .slice none 0 0] rfl rfl HT1.out sz_qry HON.out ?_
          rw [HY1.out]
          refine hK.out _ _ (HR4.out _ HQ.out.2.1) (fun hHeld => ?_)
          clear hK K'
          refine wpAnyH_ready (rs := [8]) (by kernel_rfl) (by simp) ?_
          refine AllReadyH.cons rfl (fun K' hK => ?_) AllReadyH.nil
          rw [if_pos (by rfl)]
          refine wp_store_mid 27 (.tmp 8) (.tmp 36) rfl (w4.heap.size) 0 #[.slice none 0 0, .string s0, .string ⟨#[]⟩, .string ⟨#[]⟩, .string ⟨#[]⟩, .slice none 0 0, .slice none 0 0] rfl rfl HT2.out sz_qry HON.out ?_
          rw [HY2.out]
          refine hK.out _ _ (HR4.out _ HQ.out.2.2) (fun hHeld => ?_)
          clear hK K'
          refine wpAnyH_done (by kernel_rfl) ?_ _
          clear hHeld
          go_wp2_with fail
          go_meet
          case rel => exact ⟨_, _, _, rfl, rfl, rfl, HTHR.out, HQ.out.2.2⟩
  case rest =>
    clear hw4
    obtain ⟨a6, b7, c8, rfl, rfl, rfl, HTHR, HBC⟩ := hcut
    obtain ⟨w5, hw5⟩ : ∃ V, wc.drew = V := ⟨_, rfl⟩
    have hbc5 : Below wc.heap.size wc w5 := by rw [← hw5]; exact (Below.refl _ _).drew
    have hB5 : Below W0.heap.size W0 w5 := HB4.out.trans ((HBC.out.trans (hbc5.mono HBC.out.size)).mono HB4.out.size)
    obtain ⟨⟨la, lb, lc, nab, nac, nbc⟩, ga, gb, gc⟩ := HTHR.out
    have lW : w.heap.size < w4.heap.size := by have := HB.out.size; have := HB4.out.size; have := (HL.out W0 (Below.refl _ _)).1; have := (Array.getElem?_eq_some_iff.1 this).1; omega
    have lW0 : W0.heap.size ≤ w4.heap.size := HB4.out.size
    have ga5 : w5.heap[a6]? = some (.cells ([.slice none 0 0, .string s0, .string ⟨#[]⟩, .string ⟨#[]⟩, .string ⟨#[]⟩, .slice none 0 0, .slice none 0 0] : List Value).toArray 27 (0, 0)) := (hbc5.block _ (Array.getElem?_eq_some_iff.1 ga).1).trans ga
    have gb5 : w5.heap[b7]? = some (.cells ([.slice none 0 0, .string s0, .string ⟨#[]⟩, .string ⟨#[]⟩, .string ⟨#[]⟩, .slice none 0 0, .slice none 0 0] : List Value).toArray 27 (0, 0)) := (hbc5.block _ (Array.getElem?_eq_some_iff.1 gb).1).trans gb
    have gc5 : w5.heap[c8]? = some (.cells ([.slice none 0 0, .string s0, .string ⟨#[]⟩, .string ⟨#[]⟩, .string ⟨#[]⟩, .slice none 0 0, .slice none 0 0] : List Value).toArray 27 (0, 0)) := (hbc5.block _ (Array.getElem?_eq_some_iff.1 gc).1).trans gc
    have gA5 := (HL.out w5 hB5).1
    obtain ⟨X6, hX6, c62, f62, g6a, z6, k6⟩ := box_put ga5 (k := 2) (u := .string ⟨#[]⟩) rfl (.string s1)
    obtain ⟨X7, hX7, c63, f63, g6b, z7, k7⟩ := box_put g6a (k := 3) (u := .string ⟨#[]⟩) rfl (.string s2)
    obtain ⟨X8, hX8, c64, f64, g6c, z8, k8⟩ := box_put g6b (k := 4) (u := .string ⟨#[]⟩) rfl (.string s3)
    have gb8 : X8.heap[b7]? = some (.cells ([.slice none 0 0, .string s0, .string ⟨#[]⟩, .string ⟨#[]⟩, .string ⟨#[]⟩, .slice none 0 0, .slice none 0 0] : List Value).toArray 27 (0, 0)) := (k8.block b7 (by show b7 ≠ a6; omega)).trans ((k7.block b7 (by show b7 ≠ a6; omega)).trans ((k6.block b7 (by show b7 ≠ a6; omega)).trans gb5))
    have gc8 : X8.heap[c8]? = some (.cells ([.slice none 0 0, .string s0, .string ⟨#[]⟩, .string ⟨#[]⟩, .string ⟨#[]⟩, .slice none 0 0, .slice none 0 0] : List Value).toArray 27 (0, 0)) := (k8.block c8 (by show c8 ≠ a6; omega)).trans ((k7.block c8 (by show c8 ≠ a6; omega)).trans ((k6.block c8 (by show c8 ≠ a6; omega)).trans gc5))
    obtain ⟨X9, hX9, c75, f75, g7a, z9, k9⟩ := box_put gb8 (k := 5) (u := .slice none 0 0) rfl (.slice pw nw cw)
    have gc9 : X9.heap[c8]? = some (.cells ([.slice none 0 0, .string s0, .string ⟨#[]⟩, .string ⟨#[]⟩, .string ⟨#[]⟩, .slice none 0 0, .slice none 0 0] : List Value).toArray 27 (0, 0)) := (k9.block c8 (by show c8 ≠ b7; omega)).trans gc8
    obtain ⟨XA, hXA, c80, f80, g8a, zA, kA⟩ := box_put gc9 (k := 0) (u := .slice none 0 0) rfl (.slice pi ni ci)
    have gJ : XA.heap[a6]? = some (.cells #[.slice none 0 0, .string s0, .string s1, .string s2, .string s3, .slice none 0 0, .slice none 0 0] 27 (0, 0)) := (kA.block a6 (by show a6 ≠ c8; omega)).trans ((k9.block a6 (by show a6 ≠ b7; omega)).trans g6c)
    have gW : XA.heap[b7]? = some (.cells #[.slice none 0 0, .string s0, .string ⟨#[]⟩, .string ⟨#[]⟩, .string ⟨#[]⟩, .slice pw nw cw, .slice none 0 0] 27 (0, 0)) := (kA.block b7 (by show b7 ≠ c8; omega)).trans g7a
    have gG : XA.heap[c8]? = some (.cells #[.slice pi ni ci, .string s0, .string ⟨#[]⟩, .string ⟨#[]⟩, .string ⟨#[]⟩, .slice none 0 0, .slice none 0 0] 27 (0, 0)) := g8a
    have q6 := below_put hB5 k6 (by omega) z6
    have q7 := below_put q6 k7 (by omega) z7
    have q8 := below_put q7 k8 (by omega) z8
    have q9 := below_put q8 k9 (by omega) z9
    have qA := below_put q9 kA (by omega) zA
    have gA6 := (HL.out X6 q6).1
    have gA7 := (HL.out X7 q7).1
    have gA8 := (HL.out X8 q8).1
    have gA9 := (HL.out X9 q9).1
    have HS5 : Hid (∀ V : World, V.heap[w.heap.size]? = some (.cells #[.slice pi ni ci, .string s0, .string s1, .string s2, .string s3, .slice pw nw cw, .slice pg ng cg] 27 (0, 0)) → V.cell? ⟨w.heap.size, 2, none⟩ = some (.string s1) ∧ V.cell? ⟨w.heap.size, 3, none⟩ = some (.string s2) ∧ V.cell? ⟨w.heap.size, 4, none⟩ = some (.string s3)) := fun V hg => ⟨cell_of_row hg rfl, cell_of_row hg rfl, cell_of_row hg rfl⟩
    have m5 := cell_of_row (k := 5) (v := .slice pw nw cw) gA8 rfl
    have m0 := cell_of_row (k := 0) (v := .slice pi ni ci) gA9 rfl
    have s5 := HS5.out w5 gA5
    have s6 := HS5.out X6 gA6
    have s7 := HS5.out X7 gA7
    have s8 := HS5.out X8 gA8
    have SS := hid (And.intro s5 (And.intro s6 (And.intro s7 s8)))
    have HBX := hid qA
    have HGX := hid (And.intro gJ (And.intro gW gG))
    clear ga gb gc ga5 gb5 gc5 gA5 g6a g6b g6c gb8 gc8 g7a gc9 g8a gJ gW gG q6 q7 q8 q9 qA gA6 gA7 gA8 gA9 z6 z7 z8 z9 zA k6 k7 k8 k9 kA hbc5 hB5 HTHR HBC HR4 s5 s6 s7 s8 HS5 HB4
    go_upto_region 8 with fail
    refine wp_region_held_drew (S := fun V => V.cell? ⟨w.heap.size, 2, none⟩ = some (.string s1) ∧ V.cell? ⟨w.heap.size, 3, none⟩ = some (.string s2) ∧ V.cell? ⟨w.heap.size, 4, none⟩ = some (.string s3)) (by kernel_rfl) (by rw [hw5]; exact SS.out.1) (fun hHeld => ?_)
    refine wpAnyH_take (i := 0) (v := .pointer (some ⟨w.heap.size, 2, none⟩)) rfl (by kernel_rfl) (by kernel_rfl) (by kernel_rfl) (fun _ _ _ h => h) (.inl ⟨by rfl, fun W hW => by obtain ⟨h2, h3, h4⟩ := hW; go_simp⟩) hHeld ?_
    simp only [Act.put, List.getElem_toArray, List.getElem_cons_zero, List.getElem_cons_succ, List.setIfInBounds_toArray, List.set_cons_zero, List.set_cons_succ]
    refine wpAnyH_take (i := 1) (v := .string s1) rfl (by kernel_rfl) (by kernel_rfl) (by kernel_rfl) (fun _ _ _ h => h) (.inl ⟨by rfl, fun W hW => by obtain ⟨h2, h3, h4⟩ := hW; go_simp⟩) hHeld ?_
    simp only [Act.put, List.getElem_toArray, List.getElem_cons_zero, List.getElem_cons_succ, List.setIfInBounds_toArray, List.set_cons_zero, List.set_cons_succ]
    refine wpAnyH_take (i := 2) (v := .pointer (some ⟨w.heap.size, 3, none⟩)) rfl (by kernel_rfl) (by kernel_rfl) (by kernel_rfl) (fun _ _ _ h => h) (.inl ⟨by rfl, fun W hW => by obtain ⟨h2, h3, h4⟩ := hW; go_simp⟩) hHeld ?_
    simp only [Act.put, List.getElem_toArray, List.getElem_cons_zero, List.getElem_cons_succ, List.setIfInBounds_toArray, List.set_cons_zero, List.set_cons_succ]
    refine wpAnyH_take (i := 3) (v := .string s2) rfl (by kernel_rfl) (by kernel_rfl) (by kernel_rfl) (fun _ _ _ h => h) (.inl ⟨by rfl, fun W hW => by obtain ⟨h2, h3, h4⟩ := hW; go_simp⟩) hHeld ?_
    simp only [Act.put, List.getElem_toArray, List.getElem_cons_zero, List.getElem_cons_succ, List.setIfInBounds_toArray, List.set_cons_zero, List.set_cons_succ]
    refine wpAnyH_take (i := 4) (v := .pointer (some ⟨w.heap.size, 4, none⟩)) rfl (by kernel_rfl) (by kernel_rfl) (by kernel_rfl) (fun _ _ _ h => h) (.inl ⟨by rfl, fun W hW => by obtain ⟨h2, h3, h4⟩ := hW; go_simp⟩) hHeld ?_
    simp only [Act.put, List.getElem_toArray, List.getElem_cons_zero, List.getElem_cons_succ, List.setIfInBounds_toArray, List.set_cons_zero, List.set_cons_succ]
    refine wpAnyH_take (i := 5) (v := .string s3) rfl (by kernel_rfl) (by kernel_rfl) (by kernel_rfl) (fun _ _ _ h => h) (.inl ⟨by rfl, fun W hW => by obtain ⟨h2, h3, h4⟩ := hW; go_simp⟩) hHeld ?_
    simp only [Act.put, List.getElem_toArray, List.getElem_cons_zero, List.getElem_cons_succ, List.setIfInBounds_toArray, List.set_cons_zero, List.set_cons_succ]
    refine wpAnyH_take (i := 6) (v := .pointer (some ⟨a6, 2, none⟩)) rfl (by kernel_rfl) (by kernel_rfl) (by kernel_rfl) (fun _ _ _ h => h) (.inl ⟨by rfl, fun W hW => by obtain ⟨h2, h3, h4⟩ := hW; go_simp⟩) hHeld ?_
    simp only [Act.put, List.getElem_toArray, List.getElem_cons_zero, List.getElem_cons_succ, List.setIfInBounds_toArray, List.set_cons_zero, List.set_cons_succ]
    rw [hw5] at hHeld ⊢
    clear hw5
    refine wpAnyH_ready (rs := [7]) (by kernel_rfl) (by simp) ?_
    refine AllReadyH.cons rfl (fun K' hK => ?_) AllReadyH.nil
    rw [if_pos (by rfl)]
    go_simp
    refine hK.out _ _ SS.out.2.1 (fun hHeld => ?_)
    clear hK K'
    refine wpAnyH_ready (rs := [8]) (by kernel_rfl) (by simp) ?_
    refine AllReadyH.cons rfl (fun K' hK => ?_) AllReadyH.nil
    rw [if_pos (by rfl)]
    go_simp
    refine hK.out _ _ SS.out.2.1 (fun hHeld => ?_)
    clear hK K'
    refine wpAnyH_ready (rs := [9]) (by kernel_rfl) (by simp) ?_
    refine AllReadyH.cons rfl (fun K' hK => ?_) AllReadyH.nil
    rw [if_pos (by rfl)]
    go_simp
    refine hK.out _ _ SS.out.2.2.1 (fun hHeld => ?_)
    clear hK K'
    refine wpAnyH_ready (rs := [10]) (by kernel_rfl) (by simp) ?_
    refine AllReadyH.cons rfl (fun K' hK => ?_) AllReadyH.nil
    rw [if_pos (by rfl)]
    go_simp
    refine hK.out _ _ SS.out.2.2.1 (fun hHeld => ?_)
    clear hK K'
    refine wpAnyH_ready (rs := [11]) (by kernel_rfl) (by simp) ?_
    refine AllReadyH.cons rfl (fun K' hK => ?_) AllReadyH.nil
    rw [if_pos (by rfl)]
    go_simp
    refine hK.out _ _ SS.out.2.2.2 (fun hHeld => ?_)
    clear hK K'
    refine wpAnyH_done (by kernel_rfl) ?_ _
    clear hHeld SS
    obtain ⟨AJ, hAJ⟩ : ∃ T : ByteArray, T.data.toList = queryTextP (joinQ q) := ⟨⟨(queryTextP (joinQ q)).toArray⟩, rfl⟩
    obtain ⟨AW, hAW⟩ : ∃ T : ByteArray, T.data.toList = queryTextP (whereQ q) := ⟨⟨(queryTextP (whereQ q)).toArray⟩, rfl⟩
    obtain ⟨AG, hAG⟩ : ∃ T : ByteArray, T.data.toList = queryTextP (getQ q) := ⟨⟨(queryTextP (getQ q)).toArray⟩, rfl⟩
    have HRX : Hid (∀ V, Below XA.heap.size XA V → V.rangeAt a6 0 [.slice none 0 0, .string s0, .string s1, .string s2, .string s3, .slice none 0 0, .slice none 0 0] ∧ V.rangeAt b7 0 [.slice none 0 0, .string s0, .string ⟨#[]⟩, .string ⟨#[]⟩, .string ⟨#[]⟩, .slice pw nw cw, .slice none 0 0] ∧ V.rangeAt c8 0 [.slice pi ni ci, .string s0, .string ⟨#[]⟩, .string ⟨#[]⟩, .string ⟨#[]⟩, .slice none 0 0, .slice none 0 0]) := fun V hb => by
      have h1 := (hb.block _ (Array.getElem?_eq_some_iff.1 HGX.out.1).1).trans HGX.out.1
      have h2 := (hb.block _ (Array.getElem?_eq_some_iff.1 HGX.out.2.1).1).trans HGX.out.2.1
      have h3 := (hb.block _ (Array.getElem?_eq_some_iff.1 HGX.out.2.2).1).trans HGX.out.2.2
      exact ⟨fun j u hu => by rw [Nat.zero_add]; exact cell_of_row h1 (by simpa using hu), fun j u hu => by rw [Nat.zero_add]; exact cell_of_row h2 (by simpa using hu), fun j u hu => by rw [Nat.zero_add]; exact cell_of_row h3 (by simpa using hu)⟩
    have CP : Hid (∀ V, Below XA.heap.size XA V → (Calls Tryz.prog 9 #[.agg #[.slice none 0 0, .string s0, .string s1, .string s2, .string s3, .slice none 0 0, .slice none 0 0]] V fun e w' => e = .returned (.tuple #[.string AJ, .int .i64 0]) ∧ Below V.heap.size V w') ∧ (Calls Tryz.prog 9 #[.agg #[.slice none 0 0, .string s0, .string ⟨#[]⟩, .string ⟨#[]⟩, .string ⟨#[]⟩, .slice pw nw cw, .slice none 0 0]] V fun e w' => e = .returned (.tuple #[.string AW, .int .i64 0]) ∧ Below V.heap.size V w') ∧ (Calls Tryz.prog 9 #[.agg #[.slice pi ni ci, .string s0, .string ⟨#[]⟩, .string ⟨#[]⟩, .string ⟨#[]⟩, .slice none 0 0, .slice none 0 0]] V fun e w' => e = .returned (.tuple #[.string AG, .int .i64 0]) ∧ Below V.heap.size V w')) := fun V hb => by
      obtain ⟨t1, t2, t3⟩ := HT.out V (HBX.out.trans (hb.mono HBX.out.size))
      obtain ⟨-, ok2, ok3, ok4⟩ := parts_ok HOK.out
      refine ⟨?_, ?_, ?_⟩
      · have := print_right (fun b => b < w.heap.size) none none none 0 0 0 (joinQ q) V ⟨ls_none _ _ _ _ _, ls_none _ _ _ _ _, ls_none _ _ _ _ _, t1.lt, t1.lj, t1.la, t1.lb⟩ t2 t3 ok2 AJ hAJ
        have e : (joinQ q).cl (.slice none (joinQ q).i.length 0) (.slice none (joinQ q).w.length 0) (.slice none (joinQ q).g.length 0) = #[.slice none 0 0, .string s0, .string s1, .string s2, .string s3, .slice none 0 0, .slice none 0 0] := by unfold Qry.cl joinQ; simp only; rw [HS.out.1, HS.out.2.1, HS.out.2.2.1, HS.out.2.2.2]; rfl
        rw [e] at this
        exact this
      · have := print_right (fun b => b < w.heap.size) none pw none 0 cw 0 (whereQ q) V ⟨ls_none _ _ _ _ _, t1.lw, ls_none _ _ _ _ _, t1.lt, by simp [whereQ], by simp [whereQ], by simp [whereQ]⟩ t2 t3 ok3 AW hAW
        have e : (whereQ q).cl (.slice none (whereQ q).i.length 0) (.slice pw (whereQ q).w.length cw) (.slice none (whereQ q).g.length 0) = #[.slice none 0 0, .string s0, .string ⟨#[]⟩, .string ⟨#[]⟩, .string ⟨#[]⟩, .slice pw nw cw, .slice none 0 0] := by unfold Qry.cl whereQ; simp only; rw [HS.out.1, HN.out.2.1]; rfl
        rw [e] at this
        exact this
      · have := print_right (fun b => b < w.heap.size) pi none none ci 0 0 (getQ q) V ⟨t1.li, ls_none _ _ _ _ _, ls_none _ _ _ _ _, t1.lt, by simp [getQ], by simp [getQ], by simp [getQ]⟩ t2 t3 ok4 AG hAG
        have e : (getQ q).cl (.slice pi (getQ q).i.length ci) (.slice none (getQ q).w.length 0) (.slice none (getQ q).g.length 0) = #[.slice pi ni ci, .string s0, .string ⟨#[]⟩, .string ⟨#[]⟩, .string ⟨#[]⟩, .slice none 0 0, .slice none 0 0] := by unfold Qry.cl getQ; simp only; rw [HS.out.1, HN.out.1]; rfl
        rw [e] at this
        exact this
    have HTX : Hid (AJ.data.toList = frontP q ++ partsL (joinL q) ++ [41] ∧ AW.data.toList = frontP q ++ partsL (whereL q) ++ [41] ∧ AG.data.toList = frontP q ++ partsL (getL q) ++ [41]) := by
      obtain ⟨-, e2, e3, e4⟩ := parts_text q
      exact ⟨by rw [hAJ, e2], by rw [hAW, e3], by rw [hAG, e4]⟩
    have HLEN : Hid (AJ.size ≤ 1000000000 ∧ AW.size ≤ 1000000000 ∧ AG.size ≤ 1000000000) := by
      obtain ⟨-, ok2, ok3, ok4⟩ := parts_ok HOK.out
      have n2 := text_len ok2 ⟨by simp [joinQ], by simp [joinQ]⟩
      have n3 := text_len ok3 ⟨HNUM.out.w, by simp [whereQ]⟩
      have n4 := text_len ok4 ⟨by simp [getQ], HNUM.out.i⟩
      rw [← hAJ, sz_data] at n2
      rw [← hAW, sz_data] at n3
      rw [← hAG, sz_data] at n4
      exact ⟨n2, n3, n4⟩
    clear hAJ hAW hAG
    have HRJ : Hid (XA.rangeAt a6 0 [.slice none 0 0, .string s0, .string s1, .string s2, .string s3, .slice none 0 0, .slice none 0 0]) := (HRX.out XA (Below.refl _ _)).1
    go_wp2_with (first | (refine wpList_load_mid rfl 27 _ rfl a6 0 rfl _ _ HRJ.out Tryz.underlying27 rfl sz_qry ?_) | (refine wpList_load_midH (by rfl) 27 _ rfl a6 0 rfl _ _ HRJ.out Tryz.underlying27 rfl sz_qry ?_))
    refine ((CP.out XA (Below.refl _ _)).1).mono ?_
    rintro e w6 ⟨rfl, hb6⟩
    have HB6 : Hid (Below XA.heap.size XA w6) := hb6
    have HRW : Hid (w6.rangeAt b7 0 [.slice none 0 0, .string s0, .string ⟨#[]⟩, .string ⟨#[]⟩, .string ⟨#[]⟩, .slice pw nw cw, .slice none 0 0]) := (HRX.out w6 hb6).2.1
    clear hb6 HRJ c62 f62 c63 f63 c64 f64 c75 f75 c80 f80 m5 m0 hX6 hX7 hX8 hX9 hXA
    go_wp2_with (first | (refine wpList_load_mid rfl 27 _ rfl b7 0 rfl _ _ HRW.out Tryz.underlying27 rfl sz_qry ?_) | (refine wpList_load_midH (by rfl) 27 _ rfl b7 0 rfl _ _ HRW.out Tryz.underlying27 rfl sz_qry ?_))
    refine ((CP.out w6 HB6.out).2.1).mono ?_
    rintro e w7 ⟨rfl, hb7⟩
    have HB7 : Hid (Below XA.heap.size XA w7) := HB6.out.trans (hb7.mono HB6.out.size)
    have HRG : Hid (w7.rangeAt c8 0 [.slice pi ni ci, .string s0, .string ⟨#[]⟩, .string ⟨#[]⟩, .string ⟨#[]⟩, .slice none 0 0, .slice none 0 0]) := (HRX.out w7 HB7.out).2.2
    clear hb7 HRW HB6
    go_wp2_with (first | (refine wpList_load_mid rfl 27 _ rfl c8 0 rfl _ _ HRG.out Tryz.underlying27 rfl sz_qry ?_) | (refine wpList_load_midH (by rfl) 27 _ rfl c8 0 rfl _ _ HRG.out Tryz.underlying27 rfl sz_qry ?_))
    refine ((CP.out w7 HB7.out).2.2).mono ?_
    rintro e w8 ⟨rfl, hb8⟩
    have HB8 : Hid (Below W0.heap.size W0 w8) := HBX.out.trans ((HB7.out.trans (hb8.mono HB7.out.size)).mono HBX.out.size)
    clear hb8 HRG HB7 HRX CP HBX HGX
    -- TEXTS
    obtain ⟨A, hA⟩ : ∃ A, partsL (joinL q) = A := ⟨_, rfl⟩
    obtain ⟨B, hB⟩ : ∃ A, partsL (whereL q) = A := ⟨_, rfl⟩
    obtain ⟨C, hC⟩ : ∃ A, partsL (getL q) = A := ⟨_, rfl⟩
    obtain ⟨F, hF⟩ : ∃ A, frontP q = A := ⟨_, rfl⟩
    have HSIX : Hid (∀ x ∈ [B ++ A, C ++ B, C ++ A, A ++ A, B ++ B, C ++ C], x = A ∨ x = B ∨ x = C ∨ (parseP (F ++ x ++ [41])).2.1 ≠ 0) := by have := six_ok HOK.out HNUM.out hA.symm hB.symm hC.symm; rw [hF] at this; exact this
    have HTX2 : Hid (AJ.data.toList = F ++ A ++ [41] ∧ AW.data.toList = F ++ B ++ [41] ∧ AG.data.toList = F ++ C ++ [41] ∧ FR.data.toList = F ++ [41]) := by have h1 := HTX.out; have h2 := HFR.out; rw [hA, hB, hC, hF] at h1; rw [hF] at h2; exact ⟨h1.1, h1.2.1, h1.2.2, h2⟩
    obtain ⟨n, hn⟩ : ∃ n, F.length = n := ⟨_, rfl⟩
    obtain ⟨ma, hma⟩ : ∃ m, n + A.length = m := ⟨_, rfl⟩
    obtain ⟨mb, hmb⟩ : ∃ m, n + B.length = m := ⟨_, rfl⟩
    obtain ⟨mc, hmc⟩ : ∃ m, n + C.length = m := ⟨_, rfl⟩
    have eF : FR.size = n + 1 := by rw [← sz_data, HTX2.out.2.2.2]; simp; omega
    have eA : AJ.size = ma + 1 := by rw [← sz_data, HTX2.out.1]; simp; omega
    have eB : AW.size = mb + 1 := by rw [← sz_data, HTX2.out.2.1]; simp; omega
    have eC : AG.size = mc + 1 := by rw [← sz_data, HTX2.out.2.2.1]; simp; omega
    have HSZ : Hid (n ≤ 1000000000 ∧ ma ≤ 1000000000 ∧ mb ≤ 1000000000 ∧ mc ≤ 1000000000 ∧ F.length = n ∧ A.length ≤ ma ∧ B.length ≤ mb ∧ C.length ≤ mc) := by have := HLEN.out; exact ⟨by omega, by omega, by omega, by omega, by omega, by omega, by omega, by omega⟩
    have yF : (FR.size : Int) - 1 = (n : Int) := by omega
    have yA : (AJ.size : Int) - 1 = (ma : Int) := by omega
    have yB : (AW.size : Int) - 1 = (mb : Int) := by omega
    have yC : (AG.size : Int) - 1 = (mc : Int) := by omega
    have vF : (0 : Int) ≤ (n : Int) := by omega
    have lA : (n : Int) ≤ (ma : Int) := by omega
    have lB : (n : Int) ≤ (mb : Int) := by omega
    have lC : (n : Int) ≤ (mc : Int) := by omega
    have xF : (n : Int) ≤ (FR.size : Int) := by omega
    have xA : (ma : Int) ≤ (AJ.size : Int) := by omega
    have xB : (mb : Int) ≤ (AW.size : Int) := by omega
    have xC : (mc : Int) ≤ (AG.size : Int) := by omega
    have tF : (n : Int) ≤ 1000000000 := by have := HSZ.out; omega
    have tA : (ma : Int) ≤ 1000000000 := by have := HSZ.out; omega
    have tB : (mb : Int) ≤ 1000000000 := by have := HSZ.out; omega
    have tC : (mc : Int) ≤ 1000000000 := by have := HSZ.out; omega
    have uA : IntKind.i64.wrap (ma : Int) = (ma : Int) := wrap_small ma HSZ.out.2.1
    have uB : IntKind.i64.wrap (mb : Int) = (mb : Int) := wrap_small mb HSZ.out.2.2.1
    have uC : IntKind.i64.wrap (mc : Int) = (mc : Int) := wrap_small mc HSZ.out.2.2.2.1
    obtain ⟨Sa, hSa⟩ : ∃ S, AJ.extract n ma = S := ⟨_, rfl⟩
    obtain ⟨Sb, hSb⟩ : ∃ S, AW.extract n mb = S := ⟨_, rfl⟩
    obtain ⟨Sc, hSc⟩ : ∃ S, AG.extract n mc = S := ⟨_, rfl⟩
    obtain ⟨Fs, hFs⟩ : ∃ S, FR.extract 0 n = S := ⟨_, rfl⟩
    have HXT : Hid (Sa.data.toList = A ∧ Sb.data.toList = B ∧ Sc.data.toList = C ∧ Fs.data.toList = F) := by
      refine ⟨?_, ?_, ?_, ?_⟩
      · rw [← hSa, ← hma, ← hn]; exact ext_list _ _ _ _ HTX2.out.1
      · rw [← hSb, ← hmb, ← hn]; exact ext_list _ _ _ _ HTX2.out.2.1
      · rw [← hSc, ← hmc, ← hn]; exact ext_list _ _ _ _ HTX2.out.2.2.1
      · rw [← hFs, ← hn]; have := ext_list FR [] F [41] HTX2.out.2.2.2; simpa using this
    clear HTX HFR HOK HNUM hA hB hC hF HTX2 hn hma hmb hmc eF eA eB eC HLEN
    go_wp2_with fail
    obtain ⟨w9, hw9⟩ : ∃ V, w8.drew = V := ⟨_, rfl⟩
    have HB9 : Hid (Below W0.heap.size W0 w9) := by show Below _ _ _; rw [← hw9]; exact HB8.out.trans (((Below.refl _ w8).drew).mono HB8.out.size)
    refine wp_region_held_drew (S := fun V => V = w9) (by kernel_rfl) (by rw [hw9]) (fun hHeld => ?_)
    refine wpAnyH_take (i := 0) (v := .string AJ) rfl (by kernel_rfl) (by kernel_rfl) (by kernel_rfl) (fun _ _ _ h => h) (.inl ⟨by rfl, fun W hW => by go_simp⟩) hHeld ?_
    simp only [Act.put, List.getElem_toArray, List.getElem_cons_zero, List.getElem_cons_succ, List.setIfInBounds_toArray, List.set_cons_zero, List.set_cons_succ]
    refine wpAnyH_take (i := 1) (v := .int .i64 (n : Int)) rfl (by kernel_rfl) (by kernel_rfl) (by kernel_rfl) (fun _ _ _ h => h) (.inl ⟨by rfl, fun W hW => by go_simp⟩) hHeld ?_
    simp only [Act.put, List.getElem_toArray, List.getElem_cons_zero, List.getElem_cons_succ, List.setIfInBounds_toArray, List.set_cons_zero, List.set_cons_succ]
    refine wpAnyH_take (i := 2) (v := .string AJ) rfl (by kernel_rfl) (by kernel_rfl) (by kernel_rfl) (fun _ _ _ h => h) (.inl ⟨by rfl, fun W hW => by go_simp⟩) hHeld ?_
    simp only [Act.put, List.getElem_toArray, List.getElem_cons_zero, List.getElem_cons_succ, List.setIfInBounds_toArray, List.set_cons_zero, List.set_cons_succ]
    refine wpAnyH_take (i := 3) (v := .int .i64 (AJ.size : Int)) rfl (by kernel_rfl) (by kernel_rfl) (by kernel_rfl) (fun _ _ _ h => h) (.inl ⟨by rfl, fun W hW => by go_simp⟩) hHeld ?_
    simp only [Act.put, List.getElem_toArray, List.getElem_cons_zero, List.getElem_cons_succ, List.setIfInBounds_toArray, List.set_cons_zero, List.set_cons_succ]
    refine wpAnyH_take (i := 4) (v := .int .i64 (ma : Int)) rfl (by kernel_rfl) (by kernel_rfl) (by kernel_rfl) (fun _ _ _ h => h) (.inl ⟨by rfl, fun W hW => by go_simp⟩) hHeld ?_
    simp only [Act.put, List.getElem_toArray, List.getElem_cons_zero, List.getElem_cons_succ, List.setIfInBounds_toArray, List.set_cons_zero, List.set_cons_succ]
    refine wpAnyH_take (i := 5) (v := .string Sa) rfl (by kernel_rfl) (by kernel_rfl) (by kernel_rfl) (fun _ _ _ h => h) (.inl ⟨by rfl, fun W hW => by go_simp⟩) hHeld ?_
    simp only [Act.put, List.getElem_toArray, List.getElem_cons_zero, List.getElem_cons_succ, List.setIfInBounds_toArray, List.set_cons_zero, List.set_cons_succ]
    refine wpAnyH_take (i := 6) (v := .string AW) rfl (by kernel_rfl) (by kernel_rfl) (by kernel_rfl) (fun _ _ _ h => h) (.inl ⟨by rfl, fun W hW => by go_simp⟩) hHeld ?_
    simp only [Act.put, List.getElem_toArray, List.getElem_cons_zero, List.getElem_cons_succ, List.setIfInBounds_toArray, List.set_cons_zero, List.set_cons_succ]
    refine wpAnyH_take (i := 7) (v := .int .i64 (n : Int)) rfl (by kernel_rfl) (by kernel_rfl) (by kernel_rfl) (fun _ _ _ h => h) (.inl ⟨by rfl, fun W hW => by go_simp⟩) hHeld ?_
    simp only [Act.put, List.getElem_toArray, List.getElem_cons_zero, List.getElem_cons_succ, List.setIfInBounds_toArray, List.set_cons_zero, List.set_cons_succ]
    refine wpAnyH_take (i := 8) (v := .string AW) rfl (by kernel_rfl) (by kernel_rfl) (by kernel_rfl) (fun _ _ _ h => h) (.inl ⟨by rfl, fun W hW => by go_simp⟩) hHeld ?_
    simp only [Act.put, List.getElem_toArray, List.getElem_cons_zero, List.getElem_cons_succ, List.setIfInBounds_toArray, List.set_cons_zero, List.set_cons_succ]
    refine wpAnyH_take (i := 9) (v := .int .i64 (AW.size : Int)) rfl (by kernel_rfl) (by kernel_rfl) (by kernel_rfl) (fun _ _ _ h => h) (.inl ⟨by rfl, fun W hW => by go_simp⟩) hHeld ?_
    simp only [Act.put, List.getElem_toArray, List.getElem_cons_zero, List.getElem_cons_succ, List.setIfInBounds_toArray, List.set_cons_zero, List.set_cons_succ]
    refine wpAnyH_take (i := 10) (v := .int .i64 (mb : Int)) rfl (by kernel_rfl) (by kernel_rfl) (by kernel_rfl) (fun _ _ _ h => h) (.inl ⟨by rfl, fun W hW => by go_simp⟩) hHeld ?_
    simp only [Act.put, List.getElem_toArray, List.getElem_cons_zero, List.getElem_cons_succ, List.setIfInBounds_toArray, List.set_cons_zero, List.set_cons_succ]
    refine wpAnyH_take (i := 11) (v := .string Sb) rfl (by kernel_rfl) (by kernel_rfl) (by kernel_rfl) (fun _ _ _ h => h) (.inl ⟨by rfl, fun W hW => by go_simp⟩) hHeld ?_
    simp only [Act.put, List.getElem_toArray, List.getElem_cons_zero, List.getElem_cons_succ, List.setIfInBounds_toArray, List.set_cons_zero, List.set_cons_succ]
    refine wpAnyH_take (i := 12) (v := .string AG) rfl (by kernel_rfl) (by kernel_rfl) (by kernel_rfl) (fun _ _ _ h => h) (.inl ⟨by rfl, fun W hW => by go_simp⟩) hHeld ?_
    simp only [Act.put, List.getElem_toArray, List.getElem_cons_zero, List.getElem_cons_succ, List.setIfInBounds_toArray, List.set_cons_zero, List.set_cons_succ]
    refine wpAnyH_take (i := 13) (v := .int .i64 (n : Int)) rfl (by kernel_rfl) (by kernel_rfl) (by kernel_rfl) (fun _ _ _ h => h) (.inl ⟨by rfl, fun W hW => by go_simp⟩) hHeld ?_
    simp only [Act.put, List.getElem_toArray, List.getElem_cons_zero, List.getElem_cons_succ, List.setIfInBounds_toArray, List.set_cons_zero, List.set_cons_succ]
    refine wpAnyH_take (i := 14) (v := .string AG) rfl (by kernel_rfl) (by kernel_rfl) (by kernel_rfl) (fun _ _ _ h => h) (.inl ⟨by rfl, fun W hW => by go_simp⟩) hHeld ?_
    simp only [Act.put, List.getElem_toArray, List.getElem_cons_zero, List.getElem_cons_succ, List.setIfInBounds_toArray, List.set_cons_zero, List.set_cons_succ]
    refine wpAnyH_take (i := 15) (v := .int .i64 (AG.size : Int)) rfl (by kernel_rfl) (by kernel_rfl) (by kernel_rfl) (fun _ _ _ h => h) (.inl ⟨by rfl, fun W hW => by go_simp⟩) hHeld ?_
    simp only [Act.put, List.getElem_toArray, List.getElem_cons_zero, List.getElem_cons_succ, List.setIfInBounds_toArray, List.set_cons_zero, List.set_cons_succ]
    refine wpAnyH_take (i := 16) (v := .int .i64 (mc : Int)) rfl (by kernel_rfl) (by kernel_rfl) (by kernel_rfl) (fun _ _ _ h => h) (.inl ⟨by rfl, fun W hW => by go_simp⟩) hHeld ?_
    simp only [Act.put, List.getElem_toArray, List.getElem_cons_zero, List.getElem_cons_succ, List.setIfInBounds_toArray, List.set_cons_zero, List.set_cons_succ]
    refine wpAnyH_take (i := 17) (v := .string Sc) rfl (by kernel_rfl) (by kernel_rfl) (by kernel_rfl) (fun _ _ _ h => h) (.inl ⟨by rfl, fun W hW => by go_simp⟩) hHeld ?_
    simp only [Act.put, List.getElem_toArray, List.getElem_cons_zero, List.getElem_cons_succ, List.setIfInBounds_toArray, List.set_cons_zero, List.set_cons_succ]
    rw [hw9] at hHeld ⊢
    refine wpAnyH_ready (rs := [18]) (by kernel_rfl) (by simp) ?_
    refine AllReadyH.cons rfl (fun K' hK => ?_) AllReadyH.nil
    rw [if_pos (by rfl)]
    go_simp
    refine hK.out _ _ rfl (fun hHeld => ?_)
    clear hK K'
    refine wpAnyH_ready (rs := [19]) (by kernel_rfl) (by simp) ?_
    refine AllReadyH.cons rfl (fun K' hK => ?_) AllReadyH.nil
    rw [if_pos (by rfl)]
    go_simp
    refine hK.out _ _ rfl (fun hHeld => ?_)
    clear hK K'
    refine wpAnyH_ready (rs := [20]) (by kernel_rfl) (by simp) ?_
    refine AllReadyH.cons rfl (fun K' hK => ?_) AllReadyH.nil
    rw [if_pos (by rfl)]
    go_simp
    refine hK.out _ _ rfl (fun hHeld => ?_)
    clear hK K'
    refine wpAnyH_done (by kernel_rfl) ?_ _
    clear hHeld hw9 HB8
    clear yF yA yB yC lA lB lC xA xB xC hSa hSb hSc tA tB tC
    have HZS : Hid (Sa.size ≤ 1000000000 ∧ Sb.size ≤ 1000000000 ∧ Sc.size ≤ 1000000000 ∧ Fs.size ≤ 1000000000) := by
      have h1 := HXT.out
      have h2 := HSZ.out
      rw [← sz_data, ← sz_data, ← sz_data, ← sz_data, h1.1, h1.2.1, h1.2.2.1, h1.2.2.2]
      exact ⟨by omega, by omega, by omega, by omega⟩
    have p1 : ¬ 9223372036854775807 < Sb.size + Sa.size := by have := HZS.out; omega
    have p2 : ¬ 9223372036854775807 < Sc.size + Sb.size := by have := HZS.out; omega
    have p3 : ¬ 9223372036854775807 < Sc.size + Sa.size := by have := HZS.out; omega
    have p4 : ¬ 9223372036854775807 < Sa.size + Sa.size := by have := HZS.out; omega
    have p5 : ¬ 9223372036854775807 < Sb.size + Sb.size := by have := HZS.out; omega
    have p6 : ¬ 9223372036854775807 < Sc.size + Sc.size := by have := HZS.out; omega
    obtain ⟨x1, hx1⟩ : ∃ S, Sb ++ Sa = S := ⟨_, rfl⟩
    obtain ⟨x2, hx2⟩ : ∃ S, Sc ++ Sb = S := ⟨_, rfl⟩
    obtain ⟨x3, hx3⟩ : ∃ S, Sc ++ Sa = S := ⟨_, rfl⟩
    obtain ⟨x4, hx4⟩ : ∃ S, Sa ++ Sa = S := ⟨_, rfl⟩
    obtain ⟨x5, hx5⟩ : ∃ S, Sb ++ Sb = S := ⟨_, rfl⟩
    obtain ⟨x6, hx6⟩ : ∃ S, Sc ++ Sc = S := ⟨_, rfl⟩
    have HXX : Hid (x1.data.toList = B ++ A ∧ x2.data.toList = C ++ B ∧ x3.data.toList = C ++ A ∧ x4.data.toList = A ++ A ∧ x5.data.toList = B ++ B ∧ x6.data.toList = C ++ C) := by
      obtain ⟨h1, h2, h3, -⟩ := HXT.out
      refine ⟨?_, ?_, ?_, ?_, ?_, ?_⟩
      · rw [← hx1, app_list, h2, h1]
      · rw [← hx2, app_list, h3, h2]
      · rw [← hx3, app_list, h3, h1]
      · rw [← hx4, app_list, h1]
      · rw [← hx5, app_list, h2]
      · rw [← hx6, app_list, h3]
    obtain ⟨V0, hV0⟩ : ∃ V, w9.alloc (.cells #[.string x1, .string x2, .string x3, .string x4, .string x5, .string x6] 9) = V := ⟨_, rfl⟩
    have hbV : Below w9.heap.size w9 V0 := by rw [← hV0]; exact below_alloc _ _
    have hgV : V0.heap[w9.heap.size]? = some (.cells #[.string x1, .string x2, .string x3, .string x4, .string x5, .string x6] 9 (0, 0)) := by rw [← hV0]; exact heap_alloc_new w9 _
    have HBV : Hid (Below W0.heap.size W0 V0) := HB9.out.trans (hbV.mono HB9.out.size)
    have hlV : w9.heap.size < V0.heap.size := (Array.getElem?_eq_some_iff.1 hgV).1
    have HEL : Hid (∀ V, Below V0.heap.size V0 V → ∀ i : Nat, i < 6 → ∃ x : ByteArray, V.cell? ⟨w9.heap.size, i, none⟩ = some (.string x) ∧ x.data.toList ∈ [B ++ A, C ++ B, C ++ A, A ++ A, B ++ B, C ++ C]) := fun V hb i hi => by
      have hg := (hb.block _ hlV).trans hgV
      obtain ⟨h1, h2, h3, h4, h5, h6⟩ := HXX.out
      match i, hi with
      | 0, _ => exact ⟨x1, cell_of_row hg rfl, by rw [h1]; simp⟩
      | 1, _ => exact ⟨x2, cell_of_row hg rfl, by rw [h2]; simp⟩
      | 2, _ => exact ⟨x3, cell_of_row hg rfl, by rw [h3]; simp⟩
      | 3, _ => exact ⟨x4, cell_of_row hg rfl, by rw [h4]; simp⟩
      | 4, _ => exact ⟨x5, cell_of_row hg rfl, by rw [h5]; simp⟩
      | 5, _ => exact ⟨x6, cell_of_row hg rfl, by rw [h6]; simp⟩
    clear hbV hgV hlV HB9 HXX
    go_wp2_with fail
    go_loopg [108] 6 (fun gf s108 wx => ∃ (i : Nat), s108 = .int .i64 i ∧ i ≤ 6 ∧ 6 ≤ i + gf ∧ Hid (Below V0.heap.size V0 wx))
    case atStart => exact ⟨0, rfl, by omega, by omega, Below.refl _ _⟩
    case round =>
      clear hV0 hx1 hx2 hx3 hx4 hx5 hx6 p1 p2 p3 p4 p5 p6
      obtain ⟨i, rfl, hi1, hgf, HBW⟩ := hrel
      by_cases hi : i < 6
      · obtain ⟨g', rfl⟩ : ∃ g', gk = g' + 1 := ⟨gk - 1, by omega⟩
        obtain ⟨x, hcx, hmem⟩ := HEL.out wr HBW.out i hi
        have z0 : (0 : Int) ≤ (i : Int) := by omega
        have z1 : (i : Int) < 6 := by omega
        have HX : Hid (x.data.toList = A ∨ x.data.toList = B ∨ x.data.toList = C ∨ (parseP (F ++ x.data.toList ++ [41])).2.1 ≠ 0) := HSIX.out _ hmem
        have hxl : x.data.toList.length ≤ 2000000000 := by
          have h9 := HSZ.out
          simp only [List.mem_cons, List.not_mem_nil, or_false] at hmem
          rcases hmem with h | h | h | h | h | h <;> (rw [h, List.length_append]; omega)
        have HXL := hid hxl
        clear hmem hxl
        by_cases e1 : x.data.toList = A
        · have t1 : (x.toList == Sa.toList) = true := by rw [Lib.toList_data, Lib.toList_data, HXT.out.1, e1]; simp
          clear e1 HX
          go_wp2_with fail
          go_roundg g'
          case measure => omega
          case rel => exact ⟨i + 1, by go_num, by omega, by omega, HBW⟩
        · have t1 : (x.toList == Sa.toList) = false := by rw [Lib.toList_data, Lib.toList_data, HXT.out.1]; exact beq_eq_false_iff_ne.2 e1
          by_cases e2 : x.data.toList = B
          · have t2 : (x.toList == Sb.toList) = true := by rw [Lib.toList_data, Lib.toList_data, HXT.out.2.1, e2]; simp
            clear e1 e2 HX
            go_wp2_with fail
            go_roundg g'
            case measure => omega
            case rel => exact ⟨i + 1, by go_num, by omega, by omega, HBW⟩
          · have t2 : (x.toList == Sb.toList) = false := by rw [Lib.toList_data, Lib.toList_data, HXT.out.2.1]; exact beq_eq_false_iff_ne.2 e2
            by_cases e3 : x.data.toList = C
            · have t3 : (x.toList == Sc.toList) = true := by rw [Lib.toList_data, Lib.toList_data, HXT.out.2.2.1, e3]; simp
              clear e1 e2 e3 HX
              go_wp2_with fail
              go_roundg g'
              case measure => omega
              case rel => exact ⟨i + 1, by go_num, by omega, by omega, HBW⟩
            · have t3 : (x.toList == Sc.toList) = false := by rw [Lib.toList_data, Lib.toList_data, HXT.out.2.2.1]; exact beq_eq_false_iff_ne.2 e3
              obtain ⟨r1, hr1⟩ : ∃ S, Fs ++ x = S := ⟨_, rfl⟩
              have p1 : ¬ 9223372036854775807 < Fs.size + x.size := by have h8 := HZS.out; have h9 := HXL.out; rw [sz_data] at h9; omega
              have p2 : ¬ 9223372036854775807 < r1.size + 1 := by
                have h7 : r1.data.toList.length = Fs.data.toList.length + x.data.toList.length := by rw [← hr1, app_list, List.length_append]
                rw [sz_data, sz_data, sz_data] at h7
                have h8 := HZS.out
                have h9 := HXL.out
                rw [sz_data] at h9
                omega
              obtain ⟨r2, hr2⟩ : ∃ S, r1 ++ (⟨#[41]⟩ : ByteArray) = S := ⟨_, rfl⟩
              have hr3 : r2.data.toList = F ++ x.data.toList ++ [41] := by rw [← hr2, app_list, ← hr1, app_list, HXT.out.2.2.2]
              obtain ⟨q2, y2, a2, hpq⟩ : ∃ q y a, parseP r2.data.toList = (q, y, a) := ⟨_, _, _, rfl⟩
              have hy0 : y2 ≠ 0 := by
                have := HX.out
                rw [← hr3, hpq] at this
                rcases this with h | h | h | h
                · exact absurd h e1
                · exact absurd h e2
                · exact absurd h e3
                · exact h
              have hG : GA wr := (HT.out wr (HBV.out.trans (HBW.out.mono HBV.out.size))).2.2
              have hrs : r2.size ≤ 9223372036854775807 := by
                rw [← sz_data, hr3]
                have h8 := HSZ.out
                have h9 := HXL.out
                simp only [List.length_append, List.length_cons, List.length_nil]
                omega
              have CR : Hid (Calls Tryz.prog 7 #[.string r2] wr fun e w' => OutP wr (q2, y2, a2) e w') := by have := parse_any r2 wr hrs hG.g2.1 hG.gw hG.h10; rw [hpq] at this; exact this
              have yy : (y2 == 0) = false := beq_eq_false_iff_ne.2 hy0
              clear e1 e2 e3 HX hr3 hpq hy0 hG hrs
              go_wp2_with fail
              refine CR.out.mono ?_
              rintro e w10 ⟨v, rfl, ⟨vi, vw, vg, rfl, hin⟩, hb10⟩
              obtain ⟨qi, di, qw, dw, qg, dg, rfl, rfl, rfl, -⟩ := hin.ls
              obtain ⟨u0, hu0⟩ : ∃ s : ByteArray, (⟨q2.t.toArray⟩ : ByteArray) = s := ⟨_, rfl⟩
              obtain ⟨u1, hu1⟩ : ∃ s : ByteArray, (⟨q2.j.toArray⟩ : ByteArray) = s := ⟨_, rfl⟩
              obtain ⟨u2, hu2⟩ : ∃ s : ByteArray, (⟨q2.a.toArray⟩ : ByteArray) = s := ⟨_, rfl⟩
              obtain ⟨u3, hu3⟩ : ∃ s : ByteArray, (⟨q2.b.toArray⟩ : ByteArray) = s := ⟨_, rfl⟩
              obtain ⟨l1, hl1⟩ : ∃ n, q2.i.length = n := ⟨_, rfl⟩
              obtain ⟨l2, hl2⟩ : ∃ n, q2.w.length = n := ⟨_, rfl⟩
              obtain ⟨l3, hl3⟩ : ∃ n, q2.g.length = n := ⟨_, rfl⟩
              rw [show q2.cl (.slice qi q2.i.length di) (.slice qw q2.w.length dw) (.slice qg q2.g.length dg) = #[.slice qi l1 di, .string u0, .string u1, .string u2, .string u3, .slice qw l2 dw, .slice qg l3 dg] by unfold Qry.cl; rw [hu0, hu1, hu2, hu3, hl1, hl2, hl3]]
              obtain ⟨WA, hWA, hth, V5, hV5, -, hb5⟩ := box_any w10 27 #[.slice none 0 0, .string ⟨#[]⟩, .string ⟨#[]⟩, .string ⟨#[]⟩, .string ⟨#[]⟩, .slice none 0 0, .slice none 0 0] [.slice qi l1 di, .string u0, .string u1, .string u2, .string u3, .slice qw l2 dw, .slice qg l3 dg] rfl
              have HTH : Hid (WA.there w10.heap.size 0 7) := hth
              have HV5 : Hid (WA.setCells w10.heap.size 0 (#[.slice qi l1 di, .string u0, .string u1, .string u2, .string u3, .slice qw l2 dw, .slice qg l3 dg] : Array Value).toList = V5) := hV5
              have HON : Hid ((#[.slice qi l1 di, .string u0, .string u1, .string u2, .string u3, .slice qw l2 dw, .slice qg l3 dg] : Array Value).all (·.oneCell') = true) := by show _ = _; simp [Value.oneCell']
              have hbw : Below wr.heap.size wr V5 := hb10.trans (hb5.mono hb10.size)
              have HBW2 : Hid (Below V0.heap.size V0 V5) := HBW.out.trans (hbw.mono HBW.out.size)
              clear CR hin hb10 hu0 hu1 hu2 hu3 hl1 hl2 hl3 hth hV5 hb5 hbw HBW hcx t1 t2 t3 hr1 hr2 p1 p2
              go_wp2_with (first | (refine wpList_store_mid rfl 27 _ _ rfl w10.heap.size 0 #[.slice qi l1 di, .string u0, .string u1, .string u2, .string u3, .slice qw l2 dw, .slice qg l3 dg] rfl rfl HTH.out sz_qry HON.out ?_; rw [show WA.setCells w10.heap.size 0 (#[.slice qi l1 di, .string u0, .string u1, .string u2, .string u3, .slice qw l2 dw, .slice qg l3 dg] : Array Value).toList = V5 from HV5.out]))
              go_roundg g'
              case measure => omega
              case rel => exact ⟨i + 1, by go_num, by omega, by omega, HBW2⟩
      · have z1 : ¬ (i : Int) < 6 := by omega
        have HBF : Hid (Below w.heap.size w wr) := (HL.out wr (HBV.out.trans (HBW.out.mono HBV.out.size))).2
        clear HEL HSIX HXT HT HL HBW HBV
        go_wp2_with fail
        go_ret
        exact ⟨rfl, HBF.out⟩
end Go.Proofs.YthpcpaggbhgcoaaGreatDoor
/- A query as an argument: how it is read. -/
namespace Go.Proofs.YthpcpaggbhgcoaaGreatDoor.Ag
open Go.ChangeShapes Go.WideShapes Go.ChangeAt Go.RowKit Go.Joins Go.Deep
open Go.ChangeMaps (open_string shut_string)
set_option linter.unusedVariables false
set_option linter.unusedSimpArgs false
/-- How great a datum's parts are. -/
def Lim {H : Type} (t : TypeId) (d : DataW H) : Prop := ∀ n ∈ d.weights Tryz.prog t, n ≤ reachBytes
/-- The cells of a type are a part. -/
def ReadsAs {α : Type} (rel : Rel α) (t sz : Nat) : Prop := ∀ (H : Type) (enc : TypeId × Value → H) (W : World) (fuel : Nat) (cs : List Value) (x : DataW H × List MemPlace), DataW.trod enc Tryz.prog W 0 (fun _ => true) true fuel t cs = some x → Lim t x.1 → cs.length = sz → ∃ y, rel (fun b => b < W.heap.size) W cs y
theorem rb : reachBytes = 140737488351232 := rfl
theorem weights_all {H : Type} {P : Program} {e : TypeId} : ∀ {ds : List (DataW H)} {d : DataW H}, d ∈ ds → ∀ n ∈ d.weights P e, n ∈ DataW.weightsAll P e ds
  | d0 :: ds, d, hd, n, hn => by
    simp only [DataW.weightsAll, List.mem_append]
    rcases List.mem_cons.1 hd with rfl | hd
    · exact .inl hn
    · exact .inr (weights_all hd n hn)
theorem plain_addr {W : World} {a : Addr} {v : Value} (h : W.cell? (a.add 0) = some v) : a = ⟨a.block, a.off, none⟩ ∧ a.block < W.heap.size := by
  have hs := World.cell?_spot h
  obtain ⟨b, o, sp⟩ := a
  simp [Addr.add] at hs
  subst hs
  refine ⟨rfl, ?_⟩
  by_cases hb : b < W.heap.size
  · exact hb
  · have : W.heap[b]? = none := Array.getElem?_eq_none (by omega)
    simp [World.cell?, Addr.add, this] at h
set_option maxRecDepth 100000 in
/-- A list that is handed in. -/
theorem reads_list {α : Type} {rel : Rel α} {t e sz bts : Nat} (hu : Tryz.prog.underlying t = some (.slice e)) (hc : Tryz.prog.cellsOf e = sz) (hby : Tryz.prog.bytesOf e = bts) (hsz : 0 < sz) (hr : ReadsAs rel e sz)
    {H : Type} {enc : TypeId × Value → H} {W : World} {fuel : Nat} {v : Value} {x : DataW H × List MemPlace} (h : DataW.trod enc Tryz.prog W 0 (fun _ => true) true fuel t [v] = some x) (hl : Lim t x.1) : ∃ xs : List α, ListIs rel sz bts (fun b => b < W.heap.size) W v xs := by
  rcases open_slice hu h with ⟨hcs, hx⟩ | ⟨a, len, cap, m, n, D, Pl, hcs, hb, hle, hm, hmm, hx, hel⟩
  · simp only [List.cons.injEq, and_true] at hcs
    subst hcs
    exact ⟨[], none, 0, rfl, by simp, fun h => absurd h (by simp)⟩
  · simp only [List.cons.injEq, and_true] at hcs
    subst hcs
    simp only [if_true] at hmm
    subst hmm
    rw [hc] at hel
    subst hx
    have hbytes : len * bts ≤ 140737488355328 := by
      have := hl ((((List.range len).map D).length + ((List.range (m - len)).map fun j => D (len + j)).length) * bts) (by simp [DataW.weights, hu, hby])
      simp only [List.length_map, List.length_range] at this
      have e1 : len * bts ≤ (len + (m - len)) * bts := Nat.mul_le_mul_right _ (by omega)
      have := rb
      omega
    have each : ∀ i, i < len → ∃ (q : List Value × α), q.1.length = sz ∧ (∀ j u, q.1[j]? = some u → W.cell? ((a.add (i * sz)).add j) = some u) ∧ rel (fun b => b < W.heap.size) W q.1 q.2 := by
      intro i hi
      obtain ⟨cs, g1, g2⟩ := hel i (by omega)
      obtain ⟨_, hlen, hcell⟩ := World.cells?_some g1
      obtain ⟨y, hy⟩ := hr H enc W n cs (D i, Pl i) g2 (fun k hk => hl k (by
        simp only [DataW.weights, hu, List.mem_cons, List.mem_append]
        exact .inr (.inl (weights_all (List.mem_map.2 ⟨i, by simpa using hi, rfl⟩) k hk)))) hlen
      refine ⟨(cs, y), hlen, fun j u hj => ?_, hy⟩
      have hjl : j < cs.length := (List.getElem?_eq_some_iff.1 hj).1
      rw [hcell j (by omega)]
      exact hj
    by_cases h0 : len = 0
    · subst h0
      exact ⟨[], some a, m, by simp, by simp, fun h => by simp at h⟩
    · have each0 := each 0 (by omega)
      haveI : Inhabited (List Value × α) := ⟨each0.choose⟩
      obtain ⟨X, hX⟩ := choose_lt each
      obtain ⟨z1, z2, _⟩ := hX 0 (by omega)
      obtain ⟨u0, hu0⟩ : ∃ u, (X 0).1[0]? = some u := ⟨_, List.getElem?_eq_getElem (by omega)⟩
      have ha := z2 0 u0 hu0
      rw [Nat.zero_mul, add_add, Nat.add_zero] at ha
      obtain ⟨hp, hbl⟩ := plain_addr ha
      refine ⟨(List.range len).map fun i => (X i).2, some a, m, by simp, ⟨by simpa using hbytes, by simp; omega⟩, fun _ => ⟨a.block, a.off, by rw [← hp], hbl, fun j hj => ?_⟩⟩
      simp at hj
      obtain ⟨k1, k2, k3⟩ := hX j hj
      refine ⟨(X j).1, k1, fun i u hi => ?_, by simpa using k3⟩
      have := k2 i u hi
      rw [add_add, hp, add_plain] at this
      rw [← Nat.add_assoc] at this
      exact this
/-- A field of a struct. -/
theorem fld_at {H : Type} {enc : TypeId × Value → H} {W : World} {fuel t : Nat} {cs : List Value} {x : DataW H × List MemPlace} {fs : Array Field} (ht : Tryz.prog.underlying t = some (.struct fs)) (h : DataW.trod enc Tryz.prog W 0 (fun _ => true) true fuel t cs = some x) (hl : Lim t x.1) (i : Nat) (f : Field) (hf : fs[i]? = some f) (e n : Nat) (he : f.type = e) (o : Nat) (ho : f.offset = o) (hn : Tryz.prog.cellsOf e = n) :
    ∃ m y, DataW.trod enc Tryz.prog W 0 (fun _ => true) true m e ((cs.drop o).take n) = some y ∧ Lim e y.1 := by
  obtain ⟨xs, m, _, rfl, _, hlen, hall⟩ := DataW.trod_struct ht h
  subst he ho hn
  have h1 := hall i f hf
  have hi : i < xs.length := by rw [hlen]; exact (Array.getElem?_eq_some_iff.1 hf).1
  rw [List.getElem?_eq_getElem hi] at h1
  refine ⟨m, xs[i], h1, fun k hk => hl k ?_⟩
  simp only [DataW.weights, ht]
  exact DataW.weights_mem_each (j := i) (by rw [List.getElem?_map, Array.getElem?_toList, hf]; rfl) (by rw [List.getElem?_map, List.getElem?_eq_getElem hi]; rfl) k hk
theorem int_at {H : Type} {enc : TypeId × Value → H} {W : World} {fuel t : Nat} {k : IntKind} {cs : List Value} {x : DataW H × List MemPlace} (hu : Tryz.prog.underlying t = some (.int k)) (h : DataW.trod enc Tryz.prog W 0 (fun _ => true) true fuel t cs = some x) : ∃ n, cs = [.int k n] ∧ (Lit.int k n).wf = true := by
  obtain ⟨n, e, _, w⟩ := DataW.trod_int hu h
  exact ⟨n, e, w⟩
theorem text_at {H : Type} {enc : TypeId × Value → H} {W : World} {fuel t : Nat} {cs : List Value} {x : DataW H × List MemPlace} (hu : Tryz.prog.underlying t = some .string) (h : DataW.trod enc Tryz.prog W 0 (fun _ => true) true fuel t cs = some x) (hl : Lim t x.1) : ∃ s : ByteArray, cs = [.string s] ∧ s.size ≤ 140737488351232 := by
  obtain ⟨s, e, hx, _⟩ := DataW.trod_string hu h
  refine ⟨s, e, ?_⟩
  have := hl s.data.toList.length (by rw [hx]; simp [DataW.weights])
  have h2 : s.data.toList.length = s.size := by simp
  have := rb
  omega
theorem one_of {cs : List Value} {o n : Nat} {v : Value} (h : (cs.drop o).take n = [v]) : cs[o]? = some v := by
  have h0 : ((cs.drop o).take n)[0]? = some v := by rw [h]; rfl
  have hn : 0 < n := by
    cases n with
    | zero => simp at h
    | succ n => omega
  rw [List.getElem?_take_of_lt hn, List.getElem?_drop] at h0
  simpa using h0
theorem u8_of {n : Int} (h : (Lit.int .u8 n).wf = true) : ∃ k : Nat, n = (k : Int) ∧ k < 256 := by
  have := bounds_u8 h
  exact ⟨n.toNat, by omega, by omega⟩
theorem u64_of {n : Int} (h : (Lit.int .u64 n).wf = true) : ∃ k : Nat, n = (k : Int) ∧ k < 18446744073709551616 := by
  have := bounds_u64 h
  exact ⟨n.toNat, by omega, by omega⟩
theorem i64_of {n : Int} (h : (Lit.int .i64 n).wf = true) : I64 n := by
  have := bounds_i64 h
  exact ⟨by omega, by omega⟩
theorem in_of {cs : List Value} {o n j : Nat} {v : Value} (h : ((cs.drop o).take n)[j]? = some v) : cs[o + j]? = some v := by
  rw [List.getElem?_take] at h
  split at h
  · rwa [List.getElem?_drop] at h
  · cases h
theorem one_ex {cs : List Value} {o : Nat} (h : o < cs.length) : ∃ v, (cs.drop o).take 1 = [v] := by
  cases hd : cs.drop o with
  | nil => have := congrArg List.length hd; simp at this; omega
  | cons a l => exact ⟨a, by simp⟩
theorem len_in {cs : List Value} {o n : Nat} (h : o + n ≤ cs.length) : ((cs.drop o).take n).length = n := by
  rw [List.length_take, List.length_drop]; omega
theorem dt {cl : List Value} {a n b m : Nat} (h : b + m ≤ n) : (((cl.drop a).take n).drop b).take m = (cl.drop (a + b)).take m := by
  rw [List.drop_take, List.take_take, List.drop_drop, Nat.min_eq_left (by omega)]
theorem list_ext {l m : List Value} (hl : l.length = m.length) (h : ∀ (j : Nat) (v : Value), m[j]? = some v → l[j]? = some v) : l = m := by
  apply List.ext_getElem? 
  intro j
  by_cases hj : j < m.length
  · rw [List.getElem?_eq_getElem hj]; exact h j _ (List.getElem?_eq_getElem hj)
  · rw [List.getElem?_eq_none (by omega), List.getElem?_eq_none (by omega)]
theorem reads_slice {α : Type} {rel : Rel α} {t e sz bts : Nat} (hu : Tryz.prog.underlying t = some (.slice e)) (hc : Tryz.prog.cellsOf e = sz) (hby : Tryz.prog.bytesOf e = bts) (hsz : 0 < sz) (hr : ReadsAs rel e sz) : ReadsAs (fun K W cs (x : List α) => ∃ v, cs = [v] ∧ ListIs rel sz bts K W v x) t 1 := fun H enc W fuel cs x h hl hn => by
  match cs, hn with
  | [v], _ =>
    obtain ⟨xs, hx⟩ := reads_list hu hc hby hsz hr h hl
    exact ⟨xs, v, rfl, hx⟩
theorem str_eq (s : ByteArray) : (⟨s.data.toList.toArray⟩ : ByteArray) = s := rfl
theorem size_of (s : ByteArray) : s.data.toList.length = s.size := by simp
theorem reads_stp : ReadsAs rStpW 40 3 := fun H enc W fuel cs x h hl hn => by
  obtain ⟨m0, y0, g0, l0⟩ := fld_at Tryz.underlying40 h hl 0 _ rfl 38 1 rfl 0 rfl (by kernel_rfl)
  obtain ⟨n0, e0, w0⟩ := int_at Tryz.underlying38 g0
  obtain ⟨k0, rfl, q0⟩ := u8_of w0
  have c0 := (one_of e0)
  obtain ⟨m1, y1, g1, l1⟩ := fld_at Tryz.underlying40 h hl 1 _ rfl 9 1 rfl 1 rfl (by kernel_rfl)
  obtain ⟨s1, e1, w1⟩ := text_at Tryz.underlying9 g1 l1
  have c1 := (one_of e1)
  obtain ⟨m2, y2, g2, l2⟩ := fld_at Tryz.underlying40 h hl 2 _ rfl 2 1 rfl 2 rfl (by kernel_rfl)
  obtain ⟨n2, e2, w2⟩ := int_at Tryz.underlying2 g2
  have c2 := (one_of e2)
  have hcs : cs = [.int .u8 (k0 : Int), .string s1, .int .i64 (n2 : Int)] := list_ext (by rw [hn]; rfl) (fun j v hj => by
    have hjl : j < 3 := (List.getElem?_eq_some_iff.1 hj).1
    match j, hjl with
    | 0, _ => cases hj; exact c0
    | 1, _ => cases hj; exact c1
    | 2, _ => cases hj; exact c2
    )
  exact ⟨⟨k0, s1.data.toList, n2⟩, hcs, q0, i64_of w2, by show s1.data.toList.length ≤ _; rw [size_of]; omega⟩
theorem sl24 : ReadsAs (fun K W cs x => ∃ v, cs = [v] ∧ ListIs rStpW 3 32 K W v x) 24 1 := reads_slice Tryz.underlying24 (by kernel_rfl) (by kernel_rfl) (by omega) reads_stp
theorem reads_itm : ReadsAs rItmW 43 2 := fun H enc W fuel cs x h hl hn => by
  obtain ⟨m0, y0, g0, l0⟩ := fld_at Tryz.underlying43 h hl 0 _ rfl 41 1 rfl 0 rfl (by kernel_rfl)
  obtain ⟨n0, e0, w0⟩ := int_at Tryz.underlying41 g0
  obtain ⟨k0, rfl, q0⟩ := u8_of w0
  have c0 := (one_of e0)
  obtain ⟨m1, y1, g1, l1⟩ := fld_at Tryz.underlying43 h hl 1 _ rfl 24 1 rfl 1 rfl (by kernel_rfl)
  obtain ⟨z1, v1, e1, w1⟩ := sl24 _ _ _ _ _ _ g1 l1 (len_in (by omega))
  have c1 := (one_of e1)
  have hcs : cs = [.int .u8 (k0 : Int), v1] := list_ext (by rw [hn]; rfl) (fun j v hj => by
    have hjl : j < 2 := (List.getElem?_eq_some_iff.1 hj).1
    match j, hjl with
    | 0, _ => cases hj; exact c0
    | 1, _ => cases hj; exact c1
    )
  exact ⟨⟨k0, z1⟩, v1, hcs, w1, q0⟩
theorem sl23 : ReadsAs (fun K W cs x => ∃ v, cs = [v] ∧ ListIs rItmW 2 32 K W v x) 23 1 := reads_slice Tryz.underlying23 (by kernel_rfl) (by kernel_rfl) (by omega) reads_itm
theorem reads_str : ReadsAs rStrW 9 1 := fun H enc W fuel cs x h hl hn => by
  obtain ⟨s, e, w⟩ := text_at Tryz.underlying9 h hl
  exact ⟨s.data.toList, e, by show s.data.toList.length ≤ _; rw [size_of]; omega⟩
theorem sl25 : ReadsAs (fun K W cs x => ∃ v, cs = [v] ∧ ListIs rStrW 1 16 K W v x) 25 1 := reads_slice Tryz.underlying25 (by kernel_rfl) (by kernel_rfl) (by omega) reads_str
/-- A query, of any size. -/
theorem reads_qry {H : Type} {enc : TypeId × Value → H} {W : World} {fuel : Nat} {cs : List Value} {x : DataW H × List MemPlace} (h : DataW.trod enc Tryz.prog W 0 (fun _ => true) true fuel 27 cs = some x) (hl : Lim 27 x.1) (hn : cs.length = 7) : ∃ (q : Qry) (pi pw pg : Option Addr) (ci cw cg : Nat), cs = (q.cl (.slice pi q.i.length ci) (.slice pw q.w.length cw) (.slice pg q.g.length cg)).toList ∧ QLsW (fun b => b < W.heap.size) W pi pw pg ci cw cg q := by
  obtain ⟨m0, y0, g0, l0⟩ := fld_at Tryz.underlying27 h hl 0 _ rfl 23 1 rfl 0 rfl (by kernel_rfl)
  obtain ⟨z0, v0, e0, w0⟩ := sl23 _ _ _ _ _ _ g0 l0 (len_in (by omega))
  obtain ⟨m1, y1, g1, l1⟩ := fld_at Tryz.underlying27 h hl 1 _ rfl 9 1 rfl 1 rfl (by kernel_rfl)
  obtain ⟨s1, e1, w1⟩ := text_at Tryz.underlying9 g1 l1
  obtain ⟨m2, y2, g2, l2⟩ := fld_at Tryz.underlying27 h hl 2 _ rfl 9 1 rfl 2 rfl (by kernel_rfl)
  obtain ⟨s2, e2, w2⟩ := text_at Tryz.underlying9 g2 l2
  obtain ⟨m3, y3, g3, l3⟩ := fld_at Tryz.underlying27 h hl 3 _ rfl 9 1 rfl 3 rfl (by kernel_rfl)
  obtain ⟨s3, e3, w3⟩ := text_at Tryz.underlying9 g3 l3
  obtain ⟨m4, y4, g4, l4⟩ := fld_at Tryz.underlying27 h hl 4 _ rfl 9 1 rfl 4 rfl (by kernel_rfl)
  obtain ⟨s4, e4, w4⟩ := text_at Tryz.underlying9 g4 l4
  obtain ⟨m5, y5, g5, l5⟩ := fld_at Tryz.underlying27 h hl 5 _ rfl 24 1 rfl 5 rfl (by kernel_rfl)
  obtain ⟨z5, v5, e5, w5⟩ := sl24 _ _ _ _ _ _ g5 l5 (len_in (by omega))
  obtain ⟨m6, y6, g6, l6⟩ := fld_at Tryz.underlying27 h hl 6 _ rfl 25 1 rfl 6 rfl (by kernel_rfl)
  obtain ⟨z6, v6, e6, w6⟩ := sl25 _ _ _ _ _ _ g6 l6 (len_in (by omega))
  obtain ⟨pi, ci, rfl, i1, i2⟩ := w0
  obtain ⟨pw, cw, rfl, j1, j2⟩ := w5
  obtain ⟨pg, cg, rfl, k1, k2⟩ := w6
  have c0 := one_of e0
  have c1 := one_of e1
  have c2 := one_of e2
  have c3 := one_of e3
  have c4 := one_of e4
  have c5 := one_of e5
  have c6 := one_of e6
  refine ⟨⟨z0, s1.data.toList, s2.data.toList, s3.data.toList, s4.data.toList, z5, z6⟩, pi, pw, pg, ci, cw, cg, ?_, ⟨⟨_, _, rfl, i1, i2⟩, ⟨_, _, rfl, j1, j2⟩, ⟨_, _, rfl, k1, k2⟩, ?_, ?_, ?_, ?_⟩⟩
  · refine list_ext (by rw [hn]; rfl) (fun j v hj => ?_)
    have hjl : j < 7 := (List.getElem?_eq_some_iff.1 hj).1
    match j, hjl with
    | 0, _ => cases hj; exact c0
    | 1, _ => cases hj; exact c1
    | 2, _ => cases hj; exact c2
    | 3, _ => cases hj; exact c3
    | 4, _ => cases hj; exact c4
    | 5, _ => cases hj; exact c5
    | 6, _ => cases hj; exact c6
  · show s1.data.toList.length ≤ _; rw [size_of]; omega
  · show s2.data.toList.length ≤ _; rw [size_of]; omega
  · show s3.data.toList.length ≤ _; rw [size_of]; omega
  · show s4.data.toList.length ≤ _; rw [size_of]; omega
end Go.Proofs.YthpcpaggbhgcoaaGreatDoor.Ag
/- What the listed variables give the walks. -/
namespace Go.Proofs.YthpcpaggbhgcoaaGreatDoor
open Go.RowKit Go.Lib
theorem own : ownKnob Tryz.prog.godebug = none := by kernel_rfl
def bruTab : List Int := [0, 1, 56, 2, 57, 49, 28, 3, 61, 58, 42, 50, 38, 29, 17, 4, 62, 47, 59, 36, 45, 43, 51, 22, 53, 39, 33, 30, 24, 18, 12, 5, 63, 55, 48, 27, 60, 41, 37, 16, 46, 35, 44, 21, 52, 32, 23, 11, 54, 26, 40, 15, 34, 20, 31, 10, 25, 14, 19, 9, 13, 8, 7, 6]
theorem bru_eq : (Rows.laid_math_bits_deBruijn64tab : DataW Unit) = Lib.tabData .u8 bruTab := by kernel_rfl
theorem pow_eq : (Rows.laid_internal_strconv_uint64pow10 : DataW Unit) = Lib.tabData .u64 Lib.pow10Tab := by kernel_rfl
theorem accept_eq : (Rows.laid_unicode_utf8_acceptRanges : DataW Unit) = Lib.acceptData := by kernel_rfl
/-- A table of pairs of a text and a number, as a row lists it. -/
def pairData (l : List (List UInt8 × Nat)) : DataW Unit := .agg (l.map fun x => .agg [.lit (.string x.1), .lit (.int .u8 (x.2 : Int))])
theorem words_eq : (Rows.laid_potsherd_parse_words : DataW Unit) = pairData wordsP := by kernel_rfl
theorem aggs_eq : (Rows.laid_potsherd_parse_aggregates : DataW Unit) = pairData aggsP := by kernel_rfl
theorem flat_pair {α : Type} (a b : α → Value) : ∀ (l : List α) (i : Nat), (l.flatMap fun x => [a x, b x])[2 * i]? = l[i]?.map a ∧ (l.flatMap fun x => [a x, b x])[2 * i + 1]? = l[i]?.map b
  | [], i => by simp
  | x :: l, 0 => by simp
  | x :: l, i + 1 => by
    have := flat_pair a b l i
    simpa [List.flatMap_cons, Nat.mul_add] using this
/-- Such a table, cell for cell. -/
theorem pairs_reads {W : World} {name : String} {l : List (List UInt8 × Nat)} {g : Nat} {t e : TypeId} {n : Nat} {fs : Array Field} {f0 f1 : Field} (hl : l.length = n)
    (hg : Tryz.prog.globalNamed name = some g) (hty : (Tryz.prog.globals[g]?).map (·.type) = some t) (ht : Tryz.prog.underlying t = some (.array n e)) (he : Tryz.prog.underlying e = some (.struct fs)) (hce : Tryz.prog.cellsOf e = 2)
    (h0 : fs[0]? = some f0) (h1 : fs[1]? = some f1) (u0 : Tryz.prog.underlying f0.type = some .string) (u1 : Tryz.prog.underlying f1.type = some (.int .u8)) (o0 : f0.offset = 0) (o1 : f1.offset = 1) (c0 : Tryz.prog.cellsOf f0.type = 1) (c1 : Tryz.prog.cellsOf f1.type = 1)
    (h : VarReads Tryz.prog W name (pairData l)) : W.rangeAt g 0 (l.flatMap fun x => [.string ⟨x.1.toArray⟩, .int .u8 (x.2 : Int)]) := by
  obtain ⟨g', t', cs, fuel, p, hg', ht', hvar, hd⟩ := h
  obtain rfl := Option.some.inj (hg.symm.trans hg')
  obtain rfl := Option.some.inj (hty.symm.trans ht')
  have hc := World.var?_cell hg hvar
  have key : ∀ (i : Nat) (x : List UInt8 × Nat), l[i]? = some x → cs[2 * i]? = some (.string ⟨x.1.toArray⟩) ∧ cs[2 * i + 1]? = some (.int .u8 (x.2 : Int)) := by
    intro i x hx
    have hi : i < n := by rw [← hl]; exact (List.getElem?_eq_some_iff.1 hx).1
    obtain ⟨fuel', d, q, hdd, hf⟩ := array_elem ht hd i hi
    rw [List.getElem?_map, hx] at hdd
    obtain rfl := Option.some.inj hdd
    rw [hce] at hf
    obtain ⟨xs, m, -, hxx, -, -, hall⟩ := DataW.trod_struct he hf
    have hxs : xs.map (·.1) = [.lit (.string x.1), .lit (.int .u8 (x.2 : Int))] := by
      have := congrArg Prod.fst hxx
      simpa using this.symm
    match xs, hxs with
    | [y0, y1], hxs =>
      simp only [List.map_cons, List.map_nil, List.cons.injEq, and_true] at hxs
      have a0 : _ = some y0 := hall 0 f0 h0
      have a1 : _ = some y1 := hall 1 f1 h1
      rw [o0, c0] at a0
      rw [o1, c1] at a1
      obtain ⟨s, hs, e0, -⟩ := DataW.trod_string u0 a0
      obtain ⟨k, hk, e1, -⟩ := DataW.trod_int u1 a1
      rw [e0, e1] at hxs
      simp only [DataW.lit.injEq, Lit.string.injEq, Lit.int.injEq, true_and] at hxs
      have b0 := congrArg (·[0]?) hs
      have b1 := congrArg (·[0]?) hk
      have es : (⟨x.1.toArray⟩ : ByteArray) = s := by rw [← hxs.1]
      refine ⟨?_, ?_⟩
      · rw [es]; simpa [List.getElem?_take, List.getElem?_drop, Nat.mul_comm] using b0
      · rw [← hxs.2]; simpa [List.getElem?_take, List.getElem?_drop, Nat.mul_comm] using b1
    | [], hxs => simp at hxs
    | [_], hxs => simp at hxs
    | _ :: _ :: _ :: _, hxs => simp at hxs
  intro j u hu
  show W.cell? ⟨g, 0 + j, none⟩ = some u
  rw [Nat.zero_add, hc j]
  have hf := flat_pair (fun x : List UInt8 × Nat => Value.string ⟨x.1.toArray⟩) (fun x => Value.int .u8 (x.2 : Int)) l (j / 2)
  rcases Nat.mod_two_eq_zero_or_one j with hj | hj
  · have ej : 2 * (j / 2) = j := by omega
    rw [ej, hu] at hf
    obtain ⟨x, hx, rfl⟩ := Option.map_eq_some_iff.1 hf.1.symm
    have := (key _ x hx).1
    rwa [ej] at this
  · have ej : 2 * (j / 2) + 1 = j := by omega
    rw [ej, hu] at hf
    obtain ⟨x, hx, rfl⟩ := Option.map_eq_some_iff.1 hf.2.symm
    have := (key _ x hx).2
    rwa [ej] at this
theorem tab_reads {W : World} {name : String} {k : IntKind} {zs : List Int} {g : Nat} {t e : TypeId} {n : Nat}
    (hg : Tryz.prog.globalNamed name = some g) (hty : (Tryz.prog.globals[g]?).map (·.type) = some t) (ht : Tryz.prog.underlying t = some (.array n e)) (he : Tryz.prog.underlying e = some (.int k)) (hce : Tryz.prog.cellsOf e = 1) (hct : Tryz.prog.cellsOf t = n)
    (h : VarReads Tryz.prog W name (tabData k zs)) : TabIs Tryz.prog W name k zs := by
  obtain ⟨g', t', cs, fuel, p, hg', ht', hvar, hd⟩ := h
  obtain rfl := Option.some.inj (hg.symm.trans hg')
  obtain rfl := Option.some.inj (hty.symm.trans ht')
  unfold TabIs
  rw [hvar, ← cells_of_tab ht he hce hct hd]
theorem iface_reads {W : World} {name nm : String} {d : DataW Unit} {g : Nat} (hg : Tryz.prog.globalNamed name = some g) (hty : (Tryz.prog.globals[g]?).map (·.type) = some 74)
    (h : VarReads Tryz.prog W name (.iface nm d)) : ∃ te pe, W.cell? ⟨g, 0, none⟩ = some (.iface te pe) := by
  obtain ⟨g', t', cs, fuel, p, hg', ht', hvar, hd⟩ := h
  obtain rfl := Option.some.inj (hg.symm.trans hg')
  obtain rfl := Option.some.inj (hty.symm.trans ht')
  have hc := World.var?_cell hg hvar 0
  cases fuel with
  | zero => simp [DataW.trod] at hd
  | succ fuel =>
    simp only [DataW.trod, Tryz.underlying74] at hd
    obtain ⟨l⟩ := cs
    match l, hd, hc with
    | [], hd, hc => simp at hd
    | [x], hd, hc =>
      cases x with
      | iface u v => exact ⟨u, v, by rw [hc]; rfl⟩
      | _ => simp at hd
    | x :: y :: r, hd, hc => simp at hd
set_option maxRecDepth 100000 in
theorem ga_of {W : World} {l : List (String × DataW Unit)} (hm : laidMet Tryz.prog l W) (hsh : W.ShapedOpen Tryz.prog)
    (h1 : ("internal/strconv.uint64pow10", Rows.laid_internal_strconv_uint64pow10) ∈ l) (h2 : ("strconv.ErrSyntax", Rows.laid_strconv_ErrSyntax) ∈ l) (h3 : ("strconv.ErrRange", Rows.laid_strconv_ErrRange) ∈ l) (h4 : ("math/bits.deBruijn64tab", Rows.laid_math_bits_deBruijn64tab) ∈ l)
    (h5 : ("unicode/utf8.acceptRanges", Rows.laid_unicode_utf8_acceptRanges) ∈ l) (h6 : ("potsherd/parse.words", Rows.laid_potsherd_parse_words) ∈ l) (h7 : ("potsherd/parse.aggregates", Rows.laid_potsherd_parse_aggregates) ∈ l) (h8 : ("unicode/utf8.first", Rows.laid_unicode_utf8_first) ∈ l) : GA W := by
  have r1 := laidMet.reads hm h1
  have r2 := laidMet.reads hm h2
  have r3 := laidMet.reads hm h3
  have r4 := laidMet.reads hm h4
  have r5 := laidMet.reads hm h5
  have r6 := laidMet.reads hm h6
  have r7 := laidMet.reads hm h7
  have r8 := laidMet.reads hm h8
  rw [pow_eq] at r1
  rw [bru_eq] at r4
  rw [accept_eq] at r5
  rw [words_eq] at r6
  rw [aggs_eq] at r7
  rw [show Rows.laid_unicode_utf8_first = Lib.firstData from Pinned.utf8First_eq] at r8
  have t1 := tab_reads (g := 7) (by kernel_rfl) (by kernel_rfl) Tryz.underlying181 Tryz.underlying131 (by kernel_rfl) (by kernel_rfl) r1
  have t4 := tab_reads (g := 9) (by kernel_rfl) (by kernel_rfl) Tryz.underlying190 Tryz.underlying5 (by kernel_rfl) (by kernel_rfl) r4
  have t6 := pairs_reads (l := wordsP) (g := 2) rfl (by kernel_rfl) (by kernel_rfl) Tryz.underlying127 Tryz.underlying126 (by kernel_rfl) rfl rfl Tryz.underlying9 (by kernel_rfl) rfl rfl (by kernel_rfl) (by kernel_rfl) r6
  have t7 := pairs_reads (l := aggsP) (g := 3) rfl (by kernel_rfl) (by kernel_rfl) Tryz.underlying130 Tryz.underlying129 (by kernel_rfl) rfl rfl Tryz.underlying9 (by kernel_rfl) rfl rfl (by kernel_rfl) (by kernel_rfl) r7
  have t8 := utf8Tabs_of_readsT (ρ := Tryz.laysValid_ren) (U8Types.of196 Tryz.laysValid) ⟨by kernel_rfl, by kernel_rfl, by kernel_rfl, by kernel_rfl, by kernel_rfl, by kernel_rfl, by kernel_rfl⟩ r8 r5
  have c9 := TabIs.cell (g := 9) t4 (by kernel_rfl) 15 (by decide)
  have hb := World.block_lt_of_cell? W _ c9
  exact ⟨⟨⟨t1, iface_reads (g := 5) (by kernel_rfl) (by kernel_rfl) r2, iface_reads (g := 6) (by kernel_rfl) (by kernel_rfl) r3⟩, c9⟩, ⟨⟨t6, t7⟩, t8, cell_of_shapedOpen_int hsh (t := 3) (zero := #[.int .i64 0]) (of_decide_eq_true (by kernel_rfl)) (by kernel_rfl) rfl (by kernel_rfl) (by kernel_rfl) (by kernel_rfl)⟩, by show 10 ≤ W.heap.size; exact hb⟩
end Go.Proofs.YthpcpaggbhgcoaaGreatDoor
/-
  The law ParseClauses answers true for every query, and the query reads behind the call as it read before: the clauses of a right query, printed one by one, are no query when they stand in another order, or twice.
  Condition: the listed tables of utf8, strconv, math/bits and parse hold what the program text lays (the card ties that).
-/
namespace Go.Proofs.YthpcpaggbhgcoaaGreatDoor
open Go.ChangeShapes Go.WideShapes Go.ChangeAt Go.RowKit Go.Joins
open Go.ChangeMaps (open_string shut_string)

/-- The wrap that keeps both the world's shape and what the listed variables hold. -/
theorem handed_laid_shaped {H : Type} {enc : TypeId × Value → H} {a : Assume} {C : Checked} {os : Os} {f : FuncId} {fn : Func} {s : ChangeSpec} {conds : List PathCond} {apart fresh handsOn again : Bool} {X : World → Array Value → Prop}
    (hX : ∀ (w w' : World) (args : Array Value), w.heap = w'.heap → X w args → X w' args)
    (own : ownKnob C.prog.godebug = none) (started : os.Started) (noInit : C.prog.inits.idxOf? f = none) (hfn : C.prog.funcs[f]? = some fn)
    (witness : ∃ (w : World) (tape : Tape) (i : Input), w.os = os ∧ (w.forCall tape i).Shaped C.prog ∧ i.vars = [] ∧ Input.okWide C.prog (w.forCall tape i) .any w.heap.size f i ∧
      ((s.pre enc C.prog fn conds apart (w.forCall tape i).memory i.args ∧ X (w.forCall tape i).memory i.args) ∧ sizedMet enc C.prog fn (OpenSpec.ofChange s) apart (w.forCall tape i).memory i.args) ∧ a.holds C.prog (lone (Frame.enter C.prog f i.args .normal) [] (w.forCall tape i)))
    (contract : ∀ (W : World) (base : Nat) (args : Array Value) (ds gs : List (DataW H)) (before : List MemPlace),
      (∀ (j : Nat) t v, fn.params[j]? = some t → args[j]? = some v → Value.okWide C.prog W .any base t v) →
      DataW.Whole enc C.prog fn.params.toList s.vars apart W args.toList ds gs before →
      (DataW.weightsEach C.prog (fn.params.toList ++ s.plain.varTypes C.prog) (ds ++ gs)).all (· ≤ reachBytes) = true → X W args → W.ShapedOpen C.prog →
      Calls C.prog f args W fun e W' => ∃ v, e = .returned v ∧ s.post enc C.prog fn apart fresh handsOn again W args v W') :
    ReturnsInHanded a C os f .any (fun w args => (s.pre enc C.prog fn conds apart w args ∧ X w args) ∧ sizedMet enc C.prog fn (OpenSpec.ofChange s) apart w args) (s.post enc C.prog fn apart fresh handsOn again) := by
  refine returnsInHanded_of_calls own started noInit witness ?_
  intro w tape i _ hsh _ hok hpre hholds
  obtain ⟨_, _, _, fn', hfn', _, _, _, _, hval⟩ := hok
  have e : fn' = fn := Option.some.inj (hfn'.symm.trans hfn)
  subst e
  obtain ⟨⟨⟨ds, gs, before, hw, hc⟩, hx⟩, hz⟩ := hpre
  have hw' := DataW.Whole.of_heap (w' := w.forCall tape i) (by rfl) hw
  refine (contract (w.forCall tape i) w.heap.size i.args ds gs before hval hw' (hz.weights hw) (hX _ _ _ (by rfl) hx) hsh).mono fun e W' ⟨v, he, hp⟩ => ?_
  subst he
  exact ChangeSpec.post_blind hp


theorem laidOut : laidOutB Tryz.prog = true := by kernel_rfl
set_option maxRecDepth 100000 in
theorem clauses_lifted (os : Os) (started : os.Started) (H : Type) (enc : TypeId × Value → H) :
    ReturnsInHanded {} Tryz.checked os 4 .any (fun w args => (Rows.parseClausesSpec.pre enc Tryz.prog Tryz.f4 Rows.parseClausesRow.domain false w args ∧ laidMetH Tryz.prog Rows.parseClausesRow.laid w) ∧ sizedMet enc Tryz.prog Tryz.f4 (OpenSpec.ofChange Rows.parseClausesSpec) false w args)
      (Rows.parseClausesSpec.post enc Tryz.prog Tryz.f4 false true false false) := by
  refine handed_laid_shaped (C := Tryz.checked) (X := fun w _ => laidMetH Tryz.prog Rows.parseClausesRow.laid w) (fun _ _ _ hh h => h.of_heap hh) own started (by kernel_rfl) Tryz.func4
    (ChangeSpec.witness_shaped (enc := enc) (C := Tryz.checked) (os := os) (X := fun w _ => laidMetH Tryz.prog Rows.parseClausesRow.laid w) false (World.laidAll Tryz.prog os Rows.parseClausesRow.laid) #[.agg #[.slice none 0 0, .string ⟨#[]⟩, .string ⟨#[]⟩, .string ⟨#[]⟩, .string ⟨#[]⟩, .slice none 0 0, .slice none 0 0]] 8 (World.laidAll_os _ _ _)
      (World.shaped_of_ZipB (by kernel_rfl) (by kernel_rfl)) (by kernel_rfl) (by kernel_rfl) (by kernel_rfl)
      (by rw [MakeChecks.laidMetH_plain _ _ _ (by kernel_rfl)]; exact laidMet_laidAll _ (by kernel_rfl) (by kernel_rfl))) ?_
  intro W base args ds gs before hval0 hW hsz0 hL hsh
  have hval : ∀ (j : Nat) t v, Tryz.f4.params[j]? = some t → args[j]? = some v → Value.okWide Tryz.prog W .any base t v := hval0
  have hW' := hW
  obtain ⟨p, q, hA0, hV, rfl, _, _⟩ := hW
  have hA : DataW.TrodAll enc Tryz.prog W 0 (fun _ => true) true Tryz.f4.params.toList args.toList ds p := hA0
  have hsz := hsz0
  rw [Tryz.params4] at hA hval hsz
  obtain ⟨v0, d0, rfl, rfl, h0⟩ := trodAll_one hA
  obtain ⟨rfl, rfl⟩ := trodVars_none hV
  obtain ⟨cs, rfl, hcs⟩ := okWide_struct Tryz.underlying27 (hval 0 27 v0 rfl rfl)
  rw [show Tryz.prog.cellsOf 27 = 7 by kernel_rfl] at hcs
  clear hA0 hval0 hsz0
  simp only [List.append_nil] at hW'
  have hlt : ∀ x ∈ p, x.block < W.heap.size := fun x hx => by simpa using hW'.lt x hx
  obtain ⟨fu, hfu⟩ := id h0
  have hcl : cs.toList.length = 7 := by simpa using hcs
  have hlim : Ag.Lim 27 d0 := fun k hk => by
    have := List.all_eq_true.1 hsz k (DataW.weights_mem_each (j := 0) rfl rfl k hk)
    simpa using this
  obtain ⟨qq, pi, pw, pg, ci, cw, cg, hce, hls⟩ := Ag.reads_qry (x := (d0, p)) hfu hlim hcl
  have hce2 : cs = qq.cl (.slice pi qq.i.length ci) (.slice pw qq.w.length cw) (.slice pg qq.g.length cg) := Array.ext' hce
  have core := clauses_walk pi pw pg ci cw cg qq W hls (ga_of (l := Rows.parseClausesRow.laid) (by have h := hL; rw [MakeChecks.laidMetH_plain _ _ _ (by kernel_rfl)] at h; exact h) hsh (.tail _ (.tail _ (.head _))) (.tail _ (.tail _ (.tail _ (.tail _ (.tail _ (.head _)))))) (.tail _ (.tail _ (.tail _ (.tail _ (.head _))))) (.tail _ (.head _))
    (.tail _ (.tail _ (.tail _ (.head _)))) (.tail _ (.tail _ (.tail _ (.tail _ (.tail _ (.tail _ (.head _))))))) (.tail _ (.tail _ (.tail _ (.tail _ (.tail _ (.tail _ (.tail _ (.head _)))))))) (.tail _ (.tail _ (.tail _ (.tail _ (.tail _ (.tail _ (.tail _ (.tail _ (.head _))))))))))
  rw [← hce2] at core
  refine core.mono ?_
  rintro e W' ⟨rfl, bel⟩
  refine ⟨_, rfl, _, _, _, [], p, [], hW', ?_, ?_, ?_, bel.frame _, fun h => by cases h⟩
  · exact trodAll_mk1 (shut_bool Tryz.underlying4 _)
  · exact trodAll_mk1 (Below.trod laidOut (by kernel_rfl) (of_decide_eq_true (by kernel_rfl)) h0 bel (fun x hx => hlt x hx))
  · rfl

theorem clauses_holds : Rows.ParseClausesSaid :=
  OpenClaim.holds_of_wide 4 Tryz.f4 rfl rfl rfl rfl rfl rfl rfl ⟨rfl, rfl, rfl, rfl, rfl⟩ rfl rfl rfl rfl rfl (by kernel_rfl) Tryz.func4 (by kernel_rfl)
    (of_decide_eq_true (by kernel_rfl)) (by unfold Func.isWrapper; first | (rw [if_pos (by decide +kernel)]; kernel_rfl) | (rw [if_neg (by decide +kernel)]; exact ⟨rfl, rfl⟩))
    (fun os started H enc _ => clauses_lifted os started H enc)
theorem clauses_card : Rows.ParseClausesCardSaid :=
  Claim7.holds_tied_plain_at .later [] _ _ _ _ clauses_holds (fun _ h => by cases h) (by kernel_rfl) (fun _ h => by cases h) parseClauses_row_tie rfl ⟨rfl, rfl⟩ (by kernel_rfl) rfl
    (fun f fn hf hfn => by
      obtain rfl : f = 4 := Option.some.inj ((show Tryz.prog.funcNamed "potsherd/potsherdlaw03.ParseClauses" = some 4 by kernel_rfl).symm.trans hf) |>.symm
      obtain rfl : fn = Tryz.f4 := (Option.some.inj (Tryz.func4.symm.trans hfn)).symm
      exact ⟨by kernel_rfl, fun j t ht => by
        rw [Tryz.params4] at ht
        have hm : t ∈ [27] := by simpa using Array.mem_of_getElem? ht
        have hall : ([27].all fun u => !Tryz.prog.wantsStandIn u) = true := by kernel_rfl
        exact (show Tryz.prog.wantsStandIn t = false by simpa using List.all_eq_true.1 hall t hm)⟩)
    (by kernel_rfl)
#print axioms clauses_card
end Go.Proofs.YthpcpaggbhgcoaaGreatDoor

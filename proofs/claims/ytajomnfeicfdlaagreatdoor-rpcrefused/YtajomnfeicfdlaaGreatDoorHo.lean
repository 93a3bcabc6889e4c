/- What Answer answers. -/
import Derived.Test.YtajomnfeicfdlaaGreatDoorHkHlHmHn
namespace Go.Proofs.YtajomnfeicfdlaaGreatDoor
open Go.Shelf Go.RowKit Go.Lib
set_option linter.unusedVariables false
set_option linter.unusedSimpArgs false
attribute [local go_sem ↓] Go.wp_at_zero Go.wp_at_succ
theorem enters32 : ∀ args w, (callFunc 32 args).run Tryz.prog w = .ok (.enter 32 args) w := enters_of Tryz.func32 (by kernel_rfl) rfl
/-- Whether one that was asked is answered. -/
def ansP (fr : Int) (ft : Int × Mg → Bool) (x : Int × Mg) : Bool := decide (x.1 = fr) && ft x
set_option maxRecDepth 100000 in
set_option maxHeartbeats 4000000 in
theorem answer1_any (b1 b2 : Nat) (fr : Int) (ft : Int × Mg → Bool) (cm : List Value) (x : Int × Mg) (cl : List Value) (w : World) (hf1 : w.cell? ⟨b1, 0, none⟩ = some (.int .i64 fr)) (hf2 : w.rangeAt b2 0 cm) (hl1 : b1 < w.heap.size) (hl2 : b2 < w.heap.size) (hlm : cm.length = 47) (hln : cl.length = 47)
  (hF : x.1 = fr → ∀ W, Below w.heap.size w W → Calls Tryz.prog 33 #[.agg cm.toArray, .agg cl.toArray] W fun e w' => e = .returned (.bool (ft x)) ∧ Below W.heap.size W w') :
  Calls Tryz.prog 32 #[.agg (.int .i64 x.1 :: cl).toArray, .pointer (some ⟨b1, 0, none⟩), .pointer (some ⟨b2, 0, none⟩)] w fun e w' => e = .returned (.bool (ansP fr ft x)) ∧ Below w.heap.size w w' := by
 obtain ⟨W0, hW0⟩ : ∃ W0, w.alloc (.cells (Value.int .i64 x.1 :: cl).toArray 73) = W0 := ⟨_, rfl⟩
 have hb0 : Below w.heap.size w W0 := by rw [← hW0]; exact (Below.refl _ _).alloc (Nat.le_refl _) _
 have hg0 : W0.heap[w.heap.size]? = some (.cells (Value.int .i64 x.1 :: cl).toArray 73 (0, 0)) := by rw [← hW0]; exact heap_alloc_new w _
 have c0 : W0.cell? ⟨w.heap.size, 0, none⟩ = some (.int .i64 x.1) := cell_of_row hg0 (by simp)
 have c1 : W0.cell? ⟨b1, 0, none⟩ = some (.int .i64 fr) := (hb0.cell (p := ⟨b1, 0, none⟩) hl1).trans hf1
 have HR1 : Hid (W0.rangeAt w.heap.size 1 cl) := fun j u hj => by
  have := range_box hg0 (Below.refl _ _) (j + 1) u (by simpa using hj)
  rwa [show 0 + (j + 1) = 1 + j by omega] at this
 have HR2 : Hid (W0.rangeAt b2 0 cm) := range_of_block hf2 (hb0.block _ hl2)
 have I63 : Hid ((Tryz.prog.info? 63).map (·.size) = some cl.length) := by show _ = _; rw [hln]; exact size49
 have I63m : Hid ((Tryz.prog.info? 63).map (·.size) = some cm.length) := by show _ = _; rw [hlm]; exact size49
 have HB0 : Hid (Below w.heap.size w W0) := hb0
 by_cases hx : x.1 = fr
 ·have hq : ansP fr ft x = ft x := by unfold ansP; simp [hx]
  have C := hid (hF hx W0 hb0)
  rw [hq]
  subst hx
  clear hq hF hb0 hg0 hf1 hf2 hl1 hl2
  go_enter Tryz.func32, Tryz.ntmps32
  go_wp2_with (first | (refine wpList_load_midH rfl 63 _ rfl b2 0 rfl cm _ HR2.out Tryz.underlying63 rfl I63m.out ?_) | (refine wpList_load_midH rfl 63 _ rfl w.heap.size 1 rfl cl _ HR1.out Tryz.underlying63 rfl I63.out ?_))
  refine C.out.mono ?_
  rintro e w1 ⟨rfl, hb1⟩
  have HB1 : Hid (Below w.heap.size w w1) := HB0.out.trans (hb1.mono HB0.out.size)
  clear hb1 C
  go_wp2_with fail
  go_ret
  exact ⟨rfl, HB1.out⟩
 ·have hq : ansP fr ft x = false := by unfold ansP; simp [hx]
  rw [hq]
  have hne : (x.1 == fr) = false := beq_eq_false_iff_ne.2 hx
  have hnd : decide (x.1 = fr) = false := by simp [hx]
  clear hq hF hb0 hg0 hf1 hf2 hl1 hl2
  go_enter Tryz.func32, Tryz.ntmps32
  go_wp2_with fail
  go_ret
  exact ⟨rfl, HB0.out⟩
set_option maxRecDepth 100000 in
set_option maxHeartbeats 4000000 in
theorem answer_any (v : Value) (fr : Int) (ft : Int × Mg → Bool) (cm : List Value) (xs : List (Int × Mg)) (K : Nat → Prop) (w : World) (h : ListIs rAsk 48 648 K w v xs) (hlm : cm.length = 47) (hK : ∀ b, K b → b < w.heap.size)
  (hF : ∀ W, Below w.heap.size w W → ∀ x ∈ xs, x.1 = fr → ∀ cl : List Value, cl.length = 47 → MsgIs K W cl.toArray x.2 → Calls Tryz.prog 33 #[.agg cm.toArray, .agg cl.toArray] W fun e w' => e = .returned (.bool (ft x)) ∧ Below W.heap.size W w') :
  Calls Tryz.prog 19 #[.agg #[v], .int .i64 fr, .agg cm.toArray] w fun e w' => ∃ q c, e = .returned (.tuple #[.agg #[.slice q (xs.filter (fun x => !ansP fr ft x)).length c], .bool (decide ((xs.filter (fun x => !ansP fr ft x)).length < xs.length))]) ∧ ListIs rAsk 48 648 (From w.heap.size w') w' (.slice q (xs.filter (fun x => !ansP fr ft x)).length c) (xs.filter (fun x => !ansP fr ft x)) ∧ Below w.heap.size w w' := by
 obtain ⟨W1, hW1, hb1, hs1, g0, g1, g2⟩ := three_boxes w #[v] #[.int .i64 fr] cm.toArray 38 3 63
 obtain ⟨W0, hW0⟩ : ∃ W0, W1.alloc (.cells #[.slice none 0 0] 38) = W0 := ⟨_, rfl⟩
 have hb10 : Below W1.heap.size W1 W0 := by rw [← hW0]; exact (Below.refl _ _).alloc (Nat.le_refl _) _
 have hb0 : Below w.heap.size w W0 := hb1.trans (hb10.mono hb1.size)
 have hg3 : W0.heap[W1.heap.size]? = some (.cells #[.slice none 0 0] 38 (0, 0)) := by
  rw [← hW0]; exact heap_alloc_new W1 _
 have hs0 : W0.heap.size = w.heap.size + 4 := by rw [← hW0]; simp; omega
 have k0 : W0.heap[w.heap.size]? = some (.cells #[v] 38 (0, 0)) := by rw [hb10.block _ (by omega)]; exact g0
 have k1 : W0.heap[w.heap.size + 1]? = some (.cells #[.int .i64 fr] 3 (0, 0)) := by rw [hb10.block _ (by omega)]; exact g1
 have k2 : W0.heap[w.heap.size + 1 + 1]? = some (.cells cm.toArray 63 (0, 0)) := by rw [hb10.block _ (by omega)]; exact g2
 have hK0 : ∀ b, K b → b < W0.heap.size := fun b hk => Nat.lt_of_lt_of_le (hK b hk) hb0.size
 have CW := hid (without_any #[.pointer (some ⟨w.heap.size + 1, 0, none⟩), .pointer (some ⟨w.heap.size + 1 + 1, 0, none⟩)] (ansP fr ft) 32 v xs K W0 (ListIs.later mAsk h hK hb0) hK0 enters32 (fun W hb x hx cl hl hm => by rw [cap2]; exact answer1_any (w.heap.size + 1) (w.heap.size + 1 + 1) fr ft cm x cl W ((hb.cell (p := ⟨w.heap.size + 1, 0, none⟩) (by show w.heap.size + 1 < _; omega)).trans (cell_of_row k1 rfl)) (range_box k2 hb) (by have := hb.size; omega) (by have := hb.size; omega) hlm hl (fun hxf W' hb' => hF W' (hb0.trans ((hb.trans (hb'.mono hb.size)).mono hb0.size)) x hx hxf cl hl (hm.keep (fun _ h => h) (kept_of (fun b hk => Nat.lt_of_lt_of_le (hK0 b hk) hb.size) hb')))))
 have HV : Hid (∀ V, Below W0.heap.size W0 V → V.cell? ⟨w.heap.size, 0, none⟩ = some v ∧ V.heap[W1.heap.size]? = some (.cells #[.slice none 0 0] 38 (0, 0)) ∧ Below w.heap.size w V) := fun V hb => ⟨(hb.cell (p := ⟨w.heap.size, 0, none⟩) (by show w.heap.size < _; omega)).trans (cell_of_row k0 rfl), by rw [hb.block _ (by omega)]; exact hg3, hb0.trans (hb.mono hb0.size)⟩
 obtain ⟨ys, hys⟩ : ∃ ys, xs.filter (fun x => !ansP fr ft x) = ys := ⟨_, rfl⟩
 obtain ⟨q0, c0, rfl, hby, _⟩ := id h
 have HYL : Hid (ys.length ≤ xs.length ∧ xs.length * 648 ≤ 140737488355328) := ⟨by rw [← hys]; exact List.length_filter_le _ _, hby⟩
 rw [hys] at CW ⊢
 have r0 := cell_of_row (k := 0) k0 rfl
 have HS0 : Hid (W0.heap.size = w.heap.size + 4) := hs0
 have HS1 : Hid (W1.heap.size = w.heap.size + 3) := hs1
 have hx63 : xs.length ≤ 140737488355328 := by omega
 have hy63 : ys.length ≤ 140737488355328 := by have := HYL.out.1; omega
 clear h hK hK0 hF hb1 hb10 hb0 g0 g1 g2 hg3 hs0 hs1 k0 k1 k2 hys hlm hby
 go_enter Tryz.func19, Tryz.ntmps19
 go_wp2_with fail
 refine CW.out.mono ?_
 rintro e w1 ⟨q, c, rfl, ho1, hb1⟩
 obtain ⟨w2, hw2⟩ : ∃ w2, w1.alloc (.cells #[.slice q ys.length c] 38) = w2 := ⟨_, rfl⟩
 have hg2 : w2.heap[w1.heap.size]? = some (.cells #[.slice q ys.length c] 38 (0, 0)) := by rw [← hw2]; exact heap_alloc_new w1 _
 have hb12 : Below w1.heap.size w1 w2 := by rw [← hw2]; exact (Below.refl _ _).alloc (Nat.le_refl _) _
 have hb2 : Below W0.heap.size W0 w2 := hb1.trans (hb12.mono hb1.size)
 obtain ⟨x1, x3, x4⟩ := HV.out w2 hb2
 obtain ⟨q', c', hq', hl3⟩ := (ho1.keep mAsk hb12).list mAsk (bytes := 648) (by have := HYL.out; omega)
 rw [← hq'] at hl3
 have hs0 := HS0.out
 have hs1 := HS1.out
 obtain ⟨a1, a2, a3, a4, a5⟩ := setCell_any w2 (W1.heap.size) 0 (.slice q ys.length c)
 have hgY : (w2.setCell ⟨W1.heap.size, 0, none⟩ (.slice q ys.length c)).heap[W1.heap.size]? = some (.cells #[.slice q ys.length c] 38 (0, 0)) := by rw [setCell_eq_setRow w2 _ 0 _ 38 (0, 0) _ x3]; exact setRow_heap w2 _ _ _ 38 _ x3
 have hlY : ListIs rAsk 48 648 (From w.heap.size (w2.setCell ⟨W1.heap.size, 0, none⟩ (.slice q ys.length c))) (w2.setCell ⟨W1.heap.size, 0, none⟩ (.slice q ys.length c)) (.slice q ys.length c) ys := hl3.mono mAsk (fun b hb => ⟨by have := hb.1; omega, by rw [a1]; exact hb.2⟩) ⟨a2, a3, a4, by omega, fun b hb => a5 b (by have := hb.1; omega)⟩
 have hbY : Below w.heap.size w (w2.setCell ⟨W1.heap.size, 0, none⟩ (.slice q ys.length c)) := ⟨a2.trans x4.os, a3.trans x4.tape, a4.trans x4.output, by have := x4.size; omega, fun b hb => by rw [a5 b (by omega)]; exact x4.block b hb⟩
 have hlb : w1.heap.size ≠ W1.heap.size := by have := hb1.size; omega
 have g5 := cell_of_row (k := 0) hg2 rfl
 have g6 := cell_of_row (k := 0) x3 rfl
 have f6 := frozen_zero x3 0
 have g5' : w2.drew.cell? ⟨w1.heap.size, 0, none⟩ = some (.slice q ys.length c) := g5
 have g6' : w2.drew.cell? ⟨W1.heap.size, 0, none⟩ = some (.slice none 0 0) := g6
 have f6' : w2.drew.frozen? ⟨W1.heap.size, 0, none⟩ = false := f6
 have x1' : w2.drew.cell? ⟨w.heap.size, 0, none⟩ = some (.slice q0 xs.length c0) := x1
 have hn1 : W1.heap.size ≠ w1.heap.size := fun e => hlb e.symm
 have hn2 : W1.heap.size ≠ w.heap.size := by omega
 have HF : Hid (ListIs rAsk 48 648 (From w.heap.size (w2.setCell ⟨W1.heap.size, 0, none⟩ (.slice q ys.length c)).drew) (w2.setCell ⟨W1.heap.size, 0, none⟩ (.slice q ys.length c)).drew (.slice q ys.length c) ys ∧ Below w.heap.size w (w2.setCell ⟨W1.heap.size, 0, none⟩ (.slice q ys.length c)).drew) := ⟨hlY.grow mAsk (Below.refl _ _).drew, hbY.drew⟩
 have d0 : (w2.setCell ⟨W1.heap.size, 0, none⟩ (.slice q ys.length c)).drew.cell? ⟨W1.heap.size, 0, none⟩ = some (.slice q ys.length c) := cell_of_row (k := 0) hgY rfl
 clear CW ho1 hb1 hg2 hb12 hb2 x3 x4 hq' hl3 hs0 hs1 a1 a2 a3 a4 a5 hgY hlY hbY r0
 go_wp2_with fail
 go_region_held3 (fun w' => w'.cell? ⟨w1.heap.size, 0, none⟩ = some (.slice q ys.length c) ∧ w'.cell? ⟨w.heap.size, 0, none⟩ = some (.slice q0 xs.length c0))
  (first | go_keep)
  (fail)
 all_goals (go_wp2_with fail)
 all_goals refine bodyPost_ret (v := .tuple #[.agg #[.slice q ys.length c], .bool (decide (ys.length < xs.length))]) (by simp [results, Tryz.results19, go_sem, d0]) rfl ?_
 all_goals exact ⟨_, _, rfl, HF.out⟩
end Go.Proofs.YtajomnfeicfdlaaGreatDoor

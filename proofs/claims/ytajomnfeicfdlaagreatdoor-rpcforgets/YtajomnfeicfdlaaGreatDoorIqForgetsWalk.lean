/- What Forget answers. -/
import Derived.Test.YtajomnfeicfdlaaGreatDoorSfIp
import Derived.Test.YtajomnfeicfdlaaGreatDoorIn
namespace Go.Proofs.YtajomnfeicfdlaaGreatDoor
open Go.Shelf Go.RowKit Go.Lib
set_option linter.unusedVariables false
set_option linter.unusedSimpArgs false
attribute [local go_sem ↓] Go.wp_at_zero Go.wp_at_succ
/-- Whether one that was asked is a start of a query. -/
def fgtP (q : Int × Int) (x : Int × Mg) : Bool := decide (x.2.k = 2) && decide (((x.2.st.qb : Int), (x.2.st.qn : Int)) = q)
theorem enters36 : ∀ args w, (callFunc 36 args).run Tryz.prog w = .ok (.enter 36 args) w := enters_of Tryz.func36 (by kernel_rfl) rfl
theorem query_cells {K : Nat → Prop} {W : World} {cl : List Value} {m : Mg} (h : MsgIs K W cl.toArray m) : cl[0]? = some (.int .u8 (m.k : Int)) ∧ cl[2]? = some (.int .u64 (m.st.qb : Int)) ∧ cl[3]? = some (.int .u64 (m.st.qn : Int)) := by
 obtain ⟨cs, _, h1, rfl, _⟩ := h.qr
 exact ⟨by simpa using h.kc, by simpa using h1 0 _ rfl, by simpa using h1 1 _ rfl⟩
set_option maxRecDepth 100000 in
set_option maxHeartbeats 4000000 in
theorem forget1_any (ba : Nat) (q : Int × Int) (x : Int × Mg) (cl : List Value) (K : Nat → Prop) (w : World) (hq : BoxQ w ba q) (hm : MsgIs K w cl.toArray x.2) :
  Calls Tryz.prog 36 #[.agg (.int .i64 x.1 :: cl).toArray, .pointer (some ⟨ba, 0, none⟩)] w fun e w' => e = .returned (.bool (fgtP q x)) ∧ Below w.heap.size w w' := by
 obtain ⟨W0, hW0⟩ : ∃ W0, w.alloc (.cells (Value.int .i64 x.1 :: cl).toArray 73) = W0 := ⟨_, rfl⟩
 have hb0 : Below w.heap.size w W0 := by rw [← hW0]; exact (Below.refl _ _).alloc (Nat.le_refl _) _
 have hg0 : W0.heap[w.heap.size]? = some (.cells (Value.int .i64 x.1 :: cl).toArray 73 (0, 0)) := by rw [← hW0]; exact heap_alloc_new w _
 obtain ⟨q1, q2, q3⟩ := query_cells hm
 have c1 : W0.cell? ⟨w.heap.size, 1, none⟩ = some (.int .u8 (x.2.k : Int)) := cell_of_row hg0 (by simpa using q1)
 have c3 : W0.cell? ⟨w.heap.size, 3, none⟩ = some (.int .u64 (x.2.st.qb : Int)) := cell_of_row hg0 (by simpa using q2)
 have c4 : W0.cell? ⟨w.heap.size, 4, none⟩ = some (.int .u64 (x.2.st.qn : Int)) := cell_of_row hg0 (by simpa using q3)
 have hqb := hq.below hq.lt hb0
 obtain ⟨y1, y2⟩ := q
 have d0 := hqb.c0
 have d1 := hqb.c1
 have HB0 : Hid (Below w.heap.size w W0) := hb0
 have EQ := eql_qid (x.2.st.qb : Int) (x.2.st.qn : Int) y1 y2
 obtain ⟨r, hr⟩ : ∃ r, decide (((x.2.st.qb : Int), (x.2.st.qn : Int)) = (y1, y2)) = r := ⟨_, rfl⟩
 rw [hr] at EQ
 simp only at d0 d1
 by_cases hk : x.2.k = 2
 ·have hp : fgtP (y1, y2) x = r := by unfold fgtP; rw [hr, decide_eq_true hk, Bool.true_and]
  have zk : ((x.2.k : Int) == 2) = true := by simp; omega
  rw [hp]
  clear hp hk hr hb0 hg0 hqb hq hm q1 q2 q3
  go_enter Tryz.func36, Tryz.ntmps36
  go_wp2_with fail
  go_ret
  exact ⟨rfl, HB0.out⟩
 ·have hp : fgtP (y1, y2) x = false := by unfold fgtP; rw [decide_eq_false hk, Bool.false_and]
  have zk : ((x.2.k : Int) == 2) = false := beq_eq_false_iff_ne.2 (by omega)
  rw [hp]
  clear hp hk hr hb0 hg0 hqb hq hm q1 q2 q3
  go_enter Tryz.func36, Tryz.ntmps36
  go_wp2_with fail
  go_ret
  exact ⟨rfl, HB0.out⟩
set_option maxRecDepth 100000 in
set_option maxHeartbeats 4000000 in
theorem forget_any (q : Int × Int) (v : Value) (xs : List (Int × Mg)) (K : Nat → Prop) (w : World) (h : ListIs rAsk 48 648 K w v xs) (hK : ∀ b, K b → b < w.heap.size) :
  Calls Tryz.prog 21 #[.agg #[v], .agg #[.int .u64 q.1, .int .u64 q.2]] w fun e w' => ∃ p c, e = .returned (.agg #[.slice p (xs.filter (fun x => !fgtP q x)).length c]) ∧ ListIs rAsk 48 648 (From w.heap.size w') w' (.slice p (xs.filter (fun x => !fgtP q x)).length c) (xs.filter (fun x => !fgtP q x)) ∧ Below w.heap.size w w' := by
 obtain ⟨W0, hW0, hb0, hs0, g0, g1, g2⟩ := three_boxes w #[v] #[.int .u64 q.1, .int .u64 q.2] #[.slice none 0 0] 38 27 38
 have hq0 : BoxQ W0 (w.heap.size + 1) q := g1
 have hK0 : ∀ b, K b → b < W0.heap.size := fun b hk => Nat.lt_of_lt_of_le (hK b hk) hb0.size
 have CW := hid (without_any #[.pointer (some ⟨w.heap.size + 1, 0, none⟩)] (fgtP q) 36 v xs K W0 (ListIs.later mAsk h hK hb0) hK0 enters36 (fun W hb x hx cl hl hm => by rw [cap1]; exact forget1_any (w.heap.size + 1) q x cl K W (hq0.below (by omega) hb) hm))
 obtain ⟨ys, hys⟩ : ∃ ys, xs.filter (fun x => !fgtP q x) = ys := ⟨_, rfl⟩
 obtain ⟨q0, c0, rfl, hby, _⟩ := id h
 have HYL : Hid (ys.length ≤ xs.length ∧ xs.length * 648 ≤ 140737488355328) := ⟨by rw [← hys]; exact List.length_filter_le _ _, hby⟩
 rw [hys] at CW ⊢
 have r0 := cell_of_row (k := 0) g0 rfl
 have HS0 : Hid (W0.heap.size = w.heap.size + 3) := hs0
 have HV : Hid (∀ V, Below W0.heap.size W0 V → V.heap[w.heap.size + 1 + 1]? = some (.cells #[.slice none 0 0] 38 (0, 0)) ∧ Below w.heap.size w V) := fun V hb => ⟨by rw [hb.block _ (by omega)]; exact g2, hb0.trans (hb.mono hb0.size)⟩
 clear h hK hK0 hb0 g0 g1 g2 hs0 hys hby hq0
 go_enter Tryz.func21, Tryz.ntmps21
 go_wp2_with fail
 refine CW.out.mono ?_
 rintro e w1 ⟨p, c, rfl, ho1, hb1⟩
 obtain ⟨x3, x4⟩ := HV.out w1 hb1
 obtain ⟨q', c', hq', hl3⟩ := ho1.list mAsk (bytes := 648) (by have := HYL.out; omega)
 rw [← hq'] at hl3
 have hs0 := HS0.out
 obtain ⟨a1, a2, a3, a4, a5⟩ := setCell_any w1 (w.heap.size + 1 + 1) 0 (.slice p ys.length c)
 have hgY : (w1.setCell ⟨w.heap.size + 1 + 1, 0, none⟩ (.slice p ys.length c)).heap[w.heap.size + 1 + 1]? = some (.cells #[.slice p ys.length c] 38 (0, 0)) := by rw [setCell_eq_setRow w1 _ 0 _ 38 (0, 0) _ x3]; exact setRow_heap w1 _ _ _ 38 _ x3
 have HF : Hid (ListIs rAsk 48 648 (From w.heap.size (w1.setCell ⟨w.heap.size + 1 + 1, 0, none⟩ (.slice p ys.length c))) (w1.setCell ⟨w.heap.size + 1 + 1, 0, none⟩ (.slice p ys.length c)) (.slice p ys.length c) ys ∧ Below w.heap.size w (w1.setCell ⟨w.heap.size + 1 + 1, 0, none⟩ (.slice p ys.length c))) :=
  ⟨hl3.mono mAsk (fun b hb => ⟨by have := hb.1; omega, by rw [a1]; exact hb.2⟩) ⟨a2, a3, a4, by omega, fun b hb => a5 b (by have := hb.1; omega)⟩, ⟨a2.trans x4.os, a3.trans x4.tape, a4.trans x4.output, by have := x4.size; omega, fun b hb => by rw [a5 b (by omega)]; exact x4.block b hb⟩⟩
 have g6 := cell_of_row (k := 0) x3 rfl
 have f6 := frozen_zero x3 0
 have d0 := cell_of_row (k := 0) hgY rfl
 clear CW ho1 hb1 x3 x4 hq' hl3 hs0 a1 a2 a3 a4 a5 hgY r0
 go_wp2_with fail
 refine bodyPost_ret (v := .agg #[.slice p ys.length c]) (by simp [results, Tryz.results21, go_sem, d0]) rfl ?_
 exact ⟨_, _, rfl, HF.out⟩
end Go.Proofs.YtajomnfeicfdlaaGreatDoor
/- The walk of RpcForgets. -/
namespace Go.Proofs.YtajomnfeicfdlaaGreatDoor
open Go.Shelf Go.RowKit Go.Lib
set_option linter.unusedVariables false
set_option linter.unusedSimpArgs false
attribute [local go_sem ↓] Go.wp_at_zero Go.wp_at_succ
theorem ask_boxes (w : World) (v : Value) (y : Int × Int) : ∃ W0, (w.alloc (.cells #[v] 38)).alloc (.cells #[.int .u64 y.1, .int .u64 y.2] 27) = W0 ∧ Below w.heap.size w W0 ∧ W0.heap.size = w.heap.size + 2 ∧ W0.heap[w.heap.size]? = some (.cells #[v] 38 (0, 0)) ∧ BoxQ W0 (w.heap.size + 1) y := by
 refine ⟨_, rfl, ((Below.refl _ _).alloc (Nat.le_refl _) _).alloc (by simp) _, by simp, ?_, ?_⟩
 ·rw [hao _ _ _ (by simp)]; exact heap_alloc_new w _
 ·have := heap_alloc_new (w.alloc (.cells #[v] 38)) (.cells #[.int .u64 y.1, .int .u64 y.2] 27)
  simpa [BoxQ] using this
theorem filter_twice {α : Type} (p : α → Bool) (xs : List α) : (xs.filter p).filter p = xs.filter p := by simp
theorem filter_count {α : Type} (p : α → Bool) (xs : List α) : (xs.filter (fun x => !p x)).length + (xs.filter p).length = xs.length := by
 induction xs with
 | nil => rfl
 | cons x xs ih => cases h : p x <;> simp [h] <;> omega
theorem filter_take {α : Type} (p : α → Bool) (xs : List α) (i : Nat) (h : i < xs.length) : ((xs.take (i + 1)).filter p).length = ((xs.take i).filter p).length + if p xs[i] then 1 else 0 := by
 rw [List.take_succ_eq_append_getElem h, List.filter_append, List.length_append]
 cases hp : p xs[i] <;> simp [hp]
/-- One that was asked is laid into a box of its own. -/
structure Laid (wr WA WS : World) (x : Int × Mg) (cl : List Value) : Prop where
 th : WA.there wr.heap.size 0 (Value.int .i64 x.1 :: cl).toArray.size
 ws : WA.setCells wr.heap.size 0 (Value.int .i64 x.1 :: cl).toArray.toList = WS
 on : (Value.int .i64 x.1 :: cl).toArray.all (·.oneCell') = true
 sz : (Tryz.prog.info? 73).map (·.size) = some (Value.int .i64 x.1 :: cl).length
 sz' : (Tryz.prog.info? 73).map (·.size) = some (Value.int .i64 x.1 :: cl).toArray.size
 bel : Below wr.heap.size wr WS
 k1 : WS.cell? ⟨wr.heap.size, 1, none⟩ = some (.int .u8 (x.2.k : Int))
 k3 : WS.cell? ⟨wr.heap.size, 3, none⟩ = some (.int .u64 (x.2.st.qb : Int))
 k4 : WS.cell? ⟨wr.heap.size, 4, none⟩ = some (.int .u64 (x.2.st.qn : Int))
theorem laid_of (wr : World) (x : Int × Mg) (cl : List Value) {K : Nat → Prop} {V : World} (hm : MsgIs K V cl.toArray x.2) : ∃ WA WS, wr.alloc (.cells zA 73) = WA ∧ Laid wr WA WS x cl := by
 have hln : cl.length = 47 := by simpa using hm.size
 obtain ⟨j0, hj0, hj1, hj2, hj3⟩ := info73
 obtain ⟨WA, hWA, hth, WS, hWS, hrs, hss, hbs, hrl⟩ := box_new wr 73 zA (.int .i64 x.1 :: cl) (by show zA.size = _; rw [List.length_cons, hln]; kernel_rfl)
 obtain ⟨q1, q2, q3⟩ := query_cells hm
 refine ⟨WA, WS, hWA, hth, hWS, Array.all_eq_true_iff_forall_mem.2 (fun c hc => ask_one hm c (by simpa using hc)), by rw [hj0, List.length_cons, hln]; simp [hj2], by rw [show (Value.int .i64 x.1 :: cl).toArray.size = 48 by simp [hln], hj0]; simp [hj2], hbs, ?_, ?_, ?_⟩
 ·simpa using hrs 1 _ (by simpa using q1)
 ·simpa using hrs 3 _ (by simpa using q2)
 ·simpa using hrs 4 _ (by simpa using q3)
set_option maxRecDepth 100000 in
set_option maxHeartbeats 8000000 in
theorem forgets_any (v : Value) (xs : List (Int × Mg)) (y : Int × Int) (K : Nat → Prop) (w : World) (h : ListIs rAsk 48 648 K w v xs) (hK : ∀ b, K b → b < w.heap.size) (hT : Lib.Utf8Tabs 0 1 w) (h2 : 1 < w.heap.size) :
  Calls Tryz.prog 6 #[.agg #[v], .agg #[.int .u64 y.1, .int .u64 y.2]] w fun e w' => e = .returned (.bool true) ∧ Below w.heap.size w w' := by
 obtain ⟨W0, hW0, hb0, hs0, g0, g1⟩ := ask_boxes w v y
 have HV : Hid (∀ V, Below W0.heap.size W0 V → V.cell? ⟨w.heap.size, 0, none⟩ = some v ∧ BoxQ V (w.heap.size + 1) y ∧ Below w.heap.size w V ∧ ListIs rAsk 48 648 K V v xs ∧ (∀ b, K b → b < V.heap.size)) := fun V hb => by
  have hbw : Below w.heap.size w V := hb0.trans (hb.mono hb0.size)
  exact ⟨(hb.cell (p := ⟨w.heap.size, 0, none⟩) (by show w.heap.size < _; omega)).trans (cell_of_row g0 rfl), g1.below (by omega) hb, hbw, ListIs.later mAsk h hK hbw, fun b hk => Nat.lt_of_lt_of_le (hK b hk) hbw.size⟩
 have CL := hid (lives_any W0 (Utf8Tabs.later hT h2 hb0) (Nat.lt_of_lt_of_le h2 hb0.size))
 have C1 : Hid (∀ V, Below W0.heap.size W0 V → _) := fun V hb => forget_any y v xs K V (HV.out V hb).2.2.2.1 (HV.out V hb).2.2.2.2
 obtain ⟨q0, c0, rfl, hby, -⟩ := id h
 have hx63 : xs.length ≤ 217187482030 := by omega
 obtain ⟨ys, hys⟩ : ∃ ys, xs.filter (fun x => !fgtP y x) = ys := ⟨_, rfl⟩
 have HYS : Hid (xs.filter (fun x => !fgtP y x) = ys) := hys
 have hyl : ys.length ≤ xs.length := by rw [← hys]; exact List.length_filter_le _ _
 have HYY : Hid (ys.filter (fun x => !fgtP y x) = ys) := by show _ = _; rw [← hys]; exact filter_twice _ _
 have HYF : Hid (∀ x ∈ ys, fgtP y x = false) := fun x hx => by
  rw [← hys, List.mem_filter] at hx
  simpa using hx.2
 rw [hys] at C1
 obtain ⟨y1, y2⟩ := y
 have HLN : Hid (ys.length + (xs.filter (fgtP (y1, y2))).length = xs.length) := by show _ = _; rw [← hys]; exact filter_count _ _
 simp only at hW0 C1
 clear h hK hT h2 hb0 hs0 g0 g1 hby hys
 go_enter Tryz.func6, Tryz.ntmps6
 go_wp2_with fail
 refine CL.out.mono ?_
 rintro e w1 ⟨rfl, hb1⟩
 obtain ⟨t1, t2, -⟩ := HV.out w1 hb1
 have u1 := t2.c0
 have u2 := t2.c1
 have CC1 := hid (C1.out w1 hb1)
 have HB1 : Hid (Below W0.heap.size W0 w1) := hb1
 simp only at u1 u2
 clear hb1 t2 C1 CL hW0
 go_wp2_with fail
 refine CC1.out.mono ?_
 rintro e w2 ⟨q2, c2, rfl, hl2, hb2⟩
 obtain ⟨w3, hw3, hb3, hg3, hs3⟩ := one_box w2 (.slice q2 ys.length c2) 38
 have hB3 : Below W0.heap.size W0 w3 := HB1.out.trans ((hb2.trans (hb3.mono hb2.size)).mono HB1.out.size)
 have hl3 : ListIs rAsk 48 648 (fun b => b < w2.heap.size) w3 (.slice q2 ys.length c2) ys := hl2.mono mAsk (fun b h => h.2) (kept_of (fun b h => h.2) hb3)
 have HK3 : Hid (∀ V, Below w3.heap.size w3 V → V.cell? ⟨w2.heap.size, 0, none⟩ = some (.slice q2 ys.length c2) ∧ ListIs rAsk 48 648 (fun b => b < w2.heap.size) V (.slice q2 ys.length c2) ys ∧ w2.heap.size < V.heap.size ∧ BoxQ V (w.heap.size + 1) (y1, y2) ∧ Below W0.heap.size W0 V) := fun V hb => by
  have hbV : Below W0.heap.size W0 V := hB3.trans (hb.mono hB3.size)
  exact ⟨(hb.cell (p := ⟨w2.heap.size, 0, none⟩) (by show w2.heap.size < _; omega)).trans (cell_of_row hg3 rfl), hl3.mono mAsk (fun _ h => h) (kept_of (fun b h => by have h' : b < w2.heap.size := h; omega) hb), by have := hb.size; omega, (HV.out V hbV).2.1, hbV⟩
 have CF : Hid (∀ V, Below w3.heap.size w3 V → Calls Tryz.prog 21 #[.agg #[.slice q2 ys.length c2], .agg #[.int .u64 y1, .int .u64 y2]] V fun e w' => ∃ p c, e = .returned (.agg #[.slice p ys.length c]) ∧ ListIs rAsk 48 648 (From V.heap.size w') w' (.slice p ys.length c) ys ∧ Below V.heap.size V w') := fun V hb => by
  obtain ⟨-, t2, t3, -, -⟩ := HK3.out V hb
  have := forget_any (y1, y2) (.slice q2 ys.length c2) ys _ V t2 (fun b h => by have h' : b < w2.heap.size := h; omega)
  rw [HYY.out] at this
  exact this
 have hd3 : Below w3.heap.size w3 w3.drew := (Below.refl _ _).drew
 clear hl2 hb2 hb3 hg3 hs3 hB3 hl3 CC1 u1 u2 t1 HB1
 go_wp2_with fail
 refine wp_region_held_drew (S := fun W => W.cell? ⟨w2.heap.size, 0, none⟩ = some (.slice q2 ys.length c2) ∧ BoxQ W (w.heap.size + 1) (y1, y2)) (by kernel_rfl) (by obtain ⟨t1, _, _, t4, _⟩ := HK3.out _ hd3; exact ⟨t1, t4⟩) (fun hHeld => ?_)
 refine wpAnyH_take (i := 0) (v := .agg #[.slice q2 ys.length c2]) rfl (by kernel_rfl) (by kernel_rfl) (by kernel_rfl) (fun _ _ _ h => h) (.inl ⟨by rfl, fun W hW => by have h0 := hW.1; go_simp⟩) hHeld ?_
 simp only [Act.put, List.getElem_toArray, List.getElem_cons_zero, List.getElem_cons_succ, List.setIfInBounds_toArray, List.set_cons_zero, List.set_cons_succ]
 refine wpAnyH_take (i := 1) (v := .agg #[.slice q2 ys.length c2]) rfl (by kernel_rfl) (by kernel_rfl) (by kernel_rfl) (fun _ _ _ h => h) (.inl ⟨by rfl, fun W hW => by have h0 := hW.1; go_simp⟩) hHeld ?_
 simp only [Act.put, List.getElem_toArray, List.getElem_cons_zero, List.getElem_cons_succ, List.setIfInBounds_toArray, List.set_cons_zero, List.set_cons_succ]
 refine wpAnyH_take (i := 2) (v := .agg #[.int .u64 y1, .int .u64 y2]) rfl (by kernel_rfl) (by kernel_rfl) (by kernel_rfl) (fun _ _ _ h => h) (.inl ⟨by rfl, fun W hW => by have h0 := hW.2.c0; have h1 := hW.2.c1; go_simp⟩) hHeld ?_
 simp only [Act.put, List.getElem_toArray, List.getElem_cons_zero, List.getElem_cons_succ, List.setIfInBounds_toArray, List.set_cons_zero, List.set_cons_succ]
 refine wpAnyH_ready (rs := [3]) (by kernel_rfl) (by simp) ?_
 refine AllReadyH.cons rfl (fun K' hK => ?_) AllReadyH.nil
 rw [if_pos (by rfl)]
 go_simp
 go_at_call 21
 refine (CF.out _ hd3).mono ?_
 rintro e w4 ⟨p4, c4, rfl, hl4, hb4⟩
 have hb34 : Below w3.heap.size w3 w4 := hd3.trans (hb4.mono hd3.size)
 obtain ⟨t1, t2, t3, t4, t5⟩ := HK3.out w4 hb34
 refine hK.out _ _ ⟨t1, t4⟩ (fun hHeld => ?_)
 clear hK K'
 refine wpAnyH_ready (rs := [4]) (by kernel_rfl) (by simp) ?_
 refine AllReadyH.cons rfl (fun K' hK => ?_) AllReadyH.nil
 rw [if_pos (by rfl)]
 go_simp
 go_at_call 18
 refine (osame_eq _ _ ys _ _ w4 t2 hl4 (fun b h => by have h' : b < w2.heap.size := h; omega) (fun b h => h.2)).mono ?_
 rintro e w5 ⟨rfl, hb5⟩
 have hb35 : Below w3.heap.size w3 w5 := hb34.trans (hb5.mono hb34.size)
 obtain ⟨s1, s2, s3, s4, s5⟩ := HK3.out w5 hb35
 refine hK.out _ _ ⟨s1, s4⟩ (fun hHeld => ?_)
 clear hK K'
 refine wpAnyH_ready (rs := [5]) (by kernel_rfl) (by simp) ?_
 refine AllReadyH.cons rfl (fun K' hK => ?_) AllReadyH.nil
 rw [if_pos (by rfl)]
 go_simp
 refine hK.out _ _ hHeld (fun hHeld => ?_)
 clear hK K'
 refine wpAnyH_done (by kernel_rfl) ?_ _
 have HB5 : Hid (Below w3.heap.size w3 w5) := hb35
 clear hHeld hb5 hb35 t1 t2 t3 t4 t5 hl4 hb4 hb34 s2 s3 s4 s5 CF
 go_wp2_with fail
 have hy63 : ys.length ≤ 217187482030 := by omega
 go_loopg [25] ys.length (fun gf s25 wx => ∃ (i : Nat), s25 = .int .i64 i ∧ i ≤ ys.length ∧ ys.length ≤ i + gf ∧ Hid (Below w3.heap.size w3 wx))
 case atStart => exact ⟨0, rfl, by omega, by omega, HB5⟩
 case round =>
  clear HB5
  obtain ⟨i, rfl, hi1, hgf, HB⟩ := hrel
  obtain ⟨t1, t2, t3, t4, t5⟩ := HK3.out wr HB.out
  by_cases hi : i < ys.length
  ·obtain ⟨g', rfl⟩ : ∃ g', gk = g' + 1 := ⟨gk - 1, by omega⟩
   obtain ⟨b, o, cl, rfl, hKb, hln, hmi, h64, ka, ra⟩ := aat t2 i hi
   have hnf := HYF.out _ (List.getElem_mem hi)
   obtain ⟨x, hx⟩ : ∃ x, ys[i] = x := ⟨_, rfl⟩
   rw [hx] at hmi ka hnf
   obtain ⟨WA, WS, hWA, hLd⟩ := laid_of wr x cl hmi
   have hra : wr.rangeAt b (o + i * 48) (.int .i64 x.1 :: cl) := fun j u hj => by
    cases j with
    | zero => cases hj; exact ka
    | succ j => have := ra j u (by simpa using hj); rwa [show o + i * 48 + (j + 1) = o + i * 48 + 1 + j by omega]
   have HRA : Hid (wr.rangeAt b (o + i * 48) (.int .i64 x.1 :: cl)) := hra
   have HLD : Hid (Laid wr WA WS x cl) := hLd
   have hBS : Below w3.heap.size w3 WS := HB.out.trans (hLd.bel.mono HB.out.size)
   have HBS : Hid (Below w3.heap.size w3 WS) := hBS
   have k1 := hLd.k1
   have k3 := hLd.k3
   have k4 := hLd.k4
   have hqy := (HK3.out WS hBS).2.2.2.1
   have d0 := hqy.c0
   have d1 := hqy.c1
   have EQ := eql_qid (x.2.st.qb : Int) (x.2.st.qn : Int) y1 y2
   have z0 : (0 : Int) ≤ (i : Int) := by omega
   have z1 : (i : Int) < (ys.length : Int) := by omega
   unfold fgtP at hnf
   simp only at d0 d1
   by_cases hk : x.2.k = 2
   ·rw [decide_eq_true hk, Bool.true_and] at hnf
    rw [hnf] at EQ
    have zk : ((x.2.k : Int) == 2) = true := by simp; omega
    clear hra hLd hBS hqy hnf hx hKb hln hmi h64 ka ra t1 t2 t3 t4 t5 hk
    unfold zA zc at hWA
    go_wp2_with (first | (refine wpList_load_mid rfl 73 _ rfl b (o + i * 48) rfl _ _ HRA.out Tryz.underlying73 rfl HLD.out.sz ?_) | (refine wpList_store_mid rfl 73 _ _ rfl wr.heap.size 0 (Value.int .i64 x.1 :: cl).toArray rfl rfl HLD.out.th HLD.out.sz' HLD.out.on ?_; rw [HLD.out.ws]))
    go_roundg g'
    case measure => omega
    case rel => exact ⟨i + 1, by go_num, by omega, by omega, HBS⟩
   ·have zk : ((x.2.k : Int) == 2) = false := beq_eq_false_iff_ne.2 (by omega)
    clear hra hLd hBS hqy hnf hx hKb hln hmi h64 ka ra t1 t2 t3 t4 t5 hk
    unfold zA zc at hWA
    go_wp2_with (first | (refine wpList_load_mid rfl 73 _ rfl b (o + i * 48) rfl _ _ HRA.out Tryz.underlying73 rfl HLD.out.sz ?_) | (refine wpList_store_mid rfl 73 _ _ rfl wr.heap.size 0 (Value.int .i64 x.1 :: cl).toArray rfl rfl HLD.out.th HLD.out.sz' HLD.out.on ?_; rw [HLD.out.ws]))
    go_roundg g'
    case measure => omega
    case rel => exact ⟨i + 1, by go_num, by omega, by omega, HBS⟩
  ·have z1 : ¬ (i : Int) < (ys.length : Int) := by omega
   have r0 := (HV.out wr t5).1
   clear t1 t2 t3 t4 t5
   go_wp2_with fail
   go_loopg [8, 45] xs.length (fun gf s8 s45 wx => ∃ (i : Nat), s8 = .int .i64 (((xs.take i).filter (fgtP (y1, y2))).length : Nat) ∧ s45 = .int .i64 i ∧ i ≤ xs.length ∧ xs.length ≤ i + gf ∧ Hid (Below w3.heap.size w3 wx))
   case atStart => exact ⟨0, rfl, rfl, by omega, by omega, HB⟩
   case round =>
    clear HB r0
    obtain ⟨i, rfl, rfl, hi1, hgf, HB⟩ := hrel
    obtain ⟨t1, t2, t3, t4, t5⟩ := HK3.out wr HB.out
    obtain ⟨r0, -, r2, r3, r4⟩ := HV.out wr t5
    obtain ⟨nn, hnn⟩ : ∃ nn, ((xs.take i).filter (fgtP (y1, y2))).length = nn := ⟨_, rfl⟩
    have hnl : nn ≤ 217187482030 := by rw [← hnn]; exact Nat.le_trans (List.length_filter_le _ _) (by simp; omega)
    by_cases hi : i < xs.length
    ·obtain ⟨g', rfl⟩ : ∃ g', gk = g' + 1 := ⟨gk - 1, by omega⟩
     obtain ⟨b, o, cl, rfl, hKb, hln, hmi, h64, ka, ra⟩ := aat r3 i hi
     have hst := filter_take (fgtP (y1, y2)) xs i hi
     rw [hnn] at hst ⊢
     obtain ⟨x, hx⟩ : ∃ x, xs[i] = x := ⟨_, rfl⟩
     rw [hx] at hmi ka hst
     obtain ⟨WA, WS, hWA, hLd⟩ := laid_of wr x cl hmi
     have hra : wr.rangeAt b (o + i * 48) (.int .i64 x.1 :: cl) := fun j u hj => by
      cases j with
      | zero => cases hj; exact ka
      | succ j => have := ra j u (by simpa using hj); rwa [show o + i * 48 + (j + 1) = o + i * 48 + 1 + j by omega]
     have HRA : Hid (wr.rangeAt b (o + i * 48) (.int .i64 x.1 :: cl)) := hra
     have HLD : Hid (Laid wr WA WS x cl) := hLd
     have hBS : Below w3.heap.size w3 WS := HB.out.trans (hLd.bel.mono HB.out.size)
     have HBS : Hid (Below w3.heap.size w3 WS) := hBS
     have k1 := hLd.k1
     have k3 := hLd.k3
     have k4 := hLd.k4
     have hqy := (HK3.out WS hBS).2.2.2.1
     have d0 := hqy.c0
     have d1 := hqy.c1
     have EQ := eql_qid (x.2.st.qb : Int) (x.2.st.qn : Int) y1 y2
     have z0 : (0 : Int) ≤ (i : Int) := by omega
     have z1 : (i : Int) < (xs.length : Int) := by omega
     simp only at d0 d1
     by_cases hk : x.2.k = 2
     ·have zk : ((x.2.k : Int) == 2) = true := by simp; omega
      cases hq : decide (((x.2.st.qb : Int), (x.2.st.qn : Int)) = (y1, y2)) with
      | true =>
       rw [hq] at EQ
       have HST : Hid (((xs.take (i + 1)).filter (fgtP (y1, y2))).length = nn + 1) := by
        show _ = _
        rw [hst, if_pos (by unfold fgtP; rw [hq, decide_eq_true hk]; rfl)]
       clear hra hLd hBS hqy hst hx hKb hln hmi h64 ka ra t1 t2 t3 t4 t5 hk r0 r2 r3 r4 hnn hq
       unfold zA zc at hWA
       go_wp2_with (first | (refine wpList_load_mid rfl 73 _ rfl b (o + i * 48) rfl _ _ HRA.out Tryz.underlying73 rfl HLD.out.sz ?_) | (refine wpList_store_mid rfl 73 _ _ rfl wr.heap.size 0 (Value.int .i64 x.1 :: cl).toArray rfl rfl HLD.out.th HLD.out.sz' HLD.out.on ?_; rw [HLD.out.ws]))
       go_roundg g'
       case measure => omega
       case rel => exact ⟨i + 1, by rw [HST.out]; go_num, by go_num, by omega, by omega, HBS⟩
      | false =>
       rw [hq] at EQ
       have HST : Hid (((xs.take (i + 1)).filter (fgtP (y1, y2))).length = nn) := by
        show _ = _
        rw [hst, if_neg (by unfold fgtP; rw [hq, decide_eq_true hk]; decide)]; rfl
       clear hra hLd hBS hqy hst hx hKb hln hmi h64 ka ra t1 t2 t3 t4 t5 hk r0 r2 r3 r4 hnn hq
       unfold zA zc at hWA
       go_wp2_with (first | (refine wpList_load_mid rfl 73 _ rfl b (o + i * 48) rfl _ _ HRA.out Tryz.underlying73 rfl HLD.out.sz ?_) | (refine wpList_store_mid rfl 73 _ _ rfl wr.heap.size 0 (Value.int .i64 x.1 :: cl).toArray rfl rfl HLD.out.th HLD.out.sz' HLD.out.on ?_; rw [HLD.out.ws]))
       go_roundg g'
       case measure => omega
       case rel => exact ⟨i + 1, by rw [HST.out], by go_num, by omega, by omega, HBS⟩
     ·have zk : ((x.2.k : Int) == 2) = false := beq_eq_false_iff_ne.2 (by omega)
      have HST : Hid (((xs.take (i + 1)).filter (fgtP (y1, y2))).length = nn) := by
       show _ = _
       rw [hst, if_neg (by unfold fgtP; rw [decide_eq_false hk, Bool.false_and]; decide)]; rfl
      clear hra hLd hBS hqy hst hx hKb hln hmi h64 ka ra t1 t2 t3 t4 t5 hk r0 r2 r3 r4 hnn
      unfold zA zc at hWA
      go_wp2_with (first | (refine wpList_load_mid rfl 73 _ rfl b (o + i * 48) rfl _ _ HRA.out Tryz.underlying73 rfl HLD.out.sz ?_) | (refine wpList_store_mid rfl 73 _ _ rfl wr.heap.size 0 (Value.int .i64 x.1 :: cl).toArray rfl rfl HLD.out.th HLD.out.sz' HLD.out.on ?_; rw [HLD.out.ws]))
      go_roundg g'
      case measure => omega
      case rel => exact ⟨i + 1, by rw [HST.out], by go_num, by omega, by omega, HBS⟩
    ·have z1 : ¬ (i : Int) < (xs.length : Int) := by omega
     have HE : Hid (ys.length + nn = xs.length) := by
      show _ = _
      rw [List.take_of_length_le (by omega)] at hnn
      rw [← hnn]; exact HLN.out
     have zz : ((ys.length : Int) + (nn : Int) == (xs.length : Int)) = true := by have := HE.out; simp; omega
     have HF : Hid (Below w.heap.size w wr) := r2
     rw [hnn]
     clear t2 t3 t4 t5 r2 r3 r4 hnn
     go_wp2_with fail
     go_ret
     exact ⟨rfl, HF.out⟩
end Go.Proofs.YtajomnfeicfdlaaGreatDoor

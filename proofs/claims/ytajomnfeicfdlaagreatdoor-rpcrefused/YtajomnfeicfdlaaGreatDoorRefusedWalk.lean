/- The walk of RpcRefused. -/
import Derived.Test.YtajomnfeicfdlaaGreatDoorSfIp
import Derived.Test.YtajomnfeicfdlaaGreatDoorIn
namespace Go.Proofs.YtajomnfeicfdlaaGreatDoor
open Go.Shelf Go.RowKit Go.Lib
set_option linter.unusedVariables false
set_option linter.unusedSimpArgs false
attribute [local go_sem ↓] Go.wp_at_zero Go.wp_at_succ
/-- What an Ask that is not refused says of what was asked. -/
theorem ref_zero {xs : List (Int × Mg)} {tn : Int} {m : Mg} (h : refP xs tn m = 0) : chkP xs = 0 ∧ nodeP tn = true ∧ wrE m = 0 ∧ anP (m.k : Int) = true ∧ anyP (openP tn (wrS m)) xs = false ∧ xs.length < 512 := by
 have h0 := ref_few h
 unfold refP at h
 by_cases h1 : chkP xs = 6
 ·rw [if_pos h1] at h; omega
 rw [if_neg h1] at h
 by_cases h2 : nodeP tn = false
 ·rw [if_pos h2] at h; omega
 rw [if_neg h2] at h
 by_cases h3 : wrE m = 11
 ·rw [if_pos h3] at h; omega
 rw [if_neg h3] at h
 by_cases h4 : anP (m.k : Int) = false
 ·rw [if_pos h4] at h; omega
 rw [if_neg h4] at h
 by_cases h5 : anyP (openP tn (wrS m)) xs = true
 ·rw [if_pos h5] at h; omega
 refine ⟨(chk_01 xs).resolve_left h1, by simpa using h2, (wrE_01 m).resolve_right h3, by simpa using h4, by simpa using h5, h0⟩
theorem chk_more {xs : List (Int × Mg)} {tn : Int} {m : Mg} (h : refP xs tn m = 0) : chkP (xs ++ [(tn, m)]) = 0 := by
 obtain ⟨h1, h2, h3, h4, _, h6⟩ := ref_zero h
 unfold chkP at h1 ⊢
 have hx : ¬ (512 < xs.length ∨ anyP wrongP xs = true) := fun e => by rw [if_pos e] at h1; omega
 have hw : wrongP (tn, m) = false := by unfold wrongP; simp [h2, h3, h4]
 rw [if_neg]
 rintro (e | e)
 ·simp at e; omega
 ·unfold anyP at e
  rw [List.any_append] at e
  simp [hw] at e
  exact hx (.inr (by unfold anyP; simpa using e))
theorem msg_boxes (w : World) (v : Value) (c : Array Value) : ∃ W0, (w.alloc (.cells #[v] 38)).alloc (.cells c 63) = W0 ∧ Below w.heap.size w W0 ∧ W0.heap.size = w.heap.size + 2 ∧ W0.heap[w.heap.size]? = some (.cells #[v] 38 (0, 0)) ∧ W0.heap[w.heap.size + 1]? = some (.cells c 63 (0, 0)) := by
 refine ⟨_, rfl, ((Below.refl _ _).alloc (Nat.le_refl _) _).alloc (by simp) _, by simp, ?_, ?_⟩
 ·rw [hao _ _ _ (by simp)]; exact heap_alloc_new w _
 ·have := heap_alloc_new (w.alloc (.cells #[v] 38)) (.cells c 63)
  simpa using this
set_option maxRecDepth 100000 in
set_option maxHeartbeats 8000000 in
theorem refused_any (v : Value) (xs : List (Int × Mg)) (tn : Int) (cl : List Value) (m : Mg) (K : Nat → Prop) (w : World) (h : ListIs rAsk 48 648 K w v xs) (hm : MsgIs K w cl.toArray m) (hln : cl.length = 47) (h64 : I64 tn) (hK : ∀ b, K b → b < w.heap.size) (hT : Lib.Utf8Tabs 0 1 w) (h2 : 1 < w.heap.size) :
  Calls Tryz.prog 8 #[.agg #[v], .int .i64 tn, .agg cl.toArray] w fun e w' => e = .returned (.bool true) ∧ Below w.heap.size w w' := by
 obtain ⟨W0, hW0, hb0, hs0, g0, g1⟩ := msg_boxes w v cl.toArray
 have hkc : cl[0]? = some (.int .u8 (m.k : Int)) := by simpa using hm.kc
 have HV : Hid (∀ V, Below W0.heap.size W0 V → V.cell? ⟨w.heap.size, 0, none⟩ = some v ∧ V.rangeAt (w.heap.size + 1) 0 cl ∧ Below w.heap.size w V ∧ ListIs rAsk 48 648 K V v xs ∧ (∀ b, K b → b < V.heap.size) ∧ MsgIs K V cl.toArray m ∧ Lib.Utf8Tabs 0 1 V ∧ 1 < V.heap.size ∧ V.cell? ⟨w.heap.size + 1, 0, none⟩ = some (.int .u8 (m.k : Int))) := fun V hb => by
  have hbw : Below w.heap.size w V := hb0.trans (hb.mono hb0.size)
  have hr : V.rangeAt (w.heap.size + 1) 0 cl := rat_below (range_box g1 (Below.refl _ _)) hb (by omega)
  exact ⟨(hb.cell (p := ⟨w.heap.size, 0, none⟩) (by show w.heap.size < _; omega)).trans (cell_of_row g0 rfl), hr, hbw, ListIs.later mAsk h hK hbw, fun b hk => Nat.lt_of_lt_of_le (hK b hk) hbw.size, hm.keep (fun _ h => h) (kept_of hK hbw), Utf8Tabs.later hT h2 hbw, Nat.lt_of_lt_of_le h2 hbw.size, by simpa using hr 0 _ hkc⟩
 have CL := hid (lives_any W0 (Utf8Tabs.later hT h2 hb0) (Nat.lt_of_lt_of_le h2 hb0.size))
 have C1 : Hid (∀ V, Below W0.heap.size W0 V → _) := fun V hb => by
  obtain ⟨-, -, -, t4, t5, t6, t7, t8, -⟩ := HV.out V hb
  exact ask_any v tn cl m xs K V t4 t6 h64 t5 t7 t8
 obtain ⟨q0, c0, rfl, hby, -⟩ := id h
 have hx63 : xs.length ≤ 217187482030 := by omega
 have I63 : Hid ((Tryz.prog.info? 63).map (·.size) = some cl.length) := by show _ = _; rw [hln]; exact size49
 obtain ⟨k, hk⟩ : ∃ k, refP xs tn m = k := ⟨_, rfl⟩
 obtain ⟨ys, hys⟩ : ∃ ys, askL xs tn m = ys := ⟨_, rfl⟩
 have HRK : Hid (refP xs tn m = k) := hk
 have HYS : Hid (askL xs tn m = ys) := hys
 rw [hk, hys] at C1
 clear h hm hln h64 hK hT h2 hb0 hs0 g0 g1 hby hk hys hkc
 go_enter Tryz.func8, Tryz.ntmps8
 go_wp2_with fail
 refine CL.out.mono ?_
 rintro e w1 ⟨rfl, hb1⟩
 obtain ⟨t1, t2, -⟩ := HV.out w1 hb1
 have HR1 : Hid (w1.rangeAt (w.heap.size + 1) 0 cl) := t2
 have CC1 := hid (C1.out w1 hb1)
 have HB1 : Hid (Below W0.heap.size W0 w1) := hb1
 clear hb1 t2 C1 CL hW0
 go_wp2_with (refine wpList_load_mid rfl 63 _ rfl (w.heap.size + 1) 0 rfl cl _ HR1.out Tryz.underlying63 rfl I63.out ?_)
 refine CC1.out.mono ?_
 rintro e w2 ⟨q2, c2, rfl, hl2, hb2⟩
 obtain ⟨w3, hw3, hb3, hg3, hs3⟩ := one_box w2 (.slice q2 ys.length c2) 38
 have hB3 : Below W0.heap.size W0 w3 := HB1.out.trans ((hb2.trans (hb3.mono hb2.size)).mono HB1.out.size)
 have hl3 : ListIs rAsk 48 648 (fun b => b < w2.heap.size) w3 (.slice q2 ys.length c2) ys := hl2.mono mAsk (fun b h => h.2) (kept_of (fun b h => h.2) hb3)
 obtain ⟨s1, -, s3, s4, s5, -, s7, s8, s9⟩ := HV.out w3 hB3
 have r3 := cell_of_row (k := 0) hg3 rfl
 have HF3 : Hid (Below w.heap.size w w3) := s3
 by_cases hk0 : k = 0
 ·subst hk0
  obtain rfl : xs ++ [(tn, m)] = ys := by rw [← HYS.out]; unfold askL; rw [if_pos HRK.out]
  have hc0 := chk_more HRK.out
  obtain ⟨_, _, _, h4, _, h6⟩ := ref_zero HRK.out
  have CK : Hid (Calls Tryz.prog 20 #[.agg #[.slice q2 (xs ++ [(tn, m)]).length c2]] w3 fun e w' => e = .returned (.int .i64 0) ∧ Below w3.heap.size w3 w') := by
   have := ocheck_any (.slice q2 (xs ++ [(tn, m)]).length c2) _ _ w3 hl3 (fun b h => by have h' : b < w2.heap.size := h; omega) s7 s8
   rw [hc0] at this
   exact this
  obtain ⟨b, o, ca, rfl, hKb, _, _, _, ka, _⟩ := aat hl3 xs.length (by simp)
  rw [List.getElem_append_right (Nat.le_refl _)] at ka
  simp only [Nat.sub_self, List.getElem_cons_zero] at ka
  have hl1 : (xs ++ [(tn, m)]).length = xs.length + 1 := by simp
  rw [hl1] at CK r3 hw3 ⊢
  have HS3 : Hid (w3.heap.size = w2.heap.size + 1) := hs3
  have zl : ((xs.length : Int) + 1 == (xs.length : Int) + 1) = true := by simp
  have z0 : (0 : Int) ≤ (xs.length : Int) := by omega
  have z1 : (xs.length : Int) < (xs.length : Int) + 1 := by omega
  have zt : (tn == tn) = true := by simp
  have HBK : Hid (∀ V, Below w3.heap.size w3 V → V.cell? ⟨w.heap.size + 1, 0, none⟩ = some (.int .u8 (m.k : Int)) ∧ Below w.heap.size w V) := fun V hb => by
   obtain ⟨-, -, a3, -, -, -, -, -, a9⟩ := HV.out V (hB3.trans (hb.mono hB3.size))
   exact ⟨a9, a3⟩
  have hk27 : m.k = 2 ∨ m.k = 7 := by
   unfold anP at h4
   simp at h4
   omega
  clear hl2 hb2 hb3 hg3 hs3 hB3 hl3 s3 s4 s5 s7 s8 s9 hc0 h4 h6 hKb hl1 CC1 HR1 t1
  go_wp2_with fail
  refine CK.out.mono ?_
  rintro e w4 ⟨rfl, hb4⟩
  obtain ⟨a9, a3⟩ := HBK.out w4 hb4
  have HF4 : Hid (Below w.heap.size w w4) := a3
  clear hb4 a3 CK r3 s1 ka
  rcases hk27 with hk2 | hk7
  ·have zk : ((m.k : Int) == 2) = true := by simp; omega
   clear hk2
   go_wp2_with fail
   go_ret
   exact ⟨rfl, HF4.out⟩
  ·have zk : ((m.k : Int) == 2) = false := beq_eq_false_iff_ne.2 (by omega)
   have zk7 : ((m.k : Int) == 7) = true := by simp; omega
   clear hk7
   go_wp2_with fail
   go_ret
   exact ⟨rfl, HF4.out⟩
 ·obtain rfl : xs = ys := by rw [← HYS.out]; unfold askL; rw [if_neg (by rw [HRK.out]; exact hk0)]
  have CS : Hid (Calls Tryz.prog 18 #[.agg #[.slice q2 xs.length c2], .agg #[.slice q0 xs.length c0]] w3 fun e w' => e = .returned (.bool true) ∧ Below w3.heap.size w3 w') := osame_eq _ _ xs _ _ w3 hl3 s4 (fun b h => by have h' : b < w2.heap.size := h; omega) s5
  have zk : (k != 0) = true := by simpa using hk0
  clear hl2 hb2 hb3 hg3 hs3 hB3 hl3 s3 s4 s5 s7 s8 s9 CC1 HR1 t1 hk0
  go_wp2_with fail
  refine CS.out.mono ?_
  rintro e w4 ⟨rfl, hb4⟩
  have HF4 : Hid (Below w.heap.size w w4) := HF3.out.trans (hb4.mono HF3.out.size)
  clear hb4 CS
  go_wp2_with fail
  go_ret
  exact ⟨rfl, HF4.out⟩
end Go.Proofs.YtajomnfeicfdlaaGreatDoor

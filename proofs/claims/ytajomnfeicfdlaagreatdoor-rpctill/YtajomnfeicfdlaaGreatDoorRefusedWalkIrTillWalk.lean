/- The walk of RpcRefused. -/
import Derived.Test.YtajomnfeicfdlaaGreatDoorSfIp
import Derived.Test.YtajomnfeicfdlaaGreatDoorIn
import Derived.Test.YtajomnfeicfdlaaGreatDoorHcHdHeHf
namespace Go.Proofs.YtajomnfeicfdlaaGreatDoor
open Go.Shelf Go.RowKit Go.Lib
set_option linter.unusedVariables false
set_option linter.unusedSimpArgs false
attribute [local go_sem ↓] Go.wp_at_zero Go.wp_at_succ
/-- What an Ask that is not refused says of what was asked. -/
theorem ref_zero {xs : List (Int × Mg)} {tn : Int} {m : Mg} (h : refP xs tn m = 0) : chkP xs = 0 ∧ nodeP tn = true ∧ wrE m = 0 ∧ anP (m.k : Int) = true ∧ anyP (openP tn (wrS m)) xs = false ∧ xs.length < 512 := by
 have h0 := ref_few h
 unfold refP at h
 by_cases h1 : chkP xs = 6
 ·rw [if_pos h1] at h; omega
 rw [if_neg h1] at h
 by_cases h2 : nodeP tn = false
 ·rw [if_pos h2] at h; omega
 rw [if_neg h2] at h
 by_cases h3 : wrE m = 11
 ·rw [if_pos h3] at h; omega
 rw [if_neg h3] at h
 by_cases h4 : anP (m.k : Int) = false
 ·rw [if_pos h4] at h; omega
 rw [if_neg h4] at h
 by_cases h5 : anyP (openP tn (wrS m)) xs = true
 ·rw [if_pos h5] at h; omega
 refine ⟨(chk_01 xs).resolve_left h1, by simpa using h2, (wrE_01 m).resolve_right h3, by simpa using h4, by simpa using h5, h0⟩
theorem chk_more {xs : List (Int × Mg)} {tn : Int} {m : Mg} (h : refP xs tn m = 0) : chkP (xs ++ [(tn, m)]) = 0 := by
 obtain ⟨h1, h2, h3, h4, _, h6⟩ := ref_zero h
 unfold chkP at h1 ⊢
 have hx : ¬ (512 < xs.length ∨ anyP wrongP xs = true) := fun e => by rw [if_pos e] at h1; omega
 have hw : wrongP (tn, m) = false := by unfold wrongP; simp [h2, h3, h4]
 rw [if_neg]
 rintro (e | e)
 ·simp at e; omega
 ·unfold anyP at e
  rw [List.any_append] at e
  simp [hw] at e
  exact hx (.inr (by unfold anyP; simpa using e))
theorem msg_boxes (w : World) (v : Value) (c : Array Value) : ∃ W0, (w.alloc (.cells #[v] 38)).alloc (.cells c 63) = W0 ∧ Below w.heap.size w W0 ∧ W0.heap.size = w.heap.size + 2 ∧ W0.heap[w.heap.size]? = some (.cells #[v] 38 (0, 0)) ∧ W0.heap[w.heap.size + 1]? = some (.cells c 63 (0, 0)) := by
 refine ⟨_, rfl, ((Below.refl _ _).alloc (Nat.le_refl _) _).alloc (by simp) _, by simp, ?_, ?_⟩
 ·rw [hao _ _ _ (by simp)]; exact heap_alloc_new w _
 ·have := heap_alloc_new (w.alloc (.cells #[v] 38)) (.cells c 63)
  simpa using this
set_option maxRecDepth 100000 in
set_option maxHeartbeats 8000000 in
theorem refused_any (v : Value) (xs : List (Int × Mg)) (tn : Int) (cl : List Value) (m : Mg) (K : Nat → Prop) (w : World) (h : ListIs rAsk 48 648 K w v xs) (hm : MsgIs K w cl.toArray m) (hln : cl.length = 47) (h64 : I64 tn) (hK : ∀ b, K b → b < w.heap.size) (hT : Lib.Utf8Tabs 0 1 w) (h2 : 1 < w.heap.size) :
  Calls Tryz.prog 8 #[.agg #[v], .int .i64 tn, .agg cl.toArray] w fun e w' => e = .returned (.bool true) ∧ Below w.heap.size w w' := by
 obtain ⟨W0, hW0, hb0, hs0, g0, g1⟩ := msg_boxes w v cl.toArray
 have hkc : cl[0]? = some (.int .u8 (m.k : Int)) := by simpa using hm.kc
 have HV : Hid (∀ V, Below W0.heap.size W0 V → V.cell? ⟨w.heap.size, 0, none⟩ = some v ∧ V.rangeAt (w.heap.size + 1) 0 cl ∧ Below w.heap.size w V ∧ ListIs rAsk 48 648 K V v xs ∧ (∀ b, K b → b < V.heap.size) ∧ MsgIs K V cl.toArray m ∧ Lib.Utf8Tabs 0 1 V ∧ 1 < V.heap.size ∧ V.cell? ⟨w.heap.size + 1, 0, none⟩ = some (.int .u8 (m.k : Int))) := fun V hb => by
  have hbw : Below w.heap.size w V := hb0.trans (hb.mono hb0.size)
  have hr : V.rangeAt (w.heap.size + 1) 0 cl := rat_below (range_box g1 (Below.refl _ _)) hb (by omega)
  exact ⟨(hb.cell (p := ⟨w.heap.size, 0, none⟩) (by show w.heap.size < _; omega)).trans (cell_of_row g0 rfl), hr, hbw, ListIs.later mAsk h hK hbw, fun b hk => Nat.lt_of_lt_of_le (hK b hk) hbw.size, hm.keep (fun _ h => h) (kept_of hK hbw), Utf8Tabs.later hT h2 hbw, Nat.lt_of_lt_of_le h2 hbw.size, by simpa using hr 0 _ hkc⟩
 have CL := hid (lives_any W0 (Utf8Tabs.later hT h2 hb0) (Nat.lt_of_lt_of_le h2 hb0.size))
 have C1 : Hid (∀ V, Below W0.heap.size W0 V → _) := fun V hb => by
  obtain ⟨-, -, -, t4, t5, t6, t7, t8, -⟩ := HV.out V hb
  exact ask_any v tn cl m xs K V t4 t6 h64 t5 t7 t8
 obtain ⟨q0, c0, rfl, hby, -⟩ := id h
 have hx63 : xs.length ≤ 217187482030 := by omega
 have I63 : Hid ((Tryz.prog.info? 63).map (·.size) = some cl.length) := by show _ = _; rw [hln]; exact size49
 obtain ⟨k, hk⟩ : ∃ k, refP xs tn m = k := ⟨_, rfl⟩
 obtain ⟨ys, hys⟩ : ∃ ys, askL xs tn m = ys := ⟨_, rfl⟩
 have HRK : Hid (refP xs tn m = k) := hk
 have HYS : Hid (askL xs tn m = ys) := hys
 rw [hk, hys] at C1
 clear h hm hln h64 hK hT h2 hb0 hs0 g0 g1 hby hk hys hkc
 go_enter Tryz.func8, Tryz.ntmps8
 go_wp2_with fail
 refine CL.out.mono ?_
 rintro e w1 ⟨rfl, hb1⟩
 obtain ⟨t1, t2, -⟩ := HV.out w1 hb1
 have HR1 : Hid (w1.rangeAt (w.heap.size + 1) 0 cl) := t2
 have CC1 := hid (C1.out w1 hb1)
 have HB1 : Hid (Below W0.heap.size W0 w1) := hb1
 clear hb1 t2 C1 CL hW0
 go_wp2_with (refine wpList_load_mid rfl 63 _ rfl (w.heap.size + 1) 0 rfl cl _ HR1.out Tryz.underlying63 rfl I63.out ?_)
 refine CC1.out.mono ?_
 rintro e w2 ⟨q2, c2, rfl, hl2, hb2⟩
 obtain ⟨w3, hw3, hb3, hg3, hs3⟩ := one_box w2 (.slice q2 ys.length c2) 38
 have hB3 : Below W0.heap.size W0 w3 := HB1.out.trans ((hb2.trans (hb3.mono hb2.size)).mono HB1.out.size)
 have hl3 : ListIs rAsk 48 648 (fun b => b < w2.heap.size) w3 (.slice q2 ys.length c2) ys := hl2.mono mAsk (fun b h => h.2) (kept_of (fun b h => h.2) hb3)
 obtain ⟨s1, -, s3, s4, s5, -, s7, s8, s9⟩ := HV.out w3 hB3
 have r3 := cell_of_row (k := 0) hg3 rfl
 have HF3 : Hid (Below w.heap.size w w3) := s3
 by_cases hk0 : k = 0
 ·subst hk0
  obtain rfl : xs ++ [(tn, m)] = ys := by rw [← HYS.out]; unfold askL; rw [if_pos HRK.out]
  have hc0 := chk_more HRK.out
  obtain ⟨_, _, _, h4, _, h6⟩ := ref_zero HRK.out
  have CK : Hid (Calls Tryz.prog 20 #[.agg #[.slice q2 (xs ++ [(tn, m)]).length c2]] w3 fun e w' => e = .returned (.int .i64 0) ∧ Below w3.heap.size w3 w') := by
   have := ocheck_any (.slice q2 (xs ++ [(tn, m)]).length c2) _ _ w3 hl3 (fun b h => by have h' : b < w2.heap.size := h; omega) s7 s8
   rw [hc0] at this
   exact this
  obtain ⟨b, o, ca, rfl, hKb, _, _, _, ka, _⟩ := aat hl3 xs.length (by simp)
  rw [List.getElem_append_right (Nat.le_refl _)] at ka
  simp only [Nat.sub_self, List.getElem_cons_zero] at ka
  have hl1 : (xs ++ [(tn, m)]).length = xs.length + 1 := by simp
  rw [hl1] at CK r3 hw3 ⊢
  have HS3 : Hid (w3.heap.size = w2.heap.size + 1) := hs3
  have zl : ((xs.length : Int) + 1 == (xs.length : Int) + 1) = true := by simp
  have z0 : (0 : Int) ≤ (xs.length : Int) := by omega
  have z1 : (xs.length : Int) < (xs.length : Int) + 1 := by omega
  have zt : (tn == tn) = true := by simp
  have HBK : Hid (∀ V, Below w3.heap.size w3 V → V.cell? ⟨w.heap.size + 1, 0, none⟩ = some (.int .u8 (m.k : Int)) ∧ Below w.heap.size w V) := fun V hb => by
   obtain ⟨-, -, a3, -, -, -, -, -, a9⟩ := HV.out V (hB3.trans (hb.mono hB3.size))
   exact ⟨a9, a3⟩
  have hk27 : m.k = 2 ∨ m.k = 7 := by
   unfold anP at h4
   simp at h4
   omega
  clear hl2 hb2 hb3 hg3 hs3 hB3 hl3 s3 s4 s5 s7 s8 s9 hc0 h4 h6 hKb hl1 CC1 HR1 t1
  go_wp2_with fail
  refine CK.out.mono ?_
  rintro e w4 ⟨rfl, hb4⟩
  obtain ⟨a9, a3⟩ := HBK.out w4 hb4
  have HF4 : Hid (Below w.heap.size w w4) := a3
  clear hb4 a3 CK r3 s1 ka
  rcases hk27 with hk2 | hk7
  ·have zk : ((m.k : Int) == 2) = true := by simp; omega
   clear hk2
   go_wp2_with fail
   go_ret
   exact ⟨rfl, HF4.out⟩
  ·have zk : ((m.k : Int) == 2) = false := beq_eq_false_iff_ne.2 (by omega)
   have zk7 : ((m.k : Int) == 7) = true := by simp; omega
   clear hk7
   go_wp2_with fail
   go_ret
   exact ⟨rfl, HF4.out⟩
 ·obtain rfl : xs = ys := by rw [← HYS.out]; unfold askL; rw [if_neg (by rw [HRK.out]; exact hk0)]
  have CS : Hid (Calls Tryz.prog 18 #[.agg #[.slice q2 xs.length c2], .agg #[.slice q0 xs.length c0]] w3 fun e w' => e = .returned (.bool true) ∧ Below w3.heap.size w3 w') := osame_eq _ _ xs _ _ w3 hl3 s4 (fun b h => by have h' : b < w2.heap.size := h; omega) s5
  have zk : (k != 0) = true := by simpa using hk0
  clear hl2 hb2 hb3 hg3 hs3 hB3 hl3 s3 s4 s5 s7 s8 s9 CC1 HR1 t1 hk0
  go_wp2_with fail
  refine CS.out.mono ?_
  rintro e w4 ⟨rfl, hb4⟩
  have HF4 : Hid (Below w.heap.size w w4) := HF3.out.trans (hb4.mono HF3.out.size)
  clear hb4 CS
  go_wp2_with fail
  go_ret
  exact ⟨rfl, HF4.out⟩
end Go.Proofs.YtajomnfeicfdlaaGreatDoor
/- A Start is not answered by an Installed. -/
namespace Go.Proofs.YtajomnfeicfdlaaGreatDoor
open Go.Shelf Go.RowKit Go.Lib
set_option linter.unusedVariables false
set_option linter.unusedSimpArgs false
attribute [local go_sem ↓] Go.wp_at_zero Go.wp_at_succ
attribute [local go_sem] run_store_func' run_store_nilFunc
set_option maxRecDepth 100000 in
set_option maxHeartbeats 4000000 in
theorem fits_start (cm ca : List Value) (w : World) (hlm : cm.length = 47) (hla : ca.length = 47) (hkm : cm[0]? = some (.int .u8 8)) (hka : ca[0]? = some (.int .u8 2)) :
  Calls Tryz.prog 33 #[.agg cm.toArray, .agg ca.toArray] w fun e w' => e = .returned (.bool false) ∧ Below w.heap.size w w' := by
 obtain ⟨W0, hW0, hb0, hs0', hg1, hg0⟩ := two_boxes w cm.toArray ca.toArray 63
 have hs0 : w.heap.size + 1 < W0.heap.size := by omega
 have c0 : W0.cell? ⟨w.heap.size + 1, 0, none⟩ = some (.int .u8 2) := cell_of_row hg0 (by simpa using hka)
 have d0 : W0.drew.cell? ⟨w.heap.size + 1, 0, none⟩ = some (.int .u8 2) := c0
 have m0 : W0.cell? ⟨w.heap.size, 0, none⟩ = some (.int .u8 8) := cell_of_row hg1 (by simpa using hkm)
 have HL : Hid (∀ W r, W.heap[r]? = some (.map anMap 2) → (Instr.lookup 113 (.map (some r)) (.int .u8 2) true).run Tryz.prog W = .ok (.tuple #[.agg #[.int .u8 3, .func (.func 87) #[] #[]], .bool true]) W) := fun W r hr => look_of 2 hr
 have HB0 : Hid (Below w.heap.size w W0) := hb0
 have HV : Hid (∀ V, Below W0.heap.size W0 V → V.rangeAt w.heap.size 0 cm ∧ V.rangeAt (w.heap.size + 1) 0 ca ∧ V.cell? ⟨w.heap.size, 0, none⟩ = some (.int .u8 8) ∧ Below w.heap.size w V) := fun V hb => ⟨range_box hg1 hb, range_box hg0 hb, (hb.cell (p := ⟨w.heap.size, 0, none⟩) (by show w.heap.size < _; omega)).trans m0, hb0.trans (hb.mono hb0.size)⟩
 have HIM : Hid ((Tryz.prog.info? 63).map (·.size) = some cm.length) := by show _ = _; rw [hlm]; exact size49
 have HIA : Hid ((Tryz.prog.info? 63).map (·.size) = some ca.length) := by show _ = _; rw [hla]; exact size49
 obtain ⟨X, hX⟩ : ∃ X, W0.drew.alloc (.cells #[.int .u8 0, .nilFunc] 111) = X := ⟨_, rfl⟩
 have hgX : X.heap[W0.heap.size]? = some (.cells #[.int .u8 0, .nilFunc] 111 (0, 0)) := by rw [← hX]; exact heap_alloc_new W0.drew _
 have hsX : W0.heap.size < X.heap.size := (Array.getElem?_eq_some_iff.1 hgX).1
 have hbX : Below W0.heap.size W0 X := by rw [← hX]; exact ((Below.refl _ _).drew).alloc (Nat.le_refl _) _
 have dX : X.cell? ⟨w.heap.size + 1, 0, none⟩ = some (.int .u8 2) := by rw [hbX.cell (p := ⟨w.heap.size + 1, 0, none⟩) hs0]; exact c0
 have hX' : (W0.alloc (.cells #[.int .u8 0, .nilFunc] 111)).drew = X := hX
 have C1 : Hid (Calls Tryz.prog 57 #[] W0.drew fun e w' => e = .returned (.map (some W0.heap.size)) ∧ w'.heap[W0.heap.size]? = some (.map anMap 2) ∧ Below W0.heap.size W0.drew w') := answers_any W0.drew
 have C2 := hid (answers_any X)
 have HS' : Hid (W0.heap.size = w.heap.size + 2) := hs0'
 clear hg0 hg1 hb0 hX m0 hka hkm hs0'
 go_enter Tryz.func33, Tryz.ntmps33
 go_wp2_with fail
 go_region_held3 (fun w' => w'.cell? ⟨w.heap.size + 1, 0, none⟩ = some (.int .u8 2))
  (first | assumption | (rw [World.cell?_alloc_lt _ _ _ (by show w.heap.size + 1 < _; assumption)]; assumption) | go_keep)
  ((first
   | (go_at_call 57; refine C1.out.mono ?_; rintro e wa ⟨rfl, hMa, hBa⟩; have hlk := HL.out _ _ hMa; have hlk2 := HL.out (wa.alloc (.cells #[.int .u8 0, .nilFunc] 111)) _ ((hao wa _ _ (Array.getElem?_eq_some_iff.1 hMa).1).trans hMa); have hwa : w.heap.size + 1 < wa.heap.size := Nat.lt_of_lt_of_le hs0 hBa.size; have cwa : wa.cell? ⟨w.heap.size + 1, 0, none⟩ = some (.int .u8 2) := (hBa.cell (p := ⟨w.heap.size + 1, 0, none⟩) hs0).trans d0; have HN : Hid (Below W0.heap.size W0 (wa.alloc (.cells #[.int .u8 3, .func (.func 87) #[] #[]] 111)) ∧ (wa.alloc (.cells #[.int .u8 3, .func (.func 87) #[] #[]] 111)).heap[wa.heap.size]? = some (.cells #[.int .u8 3, .func (.func 87) #[] #[]] 111 (0, 0))) := ⟨((Below.refl W0.heap.size W0).drew.trans hBa).alloc hBa.size _, heap_alloc_new wa _⟩)
   | (go_at_call 57; refine C2.out.mono ?_; rintro e wa ⟨rfl, hMa, hBa⟩; have hlk := HL.out _ _ hMa; have hlk2 := HL.out (wa.alloc (.cells #[.int .u8 0, .nilFunc] 111)) _ ((hao wa _ _ (Array.getElem?_eq_some_iff.1 hMa).1).trans hMa); have hwa : w.heap.size + 1 < wa.heap.size := Nat.lt_of_lt_of_le (Nat.lt_trans hs0 hsX) hBa.size; have cwa : wa.cell? ⟨w.heap.size + 1, 0, none⟩ = some (.int .u8 2) := (hBa.cell (p := ⟨w.heap.size + 1, 0, none⟩) (Nat.lt_trans hs0 hsX)).trans dX;  obtain ⟨Za, Zb, hZa, hZb, t1, t2, t3, t4, kZ, sZ, gZ⟩ := two_set ((hBa.block _ hsX).trans hgX) (.int .u8 3) (.func (.func 87) #[] #[]); have cZ : Zb.cell? ⟨w.heap.size + 1, 0, none⟩ = some (.int .u8 2) := (kZ.cell (p := ⟨w.heap.size + 1, 0, none⟩) (by show w.heap.size + 1 ≠ _; omega)).trans cwa; have HZ : Hid (Below W0.heap.size W0 Zb ∧ Zb.heap[W0.heap.size]? = some (.cells #[.int .u8 3, .func (.func 87) #[] #[]] 111 (0, 0))) := ⟨((Kept.of_below hbX (fun _ h => h)).trans ((Kept.of_below hBa (fun b (hb : b < W0.heap.size) => by omega)).trans (kZ.less fun b (hb : b < W0.heap.size) => by show b ≠ _; omega))).below, gZ⟩)))
 all_goals first
  |(obtain ⟨hbV, hgV⟩ := HN.out
    generalize wa.alloc (.cells #[.int .u8 3, .func (.func 87) #[] #[]] 111) = V at hbV hgV ⊢
    obtain ⟨r1, r2, cm0, hbw⟩ := HV.out V hbV
    have a0 := cell_of_row (k := 0) hgV rfl
    have a1 := cell_of_row (k := 1) hgV rfl
    have HR1 : Hid (V.rangeAt w.heap.size 0 cm) := r1
    have HR2 : Hid (V.rangeAt (w.heap.size + 1) 0 ca) := r2
    have HBW : Hid (Below w.heap.size w V) := hbw
    clear hbV hgV r1 r2 hbw HN hlk hlk2 hMa hBa cwa dX hX' hbX hgX
    go_wp2_with fail
    go_ret
    exact ⟨rfl, HBW.out⟩)
  |(obtain ⟨hbV, hgV⟩ := HZ.out
    obtain ⟨V, hVV⟩ : ∃ V, Zb = V := ⟨_, rfl⟩
    rw [hVV] at hbV hgV ⊢
    obtain ⟨r1, r2, cm0, hbw⟩ := HV.out V hbV
    have a0 := cell_of_row (k := 0) hgV rfl
    have a1 := cell_of_row (k := 1) hgV rfl
    have HR1 : Hid (V.rangeAt w.heap.size 0 cm) := r1
    have HR2 : Hid (V.rangeAt (w.heap.size + 1) 0 ca) := r2
    have HBW : Hid (Below w.heap.size w V) := hbw
    clear hbV hgV r1 r2 hbw HZ hlk hlk2 hMa hBa cwa dX hX' hbX hgX hZa hZb t1 t2 t3 t4 kZ sZ gZ cZ
    go_wp2_with fail
    go_ret
    exact ⟨rfl, HBW.out⟩)
end Go.Proofs.YtajomnfeicfdlaaGreatDoor
/- The walk of RpcTill. -/
namespace Go.Proofs.YtajomnfeicfdlaaGreatDoor
open Go.Shelf Go.RowKit Go.Lib
set_option linter.unusedVariables false
set_option linter.unusedSimpArgs false
attribute [local go_sem ↓] Go.wp_at_zero Go.wp_at_succ
/-- Whether an Installed of a file answers what was asked. -/
def fitF (f : Fl) (x : Int × Mg) : Bool := decide (x.2.k = 7) && shdP x.2.fl f
/-- All that was asked is a Start or an Install. -/
theorem chk_kinds {xs : List (Int × Mg)} (h : chkP xs = 0) : ∀ x ∈ xs, x.2.k = 2 ∨ x.2.k = 7 := fun x hx => by
 unfold chkP at h
 have hn : ¬ (512 < xs.length ∨ anyP wrongP xs = true) := fun e => by rw [if_pos e] at h; omega
 have hw : wrongP x = false := by
  cases hq : wrongP x with
  | false => rfl
  | true => exact absurd (Or.inr (by unfold anyP; exact List.any_eq_true.2 ⟨x, hx, hq⟩)) hn
 unfold wrongP at hw
 have ha : anP (x.2.k : Int) = true := by
  cases hq : anP (x.2.k : Int) with
  | true => rfl
  | false => rw [hq] at hw; simp at hw
 unfold anP at ha
 simp at ha
 omega
theorem fits_8 {K K' : Nat → Prop} {W : World} {ca cm : List Value} {a b : Mg} (ha : MsgIs K W ca.toArray a) (hb : MsgIs K' W cm.toArray b) (h8 : b.k = 8) (h27 : a.k = 2 ∨ a.k = 7) (tn : Int) :
  Calls Tryz.prog 33 #[.agg cm.toArray, .agg ca.toArray] W fun e w' => e = .returned (.bool (fitF b.fl (tn, a))) ∧ Below W.heap.size W w' := by
 have hm : cm[0]? = some (.int .u8 8) := by have := hb.kc; rw [h8] at this; simpa using this
 rcases h27 with h | h
 ·have he : fitF b.fl (tn, a) = false := by unfold fitF; simp [h]
  rw [he]
  exact fits_start cm ca W (by simpa using hb.size) (by simpa using ha.size) hm (by have := ha.kc; rw [h] at this; simpa using this)
 ·have he : fitF b.fl (tn, a) = shdP a.fl b.fl := by unfold fitF; simp [h]
  rw [he]
  exact fits_file ha hb h h8
/-- What is left behind an Installed of a file from a node. -/
def leftF (f : Fl) (fr : Int) (xs : List (Int × Mg)) : List (Int × Mg) := xs.filter (fun x => !ansP fr (fitF f) x)
/-- Answer, where all that was asked is a Start or an Install. -/
theorem answer_8 (v : Value) (fr : Int) (cm : List Value) (m : Mg) (xs : List (Int × Mg)) (K : Nat → Prop) (w : World) (h : ListIs rAsk 48 648 K w v xs) (hm : MsgIs K w cm.toArray m) (h8 : m.k = 8) (hK : ∀ b, K b → b < w.heap.size) (hx : ∀ x ∈ xs, x.2.k = 2 ∨ x.2.k = 7) :
  Calls Tryz.prog 19 #[.agg #[v], .int .i64 fr, .agg cm.toArray] w fun e w' => ∃ q c, e = .returned (.tuple #[.agg #[.slice q (leftF m.fl fr xs).length c], .bool (decide ((leftF m.fl fr xs).length < xs.length))]) ∧ ListIs rAsk 48 648 (From w.heap.size w') w' (.slice q (leftF m.fl fr xs).length c) (leftF m.fl fr xs) ∧ Below w.heap.size w w' :=
 answer_any v fr (fitF m.fl) cm xs K w h (by simpa using hm.size) hK (fun W hb x hxx _ cl hl hc => fits_8 hc (hm.keep (fun _ h => h) (kept_of hK hb)) h8 (hx x hxx) x.1)
theorem leftF_none {f : Fl} {fr : Int} {xs : List (Int × Mg)} (h : decide ((leftF f fr xs).length < xs.length) = false) : leftF f fr xs = xs := by
 have h1 := of_decide_eq_false h
 unfold leftF at h1 ⊢
 have hs : (xs.filter (fun x => !ansP fr (fitF f) x)).Sublist xs := List.filter_sublist
 exact hs.eq_of_length_le (by omega)
theorem leftF_more (f : Fl) (fr tn : Int) (xs : List (Int × Mg)) (m : Mg) : leftF f fr (xs ++ [(tn, m)]) = leftF f fr xs ++ if ansP fr (fitF f) (tn, m) then [] else [(tn, m)] := by
 unfold leftF
 rw [List.filter_append]
 cases h : ansP fr (fitF f) (tn, m) <;> simp [h]
theorem file_boxes (w : World) (v : Value) (c : Array Value) : ∃ W0, (w.alloc (.cells #[v] 38)).alloc (.cells c 44) = W0 ∧ Below w.heap.size w W0 ∧ W0.heap.size = w.heap.size + 2 ∧ W0.heap[w.heap.size]? = some (.cells #[v] 38 (0, 0)) ∧ W0.heap[w.heap.size + 1]? = some (.cells c 44 (0, 0)) := by
 refine ⟨_, rfl, ((Below.refl _ _).alloc (Nat.le_refl _) _).alloc (by simp) _, by simp, ?_, ?_⟩
 ·rw [hao _ _ _ (by simp)]; exact heap_alloc_new w _
 ·have := heap_alloc_new (w.alloc (.cells #[v] 38)) (.cells c 44)
  simpa using this
theorem FileIs.keep {K : Nat → Prop} {W W' : World} {vc vr : Value} {f : Fl} (h : FileIs K W vc vr f) (hK : ∀ b, K b → b < W.heap.size) (hb : Below W.heap.size W W') : FileIs K W' vc vr f := ⟨h.t, h.v, h.s, h.c.mono mCl (fun _ h => h) (kept_of hK hb), h.r.mono mRow (fun _ h => h) (kept_of hK hb)⟩
/-- A file without its rows. -/
def fD (f : Fl) : Fl := ⟨f.t, f.v, f.s, f.c, []⟩
theorem fD_is {K : Nat → Prop} {W : World} {vc vr : Value} {f : Fl} (h : FileIs K W vc vr f) : FileIs K W vc (.slice none 0 0) (fD f) := ⟨h.t, h.v, h.s, h.c, ListIs.nil _ _ _ _ _⟩
theorem cF_one {K : Nat → Prop} {W : World} {k : Nat} {f : Fl} {vc vr : Value} (h : FileIs K W vc vr f) : (cF k f vc vr).toArray.all (·.oneCell') = true := by
 obtain ⟨-, -, -, ⟨q1, c1, rfl, -, -⟩, ⟨q2, c2, rfl, -, -⟩⟩ := h
 simp [cF, Value.oneCell']
set_option maxRecDepth 100000 in
set_option maxHeartbeats 8000000 in
theorem till_any (v : Value) (xs : List (Int × Mg)) (tn : Int) (f : Fl) (vc vr : Value) (on : Int) (K : Nat → Prop) (w : World) (h : ListIs rAsk 48 648 K w v xs) (hf : FileIs K w vc vr f) (h64 : I64 tn) (hK : ∀ b, K b → b < w.heap.size) (hT : Lib.Utf8Tabs 0 1 w) (h2 : 1 < w.heap.size) :
  Calls Tryz.prog 5 #[.agg #[v], .int .i64 tn, .agg #[.string f.t, .int .u64 (f.v.b : Int), .int .u64 (f.v.l : Int), .int .i64 f.s, vc, vr], .int .i64 on] w fun e w' => e = .returned (.bool true) ∧ Below w.heap.size w w' := by
 obtain ⟨qc, nc, cc, rfl⟩ : ∃ q n c, vc = .slice q n c := by obtain ⟨q, c, h, _, _⟩ := hf.c; exact ⟨q, _, c, h⟩
 obtain ⟨qr, nr, cr, rfl⟩ : ∃ q n c, vr = .slice q n c := by obtain ⟨q, c, h, _, _⟩ := hf.r; exact ⟨q, _, c, h⟩
 obtain ⟨W0, hW0, hb0, hs0, g0, g1⟩ := file_boxes w v #[.string f.t, .int .u64 (f.v.b : Int), .int .u64 (f.v.l : Int), .int .i64 f.s, .slice qc nc cc, .slice qr nr cr]
 have HV : Hid (∀ V, Below W0.heap.size W0 V → V.cell? ⟨w.heap.size, 0, none⟩ = some v ∧ V.heap[w.heap.size + 1]? = some (.cells #[.string f.t, .int .u64 (f.v.b : Int), .int .u64 (f.v.l : Int), .int .i64 f.s, .slice qc nc cc, .slice qr nr cr] 44 (0, 0)) ∧ Below w.heap.size w V ∧ ListIs rAsk 48 648 K V v xs ∧ (∀ b, K b → b < V.heap.size) ∧ FileIs K V (.slice qc nc cc) (.slice qr nr cr) f ∧ Lib.Utf8Tabs 0 1 V ∧ 1 < V.heap.size) := fun V hb => by
  have hbw : Below w.heap.size w V := hb0.trans (hb.mono hb0.size)
  exact ⟨(hb.cell (p := ⟨w.heap.size, 0, none⟩) (by show w.heap.size < _; omega)).trans (cell_of_row g0 rfl), by rw [hb.block _ (by omega)]; exact g1, hbw, ListIs.later mAsk h hK hbw, fun b hk => Nat.lt_of_lt_of_le (hK b hk) hbw.size, hf.keep hK hbw, Utf8Tabs.later hT h2 hbw, Nat.lt_of_lt_of_le h2 hbw.size⟩
 have HON : Hid ((cF 7 f (.slice qc nc cc) (.slice qr nr cr)).toArray.all (·.oneCell') = true ∧ (cF 8 (fD f) (.slice qc nc cc) (.slice none 0 0)).toArray.all (·.oneCell') = true) := ⟨cF_one hf, cF_one (fD_is hf)⟩
 have CL := hid (lives_any W0 (Utf8Tabs.later hT h2 hb0) (Nat.lt_of_lt_of_le h2 hb0.size))
 have C1 : Hid (∀ V, Below W0.heap.size W0 V → _) := fun V hb => by
  obtain ⟨-, -, -, t4, t5, t6, t7, t8⟩ := HV.out V hb
  exact ask_any v tn (cF 7 f (.slice qc nc cc) (.slice qr nr cr)) (mF 7 f) xs K V t4 (mF_is 7 (by omega) f (.slice qc nc cc) (.slice qr nr cr) K V t6) h64 t5 t7 t8
 obtain ⟨q0, c0, rfl, hby, -⟩ := id h
 have hx63 : xs.length ≤ 217187482030 := by omega
 have I63 : Hid ((Tryz.prog.info? 63).map (·.size) = some 47) := size49
 obtain ⟨k, hk⟩ : ∃ k, refP xs tn (mF 7 f) = k := ⟨_, rfl⟩
 obtain ⟨ys, hys⟩ : ∃ ys, askL xs tn (mF 7 f) = ys := ⟨_, rfl⟩
 have HRK : Hid (refP xs tn (mF 7 f) = k) := hk
 have HYS : Hid (askL xs tn (mF 7 f) = ys) := hys
 have H64 : Hid (I64 tn) := h64
 have HS0 : Hid (W0.heap.size = w.heap.size + 2) := hs0
 rw [hk, hys] at C1
 clear h hf h64 hK hT h2 hb0 hs0 g0 g1 hby hk hys
 go_enter Tryz.func5, Tryz.ntmps5
 go_wp2_with fail
 refine CL.out.mono ?_
 rintro e w1 ⟨rfl, hb1⟩
 obtain ⟨t1, t2, -⟩ := HV.out w1 hb1
 have d0 := cell_of_row (k := 0) t2 rfl
 have d1 := cell_of_row (k := 1) t2 rfl
 have d2 := cell_of_row (k := 2) t2 rfl
 have d3 := cell_of_row (k := 3) t2 rfl
 have d4 := cell_of_row (k := 4) t2 rfl
 have d5 := cell_of_row (k := 5) t2 rfl
 obtain ⟨WA, hWA, hth, WS, hWS, hrs, hss, hbs⟩ := new_box w1 (cF 7 f (.slice qc nc cc) (.slice qr nr cr)) rfl
 have HTH : Hid (WA.there w1.heap.size 0 (cF 7 f (.slice qc nc cc) (.slice qr nr cr)).toArray.size) := hth
 have HWS : Hid (WA.setCells w1.heap.size 0 (cF 7 f (.slice qc nc cc) (.slice qr nr cr)).toArray.toList = WS) := hWS
 have HRS : Hid (WS.rangeAt w1.heap.size 0 (cF 7 f (.slice qc nc cc) (.slice qr nr cr))) := hrs
 have hBS : Below W0.heap.size W0 WS := hb1.trans (hbs.mono hb1.size)
 have HBS : Hid (Below W0.heap.size W0 WS) := hBS
 have HSS : Hid (WS.heap.size = w1.heap.size + 1) := hss
 have r1 := (HV.out WS hBS).1
 have CC1 := hid (C1.out WS hBS)
 clear hb1 t2 C1 CL hW0 hth hWS hrs hss hbs hBS
 unfold zc at hWA
 go_wp2_with (first | (refine wpList_store_mid rfl 63 _ _ rfl w1.heap.size 0 (cF 7 f (.slice qc nc cc) (.slice qr nr cr)).toArray rfl rfl HTH.out I63.out HON.out.1 ?_; rw [HWS.out]) | (refine wpList_load_mid rfl 63 _ rfl w1.heap.size 0 rfl (cF 7 f (.slice qc nc cc) (.slice qr nr cr)) _ HRS.out Tryz.underlying63 rfl I63.out ?_))
 refine CC1.out.mono ?_
 rintro e w3 ⟨q3, c3, rfl, hl3, hb3⟩
 obtain ⟨w4, hw4, hb4, hg4, hs4⟩ := one_box w3 (.slice q3 ys.length c3) 38
 have hb24 : Below WS.heap.size WS w4 := hb3.trans (hb4.mono hb3.size)
 have hB4 : Below W0.heap.size W0 w4 := HBS.out.trans (hb24.mono HBS.out.size)
 have hl4 : ListIs rAsk 48 648 (fun b => b < w3.heap.size) w4 (.slice q3 ys.length c3) ys := hl3.mono mAsk (fun b h => h.2) (kept_of (fun b h => h.2) hb4)
 have r4 := cell_of_row (k := 0) hg4 rfl
 obtain ⟨s1, s2, s3, s4, s5, s6, s7, s8⟩ := HV.out w4 hB4
 by_cases hk0 : k = 0
 ·subst hk0
  obtain rfl : xs ++ [(tn, mF 7 f)] = ys := by rw [← HYS.out]; unfold askL; rw [if_pos HRK.out]
  have hl1 : (xs ++ [(tn, mF 7 f)]).length = xs.length + 1 := by simp
  rw [hl1] at hl4 r4 hw4 ⊢
  have HGG : Hid (w4.heap[w3.heap.size]? = some (.cells #[.slice q3 (xs.length + 1) c3] 38 (0, 0))) := by rw [hl1] at hg4; exact hg4
  have HSG : Hid (w4.heap.size = w3.heap.size + 1) := hs4
  have HB24 : Hid (Below WS.heap.size WS w4) := hb24
  clear hl3 hb3 hb4 hg4 hs4 hb24 CC1 r1 d0 d1 d2 d3 d4 d5 t1 hWA
  have d0 := cell_of_row (k := 0) s2 rfl
  have d1 := cell_of_row (k := 1) s2 rfl
  have d2 := cell_of_row (k := 2) s2 rfl
  have d3 := cell_of_row (k := 3) s2 rfl
  have d4 := cell_of_row (k := 4) s2 rfl
  have d5 := cell_of_row (k := 5) s2 rfl
  obtain ⟨WA2, hWA2, hth2, X, hWS2, hrs2, hss2, hbs2⟩ := new_box (w4.alloc (.cells #[.string f.t, .int .u64 (f.v.b : Int), .int .u64 (f.v.l : Int), .int .i64 f.s, .slice qc nc cc, .slice none 0 0] 44)) (cF 8 (fD f) (.slice qc nc cc) (.slice none 0 0)) rfl
  have hs5 : (w4.alloc (.cells #[.string f.t, .int .u64 (f.v.b : Int), .int .u64 (f.v.l : Int), .int .i64 f.s, .slice qc nc cc, .slice none 0 0] 44)).heap.size = w4.heap.size + 1 := by simp
  rw [hs5] at hth2 hWS2 hrs2 hss2
  have hb5 : Below w4.heap.size w4 (w4.alloc (.cells #[.string f.t, .int .u64 (f.v.b : Int), .int .u64 (f.v.l : Int), .int .i64 f.s, .slice qc nc cc, .slice none 0 0] 44)) := (Below.refl _ _).alloc (Nat.le_refl _) _
  have hbX : Below w4.heap.size w4 X := hb5.trans (hbs2.mono (by rw [hs5]; omega))
  have hsX : X.heap.size = w4.heap.size + 2 := by omega
  have HTH2 : Hid (WA2.there (w4.heap.size + 1) 0 (cF 8 (fD f) (.slice qc nc cc) (.slice none 0 0)).toArray.size) := hth2
  have HWS2 : Hid (WA2.setCells (w4.heap.size + 1) 0 (cF 8 (fD f) (.slice qc nc cc) (.slice none 0 0)).toArray.toList = X) := hWS2
  have HRS2 : Hid (X.rangeAt (w4.heap.size + 1) 0 (cF 8 (fD f) (.slice qc nc cc) (.slice none 0 0))) := hrs2
  have hBX : Below W0.heap.size W0 X := hB4.trans (hbX.mono hB4.size)
  have e0 := (HV.out X hBX).1
  have HG4 : Hid (w4.heap[w3.heap.size]? = some (.cells #[.slice q3 (xs.length + 1) c3] 38 (0, 0)) ∧ w4.heap.size = w3.heap.size + 1) := ⟨HGG.out, HSG.out⟩
  have HKX : Hid (∀ V, Below X.heap.size X V → V.cell? ⟨w.heap.size, 0, none⟩ = some (.slice q0 xs.length c0) ∧ V.cell? ⟨w3.heap.size, 0, none⟩ = some (.slice q3 (xs.length + 1) c3) ∧ V.rangeAt (w4.heap.size + 1) 0 (cF 8 (fD f) (.slice qc nc cc) (.slice none 0 0)) ∧ V.rangeAt w1.heap.size 0 (cF 7 f (.slice qc nc cc) (.slice qr nr cr)) ∧ Below W0.heap.size W0 V ∧ ListIs rAsk 48 648 (fun b => b < w3.heap.size) V (.slice q3 (xs.length + 1) c3) (xs ++ [(tn, mF 7 f)]) ∧ w3.heap.size < V.heap.size) := fun V hb => by
   have h1 : Below w4.heap.size w4 V := hbX.trans (hb.mono hbX.size)
   have h0 : Below W0.heap.size W0 V := hB4.trans (h1.mono hB4.size)
   have hs := HG4.out.2
   have h24 := HB24.out
   exact ⟨(HV.out V h0).1, (h1.cell (p := ⟨w3.heap.size, 0, none⟩) (by show w3.heap.size < _; omega)).trans (cell_of_row HG4.out.1 rfl), rat_below HRS2.out hb (by omega), rat_below (rat_below HRS.out h24 (by have := HSS.out; omega)) h1 (by have := HSS.out; have := h24.size; omega), h0, hl4.mono mAsk (fun _ h => h) (kept_of (fun b h => by have h' : b < w3.heap.size := h; omega) h1), by have := h1.size; omega⟩
  unfold zc at hWA2
  clear hth2 hWS2 hrs2 hss2 hbs2 hs5 hb5
  go_wp2_with (first | (refine wpList_store_mid rfl 63 _ _ rfl (w4.heap.size + 1) 0 (cF 8 (fD f) (.slice qc nc cc) (.slice none 0 0)).toArray rfl rfl HTH2.out I63.out HON.out.2 ?_; rw [HWS2.out]) | (refine wpList_load_mid rfl 63 _ rfl (w4.heap.size + 1) 0 rfl (cF 8 (fD f) (.slice qc nc cc) (.slice none 0 0)) _ HRS2.out Tryz.underlying63 rfl I63.out ?_))
  have hkin := chk_kinds (ref_zero HRK.out).1
  have hkiny : ∀ x ∈ xs ++ [(tn, mF 7 f)], x.2.k = 2 ∨ x.2.k = 7 := fun x hx => by
   rcases List.mem_append.1 hx with hx | hx
   ·exact hkin x hx
   ·rw [List.mem_singleton.1 hx]; exact .inr rfl
  have CB : Hid (∀ V, Below X.heap.size X V → ∀ fr : Int, Calls Tryz.prog 19 #[.agg #[.slice q0 xs.length c0], .int .i64 fr, .agg (cF 8 (fD f) (.slice qc nc cc) (.slice none 0 0)).toArray] V fun e w' => ∃ q c, e = .returned (.tuple #[.agg #[.slice q (leftF (fD f) fr xs).length c], .bool (decide ((leftF (fD f) fr xs).length < xs.length))]) ∧ ListIs rAsk 48 648 (From V.heap.size w') w' (.slice q (leftF (fD f) fr xs).length c) (leftF (fD f) fr xs) ∧ Below V.heap.size V w') := fun V hb fr => by
   obtain ⟨-, -, -, -, a5, -, -⟩ := HKX.out V hb
   obtain ⟨-, -, -, t4, t5, t6, -, -⟩ := HV.out V a5
   exact answer_8 _ fr _ (mF 8 (fD f)) xs K V t4 (mF_is 8 (by omega) (fD f) _ _ K V (fD_is t6)) rfl t5 hkin
  have CY : Hid (∀ V, Below X.heap.size X V → ∀ fr : Int, Calls Tryz.prog 19 #[.agg #[.slice q3 (xs.length + 1) c3], .int .i64 fr, .agg (cF 8 (fD f) (.slice qc nc cc) (.slice none 0 0)).toArray] V fun e w' => ∃ q c, e = .returned (.tuple #[.agg #[.slice q (leftF (fD f) fr (xs ++ [(tn, mF 7 f)])).length c], .bool (decide ((leftF (fD f) fr (xs ++ [(tn, mF 7 f)])).length < xs.length + 1))]) ∧ ListIs rAsk 48 648 (From V.heap.size w') w' (.slice q (leftF (fD f) fr (xs ++ [(tn, mF 7 f)])).length c) (leftF (fD f) fr (xs ++ [(tn, mF 7 f)])) ∧ Below V.heap.size V w') := fun V hb fr => by
   obtain ⟨-, -, -, -, a5, a6, a7⟩ := HKX.out V hb
   obtain ⟨-, -, t3, -, t5, t6, -, -⟩ := HV.out V a5
   have := answer_8 _ fr _ (mF 8 (fD f)) _ (fun b => b < V.heap.size) V (a6.mono mAsk (fun b h => by have h' : b < w3.heap.size := h; show b < _; omega) (Kept.refl _ _)) ((mF_is 8 (by omega) (fD f) _ _ K V (fD_is t6)).keep (fun b h => t5 b h) (Kept.refl _ _)) rfl (fun b h => h) hkiny
   rw [hl1] at this
   exact this
  have HFT : Hid (∀ fr, ansP fr (fitF (fD f)) (tn, mF 7 f) = decide (tn = fr)) := fun fr => by
   show ansP _ _ _ = _
   unfold ansP fitF
   rw [show (mF 7 f).k = 7 from rfl, show shdP (mF 7 f).fl (fD f) = true by unfold shdP mF fD; simp]
   simp
  have CC2 := hid (CB.out X (Below.refl _ _) tn)
  refine CC2.out.mono ?_
  rintro e w6 ⟨q6, c6, rfl, hl6, hb6⟩
  obtain ⟨w7, hw7, hb7, hg7, hs7⟩ := one_box w6 (.slice q6 (leftF (fD f) tn xs).length c6) 38
  have hbX7 : Below X.heap.size X w7 := hb6.trans (hb7.mono hb6.size)
  obtain ⟨a1, a2, a3, a4, a5, a6, a7⟩ := HKX.out w7 hbX7
  have HF7 : Hid (Below w.heap.size w w7) := (HV.out w7 a5).2.2.1
  have HBX7 : Hid (Below X.heap.size X w7) := hbX7
  cases hr1 : decide ((leftF (fD f) tn xs).length < xs.length) with
  | true =>
   clear hl6 hb6 hb7 hg7 hs7 hbX7 a1 a2 a3 a4 a5 a6 a7 CC2 e0 hWA2
   go_wp2_with fail
   go_ret
   exact ⟨rfl, HF7.out⟩
  | false =>
   have hlx := leftF_none hr1
   have hly : leftF (fD f) tn (xs ++ [(tn, mF 7 f)]) = xs := by rw [leftF_more, HFT.out, hlx]; simp
   have CC3 := hid (CY.out w7 hbX7 tn)
   rw [hly] at CC3
   rw [hlx] at hw7 ⊢
   have HR7 : Hid (w7.rangeAt (w4.heap.size + 1) 0 (cF 8 (fD f) (.slice qc nc cc) (.slice none 0 0))) := a3
   have zz : decide (xs.length < xs.length + 1) = true := decide_eq_true (by omega)
   rw [zz] at CC3
   clear hl6 hb6 hb7 hg7 hs7 hbX7 a1 a3 a4 a5 a6 a7 CC2 e0 hWA2 hr1 hlx hly zz
   go_wp2_with (refine wpList_load_mid rfl 63 _ rfl (w4.heap.size + 1) 0 rfl (cF 8 (fD f) (.slice qc nc cc) (.slice none 0 0)) _ HR7.out Tryz.underlying63 rfl I63.out ?_)
   refine CC3.out.mono ?_
   rintro e w8 ⟨q8, c8, rfl, hl8, hb8⟩
   obtain ⟨w9, hw9, hb9, hg9, hs9⟩ := one_box w8 (.slice q8 xs.length c8) 38
   have hbX9 : Below X.heap.size X w9 := HBX7.out.trans ((hb8.trans (hb9.mono hb8.size)).mono HBX7.out.size)
   have hl9 : ListIs rAsk 48 648 (fun b => b < w8.heap.size) w9 (.slice q8 xs.length c8) xs := hl8.mono mAsk (fun b h => h.2) (kept_of (fun b h => h.2) hb9)
   have HKY : Hid (∀ V, Below w9.heap.size w9 V → (V.cell? ⟨w.heap.size, 0, none⟩ = some (.slice q0 xs.length c0) ∧ V.cell? ⟨w3.heap.size, 0, none⟩ = some (.slice q3 (xs.length + 1) c3) ∧ V.rangeAt (w4.heap.size + 1) 0 (cF 8 (fD f) (.slice qc nc cc) (.slice none 0 0)) ∧ V.rangeAt w1.heap.size 0 (cF 7 f (.slice qc nc cc) (.slice qr nr cr)) ∧ Below W0.heap.size W0 V ∧ ListIs rAsk 48 648 (fun b => b < w3.heap.size) V (.slice q3 (xs.length + 1) c3) (xs ++ [(tn, mF 7 f)]) ∧ w3.heap.size < V.heap.size) ∧ V.cell? ⟨w8.heap.size, 0, none⟩ = some (.slice q8 xs.length c8) ∧ ListIs rAsk 48 648 (fun b => b < w8.heap.size) V (.slice q8 xs.length c8) xs ∧ w8.heap.size < V.heap.size) := fun V hb => ⟨HKX.out V (hbX9.trans (hb.mono hbX9.size)), (hb.cell (p := ⟨w8.heap.size, 0, none⟩) (by show w8.heap.size < _; omega)).trans (cell_of_row hg9 rfl), hl9.mono mAsk (fun _ h => h) (kept_of (fun b h => by have h' : b < w8.heap.size := h; omega) hb), by have := hb.size; omega⟩
   have CAG : Hid (∀ V, Below w9.heap.size w9 V → Calls Tryz.prog 17 #[.agg #[.slice q8 xs.length c8], .int .i64 tn, .agg (cF 7 f (.slice qc nc cc) (.slice qr nr cr)).toArray] V fun e w' => ∃ q c, e = .returned (.tuple #[.agg #[.slice q (xs.length + 1) c], .int .i64 0]) ∧ ListIs rAsk 48 648 (From V.heap.size w') w' (.slice q (xs.length + 1) c) (xs ++ [(tn, mF 7 f)]) ∧ Below V.heap.size V w') := fun V hb => by
    obtain ⟨⟨-, -, -, -, a5, -, -⟩, -, b3, b4⟩ := HKY.out V hb
    obtain ⟨-, -, -, -, t5, t6, t7, t8⟩ := HV.out V a5
    have := ask_any (.slice q8 xs.length c8) tn (cF 7 f (.slice qc nc cc) (.slice qr nr cr)) (mF 7 f) xs (fun b => b < V.heap.size) V (b3.mono mAsk (fun b h => by have h' : b < w8.heap.size := h; show b < _; omega) (Kept.refl _ _)) ((mF_is 7 (by omega) f _ _ K V t6).keep (fun b h => t5 b h) (Kept.refl _ _)) H64.out (fun b h => h) t7 t8
    rw [show askL xs tn (mF 7 f) = xs ++ [(tn, mF 7 f)] by unfold askL; rw [if_pos HRK.out], HRK.out, hl1] at this
    exact this
   have CS1 : Hid (Calls Tryz.prog 18 #[.agg #[.slice q8 xs.length c8], .agg #[.slice q0 xs.length c0]] w9 fun e w' => e = .returned (.bool true) ∧ Below w9.heap.size w9 w') := by
    obtain ⟨⟨-, -, -, -, a5, -, -⟩, -, b3, b4⟩ := HKY.out w9 (Below.refl _ _)
    obtain ⟨-, -, -, t4, t5, -⟩ := HV.out w9 a5
    exact osame_eq _ _ xs _ _ w9 b3 t4 (fun b h => by have h' : b < w8.heap.size := h; omega) t5
   have CK1 : Hid (∀ V, Below w9.heap.size w9 V → Calls Tryz.prog 20 #[.agg #[.slice q3 (xs.length + 1) c3]] V fun e w' => e = .returned (.int .i64 0) ∧ Below V.heap.size V w') := fun V hb => by
    obtain ⟨⟨-, -, -, -, a5, a6, a7⟩, -⟩ := HKY.out V hb
    obtain ⟨-, -, -, -, -, -, t7, t8⟩ := HV.out V a5
    have := ocheck_any (.slice q3 (xs.length + 1) c3) _ _ V a6 (fun b h => by have h' : b < w3.heap.size := h; omega) t7 t8
    rw [chk_more HRK.out] at this
    exact this
   obtain ⟨⟨a1, -⟩, b1, -⟩ := HKY.out w9 (Below.refl _ _)
   have HBX9 : Hid (Below X.heap.size X w9) := hbX9
   clear hl8 hb8 hb9 hg9 hs9 hbX9 hl9 CC3 HR7 a2
   go_wp2_with fail
   refine CS1.out.mono ?_
   rintro e w10 ⟨rfl, hb10⟩
   have CKK := hid (CK1.out w10 hb10)
   obtain ⟨⟨-, a2, -⟩, -⟩ := HKY.out w10 hb10
   have HB10 : Hid (Below w9.heap.size w9 w10) := hb10
   clear hb10 CS1 a1 b1
   go_wp2_with fail
   refine CKK.out.mono ?_
   rintro e w11 ⟨rfl, hb11⟩
   have hb911 : Below w9.heap.size w9 w11 := HB10.out.trans (hb11.mono HB10.out.size)
   clear hb11 CKK a2
   by_cases hon : on = tn
   ·have zo : (on != tn) = false := by simp [hon]
    have zo' : (tn != tn) = false := by simp
    clear hon
    obtain ⟨⟨a1, a2, a3, a4, a5, a6, a7⟩, b1, b2, b3⟩ := HKY.out w11 hb911
    have HR9 : Hid (w11.rangeAt w1.heap.size 0 (cF 7 f (.slice qc nc cc) (.slice qr nr cr))) := a4
    have CQ := hid (CAG.out w11 hb911)
    have HVB : Hid (Below w9.heap.size w9 w11) := hb911
    clear a1 a2 a3 a4 a5 a6 a7 b2 b3
    go_wp2_with (refine wpList_load_mid rfl 63 _ rfl w1.heap.size 0 rfl (cF 7 f (.slice qc nc cc) (.slice qr nr cr)) _ HR9.out Tryz.underlying63 rfl I63.out ?_)
    refine CQ.out.mono ?_
    rintro e w20 ⟨q20, c20, rfl, hl20, hb20⟩
    obtain ⟨w21, hw21, hb21, hg21, hs21⟩ := one_box w20 (.slice q20 (xs.length + 1) c20) 38
    have hb29 : Below w9.heap.size w9 w21 := HVB.out.trans ((hb20.trans (hb21.mono hb20.size)).mono HVB.out.size)
    obtain ⟨⟨a1, a2, a3, a4, a5, a6, a7⟩, b2, b3, b4⟩ := HKY.out w21 hb29
    have CZ : Hid (Calls Tryz.prog 18 #[.agg #[.slice q20 (xs.length + 1) c20], .agg #[.slice q3 (xs.length + 1) c3]] w21 fun e w' => e = .returned (.bool true) ∧ Below w21.heap.size w21 w') := osame_eq _ _ (xs ++ [(tn, mF 7 f)]) _ _ w21 (hl20.mono mAsk (fun _ h => h) (kept_of (fun b h => h.2) hb21)) a6 (fun b h => by have := h.2; omega) (fun b h => by have h' : b < w3.heap.size := h; omega)
    have r21 := cell_of_row (k := 0) hg21 rfl
    have HF21 : Hid (Below w.heap.size w w21) := (HV.out w21 a5).2.2.1
    clear b1 HR9 CQ hl20 hb20 hb21 hg21 hs21 hb29 a1 a3 a4 a5 a6 a7 b2 b3 b4 HVB
    go_wp2_with fail
    refine CZ.out.mono ?_
    rintro e w22 ⟨rfl, hb22⟩
    have HF22 : Hid (Below w.heap.size w w22) := HF21.out.trans (hb22.mono HF21.out.size)
    clear hb22 CZ r21 a2
    go_wp2_with fail
    go_ret
    exact ⟨rfl, HF22.out⟩
   ·have zo : (on != tn) = true := by simpa using hon
    have htf : decide (tn = on) = false := decide_eq_false (fun e => hon e.symm)
    have hly2 : leftF (fD f) on (xs ++ [(tn, mF 7 f)]) = leftF (fD f) on xs ++ [(tn, mF 7 f)] := by rw [leftF_more, HFT.out, htf]; simp
    obtain ⟨zs, hzs⟩ : ∃ zs, leftF (fD f) on xs = zs := ⟨_, rfl⟩
    have hzl : zs.length ≤ xs.length := by rw [← hzs]; exact List.length_filter_le _ _
    have hb3 : Below X.heap.size X w11 := HBX9.out.trans (hb911.mono HBX9.out.size)
    have CB2 := hid (CB.out w11 hb3 on)
    obtain ⟨rb, hrb⟩ : ∃ rb, decide (zs.length < xs.length) = rb := ⟨_, rfl⟩
    rw [hzs, hrb] at CB2
    have CY2 : Hid (∀ V, Below X.heap.size X V → Calls Tryz.prog 19 #[.agg #[.slice q3 (xs.length + 1) c3], .int .i64 on, .agg (cF 8 (fD f) (.slice qc nc cc) (.slice none 0 0)).toArray] V fun e w' => ∃ q c, e = .returned (.tuple #[.agg #[.slice q (zs.length + 1) c], .bool rb]) ∧ Below V.heap.size V w') := fun V hb => by
     have := CY.out V hb on
     rw [hly2, hzs] at this
     have hd : decide ((zs ++ [(tn, mF 7 f)]).length < xs.length + 1) = rb := by rw [← hrb]; simp
     rw [hd] at this
     refine this.mono ?_
     rintro e w' ⟨q, c, rfl, _, hb'⟩
     exact ⟨q, c, by simp, hb'⟩
    obtain ⟨⟨a1, -, a3, -⟩, -⟩ := HKY.out w11 hb911
    have HR11 : Hid (w11.rangeAt (w4.heap.size + 1) 0 (cF 8 (fD f) (.slice qc nc cc) (.slice none 0 0))) := a3
    have HB911 : Hid (Below w9.heap.size w9 w11) := hb911
    clear hly2 hzs hb3 a3 hb911 htf hon hrb
    go_wp2_with (refine wpList_load_mid rfl 63 _ rfl (w4.heap.size + 1) 0 rfl (cF 8 (fD f) (.slice qc nc cc) (.slice none 0 0)) _ HR11.out Tryz.underlying63 rfl I63.out ?_)
    refine CB2.out.mono ?_
    rintro e w12 ⟨q12, c12, rfl, -, hb12⟩
    obtain ⟨w13, hw13, hb13, hg13, hs13⟩ := one_box w12 (.slice q12 zs.length c12) 38
    have hb913 : Below w9.heap.size w9 w13 := HB911.out.trans ((hb12.trans (hb13.mono hb12.size)).mono HB911.out.size)
    obtain ⟨⟨-, a2, a3, -⟩, -⟩ := HKY.out w13 hb913
    have HR13 : Hid (w13.rangeAt (w4.heap.size + 1) 0 (cF 8 (fD f) (.slice qc nc cc) (.slice none 0 0))) := a3
    have CY3 := hid (CY2.out w13 (HBX9.out.trans (hb913.mono HBX9.out.size)))
    have HB913 : Hid (Below w9.heap.size w9 w13) := hb913
    have HG13 : Hid (w13.heap[w12.heap.size]? = some (.cells #[.slice q12 zs.length c12] 38 (0, 0)) ∧ w13.heap.size = w12.heap.size + 1) := ⟨hg13, hs13⟩
    clear hb12 hb13 hg13 hs13 hb913 a3 CB2 CY2 HR11 a1
    go_wp2_with (refine wpList_load_mid rfl 63 _ rfl (w4.heap.size + 1) 0 rfl (cF 8 (fD f) (.slice qc nc cc) (.slice none 0 0)) _ HR13.out Tryz.underlying63 rfl I63.out ?_)
    refine CY3.out.mono ?_
    rintro e w14 ⟨q14, c14, rfl, hb14⟩
    obtain ⟨w15, hw15, hb15, hg15, hs15⟩ := one_box w14 (.slice q14 (zs.length + 1) c14) 38
    have hb1315 : Below w13.heap.size w13 w15 := hb14.trans (hb15.mono hb14.size)
    have hb915 : Below w9.heap.size w9 w15 := HB913.out.trans (hb1315.mono HB913.out.size)
    have r15 := cell_of_row (k := 0) hg15 rfl
    have r13 : w15.cell? ⟨w12.heap.size, 0, none⟩ = some (.slice q12 zs.length c12) := (hb1315.cell (p := ⟨w12.heap.size, 0, none⟩) (by show w12.heap.size < _; have := HG13.out.2; omega)).trans (cell_of_row HG13.out.1 rfl)
    have zr : (rb != rb) = false := by simp
    have zl : ((zs.length : Int) + 1 != (zs.length : Int) + 1) = false := by simp
    clear hb14 hb15 hg15 hs15 hb1315 CY3 HR13 a2 HG13
    obtain ⟨⟨a1, a2, a3, a4, a5, a6, a7⟩, b1, b2, b3⟩ := HKY.out w15 hb915
    have HR9 : Hid (w15.rangeAt w1.heap.size 0 (cF 7 f (.slice qc nc cc) (.slice qr nr cr))) := a4
    have CQ := hid (CAG.out w15 hb915)
    have HVB : Hid (Below w9.heap.size w9 w15) := hb915
    clear a1 a2 a3 a4 a5 a6 a7 b2 b3
    go_wp2_with (refine wpList_load_mid rfl 63 _ rfl w1.heap.size 0 rfl (cF 7 f (.slice qc nc cc) (.slice qr nr cr)) _ HR9.out Tryz.underlying63 rfl I63.out ?_)
    refine CQ.out.mono ?_
    rintro e w20 ⟨q20, c20, rfl, hl20, hb20⟩
    obtain ⟨w21, hw21, hb21, hg21, hs21⟩ := one_box w20 (.slice q20 (xs.length + 1) c20) 38
    have hb29 : Below w9.heap.size w9 w21 := HVB.out.trans ((hb20.trans (hb21.mono hb20.size)).mono HVB.out.size)
    obtain ⟨⟨a1, a2, a3, a4, a5, a6, a7⟩, b2, b3, b4⟩ := HKY.out w21 hb29
    have CZ : Hid (Calls Tryz.prog 18 #[.agg #[.slice q20 (xs.length + 1) c20], .agg #[.slice q3 (xs.length + 1) c3]] w21 fun e w' => e = .returned (.bool true) ∧ Below w21.heap.size w21 w') := osame_eq _ _ (xs ++ [(tn, mF 7 f)]) _ _ w21 (hl20.mono mAsk (fun _ h => h) (kept_of (fun b h => h.2) hb21)) a6 (fun b h => by have := h.2; omega) (fun b h => by have h' : b < w3.heap.size := h; omega)
    have r21 := cell_of_row (k := 0) hg21 rfl
    have HF21 : Hid (Below w.heap.size w w21) := (HV.out w21 a5).2.2.1
    clear b1 HR9 CQ hl20 hb20 hb21 hg21 hs21 hb29 a1 a3 a4 a5 a6 a7 b2 b3 b4 HVB
    go_wp2_with fail
    refine CZ.out.mono ?_
    rintro e w22 ⟨rfl, hb22⟩
    have HF22 : Hid (Below w.heap.size w w22) := HF21.out.trans (hb22.mono HF21.out.size)
    clear hb22 CZ r21 a2
    go_wp2_with fail
    go_ret
    exact ⟨rfl, HF22.out⟩
 ·obtain rfl : xs = ys := by rw [← HYS.out]; unfold askL; rw [if_neg (by rw [HRK.out]; exact hk0)]
  have CS : Hid (Calls Tryz.prog 18 #[.agg #[.slice q3 xs.length c3], .agg #[.slice q0 xs.length c0]] w4 fun e w' => e = .returned (.bool true) ∧ Below w4.heap.size w4 w') := osame_eq _ _ xs _ _ w4 hl4 s4 (fun b h => by have h' : b < w3.heap.size := h; omega) s5
  have zk : (k != 0) = true := by simpa using hk0
  have HF4 : Hid (Below w.heap.size w w4) := s3
  clear hl3 hb3 hb4 hg4 hs4 hb24 hB4 hl4 s2 s3 s4 s5 s6 s7 s8 CC1 r1 d0 d1 d2 d3 d4 d5 t1 hWA hk0
  go_wp2_with fail
  refine CS.out.mono ?_
  rintro e w5 ⟨rfl, hb5⟩
  have HF5 : Hid (Below w.heap.size w w5) := HF4.out.trans (hb5.mono HF4.out.size)
  clear hb5 CS
  go_wp2_with fail
  go_ret
  exact ⟨rfl, HF5.out⟩
end Go.Proofs.YtajomnfeicfdlaaGreatDoor

/- What isShard answers. -/
import Derived.Test.YtajomnfeicfdlaaGreatDoorGhGiHaHb
import Derived.Great.BuildSlice
namespace Go.Proofs.YtajomnfeicfdlaaGreatDoor
open Go.Shelf Go.RowKit Go.Lib
set_option linter.unusedVariables false
set_option linter.unusedSimpArgs false
attribute [local go_sem ↓] Go.wp_at_zero Go.wp_at_succ
set_option maxRecDepth 100000 in
set_option maxHeartbeats 40000000 in
theorem isShard_of (tb vb sb : Bool) (ca cm : List Value) (a b : Fl) (p1 p2 p3 p4 : Option Addr) (n1 n2 n3 n4 c1 c2 c3 c4 : Nat) (w : World) (hla : ca.length = 47) (hlm : cm.length = 47)
  (ha : ∀ (j : Nat) (u : Value), ([.string a.t, .int .u64 (a.v.b : Int), .int .u64 (a.v.l : Int), .int .i64 a.s, .slice p1 n1 c1, .slice p2 n2 c2] : List Value)[j]? = some u → ca[40 + j]? = some u)
  (hm : ∀ (j : Nat) (u : Value), ([.string b.t, .int .u64 (b.v.b : Int), .int .u64 (b.v.l : Int), .int .i64 b.s, .slice p3 n3 c3, .slice p4 n4 c4] : List Value)[j]? = some u → cm[40 + j]? = some u)
  (hT : (a.t.toList == b.t.toList) = tb) (hv : ∀ w, (binOp .eql 40 (.agg #[.int .u64 (a.v.b : Int), .int .u64 (a.v.l : Int)]) (.agg #[.int .u64 (b.v.b : Int), .int .u64 (b.v.l : Int)])).run Tryz.prog w = .ok (.bool vb) w) (hS : (a.s == b.s) = sb) :
  Calls Tryz.prog 88 #[.agg ca.toArray, .agg cm.toArray] w fun e w' => e = .returned (.bool (tb && vb && sb)) ∧ Below w.heap.size w w' := by
 obtain ⟨W0, hW0, hb0, hs0, g0, g1⟩ := two_boxes w ca.toArray cm.toArray 63
 have x0 := cell_of_row (k := 40) g0 (by simpa using ha 0 _ rfl)
 have x1 := cell_of_row (k := 41) g0 (by simpa using ha 1 _ rfl)
 have x2 := cell_of_row (k := 42) g0 (by simpa using ha 2 _ rfl)
 have x3 := cell_of_row (k := 43) g0 (by simpa using ha 3 _ rfl)
 have x4 := cell_of_row (k := 44) g0 (by simpa using ha 4 _ rfl)
 have x5 := cell_of_row (k := 45) g0 (by simpa using ha 5 _ rfl)
 have y0 := cell_of_row (k := 40) g1 (by simpa using hm 0 _ rfl)
 have y1 := cell_of_row (k := 41) g1 (by simpa using hm 1 _ rfl)
 have y2 := cell_of_row (k := 42) g1 (by simpa using hm 2 _ rfl)
 have y3 := cell_of_row (k := 43) g1 (by simpa using hm 3 _ rfl)
 have y4 := cell_of_row (k := 44) g1 (by simpa using hm 4 _ rfl)
 have y5 := cell_of_row (k := 45) g1 (by simpa using hm 5 _ rfl)
 have l0 : w.heap.size < W0.heap.size := by omega
 have l1 : w.heap.size + 1 < W0.heap.size := by omega
 have HB0 : Hid (Below w.heap.size w W0) := hb0
 obtain ⟨n, hn⟩ : ∃ n, w.heap.size = n := ⟨_, rfl⟩
 obtain ⟨m, hm'⟩ : ∃ m, w.heap.size + 1 = m := ⟨_, rfl⟩
 have z0 : W0.drew.cell? ⟨w.heap.size, 40, none⟩ = some (.string a.t) := x0
 have z1 : W0.drew.cell? ⟨w.heap.size, 41, none⟩ = some (.int .u64 (a.v.b : Int)) := x1
 have z2 : W0.drew.cell? ⟨w.heap.size, 42, none⟩ = some (.int .u64 (a.v.l : Int)) := x2
 have z3 : W0.drew.cell? ⟨w.heap.size, 43, none⟩ = some (.int .i64 a.s) := x3
 have z4 : W0.drew.cell? ⟨w.heap.size, 44, none⟩ = some (.slice p1 n1 c1) := x4
 have z5 : W0.drew.cell? ⟨w.heap.size, 45, none⟩ = some (.slice p2 n2 c2) := x5
 have u0 : W0.drew.cell? ⟨w.heap.size + 1, 40, none⟩ = some (.string b.t) := y0
 have u1 : W0.drew.cell? ⟨w.heap.size + 1, 41, none⟩ = some (.int .u64 (b.v.b : Int)) := y1
 have u2 : W0.drew.cell? ⟨w.heap.size + 1, 42, none⟩ = some (.int .u64 (b.v.l : Int)) := y2
 have u3 : W0.drew.cell? ⟨w.heap.size + 1, 43, none⟩ = some (.int .i64 b.s) := y3
 have u4 : W0.drew.cell? ⟨w.heap.size + 1, 44, none⟩ = some (.slice p3 n3 c3) := y4
 have u5 : W0.drew.cell? ⟨w.heap.size + 1, 45, none⟩ = some (.slice p4 n4 c4) := y5
 clear g0 g1 ha hm hn hm' hb0
 cases tb <;> cases vb <;> cases sb
 all_goals
  go_enter Tryz.func88, Tryz.ntmps88
  go_wp2_with fail
  go_region_held3 (fun w' => w'.cell? ⟨w.heap.size, 40, none⟩ = some (.string a.t) ∧ w'.cell? ⟨w.heap.size, 41, none⟩ = some (.int .u64 (a.v.b : Int)) ∧ w'.cell? ⟨w.heap.size, 42, none⟩ = some (.int .u64 (a.v.l : Int)) ∧ w'.cell? ⟨w.heap.size, 43, none⟩ = some (.int .i64 a.s) ∧ w'.cell? ⟨w.heap.size, 44, none⟩ = some (.slice p1 n1 c1) ∧ w'.cell? ⟨w.heap.size, 45, none⟩ = some (.slice p2 n2 c2) ∧ w'.cell? ⟨w.heap.size + 1, 40, none⟩ = some (.string b.t) ∧ w'.cell? ⟨w.heap.size + 1, 41, none⟩ = some (.int .u64 (b.v.b : Int)) ∧ w'.cell? ⟨w.heap.size + 1, 42, none⟩ = some (.int .u64 (b.v.l : Int)) ∧ w'.cell? ⟨w.heap.size + 1, 43, none⟩ = some (.int .i64 b.s) ∧ w'.cell? ⟨w.heap.size + 1, 44, none⟩ = some (.slice p3 n3 c3) ∧ w'.cell? ⟨w.heap.size + 1, 45, none⟩ = some (.slice p4 n4 c4))
   (go_keep)
   (fail)
  all_goals (go_wp2_with fail)
  all_goals go_ret
  all_goals exact ⟨rfl, ((HB0.out.alloc HB0.out.size _).alloc (by simp; have := HB0.out.size; omega) _).drew⟩
end Go.Proofs.YtajomnfeicfdlaaGreatDoor
/- What fits answers of an Install and an Installed. -/
namespace Go.Proofs.YtajomnfeicfdlaaGreatDoor
open Go.Shelf Go.RowKit Go.Lib
set_option linter.unusedVariables false
set_option linter.unusedSimpArgs false
attribute [local go_sem ↓] Go.wp_at_zero Go.wp_at_succ
attribute [local go_sem] run_store_func' run_store_nilFunc
theorem wpList_load_midH {P : Program} {ops : Array Oper} {rest : List Oper} {op : Oper} {a : Act} {w : World} {Q : Exit → Act → World → Prop} (hw : Region.wanted op (yielded ops a.tmps) = true) (ty : TypeId) (x : Operand) (ho : op.op = .load ty x) (b o : Nat) (hx : a.eval x = .pointer (some ⟨b, o, none⟩)) (cs : List Value) (d : TypeDesc) (hc : w.rangeAt b o cs) (hu : P.underlying ty = some d) (hd : d.isRow = true) (hi : (P.info? ty).map (·.size) = some cs.length) (h : wpList P ops Q rest (a.put op.dst (.agg cs.toArray)) w) : wpList P ops Q (op :: rest) a w :=
 wpList_step fun K hK => by rw [if_pos hw]; exact wp_load_mid ty x ho b o hx cs d hc hu hd hi (hK _ _ h)
theorem range_box {W V : World} {b : Nat} {cl : List Value} {t : TypeId} (hg : W.heap[b]? = some (.cells cl.toArray t (0, 0))) (hb : Below W.heap.size W V) : V.rangeAt b 0 cl := fun j u hj => by
 rw [hb.cell (p := ⟨b, _, none⟩) (Array.getElem?_eq_some_iff.1 hg).1, Nat.zero_add]
 exact cell_of_row hg (by simpa using hj)
set_option maxRecDepth 100000 in
set_option maxHeartbeats 4000000 in
theorem fits_shard (r : Bool) (cm ca : List Value) (w : World) (hlm : cm.length = 47) (hla : ca.length = 47) (hkm : cm[0]? = some (.int .u8 8)) (hka : ca[0]? = some (.int .u8 7))
  (hc : ∀ W, Below w.heap.size w W → Calls Tryz.prog 88 #[.agg ca.toArray, .agg cm.toArray] W fun e w' => e = .returned (.bool r) ∧ Below W.heap.size W w') :
  Calls Tryz.prog 33 #[.agg cm.toArray, .agg ca.toArray] w fun e w' => e = .returned (.bool r) ∧ Below w.heap.size w w' := by
 obtain ⟨W0, hW0, hb0, hs0', hg1, hg0⟩ := two_boxes w cm.toArray ca.toArray 63
 have hs0 : w.heap.size + 1 < W0.heap.size := by omega
 have c0 : W0.cell? ⟨w.heap.size + 1, 0, none⟩ = some (.int .u8 7) := cell_of_row hg0 (by simpa using hka)
 have d0 : W0.drew.cell? ⟨w.heap.size + 1, 0, none⟩ = some (.int .u8 7) := c0
 have m0 : W0.cell? ⟨w.heap.size, 0, none⟩ = some (.int .u8 8) := cell_of_row hg1 (by simpa using hkm)
 have HL : Hid (∀ W r, W.heap[r]? = some (.map anMap 2) → (Instr.lookup 113 (.map (some r)) (.int .u8 7) true).run Tryz.prog W = .ok (.tuple #[.agg #[.int .u8 8, .func (.func 88) #[] #[]], .bool true]) W) := fun W r hr => look_of 7 hr
 have HB0 : Hid (Below w.heap.size w W0) := hb0
 have HC : Hid (∀ W, Below w.heap.size w W → Calls Tryz.prog 88 #[.agg ca.toArray, .agg cm.toArray] W fun e w' => e = .returned (.bool r) ∧ Below W.heap.size W w') := hc
 have HV : Hid (∀ V, Below W0.heap.size W0 V → V.rangeAt w.heap.size 0 cm ∧ V.rangeAt (w.heap.size + 1) 0 ca ∧ V.cell? ⟨w.heap.size, 0, none⟩ = some (.int .u8 8) ∧ Below w.heap.size w V) := fun V hb => ⟨range_box hg1 hb, range_box hg0 hb, (hb.cell (p := ⟨w.heap.size, 0, none⟩) (by show w.heap.size < _; omega)).trans m0, hb0.trans (hb.mono hb0.size)⟩
 have HIM : Hid ((Tryz.prog.info? 63).map (·.size) = some cm.length) := by show _ = _; rw [hlm]; exact size49
 have HIA : Hid ((Tryz.prog.info? 63).map (·.size) = some ca.length) := by show _ = _; rw [hla]; exact size49
 obtain ⟨X, hX⟩ : ∃ X, W0.drew.alloc (.cells #[.int .u8 0, .nilFunc] 111) = X := ⟨_, rfl⟩
 have hgX : X.heap[W0.heap.size]? = some (.cells #[.int .u8 0, .nilFunc] 111 (0, 0)) := by rw [← hX]; exact heap_alloc_new W0.drew _
 have hsX : W0.heap.size < X.heap.size := (Array.getElem?_eq_some_iff.1 hgX).1
 have hbX : Below W0.heap.size W0 X := by rw [← hX]; exact ((Below.refl _ _).drew).alloc (Nat.le_refl _) _
 have dX : X.cell? ⟨w.heap.size + 1, 0, none⟩ = some (.int .u8 7) := by rw [hbX.cell (p := ⟨w.heap.size + 1, 0, none⟩) hs0]; exact c0
 have hX' : (W0.alloc (.cells #[.int .u8 0, .nilFunc] 111)).drew = X := hX
 have C1 : Hid (Calls Tryz.prog 57 #[] W0.drew fun e w' => e = .returned (.map (some W0.heap.size)) ∧ w'.heap[W0.heap.size]? = some (.map anMap 2) ∧ Below W0.heap.size W0.drew w') := answers_any W0.drew
 have C2 := hid (answers_any X)
 have HS' : Hid (W0.heap.size = w.heap.size + 2) := hs0'
 clear hg0 hg1 hb0 hX hc m0 hka hkm hs0'
 go_enter Tryz.func33, Tryz.ntmps33
 go_wp2_with fail
 go_region_held3 (fun w' => w'.cell? ⟨w.heap.size + 1, 0, none⟩ = some (.int .u8 7))
  (first | assumption | (rw [World.cell?_alloc_lt _ _ _ (by show w.heap.size + 1 < _; assumption)]; assumption) | go_keep)
  ((first
   | (go_at_call 57; refine C1.out.mono ?_; rintro e wa ⟨rfl, hMa, hBa⟩; have hlk := HL.out _ _ hMa; have hlk2 := HL.out (wa.alloc (.cells #[.int .u8 0, .nilFunc] 111)) _ ((hao wa _ _ (Array.getElem?_eq_some_iff.1 hMa).1).trans hMa); have hwa : w.heap.size + 1 < wa.heap.size := Nat.lt_of_lt_of_le hs0 hBa.size; have cwa : wa.cell? ⟨w.heap.size + 1, 0, none⟩ = some (.int .u8 7) := (hBa.cell (p := ⟨w.heap.size + 1, 0, none⟩) hs0).trans d0; have HN : Hid (Below W0.heap.size W0 (wa.alloc (.cells #[.int .u8 8, .func (.func 88) #[] #[]] 111)) ∧ (wa.alloc (.cells #[.int .u8 8, .func (.func 88) #[] #[]] 111)).heap[wa.heap.size]? = some (.cells #[.int .u8 8, .func (.func 88) #[] #[]] 111 (0, 0))) := ⟨((Below.refl W0.heap.size W0).drew.trans hBa).alloc hBa.size _, heap_alloc_new wa _⟩)
   | (go_at_call 57; refine C2.out.mono ?_; rintro e wa ⟨rfl, hMa, hBa⟩; have hlk := HL.out _ _ hMa; have hlk2 := HL.out (wa.alloc (.cells #[.int .u8 0, .nilFunc] 111)) _ ((hao wa _ _ (Array.getElem?_eq_some_iff.1 hMa).1).trans hMa); have hwa : w.heap.size + 1 < wa.heap.size := Nat.lt_of_lt_of_le (Nat.lt_trans hs0 hsX) hBa.size; have cwa : wa.cell? ⟨w.heap.size + 1, 0, none⟩ = some (.int .u8 7) := (hBa.cell (p := ⟨w.heap.size + 1, 0, none⟩) (Nat.lt_trans hs0 hsX)).trans dX;  obtain ⟨Za, Zb, hZa, hZb, t1, t2, t3, t4, kZ, sZ, gZ⟩ := two_set ((hBa.block _ hsX).trans hgX) (.int .u8 8) (.func (.func 88) #[] #[]); have cZ : Zb.cell? ⟨w.heap.size + 1, 0, none⟩ = some (.int .u8 7) := (kZ.cell (p := ⟨w.heap.size + 1, 0, none⟩) (by show w.heap.size + 1 ≠ _; omega)).trans cwa; have HZ : Hid (Below W0.heap.size W0 Zb ∧ Zb.heap[W0.heap.size]? = some (.cells #[.int .u8 8, .func (.func 88) #[] #[]] 111 (0, 0))) := ⟨((Kept.of_below hbX (fun _ h => h)).trans ((Kept.of_below hBa (fun b (hb : b < W0.heap.size) => by omega)).trans (kZ.less fun b (hb : b < W0.heap.size) => by show b ≠ _; omega))).below, gZ⟩)))
 all_goals first
  |(obtain ⟨hbV, hgV⟩ := HN.out
    generalize wa.alloc (.cells #[.int .u8 8, .func (.func 88) #[] #[]] 111) = V at hbV hgV ⊢
    obtain ⟨r1, r2, cm0, hbw⟩ := HV.out V hbV
    have a0 := cell_of_row (k := 0) hgV rfl
    have a1 := cell_of_row (k := 1) hgV rfl
    have CC := hid (HC.out V hbw)
    have HR1 : Hid (V.rangeAt w.heap.size 0 cm) := r1
    have HR2 : Hid (V.rangeAt (w.heap.size + 1) 0 ca) := r2
    have HBW : Hid (Below w.heap.size w V) := hbw
    clear hbV hgV r1 r2 hbw HN hlk hlk2 hMa hBa cwa dX hX' hbX hgX
    go_wp2_with (first | (refine wpList_load_midH rfl 63 _ rfl (w.heap.size + 1) 0 rfl ca _ HR2.out Tryz.underlying63 rfl HIA.out ?_) | (refine wpList_load_midH rfl 63 _ rfl w.heap.size 0 rfl cm _ HR1.out Tryz.underlying63 rfl HIM.out ?_))
    refine CC.out.mono ?_
    rintro e w5 ⟨rfl, hb5⟩
    have HB5 : Hid (Below w.heap.size w w5) := HBW.out.trans (hb5.mono HBW.out.size)
    clear hb5 CC
    go_wp2_with fail
    go_ret
    exact ⟨rfl, HB5.out⟩)
  |(obtain ⟨hbV, hgV⟩ := HZ.out
    obtain ⟨V, hVV⟩ : ∃ V, Zb = V := ⟨_, rfl⟩
    rw [hVV] at hbV hgV ⊢
    obtain ⟨r1, r2, cm0, hbw⟩ := HV.out V hbV
    have a0 := cell_of_row (k := 0) hgV rfl
    have a1 := cell_of_row (k := 1) hgV rfl
    have CC := hid (HC.out V hbw)
    have HR1 : Hid (V.rangeAt w.heap.size 0 cm) := r1
    have HR2 : Hid (V.rangeAt (w.heap.size + 1) 0 ca) := r2
    have HBW : Hid (Below w.heap.size w V) := hbw
    clear hbV hgV r1 r2 hbw HZ hlk hlk2 hMa hBa cwa dX hX' hbX hgX hZa hZb t1 t2 t3 t4 kZ sZ gZ cZ
    go_wp2_with (first | (refine wpList_load_midH rfl 63 _ rfl (w.heap.size + 1) 0 rfl ca _ HR2.out Tryz.underlying63 rfl HIA.out ?_) | (refine wpList_load_midH rfl 63 _ rfl w.heap.size 0 rfl cm _ HR1.out Tryz.underlying63 rfl HIM.out ?_))
    refine CC.out.mono ?_
    rintro e w5 ⟨rfl, hb5⟩
    have HB5 : Hid (Below w.heap.size w w5) := HBW.out.trans (hb5.mono HBW.out.size)
    clear hb5 CC
    go_wp2_with fail
    go_ret
    exact ⟨rfl, HB5.out⟩)
end Go.Proofs.YtajomnfeicfdlaaGreatDoor
/- What was asked, in memory: one that is built, one that is laid behind others. -/
namespace Go.Proofs.YtajomnfeicfdlaaGreatDoor
open Go.Shelf Go.RowKit Go.Lib
set_option linter.unusedVariables false
set_option linter.unusedSimpArgs false
attribute [local go_sem ↓] Go.wp_at_zero Go.wp_at_succ
theorem fold_at (off : Nat) : ∀ (l : List Value) (n : Nat) (cells : Array Value), off + n + l.length ≤ cells.size →
  ((l.zipIdx n).foldl (fun cs (p : Value × Nat) => cs.setIfInBounds (off + p.2) p.1) cells).size = cells.size ∧ ∀ k, ((l.zipIdx n).foldl (fun cs (p : Value × Nat) => cs.setIfInBounds (off + p.2) p.1) cells)[k]? = if off + n ≤ k ∧ k < off + n + l.length then l[k - (off + n)]? else cells[k]?
 | [], n, cells, h => ⟨rfl, fun k => by rw [if_neg (by simp)]; rfl⟩
 | v :: l, n, cells, h => by
  simp only [List.zipIdx_cons, List.foldl_cons, List.length_cons] at h ⊢
  obtain ⟨h1, h2⟩ := fold_at off l (n + 1) (cells.setIfInBounds (off + n) v) (by simp; omega)
  refine ⟨by rw [h1]; simp, fun k => ?_⟩
  rw [h2 k]
  by_cases hk : k = off + n
  ·subst hk
   rw [if_neg (by omega), if_pos (by omega), Array.getElem?_setIfInBounds_self_of_lt (by omega), show off + n - (off + n) = 0 by omega]
   rfl
  ·rw [Array.getElem?_setIfInBounds_ne (by omega)]
   by_cases hr : off + (n + 1) ≤ k ∧ k < off + (n + 1) + l.length
   ·rw [if_pos hr, if_pos (by omega), show k - (off + n) = k - (off + (n + 1)) + 1 by omega, List.getElem?_cons_succ]
   ·rw [if_neg hr, if_neg (by omega)]
theorem fill_fold (off : Nat) (vs cells : Array Value) : vs.zipIdx.foldl (fun cs (p : Value × Nat) => cs.setIfInBounds (off + p.2) p.1) cells = (vs.toList.zipIdx 0).foldl (fun cs (p : Value × Nat) => cs.setIfInBounds (off + p.2) p.1) cells := by
 rw [← Array.foldl_toList, Array.toList_zipIdx]
/-- All cells at once. -/
theorem fold_whole (vs cells : Array Value) (h : vs.size = cells.size) : vs.zipIdx.foldl (fun cs (p : Value × Nat) => cs.setIfInBounds (0 + p.2) p.1) cells = vs := by
 rw [fill_fold]
 obtain ⟨h1, h2⟩ := fold_at 0 vs.toList 0 cells (by simp; omega)
 apply Array.ext_getElem?
 intro k
 rw [h2 k]
 by_cases hk : k < vs.size
 ·rw [if_pos (by simp; omega)]; simp
 ·rw [if_neg (by simp; omega), Array.getElem?_eq_none (by omega), Array.getElem?_eq_none (by omega)]
def zA : Array Value := (Value.int .i64 0 :: zc).toArray
theorem info73 : ∃ i0, Tryz.prog.info? 73 = some i0 ∧ i0.zero = some (.agg zA) ∧ i0.size = 48 ∧ i0.bytes = 648 := by
 have h1 : (Tryz.prog.info? 73).bind (·.zero) = some (.agg zA) := by kernel_rfl
 have h2 : (Tryz.prog.info? 73).map (·.size) = some 48 := by kernel_rfl
 have h3 : (Tryz.prog.info? 73).map (·.bytes) = some 648 := by kernel_rfl
 generalize Tryz.prog.info? 73 = i at *
 cases i with
 | none => cases h1
 | some i => exact ⟨i, rfl, h1, Option.some.inj h2, Option.some.inj h3⟩
set_option maxRecDepth 100000 in
theorem ask_built (tn : Int) (cl : List Value) (hl : cl.length = 47) : Tryz.prog.built 73 [(0, .int .i64 tn), (1, .agg cl.toArray)] = some (.int .i64 tn :: cl).toArray := by
 obtain ⟨i0, h1, h2, h3, h4⟩ := info73
 have hp : ∃ fs, Tryz.prog.underlying 73 = some (.struct fs) ∧ fs.toList.mapM (fun f => (Tryz.prog.info? f.type).map fun i => (f.offset, i.size)) = some [(0, 1), (1, 47)] := ⟨_, Tryz.underlying73, by kernel_rfl⟩
 obtain ⟨fs, hu, hm⟩ := hp
 unfold Program.built
 simp only [h1, hu, h2, hm]
 have hz : (Value.agg zA).cells = zA := rfl
 have hzs : zA.size = 48 := by kernel_rfl
 have hi : (Value.int .i64 tn).cells = #[.int .i64 tn] := rfl
 have ha : (Value.agg cl.toArray).cells = cl.toArray := rfl
 simp only [Instr.fill, hz, hi, ha, List.getElem?_toArray, List.getElem?_cons_zero, List.getElem?_cons_succ]
 rw [if_neg (by simp [hzs]), fill_fold 0 #[.int .i64 tn] zA]
 obtain ⟨a1, a2⟩ := fold_at 0 (#[Value.int .i64 tn] : Array Value).toList 0 zA (by simp [hzs])
 generalize (List.foldl _ zA ((#[Value.int .i64 tn] : Array Value).toList.zipIdx 0)) = r at a1 a2 ⊢
 rw [if_neg (by simp [a1, hzs, hl]), fill_fold 1 cl.toArray r]
 obtain ⟨b1, b2⟩ := fold_at 1 cl.toArray.toList 0 r (by simp [a1, hzs, hl])
 congr 1
 apply Array.ext_getElem?
 intro k
 rw [b2 k]
 cases k with
 | zero => rw [if_neg (by omega), a2 0, if_pos (by simp)]; simp
 | succ k =>
  by_cases hk : k < 47
  ·rw [if_pos (by simp [hl]; omega), show k + 1 - (1 + 0) = k by omega]; simp
  ·rw [if_neg (by simp [hl]; omega), a2 (k + 1), if_neg (by simp), Array.getElem?_eq_none (by omega)]
   simp [hl]; omega
end Go.Proofs.YtajomnfeicfdlaaGreatDoor
/- What was asked, left out or not: without. -/
namespace Go.Proofs.YtajomnfeicfdlaaGreatDoor
open Go.Shelf Go.RowKit Go.Lib
set_option linter.unusedVariables false
set_option linter.unusedSimpArgs false
attribute [local go_sem ↓] Go.wp_at_zero Go.wp_at_succ
/-- One that was asked. -/
def rAsk : Rel (Int × Mg) := fun K W cs x => ∃ cl, cs = .int .i64 x.1 :: cl ∧ cl.length = 47 ∧ I64 x.1 ∧ MsgIs K W cl.toArray x.2
theorem mAsk : Mono rAsk := fun K K2 W W' cs x hk hW ⟨cl, h1, h2, h3, h4⟩ => ⟨cl, h1, h2, h3, h4.keep hk hW⟩
theorem ask_one {K : Nat → Prop} {W : World} {cl : List Value} {x : Int × Mg} (h : MsgIs K W cl.toArray x.2) : ∀ c ∈ (Value.int .i64 x.1 :: cl), c.oneCell' = true := fun c hc => by
 rcases List.mem_cons.1 hc with rfl | hc
 ·rfl
 ·exact (Array.all_eq_true_iff_forall_mem.1 (msg_one h)) c (by simpa using hc)
theorem wp_append_run {P : Program} {op : Oper} {a : Act} {w : World} {K : Act → World → Prop} {Q : Exit → Act → World → Prop} (x y : Operand) (t u : TypeId) (ho : op.op = .call { callee := .builtin .append, args := #[x, y], argTypes := #[t, u] }) (v1 v2 : Value) (hx : a.eval x = v1) (hy : a.eval y = v2) (v' : Value) (w' : World) (hr : (Builtin.append_ #[t, u] op.type #[v1, v2]).run P w = .ok v' w') (h : K (a.put op.dst v') w') : op.wp P a w K Q := by
 unfold Oper.wp execOp
 simp only [ho, resolve, invoke, builtin, Sem.run_bind, Sem.run_pure, Result.andThen_ok, List.map_toArray, List.map_cons, List.map_nil, hx, hy, hr]
 exact h
theorem wp_build_run {P : Program} {op : Oper} {a : Act} {w : World} {K : Act → World → Prop} {Q : Exit → Act → World → Prop} (t : TypeId) (i1 i2 : Nat) (x y : Operand) (ho : op.op = .build t #[(i1, x), (i2, y)]) (v1 v2 : Value) (hx : a.eval x = v1) (hy : a.eval y = v2) (v' : Value) (hr : (Instr.build t #[(i1, v1), (i2, v2)]).run P w = .ok v' w) (h : K (a.put op.dst v') w) : op.wp P a w K Q := by
 unfold Oper.wp execOp
 simp only [ho, List.map_toArray, List.map_cons, List.map_nil, hx, hy, Sem.run_bind, hr, Result.andThen_ok]
 exact h
theorem ask_fill (X : Array Value) (hX : X.size = 48) (i0 : TypeInfo) (h3 : i0.size = 48) : Instr.fill (fun i => some (i * i0.size, i0.size)) ((Array.range (1 * i0.size)).map ((Value.agg zA).cells[· % (Value.agg zA).cells.size]!)) [(0, .agg X)] = some X := by
 have hzs : zA.size = 48 := by kernel_rfl
 have ha : (Value.agg X).cells = X := rfl
 have hz : (Value.agg zA).cells = zA := rfl
 simp only [Instr.fill, ha, hz, h3, hzs]
 rw [if_neg (by simp [hX])]
 simp only [Nat.zero_mul]
 rw [fold_whole X _ (by simp [hX])]
theorem ask_slice (w : World) (X : Array Value) (hX : X.size = 48) : (Instr.buildSlice 36 1 #[(0, .agg X)]).run Tryz.prog w = .ok (.slice (some ⟨w.heap.size, 0, none⟩) 1 1) (w.alloc (.cells X 73)) := by
 obtain ⟨i0, h1, h2, h3, h4⟩ := info73
 have hzs : zA.size = 48 := by kernel_rfl
 refine run_buildSlice w 36 73 1 _ X i0 (.agg zA) Tryz.underlying36 h1 h2 (by rw [h3]; decide) (by rw [h3]; decide) ?_
 have ha : (Value.agg X).cells = X := rfl
 have hz : (Value.agg zA).cells = zA := rfl
 simp only [Instr.fill, ha, hz, h3, hzs]
 rw [if_neg (by simp [hX])]
 simp only [Nat.zero_mul]
 rw [fold_whole X _ (by simp [hX])]
/-- The boxes of without. -/
def WB (v u : Value) (w W : World) : Prop := W.heap[w.heap.size]? = some (.cells #[v] 38 (0, 0)) ∧ W.heap[w.heap.size + 1]? = some (.cells #[.slice none 0 0] 38 (0, 0)) ∧ W.heap[w.heap.size + 2]? = some (.cells #[u] 38 (0, 0)) ∧ Below w.heap.size w W
theorem WB.lt {v u : Value} {w W : World} (h : WB v u w W) : w.heap.size + 3 ≤ W.heap.size := (Array.getElem?_eq_some_iff.1 h.2.2.1).1
theorem WB.later {v u : Value} {w W W' : World} (h : WB v u w W) (hb : Below W.heap.size W W') : WB v u w W' := by
 have hl := h.lt
 exact ⟨by rw [hb.block _ (by omega)]; exact h.1, by rw [hb.block _ (by omega)]; exact h.2.1, by rw [hb.block _ (by omega)]; exact h.2.2.1, h.2.2.2.trans (hb.mono h.2.2.2.size)⟩
theorem WB.start (v : Value) (w : World) : ∃ W0, ((w.alloc (.cells #[v] 38)).alloc (.cells #[.slice none 0 0] 38)).alloc (.cells #[.slice none 0 0] 38) = W0 ∧ WB v (.slice none 0 0) w W0 ∧ W0.heap.size = w.heap.size + 3 := by
 refine ⟨_, rfl, ⟨?_, ?_, ?_, ?_⟩, by simp⟩
 ·rw [hao _ _ _ (by simp; omega), hao _ _ _ (by simp)]; exact heap_alloc_new w _
 ·rw [hao _ _ _ (by simp)]
  have := heap_alloc_new (w.alloc (.cells #[v] 38)) (.cells #[Value.slice none 0 0] 38)
  simpa using this
 ·have := heap_alloc_new ((w.alloc (.cells #[v] 38)).alloc (.cells #[Value.slice none 0 0] 38)) (.cells #[Value.slice none 0 0] 38)
  simpa using this
 ·exact (((Below.refl _ _).alloc (Nat.le_refl _) _).alloc (by simp) _).alloc (by simp; omega) _
theorem OwnR.kept {α : Type} {rel : Rel α} (hm : Mono rel) {size : Nat} {te : TypeId} {base : Nat} {W W' : World} {u : Value} {xs : List α} (h : OwnR rel size te base W u xs) (hk : Kept (fun b => base ≤ b) W W') : OwnR rel size te base W' u xs := by
 obtain ⟨K, cells, hK, ho, hr⟩ := h
 refine ⟨K, cells, fun b h => ⟨(hK b h).1, Nat.lt_of_lt_of_le (hK b h).2.1 hk.size, (hK b h).2.2⟩, ?_, fun j hj => hm _ _ _ _ _ _ (fun _ h => h) (hk.less fun b h => (hK b h).1) (hr j hj)⟩
 obtain ⟨hl, ⟨rfl, hn⟩ | ⟨g, cap, cur, rfl, h1, hg, r⟩⟩ := ho
 ·exact ⟨hl, .inl ⟨rfl, hn⟩⟩
 ·exact ⟨hl, .inr ⟨g, cap, cur, rfl, h1, by rw [hk.block _ h1]; exact hg, r⟩⟩
theorem OwnR.block {α : Type} {rel : Rel α} {size : Nat} {te : TypeId} {base : Nat} {W : World} {u : Value} {xs : List α} (h : OwnR rel size te base W u xs) : ∀ g, u.ownBlock = some g → base ≤ g ∧ g < W.heap.size := fun g hg => by
 obtain ⟨_, _, _, ho, _⟩ := h
 exact ho.lt g hg
theorem range_of_block {W W' : World} {b : Nat} {cs : List Value} (h : W.rangeAt b 0 cs) (hb : W'.heap[b]? = W.heap[b]?) : W'.rangeAt b 0 cs := fun j u hj => by
 rw [show W'.cell? ⟨b, 0 + j, none⟩ = W.cell? ⟨b, 0 + j, none⟩ from World.cell?_of_block hb]
 exact h j u hj
/-- One more is put behind those that are left. -/
theorem push_ask {v u : Value} {w w5 : World} {zs : List (Int × Mg)} {y : Int × Mg} {cl5 : List Value} {B : Nat} (hW : WB v u w w5) (hJ : OwnR rAsk 48 73 (w.heap.size + 3) w5 u zs) (hl5 : cl5.length = 47) (hm5 : MsgIs (From B w5) w5 cl5.toArray y.2) (h64 : I64 y.1) (hB : w.heap.size + 3 ≤ B) (hu : ∀ g, u.ownBlock = some g → g < B) (hby : (zs.length + 1) * 648 ≤ 140737488355328) :
  ∃ q c X2 X3, (Builtin.append_ #[36, 36] 36 #[u, .slice (some ⟨w5.heap.size, 0, none⟩) 1 1]).run Tryz.prog (w5.alloc (.cells (.int .i64 y.1 :: cl5).toArray 73)) = .ok (.slice q (zs.length + 1) c) X2 ∧ X2.cell? ⟨w.heap.size + 1 + 1, 0, none⟩ = some u ∧ X2.frozen? ⟨w.heap.size + 1 + 1, 0, none⟩ = false ∧ X2.setCell ⟨w.heap.size + 1 + 1, 0, none⟩ (.slice q (zs.length + 1) c) = X3 ∧ WB v (.slice q (zs.length + 1) c) w X3 ∧ OwnR rAsk 48 73 (w.heap.size + 3) X3 (.slice q (zs.length + 1) c) (zs ++ [y]) ∧
   ∀ ab cs, w.heap.size + 3 ≤ ab → ab < w5.heap.size → u.ownBlock ≠ some ab → w5.rangeAt ab 0 cs → (w5.alloc (.cells (.int .i64 y.1 :: cl5).toArray 73)).rangeAt ab 0 cs ∧ X2.rangeAt ab 0 cs ∧ X3.rangeAt ab 0 cs := by
 obtain ⟨j0, hj0, hj1, hj2, hj3⟩ := info73
 have hlt := hW.lt
 obtain ⟨v', X2, e2, hJ2, hb2, hs2, ho2⟩ := OwnR.push mAsk Tryz.underlying36 hj0 hj1 hj2 hj3 (by show zA.size = 48; kernel_rfl) (by omega) hJ (by omega) (cs := .int .i64 y.1 :: cl5) (x := y) (K2 := From B w5) (by simp [hl5]) (ask_one hm5) (fun b hb => ⟨by have := hb.1; omega, hb.2, fun e => by have := hu b e; have := hb.1; omega⟩) ⟨cl5, rfl, hl5, h64, hm5⟩ hby (by unfold maxLen; omega)
 obtain ⟨q, c, hq, _⟩ := hJ2.list mAsk (bytes := 648) (by simpa using hby)
 simp only [List.length_append, List.length_cons, List.length_nil, Nat.zero_add] at hq
 subst hq
 have hnb : ∀ b, b < w.heap.size + 3 → X2.heap[b]? = w5.heap[b]? := fun b hb => ho2 b (by omega) (fun e => by have := (hJ.block b e).1; omega)
 have hg2 : X2.heap[w.heap.size + 1 + 1]? = some (.cells #[u] 38 (0, 0)) := by rw [hnb _ (by omega)]; exact hW.2.2.1
 have hB2 : Below w.heap.size w X2 := hb2 _ _ hW.2.2.2 (by omega)
 obtain ⟨a1, a2, a3, a4, a5⟩ := setCell_any X2 (w.heap.size + 1 + 1) 0 (.slice q (zs.length + 1) c)
 have hk3 : Kept (fun b => w.heap.size + 3 ≤ b) X2 (X2.setCell ⟨w.heap.size + 1 + 1, 0, none⟩ (.slice q (zs.length + 1) c)) := ⟨a2, a3, a4, by omega, fun b (hb : w.heap.size + 3 ≤ b) => a5 b (by omega)⟩
 refine ⟨q, c, X2, _, e2, cell_of_row hg2 rfl, frozen_zero hg2 0, rfl, ⟨?_, ?_, ?_, ?_⟩, hJ2.kept mAsk hk3, fun ab cs h1 h2 h3 h4 => ?_⟩
 ·rw [a5 _ (by omega), hnb _ (by omega)]; exact hW.1
 ·rw [a5 _ (by omega), hnb _ (by omega)]; exact hW.2.1
 ·rw [setCell_eq_setRow X2 _ 0 _ 38 (0, 0) _ hg2]; exact setRow_heap X2 _ _ _ 38 _ hg2
 ·exact ⟨a2.trans hB2.os, a3.trans hB2.tape, a4.trans hB2.output, by have := hB2.size; omega, fun b hb => by rw [a5 b (by omega)]; exact hB2.block b hb⟩
 ·have r2 := range_of_block h4 (ho2 ab h2 h3)
  exact ⟨range_of_block h4 (hao _ _ _ h2), r2, range_of_block r2 (a5 ab (by omega))⟩
theorem cap1 (a b : Value) : #[a] ++ #[b] = #[a, b] := by simp
theorem cap2 (a b c : Value) : #[a] ++ #[b, c] = #[a, b, c] := by simp
set_option maxRecDepth 100000 in
set_option maxHeartbeats 8000000 in
theorem without_any (caps : Array Value) (p : Int × Mg → Bool) (F : Nat) (v : Value) (xs : List (Int × Mg)) (K : Nat → Prop) (w : World) (h : ListIs rAsk 48 648 K w v xs) (hK : ∀ b, K b → b < w.heap.size)
  (eg : ∀ args w, (callFunc F args).run Tryz.prog w = .ok (.enter F args) w)
  (hC : ∀ W, Below w.heap.size w W → ∀ x ∈ xs, ∀ cl : List Value, cl.length = 47 → MsgIs K W cl.toArray x.2 → Calls Tryz.prog F (#[.agg (.int .i64 x.1 :: cl).toArray] ++ caps) W fun e w' => e = .returned (.bool (p x)) ∧ Below W.heap.size W w') :
  Calls Tryz.prog 27 #[.agg #[v], .func (.func F) #[] caps] w fun e w' => ∃ q c, e = .returned (.agg #[.slice q (xs.filter (fun x => !p x)).length c]) ∧ OwnR rAsk 48 73 (w.heap.size + 3) w' (.slice q (xs.filter (fun x => !p x)).length c) (xs.filter (fun x => !p x)) ∧ Below w.heap.size w w' := by
 obtain ⟨W0, hW0, b0, hs0⟩ := WB.start v w
 obtain ⟨q0, c0, rfl, hby, hp⟩ := h
 have HP : Hid (0 < xs.length → ∃ b o, q0 = some ⟨b, o, none⟩ ∧ K b ∧ ∀ (j : Nat) (h : j < xs.length), ∃ cs, cs.length = 48 ∧ (∀ (i : Nat) (u : Value), cs[i]? = some u → w.cell? ⟨b, o + j * 48 + i, none⟩ = some u) ∧ rAsk K w cs xs[j]) := hp
 have HKK : Hid (∀ b, K b → b < w.heap.size) := hK
 have HBY : Hid (xs.length * 648 ≤ 140737488355328) := hby
 have HC : Hid (∀ W, Below w.heap.size w W → ∀ x ∈ xs, ∀ cl : List Value, cl.length = 47 → MsgIs K W cl.toArray x.2 → Calls Tryz.prog F (#[.agg (.int .i64 x.1 :: cl).toArray] ++ caps) W fun e w' => e = .returned (.bool (p x)) ∧ Below W.heap.size W w') := hC
 have EG := hid eg
 have HB0 : Hid (WB (.slice q0 xs.length c0) (.slice none 0 0) w W0) := b0
 have HJ : Hid (OwnR rAsk 48 73 (w.heap.size + 3) W0 (.slice none 0 0) ((xs.take 0).filter (fun x => !p x))) := OwnR.nil
 obtain ⟨j0, hj0, hj1, hj2, hj3⟩ := info73
 have hx63 : xs.length ≤ 140737488355328 := by omega
 have r0 := cell_of_row (k := 0) b0.1 rfl
 clear hp hK hby hC b0 hs0
 go_enter Tryz.func27, Tryz.ntmps27
 go_wp2_with fail
 clear r0
 go_loopg [11] xs.length (fun gf s11 wx => ∃ (u : Value) (i : Nat), s11 = .int .i64 i ∧ i ≤ xs.length ∧ xs.length ≤ i + gf ∧ Hid (WB (.slice q0 xs.length c0) u w wx) ∧ Hid (OwnR rAsk 48 73 (w.heap.size + 3) wx u ((xs.take i).filter (fun x => !p x))))
 case atStart => exact ⟨_, 0, rfl, by omega, by omega, HB0, HJ⟩
 case round =>
  clear HB0 HJ
  obtain ⟨u, i, rfl, hi1, hgf, HB, HJ⟩ := hrel
  by_cases hi : i < xs.length
  ·obtain ⟨g', rfl⟩ : ∃ g', gk = g' + 1 := ⟨gk - 1, by omega⟩
   obtain ⟨b, o, rfl, hKb, hc⟩ := HP.out (by omega)
   obtain ⟨cs, hcl, hcell, hrel1⟩ := hc i hi
   obtain ⟨y, hy⟩ : ∃ y, xs[i] = y := ⟨_, rfl⟩
   have htk : xs.take (i + 1) = xs.take i ++ [y] := by rw [← hy]; exact List.take_succ_eq_append_getElem hi
   have hmem : y ∈ xs := by rw [← hy]; exact List.getElem_mem hi
   rw [hy] at hrel1
   have hbw := HB.out.2.2.2
   obtain ⟨cl, rfl, hln, hi64, hmi⟩ := hrel1
   have hra : wr.rangeAt b (o + i * 48) (.int .i64 y.1 :: cl) := fun j u hu => by
    rw [hbw.cell (p := ⟨b, _, none⟩) (HKK.out _ hKb)]
    exact hcell j u hu
   obtain ⟨WA, hWA, hth, WS, hWS, hrs, hss, hbs, hrl⟩ := box_new wr 73 zA (.int .i64 y.1 :: cl) (by show zA.size = _; rw [List.length_cons, hln]; kernel_rfl)
   have hbW : Below w.heap.size w WS := hbw.trans (hbs.mono hbw.size)
   have hmS : MsgIs K WS cl.toArray y.2 := hmi.keep (fun _ h => h) (kept_of HKK.out hbW)
   have CC := hid (HC.out WS hbW y hmem cl hln hmS)
   have HRA : Hid (wr.rangeAt b (o + i * 48) (.int .i64 y.1 :: cl)) := hra
   have HTH : Hid (WA.there wr.heap.size 0 (Value.int .i64 y.1 :: cl).toArray.size) := hth
   have HWS : Hid (WA.setCells wr.heap.size 0 (Value.int .i64 y.1 :: cl).toArray.toList = WS) := hWS
   have HRS : Hid (WS.rangeAt wr.heap.size 0 (.int .i64 y.1 :: cl)) := hrs
   have HRL : Hid (∀ V, Below WS.heap.size WS V → V.rangeAt wr.heap.size 0 (.int .i64 y.1 :: cl)) := hrl
   have HON : Hid ((Value.int .i64 y.1 :: cl).toArray.all (·.oneCell') = true) := Array.all_eq_true_iff_forall_mem.2 (fun c hc => ask_one hmi c (by simpa using hc))
   have SZ : Hid ((Tryz.prog.info? 73).map (·.size) = some (Value.int .i64 y.1 :: cl).length) := by show _ = _; rw [hj0, List.length_cons, hln]; simp [hj2]
   have SZ' : Hid ((Tryz.prog.info? 73).map (·.size) = some (Value.int .i64 y.1 :: cl).toArray.size) := by show _ = _; rw [show (Value.int .i64 y.1 :: cl).toArray.size = 48 by simp [hln]]; exact SZ.out.trans (by rw [List.length_cons, hln])
   have HBS : Hid (Below wr.heap.size wr WS) := hbs
   have HTK : Hid (xs.take (i + 1) = xs.take i ++ [y]) := htk
   have HMI : Hid (MsgIs K w cl.toArray y.2) := hmi
   have HLN : Hid (cl.length = 47) := hln
   have HI64 : Hid (I64 y.1) := hi64
   have HSS : Hid (WS.heap.size = wr.heap.size + 1) := hss
   have z0 : (0 : Int) ≤ (i : Int) := by omega
   have z1' : (i : Int) < (xs.length : Int) := by omega
   clear hra hth hWS hrs hrl hbs htk hc hcell hy hKb hcl hbw hmi hbW hmS hss hmem hln hi64
   unfold zA zc at hWA
   go_wp2_with (first | (refine wpList_load_mid rfl 73 _ rfl b (o + i * 48) rfl _ _ HRA.out Tryz.underlying73 rfl SZ.out ?_) | (refine wpList_store_mid rfl 73 _ _ rfl wr.heap.size 0 (Value.int .i64 y.1 :: cl).toArray rfl rfl HTH.out SZ'.out HON.out ?_; rw [HWS.out]) | (refine wpList_load_mid rfl 73 _ rfl wr.heap.size 0 rfl _ _ HRS.out Tryz.underlying73 rfl SZ.out ?_))
   refine CC.out.mono ?_
   rintro e w3 ⟨rfl, hb3⟩
   have HB3 : Hid (Below wr.heap.size wr w3) := HBS.out.trans (hb3.mono HBS.out.size)
   have HR3 : Hid (w3.rangeAt wr.heap.size 0 (.int .i64 y.1 :: cl)) := HRL.out w3 hb3
   have HW3 : Hid (WB (.slice (some ⟨b, o, none⟩) xs.length c0) u w w3) := HB.out.later HB3.out
   have HJ3 : Hid (OwnR rAsk 48 73 (w.heap.size + 3) w3 u ((xs.take i).filter (fun x => !p x))) := HJ.out.keep mAsk HB3.out
   have HU : Hid (∀ g, u.ownBlock = some g → g < wr.heap.size) := fun g hg => (HJ.out.block g hg).2
   have HLT : Hid (w.heap.size + 3 ≤ wr.heap.size ∧ wr.heap.size < w3.heap.size) := ⟨HB.out.lt, by have := HSS.out; have := hb3.size; omega⟩
   clear hb3 CC HRA HTH HWS HRS HRL HBS HSS HB HJ hWA
   cases hpy : p y with
   | true =>
    have HFT : Hid ((xs.take (i + 1)).filter (fun x => !p x) = (xs.take i).filter (fun x => !p x)) := by show _ = _; rw [HTK.out, List.filter_append]; simp [hpy]
    clear hpy
    go_wp2_with fail
    go_roundg g'
    case measure => omega
    case rel => exact ⟨u, i + 1, by go_num, by omega, by omega, HW3, by rw [HFT.out]; exact HJ3⟩
   | false =>
    have HFT : Hid ((xs.take (i + 1)).filter (fun x => !p x) = (xs.take i).filter (fun x => !p x) ++ [y]) := by show _ = _; rw [HTK.out, List.filter_append]; simp [hpy]
    clear hpy
    go_wp2_with fail
    have I63 : Hid ((Tryz.prog.info? 63).map (·.size) = some cl.length) := by show _ = _; rw [HLN.out]; exact size49
    refine wp_region_held_drew (S := fun W => W.rangeAt wr.heap.size 0 (.int .i64 y.1 :: cl)) (by kernel_rfl) (by show (w3.drew).rangeAt _ _ _; rw [World.rangeAt_drew]; exact HR3.out) (fun hHeld => ?_)
    refine wpAnyH_take (i := 0) (v := .pointer (some ⟨w.heap.size + 1 + 1, 0, none⟩)) rfl (by kernel_rfl) (by kernel_rfl) (by kernel_rfl) (fun _ _ _ h => h) (.inl ⟨by rfl, fun W hW => by go_simp⟩) hHeld ?_
    simp only [Act.put, List.getElem_toArray, List.getElem_cons_zero, List.getElem_cons_succ, List.setIfInBounds_toArray, List.set_cons_zero, List.set_cons_succ]
    refine wpAnyH_take (i := 2) (v := .pointer (some ⟨wr.heap.size, 0, none⟩)) rfl (by kernel_rfl) (by kernel_rfl) (by kernel_rfl) (fun _ _ _ h => h) (.inl ⟨by rfl, fun W hW => by go_simp⟩) hHeld ?_
    simp only [Act.put, List.getElem_toArray, List.getElem_cons_zero, List.getElem_cons_succ, List.setIfInBounds_toArray, List.set_cons_zero, List.set_cons_succ]
    refine wpAnyH_take (i := 3) (v := .int .i64 y.1) rfl (by kernel_rfl) (by kernel_rfl) (by kernel_rfl) (fun _ _ _ h => h) (.inl ⟨by rfl, fun W hW => by
     have c0 : W.cell? ⟨wr.heap.size, 0, none⟩ = some (.int .i64 y.1) := by simpa using hW 0 _ rfl
     go_simp⟩) hHeld ?_
    simp only [Act.put, List.getElem_toArray, List.getElem_cons_zero, List.getElem_cons_succ, List.setIfInBounds_toArray, List.set_cons_zero, List.set_cons_succ]
    refine wpAnyH_take (i := 4) (v := .pointer (some ⟨wr.heap.size, 1, none⟩)) rfl (by kernel_rfl) (by kernel_rfl) (by kernel_rfl) (fun _ _ _ h => h) (.inl ⟨by rfl, fun W hW => by go_simp⟩) hHeld ?_
    simp only [Act.put, List.getElem_toArray, List.getElem_cons_zero, List.getElem_cons_succ, List.setIfInBounds_toArray, List.set_cons_zero, List.set_cons_succ]
    refine wpAnyH_take (i := 5) (v := .agg cl.toArray) rfl (by kernel_rfl) (by kernel_rfl) (by kernel_rfl) (fun _ _ _ h => h) (yieldsIf_load_mid (by rfl) 63 (.tmp 23) rfl wr.heap.size 1 rfl cl _ (fun W hW j u hj => by have := hW (j + 1) u (by simpa using hj); rwa [show 0 + (j + 1) = 1 + j by omega] at this) Tryz.underlying63 rfl I63.out) hHeld ?_
    simp only [Act.put, List.getElem_toArray, List.getElem_cons_zero, List.getElem_cons_succ, List.setIfInBounds_toArray, List.set_cons_zero, List.set_cons_succ]
    -- TREE
    obtain ⟨w4, hw4⟩ : ∃ w4, w3.drew = w4 := ⟨_, rfl⟩
    rw [hw4] at hHeld ⊢
    have HW4 : Hid (WB (.slice (some ⟨b, o, none⟩) xs.length c0) u w w4) := by rw [← hw4]; exact ⟨HW3.out.1, HW3.out.2.1, HW3.out.2.2.1, HW3.out.2.2.2.drew⟩
    have HJ4 : Hid (OwnR rAsk 48 73 (w.heap.size + 3) w4 u ((xs.take i).filter (fun x => !p x))) := by rw [← hw4]; exact HJ3.out.keep mAsk (Below.refl _ _).drew
    have HS4 : Hid (wr.heap.size < w4.heap.size) := by rw [← hw4]; exact HLT.out.2
    have HU4 : Hid (∀ g, u.ownBlock = some g → g < wr.heap.size) := HU.out
    have CF := hid (fresh_any cl y.2 K w4 (HMI.out.keep (fun _ h => h) (kept_of HKK.out HW4.out.2.2.2)) (fun b hb => Nat.lt_of_lt_of_le (HKK.out b hb) HW4.out.2.2.2.size))
    have HLZ : Hid ((((xs.take i).filter (fun x => !p x)).length + 1) * 648 ≤ 140737488355328) := by
     show _ ≤ _
     have h1 := List.length_filter_le (fun x => !p x) (xs.take i)
     have h2 : (xs.take i).length = i := by rw [List.length_take]; omega
     have h3 := HBY.out
     omega
    have g4 := cell_of_row (k := 0) HW4.out.2.2.1 rfl
    obtain ⟨zs, hzs⟩ : ∃ zs, (xs.take i).filter (fun x => !p x) = zs := ⟨_, rfl⟩
    rw [hzs] at HJ4 HLZ HFT
    clear hw4 HW3 HJ3 HR3 hzs
    refine wpAnyH_ready (rs := [1, 6]) (by kernel_rfl) (by simp) ?_
    refine AllReadyH.cons rfl (fun K' hK => ?_) ?_
    ·rw [if_pos (by rfl)]
     go_simp
     refine hK.out _ _ hHeld (fun hHeld => ?_)
     clear hK K'
     refine wpAnyH_ready (rs := [6]) (by kernel_rfl) (by simp) ?_
     refine AllReadyH.cons rfl (fun K' hK => ?_) AllReadyH.nil
     rw [if_pos (by rfl)]
     go_simp
     go_at_call 30
     refine CF.out.mono ?_
     rintro e w5 ⟨cl5, rfl, hl5, hm5, hb5⟩
     have HW5 := HW4.out.later hb5
     have HJ5 := HJ4.out.keep mAsk hb5
     have hab := HS4.out
     obtain ⟨q5, c5, X2, X3, e5, g7, f7, e7, hW7, hJ7, hR7⟩ := push_ask HW5 HJ5 hl5 hm5 HI64.out (by have := HLT.out.1; omega) (fun g hg => by have := HU4.out g hg; omega) HLZ.out
     have hr5 : w5.rangeAt wr.heap.size 0 (.int .i64 y.1 :: cl) := range_of_block hHeld (hb5.block _ hab)
     obtain ⟨hr6, hr7, hr8⟩ := hR7 wr.heap.size _ HLT.out.1 (Nat.lt_of_lt_of_le hab hb5.size) (fun e => by have := HU4.out _ e; omega) hr5
     have g5 : w5.cell? ⟨w.heap.size + 1 + 1, 0, none⟩ = some u := cell_of_row (k := 0) HW5.2.2.1 rfl
     have g6 : (w5.alloc (.cells (Value.int .i64 y.1 :: cl5).toArray 73)).cell? ⟨w.heap.size + 1 + 1, 0, none⟩ = some u := (World.cell?_of_block (hao w5 _ (w.heap.size + 1 + 1) (by have := HW5.lt; omega))).trans g5
     have hbd : ∀ W, (Instr.build 73 #[(0, .int .i64 y.1), (1, .agg cl5.toArray)]).run Tryz.prog W = .ok (.agg (.int .i64 y.1 :: cl5).toArray) W := fun W => run_build W 73 _ _ (ask_built y.1 cl5 hl5)
     have hsl := ask_slice w5 (Value.int .i64 y.1 :: cl5).toArray (by simp [hl5])
     have HE := hid (And.intro hW7 hJ7)
     clear hm5 hb5 hW7 hJ7 hR7 HW5 HJ5
     refine hK.out _ _ hr5 (fun hHeld => ?_)
     clear hK K'
     refine wpAnyH_ready (rs := [7]) (by kernel_rfl) (by simp) ?_
     refine AllReadyH.cons rfl (fun K' hK => ?_) AllReadyH.nil
     rw [if_pos (by rfl)]
     refine wp_build_run 73 0 1 (.tmp 22) (.tmp 25) rfl (.int .i64 y.1) (.agg cl5.toArray) rfl rfl _ (hbd _) ?_
     simp only [Act.put, List.getElem_toArray, List.getElem_cons_zero, List.getElem_cons_succ, List.setIfInBounds_toArray, List.set_cons_zero, List.set_cons_succ]
     refine hK.out _ _ hHeld (fun hHeld => ?_)
     clear hK K'
     refine wpAnyH_ready (rs := [8]) (by kernel_rfl) (by simp) ?_
     refine AllReadyH.cons rfl (fun K' hK => ?_) AllReadyH.nil
     rw [if_pos (by rfl)]
     refine wp_buildSlice 36 73 1 #[(0, .tmp 26)] rfl (Value.int .i64 y.1 :: cl5).toArray j0 (.agg zA) Tryz.underlying36 hj0 hj1 (by rw [hj2]; decide) (by rw [hj2]; decide) (by simp only [List.map_toArray, List.map_cons, List.map_nil]; exact ask_fill (Value.int .i64 y.1 :: cl5).toArray (by simp [hl5]) j0 hj2) ?_
     simp only [Act.put, List.getElem_toArray, List.getElem_cons_zero, List.getElem_cons_succ, List.setIfInBounds_toArray, List.set_cons_zero, List.set_cons_succ]
     refine hK.out _ _ hr6 (fun hHeld => ?_)
     clear hK K'
     refine wpAnyH_ready (rs := [9]) (by kernel_rfl) (by simp) ?_
     refine AllReadyH.cons rfl (fun K' hK => ?_) AllReadyH.nil
     rw [if_pos (by rfl)]
     refine wp_append_run (.tmp 20) (.tmp 27) 36 36 rfl u (.slice (some ⟨w5.heap.size, 0, none⟩) 1 1) rfl rfl _ _ e5 ?_
     simp only [Act.put, List.getElem_toArray, List.getElem_cons_zero, List.getElem_cons_succ, List.setIfInBounds_toArray, List.set_cons_zero, List.set_cons_succ]
     refine hK.out _ _ hr7 (fun hHeld => ?_)
     clear hK K'
     refine wpAnyH_ready (rs := [10]) (by kernel_rfl) (by simp) ?_
     refine AllReadyH.cons rfl (fun K' hK => ?_) AllReadyH.nil
     rw [if_pos (by rfl)]
     go_simp
     refine hK.out _ _ hr7 (fun hHeld => ?_)
     clear hK K'
     refine wpAnyH_ready (rs := [11]) (by kernel_rfl) (by simp) ?_
     refine AllReadyH.cons rfl (fun K' hK => ?_) AllReadyH.nil
     rw [if_pos (by rfl)]
     go_simp
     refine hK.out _ _ hr8 (fun hHeld => ?_)
     clear hK K'
     refine wpAnyH_done (by kernel_rfl) ?_ _
     clear hHeld hr5 hr6 hr7 hr8 g5 g6 g7 f7 e7 e5 hsl hbd g4
     go_wp2_with fail
     go_roundg g'
     case measure => omega
     case rel => exact ⟨_, i + 1, by go_num, by omega, by omega, HE.out.1, by rw [HFT.out]; exact HE.out.2⟩
    refine AllReadyH.cons rfl (fun K' hK => ?_) AllReadyH.nil
    rw [if_pos (by rfl)]
    go_simp
    go_at_call 30
    refine CF.out.mono ?_
    rintro e w5 ⟨cl5, rfl, hl5, hm5, hb5⟩
    have HW5 := HW4.out.later hb5
    have HJ5 := HJ4.out.keep mAsk hb5
    have hab := HS4.out
    obtain ⟨q5, c5, X2, X3, e5, g7, f7, e7, hW7, hJ7, hR7⟩ := push_ask HW5 HJ5 hl5 hm5 HI64.out (by have := HLT.out.1; omega) (fun g hg => by have := HU4.out g hg; omega) HLZ.out
    have hr5 : w5.rangeAt wr.heap.size 0 (.int .i64 y.1 :: cl) := range_of_block hHeld (hb5.block _ hab)
    obtain ⟨hr6, hr7, hr8⟩ := hR7 wr.heap.size _ HLT.out.1 (Nat.lt_of_lt_of_le hab hb5.size) (fun e => by have := HU4.out _ e; omega) hr5
    have g5 : w5.cell? ⟨w.heap.size + 1 + 1, 0, none⟩ = some u := cell_of_row (k := 0) HW5.2.2.1 rfl
    have g6 : (w5.alloc (.cells (Value.int .i64 y.1 :: cl5).toArray 73)).cell? ⟨w.heap.size + 1 + 1, 0, none⟩ = some u := (World.cell?_of_block (hao w5 _ (w.heap.size + 1 + 1) (by have := HW5.lt; omega))).trans g5
    have hbd : ∀ W, (Instr.build 73 #[(0, .int .i64 y.1), (1, .agg cl5.toArray)]).run Tryz.prog W = .ok (.agg (.int .i64 y.1 :: cl5).toArray) W := fun W => run_build W 73 _ _ (ask_built y.1 cl5 hl5)
    have hsl := ask_slice w5 (Value.int .i64 y.1 :: cl5).toArray (by simp [hl5])
    have HE := hid (And.intro hW7 hJ7)
    clear hm5 hb5 hW7 hJ7 hR7 HW5 HJ5
    refine hK.out _ _ hr5 (fun hHeld => ?_)
    clear hK K'
    refine wpAnyH_ready (rs := [1, 7]) (by kernel_rfl) (by simp) ?_
    refine AllReadyH.cons rfl (fun K' hK => ?_) ?_
    ·rw [if_pos (by rfl)]
     go_simp
     refine hK.out _ _ hHeld (fun hHeld => ?_)
     clear hK K'
     refine wpAnyH_ready (rs := [7]) (by kernel_rfl) (by simp) ?_
     refine AllReadyH.cons rfl (fun K' hK => ?_) AllReadyH.nil
     rw [if_pos (by rfl)]
     refine wp_build_run 73 0 1 (.tmp 22) (.tmp 25) rfl (.int .i64 y.1) (.agg cl5.toArray) rfl rfl _ (hbd _) ?_
     simp only [Act.put, List.getElem_toArray, List.getElem_cons_zero, List.getElem_cons_succ, List.setIfInBounds_toArray, List.set_cons_zero, List.set_cons_succ]
     refine hK.out _ _ hHeld (fun hHeld => ?_)
     clear hK K'
     refine wpAnyH_ready (rs := [8]) (by kernel_rfl) (by simp) ?_
     refine AllReadyH.cons rfl (fun K' hK => ?_) AllReadyH.nil
     rw [if_pos (by rfl)]
     refine wp_buildSlice 36 73 1 #[(0, .tmp 26)] rfl (Value.int .i64 y.1 :: cl5).toArray j0 (.agg zA) Tryz.underlying36 hj0 hj1 (by rw [hj2]; decide) (by rw [hj2]; decide) (by simp only [List.map_toArray, List.map_cons, List.map_nil]; exact ask_fill (Value.int .i64 y.1 :: cl5).toArray (by simp [hl5]) j0 hj2) ?_
     simp only [Act.put, List.getElem_toArray, List.getElem_cons_zero, List.getElem_cons_succ, List.setIfInBounds_toArray, List.set_cons_zero, List.set_cons_succ]
     refine hK.out _ _ hr6 (fun hHeld => ?_)
     clear hK K'
     refine wpAnyH_ready (rs := [9]) (by kernel_rfl) (by simp) ?_
     refine AllReadyH.cons rfl (fun K' hK => ?_) AllReadyH.nil
     rw [if_pos (by rfl)]
     refine wp_append_run (.tmp 20) (.tmp 27) 36 36 rfl u (.slice (some ⟨w5.heap.size, 0, none⟩) 1 1) rfl rfl _ _ e5 ?_
     simp only [Act.put, List.getElem_toArray, List.getElem_cons_zero, List.getElem_cons_succ, List.setIfInBounds_toArray, List.set_cons_zero, List.set_cons_succ]
     refine hK.out _ _ hr7 (fun hHeld => ?_)
     clear hK K'
     refine wpAnyH_ready (rs := [10]) (by kernel_rfl) (by simp) ?_
     refine AllReadyH.cons rfl (fun K' hK => ?_) AllReadyH.nil
     rw [if_pos (by rfl)]
     go_simp
     refine hK.out _ _ hr7 (fun hHeld => ?_)
     clear hK K'
     refine wpAnyH_ready (rs := [11]) (by kernel_rfl) (by simp) ?_
     refine AllReadyH.cons rfl (fun K' hK => ?_) AllReadyH.nil
     rw [if_pos (by rfl)]
     go_simp
     refine hK.out _ _ hr8 (fun hHeld => ?_)
     clear hK K'
     refine wpAnyH_done (by kernel_rfl) ?_ _
     clear hHeld hr5 hr6 hr7 hr8 g5 g6 g7 f7 e7 e5 hsl hbd g4
     go_wp2_with fail
     go_roundg g'
     case measure => omega
     case rel => exact ⟨_, i + 1, by go_num, by omega, by omega, HE.out.1, by rw [HFT.out]; exact HE.out.2⟩
    refine AllReadyH.cons rfl (fun K' hK => ?_) AllReadyH.nil
    rw [if_pos (by rfl)]
    refine wp_build_run 73 0 1 (.tmp 22) (.tmp 25) rfl (.int .i64 y.1) (.agg cl5.toArray) rfl rfl _ (hbd _) ?_
    simp only [Act.put, List.getElem_toArray, List.getElem_cons_zero, List.getElem_cons_succ, List.setIfInBounds_toArray, List.set_cons_zero, List.set_cons_succ]
    refine hK.out _ _ hHeld (fun hHeld => ?_)
    clear hK K'
    refine wpAnyH_ready (rs := [1, 8]) (by kernel_rfl) (by simp) ?_
    refine AllReadyH.cons rfl (fun K' hK => ?_) ?_
    ·rw [if_pos (by rfl)]
     go_simp
     refine hK.out _ _ hHeld (fun hHeld => ?_)
     clear hK K'
     refine wpAnyH_ready (rs := [8]) (by kernel_rfl) (by simp) ?_
     refine AllReadyH.cons rfl (fun K' hK => ?_) AllReadyH.nil
     rw [if_pos (by rfl)]
     refine wp_buildSlice 36 73 1 #[(0, .tmp 26)] rfl (Value.int .i64 y.1 :: cl5).toArray j0 (.agg zA) Tryz.underlying36 hj0 hj1 (by rw [hj2]; decide) (by rw [hj2]; decide) (by simp only [List.map_toArray, List.map_cons, List.map_nil]; exact ask_fill (Value.int .i64 y.1 :: cl5).toArray (by simp [hl5]) j0 hj2) ?_
     simp only [Act.put, List.getElem_toArray, List.getElem_cons_zero, List.getElem_cons_succ, List.setIfInBounds_toArray, List.set_cons_zero, List.set_cons_succ]
     refine hK.out _ _ hr6 (fun hHeld => ?_)
     clear hK K'
     refine wpAnyH_ready (rs := [9]) (by kernel_rfl) (by simp) ?_
     refine AllReadyH.cons rfl (fun K' hK => ?_) AllReadyH.nil
     rw [if_pos (by rfl)]
     refine wp_append_run (.tmp 20) (.tmp 27) 36 36 rfl u (.slice (some ⟨w5.heap.size, 0, none⟩) 1 1) rfl rfl _ _ e5 ?_
     simp only [Act.put, List.getElem_toArray, List.getElem_cons_zero, List.getElem_cons_succ, List.setIfInBounds_toArray, List.set_cons_zero, List.set_cons_succ]
     refine hK.out _ _ hr7 (fun hHeld => ?_)
     clear hK K'
     refine wpAnyH_ready (rs := [10]) (by kernel_rfl) (by simp) ?_
     refine AllReadyH.cons rfl (fun K' hK => ?_) AllReadyH.nil
     rw [if_pos (by rfl)]
     go_simp
     refine hK.out _ _ hr7 (fun hHeld => ?_)
     clear hK K'
     refine wpAnyH_ready (rs := [11]) (by kernel_rfl) (by simp) ?_
     refine AllReadyH.cons rfl (fun K' hK => ?_) AllReadyH.nil
     rw [if_pos (by rfl)]
     go_simp
     refine hK.out _ _ hr8 (fun hHeld => ?_)
     clear hK K'
     refine wpAnyH_done (by kernel_rfl) ?_ _
     clear hHeld hr5 hr6 hr7 hr8 g5 g6 g7 f7 e7 e5 hsl hbd g4
     go_wp2_with fail
     go_roundg g'
     case measure => omega
     case rel => exact ⟨_, i + 1, by go_num, by omega, by omega, HE.out.1, by rw [HFT.out]; exact HE.out.2⟩
    refine AllReadyH.cons rfl (fun K' hK => ?_) AllReadyH.nil
    rw [if_pos (by rfl)]
    refine wp_buildSlice 36 73 1 #[(0, .tmp 26)] rfl (Value.int .i64 y.1 :: cl5).toArray j0 (.agg zA) Tryz.underlying36 hj0 hj1 (by rw [hj2]; decide) (by rw [hj2]; decide) (by simp only [List.map_toArray, List.map_cons, List.map_nil]; exact ask_fill (Value.int .i64 y.1 :: cl5).toArray (by simp [hl5]) j0 hj2) ?_
    simp only [Act.put, List.getElem_toArray, List.getElem_cons_zero, List.getElem_cons_succ, List.setIfInBounds_toArray, List.set_cons_zero, List.set_cons_succ]
    refine hK.out _ _ hr6 (fun hHeld => ?_)
    clear hK K'
    refine wpAnyH_ready (rs := [1]) (by kernel_rfl) (by simp) ?_
    refine AllReadyH.cons rfl (fun K' hK => ?_) AllReadyH.nil
    rw [if_pos (by rfl)]
    go_simp
    refine hK.out _ _ hHeld (fun hHeld => ?_)
    clear hK K'
    refine wpAnyH_ready (rs := [9]) (by kernel_rfl) (by simp) ?_
    refine AllReadyH.cons rfl (fun K' hK => ?_) AllReadyH.nil
    rw [if_pos (by rfl)]
    refine wp_append_run (.tmp 20) (.tmp 27) 36 36 rfl u (.slice (some ⟨w5.heap.size, 0, none⟩) 1 1) rfl rfl _ _ e5 ?_
    simp only [Act.put, List.getElem_toArray, List.getElem_cons_zero, List.getElem_cons_succ, List.setIfInBounds_toArray, List.set_cons_zero, List.set_cons_succ]
    refine hK.out _ _ hr7 (fun hHeld => ?_)
    clear hK K'
    refine wpAnyH_ready (rs := [10]) (by kernel_rfl) (by simp) ?_
    refine AllReadyH.cons rfl (fun K' hK => ?_) AllReadyH.nil
    rw [if_pos (by rfl)]
    go_simp
    refine hK.out _ _ hr7 (fun hHeld => ?_)
    clear hK K'
    refine wpAnyH_ready (rs := [11]) (by kernel_rfl) (by simp) ?_
    refine AllReadyH.cons rfl (fun K' hK => ?_) AllReadyH.nil
    rw [if_pos (by rfl)]
    go_simp
    refine hK.out _ _ hr8 (fun hHeld => ?_)
    clear hK K'
    refine wpAnyH_done (by kernel_rfl) ?_ _
    clear hHeld hr5 hr6 hr7 hr8 g5 g6 g7 f7 e7 e5 hsl hbd g4
    go_wp2_with fail
    go_roundg g'
    case measure => omega
    case rel => exact ⟨_, i + 1, by go_num, by omega, by omega, HE.out.1, by rw [HFT.out]; exact HE.out.2⟩
  ·have z1 : ¬ (i : Int) < (xs.length : Int) := by omega
   have hJ := HJ.out
   rw [List.take_of_length_le (by omega)] at hJ
   have hfl := List.length_filter_le (fun x => !p x) xs
   obtain ⟨q, c, hu, hlf⟩ := hJ.list mAsk (bytes := 648) (by have := HBY.out; omega)
   subst hu
   have hlt := HB.out.lt
   have g3 : wr.cell? ⟨w.heap.size + 1 + 1, 0, none⟩ = some (.slice q (xs.filter (fun x => !p x)).length c) := cell_of_row (k := 0) HB.out.2.2.1 rfl
   have g1 := cell_of_row (k := 0) HB.out.2.1 rfl
   have f1 := frozen_zero HB.out.2.1 0
   obtain ⟨a1, a2, a3, a4, a5⟩ := setCell_any wr (w.heap.size + 1) 0 (.slice q (xs.filter (fun x => !p x)).length c)
   have hgY : (wr.setCell ⟨w.heap.size + 1, 0, none⟩ (.slice q (xs.filter (fun x => !p x)).length c)).heap[w.heap.size + 1]? = some (.cells #[.slice q (xs.filter (fun x => !p x)).length c] 38 (0, 0)) := by rw [setCell_eq_setRow wr _ 0 _ 38 (0, 0) _ HB.out.2.1]; exact setRow_heap wr _ _ _ 38 _ HB.out.2.1
   have hlY : OwnR rAsk 48 73 (w.heap.size + 3) (wr.setCell ⟨w.heap.size + 1, 0, none⟩ (.slice q (xs.filter (fun x => !p x)).length c)) (.slice q (xs.filter (fun x => !p x)).length c) (xs.filter (fun x => !p x)) := hJ.kept mAsk ⟨a2, a3, a4, by omega, fun b (hb : w.heap.size + 3 ≤ b) => a5 b (by omega)⟩
   have hbY : Below w.heap.size w (wr.setCell ⟨w.heap.size + 1, 0, none⟩ (.slice q (xs.filter (fun x => !p x)).length c)) := ⟨a2.trans HB.out.2.2.2.os, a3.trans HB.out.2.2.2.tape, a4.trans HB.out.2.2.2.output, by have := HB.out.2.2.2.size; omega, fun b hb => by rw [a5 b (by omega)]; exact HB.out.2.2.2.block b hb⟩
   obtain ⟨Y, hY⟩ : ∃ Y, wr.setCell ⟨w.heap.size + 1, 0, none⟩ (.slice q (xs.filter (fun x => !p x)).length c) = Y := ⟨_, rfl⟩
   rw [hY] at hgY hlY hbY
   have d0 := cell_of_row (k := 0) hgY rfl
   have HF := hid (And.intro hlY hbY)
   clear HJ hJ hlf HB a1 a2 a3 a4 a5 hgY hlY hbY hfl hlt
   go_wp2_with fail
   refine bodyPost_ret (v := .agg #[.slice q (xs.filter (fun x => !p x)).length c]) (by simp [results, Tryz.results27, go_sem, d0]) rfl ?_
   exact ⟨_, _, rfl, HF.out⟩
end Go.Proofs.YtajomnfeicfdlaaGreatDoor

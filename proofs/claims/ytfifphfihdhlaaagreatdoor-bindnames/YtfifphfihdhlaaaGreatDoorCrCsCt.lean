/- The items of a query that names none: allColumns. -/
import Derived.Test.YtfifphfihdhlaaaGreatDoorCpCq
set_option maxRecDepth 100000
set_option maxHeartbeats 32000000
namespace Go.Proofs.YtfifphfihdhlaaaGreatDoor.Bd
open Tryz
open Go.Shelf Go.RowKit Go.Lib Go.Sort
set_option linter.unusedVariables false
set_option linter.unusedSimpArgs false
attribute [local go_sem ↓] Go.wp_at_zero Go.wp_at_succ
def NewT (B : Nat) (w' : World) (m : List Itm) (e : Ending) : Prop := ∃ p c, e = .returned (.slice p m.length c) ∧ ListIs rItmW 2 32 (From B w') w' (.slice p m.length c) m
def colItm (i : Nat) : Itm := ⟨0, [⟨6, [], (i : Int)⟩]⟩
theorem allP_eq (s : Scp) : allP s = (List.range s.c.length).map colItm := rfl
theorem col_next (i : Nat) : (List.range (i + 1)).map colItm = (List.range i).map colItm ++ [colItm i] := by simp [List.range_succ]
theorem all_any (s : Scp) (p : Option Addr) (d : Nat) (w : World) (h16 : s.c.length ≤ 16) :
 Calls prog 111 #[.agg (scpC s p d)] w fun e w' => Got (if 8 < s.c.length then .error 3 else .ok (allP s)) (NewT w.heap.size w') e ∧ Bl w w' := by
 obtain ⟨tS, htS⟩ := bya s.t
 obtain ⟨jS, hjS⟩ := bya s.j
 rw [allP_eq]
 obtain ⟨N, hN⟩ := gen s.c.length
 obtain ⟨wd, hwd⟩ := gen s.w
 have hsc : scpC s p d = #[.string tS, .string jS, .int .i64 (wd : Int), .slice p N d] := by unfold scpC; rw [htS, hjS, hN, hwd]
 obtain ⟨W0, hW0⟩ := gen (w.alloc (.cells #[.string tS, .string jS, .int .i64 (wd : Int), .slice p N d] 67))
 have hb0 : Bl w W0 := by rw [← hW0]; exact below_alloc _ _
 have hg0 : W0.heap[w.heap.size]? = some (.cells #[.string tS, .string jS, .int .i64 (wd : Int), .slice p N d] 67 (0, 0)) := by rw [← hW0]; exact heap_alloc_new w _
 have hs0 : W0.heap.size = w.heap.size + 1 := by rw [← hW0]; simp
 have c3 := cell_of_row (k := 3) (v := .slice p N d) hg0 rfl
 rw [hN] at h16
 rw [hsc, hN]
 have HB0 := hid hb0
 have HZ : Hid (W0.heap.size = w.heap.size + 1) := hs0
 clear htS hjS hN hwd hsc hb0 hg0 hs0
 by_cases h8 : 8 < N
 · have y : (8 : Int) < (N : Int) := by omega
   rw [if_pos h8]
   have HQ : Hid (Got (Except.error 3 : Except Int (List Itm)) (NewT w.heap.size W0) (stopE 3)) := rfl
   clear h8
   unfold stopE at HQ
   go_enter func111, ntmps111
   go_wp2_with fail
   exact ⟨rfl, HQ.out, HB0.out⟩
 have y : ¬ (8 : Int) < (N : Int) := by omega
 rw [if_neg h8]
 obtain ⟨i0, hi0, hiz, his, hib⟩ := inE_itm
 have hN8 : N ≤ 8 := by omega
 clear h8
 go_enter func111, ntmps111
 go_wp2_with fail
 go_loopg [3, 13] N (fun gf s3 s13 wx => ∃ (i : Nat) (a : Option Addr) (cc : Nat), s3 = .slice a i cc ∧ s13 = .int .i64 i ∧ i ≤ N ∧ N ≤ i + gf ∧ Hid (Bl W0 wx) ∧ Hid (OwnR rItmW 2 42 W0.heap.size wx (.slice a i cc) ((List.range i).map colItm)))
 case atStart => exact ⟨0, none, 0, rfl, rfl, by omega, by omega, Below.refl _ _, OwnR.none (World.ownsRow_nil _ _ _ _)⟩
 case round =>
  obtain ⟨i, a, cc, rfl, rfl, hi1, hgf, HB, HO⟩ := hrel
  by_cases hi : i < N
  · obtain ⟨g', rfl⟩ : ∃ g', gk = g' + 1 := ⟨gk - 1, by omega⟩
    obtain ⟨X, hX⟩ := gen (wr.alloc (.cells #[.int .u8 6, .string ⟨#[]⟩, .int .i64 (i : Int)] 53))
    have hbX : Bl wr X := by rw [← hX]; exact below_alloc _ _
    have hgX : X.heap[wr.heap.size]? = some (.cells #[.int .u8 6, .string ⟨#[]⟩, .int .i64 (i : Int)] 53 (0, 0)) := by rw [← hX]; exact heap_alloc_new wr _
    have hsX : X.heap.size = wr.heap.size + 1 := by rw [← hX]; simp
    have hOX := HO.out.keep mItmW hbX
    have hlen : ((List.range i).map colItm).length = i := by simp
    have hstp : ListIs rStpW 3 32 (fun b => b = wr.heap.size) X (.slice (some ⟨wr.heap.size, 0, none⟩) 1 1) [(⟨6, [], (i : Int)⟩ : Stp)] := ⟨_, 1, rfl, ⟨by simp, by simp⟩, fun _ => ⟨wr.heap.size, 0, rfl, rfl, fun j hj => by
     have e : j = 0 := by simpa using hj
     subst e
     exact ⟨[.int .u8 6, .string ⟨#[]⟩, .int .i64 (i : Int)], rfl, fun m u hu => by rw [show 0 + 0 * 3 + m = m by omega]; exact cell_of_row hgX (by simpa using hu), rfl, by show 6 < 256; omega, ⟨by show (-9223372036854775808 : Int) ≤ (i : Int); omega, by show (i : Int) ≤ 9223372036854775807; omega⟩, by show 0 ≤ 140737488355328; omega⟩⟩⟩
    obtain ⟨v', X3, e3, ho3, hB3, hs3, hk3⟩ := hOX.push mItmW (bytes := 32) (ts := 22) underlying22 hi0 hiz his hib rfl (by omega) (HB.out.trans (hbX.mono HB.out.size)).size (x := colItm i) (cs := [.int .u8 0, .slice (some ⟨wr.heap.size, 0, none⟩) 1 1]) (K2 := fun b => b = wr.heap.size) rfl (by intro c hc; simp at hc; rcases hc with rfl | rfl <;> rfl) (fun b hb => by
     have hb' : b = wr.heap.size := hb
     subst hb'
     refine ⟨HB.out.size, by omega, fun e => ?_⟩
     have := HO.out.lt _ e
     omega) ⟨_, rfl, hstp, by show 0 < 256; omega⟩ (by rw [hlen]; omega) (by rw [hlen]; unfold maxLen; omega)
    obtain ⟨a3, c3', ev⟩ := ho3.slice
    rw [List.length_append, hlen] at ev
    have ev2 : v' = .slice a3 (i + 1) c3' := ev
    subst ev2
    have HE3 := hid e3
    have HB3 : Hid (Bl W0 X3) := hB3 _ _ (HB.out.trans (hbX.mono HB.out.size)) (Nat.le_refl _)
    have HO3 : Hid (OwnR rItmW 2 42 W0.heap.size X3 (.slice a3 (i + 1) c3') ((List.range (i + 1)).map colItm)) := by show OwnR _ _ _ _ _ _ _; rw [col_next]; exact ho3
    have z0 : (0 : Int) ≤ (i : Int) := by omega
    have z1 : (i : Int) < (N : Int) := by omega
    clear hbX hgX hsX hOX hlen hstp e3 ho3 hB3 hs3 hk3 ev HO HB
    go_wp2_with (at_builtin; refine Lib.wpList_append_run _ rfl _ _ _ _ rfl (.slice a i cc) (.slice (some ⟨X.heap.size, 0, none⟩) 1 1) rfl rfl _ _ HE3.out ?_)
    go_roundg g'
    case measure => omega
    case rel => exact ⟨i + 1, a3, c3', rfl, by go_num, by omega, by omega, HB3, HO3⟩
  · have z1 : ¬ (i : Int) < (N : Int) := by omega
    have HBW : Hid (Bl w wr) := HB0.out.trans (HB.out.mono HB0.out.size)
    have HQ : Hid (Got (.ok ((List.range N).map colItm)) (NewT w.heap.size wr) (.returned (.slice a i cc))) := by
     have hiN : i = N := by omega
     subst hiN
     obtain ⟨p2, c2, e2, hli⟩ := HO.out.list (bytes := 32) mItmW (by simp; omega)
     show NewT _ _ _ _
     exact ⟨p2, c2, by rw [e2], hli.less mItmW (by have := HZ.out; omega)⟩
    clear HO
    go_wp2_with fail
    go_ret
    exact ⟨HQ.out, HBW.out⟩
theorem isCol_item (K : Nat → Prop) (x : Itm) (p : Option Addr) (c : Nat) (w : World) (h : ListIs rStpW 3 32 K w (.slice p x.e.length c) x.e) (hK : ∀ b, K b → b < w.heap.size) :
 Calls prog 140 #[.agg #[.int .u8 (x.g : Int), .slice p x.e.length c]] w fun e w' => e = .returned (.bool (isColI x)) ∧ Bl w w' := by
 obtain ⟨N, hN⟩ := gen x.e.length
 obtain ⟨g, hg⟩ := gen x.g
 obtain ⟨W0, hW0⟩ := gen (w.alloc (.cells #[.int .u8 (g : Int), .slice p N c] 42))
 have hb0 : Bl w W0 := by rw [← hW0]; exact below_alloc _ _
 have hg0 : W0.heap[w.heap.size]? = some (.cells #[.int .u8 (g : Int), .slice p N c] 42 (0, 0)) := by rw [← hW0]; exact heap_alloc_new w _
 have c0 := cell_of_row (k := 0) (v := .int .u8 (g : Int)) hg0 rfl
 have c1 := cell_of_row (k := 1) (v := .slice p N c) hg0 rfl
 have HL := hid (h.later mStpW hK hb0)
 have HB := hid hb0
 have HNX : Hid (x.e.length = N) := hN
 obtain ⟨R, hR⟩ := gen (isColI x)
 have HR : Hid (R = (decide (g = 0) && (decide (N = 1) && decide (((x.e[0]?).map Stp.k).getD 0 = 6)))) := by show _ = _; rw [← hR, ← hg, ← hN]; rfl
 rw [hN, hg, hR]
 clear h hK hN hg hb0 hg0 hR
 by_cases h0 : g = 0
 case neg =>
  have y0 : ((g : Int) == 0) = false := bfn (by omega)
  have HE : Hid (R = false) := by show _ = _; rw [HR.out, decide_eq_false h0]; rfl
  clear HR h0 HL
  go_enter func140, ntmps140
  go_wp2_with fail
  go_ret
  exact ⟨by rw [HE.out]; try rfl, HB.out⟩
 have y0 : ((g : Int) == 0) = true := by simp [h0]
 by_cases h1 : N = 1
 case neg =>
  have y1 : ((N : Int) == 1) = false := bfn (by omega)
  have HE : Hid (R = false) := by show _ = _; rw [HR.out, decide_eq_false h1]; simp
  clear HR h0 h1 HL
  go_enter func140, ntmps140
  go_wp2_with fail
  go_ret
  exact ⟨by rw [HE.out]; try rfl, HB.out⟩
 have y1 : ((N : Int) == 1) = true := by simp [h1]
 have hl : 0 < x.e.length := by rw [HNX.out]; omega
 obtain ⟨b, o, hq, _, hc⟩ := stp_w HL.out hl
 subst hq
 have ck := (hc 0 hl).1 0 _ rfl
 have hk : ((x.e[0]?).map Stp.k).getD 0 = (x.e[0]).k := by simp [hl]
 rw [hk] at HR
 obtain ⟨k, hkk⟩ := gen ((x.e[0]).k)
 rw [hkk] at HR ck
 simp only [Nat.zero_mul, Nat.add_zero] at ck
 have z1 : (0 : Int) < (N : Int) := by omega
 obtain ⟨F, hF⟩ := gen (((k : Int) == 6))
 have HE : Hid (R = F) := by
  show _ = _
  rw [HR.out, decide_eq_true h0, decide_eq_true h1, ← hF]
  by_cases e : k = 6
  · subst e; rfl
  · rw [decide_eq_false e]; exact (bfn (by omega)).symm
 clear HR h0 h1 HL hl hc hk hkk
 go_enter func140, ntmps140
 go_wp2_with fail
 go_ret
 exact ⟨by rw [HE.out]; try rfl, HB.out⟩
theorem ofGroup_any (K Kg : Nat → Prop) (x : Itm) (p q : Option Addr) (c cg : Nat) (l : List Int) (w : World) (h : ListIs rStpW 3 32 K w (.slice p x.e.length c) x.e) (hK : ∀ b, K b → b < w.heap.size) (hg : ListIs rInt 1 8 Kg w (.slice q l.length cg) l) (hKg : ∀ b, Kg b → b < w.heap.size) :
 Calls prog 116 #[.agg #[.int .u8 (x.g : Int), .slice p x.e.length c], .slice q l.length cg] w fun e w' => e = .returned (.bool (ofGroup x l)) ∧ Bl w w' := by
 obtain ⟨N, hN⟩ := gen x.e.length
 obtain ⟨g, hgg⟩ := gen x.g
 obtain ⟨W0, hW0⟩ := gen (w.alloc (.cells #[.int .u8 (g : Int), .slice p N c] 42))
 have hb0 : Bl w W0 := by rw [← hW0]; exact below_alloc _ _
 have hg0 : W0.heap[w.heap.size]? = some (.cells #[.int .u8 (g : Int), .slice p N c] 42 (0, 0)) := by rw [← hW0]; exact heap_alloc_new w _
 have hl0 : w.heap.size < W0.heap.size := (gsi hg0).1
 have HRG : Hid (W0.rangeAt w.heap.size 0 [.int .u8 (g : Int), .slice p N c]) := rgz hg0
 have C1 := hid (isCol_item K x p c W0 (h.later mStpW hK hb0) (fun b hb => nlt (hK b hb) hb0.size))
 obtain ⟨A, hA⟩ := gen (isColI x)
 have HBX : Hid (∀ V, Bl W0 V → V.cell? ⟨w.heap.size, 1, none⟩ = some (.slice p N c) ∧ Bl w V) := fun V hV => ⟨cell_of_row (k := 1) ((hV.block _ hl0).trans hg0) rfl, hb0.trans (hV.mono (by omega))⟩
 have HLX : Hid (∀ V, Bl w V → ListIs rStpW 3 32 K V (.slice p N c) x.e) := fun V hV => by have := h.later mStpW hK hV; rwa [hN] at this
 have C2 : Hid (∀ V, Bl w V → ∀ v, Calls prog 72 #[.slice q l.length cg, .int .i64 v] V fun e w' => e = .returned (.bool (l.contains v)) ∧ Bl V w') := fun V hV v => contains_int Kg q cg l v V (hg.later mInt hKg hV) (fun b hb => nlt (hKg b hb) hV.size)
 have HNX : Hid (x.e.length = N) := hN
 obtain ⟨R, hR⟩ := gen (ofGroup x l)
 have HR : Hid (R = (A && l.contains (firstN x))) := by show _ = _; rw [← hR, ← hA]; rfl
 have HA : Hid (isColI x = A) := hA
 obtain ⟨M, hM⟩ := gen l.length
 rw [hA, hN, hgg] at C1
 rw [hM] at C2
 rw [hN, hgg, hM, hR]
 clear h hK hg hKg hN hgg hb0 hg0 hl0 hA hR hM
 go_enter func116, ntmps116
 go_wp2_with (refine wpList_load_mid rfl 42 _ rfl w.heap.size 0 rfl _ _ HRG.out underlying42 rfl sz_item ?_)
 refine C1.out.mono ?_
 rintro e w1 ⟨rfl, hb1⟩
 obtain ⟨k1, hbw1⟩ := HBX.out w1 hb1
 have HBW1 := hid hbw1
 clear C1 hb1 HRG
 cases A with
 | false =>
  have HE : Hid (R = false) := by show _ = _; rw [HR.out]; rfl
  clear HR C2
  go_wp2_with fail
  go_ret
  exact ⟨by rw [HE.out]; try rfl, HBW1.out⟩
 | true =>
  have hx1 : x.e.length = 1 := by
   have := HA.out
   unfold isColI at this
   simp only [Bool.and_eq_true, decide_eq_true_eq] at this
   exact this.2.1
  obtain ⟨b, o, hq, _, hc⟩ := stp_w (HLX.out w1 hbw1) (by omega)
  subst hq
  have cn := (hc 0 (by omega)).1 2 _ rfl
  have hfn : firstN x = (x.e[0]).n := by unfold firstN; simp [hx1]
  obtain ⟨v, hv⟩ := gen ((x.e[0]).n)
  rw [hv] at cn hfn
  simp only [Nat.zero_mul, Nat.add_zero] at cn
  have z1 : (0 : Int) < (N : Int) := by have := HNX.out; omega
  have C2' := hid (C2.out w1 hbw1 v)
  obtain ⟨F, hF⟩ := gen (l.contains v)
  have HE : Hid (R = F) := by show _ = _; rw [HR.out, hfn, hF]; rfl
  rw [hF] at C2'
  clear HR C2 hx1 hc hfn hv hF hbw1 HA
  go_wp2_with fail
  refine C2'.out.mono ?_
  rintro e w2 ⟨rfl, hb2⟩
  have HB2 : Hid (Bl w w2) := HBW1.out.trans (hb2.mono HBW1.out.size)
  clear C2' hb2
  go_wp2_with fail
  go_ret
  exact ⟨by rw [HE.out]; try rfl, HB2.out⟩
theorem item_any (K Kc Kg : Nat → Prop) (s : Scp) (p : Option Addr) (d : Nat) (x : Itm) (pe pg : Option Addr) (ce cg : Nat) (gr : Bool) (l : List Int) (v0 v1 v2 v3 v4 v5 v7 v9 v10 : Value) (w : World) (h : ListIs rClm 2 24 Kc w (.slice p s.c.length d) s.c) (hKc : ∀ b, Kc b → b < w.heap.size) (hl : ListIs rStpW 3 32 K w (.slice pe x.e.length ce) x.e) (hK : ∀ b, K b → b < w.heap.size) (hg : ListIs rInt 1 8 Kg w (.slice pg l.length cg) l) (hKg : ∀ b, Kg b → b < w.heap.size) (hG : GW w) :
 Calls prog 75 #[.agg (scpC s p d), .agg #[.int .u8 (x.g : Int), .slice pe x.e.length ce], .agg #[v0, v1, v2, v3, v4, v5, .slice pg l.length cg, v7, .bool gr, v9, v10]] w fun e w' => e = .returned (.int .i64 (itemE s x gr l)) ∧ Bl w w' := by
 obtain ⟨tS, htS⟩ := bya s.t
 obtain ⟨jS, hjS⟩ := bya s.j
 obtain ⟨Nc, hNc⟩ := gen s.c.length
 obtain ⟨wd, hwd⟩ := gen s.w
 have hsc : scpC s p d = #[.string tS, .string jS, .int .i64 (wd : Int), .slice p Nc d] := by unfold scpC; rw [htS, hjS, hNc, hwd]
 obtain ⟨N, hN⟩ := gen x.e.length
 obtain ⟨M, hM⟩ := gen l.length
 obtain ⟨g, hgg⟩ := gen x.g
 obtain ⟨W0, hW0, hb0, hz0, g0, g1, g2⟩ : ∃ W0, ((w.alloc (.cells #[.string tS, .string jS, .int .i64 (wd : Int), .slice p Nc d] 67)).alloc (.cells #[.int .u8 (g : Int), .slice pe N ce] 42)).alloc (.cells #[v0, v1, v2, v3, v4, v5, .slice pg M cg, v7, .bool gr, v9, v10] 32) = W0 ∧ Bl w W0 ∧ W0.heap.size = w.heap.size + 3 ∧ W0.heap[w.heap.size]? = some (.cells #[.string tS, .string jS, .int .i64 (wd : Int), .slice p Nc d] 67 (0, 0)) ∧ W0.heap[w.heap.size + 1]? = some (.cells #[.int .u8 (g : Int), .slice pe N ce] 42 (0, 0)) ∧ W0.heap[w.heap.size + 1 + 1]? = some (.cells #[v0, v1, v2, v3, v4, v5, .slice pg M cg, v7, .bool gr, v9, v10] 32 (0, 0)) := three_boxes w _ _ _ 67 42 32
 have HBX : Hid (∀ V, Bl W0 V → V.cell? ⟨w.heap.size + 1, 0, none⟩ = some (.int .u8 (g : Int)) ∧ V.cell? ⟨w.heap.size + 1 + 1, 8, none⟩ = some (.bool gr) ∧ V.cell? ⟨w.heap.size + 1 + 1, 6, none⟩ = some (.slice pg M cg) ∧ V.rangeAt (w.heap.size + 1) 0 [.int .u8 (g : Int), .slice pe N ce] ∧ Bl w V) := fun V hV => by
  have h1 := (hV.block _ (by omega)).trans g1
  have h2 := (hV.block _ (by omega)).trans g2
  exact ⟨cell_of_row (k := 0) h1 rfl, cell_of_row (k := 8) h2 rfl, cell_of_row (k := 6) h2 rfl, rgz h1, hb0.trans (hV.mono (by omega))⟩
 have C1 : Hid (Calls prog 14 #[.slice pe N ce, .slice p Nc d] W0 fun e w' => e = .returned (.tuple #[.int .u8 ((kindP x.e s.c).1 : Int), .int .i64 (kindP x.e s.c).2]) ∧ Bl W0 w') := by
  have := kind_any K Kc pe p ce d x.e s.c W0 (hl.later mStpW hK hb0) (h.later mClm hKc hb0) (fun b hb => nlt (hK b hb) hb0.size) (fun b hb => nlt (hKc b hb) hb0.size) (hG.below hb0)
  rwa [hN, hNc] at this
 have C2 : Hid (∀ V, Bl w V → Calls prog 116 #[.agg #[.int .u8 (g : Int), .slice pe N ce], .slice pg M cg] V fun e w' => e = .returned (.bool (ofGroup x l)) ∧ Bl V w') := fun V hV => by
  have := ofGroup_any K Kg x pe pg ce cg l V (hl.later mStpW hK hV) (fun b hb => nlt (hK b hb) hV.size) (hg.later mInt hKg hV) (fun b hb => nlt (hKg b hb) hV.size)
  rwa [hN, hM, hgg] at this
 obtain ⟨k, hk⟩ := gen ((kindP x.e s.c).1)
 obtain ⟨y, hy⟩ := gen ((kindP x.e s.c).2)
 obtain ⟨F, hF⟩ := gen (ofGroup x l)
 obtain ⟨R, hR⟩ := gen (itemE s x gr l)
 have HR : Hid (R = if 5 ≤ g ∨ (g = 1 ∧ 0 < N) then 13 else if g = 1 then 0 else if y ≠ 0 then y else if g = 2 ∧ k ≠ 2 ∧ k ≠ 0 then 5 else if g = 0 ∧ gr = true ∧ F = false then 14 else 0) := by show _ = _; rw [← hR]; unfold itemE; rw [hgg, hN, hk, hy, hF]
 rw [hk, hy] at C1
 rw [hF] at C2
 obtain ⟨x0, -, -, -, hbw0⟩ := HBX.out W0 (Below.refl _ _)
 have c1 := cell_of_row (k := 1) (v := .slice pe N ce) g1 rfl
 have c3 := cell_of_row (k := 3) (v := .slice p Nc d) g0 rfl
 have HB0 := hid hb0
 rw [hsc, hN, hM, hgg, hR]
 clear h hKc hl hK hg hKg hG htS hjS hNc hwd hsc hN hM hgg hb0 hz0 g0 g1 g2 hk hy hF hR hbw0
 by_cases h5 : 5 ≤ g
 · have y5 : (5 : Int) ≤ (g : Int) := by omega
   have HE : Hid (R = 13) := by show _ = _; rw [HR.out, if_pos (.inl h5)]
   clear HR h5 C1 C2 HBX
   go_enter func75, ntmps75
   go_wp2_with fail
   go_ret
   exact ⟨by rw [HE.out]; try rfl, HB0.out⟩
 have y5 : ¬ (5 : Int) ≤ (g : Int) := by omega
 by_cases h1 : g = 1
 · have y1 : ((g : Int) == 1) = true := by simp [h1]
   by_cases h0 : 0 < N
   · have y0 : (0 : Int) < (N : Int) := by omega
     have HE : Hid (R = 13) := by show _ = _; rw [HR.out, if_pos (.inr ⟨h1, h0⟩)]
     clear HR h5 h1 h0 C1 C2 HBX
     go_enter func75, ntmps75
     go_wp2_with fail
     go_ret
     exact ⟨by rw [HE.out]; try rfl, HB0.out⟩
   · have y0 : ¬ (0 : Int) < (N : Int) := by omega
     have HE : Hid (R = 0) := by show _ = _; rw [HR.out, if_neg (by omega), if_pos h1]
     clear HR h5 h1 h0 C1 C2 HBX
     go_enter func75, ntmps75
     go_wp2_with fail
     go_ret
     exact ⟨by rw [HE.out]; try rfl, HB0.out⟩
 have y1 : ((g : Int) == 1) = false := bfn (by omega)
 have HR1 : Hid (R = if y ≠ 0 then y else if g = 2 ∧ k ≠ 2 ∧ k ≠ 0 then 5 else if g = 0 ∧ gr = true ∧ F = false then 14 else 0) := by show _ = _; rw [HR.out, if_neg (by omega), if_neg h1]
 clear HR h1 h5
 go_enter func75, ntmps75
 go_wp2_with fail
 refine C1.out.mono ?_
 rintro e w1 ⟨rfl, hb1⟩
 obtain ⟨x0', x8, x6, xr, hbw1⟩ := HBX.out w1 hb1
 have HXR := hid xr
 have HBW1 := hid hbw1
 have C2' := hid (C2.out w1 hbw1)
 clear C1 C2 HBX hb1 x0 c1 c3 xr hbw1
 by_cases hy : y = 0
 case neg =>
  have yy : (y != 0) = true := bne_iff_ne.2 hy
  have HE : Hid (R = y) := by show _ = _; rw [HR1.out, if_pos hy]
  clear HR1 hy C2'
  go_wp2_with fail
  go_ret
  exact ⟨by rw [HE.out]; try rfl, HBW1.out⟩
 have yy : (y != 0) = false := by rw [hy]; rfl
 have HR2 : Hid (R = if g = 2 ∧ k ≠ 2 ∧ k ≠ 0 then 5 else if g = 0 ∧ gr = true ∧ F = false then 14 else 0) := by show _ = _; rw [HR1.out, if_neg (fun h => h hy)]
 clear HR1 hy
 by_cases h2 : g = 2
 · have y2 : ((g : Int) == 2) = true := by simp [h2]
   have yg0 : ((g : Int) == 0) = false := bfn (by omega)
   by_cases k2 : k = 2
   · have yk : ((k : Int) != 2) = false := by simp [k2]
     have HE : Hid (R = 0) := by show _ = _; rw [HR2.out, if_neg (by omega), if_neg (by omega)]
     clear HR2 h2 k2 C2'
     go_wp2_with fail
     go_ret
     exact ⟨by rw [HE.out]; try rfl, HBW1.out⟩
   · have yk : ((k : Int) != 2) = true := bne_iff_ne.2 (by omega)
     by_cases k0 : k = 0
     · have yk0 : ((k : Int) != 0) = false := by simp [k0]
       have HE : Hid (R = 0) := by show _ = _; rw [HR2.out, if_neg (by omega), if_neg (by omega)]
       clear HR2 h2 k2 k0 C2'
       go_wp2_with fail
       go_ret
       exact ⟨by rw [HE.out]; try rfl, HBW1.out⟩
     · have yk0 : ((k : Int) != 0) = true := bne_iff_ne.2 (by omega)
       have HE : Hid (R = 5) := by show _ = _; rw [HR2.out, if_pos ⟨h2, k2, k0⟩]
       clear HR2 h2 k2 k0 C2'
       go_wp2_with fail
       go_ret
       exact ⟨by rw [HE.out]; try rfl, HBW1.out⟩
 have y2 : ((g : Int) == 2) = false := bfn (by omega)
 have HR3 : Hid (R = if g = 0 ∧ gr = true ∧ F = false then 14 else 0) := by show _ = _; rw [HR2.out, if_neg (fun h => h2 h.1)]
 clear HR2 h2
 by_cases h0 : g = 0
 case neg =>
  have yg0 : ((g : Int) == 0) = false := bfn (by omega)
  have HE : Hid (R = 0) := by show _ = _; rw [HR3.out, if_neg (fun h => h0 h.1)]
  clear HR3 h0 C2'
  go_wp2_with fail
  go_ret
  exact ⟨by rw [HE.out]; try rfl, HBW1.out⟩
 have yg0 : ((g : Int) == 0) = true := by simp [h0]
 cases gr with
 | false =>
  have HE : Hid (R = 0) := by show _ = _; rw [HR3.out, if_neg (by simp)]
  clear HR3 h0 C2'
  go_wp2_with fail
  go_ret
  exact ⟨by rw [HE.out]; try rfl, HBW1.out⟩
 | true =>
  have HR4 : Hid (R = if F = false then 14 else 0) := by
   show _ = _
   rw [HR3.out]
   cases F with
   | false => rw [if_pos ⟨h0, rfl, rfl⟩]; rfl
   | true => rw [if_neg (by simp)]; rfl
  clear HR3 h0
  go_wp2_with (refine wpList_load_midH (by rfl) 42 _ rfl (w.heap.size + 1) 0 rfl _ _ HXR.out underlying42 rfl sz_item ?_)
  refine C2'.out.mono ?_
  rintro e w2 ⟨rfl, hb2⟩
  have HB2 : Hid (Bl w w2) := HBW1.out.trans (hb2.mono HBW1.out.size)
  clear C2' hb2
  cases F with
  | false =>
   have HE : Hid (R = 14) := HR4.out
   clear HR4
   go_wp2_with fail
   go_ret
   exact ⟨by rw [HE.out]; try rfl, HB2.out⟩
  | true =>
   have HE : Hid (R = 0) := HR4.out
   clear HR4
   go_wp2_with fail
   go_ret
   exact ⟨by rw [HE.out]; try rfl, HB2.out⟩
def preT (ys : List Itm) : Except Int (List Itm) → Except Int (List Itm)
 | .error e => .error e
 | .ok m => .ok (ys ++ m)
theorem preT_pre (ys zs : List Itm) (r : Except Int (List Itm)) : preT ys (preT zs r) = preT (ys ++ zs) r := by
 cases r with
 | error e => rfl
 | ok m => unfold preT; simp only [List.append_assoc]
def nextT (s : Scp) (gr : Bool) (g : List Int) (y : Itm) (r : Except Int (List Itm)) : Except Int (List Itm) := if itemE s y gr g = 0 then preT [y] r else .error (itemE s y gr g)
def stepT (s : Scp) (gr : Bool) (g : List Int) (c : Except Int Itm) (r : Except Int (List Itm)) : Except Int (List Itm) :=
 match c with
 | .error e => .error e
 | .ok y => nextT s gr g y r
theorem itemsGo_at (s : Scp) (gr : Bool) (g : List Int) (l : List Itm) (i : Nat) (h : i < l.length) : itemsGo s gr g (l.drop i) = stepT s gr g (itemR s l[i]) (itemsGo s gr g (l.drop (i + 1))) := by
 rw [List.drop_eq_getElem_cons h, show itemsGo s gr g (l[i] :: l.drop (i + 1)) = (match itemR s l[i] with
  | .error e => .error e
  | .ok y => if itemE s y gr g = 0 then (match itemsGo s gr g (l.drop (i + 1)) with
   | .error e => .error e
   | .ok m => .ok (y :: m)) else .error (itemE s y gr g)) from rfl]
 unfold stepT nextT
 cases itemR s l[i] with
 | error e => rfl
 | ok y =>
  simp only
  split
  · generalize itemsGo s gr g (l.drop (i + 1)) = r
    cases r <;> rfl
  · rfl
def itemM (g : Nat) (E : Except Int (List Stp)) : Except Int Itm :=
 match E with
 | .error e => .error e
 | .ok m => .ok ⟨g, m⟩
theorem itemR_of {s : Scp} {x : Itm} (h : x.g ≠ 1) : itemR s x = itemM x.g (exprR s x.e) := by
 unfold itemR itemM
 rw [if_neg h]
 cases exprR s x.e <;> rfl
theorem sz_bnd : (prog.info? 32).map (·.size) = some 11 := by kernel_rfl
theorem items_any (K Kc Kg : Nat → Prop) (s : Scp) (p : Option Addr) (d : Nat) (q : Option Addr) (c : Nat) (l : List Itm) (pg : Option Addr) (cg : Nat) (gr : Bool) (G : List Int) (v0 v1 v2 v3 v4 v5 v7 v9 v10 : Value) (w : World) (h : ListIs rClm 2 24 Kc w (.slice p s.c.length d) s.c) (hKc : ∀ b, Kc b → b < w.heap.size) (h16 : s.c.length ≤ 16) (hl : ListIs rItmW 2 32 K w (.slice q l.length c) l) (hK : ∀ b, K b → b < w.heap.size) (h8 : l.length ≤ 8) (hg : ListIs rInt 1 8 Kg w (.slice pg G.length cg) G) (hKg : ∀ b, Kg b → b < w.heap.size) (hG : GW w) :
 Calls prog 67 #[.agg (scpC s p d), .slice q l.length c, .agg #[v0, v1, v2, v3, v4, v5, .slice pg G.length cg, v7, .bool gr, v9, v10]] w fun e w' => Got (itemsR s gr G l) (NewT w.heap.size w') e ∧ Bl w w' := by
 obtain ⟨tS, htS⟩ := bya s.t
 obtain ⟨jS, hjS⟩ := bya s.j
 obtain ⟨Nc, hNc⟩ := gen s.c.length
 obtain ⟨wd, hwd⟩ := gen s.w
 have hsc : scpC s p d = #[.string tS, .string jS, .int .i64 (wd : Int), .slice p Nc d] := by unfold scpC; rw [htS, hjS, hNc, hwd]
 obtain ⟨M, hM⟩ := gen G.length
 obtain ⟨W0, hW0, hb0, hz0, g0, g1⟩ := two_boxes2 w #[.string tS, .string jS, .int .i64 (wd : Int), .slice p Nc d] #[v0, v1, v2, v3, v4, v5, .slice pg M cg, v7, .bool gr, v9, v10] 67 32
 have HBX : Hid (∀ V, Bl W0 V → V.rangeAt w.heap.size 0 [.string tS, .string jS, .int .i64 (wd : Int), .slice p Nc d] ∧ V.rangeAt (w.heap.size + 1) 0 [v0, v1, v2, v3, v4, v5, .slice pg M cg, v7, .bool gr, v9, v10] ∧ Bl w V) := fun V hV =>
  ⟨rgz ((hV.block _ (by omega)).trans g0), rgz ((hV.block _ (by omega)).trans g1), hb0.trans (hV.mono (by omega))⟩
 have HALL : Hid (Calls prog 111 #[.agg #[.string tS, .string jS, .int .i64 (wd : Int), .slice p Nc d]] W0 fun e w' => Got (if 8 < s.c.length then .error 3 else .ok (allP s)) (NewT W0.heap.size w') e ∧ Bl W0 w') := by
  have := all_any s p d W0 h16
  rwa [hsc] at this
 have HEX : Hid (∀ V, Bl w V → ∀ (K2 : Nat → Prop) (q2 : Option Addr) (c2 : Nat) (m : List Stp), ListIs rStpW 3 32 K2 V (.slice q2 m.length c2) m → (∀ b, K2 b → b < V.heap.size) → Calls prog 108 #[.agg #[.string tS, .string jS, .int .i64 (wd : Int), .slice p Nc d], .slice q2 m.length c2] V fun e w' => Got (exprR s m) (NewS V.heap.size w') e ∧ Bl V w') := fun V hV K2 q2 c2 m h2 hk2 => by
  have := expr_any K2 Kc s p d q2 c2 m V (h.later mClm hKc hV) (fun b hb => nlt (hKc b hb) hV.size) h16 h2 hk2
  rwa [hsc] at this
 have HIT : Hid (∀ V, Bl w V → ∀ (K2 : Nat → Prop) (q2 : Option Addr) (c2 : Nat) (y : Itm), ListIs rStpW 3 32 K2 V (.slice q2 y.e.length c2) y.e → (∀ b, K2 b → b < V.heap.size) → Calls prog 75 #[.agg #[.string tS, .string jS, .int .i64 (wd : Int), .slice p Nc d], .agg #[.int .u8 (y.g : Int), .slice q2 y.e.length c2], .agg #[v0, v1, v2, v3, v4, v5, .slice pg M cg, v7, .bool gr, v9, v10]] V fun e w' => e = .returned (.int .i64 (itemE s y gr G)) ∧ Bl V w') := fun V hV K2 q2 c2 y h2 hk2 => by
  have := item_any K2 Kc Kg s p d y q2 pg c2 cg gr G v0 v1 v2 v3 v4 v5 v7 v9 v10 V (h.later mClm hKc hV) (fun b hb => nlt (hKc b hb) hV.size) h2 hk2 (hg.later mInt hKg hV) (fun b hb => nlt (hKg b hb) hV.size) (hG.below hV)
  rwa [hsc, hM] at this
 have HST : Hid (∀ (x : Int) V, Calls prog 109 #[.int .i64 x] V fun e w' => e = (if x = 0 then .returned (.tuple #[]) else stopE x) ∧ w' = V) := stop_any
 have HL := hid hl
 have HK := hid hK
 obtain ⟨N, hN⟩ := gen l.length
 have HN := hid hN
 obtain ⟨R, hR⟩ := gen (itemsR s gr G l)
 have HR : Hid (R = if N = 0 then (if 8 < s.c.length then .error 3 else .ok (allP s)) else preT [] (itemsGo s gr G (l.drop 0))) := by
  show _ = _
  rw [← hR]
  unfold itemsR
  by_cases e : l = []
  · rw [if_pos e]
    exact (if_pos (by rw [← hN, e]; rfl)).symm
  · rw [if_neg e, if_neg (by rw [← hN]; exact fun h0 => e (List.eq_nil_of_length_eq_zero h0)), List.drop_zero]
    cases itemsGo s gr G l <;> rfl
 have HR00 := hid (HBX.out W0 (Below.refl _ _)).1
 have HZ : Hid (W0.heap.size = w.heap.size + 2) := hz0
 rw [hN] at h8
 rw [hsc, hN, hM, hR]
 clear h hKc h16 hl hK hg hKg hG htS hjS hNc hwd hsc hM hb0 hz0 g0 g1 hN hR
 by_cases h0 : N = 0
 · have HE : Hid (R = if 8 < s.c.length then .error 3 else .ok (allP s)) := by show _ = _; rw [HR.out, if_pos h0]
   obtain ⟨RA, hRA⟩ : ∃ RA : Except Int (List Itm), (if 8 < s.c.length then .error 3 else .ok (allP s)) = RA := ⟨_, rfl⟩
   rw [hRA] at HE HALL
   subst h0
   clear HR HEX HIT HST hRA
   go_enter func67, ntmps67
   go_wp2_with (refine wpList_load_mid rfl 67 _ rfl w.heap.size 0 rfl _ _ HR00.out underlying67 rfl sz_scp ?_)
   refine HALL.out.mono ?_
   rintro e w1 ⟨hgot, hb1⟩
   have HBW := hid (HBX.out w1 hb1).2.2
   clear HALL HR00 hb1
   cases RA with
   | error z =>
    have he : e = stopE z := hgot
    subst he
    have HQ : Hid (Got R (NewT w.heap.size w1) (stopE z)) := by show Got _ _ _; rw [HE.out]; rfl
    clear hgot HE
    unfold stopE at HQ ⊢
    go_wp2_with fail
    exact ⟨rfl, HQ.out, HBW.out⟩
   | ok m =>
    obtain ⟨p1, c1, he, hli⟩ : NewT W0.heap.size w1 m e := hgot
    subst he
    have HQ : Hid (Got R (NewT w.heap.size w1) (.returned (.slice p1 m.length c1))) := by show Got _ _ _; rw [HE.out]; exact ⟨p1, c1, rfl, hli.less mItmW (by have := HZ.out; omega)⟩
    obtain ⟨k, hk⟩ := gen m.length
    rw [hk] at HQ ⊢
    clear HE hli hk
    go_wp2_with fail
    go_ret
    exact ⟨HQ.out, HBW.out⟩
 have y0 : ((N : Int) == 0) = false := bfn (by omega)
 have HR1 : Hid (R = preT [] (itemsGo s gr G (l.drop 0))) := by show _ = _; rw [HR.out, if_neg h0]
 obtain ⟨i0, hi0, hiz, his, hib⟩ := inE_itm
 clear HR h0 HALL HR00
 go_enter func67, ntmps67
 go_wp2_with fail
 go_loopg [7, 18] N (fun gf s7 s18 wx => ∃ (i : Nat) (ys : List Itm) (a : Option Addr) (cc : Nat), s7 = .slice a i cc ∧ s18 = .int .i64 i ∧ i ≤ N ∧ N ≤ i + gf ∧ Hid (ys.length = i) ∧ Hid (Bl W0 wx) ∧ Hid (OwnR rItmW 2 42 W0.heap.size wx (.slice a i cc) ys) ∧ Hid (R = preT ys (itemsGo s gr G (l.drop i))))
 case atStart => exact ⟨0, [], none, 0, rfl, rfl, by omega, by omega, rfl, Below.refl _ _, OwnR.none (World.ownsRow_nil _ _ _ _), HR1⟩
 case round =>
  clear HR1
  obtain ⟨i, ys, a, cc, rfl, rfl, hi1, hgf, HA, HB, HO, HR⟩ := hrel
  by_cases hi : i < N
  · obtain ⟨g', rfl⟩ : ∃ g', gk = g' + 1 := ⟨gk - 1, by omega⟩
    have hil : i < l.length := by rw [HN.out]; exact hi
    have hbw := (HBX.out wr HB.out).2.2
    obtain ⟨b, o, hq, _, hc⟩ := itm_w (HL.out.mono mItmW (fun _ h => h) (kept_of HK.out hbw)) (by omega)
    subst hq
    obtain ⟨pe, ce, hrg, hle, hg256⟩ := hc i hil
    have hkr : ∀ b, K b → b < wr.heap.size := fun b hb => nlt (HK.out b hb) hbw.size
    have hat := itemsGo_at s gr G l i hil
    obtain ⟨x, hx⟩ := gen (l[i])
    rw [hx] at hrg hle hg256 hat
    have HAT := hid (HR.out.trans (congrArg (preT ys) hat))
    obtain ⟨L, hL⟩ := gen x.e.length
    obtain ⟨g, hgg⟩ := gen x.g
    rw [hL, hgg] at hrg
    rw [hgg] at hg256
    have HXX : Hid (x.e.length = L ∧ x.g = g ∧ g < 256) := ⟨hL, hgg, hg256⟩
    have HRG := hid hrg
    obtain ⟨WA, hWA, hth, V1, hV1, hg1, hb1⟩ := box_two wr 42 (.int .u8 0) (.slice none 0 0) (.int .u8 (g : Int)) (.slice pe L ce)
    have HTH := hid hth
    have HV1 := hid hV1
    have hl1 : wr.heap.size < V1.heap.size := (gsi hg1).1
    have k0 := cell_of_row (k := 0) (v := .int .u8 (g : Int)) hg1 rfl
    obtain ⟨WB, hWB, hthB, V2, hV2, hg2, hb2⟩ := box_two V1 42 (.int .u8 0) (.slice none 0 0) (.int .u8 (g : Int)) (.slice none 0 0)
    have HTB := hid hthB
    have HV2 := hid hV2
    have hl2 : V1.heap.size < V2.heap.size := (gsi hg2).1
    have hbr2 : Bl wr V2 := hb1.trans (hb2.mono (by omega))
    have x0 : V2.cell? ⟨wr.heap.size, 0, none⟩ = some (.int .u8 (g : Int)) := cell_of_row (k := 0) ((hb2.block _ (by omega)).trans hg1) rfl
    have x1 : V2.cell? ⟨wr.heap.size, 1, none⟩ = some (.slice pe L ce) := cell_of_row (k := 1) ((hb2.block _ (by omega)).trans hg1) rfl
    have HG2 : Hid (V2.heap[V1.heap.size]? = some (.cells ([.int .u8 (g : Int), .slice none 0 0] : List Value).toArray 42 (0, 0))) := hg2
    have HB2 : Hid (Bl W0 V2) := HB.out.trans (hbr2.mono HB.out.size)
    have HBR2 := hid hbr2
    have HLV : Hid (wr.heap.size < V1.heap.size ∧ V1.heap.size < V2.heap.size) := ⟨hl1, hl2⟩
    obtain ⟨hs2, -, hbw2⟩ := HBX.out V2 HB2.out
    have HS2 := hid hs2
    have C1 : Hid (Calls prog 108 #[.agg #[.string tS, .string jS, .int .i64 (wd : Int), .slice p Nc d], .slice pe L ce] V2 fun e w' => Got (exprR s x.e) (NewS V2.heap.size w') e ∧ Bl V2 w') := by
     have := HEX.out V2 hbw2 K pe ce x.e (hle.mono mStpW (fun _ h => h) (kept_of hkr hbr2)) (fun b hb => nlt (hkr b hb) hbr2.size)
     rwa [hL] at this
    have z0 : (0 : Int) ≤ (i : Int) := by omega
    have z1 : (i : Int) < (N : Int) := by omega
    clear hc hrg hle hg256 hat hx hL hgg hth hV1 hg1 hb1 hthB hV2 hg2 hb2 hbr2 hl1 hl2 hbw hs2 hbw2 hkr hil HR
    by_cases h1 : g = 1
    · have y1 : ((g : Int) != 1) = false := by simp [h1]
      have HAT2 : Hid (R = preT ys (nextT s gr G ⟨1, []⟩ (itemsGo s gr G (l.drop (i + 1))))) := by
       show _ = _
       rw [HAT.out]
       have : itemR s x = .ok ⟨1, []⟩ := by unfold itemR; rw [if_pos (HXX.out.2.1.trans h1)]
       rw [this]
       rfl
      subst h1
      have HYM : Hid (((⟨1, []⟩ : Itm).g : Int) = 1 ∧ (⟨1, []⟩ : Itm).e.length = 0 ∧ (⟨1, []⟩ : Itm).g < 256) := ⟨rfl, rfl, by show 1 < 256; omega⟩
      have HLY : Hid (ListIs rStpW 3 32 (fun _ => False) V2 (.slice none (⟨1, []⟩ : Itm).e.length 0) (⟨1, []⟩ : Itm).e) := ListIs.nil none 0
      have HG3 := hid HG2.out
      have hbX0 : Bl W0 V2 := HB.out.trans (HBR2.out.mono HB.out.size)
      obtain ⟨hsX, hbdX, hbwX⟩ := HBX.out V2 hbX0
      have HSX := hid hsX
      have HDX := hid hbdX
      have hrowX : V2.rangeAt V1.heap.size 0 [.int .u8 1, .slice none 0 0] := rgz HG3.out
      have HRX := hid hrowX
      have C5 : Hid (Calls prog 75 #[.agg #[.string tS, .string jS, .int .i64 (wd : Int), .slice p Nc d], .agg #[.int .u8 1, .slice none 0 0], .agg #[v0, v1, v2, v3, v4, v5, .slice pg M cg, v7, .bool gr, v9, v10]] V2 fun e w' => e = .returned (.int .i64 (itemE s (⟨1, []⟩ : Itm) gr G)) ∧ Bl V2 w') := by
       have := HIT.out V2 hbwX (fun _ => False) none 0 (⟨1, []⟩ : Itm) HLY.out (fun b hb => hb.elim)
       have h1 := HYM.out.1
       have h2 := HYM.out.2.1
       simp only at h1 h2
       simp only [h1, h2] at this
       exact this
      obtain ⟨v, hv⟩ := gen (itemE s (⟨1, []⟩ : Itm) gr G)
      have HAT3 : Hid (R = preT ys (if v = 0 then preT [(⟨1, []⟩ : Itm)] (itemsGo s gr G (l.drop (i + 1))) else .error v)) := by show _ = _; rw [HAT2.out]; unfold nextT; rw [hv]
      rw [hv] at C5
      have HBX0 := hid hbX0
      have HBRX := hid (HBR2.out : Bl wr V2)
      clear hbX0 hsX hbdX hbwX hrowX hv HAT2
      go_wp2_with (first | (refine wpList_load_mid rfl 42 _ rfl b (o + i * 2) rfl _ _ HRG.out underlying42 rfl sz_item ?_) | (refine wpList_store_mid rfl 42 _ _ rfl wr.heap.size 0 #[.int .u8 1, .slice pe L ce] rfl rfl HTH.out sz_item (by simp [Value.oneCell']) ?_; rw [show WA.setCells wr.heap.size 0 (#[.int .u8 1, .slice pe L ce] : Array Value).toList = V1 from HV1.out]) | (refine wpList_store_mid rfl 42 _ _ rfl V1.heap.size 0 #[.int .u8 1, .slice none 0 0] rfl rfl HTB.out sz_item (by simp [Value.oneCell']) ?_; rw [show WB.setCells V1.heap.size 0 (#[.int .u8 1, .slice none 0 0] : Array Value).toList = V2 from HV2.out]) | (refine wpList_load_mid rfl 67 _ rfl w.heap.size 0 rfl _ _ HSX.out underlying67 rfl sz_scp ?_) | (refine wpList_load_mid rfl 42 _ rfl V1.heap.size 0 rfl _ _ HRX.out underlying42 rfl sz_item ?_) | (refine wpList_load_mid rfl 32 _ rfl (w.heap.size + 1) 0 rfl _ _ HDX.out underlying32 rfl sz_bnd ?_))
      refine C5.out.mono ?_
      rintro e w5 ⟨rfl, hb5⟩
      have HB5 : Hid (Bl W0 w5) := HBX0.out.trans (hb5.mono HBX0.out.size)
      have HBR5 : Hid (Bl wr w5) := HBRX.out.trans (hb5.mono HBRX.out.size)
      have hg5 := (hb5.block _ (gsi HG3.out).1).trans HG3.out
      have HR5 : Hid (w5.rangeAt V1.heap.size 0 [.int .u8 1, .slice none 0 0]) := rgz hg5
      have C6 := hid (HST.out v w5)
      have HBW5 := hid (HBX.out w5 HB5.out).2.2
      have HLY5 : Hid (ListIs rStpW 3 32 (fun _ => False) w5 (.slice none ((⟨1, []⟩ : Itm)).e.length 0) ((⟨1, []⟩ : Itm)).e) := HLY.out.later mStpW (fun b hb => hb.elim) hb5
      have HBB5 := hid hb5
      clear C5 hb5 hg5 HSX HDX HRX
      by_cases hv : v = 0
      · rw [if_pos hv] at C6
        have HR3 : Hid (R = preT (ys ++ [(⟨1, []⟩ : Itm)]) (itemsGo s gr G (l.drop (i + 1)))) := by show _ = _; rw [HAT3.out, if_pos hv, preT_pre]
        have hO5 := HO.out.keep mItmW HBR5.out
        have hys : ys.length = i := HA.out
        obtain ⟨v', X3, e3, ho3, hB3, hs3, hk3⟩ := hO5.push mItmW (bytes := 32) (ts := 22) underlying22 hi0 hiz his hib rfl (by omega) HB5.out.size (x := (⟨1, []⟩ : Itm)) (cs := [.int .u8 1, .slice none 0 0]) (K2 := (fun _ => False)) rfl (by intro c hc; simp at hc; rcases hc with rfl | rfl <;> rfl) (fun b hb => hb.elim) ⟨.slice none ((⟨1, []⟩ : Itm)).e.length 0, rfl, HLY5.out, HYM.out.2.2⟩ (by rw [hys]; omega) (by rw [hys]; unfold maxLen; omega)
        obtain ⟨a3, c3', ev⟩ := ho3.slice
        rw [List.length_append, hys] at ev
        have ev2 : v' = .slice a3 (i + 1) c3' := ev
        subst ev2
        have HE3 := hid e3
        have HB3 : Hid (Bl W0 X3) := hB3 _ _ HB5.out (Nat.le_refl _)
        have HO3 : Hid (OwnR rItmW 2 42 W0.heap.size X3 (.slice a3 (i + 1) c3') (ys ++ [(⟨1, []⟩ : Itm)])) := ho3
        have HA3 : Hid ((ys ++ [(⟨1, []⟩ : Itm)]).length = i + 1) := by show _ = _; rw [List.length_append, hys]; rfl
        clear hv HAT3 hO5 hys e3 ho3 hB3 hs3 hk3 ev HO HA
        go_wp2_with fail
        refine C6.out.mono ?_
        rintro e w6 ⟨rfl, hw6⟩
        replace hw6 := hw6.symm
        subst hw6
        clear C6
        go_wp2_with (first | (refine wpList_load_mid rfl 42 _ rfl V1.heap.size 0 rfl _ _ HR5.out underlying42 rfl sz_item ?_) | (at_builtin; refine Lib.wpList_append_run _ rfl _ _ _ _ rfl (.slice a i cc) (.slice (some ⟨w5.heap.size, 0, none⟩) 1 1) rfl rfl _ _ HE3.out ?_))
        go_roundg g'
        case measure => omega
        case rel => exact ⟨i + 1, ys ++ [(⟨1, []⟩ : Itm)], a3, c3', rfl, by go_num, by omega, by omega, HA3, HB3, HO3, HR3⟩
      · rw [if_neg hv] at C6
        have HQ : Hid (Got R (NewT w.heap.size w5) (stopE v)) := by show Got _ _ _; rw [HAT3.out, if_neg hv]; rfl
        clear hv HAT3
        go_wp2_with fail
        refine C6.out.mono ?_
        rintro e w6 ⟨rfl, rfl⟩
        clear C6
        unfold stopE at HQ ⊢
        go_wp2_with fail
        exact ⟨rfl, HQ.out, HBW5.out⟩
    · have y1 : ((g : Int) != 1) = true := bne_iff_ne.2 (by omega)
      have HAT1 : Hid (R = preT ys (stepT s gr G (itemM g (exprR s x.e)) (itemsGo s gr G (l.drop (i + 1))))) := by
       show _ = _
       rw [HAT.out, itemR_of (by rw [HXX.out.2.1]; exact h1), HXX.out.2.1]
      obtain ⟨E, hE⟩ := gen (exprR s x.e)
      rw [hE] at C1
      have HEE := hid hE
      clear h1 HAT hE
      go_wp2_with (first | (refine wpList_load_mid rfl 42 _ rfl b (o + i * 2) rfl _ _ HRG.out underlying42 rfl sz_item ?_) | (refine wpList_store_mid rfl 42 _ _ rfl wr.heap.size 0 #[.int .u8 (g : Int), .slice pe L ce] rfl rfl HTH.out sz_item (by simp [Value.oneCell']) ?_; rw [show WA.setCells wr.heap.size 0 (#[.int .u8 (g : Int), .slice pe L ce] : Array Value).toList = V1 from HV1.out]) | (refine wpList_store_mid rfl 42 _ _ rfl V1.heap.size 0 #[.int .u8 (g : Int), .slice none 0 0] rfl rfl HTB.out sz_item (by simp [Value.oneCell']) ?_; rw [show WB.setCells V1.heap.size 0 (#[.int .u8 (g : Int), .slice none 0 0] : Array Value).toList = V2 from HV2.out]) | (refine wpList_load_mid rfl 67 _ rfl w.heap.size 0 rfl _ _ HS2.out underlying67 rfl sz_scp ?_))
      refine C1.out.mono ?_
      rintro e w3 ⟨hgot, hb3⟩
      have HB3 : Hid (Bl W0 w3) := HB2.out.trans (hb3.mono HB2.out.size)
      have HBW3 := hid (HBX.out w3 HB3.out).2.2
      clear C1 HS2 x0 x1 k0
      cases E with
      | error z =>
       have he : e = stopE z := hgot
       subst he
       have HQ : Hid (Got R (NewT w.heap.size w3) (stopE z)) := by show Got _ _ _; rw [HAT1.out, HEE.out]; rfl
       clear hgot HAT1 hb3
       unfold stopE at HQ ⊢
       go_wp2_with fail
       exact ⟨rfl, HQ.out, HBW3.out⟩
      | ok m =>
       obtain ⟨pm, cm, he, hlm⟩ : NewS V2.heap.size w3 m e := hgot
       subst he
       have HAT2 : Hid (R = preT ys (nextT s gr G ⟨g, m⟩ (itemsGo s gr G (l.drop (i + 1))))) := by show _ = _; rw [HAT1.out, HEE.out]; rfl
       obtain ⟨Lm, hLm⟩ := gen m.length
       have hg3 := (hb3.block _ HLV.out.2).trans HG2.out
       obtain ⟨⟨u1, cu1⟩, fu1, X, hX, hgX, hsX, hkX⟩ := put_one w3 V1.heap.size 1 _ 42 hg3 (by simp) (.slice pm Lm cm)
       have hb3r : Bl wr w3 := HBR2.out.trans (hb3.mono HBR2.out.size)
       have hbrX : Bl wr X := put_below hb3r hkX hsX (by have := HLV.out; omega)
       have HBRXX := hid hbrX
       have HG3 : Hid (X.heap[V1.heap.size]? = some (.cells ([.int .u8 (g : Int), .slice pm Lm cm] : List Value).toArray 42 (0, 0))) := hgX
       have HYM : Hid (((⟨g, m⟩ : Itm).g : Int) = (g : Int) ∧ (⟨g, m⟩ : Itm).e.length = Lm ∧ (⟨g, m⟩ : Itm).g < 256) := ⟨rfl, hLm, HXX.out.2.2⟩
       have HKX : Hid (∀ b, From V2.heap.size w3 b → b < X.heap.size) := fun b hb => by have := hb.2; omega
       have HLY : Hid (ListIs rStpW 3 32 (From V2.heap.size w3) X (.slice pm (⟨g, m⟩ : Itm).e.length cm) (⟨g, m⟩ : Itm).e) := hlm.mono mStpW (fun _ h => h) (hkX.less fun b hb => by show b ≠ _; have := hb.1; have := HLV.out.2; omega)
       have HCU : Hid (w3.cell? ⟨V1.heap.size, 1, none⟩ = some u1) := cu1
       clear hlm hg3 hgX hsX hkX hb3r hbrX hb3 HAT1
       rw [hLm]
       have hbX0 : Bl W0 X := HB.out.trans (HBRXX.out.mono HB.out.size)
       obtain ⟨hsX, hbdX, hbwX⟩ := HBX.out X hbX0
       have HSX := hid hsX
       have HDX := hid hbdX
       have hrowX : X.rangeAt V1.heap.size 0 [.int .u8 (g : Int), .slice pm Lm cm] := rgz HG3.out
       have HRX := hid hrowX
       have C5 : Hid (Calls prog 75 #[.agg #[.string tS, .string jS, .int .i64 (wd : Int), .slice p Nc d], .agg #[.int .u8 (g : Int), .slice pm Lm cm], .agg #[v0, v1, v2, v3, v4, v5, .slice pg M cg, v7, .bool gr, v9, v10]] X fun e w' => e = .returned (.int .i64 (itemE s (⟨g, m⟩ : Itm) gr G)) ∧ Bl X w') := by
        have := HIT.out X hbwX (From V2.heap.size w3) pm cm (⟨g, m⟩ : Itm) HLY.out HKX.out
        have h1 := HYM.out.1
        have h2 := HYM.out.2.1
        simp only at h1 h2
        simp only [h1, h2] at this
        exact this
       obtain ⟨v, hv⟩ := gen (itemE s (⟨g, m⟩ : Itm) gr G)
       have HAT3 : Hid (R = preT ys (if v = 0 then preT [(⟨g, m⟩ : Itm)] (itemsGo s gr G (l.drop (i + 1))) else .error v)) := by show _ = _; rw [HAT2.out]; unfold nextT; rw [hv]
       rw [hv] at C5
       have HBX0 := hid hbX0
       have HBRX := hid (HBRXX.out : Bl wr X)
       clear hbX0 hsX hbdX hbwX hrowX hv HAT2
       go_wp2_with (first | (refine wpList_load_mid rfl 67 _ rfl w.heap.size 0 rfl _ _ HSX.out underlying67 rfl sz_scp ?_) | (refine wpList_load_mid rfl 42 _ rfl V1.heap.size 0 rfl _ _ HRX.out underlying42 rfl sz_item ?_) | (refine wpList_load_mid rfl 32 _ rfl (w.heap.size + 1) 0 rfl _ _ HDX.out underlying32 rfl sz_bnd ?_))
       refine C5.out.mono ?_
       rintro e w5 ⟨rfl, hb5⟩
       have HB5 : Hid (Bl W0 w5) := HBX0.out.trans (hb5.mono HBX0.out.size)
       have HBR5 : Hid (Bl wr w5) := HBRX.out.trans (hb5.mono HBRX.out.size)
       have hg5 := (hb5.block _ (gsi HG3.out).1).trans HG3.out
       have HR5 : Hid (w5.rangeAt V1.heap.size 0 [.int .u8 (g : Int), .slice pm Lm cm]) := rgz hg5
       have C6 := hid (HST.out v w5)
       have HBW5 := hid (HBX.out w5 HB5.out).2.2
       have HLY5 : Hid (ListIs rStpW 3 32 (From V2.heap.size w3) w5 (.slice pm ((⟨g, m⟩ : Itm)).e.length cm) ((⟨g, m⟩ : Itm)).e) := HLY.out.later mStpW HKX.out hb5
       have HBB5 := hid hb5
       clear C5 hb5 hg5 HSX HDX HRX
       by_cases hv : v = 0
       · rw [if_pos hv] at C6
         have HR3 : Hid (R = preT (ys ++ [(⟨g, m⟩ : Itm)]) (itemsGo s gr G (l.drop (i + 1)))) := by show _ = _; rw [HAT3.out, if_pos hv, preT_pre]
         have hO5 := HO.out.keep mItmW HBR5.out
         have hys : ys.length = i := HA.out
         obtain ⟨v', X3, e3, ho3, hB3, hs3, hk3⟩ := hO5.push mItmW (bytes := 32) (ts := 22) underlying22 hi0 hiz his hib rfl (by omega) HB5.out.size (x := (⟨g, m⟩ : Itm)) (cs := [.int .u8 (g : Int), .slice pm Lm cm]) (K2 := (From V2.heap.size w3)) rfl (by intro c hc; simp at hc; rcases hc with rfl | rfl <;> rfl) (fun b hb => ⟨by have := hb.1; have := HLV.out; have := HB.out.size; omega, by have := HKX.out b hb; have := HBB5.out.size; omega, fun e => by
         have := HO.out.lt _ e
         have := hb.1
         have := HLV.out
         omega⟩) ⟨.slice pm ((⟨g, m⟩ : Itm)).e.length cm, by rw [show (⟨g, m⟩ : Itm).e.length = Lm from HYM.out.2.1], HLY5.out, HYM.out.2.2⟩ (by rw [hys]; omega) (by rw [hys]; unfold maxLen; omega)
         obtain ⟨a3, c3', ev⟩ := ho3.slice
         rw [List.length_append, hys] at ev
         have ev2 : v' = .slice a3 (i + 1) c3' := ev
         subst ev2
         have HE3 := hid e3
         have HB3 : Hid (Bl W0 X3) := hB3 _ _ HB5.out (Nat.le_refl _)
         have HO3 : Hid (OwnR rItmW 2 42 W0.heap.size X3 (.slice a3 (i + 1) c3') (ys ++ [(⟨g, m⟩ : Itm)])) := ho3
         have HA3 : Hid ((ys ++ [(⟨g, m⟩ : Itm)]).length = i + 1) := by show _ = _; rw [List.length_append, hys]; rfl
         clear hv HAT3 hO5 hys e3 ho3 hB3 hs3 hk3 ev HO HA
         go_wp2_with fail
         refine C6.out.mono ?_
         rintro e w6 ⟨rfl, hw6⟩
         replace hw6 := hw6.symm
         subst hw6
         clear C6
         go_wp2_with (first | (refine wpList_load_mid rfl 42 _ rfl V1.heap.size 0 rfl _ _ HR5.out underlying42 rfl sz_item ?_) | (at_builtin; refine Lib.wpList_append_run _ rfl _ _ _ _ rfl (.slice a i cc) (.slice (some ⟨w5.heap.size, 0, none⟩) 1 1) rfl rfl _ _ HE3.out ?_))
         go_roundg g'
         case measure => omega
         case rel => exact ⟨i + 1, ys ++ [(⟨g, m⟩ : Itm)], a3, c3', rfl, by go_num, by omega, by omega, HA3, HB3, HO3, HR3⟩
       · rw [if_neg hv] at C6
         have HQ : Hid (Got R (NewT w.heap.size w5) (stopE v)) := by show Got _ _ _; rw [HAT3.out, if_neg hv]; rfl
         clear hv HAT3
         go_wp2_with fail
         refine C6.out.mono ?_
         rintro e w6 ⟨rfl, rfl⟩
         clear C6
         unfold stopE at HQ ⊢
         go_wp2_with fail
         exact ⟨rfl, HQ.out, HBW5.out⟩
  · have z1 : ¬ (i : Int) < (N : Int) := by omega
    have HBW := hid (HBX.out wr HB.out).2.2
    have HQ : Hid (Got R (NewT w.heap.size wr) (.returned (.slice a i cc))) := by
     show Got _ _ _
     have hys : ys.length = i := HA.out
     rw [HR.out, List.drop_of_length_le (by rw [HN.out]; omega)]
     obtain ⟨p2, c2, e2, hli⟩ := HO.out.list (bytes := 32) mItmW (by omega)
     have e3 : p2 = a ∧ c2 = cc := by injection e2 with h1 h2 h3; exact ⟨h1.symm, h3.symm⟩
     obtain ⟨ea, ec⟩ := e3
     rw [ea, ec] at hli
     show NewT _ _ (ys ++ []) _
     rw [List.append_nil]
     exact ⟨a, cc, by rw [hys], hli.less mItmW (by have := HZ.out; omega)⟩
    clear HR HA HO
    go_wp2_with fail
    go_ret
    exact ⟨HQ.out, HBW.out⟩
end Go.Proofs.YtfifphfihdhlaaaGreatDoor.Bd

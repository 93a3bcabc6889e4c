/- A text is read as a query. -/
import Derived.Test.YtfifphfihdhlaaaGreatDoorQbTk
import Derived.Test.YtfifphfihdhlaaaGreatDoorQzRa
set_option maxRecDepth 100000
set_option maxHeartbeats 32000000
namespace Go.Proofs.YtfifphfihdhlaaaGreatDoor
open Tryz
open Go.Shelf Go.RowKit Go.Lib Go.Sort
set_option linter.unusedVariables false
set_option linter.unusedSimpArgs false
attribute [local go_sem ↓] Go.wp_at_zero Go.wp_at_succ
def readP (l : List UInt8) : Qry × Int × Int := resQ (wholeR ((lets l).length : Int) ⟨(lexP l).1, 0⟩)
def parseP (l : List UInt8) : Qry × Int × Int :=
 if (lexP l).2.1 ≠ 0 then (zeroQ, (lexP l).2.1, (lexP l).2.2)
 else if (readP l).2.1 ≠ 0 then (zeroQ, (readP l).2.1, (readP l).2.2)
 else if checkQ (readP l).1 ≠ 0 then (zeroQ, checkQ (readP l).1, 0)
 else ((readP l).1, 0, 0)
theorem QIn.ls {base : Nat} {W : World} {vi vw vg : Value} {q : Qry} (h : QIn base W vi vw vg q) : ∃ pi ci pw cw pg cg, vi = .slice pi q.i.length ci ∧ vw = .slice pw q.w.length cw ∧ vg = .slice pg q.g.length cg ∧ QLs (From base W) W pi pw pg ci cw cg q := by
 obtain ⟨pi, ci, e1, h1⟩ := h.1.1.list mItm (bytes := 32) (by have := h.1.2; omega)
 obtain ⟨pw, cw, e2, h2⟩ := h.2.1.list
 obtain ⟨pg, cg, e3, h3⟩ := h.2.2.1.1.list mStr (bytes := 16) (by have := h.2.2.1.2; omega)
 exact ⟨pi, ci, pw, cw, pg, cg, e1, e2, e3, ⟨h1, h2, h3, h.2.2.2.1, h.2.2.2.2.1, h.2.2.2.2.2.1, h.2.2.2.2.2.2⟩⟩
def OutP (w : World) (r : Qry × Int × Int) (e : Ending) (w' : World) : Prop := ∃ v, e = .returned (.tuple #[v, .int .i64 r.2.1, .int .i64 r.2.2]) ∧ VQ w w' v r.1 ∧ Bl w w'
theorem out_zero {w w' X : World} (hb : Bl w w') (hk : Kept (fun b => b ≠ w.heap.size) w' X) (y a : Int) (r : Qry × Int × Int) (hr : r = (zeroQ, y, a)) : OutP w r (.returned (.tuple #[.agg #[.slice none 0 0, .string ⟨#[]⟩, .string ⟨#[]⟩, .string ⟨#[]⟩, .string ⟨#[]⟩, .slice none 0 0, .slice none 0 0], .int .i64 y, .int .i64 a])) X := by
 subst hr
 exact ⟨_, rfl, vq_zero w X, ⟨hk.os.trans hb.os, hk.tape.trans hb.tape, hk.output.trans hb.output, Nat.le_trans hb.size hk.size, fun b h => (hk.block b (Nat.ne_of_lt h)).trans (hb.block b h)⟩⟩
theorem parse_any (s : ByteArray) (w : World) (hs : s.size ≤ 9223372036854775807) (hGl : Glob w) (hG : GW w) (h10 : 10 ≤ w.heap.size) : Calls prog 55 #[.string s] w fun e w' => OutP w (parseP s.data.toList) e w' := by
 obtain ⟨r0, hr0⟩ := gen (parseP s.data.toList)
 obtain ⟨W0, hW0⟩ := gen (w.alloc (.cells #[.slice none 0 0, .string ⟨#[]⟩, .string ⟨#[]⟩, .string ⟨#[]⟩, .string ⟨#[]⟩, .slice none 0 0, .slice none 0 0] 26))
 have hb0 : Bl w W0 := by rw [← hW0]; exact below_alloc w _
 have hg0 : W0.heap[w.heap.size]? = some (.cells #[.slice none 0 0, .string ⟨#[]⟩, .string ⟨#[]⟩, .string ⟨#[]⟩, .string ⟨#[]⟩, .slice none 0 0, .slice none 0 0] 26 (0, 0)) := by rw [← hW0]; exact heap_alloc_new w _
 have hl0 : w.heap.size < W0.heap.size := (gsi hg0).1
 obtain ⟨ts, y0, a0, hlx⟩ : ∃ ts y a, lexP s.data.toList = (ts, y, a) := ⟨_, _, _, rfl⟩
 have C1 : Hid (Calls prog 97 #[.string s] W0 fun e w' => ∃ v, e = .returned (.tuple #[v, .int .i64 y0, .int .i64 a0]) ∧ LexOut W0 w' v ts ∧ Bl W0 w') := by have := lex_any s W0 hs (hGl.below hb0); rw [hlx] at this; exact this
 have HLX := hid hlx
 have HR0 : Hid ((if y0 ≠ 0 then (zeroQ, y0, a0) else if (readP s.data.toList).2.1 ≠ 0 then (zeroQ, (readP s.data.toList).2.1, (readP s.data.toList).2.2) else if checkQ (readP s.data.toList).1 ≠ 0 then (zeroQ, checkQ (readP s.data.toList).1, 0) else ((readP s.data.toList).1, 0, 0)) = r0) := by show _ = _; rw [← hr0]; unfold parseP; rw [hlx]
 have HG0 := hid (And.intro hb0 (And.intro hg0 hl0))
 have HGW := hid (hG.below hb0)
 have H10 := hid h10
 have HOK := hid (ok_lexP s.data.toList)
 rw [hlx] at HOK
 rw [hr0]
 clear hGl hG h10 hb0 hg0 hl0 hlx hr0
 go_enter func55, ntmps55
 go_wp2_with fail
 refine C1.out.mono ?_
 rintro e w1 ⟨v, rfl, hlo, hb1⟩
 have HB1 : Hid (Bl w w1) := HG0.out.1.trans (hb1.mono HG0.out.1.size)
 have HG1 : Hid (w1.heap[w.heap.size]? = some (.cells #[.slice none 0 0, .string ⟨#[]⟩, .string ⟨#[]⟩, .string ⟨#[]⟩, .string ⟨#[]⟩, .slice none 0 0, .slice none 0 0] 26 (0, 0)) ∧ w.heap.size < w1.heap.size) := ⟨(hb1.block _ HG0.out.2.2).trans HG0.out.2.1, nlt HG0.out.2.2 hb1.size⟩
 obtain ⟨p, c, rfl, hlc, hli⟩ := toks_list hlo HOK.out.1 HOK.out.2
 have HLI := hid (And.intro hlc hli)
 have HGW1 := hid (HGW.out.below hb1)
 obtain ⟨n, hn⟩ := gen ts.length
 have HN := hid hn
 have HB01 := hid hb1
 rw [hn]
 clear C1 hlo hb1 hlc hli hn HGW hW0
 by_cases hy0 : y0 = 0
 · have yy : (y0 != 0) = false := by simp [hy0]
   have HR1 : Hid ((if (readP s.data.toList).2.1 ≠ 0 then (zeroQ, (readP s.data.toList).2.1, (readP s.data.toList).2.2) else if checkQ (readP s.data.toList).1 ≠ 0 then (zeroQ, checkQ (readP s.data.toList).1, 0) else ((readP s.data.toList).1, 0, 0)) = r0) := by have := HR0.out; rw [if_neg (by simpa using hy0)] at this; exact this
   have hs2 : s.size ≤ 2048 := by
    have h1 := HLX.out
    unfold lexP at h1
    split at h1
    · rw [hy0] at h1; cases h1
    · rename_i h; rw [← Lib.size_eq] at h; omega
   obtain ⟨L, hL⟩ := gen ((lets s.data.toList).length)
   have hL2 : L ≤ 2048 := by rw [← hL]; have := letL_le s.data.toList.length s.data.toList; unfold lets; rw [← Lib.size_eq] at this; rw [← Lib.size_eq]; omega
   have C2 : Hid (Calls prog 98 #[.string s] w1 fun e w' => e = .returned (.int .i64 (L : Int)) ∧ Bl w1 w') := by have := runes_any s w1 hs2; rw [hL] at this; exact this
   have HRD : Hid (readP s.data.toList = resQ (wholeR (L : Int) ⟨ts, 0⟩)) := by show _ = _; unfold readP; rw [HLX.out, hL]
   clear HR0 hy0 hs2 hL
   go_wp2_with fail
   refine C2.out.mono ?_
   rintro e w2 ⟨rfl, hb2⟩
   obtain ⟨WA, hWA, hth, V, hV, hgB, hbV⟩ := box_three w2 134 (.slice none 0 0) (.int .i64 0) (.int .i64 0) (.slice p n c) (.int .i64 0) (.int .i64 (L : Int))
   have HTHB := hid hth
   have HVB := hid hV
   have hlB : w2.heap.size < V.heap.size := (gsi hgB).1
   have hb2V : Bl w1 V := hb2.trans (hbV.mono hb2.size)
   have hrd : Rdr (From W0.heap.size w1) V w2.heap.size (L : Int) ⟨ts, 0⟩ := by
    refine ⟨p, c, by rw [hgB, ← HN.out], (HLI.out.2).mono mTok (fun _ h => h) (kept_of (fun b h => h.2) hb2V), fun h => by have := h.2; have := hb2.size; omega, fun b h => nlt h.2 hb2V.size, HGW1.out.below hb2V, by have := H10.out; have := HG1.out.2; have := hb2.size; omega, ⟨by have := HOK.out.2; show ((ts.length : Nat) : Int) ≤ _; omega, by have := HOK.out.2; show ((ts.length : Nat) : Int) - 1000000 ≤ 0; omega, by show (0 : Int) ≤ 8; omega⟩, HLI.out.1, ⟨by omega, by omega⟩⟩
   have C3 := hid (whole_any _ w2.heap.size (L : Int) V ⟨ts, 0⟩ hrd)
   have HB3 : Hid (Bl w V) := HB1.out.trans (hb2V.mono HB1.out.size)
   have HG3 : Hid (V.heap[w.heap.size]? = some (.cells #[.slice none 0 0, .string ⟨#[]⟩, .string ⟨#[]⟩, .string ⟨#[]⟩, .string ⟨#[]⟩, .slice none 0 0, .slice none 0 0] 26 (0, 0)) ∧ w.heap.size < w2.heap.size ∧ w2.heap.size < V.heap.size) := ⟨(hb2V.block _ HG1.out.2).trans HG1.out.1, nlt HG1.out.2 hb2.size, hlB⟩
   have HGV := hid (HGW1.out.below hb2V)
   clear C2 hb2 hth hV hgB hbV hlB hb2V hrd HLI HB1 HG1 HGW1 HOK HLX
   go_wp2_with (first | (refine wpList_store_mid rfl 134 _ _ rfl w2.heap.size 0 #[.slice p n c, .int .i64 0, .int .i64 (L : Int)] rfl rfl HTHB.out (by kernel_rfl) (by simp [Value.oneCell']) ?_; rw [show WA.setCells w2.heap.size 0 (#[.slice p n c, .int .i64 0, .int .i64 (L : Int)] : Array Value).toList = V from HVB.out]))
   refine C3.out.mono ?_
   rintro e w3 ⟨hk3, v3, rfl, hvq⟩
   obtain ⟨q, y, a, hres⟩ : ∃ q y a, resQ (wholeR (L : Int) ⟨ts, 0⟩) = (q, y, a) := ⟨_, _, _, rfl⟩
   rw [hres] at hvq ⊢
   have HR2 : Hid ((if y ≠ 0 then (zeroQ, y, a) else if checkQ q ≠ 0 then (zeroQ, checkQ q, 0) else (q, 0, 0)) = r0) := by have := HR1.out; rw [HRD.out, hres] at this; exact this
   obtain ⟨vi, vw, vg, rfl, hin⟩ := hvq
   obtain ⟨pi, ci, pw, cw, pg, cg, rfl, rfl, rfl, hls⟩ := hin.ls
   obtain ⟨s0, hs0⟩ := bya q.t
   obtain ⟨s1, hs1⟩ := bya q.j
   obtain ⟨s2, hs2⟩ := bya q.a
   obtain ⟨s3, hs3⟩ := bya q.b
   obtain ⟨ni, hni⟩ := gen q.i.length
   obtain ⟨nw, hnw⟩ := gen q.w.length
   obtain ⟨ng, hng⟩ := gen q.g.length
   have hcl : q.cl (.slice pi q.i.length ci) (.slice pw q.w.length cw) (.slice pg q.g.length cg) = #[.slice pi ni ci, .string s0, .string s1, .string s2, .string s3, .slice pw nw cw, .slice pg ng cg] := by unfold Qry.cl; rw [hs0, hs1, hs2, hs3, hni, hnw, hng]
   obtain ⟨W4, hW4, hb4, hs4, gq, gf⟩ := two_boxes2 w3 #[.slice none 0 0, .string ⟨#[]⟩, .string ⟨#[]⟩, .string ⟨#[]⟩, .string ⟨#[]⟩, .slice none 0 0, .slice none 0 0] #[.int .i64 0, .int .i64 0] 26 136
   obtain ⟨t1, X1, hX1, _, hsX1, hkX1⟩ := put_row W4 w3.heap.size _ 26 gq [.slice pi ni ci, .string s0, .string s1, .string s2, .string s3, .slice pw nw cw, .slice pg ng cg] rfl underlying26 rfl sz_qry
   have gq1 : X1.heap[w3.heap.size]? = some (.cells #[.slice pi ni ci, .string s0, .string s1, .string s2, .string s3, .slice pw nw cw, .slice pg ng cg] 26 (0, 0)) := by rw [← hX1]; exact box_full W4 _ _ 26 gq [.slice pi ni ci, .string s0, .string s1, .string s2, .string s3, .slice pw nw cw, .slice pg ng cg] rfl
   have gf1 : X1.heap[w3.heap.size + 1]? = some (.cells #[.int .i64 0, .int .i64 0] 136 (0, 0)) := (hkX1.block _ (by omega)).trans gf
   obtain ⟨t2, X2, hX2, _, hsX2, hkX2⟩ := put_row X1 (w3.heap.size + 1) _ 136 gf1 [.int .i64 y, .int .i64 a] rfl underlying136 rfl sz_flt
   have gf2 : X2.heap[w3.heap.size + 1]? = some (.cells #[.int .i64 y, .int .i64 a] 136 (0, 0)) := by rw [← hX2]; exact box_full X1 _ _ 136 gf1 [.int .i64 y, .int .i64 a] rfl
   have gq2 : X2.heap[w3.heap.size]? = some (.cells #[.slice pi ni ci, .string s0, .string s1, .string s2, .string s3, .slice pw nw cw, .slice pg ng cg] 26 (0, 0)) := (hkX2.block _ (by omega)).trans gq1
   have hk4 : Kept (fun b => b < w3.heap.size) w3 X2 := ((kept_of (fun b h => h) hb4).trans (hkX1.less fun b hb => by omega)).trans (hkX2.less fun b hb => by omega)
   have hbX : Bl w X2 := by
    have h1 := HB3.out
    have h2 := HG3.out
    exact ⟨hk4.os.trans (hk3.os.trans h1.os), hk4.tape.trans (hk3.tape.trans h1.tape), hk4.output.trans (hk3.output.trans h1.output), by have := h1.size; have := hk3.size; have := hk4.size; omega, fun b hb => (hk4.block b (by have := hk3.size; omega)).trans ((hk3.block b ⟨by omega, by omega⟩).trans (h1.block b hb))⟩
   have hgR : X2.heap[w.heap.size]? = some (.cells #[.slice none 0 0, .string ⟨#[]⟩, .string ⟨#[]⟩, .string ⟨#[]⟩, .string ⟨#[]⟩, .slice none 0 0, .slice none 0 0] 26 (0, 0)) := (hk4.block _ (by have := hk3.size; have := HG3.out; omega)).trans ((hk3.block _ ⟨by have := HG3.out; omega, by have := HG3.out; omega⟩).trans HG3.out.1)
   have HS : Hid (w.heap.size < w3.heap.size ∧ w3.heap.size + 2 = X2.heap.size) := ⟨by have := HG3.out; have := hk3.size; omega, by omega⟩
   have HT1 := hid t1
   have HX1 : Hid (W4.setCells w3.heap.size 0 (#[.slice pi ni ci, .string s0, .string s1, .string s2, .string s3, .slice pw nw cw, .slice pg ng cg] : Array Value).toList = X1) := hX1
   have HT2 := hid t2
   have HX2 : Hid (X1.setCells (w3.heap.size + 1) 0 (#[.int .i64 y, .int .i64 a] : Array Value).toList = X2) := hX2
   have e0 := cell_of_row (k := 0) (v := .int .i64 y) gf2 rfl
   have HF1 : Hid (X2.cell? ⟨w3.heap.size + 1, 0, none⟩ = some (.int .i64 y) ∧ X2.cell? ⟨w3.heap.size + 1, 1, none⟩ = some (.int .i64 a)) := ⟨e0, cell_of_row (k := 1) (v := .int .i64 a) gf2 rfl⟩
   have HBX := hid hbX
   have HGR := hid hgR
   have HGQ := hid gq2
   have HGX : Hid (GW X2) := by
    have h1 := HGV.out
    refine h1.kept ⟨hk4.os.trans hk3.os, hk4.tape.trans hk3.tape, hk4.output.trans hk3.output, Nat.le_trans hk3.size hk4.size, fun b hb => (hk4.block b (by have := HG3.out; have := hk3.size; have := H10.out; omega)).trans (hk3.block b ⟨by have := HG3.out; have := H10.out; omega, by have := HG3.out; have := H10.out; omega⟩)⟩
   have HLS : Hid (QLs (From V.heap.size w3) X2 pi pw pg ci cw cg q) := hls.kept (hk4.less fun b hb => hb.2)
   have HIN : Hid (QIn w.heap.size X2 (.slice pi q.i.length ci) (.slice pw q.w.length cw) (.slice pg q.g.length cg) q) := ((hin.held (hk4.less fun b hb => hb.2))).base (by have := HG3.out; omega)
   have HINB : Hid (QIn V.heap.size X2 (.slice pi q.i.length ci) (.slice pw q.w.length cw) (.slice pg q.g.length cg) q) := hin.held (hk4.less fun b hb => hb.2)
   have HVS : Hid (w.heap.size < V.heap.size) := by have := HG3.out; show _ < _; omega
   have HCL := hid hcl
   rw [hcl]
   clear C3 hk3 hres hin hls hs0 hs1 hs2 hs3 hni hnw hng hcl hb4 hs4 gq gf t1 hX1 hsX1 hkX1 gq1 gf1 t2 hX2 hsX2 hkX2 gf2 gq2 hk4 hbX hgR HR1 HRD HB3 HG3 HGV HTHB HVB hWA HN HB01
   by_cases hy : y = 0
   · have yn : (y != 0) = false := by simp [hy]
     have HR3 : Hid ((if checkQ q ≠ 0 then (zeroQ, checkQ q, 0) else (q, 0, 0)) = r0) := by have := HR2.out; rw [if_neg (by simpa using hy)] at this; exact this
     obtain ⟨cq, hcq⟩ := gen (checkQ q)
     have C4 : Hid (Calls prog 22 #[.agg #[.slice pi ni ci, .string s0, .string s1, .string s2, .string s3, .slice pw nw cw, .slice pg ng cg]] X2 fun e w' => e = .returned (.int .i64 cq) ∧ Bl X2 w') := by have := check_any _ pi pw pg ci cw cg q X2 HLS.out (fun b hb => by have := hb.2; have := HS.out.2; omega) HGX.out; rw [HCL.out, hcq] at this; exact this
     have HR4 : Hid ((if cq ≠ 0 then (zeroQ, cq, 0) else (q, 0, 0)) = r0) := by rw [hcq] at HR3; exact HR3
     have HRX : Hid (X2.rangeAt w3.heap.size 0 [.slice pi ni ci, .string s0, .string s1, .string s2, .string s3, .slice pw nw cw, .slice pg ng cg]) := rgz HGQ.out
     clear HR2 HR3 hcq hy HLS HGX HF1
     go_wp2_with (first | (refine wpList_store_mid rfl 26 _ _ rfl w3.heap.size 0 #[.slice pi ni ci, .string s0, .string s1, .string s2, .string s3, .slice pw nw cw, .slice pg ng cg] rfl rfl HT1.out sz_qry (by simp [Value.oneCell']) ?_; rw [HX1.out]) | (refine wpList_store_mid rfl 136 _ _ rfl (w3.heap.size + 1) 0 #[.int .i64 y, .int .i64 a] rfl rfl HT2.out sz_flt (by simp [Value.oneCell']) ?_; rw [HX2.out]) | (refine wpList_load_mid rfl 26 _ rfl w3.heap.size 0 rfl _ _ HRX.out underlying26 rfl sz_qry ?_))
     refine C4.out.mono ?_
     rintro e w5 ⟨rfl, hb5⟩
     have HB5 : Hid (Bl w w5) := HBX.out.trans (hb5.mono HBX.out.size)
     have HG5 : Hid (w5.heap[w.heap.size]? = some (.cells #[.slice none 0 0, .string ⟨#[]⟩, .string ⟨#[]⟩, .string ⟨#[]⟩, .string ⟨#[]⟩, .slice none 0 0, .slice none 0 0] 26 (0, 0)) ∧ w5.heap[w3.heap.size]? = some (.cells #[.slice pi ni ci, .string s0, .string s1, .string s2, .string s3, .slice pw nw cw, .slice pg ng cg] 26 (0, 0))) := ⟨(hb5.block _ (by have := HS.out; omega)).trans HGR.out, (hb5.block _ (by have := HS.out; omega)).trans HGQ.out⟩
     have HIN5 : Hid (QIn V.heap.size w5 (.slice pi q.i.length ci) (.slice pw q.w.length cw) (.slice pg q.g.length cg) q) := HINB.out.held (kept_of (fun b hb => hb.2) hb5)
     clear C4 hb5 HRX HBX HGR HGQ HINB HIN HT1 HX1 HT2 HX2 hW4 e0
     by_cases hc0 : cq = 0
     · have yc : (cq != 0) = false := by simp [hc0]
       have HRE : Hid (r0 = (q, 0, 0)) := by have := HR4.out; rw [if_neg (by simpa using hc0)] at this; exact this.symm
       have HRX : Hid (w5.rangeAt w3.heap.size 0 [.slice pi ni ci, .string s0, .string s1, .string s2, .string s3, .slice pw nw cw, .slice pg ng cg]) := rgz HG5.out.2
       obtain ⟨hth, X, hX, hld, hsX, hkX⟩ := put_row w5 w.heap.size _ 26 (HG5.out.1) [.slice pi ni ci, .string s0, .string s1, .string s2, .string s3, .slice pw nw cw, .slice pg ng cg] rfl underlying26 rfl sz_qry
       have HTH := hid hth
       have HX : Hid (w5.setCells w.heap.size 0 (#[.slice pi ni ci, .string s0, .string s1, .string s2, .string s3, .slice pw nw cw, .slice pg ng cg] : Array Value).toList = X) := hX
       have HLD : Hid ((loadVar 26 ⟨w.heap.size, 0, none⟩).run prog X = .ok (.agg #[.slice pi ni ci, .string s0, .string s1, .string s2, .string s3, .slice pw nw cw, .slice pg ng cg]) X) := hld
       have HF : Hid (OutP w r0 (.returned (.tuple #[.agg #[.slice pi ni ci, .string s0, .string s1, .string s2, .string s3, .slice pw nw cw, .slice pg ng cg], .int .i64 0, .int .i64 0])) X) := by
        show OutP _ _ _ _
        rw [HRE.out]
        have hb := HB5.out
        exact ⟨_, rfl, ⟨_, _, _, by rw [HCL.out], (HIN5.out.held (hkX.less fun b hb => by have := HVS.out; omega)).base (by have := HVS.out; omega)⟩, ⟨hkX.os.trans hb.os, hkX.tape.trans hb.tape, hkX.output.trans hb.output, Nat.le_trans hb.size hkX.size, fun b h => (hkX.block b (Nat.ne_of_lt h)).trans (hb.block b h)⟩⟩
       clear hth hX hld hsX hkX HR4 hc0 HB5 HG5 HIN5 HS H10
       go_wp2_with (first | (refine wpList_load_mid rfl 26 _ rfl w3.heap.size 0 rfl _ _ HRX.out underlying26 rfl sz_qry ?_) | (refine wpList_store_mid rfl 26 _ _ rfl w.heap.size 0 #[.slice pi ni ci, .string s0, .string s1, .string s2, .string s3, .slice pw nw cw, .slice pg ng cg] rfl rfl HTH.out sz_qry (by simp [Value.oneCell']) ?_; rw [HX.out]))
       refine bodyPost_ret (v := .tuple #[.agg #[.slice pi ni ci, .string s0, .string s1, .string s2, .string s3, .slice pw nw cw, .slice pg ng cg], .int .i64 0, .int .i64 0]) (by simp only [results, results55]; simp [asAddr, Act.put, HLD.out]) rfl ?_
       exact HF.out
     · have yc : (cq != 0) = true := bne_iff_ne.2 hc0
       have HRE : Hid (r0 = (zeroQ, cq, 0)) := by have := HR4.out; rw [if_pos hc0] at this; exact this.symm
       obtain ⟨hth, X, hX, hld, hsX, hkX⟩ := put_row w5 w.heap.size _ 26 (HG5.out.1) [.slice none 0 0, .string ⟨#[]⟩, .string ⟨#[]⟩, .string ⟨#[]⟩, .string ⟨#[]⟩, .slice none 0 0, .slice none 0 0] rfl underlying26 rfl sz_qry
       have HTH := hid hth
       have HX : Hid (w5.setCells w.heap.size 0 (#[.slice none 0 0, .string ⟨#[]⟩, .string ⟨#[]⟩, .string ⟨#[]⟩, .string ⟨#[]⟩, .slice none 0 0, .slice none 0 0] : Array Value).toList = X) := hX
       have HLD : Hid ((loadVar 26 ⟨w.heap.size, 0, none⟩).run prog X = .ok (.agg #[.slice none 0 0, .string ⟨#[]⟩, .string ⟨#[]⟩, .string ⟨#[]⟩, .string ⟨#[]⟩, .slice none 0 0, .slice none 0 0]) X) := hld
       have HF := hid (out_zero HB5.out hkX cq 0 r0 HRE.out)
       clear hth hX hld hsX hkX HR4 hc0 HB5 HG5 HIN5 HS H10 HCL HVS
       go_wp2_with (first | (refine wpList_store_mid rfl 26 _ _ rfl w.heap.size 0 #[.slice none 0 0, .string ⟨#[]⟩, .string ⟨#[]⟩, .string ⟨#[]⟩, .string ⟨#[]⟩, .slice none 0 0, .slice none 0 0] rfl rfl HTH.out sz_qry (by simp [Value.oneCell']) ?_; rw [HX.out]))
       refine bodyPost_ret (v := .tuple #[.agg #[.slice none 0 0, .string ⟨#[]⟩, .string ⟨#[]⟩, .string ⟨#[]⟩, .string ⟨#[]⟩, .slice none 0 0, .slice none 0 0], .int .i64 cq, .int .i64 0]) (by simp only [results, results55]; simp [asAddr, Act.put, HLD.out]) rfl ?_
       exact HF.out
   · have yn : (y != 0) = true := bne_iff_ne.2 hy
     have HRE : Hid (r0 = (zeroQ, y, a)) := by have := HR2.out; rw [if_pos hy] at this; exact this.symm
     obtain ⟨D, hD⟩ := gen X2.drew
     have hbD : Bl w D := by rw [← hD]; exact HBX.out.drew
     have hgD : D.heap[w.heap.size]? = some (.cells #[.slice none 0 0, .string ⟨#[]⟩, .string ⟨#[]⟩, .string ⟨#[]⟩, .string ⟨#[]⟩, .slice none 0 0, .slice none 0 0] 26 (0, 0)) := by rw [← hD]; exact HGR.out
     have HSD : Hid (D.cell? ⟨w3.heap.size + 1, 0, none⟩ = some (.int .i64 y) ∧ D.cell? ⟨w3.heap.size + 1, 1, none⟩ = some (.int .i64 a)) := by rw [← hD]; exact HF1.out
     obtain ⟨hth, X, hX, hld, hsX, hkX⟩ := put_row D w.heap.size _ 26 hgD [.slice none 0 0, .string ⟨#[]⟩, .string ⟨#[]⟩, .string ⟨#[]⟩, .string ⟨#[]⟩, .slice none 0 0, .slice none 0 0] rfl underlying26 rfl sz_qry
     have HSX : Hid (X.cell? ⟨w3.heap.size + 1, 0, none⟩ = some (.int .i64 y) ∧ X.cell? ⟨w3.heap.size + 1, 1, none⟩ = some (.int .i64 a)) := ⟨(hkX.cell (p := ⟨w3.heap.size + 1, 0, none⟩) (by show w3.heap.size + 1 ≠ w.heap.size; have := HS.out; omega)).trans HSD.out.1, (hkX.cell (p := ⟨w3.heap.size + 1, 1, none⟩) (by show w3.heap.size + 1 ≠ w.heap.size; have := HS.out; omega)).trans HSD.out.2⟩
     have HTH := hid hth
     have HX : Hid (D.setCells w.heap.size 0 (#[.slice none 0 0, .string ⟨#[]⟩, .string ⟨#[]⟩, .string ⟨#[]⟩, .string ⟨#[]⟩, .slice none 0 0, .slice none 0 0] : Array Value).toList = X) := hX
     have HLD : Hid ((loadVar 26 ⟨w.heap.size, 0, none⟩).run prog X = .ok (.agg #[.slice none 0 0, .string ⟨#[]⟩, .string ⟨#[]⟩, .string ⟨#[]⟩, .string ⟨#[]⟩, .slice none 0 0, .slice none 0 0]) X) := hld
     have HF := hid (out_zero hbD hkX y a r0 HRE.out)
     clear hbD hgD hth hX hld hsX hkX HR2 hy HLS HGX HF1 HIN HINB HCL HVS HGQ HGR HBX H10
     go_wp2_with (first | (refine wpList_store_mid rfl 26 _ _ rfl w3.heap.size 0 #[.slice pi ni ci, .string s0, .string s1, .string s2, .string s3, .slice pw nw cw, .slice pg ng cg] rfl rfl HT1.out sz_qry (by simp [Value.oneCell']) ?_; rw [HX1.out]) | (refine wpList_store_mid rfl 136 _ _ rfl (w3.heap.size + 1) 0 #[.int .i64 y, .int .i64 a] rfl rfl HT2.out sz_flt (by simp [Value.oneCell']) ?_; rw [HX2.out]))
     refine wp_region_held_drew (S := fun V => V.cell? ⟨w3.heap.size + 1, 0, none⟩ = some (.int .i64 y) ∧ V.cell? ⟨w3.heap.size + 1, 1, none⟩ = some (.int .i64 a)) (by kernel_rfl) (by rw [hD]; exact HSD.out) (fun hHeld => ?_)
     refine tk0 0 (.agg #[.slice none 0 0, .string ⟨#[]⟩, .string ⟨#[]⟩, .string ⟨#[]⟩, .string ⟨#[]⟩, .slice none 0 0, .slice none 0 0]) rfl hHeld ?_
     refine tk 1 (.pointer (some ⟨w3.heap.size + 1, 0, none⟩)) rfl (.inl ⟨by rfl, fun W hW => by obtain ⟨h37, h38⟩ := hW; go_simp⟩) hHeld ?_
     refine tk 2 (.int .i64 y) rfl (.inl ⟨by rfl, fun W hW => by obtain ⟨h37, h38⟩ := hW; go_simp⟩) hHeld ?_
     refine tk 3 (.pointer (some ⟨w3.heap.size + 1, 1, none⟩)) rfl (.inl ⟨by rfl, fun W hW => by obtain ⟨h37, h38⟩ := hW; go_simp⟩) hHeld ?_
     refine tk 4 (.int .i64 a) rfl (.inl ⟨by rfl, fun W hW => by obtain ⟨h37, h38⟩ := hW; go_simp⟩) hHeld ?_
     simp only [Act.put, List.getElem_toArray, List.getElem_cons_zero, List.getElem_cons_succ, List.setIfInBounds_toArray, List.set_cons_zero, List.set_cons_succ]
     rw [hD]
     clear hD
     refine wpAnyH_ready (rs := [5]) (by kernel_rfl) (by simp) ?_
     refine AllReadyH.cons rfl (fun K' hK => ?_) AllReadyH.nil
     rw [if_pos (by rfl)]
     refine wp_store_mid 26 (.tmp 2) (.tmp 34) rfl w.heap.size 0 #[.slice none 0 0, .string ⟨#[]⟩, .string ⟨#[]⟩, .string ⟨#[]⟩, .string ⟨#[]⟩, .slice none 0 0, .slice none 0 0] rfl rfl HTH.out sz_qry (by simp [Value.oneCell']) ?_
     rw [HX.out]
     simp only [Act.put, List.getElem_toArray, List.getElem_cons_zero, List.getElem_cons_succ, List.setIfInBounds_toArray, List.set_cons_zero, List.set_cons_succ]
     refine hK _ _ HSX.out (fun hHeld => ?_)
     clear hK K'
     refine wpAnyH_ready (rs := [6]) (by kernel_rfl) (by simp) ?_
     refine AllReadyH.cons rfl (fun K' hK => ?_) AllReadyH.nil
     rw [if_pos (by rfl)]
     go_simp
     refine hK _ _ hHeld (fun hHeld => ?_)
     clear hK K'
     refine wpAnyH_ready (rs := [7]) (by kernel_rfl) (by simp) ?_
     refine AllReadyH.cons rfl (fun K' hK => ?_) AllReadyH.nil
     rw [if_pos (by rfl)]
     go_simp
     refine hK _ _ hHeld (fun hHeld => ?_)
     clear hK K'
     refine wpAnyH_done (by kernel_rfl) ?_ _
     clear hHeld
     go_wp2_with fail
     refine bodyPost_ret (v := .tuple #[.agg #[.slice none 0 0, .string ⟨#[]⟩, .string ⟨#[]⟩, .string ⟨#[]⟩, .string ⟨#[]⟩, .slice none 0 0, .slice none 0 0], .int .i64 y, .int .i64 a]) (by simp only [results, results55]; simp [asAddr, Act.put, HLD.out]) rfl ?_
     exact HF.out
 · have yy : (y0 != 0) = true := bne_iff_ne.2 hy0
   have HRE : Hid (r0 = (zeroQ, y0, a0)) := by have := HR0.out; rw [if_pos hy0] at this; exact this.symm
   obtain ⟨hth, X, hX, hld, hsX, hkX⟩ := put_row w1 w.heap.size _ 26 (HG1.out.1) [.slice none 0 0, .string ⟨#[]⟩, .string ⟨#[]⟩, .string ⟨#[]⟩, .string ⟨#[]⟩, .slice none 0 0, .slice none 0 0] rfl underlying26 rfl sz_qry
   have HTH := hid hth
   have HX : Hid (w1.setCells w.heap.size 0 (#[.slice none 0 0, .string ⟨#[]⟩, .string ⟨#[]⟩, .string ⟨#[]⟩, .string ⟨#[]⟩, .slice none 0 0, .slice none 0 0] : Array Value).toList = X) := hX
   have HLD : Hid ((loadVar 26 ⟨w.heap.size, 0, none⟩).run prog X = .ok (.agg #[.slice none 0 0, .string ⟨#[]⟩, .string ⟨#[]⟩, .string ⟨#[]⟩, .string ⟨#[]⟩, .slice none 0 0, .slice none 0 0]) X) := hld
   have HF := hid (out_zero HB1.out hkX y0 a0 r0 HRE.out)
   clear hth hX hld hsX hkX HR0 hy0 HB1 HG1 HLI HGW1 HN HB01 HOK HLX H10
   go_wp2_with (first | (refine wpList_store_mid rfl 26 _ _ rfl w.heap.size 0 #[.slice none 0 0, .string ⟨#[]⟩, .string ⟨#[]⟩, .string ⟨#[]⟩, .string ⟨#[]⟩, .slice none 0 0, .slice none 0 0] rfl rfl HTH.out sz_qry (by simp [Value.oneCell']) ?_; rw [HX.out]))
   refine bodyPost_ret (v := .tuple #[.agg #[.slice none 0 0, .string ⟨#[]⟩, .string ⟨#[]⟩, .string ⟨#[]⟩, .string ⟨#[]⟩, .slice none 0 0, .slice none 0 0], .int .i64 y0, .int .i64 a0]) (by simp only [results, results55]; simp [asAddr, Act.put, HLD.out]) rfl ?_
   exact HF.out
theorem clone_any (s : ByteArray) (w : World) (hs : s.size ≤ 281474976710656) : Calls Tryz.prog 62 #[.string s] w fun e w' => e = .returned (.string s) ∧ Bl w w' := by
 have C := hid (Tryz.stringslite_Clone s w hs)
 go_enter Tryz.func62, Tryz.ntmps62
 go_wp2_with fail
 refine C.out.mono ?_
 rintro e w1 ⟨rfl, hb⟩
 have HB := hid hb
 clear C hb
 go_wp2_with fail
 go_ret
 exact ⟨rfl, HB.out⟩
end Go.Proofs.YtfifphfihdhlaaaGreatDoor

/- What the life of bind asks. -/
import Derived.Test.YtfifphfihdhlaaaGreatDoorQbTk
import Derived.Test.YtfifphfihdhlaaaGreatDoorCyCzDaDbDcDd
import Derived.Test.YtfifphfihdhlaaaGreatDoorRgRh
set_option maxRecDepth 100000
set_option maxHeartbeats 32000000
namespace Go.Proofs.YtfifphfihdhlaaaGreatDoor.Bd
open Tryz
open Go.Shelf Go.RowKit Go.Lib Go.Sort
set_option linter.unusedVariables false
set_option linter.unusedSimpArgs false
attribute [local go_sem ↓] Go.wp_at_zero Go.wp_at_succ
def lifeT1 : List UInt8 := [40, 102, 114, 111, 109, 32, 116, 32, 40, 103, 101, 116, 32, 40, 108, 101, 110, 103, 116, 104, 32, 115, 41, 41, 41]
def lifeT2 : List UInt8 := [40, 102, 114, 111, 109, 32, 116, 32, 40, 103, 101, 116, 32, 40, 43, 32, 115, 32, 49, 41, 41, 41]
def lifeT3 : List UInt8 := [40, 102, 114, 111, 109, 32, 116, 32, 40, 106, 111, 105, 110, 32, 117, 32, 117, 46, 107, 32, 116, 46, 107, 41, 32, 40, 103, 114, 111, 117, 112, 32, 115, 41, 32, 40, 103, 101, 116, 32, 115, 32, 40, 99, 111, 117, 110, 116, 41, 41, 41]
def lifeT4 : List UInt8 := [40, 102, 114, 111, 109, 32, 116, 32, 40, 106, 111, 105, 110, 32, 117, 32, 116, 46, 107, 32, 117, 46, 107, 41, 32, 40, 103, 101, 116, 32, 107, 41, 41]
theorem lt1 : (resB (ofP lifeT1 lifeL)).1.n = [[99, 49]] ∧ (resB (ofP lifeT1 lifeL)).1.k = [2] ∧ (resB (ofP lifeT1 lifeL)).2 = 0 := ⟨by kernel_rfl, by kernel_rfl, by kernel_rfl⟩
theorem lt2 : (resB (ofP lifeT2 lifeL)).2 = 5 := by kernel_rfl
theorem lt4 : (resB (ofP lifeT4 lifeL)).2 = 14 := by kernel_rfl
theorem lt3 : (resB (ofP lifeT3 lifeL)).1.n = [[115], [99, 50]] ∧ (resB (ofP lifeT3 lifeL)).1.r = true ∧ (resB (ofP lifeT3 lifeL)).1.d = 2 ∧ (resB (ofP lifeT3 lifeL)).2 = 0 := ⟨by kernel_rfl, by kernel_rfl, by kernel_rfl, by kernel_rfl⟩
theorem lr3 : rightBP (resB (ofP lifeT3 lifeL)).1 lifeL = true := by kernel_rfl
theorem lives_any (w : World) (h : GA w) : Calls prog 9 #[] w fun e w' => e = .returned (.bool true) ∧ Bl w w' := by
 have HG := hid h
 clear h
 have COF : Hid (∀ (s : ByteArray) V, s.size ≤ 9223372036854775807 → Bl w V → ∀ p c, ListIs rTab 3 64 (From w.heap.size V) V (.slice p 2 c) lifeL → Calls prog 20 #[.string s, .slice p 2 c] V fun e w' => OutB V.heap.size w' (ofP s.data.toList lifeL) e ∧ Bl V w') := fun s V hs hV p c hl => of_any s (From w.heap.size V) p c lifeL V hs hl (fun b hb => hb.2) (HG.out.below hV).g2.1 (HG.out.below hV).gw (HG.out.below hV).h10
 go_enter func9, ntmps9
 have HB0 : Hid (Bl w w) := Below.refl _ _
 have CA1 := hid (catalog_any w)
 go_wp2_with (fail)
 refine CA1.out.mono ?_
 rintro e wa1 ⟨pL, cL, rfl, hlL, hbL⟩
 have HBa1 : Hid (Bl w wa1) := HB0.out.trans (hbL.mono HB0.out.size)
 have C1 : Hid (Calls prog 20 #[.string ⟨lifeT1.toArray⟩, .slice pL 2 cL] wa1 fun e w' => OutB wa1.heap.size w' (ofP lifeT1 lifeL) e ∧ Bl wa1 w') := COF.out ⟨lifeT1.toArray⟩ wa1 (by decide) HBa1.out pL cL (hlL.less mTab HB0.out.size)
 have HLb1 := hid hbL
 clear CA1 hlL hbL
 go_wp2_with fail
 refine C1.out.mono ?_
 rintro e wb1 ⟨⟨v, rfl, hbi⟩, hb2⟩
 obtain ⟨pw_1, pg_1, pi_1, pn_1, pk_1, cw_1, cg_1, ci_1, cn_1, ck_1, rfl, h1, h2, h3, h4, h5⟩ := hbi
 obtain ⟨b_1, hb⟩ := gen ((resB (ofP lifeT1 lifeL)).1)
 obtain ⟨er_1, her⟩ := gen ((resB (ofP lifeT1 lifeL)).2)
 obtain ⟨f1, f2, f3⟩ := lt1
 rw [hb] at f1 f2
 rw [her] at f3
 subst f3
 rw [hb] at h1 h2 h3 h4 h5
 rw [her, hb]
 obtain ⟨t0_1, ht0⟩ := bya b_1.t
 obtain ⟨t1_1, ht1⟩ := bya b_1.j
 obtain ⟨bd_1, hbd⟩ := gen b_1.d
 obtain ⟨ba_1, hba⟩ := gen b_1.a
 obtain ⟨bb_1, hbb⟩ := gen b_1.b
 obtain ⟨br_1, hbr⟩ := gen b_1.r
 obtain ⟨n1_1, hn1⟩ := gen b_1.w.length
 obtain ⟨n2_1, hn2⟩ := gen b_1.g.length
 obtain ⟨n3_1, hn3⟩ := gen b_1.i.length
 have hn4 : b_1.n.length = 1 := by rw [f1]; rfl
 have hn5 : b_1.k.length = 1 := by rw [f2]; rfl
 have hbc2 : (bndC b_1 pw_1 pg_1 pi_1 pn_1 pk_1 cw_1 cg_1 ci_1 cn_1 ck_1).toArray = #[.string t0_1, .string t1_1, .int .i64 bd_1, .int .i64 ba_1, .int .i64 bb_1, .slice pw_1 n1_1 cw_1, .slice pg_1 n2_1 cg_1, .slice pi_1 n3_1 ci_1, .bool br_1, .slice pn_1 1 cn_1, .slice pk_1 1 ck_1] := by unfold bndC; rw [ht0, ht1, hbd, hba, hbb, hbr, hn1, hn2, hn3, hn4, hn5]
 obtain ⟨WA, hWA, hth, V1, hVV, hgV, hbV⟩ := box_any wb1 32 #[.string ⟨#[]⟩, .string ⟨#[]⟩, .int .i64 0, .int .i64 0, .int .i64 0, .slice none 0 0, .slice none 0 0, .slice none 0 0, .bool false, .slice none 0 0, .slice none 0 0] [.string t0_1, .string t1_1, .int .i64 bd_1, .int .i64 ba_1, .int .i64 bb_1, .slice pw_1 n1_1 cw_1, .slice pg_1 n2_1 cg_1, .slice pi_1 n3_1 ci_1, .bool br_1, .slice pn_1 1 cn_1, .slice pk_1 1 ck_1] rfl
 have HTH : Hid (WA.there wb1.heap.size 0 11) := hth
 have HVV : Hid (WA.setCells wb1.heap.size 0 (#[.string t0_1, .string t1_1, .int .i64 bd_1, .int .i64 ba_1, .int .i64 bb_1, .slice pw_1 n1_1 cw_1, .slice pg_1 n2_1 cg_1, .slice pi_1 n3_1 ci_1, .bool br_1, .slice pn_1 1 cn_1, .slice pk_1 1 ck_1] : Array Value).toList = V1) := hVV
 have hbwb : Bl w wb1 := HBa1.out.trans (hb2.mono HBa1.out.size)
 have HB1 : Hid (Bl w V1) := hbwb.trans (hbV.mono hbwb.size)
 have HF1 : Hid ((∃ b o, pn_1 = some ⟨b, o, none⟩ ∧ b < V1.heap.size ∧ V1.cell? ⟨b, o, none⟩ = some (.string ⟨#[99, 49]⟩)) ∧ (∃ b o, pk_1 = some ⟨b, o, none⟩ ∧ b < V1.heap.size ∧ V1.cell? ⟨b, o, none⟩ = some (.int .u8 2)) ∧ V1.heap[wb1.heap.size]? = some (.cells #[.string t0_1, .string t1_1, .int .i64 bd_1, .int .i64 ba_1, .int .i64 bb_1, .slice pw_1 n1_1 cw_1, .slice pg_1 n2_1 cg_1, .slice pi_1 n3_1 ci_1, .bool br_1, .slice pn_1 1 cn_1, .slice pk_1 1 ck_1] 32 (0, 0))) := by
  refine ⟨?_, ?_, hgV⟩
  · rw [hn4] at h4
    rw [f1] at h4
    obtain ⟨q', c', e, _, hp⟩ := h4
    obtain ⟨b, o, rfl, hK, hc⟩ := hp (by decide)
    cases e
    obtain ⟨cs, _, hcell, rfl, _⟩ := hc 0 (by decide)
    exact ⟨b, o, rfl, nlt hK.2 hbV.size, (hbV.cell (p := ⟨b, o, none⟩) hK.2).trans (hcell 0 _ rfl)⟩
  · rw [hn5] at h5
    rw [f2] at h5
    obtain ⟨q', c', e, _, hp⟩ := h5
    obtain ⟨b, o, rfl, hK, hc⟩ := hp (by decide)
    cases e
    obtain ⟨cs, _, hcell, rfl, _⟩ := hc 0 (by decide)
    exact ⟨b, o, rfl, nlt hK.2 hbV.size, (hbV.cell (p := ⟨b, o, none⟩) hK.2).trans (hcell 0 _ rfl)⟩
 rw [hbc2]
 clear C1 HBa1 HLb1 hb2 hb her h1 h2 h3 h4 h5 hth hVV hgV hbV hbwb HB0  hbc2 ht0 ht1 hbd hba hbb hbr hn1 hn2 hn3 hn4 hn5 f1 f2
 have CA2 := hid (catalog_any V1)
 go_wp2_with (refine wpList_store_mid rfl 32 _ _ rfl wb1.heap.size 0 #[.string t0_1, .string t1_1, .int .i64 bd_1, .int .i64 ba_1, .int .i64 bb_1, .slice pw_1 n1_1 cw_1, .slice pg_1 n2_1 cg_1, .slice pi_1 n3_1 ci_1, .bool br_1, .slice pn_1 1 cn_1, .slice pk_1 1 ck_1] rfl rfl HTH.out sz_bnd (by simp [Value.oneCell']) ?_; rw [show WA.setCells wb1.heap.size 0 (#[.string t0_1, .string t1_1, .int .i64 bd_1, .int .i64 ba_1, .int .i64 bb_1, .slice pw_1 n1_1 cw_1, .slice pg_1 n2_1 cg_1, .slice pi_1 n3_1 ci_1, .bool br_1, .slice pn_1 1 cn_1, .slice pk_1 1 ck_1] : Array Value).toList = V1 from HVV.out])
 refine CA2.out.mono ?_
 rintro e wa2 ⟨pL, cL, rfl, hlL, hbL⟩
 have HBa2 : Hid (Bl w wa2) := HB1.out.trans (hbL.mono HB1.out.size)
 have C2 : Hid (Calls prog 20 #[.string ⟨lifeT2.toArray⟩, .slice pL 2 cL] wa2 fun e w' => OutB wa2.heap.size w' (ofP lifeT2 lifeL) e ∧ Bl wa2 w') := COF.out ⟨lifeT2.toArray⟩ wa2 (by decide) HBa2.out pL cL (hlL.less mTab HB1.out.size)
 clear HTH HVV hWA
 have HLb2 := hid hbL
 clear CA2 hlL hbL
 go_wp2_with fail
 refine C2.out.mono ?_
 rintro e wb2 ⟨⟨v, rfl, hbi⟩, hb2⟩
 obtain ⟨pw_2, pg_2, pi_2, pn_2, pk_2, cw_2, cg_2, ci_2, cn_2, ck_2, rfl, h1, h2, h3, h4, h5⟩ := hbi
 obtain ⟨b_2, hb⟩ := gen ((resB (ofP lifeT2 lifeL)).1)
 obtain ⟨er_2, her⟩ := gen ((resB (ofP lifeT2 lifeL)).2)
 have f3 := lt2
 rw [her] at f3
 subst f3
 rw [hb] at h1 h2 h3 h4 h5
 rw [her, hb]
 obtain ⟨t0_2, ht0⟩ := bya b_2.t
 obtain ⟨t1_2, ht1⟩ := bya b_2.j
 obtain ⟨bd_2, hbd⟩ := gen b_2.d
 obtain ⟨ba_2, hba⟩ := gen b_2.a
 obtain ⟨bb_2, hbb⟩ := gen b_2.b
 obtain ⟨br_2, hbr⟩ := gen b_2.r
 obtain ⟨n1_2, hn1⟩ := gen b_2.w.length
 obtain ⟨n2_2, hn2⟩ := gen b_2.g.length
 obtain ⟨n3_2, hn3⟩ := gen b_2.i.length
 obtain ⟨n4_2, hn4⟩ := gen b_2.n.length
 obtain ⟨n5_2, hn5⟩ := gen b_2.k.length
 have hbc2 : (bndC b_2 pw_2 pg_2 pi_2 pn_2 pk_2 cw_2 cg_2 ci_2 cn_2 ck_2).toArray = #[.string t0_2, .string t1_2, .int .i64 bd_2, .int .i64 ba_2, .int .i64 bb_2, .slice pw_2 n1_2 cw_2, .slice pg_2 n2_2 cg_2, .slice pi_2 n3_2 ci_2, .bool br_2, .slice pn_2 n4_2 cn_2, .slice pk_2 n5_2 ck_2] := by unfold bndC; rw [ht0, ht1, hbd, hba, hbb, hbr, hn1, hn2, hn3, hn4, hn5]
 obtain ⟨WA, hWA, hth, V2, hVV, hgV, hbV⟩ := box_any wb2 32 #[.string ⟨#[]⟩, .string ⟨#[]⟩, .int .i64 0, .int .i64 0, .int .i64 0, .slice none 0 0, .slice none 0 0, .slice none 0 0, .bool false, .slice none 0 0, .slice none 0 0] [.string t0_2, .string t1_2, .int .i64 bd_2, .int .i64 ba_2, .int .i64 bb_2, .slice pw_2 n1_2 cw_2, .slice pg_2 n2_2 cg_2, .slice pi_2 n3_2 ci_2, .bool br_2, .slice pn_2 n4_2 cn_2, .slice pk_2 n5_2 ck_2] rfl
 have HTH : Hid (WA.there wb2.heap.size 0 11) := hth
 have HVV : Hid (WA.setCells wb2.heap.size 0 (#[.string t0_2, .string t1_2, .int .i64 bd_2, .int .i64 ba_2, .int .i64 bb_2, .slice pw_2 n1_2 cw_2, .slice pg_2 n2_2 cg_2, .slice pi_2 n3_2 ci_2, .bool br_2, .slice pn_2 n4_2 cn_2, .slice pk_2 n5_2 ck_2] : Array Value).toList = V2) := hVV
 have hbwb : Bl w wb2 := HBa2.out.trans (hb2.mono HBa2.out.size)
 have HB2 : Hid (Bl w V2) := hbwb.trans (hbV.mono hbwb.size)
 have hbp : Bl V1 V2 := HLb2.out.trans ((hb2.trans (hbV.mono hb2.size)).mono HLb2.out.size)
 have HP2 := hid hbp
 rw [hbc2]
 clear C2 HBa2 HLb2 hb2 hb her h1 h2 h3 h4 h5 hth hVV hgV hbV hbwb hbp HB1  hbc2 ht0 ht1 hbd hba hbb hbr hn1 hn2 hn3 hn4 hn5 
 have CA3 := hid (catalog_any V2)
 go_wp2_with (refine wpList_store_mid rfl 32 _ _ rfl wb2.heap.size 0 #[.string t0_2, .string t1_2, .int .i64 bd_2, .int .i64 ba_2, .int .i64 bb_2, .slice pw_2 n1_2 cw_2, .slice pg_2 n2_2 cg_2, .slice pi_2 n3_2 ci_2, .bool br_2, .slice pn_2 n4_2 cn_2, .slice pk_2 n5_2 ck_2] rfl rfl HTH.out sz_bnd (by simp [Value.oneCell']) ?_; rw [show WA.setCells wb2.heap.size 0 (#[.string t0_2, .string t1_2, .int .i64 bd_2, .int .i64 ba_2, .int .i64 bb_2, .slice pw_2 n1_2 cw_2, .slice pg_2 n2_2 cg_2, .slice pi_2 n3_2 ci_2, .bool br_2, .slice pn_2 n4_2 cn_2, .slice pk_2 n5_2 ck_2] : Array Value).toList = V2 from HVV.out])
 refine CA3.out.mono ?_
 rintro e wa3 ⟨pL, cL, rfl, hlL, hbL⟩
 have HBa3 : Hid (Bl w wa3) := HB2.out.trans (hbL.mono HB2.out.size)
 have C3 : Hid (Calls prog 20 #[.string ⟨lifeT3.toArray⟩, .slice pL 2 cL] wa3 fun e w' => OutB wa3.heap.size w' (ofP lifeT3 lifeL) e ∧ Bl wa3 w') := COF.out ⟨lifeT3.toArray⟩ wa3 (by decide) HBa3.out pL cL (hlL.less mTab HB2.out.size)
 clear HTH HVV hWA
 have HLb3 := hid hbL
 clear CA3 hlL hbL
 go_wp2_with fail
 refine C3.out.mono ?_
 rintro e wb3 ⟨⟨v, rfl, hbi⟩, hb2⟩
 obtain ⟨pw_3, pg_3, pi_3, pn_3, pk_3, cw_3, cg_3, ci_3, cn_3, ck_3, rfl, h1, h2, h3, h4, h5⟩ := hbi
 obtain ⟨b_3, hb⟩ := gen ((resB (ofP lifeT3 lifeL)).1)
 obtain ⟨er_3, her⟩ := gen ((resB (ofP lifeT3 lifeL)).2)
 obtain ⟨f1, f2, f4, f3⟩ := lt3
 have HR3 := hid lr3
 rw [hb] at f1 f2 f4 HR3
 rw [her] at f3
 subst f3
 rw [hb] at h1 h2 h3 h4 h5
 rw [her, hb]
 obtain ⟨t0_3, ht0⟩ := bya b_3.t
 obtain ⟨t1_3, ht1⟩ := bya b_3.j
 have hbd : b_3.d = 2 := f4
 obtain ⟨ba_3, hba⟩ := gen b_3.a
 obtain ⟨bb_3, hbb⟩ := gen b_3.b
 have hbr : b_3.r = true := f2
 obtain ⟨n1_3, hn1⟩ := gen b_3.w.length
 obtain ⟨n2_3, hn2⟩ := gen b_3.g.length
 obtain ⟨n3_3, hn3⟩ := gen b_3.i.length
 have hn4 : b_3.n.length = 2 := by rw [f1]; rfl
 obtain ⟨n5_3, hn5⟩ := gen b_3.k.length
 have hbc2 : (bndC b_3 pw_3 pg_3 pi_3 pn_3 pk_3 cw_3 cg_3 ci_3 cn_3 ck_3).toArray = #[.string t0_3, .string t1_3, .int .i64 2, .int .i64 ba_3, .int .i64 bb_3, .slice pw_3 n1_3 cw_3, .slice pg_3 n2_3 cg_3, .slice pi_3 n3_3 ci_3, .bool true, .slice pn_3 2 cn_3, .slice pk_3 n5_3 ck_3] := by unfold bndC; rw [ht0, ht1, hbd, hba, hbb, hbr, hn1, hn2, hn3, hn4, hn5]
 obtain ⟨WA, hWA, hth, V3, hVV, hgV, hbV⟩ := box_any wb3 32 #[.string ⟨#[]⟩, .string ⟨#[]⟩, .int .i64 0, .int .i64 0, .int .i64 0, .slice none 0 0, .slice none 0 0, .slice none 0 0, .bool false, .slice none 0 0, .slice none 0 0] [.string t0_3, .string t1_3, .int .i64 2, .int .i64 ba_3, .int .i64 bb_3, .slice pw_3 n1_3 cw_3, .slice pg_3 n2_3 cg_3, .slice pi_3 n3_3 ci_3, .bool true, .slice pn_3 2 cn_3, .slice pk_3 n5_3 ck_3] rfl
 have HTH : Hid (WA.there wb3.heap.size 0 11) := hth
 have HVV : Hid (WA.setCells wb3.heap.size 0 (#[.string t0_3, .string t1_3, .int .i64 2, .int .i64 ba_3, .int .i64 bb_3, .slice pw_3 n1_3 cw_3, .slice pg_3 n2_3 cg_3, .slice pi_3 n3_3 ci_3, .bool true, .slice pn_3 2 cn_3, .slice pk_3 n5_3 ck_3] : Array Value).toList = V3) := hVV
 have hbwb : Bl w wb3 := HBa3.out.trans (hb2.mono HBa3.out.size)
 have HB3 : Hid (Bl w V3) := hbwb.trans (hbV.mono hbwb.size)
 have hbp : Bl V2 V3 := HLb3.out.trans ((hb2.trans (hbV.mono hb2.size)).mono HLb3.out.size)
 have HP3 := hid hbp
 have HF3 : Hid ((∃ b o, pn_3 = some ⟨b, o, none⟩ ∧ b < V3.heap.size ∧ V3.cell? ⟨b, o, none⟩ = some (.string ⟨#[115]⟩) ∧ V3.cell? ⟨b, o + 1, none⟩ = some (.string ⟨#[99, 50]⟩)) ∧ V3.heap[wb3.heap.size]? = some (.cells #[.string t0_3, .string t1_3, .int .i64 2, .int .i64 ba_3, .int .i64 bb_3, .slice pw_3 n1_3 cw_3, .slice pg_3 n2_3 cg_3, .slice pi_3 n3_3 ci_3, .bool true, .slice pn_3 2 cn_3, .slice pk_3 n5_3 ck_3] 32 (0, 0))) := by
  refine ⟨?_, hgV⟩
  have h4 := h4
  rw [hn4] at h4
  rw [f1] at h4
  obtain ⟨q', c', e, _, hp⟩ := h4
  obtain ⟨b, o, rfl, hK, hc⟩ := hp (by decide)
  cases e
  obtain ⟨cs, _, hcell, rfl, _⟩ := hc 0 (by decide)
  obtain ⟨cs2, _, hcell2, rfl, _⟩ := hc 1 (by decide)
  exact ⟨b, o, rfl, nlt hK.2 hbV.size, (hbV.cell (p := ⟨b, o, none⟩) hK.2).trans (hcell 0 _ rfl), (hbV.cell (p := ⟨b, o + 1, none⟩) hK.2).trans (hcell2 0 _ rfl)⟩
 have HRT : Hid (∀ X, Bl V3 X → ∀ p c, ListIs rTab 3 64 (From w.heap.size X) X (.slice p 2 c) lifeL → Calls prog 12 #[.agg #[.string t0_3, .string t1_3, .int .i64 2, .int .i64 ba_3, .int .i64 bb_3, .slice pw_3 n1_3 cw_3, .slice pg_3 n2_3 cg_3, .slice pi_3 n3_3 ci_3, .bool true, .slice pn_3 2 cn_3, .slice pk_3 n5_3 ck_3], .slice p 2 c] X fun e w' => e = .returned (.bool true) ∧ Bl X w') := fun X hX p c hl => by
  have hk : Bl wb3 X := hbV.trans (hX.mono hbV.size)
  have hlt : ∀ b, From wa3.heap.size wb3 b → b < wb3.heap.size := fun b hb => hb.2
  have := bright_any (From wa3.heap.size wb3) (From w.heap.size X) b_3 pw_3 pg_3 pi_3 pn_3 pk_3 cw_3 cg_3 ci_3 cn_3 ck_3 p c lifeL X (h1.later mStpW hlt hk) (h2.later mInt hlt hk) (h3.later mItmW hlt hk) (h4.later mStrW hlt hk) (h5.later mKnd hlt hk) (fun b hb => nlt hb.2 hk.size) hl (fun b hb => hb.2) (HG.out.below (hbwb.trans (hk.mono hbwb.size))).gw
  rw [hbc2, HR3] at this
  exact this
 rw [hbc2]
 clear C3 HBa3 HLb3 hb2 hb her h1 h2 h3 h4 h5 hth hVV hgV hbV hbwb hbp HB2  hbc2 ht0 ht1 hbd hba hbb hbr hn1 hn2 hn3 hn4 hn5 f1 f2 f4 HR3
 have CA4 := hid (catalog_any V3)
 go_wp2_with (refine wpList_store_mid rfl 32 _ _ rfl wb3.heap.size 0 #[.string t0_3, .string t1_3, .int .i64 2, .int .i64 ba_3, .int .i64 bb_3, .slice pw_3 n1_3 cw_3, .slice pg_3 n2_3 cg_3, .slice pi_3 n3_3 ci_3, .bool true, .slice pn_3 2 cn_3, .slice pk_3 n5_3 ck_3] rfl rfl HTH.out sz_bnd (by simp [Value.oneCell']) ?_; rw [show WA.setCells wb3.heap.size 0 (#[.string t0_3, .string t1_3, .int .i64 2, .int .i64 ba_3, .int .i64 bb_3, .slice pw_3 n1_3 cw_3, .slice pg_3 n2_3 cg_3, .slice pi_3 n3_3 ci_3, .bool true, .slice pn_3 2 cn_3, .slice pk_3 n5_3 ck_3] : Array Value).toList = V3 from HVV.out])
 refine CA4.out.mono ?_
 rintro e wa4 ⟨pL, cL, rfl, hlL, hbL⟩
 have HBa4 : Hid (Bl w wa4) := HB3.out.trans (hbL.mono HB3.out.size)
 have C4 : Hid (Calls prog 20 #[.string ⟨lifeT4.toArray⟩, .slice pL 2 cL] wa4 fun e w' => OutB wa4.heap.size w' (ofP lifeT4 lifeL) e ∧ Bl wa4 w') := COF.out ⟨lifeT4.toArray⟩ wa4 (by decide) HBa4.out pL cL (hlL.less mTab HB3.out.size)
 clear HTH HVV hWA
 have HLb4 := hid hbL
 clear CA4 hlL hbL
 go_wp2_with fail
 refine C4.out.mono ?_
 rintro e wb4 ⟨⟨v, rfl, hbi⟩, hb2⟩
 obtain ⟨pw_4, pg_4, pi_4, pn_4, pk_4, cw_4, cg_4, ci_4, cn_4, ck_4, rfl, h1, h2, h3, h4, h5⟩ := hbi
 obtain ⟨b_4, hb⟩ := gen ((resB (ofP lifeT4 lifeL)).1)
 obtain ⟨er_4, her⟩ := gen ((resB (ofP lifeT4 lifeL)).2)
 have f3 := lt4
 rw [her] at f3
 subst f3
 rw [hb] at h1 h2 h3 h4 h5
 rw [her, hb]
 obtain ⟨t0_4, ht0⟩ := bya b_4.t
 obtain ⟨t1_4, ht1⟩ := bya b_4.j
 obtain ⟨bd_4, hbd⟩ := gen b_4.d
 obtain ⟨ba_4, hba⟩ := gen b_4.a
 obtain ⟨bb_4, hbb⟩ := gen b_4.b
 obtain ⟨br_4, hbr⟩ := gen b_4.r
 obtain ⟨n1_4, hn1⟩ := gen b_4.w.length
 obtain ⟨n2_4, hn2⟩ := gen b_4.g.length
 obtain ⟨n3_4, hn3⟩ := gen b_4.i.length
 obtain ⟨n4_4, hn4⟩ := gen b_4.n.length
 obtain ⟨n5_4, hn5⟩ := gen b_4.k.length
 have hbc2 : (bndC b_4 pw_4 pg_4 pi_4 pn_4 pk_4 cw_4 cg_4 ci_4 cn_4 ck_4).toArray = #[.string t0_4, .string t1_4, .int .i64 bd_4, .int .i64 ba_4, .int .i64 bb_4, .slice pw_4 n1_4 cw_4, .slice pg_4 n2_4 cg_4, .slice pi_4 n3_4 ci_4, .bool br_4, .slice pn_4 n4_4 cn_4, .slice pk_4 n5_4 ck_4] := by unfold bndC; rw [ht0, ht1, hbd, hba, hbb, hbr, hn1, hn2, hn3, hn4, hn5]
 obtain ⟨WA, hWA, hth, V4, hVV, hgV, hbV⟩ := box_any wb4 32 #[.string ⟨#[]⟩, .string ⟨#[]⟩, .int .i64 0, .int .i64 0, .int .i64 0, .slice none 0 0, .slice none 0 0, .slice none 0 0, .bool false, .slice none 0 0, .slice none 0 0] [.string t0_4, .string t1_4, .int .i64 bd_4, .int .i64 ba_4, .int .i64 bb_4, .slice pw_4 n1_4 cw_4, .slice pg_4 n2_4 cg_4, .slice pi_4 n3_4 ci_4, .bool br_4, .slice pn_4 n4_4 cn_4, .slice pk_4 n5_4 ck_4] rfl
 have HTH : Hid (WA.there wb4.heap.size 0 11) := hth
 have HVV : Hid (WA.setCells wb4.heap.size 0 (#[.string t0_4, .string t1_4, .int .i64 bd_4, .int .i64 ba_4, .int .i64 bb_4, .slice pw_4 n1_4 cw_4, .slice pg_4 n2_4 cg_4, .slice pi_4 n3_4 ci_4, .bool br_4, .slice pn_4 n4_4 cn_4, .slice pk_4 n5_4 ck_4] : Array Value).toList = V4) := hVV
 have hbwb : Bl w wb4 := HBa4.out.trans (hb2.mono HBa4.out.size)
 have HB4 : Hid (Bl w V4) := hbwb.trans (hbV.mono hbwb.size)
 have hbp : Bl V3 V4 := HLb4.out.trans ((hb2.trans (hbV.mono hb2.size)).mono HLb4.out.size)
 have HP4 := hid hbp
 rw [hbc2]
 clear C4 HBa4 HLb4 hb2 hb her h1 h2 h3 h4 h5 hth hVV hgV hbV hbwb hbp HB3  hbc2 ht0 ht1 hbd hba hbb hbr hn1 hn2 hn3 hn4 hn5 
 have hP : Bl V1 V4 := HP2.out.trans ((HP3.out.trans (HP4.out.mono HP3.out.size)).mono HP2.out.size)
 obtain ⟨⟨bn, on, rfl, hbn, cn1⟩, ⟨bk, ok, rfl, hbk, ck1⟩, hga⟩ := HF1.out
 obtain ⟨⟨bm, om, rfl, hbm, cm1, cm2⟩, hgb⟩ := HF3.out
 have x1 := (hP.cell (p := ⟨bn, on, none⟩) hbn).trans cn1
 have x2 := (hP.cell (p := ⟨bk, ok, none⟩) hbk).trans ck1
 have ha4 := (hP.block _ (gsi hga).1).trans hga
 have x3 := (HP4.out.cell (p := ⟨bm, om, none⟩) hbm).trans cm1
 have x4 := (HP4.out.cell (p := ⟨bm, om + 1, none⟩) hbm).trans cm2
 have hb4 := (HP4.out.block _ (gsi hgb).1).trans hgb
 have a9 := cell_of_row (k := 9) (v := .slice (some ⟨bn, on, none⟩) 1 cn_1) ha4 rfl
 have a10 := cell_of_row (k := 10) (v := .slice (some ⟨bk, ok, none⟩) 1 ck_1) ha4 rfl
 have b2 := cell_of_row (k := 2) (v := .int .i64 2) hb4 rfl
 have b8 := cell_of_row (k := 8) (v := .bool true) hb4 rfl
 have b9 := cell_of_row (k := 9) (v := .slice (some ⟨bm, om, none⟩) 2 cn_3) hb4 rfl
 have HRB : Hid (V4.rangeAt wb3.heap.size 0 [.string t0_3, .string t1_3, .int .i64 2, .int .i64 ba_3, .int .i64 bb_3, .slice pw_3 n1_3 cw_3, .slice pg_3 n2_3 cg_3, .slice pi_3 n3_3 ci_3, .bool true, .slice (some ⟨bm, om, none⟩) 2 cn_3, .slice pk_3 n5_3 ck_3]) := rgz hb4
 obtain ⟨D, hD⟩ := gen V4.drew
 have hbD : Bl V4 D := by rw [← hD]; exact (Below.refl _ _).drew
 have HBD : Hid (Bl w D) := HB4.out.trans (hbD.mono HB4.out.size)
 have HSALL : Hid (∀ V, Bl D V → (fun V => V.cell? ⟨bn, on, none⟩ = some (.string ⟨#[99, 49]⟩) ∧ V.cell? ⟨bk, ok, none⟩ = some (.int .u8 2) ∧ V.cell? ⟨bm, om, none⟩ = some (.string ⟨#[115]⟩) ∧ V.cell? ⟨bm, om + 1, none⟩ = some (.string ⟨#[99, 50]⟩) ∧ V.cell? ⟨wb1.heap.size, 9, none⟩ = some (.slice (some ⟨bn, on, none⟩) 1 cn_1) ∧ V.cell? ⟨wb1.heap.size, 10, none⟩ = some (.slice (some ⟨bk, ok, none⟩) 1 ck_1) ∧ V.cell? ⟨wb3.heap.size, 2, none⟩ = some (.int .i64 2) ∧ V.cell? ⟨wb3.heap.size, 8, none⟩ = some (.bool true) ∧ V.cell? ⟨wb3.heap.size, 9, none⟩ = some (.slice (some ⟨bm, om, none⟩) 2 cn_3) ∧ V.rangeAt wb3.heap.size 0 [.string t0_3, .string t1_3, .int .i64 2, .int .i64 ba_3, .int .i64 bb_3, .slice pw_3 n1_3 cw_3, .slice pg_3 n2_3 cg_3, .slice pi_3 n3_3 ci_3, .bool true, .slice (some ⟨bm, om, none⟩) 2 cn_3, .slice pk_3 n5_3 ck_3]) V) := fun V hV => by
  have h4V : Bl V4 V := hbD.trans (hV.mono hbD.size)
  have k := fun (b o : Nat) (u : Value) (hb : b < V4.heap.size) (hc : V4.cell? ⟨b, o, none⟩ = some u) => (h4V.cell (p := ⟨b, o, none⟩) hb).trans hc
  have L := fun (b o : Nat) (u : Value) (hc : V4.cell? ⟨b, o, none⟩ = some u) => k b o u (World.block_lt_of_cell? V4 _ hc) hc
  exact ⟨L _ _ _ x1, L _ _ _ x2, L _ _ _ x3, L _ _ _ x4, L _ _ _ a9, L _ _ _ a10, L _ _ _ b2, L _ _ _ b8, L _ _ _ b9, fun j u hu => L _ _ _ (HRB.out j u hu)⟩
 have HSD := hid (HSALL.out D (Below.refl _ _))
 have CA5 := hid (catalog_any D)
 have CR : Hid (∀ X, Bl D X → ∀ p c, ListIs rTab 3 64 (From w.heap.size X) X (.slice p 2 c) lifeL → Calls prog 12 #[.agg #[.string t0_3, .string t1_3, .int .i64 2, .int .i64 ba_3, .int .i64 bb_3, .slice pw_3 n1_3 cw_3, .slice pg_3 n2_3 cg_3, .slice pi_3 n3_3 ci_3, .bool true, .slice (some ⟨bm, om, none⟩) 2 cn_3, .slice pk_3 n5_3 ck_3], .slice p 2 c] X fun e w' => e = .returned (.bool true) ∧ Bl X w') := fun X hX p c hl => HRT.out X (HP4.out.trans ((hbD.trans (hX.mono hbD.size)).mono HP4.out.size)) p c hl
 clear hP hbn cn1 hbk ck1 hga hbm cm1 cm2 hgb ha4 hb4 HF1 HF3 HP2 HP3 HP4 COF HRT HRB x1 x2 x3 x4 a9 a10 b2 b8 b9 hbD HB4 HG
 go_wp2_with (refine wpList_store_mid rfl 32 _ _ rfl wb4.heap.size 0 #[.string t0_4, .string t1_4, .int .i64 bd_4, .int .i64 ba_4, .int .i64 bb_4, .slice pw_4 n1_4 cw_4, .slice pg_4 n2_4 cg_4, .slice pi_4 n3_4 ci_4, .bool br_4, .slice pn_4 n4_4 cn_4, .slice pk_4 n5_4 ck_4] rfl rfl HTH.out sz_bnd (by simp [Value.oneCell']) ?_; rw [show WA.setCells wb4.heap.size 0 (#[.string t0_4, .string t1_4, .int .i64 bd_4, .int .i64 ba_4, .int .i64 bb_4, .slice pw_4 n1_4 cw_4, .slice pg_4 n2_4 cg_4, .slice pi_4 n3_4 ci_4, .bool br_4, .slice pn_4 n4_4 cn_4, .slice pk_4 n5_4 ck_4] : Array Value).toList = V4 from HVV.out])
 clear HTH HVV hWA
 refine wp_region_held_drew (S := (fun V => V.cell? ⟨bn, on, none⟩ = some (.string ⟨#[99, 49]⟩) ∧ V.cell? ⟨bk, ok, none⟩ = some (.int .u8 2) ∧ V.cell? ⟨bm, om, none⟩ = some (.string ⟨#[115]⟩) ∧ V.cell? ⟨bm, om + 1, none⟩ = some (.string ⟨#[99, 50]⟩) ∧ V.cell? ⟨wb1.heap.size, 9, none⟩ = some (.slice (some ⟨bn, on, none⟩) 1 cn_1) ∧ V.cell? ⟨wb1.heap.size, 10, none⟩ = some (.slice (some ⟨bk, ok, none⟩) 1 ck_1) ∧ V.cell? ⟨wb3.heap.size, 2, none⟩ = some (.int .i64 2) ∧ V.cell? ⟨wb3.heap.size, 8, none⟩ = some (.bool true) ∧ V.cell? ⟨wb3.heap.size, 9, none⟩ = some (.slice (some ⟨bm, om, none⟩) 2 cn_3) ∧ V.rangeAt wb3.heap.size 0 [.string t0_3, .string t1_3, .int .i64 2, .int .i64 ba_3, .int .i64 bb_3, .slice pw_3 n1_3 cw_3, .slice pg_3 n2_3 cg_3, .slice pi_3 n3_3 ci_3, .bool true, .slice (some ⟨bm, om, none⟩) 2 cn_3, .slice pk_3 n5_3 ck_3])) (by kernel_rfl) (by rw [hD]; exact HSD.out) (fun hHeld => ?_)
 refine tk0 0 (.int .i64 0) rfl hHeld ?_
 refine tk0 1 (.bool true) rfl hHeld ?_
 refine tk0 2 (.bool true) rfl hHeld ?_
 refine tk0 3 (.pointer (some ⟨wb1.heap.size, 9, none⟩)) rfl hHeld ?_
 refine tk 4 (.slice (some ⟨bn, on, none⟩) 1 cn_1) rfl (.inl ⟨by rfl, fun W hW => by obtain ⟨q1, q2, q3, q4, q5, q6, q7, q8, q9, q10⟩ := hW; go_simp⟩) hHeld ?_
 simp only [Act.put, List.getElem_toArray, List.getElem_cons_zero, List.getElem_cons_succ, List.setIfInBounds_toArray, List.set_cons_zero, List.set_cons_succ]
 refine tk0 5 (.int .i64 1) rfl hHeld ?_
 refine tk0 6 (.bool true) rfl hHeld ?_
 refine tk0 7 (.bool true) rfl hHeld ?_
 refine tk0 8 (.bool true) rfl hHeld ?_
 refine tk0 9 (.pointer (some ⟨wb1.heap.size, 9, none⟩)) rfl hHeld ?_
 simp only [Act.put, List.getElem_toArray, List.getElem_cons_zero, List.getElem_cons_succ, List.setIfInBounds_toArray, List.set_cons_zero, List.set_cons_succ]
 refine tk 10 (.slice (some ⟨bn, on, none⟩) 1 cn_1) rfl (.inl ⟨by rfl, fun W hW => by obtain ⟨q1, q2, q3, q4, q5, q6, q7, q8, q9, q10⟩ := hW; go_simp⟩) hHeld ?_
 refine tk0 11 (.pointer (some ⟨bn, on, none⟩)) rfl hHeld ?_
 refine tk 12 (.string ⟨#[99, 49]⟩) rfl (.inl ⟨by rfl, fun W hW => by obtain ⟨q1, q2, q3, q4, q5, q6, q7, q8, q9, q10⟩ := hW; go_simp⟩) hHeld ?_
 refine tk0 13 (.bool true) rfl hHeld ?_
 refine tk0 14 (.bool true) rfl hHeld ?_
 simp only [Act.put, List.getElem_toArray, List.getElem_cons_zero, List.getElem_cons_succ, List.setIfInBounds_toArray, List.set_cons_zero, List.set_cons_succ]
 refine tk0 15 (.bool true) rfl hHeld ?_
 refine tk0 16 (.pointer (some ⟨wb1.heap.size, 10, none⟩)) rfl hHeld ?_
 refine tk 17 (.slice (some ⟨bk, ok, none⟩) 1 ck_1) rfl (.inl ⟨by rfl, fun W hW => by obtain ⟨q1, q2, q3, q4, q5, q6, q7, q8, q9, q10⟩ := hW; go_simp⟩) hHeld ?_
 refine tk0 18 (.pointer (some ⟨bk, ok, none⟩)) rfl hHeld ?_
 refine tk 19 (.int .u8 2) rfl (.inl ⟨by rfl, fun W hW => by obtain ⟨q1, q2, q3, q4, q5, q6, q7, q8, q9, q10⟩ := hW; go_simp⟩) hHeld ?_
 simp only [Act.put, List.getElem_toArray, List.getElem_cons_zero, List.getElem_cons_succ, List.setIfInBounds_toArray, List.set_cons_zero, List.set_cons_succ]
 refine tk0 20 (.bool true) rfl hHeld ?_
 refine tk0 21 (.bool true) rfl hHeld ?_
 refine tk0 22 (.bool true) rfl hHeld ?_
 refine tk0 23 (.int .i64 5) rfl hHeld ?_
 refine tk0 24 (.bool true) rfl hHeld ?_
 simp only [Act.put, List.getElem_toArray, List.getElem_cons_zero, List.getElem_cons_succ, List.setIfInBounds_toArray, List.set_cons_zero, List.set_cons_succ]
 refine tk0 25 (.bool true) rfl hHeld ?_
 refine tk0 26 (.bool true) rfl hHeld ?_
 refine tk0 27 (.int .i64 0) rfl hHeld ?_
 refine tk0 28 (.bool true) rfl hHeld ?_
 refine tk0 29 (.bool true) rfl hHeld ?_
 simp only [Act.put, List.getElem_toArray, List.getElem_cons_zero, List.getElem_cons_succ, List.setIfInBounds_toArray, List.set_cons_zero, List.set_cons_succ]
 refine tk0 30 (.bool true) rfl hHeld ?_
 refine tk0 31 (.pointer (some ⟨wb3.heap.size, 8, none⟩)) rfl hHeld ?_
 refine tk 32 (.bool true) rfl (.inl ⟨by rfl, fun W hW => by obtain ⟨q1, q2, q3, q4, q5, q6, q7, q8, q9, q10⟩ := hW; go_simp⟩) hHeld ?_
 refine tk0 33 (.bool true) rfl hHeld ?_
 refine tk0 34 (.bool true) rfl hHeld ?_
 simp only [Act.put, List.getElem_toArray, List.getElem_cons_zero, List.getElem_cons_succ, List.setIfInBounds_toArray, List.set_cons_zero, List.set_cons_succ]
 refine tk0 35 (.pointer (some ⟨wb3.heap.size, 2, none⟩)) rfl hHeld ?_
 refine tk 36 (.int .i64 2) rfl (.inl ⟨by rfl, fun W hW => by obtain ⟨q1, q2, q3, q4, q5, q6, q7, q8, q9, q10⟩ := hW; go_simp⟩) hHeld ?_
 refine tk0 37 (.bool true) rfl hHeld ?_
 refine tk0 38 (.bool true) rfl hHeld ?_
 refine tk0 39 (.bool true) rfl hHeld ?_
 simp only [Act.put, List.getElem_toArray, List.getElem_cons_zero, List.getElem_cons_succ, List.setIfInBounds_toArray, List.set_cons_zero, List.set_cons_succ]
 refine tk0 40 (.pointer (some ⟨wb3.heap.size, 9, none⟩)) rfl hHeld ?_
 refine tk 41 (.slice (some ⟨bm, om, none⟩) 2 cn_3) rfl (.inl ⟨by rfl, fun W hW => by obtain ⟨q1, q2, q3, q4, q5, q6, q7, q8, q9, q10⟩ := hW; go_simp⟩) hHeld ?_
 refine tk0 42 (.pointer (some ⟨bm, om, none⟩)) rfl hHeld ?_
 refine tk 43 (.string ⟨#[115]⟩) rfl (.inl ⟨by rfl, fun W hW => by obtain ⟨q1, q2, q3, q4, q5, q6, q7, q8, q9, q10⟩ := hW; go_simp⟩) hHeld ?_
 refine tk0 44 (.bool true) rfl hHeld ?_
 simp only [Act.put, List.getElem_toArray, List.getElem_cons_zero, List.getElem_cons_succ, List.setIfInBounds_toArray, List.set_cons_zero, List.set_cons_succ]
 refine tk0 45 (.bool true) rfl hHeld ?_
 refine tk0 46 (.bool true) rfl hHeld ?_
 refine tk0 47 (.pointer (some ⟨wb3.heap.size, 9, none⟩)) rfl hHeld ?_
 refine tk 48 (.slice (some ⟨bm, om, none⟩) 2 cn_3) rfl (.inl ⟨by rfl, fun W hW => by obtain ⟨q1, q2, q3, q4, q5, q6, q7, q8, q9, q10⟩ := hW; go_simp⟩) hHeld ?_
 refine tk0 49 (.pointer (some ⟨bm, om + 1, none⟩)) rfl hHeld ?_
 simp only [Act.put, List.getElem_toArray, List.getElem_cons_zero, List.getElem_cons_succ, List.setIfInBounds_toArray, List.set_cons_zero, List.set_cons_succ]
 refine tk 50 (.string ⟨#[99, 50]⟩) rfl (.inl ⟨by rfl, fun W hW => by obtain ⟨q1, q2, q3, q4, q5, q6, q7, q8, q9, q10⟩ := hW; go_simp⟩) hHeld ?_
 refine tk0 51 (.bool true) rfl hHeld ?_
 refine tk0 52 (.bool true) rfl hHeld ?_
 refine tk0 53 (.bool true) rfl hHeld ?_
 refine tk0 54 (.int .i64 14) rfl hHeld ?_
 simp only [Act.put, List.getElem_toArray, List.getElem_cons_zero, List.getElem_cons_succ, List.setIfInBounds_toArray, List.set_cons_zero, List.set_cons_succ]
 refine tk0 55 (.bool true) rfl hHeld ?_
 refine tk0 56 (.bool true) rfl hHeld ?_
 refine tk0 57 (.bool true) rfl hHeld ?_
 refine tk 58 (.agg #[.string t0_3, .string t1_3, .int .i64 2, .int .i64 ba_3, .int .i64 bb_3, .slice pw_3 n1_3 cw_3, .slice pg_3 n2_3 cg_3, .slice pi_3 n3_3 ci_3, .bool true, .slice (some ⟨bm, om, none⟩) 2 cn_3, .slice pk_3 n5_3 ck_3]) rfl (yieldsIf_load_mid (by rfl) 32 (.tmp 5) rfl (wb3.heap.size) (0) rfl [.string t0_3, .string t1_3, .int .i64 2, .int .i64 ba_3, .int .i64 bb_3, .slice pw_3 n1_3 cw_3, .slice pg_3 n2_3 cg_3, .slice pi_3 n3_3 ci_3, .bool true, .slice (some ⟨bm, om, none⟩) 2 cn_3, .slice pk_3 n5_3 ck_3] _ (fun W hW => hW.2.2.2.2.2.2.2.2.2) underlying32 rfl sz_bnd) hHeld ?_
 simp only [Act.put, List.getElem_toArray, List.getElem_cons_zero, List.getElem_cons_succ, List.setIfInBounds_toArray, List.set_cons_zero, List.set_cons_succ]
 rw [hD] at hHeld ⊢
 clear hD
 refine wpAnyH_ready (rs := [59]) (by kernel_rfl) (by simp) ?_
 refine AllReadyH.cons rfl (fun K' hK => ?_) AllReadyH.nil
 rw [if_pos (by rfl)]
 go_simp
 go_at_call 21
 refine CA5.out.mono ?_
 rintro e w5 ⟨p5, c5, rfl, hl5, hb5⟩
 have HS5 := hid (HSALL.out w5 hb5)
 have C12 := hid (CR.out w5 hb5 p5 c5 (hl5.less mTab HBD.out.size))
 have HB5 : Hid (Bl w w5) := HBD.out.trans (hb5.mono HBD.out.size)
 have HB5D := hid hb5
 clear CA5 CR hl5 hb5 HBD
 refine hK.out _ _ HS5.out (fun hHeld => ?_)
 clear hK K'
 refine wpAnyH_ready (rs := [60]) (by kernel_rfl) (by simp) ?_
 refine AllReadyH.cons rfl (fun K' hK => ?_) AllReadyH.nil
 rw [if_pos (by rfl)]
 go_simp
 go_at_call 12
 refine C12.out.mono ?_
 rintro e w6 ⟨rfl, hb6⟩
 have HS6 := hid (HSALL.out w6 (HB5D.out.trans (hb6.mono HB5D.out.size)))
 have HB6 : Hid (Bl w w6) := HB5.out.trans (hb6.mono HB5.out.size)
 refine hK.out _ _ HS6.out (fun hHeld => ?_)
 clear hK K' C12 hb6
 refine tk0 61 (.bool true) rfl hHeld ?_
 simp only [Act.put, List.getElem_toArray, List.getElem_cons_zero, List.getElem_cons_succ, List.setIfInBounds_toArray, List.set_cons_zero, List.set_cons_succ]
 refine wpAnyH_ready (rs := [62]) (by kernel_rfl) (by simp) ?_
 refine AllReadyH.cons rfl (fun K' hK => ?_) AllReadyH.nil
 rw [if_pos (by rfl)]
 go_simp
 refine hK _ _ HS6.out (fun hHeld => ?_)
 clear hK K'
 refine wpAnyH_done (by kernel_rfl) ?_ _
 go_wp2_with fail
 go_ret
 exact ⟨rfl, HB6.out⟩
end Go.Proofs.YtfifphfihdhlaaaGreatDoor.Bd

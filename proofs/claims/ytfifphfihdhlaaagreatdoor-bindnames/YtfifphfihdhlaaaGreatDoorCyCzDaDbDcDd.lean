/- A query, bound by a catalog: Bind, of any query and any catalog. -/
import Derived.Test.YtfifphfihdhlaaaGreatDoorCwCx
import Derived.Test.YtfifphfihdhlaaaGreatDoorQxQy
set_option maxRecDepth 100000
set_option maxHeartbeats 32000000
namespace Go.Proofs.YtfifphfihdhlaaaGreatDoor.Bd
open Tryz
open Go.Shelf Go.RowKit Go.Lib Go.Sort
set_option linter.unusedVariables false
set_option linter.unusedSimpArgs false
attribute [local go_sem ↓] Go.wp_at_zero Go.wp_at_succ
theorem bind_any (K Kt : Nat → Prop) (pi pw pg : Option Addr) (ci cw cg : Nat) (q : Qry) (pt : Option Addr) (ct : Nat) (l : List Tab) (w : World) (h : QLsW K w pi pw pg ci cw cg q) (hK : ∀ b, K b → b < w.heap.size) (ht : ListIs rTab 3 64 Kt w (.slice pt l.length ct) l) (hKt : ∀ b, Kt b → b < w.heap.size) (hG : GW w) :
 Calls prog 10 #[.agg (q.cl (.slice pi q.i.length ci) (.slice pw q.w.length cw) (.slice pg q.g.length cg)), .slice pt l.length ct] w fun e w' => OutB w.heap.size w' (bindP q l) e ∧ Bl w w' := by
 obtain ⟨s0, hs0⟩ := bya q.t
 obtain ⟨s1, hs1⟩ := bya q.j
 obtain ⟨s2, hs2⟩ := bya q.a
 obtain ⟨s3, hs3⟩ := bya q.b
 obtain ⟨ni, hni⟩ := gen q.i.length
 obtain ⟨nw, hnw⟩ := gen q.w.length
 obtain ⟨ng, hng⟩ := gen q.g.length
 obtain ⟨nl, hnl⟩ := gen l.length
 have hcl : q.cl (.slice pi q.i.length ci) (.slice pw q.w.length cw) (.slice pg q.g.length cg) = #[.slice pi ni ci, .string s0, .string s1, .string s2, .string s3, .slice pw nw cw, .slice pg ng cg] := by unfold Qry.cl; rw [hs0, hs1, hs2, hs3, hni, hnw, hng]
 obtain ⟨W0, hW0, hb0, hz0, g0, g1⟩ := two_boxes2 w #[.slice pi ni ci, .string s0, .string s1, .string s2, .string s3, .slice pw nw cw, .slice pg ng cg] #[.string ⟨#[]⟩, .string ⟨#[]⟩, .int .i64 0, .int .i64 0, .int .i64 0, .slice none 0 0, .slice none 0 0, .slice none 0 0, .bool false, .slice none 0 0, .slice none 0 0] 26 32
 have HBX : Hid (∀ V, Bl W0 V → Bl w V ∧ V.rangeAt w.heap.size 0 (#[.slice pi ni ci, .string s0, .string s1, .string s2, .string s3, .slice pw nw cw, .slice pg ng cg]).toList ∧ V.heap[w.heap.size + 1]? = some (.cells #[.string ⟨#[]⟩, .string ⟨#[]⟩, .int .i64 0, .int .i64 0, .int .i64 0, .slice none 0 0, .slice none 0 0, .slice none 0 0, .bool false, .slice none 0 0, .slice none 0 0] 32 (0, 0)) ∧ w.heap.size + 2 ≤ V.heap.size) := fun V hV => ⟨hb0.trans (hV.mono (by omega)), rgz ((hV.block _ (by omega)).trans g0), (hV.block _ (by omega)).trans g1, by have := hV.size; omega⟩
 have C1 : Hid (Calls prog 22 #[.agg #[.slice pi ni ci, .string s0, .string s1, .string s2, .string s3, .slice pw nw cw, .slice pg ng cg]] W0 fun e w' => e = .returned (.int .i64 (checkQ q)) ∧ Bl W0 w') := by
  have := check_w K pi pw pg ci cw cg q W0 (h.below hK hb0) (fun b hb => nlt (hK b hb) hb0.size) (hG.below hb0)
  rwa [hcl] at this
 have C2 : Hid (∀ V, Bl w V → Calls prog 17 #[.slice pt nl ct] V fun e w' => e = .returned (.int .i64 (catP l)) ∧ Bl V w') := fun V hV => by
  have := cat_any Kt pt ct l V (ht.later mTab hKt hV) (fun b hb => nlt (hKt b hb) hV.size) (hG.below hV)
  rwa [hnl] at this
 have C3 : Hid (checkQ q = 0 → catP l = 0 → ∀ V, Bl w V → Calls prog 23 #[.agg #[.slice pi ni ci, .string s0, .string s1, .string s2, .string s3, .slice pw nw cw, .slice pg ng cg], .slice pt nl ct] V fun e w' => OutB V.heap.size w' (resolveP q l) e ∧ Bl V w') := fun h1 h2 V hV => by
  have := resolve_any K Kt pi pw pg ci cw cg q pt ct l V (h.below hK hV) (fun b hb => nlt (hK b hb) hV.size) (ht.later mTab hKt hV) (fun b hb => nlt (hKt b hb) hV.size) (hG.below hV) h2 h1
  rwa [hcl, hnl] at this
 obtain ⟨R, hR⟩ := gen (bindP q l)
 obtain ⟨x, hx⟩ := gen (checkQ q)
 obtain ⟨y, hy⟩ := gen (catP l)
 have HR : Hid (R = if x ≠ 0 then .error x else if y ≠ 0 then .error y else resolveP q l) := by show _ = _; rw [← hR, ← hx, ← hy]; rfl
 rw [hx] at C1 C3
 rw [hy] at C2 C3
 have HR0 := hid (HBX.out W0 (Below.refl _ _)).2.1
 rw [hcl, hnl, hR]
 clear h hK ht hKt hG hs0 hs1 hs2 hs3 hni hnw hng hnl hcl hb0 hz0 g0 g1 hR hx hy
 go_enter func10, ntmps10
 go_wp2_with (refine wpList_load_mid rfl 26 _ rfl w.heap.size 0 rfl _ _ HR0.out underlying26 rfl sz_qry ?_)
 refine C1.out.mono ?_
 rintro e w1 ⟨rfl, hb1⟩
 obtain ⟨hbw, hr1, hg1, hl1⟩ := HBX.out w1 hb1
 have HB1 := hid hb1
 clear C1 HR0 hb1
 by_cases hx : x = 0
 case neg =>
  have yx : (x != 0) = true := bne_iff_ne.2 hx
  have HE : Hid (R = .error x) := by show _ = _; rw [HR.out, if_pos hx]
  clear HR hx C2 C3 hr1
  obtain ⟨hth, XR, hXR, hgR, hsR, hkR⟩ := put_all w1 (w.heap.size + 1) _ 32 hg1 (#[.string ⟨#[]⟩, .string ⟨#[]⟩, .int .i64 0, .int .i64 0, .int .i64 0, .slice none 0 0, .slice none 0 0, .slice none 0 0, .bool false, .slice none 0 0, .slice none 0 0]).toList rfl
  have HBR := hid (put_below hbw hkR hsR (by omega))
  have HTH : Hid (w1.there (w.heap.size + 1) 0 11) := hth
  have HXR : Hid (w1.setCells (w.heap.size + 1) 0 (#[.string ⟨#[]⟩, .string ⟨#[]⟩, .int .i64 0, .int .i64 0, .int .i64 0, .slice none 0 0, .slice none 0 0, .slice none 0 0, .bool false, .slice none 0 0, .slice none 0 0] : Array Value).toList = XR) := hXR
  have HLD := hid (run_loadVar_mid (P := prog) XR (w.heap.size + 1) 0 32 (#[.string ⟨#[]⟩, .string ⟨#[]⟩, .int .i64 0, .int .i64 0, .int .i64 0, .slice none 0 0, .slice none 0 0, .slice none 0 0, .bool false, .slice none 0 0, .slice none 0 0]).toList _ (rgz hgR) underlying32 rfl sz_bnd)
  have HOUT : Hid (OutB w.heap.size XR R (.returned (.tuple #[.agg #[.string ⟨#[]⟩, .string ⟨#[]⟩, .int .i64 0, .int .i64 0, .int .i64 0, .slice none 0 0, .slice none 0 0, .slice none 0 0, .bool false, .slice none 0 0, .slice none 0 0], .int .i64 x]))) := by
   show OutB _ _ _ _
   rw [HE.out]
   exact ⟨noBndC, rfl, noBnd_is _ _⟩
  have hld : (loadVar 32 ⟨w.heap.size + 1, 0, none⟩).run prog XR = .ok (.agg #[.string ⟨#[]⟩, .string ⟨#[]⟩, .int .i64 0, .int .i64 0, .int .i64 0, .slice none 0 0, .slice none 0 0, .slice none 0 0, .bool false, .slice none 0 0, .slice none 0 0]) XR := HLD.out
  have HLD2 := hid hld
  clear hth hXR hgR hsR hkR hbw HLD hld HE
  go_wp2_with (refine wpList_store_mid rfl 32 _ _ rfl (w.heap.size + 1) 0 #[.string ⟨#[]⟩, .string ⟨#[]⟩, .int .i64 0, .int .i64 0, .int .i64 0, .slice none 0 0, .slice none 0 0, .slice none 0 0, .bool false, .slice none 0 0, .slice none 0 0] rfl rfl HTH.out sz_bnd (by simp [Value.oneCell']) ?_; rw [HXR.out])
  refine bodyPost_ret (v := .tuple #[.agg #[.string ⟨#[]⟩, .string ⟨#[]⟩, .int .i64 0, .int .i64 0, .int .i64 0, .slice none 0 0, .slice none 0 0, .slice none 0 0, .bool false, .slice none 0 0, .slice none 0 0], .int .i64 x]) (by simp only [results, results10]; simp [asAddr, Act.put, HLD2.out]) rfl ?_
  exact ⟨HOUT.out, HBR.out⟩
 have yx : (x != 0) = false := by rw [hx]; rfl
 have HR2 : Hid (R = if y ≠ 0 then .error y else resolveP q l) := by show _ = _; rw [HR.out, if_neg (by simp [hx])]
 have C2' := hid (C2.out w1 hbw)
 have C3' : Hid (y = 0 → ∀ V, Bl w V → Calls prog 23 #[.agg #[.slice pi ni ci, .string s0, .string s1, .string s2, .string s3, .slice pw nw cw, .slice pg ng cg], .slice pt nl ct] V fun e w' => OutB V.heap.size w' (resolveP q l) e ∧ Bl V w') := C3.out hx
 clear HR hx C2 C3 hr1 hg1 hl1 hbw
 go_wp2_with fail
 refine C2'.out.mono ?_
 rintro e w2 ⟨rfl, hb2⟩
 have HB2 : Hid (Bl W0 w2) := HB1.out.trans (hb2.mono HB1.out.size)
 obtain ⟨hbw, hr2, hg2, hl2⟩ := HBX.out w2 HB2.out
 clear C2' hb2
 by_cases hy : y = 0
 case neg =>
  have yy : (y != 0) = true := bne_iff_ne.2 hy
  have HE : Hid (R = .error y) := by show _ = _; rw [HR2.out, if_pos hy]
  clear HR2 hy C3' hr2
  obtain ⟨hth, XR, hXR, hgR, hsR, hkR⟩ := put_all w2 (w.heap.size + 1) _ 32 hg2 (#[.string ⟨#[]⟩, .string ⟨#[]⟩, .int .i64 0, .int .i64 0, .int .i64 0, .slice none 0 0, .slice none 0 0, .slice none 0 0, .bool false, .slice none 0 0, .slice none 0 0]).toList rfl
  have HBR := hid (put_below hbw hkR hsR (by omega))
  have HTH : Hid (w2.there (w.heap.size + 1) 0 11) := hth
  have HXR : Hid (w2.setCells (w.heap.size + 1) 0 (#[.string ⟨#[]⟩, .string ⟨#[]⟩, .int .i64 0, .int .i64 0, .int .i64 0, .slice none 0 0, .slice none 0 0, .slice none 0 0, .bool false, .slice none 0 0, .slice none 0 0] : Array Value).toList = XR) := hXR
  have HLD := hid (run_loadVar_mid (P := prog) XR (w.heap.size + 1) 0 32 (#[.string ⟨#[]⟩, .string ⟨#[]⟩, .int .i64 0, .int .i64 0, .int .i64 0, .slice none 0 0, .slice none 0 0, .slice none 0 0, .bool false, .slice none 0 0, .slice none 0 0]).toList _ (rgz hgR) underlying32 rfl sz_bnd)
  have HOUT : Hid (OutB w.heap.size XR R (.returned (.tuple #[.agg #[.string ⟨#[]⟩, .string ⟨#[]⟩, .int .i64 0, .int .i64 0, .int .i64 0, .slice none 0 0, .slice none 0 0, .slice none 0 0, .bool false, .slice none 0 0, .slice none 0 0], .int .i64 y]))) := by
   show OutB _ _ _ _
   rw [HE.out]
   exact ⟨noBndC, rfl, noBnd_is _ _⟩
  have hld : (loadVar 32 ⟨w.heap.size + 1, 0, none⟩).run prog XR = .ok (.agg #[.string ⟨#[]⟩, .string ⟨#[]⟩, .int .i64 0, .int .i64 0, .int .i64 0, .slice none 0 0, .slice none 0 0, .slice none 0 0, .bool false, .slice none 0 0, .slice none 0 0]) XR := HLD.out
  have HLD2 := hid hld
  clear hth hXR hgR hsR hkR hbw HLD hld HE
  go_wp2_with (refine wpList_store_mid rfl 32 _ _ rfl (w.heap.size + 1) 0 #[.string ⟨#[]⟩, .string ⟨#[]⟩, .int .i64 0, .int .i64 0, .int .i64 0, .slice none 0 0, .slice none 0 0, .slice none 0 0, .bool false, .slice none 0 0, .slice none 0 0] rfl rfl HTH.out sz_bnd (by simp [Value.oneCell']) ?_; rw [HXR.out])
  refine bodyPost_ret (v := .tuple #[.agg #[.string ⟨#[]⟩, .string ⟨#[]⟩, .int .i64 0, .int .i64 0, .int .i64 0, .slice none 0 0, .slice none 0 0, .slice none 0 0, .bool false, .slice none 0 0, .slice none 0 0], .int .i64 y]) (by simp only [results, results10]; simp [asAddr, Act.put, HLD2.out]) rfl ?_
  exact ⟨HOUT.out, HBR.out⟩
 have yy : (y != 0) = false := by rw [hy]; rfl
 have HE : Hid (R = resolveP q l) := by show _ = _; rw [HR2.out, if_neg (by simp [hy])]
 have C4 := hid (C3'.out hy w2 hbw)
 have HRQ := hid hr2
 have HB2W := hid hbw
 have HG2 : Hid (w2.heap[w.heap.size + 1]? = some (.cells #[.string ⟨#[]⟩, .string ⟨#[]⟩, .int .i64 0, .int .i64 0, .int .i64 0, .slice none 0 0, .slice none 0 0, .slice none 0 0, .bool false, .slice none 0 0, .slice none 0 0] 32 (0, 0)) ∧ w.heap.size + 2 ≤ w2.heap.size) := ⟨hg2, hl2⟩
 clear HR2 hy C3' hr2 hg2 hl2 hbw
 go_wp2_with (refine wpList_load_mid rfl 26 _ rfl w.heap.size 0 rfl _ _ HRQ.out underlying26 rfl sz_qry ?_)
 refine C4.out.mono ?_
 rintro e w3 ⟨⟨v, rfl, hbi⟩, hb3⟩
 obtain ⟨pw1, pg1, pi1, pn1, pk1, cw1, cg1, ci1, cn1, ck1, rfl, h1, h2, h3, h4, h5⟩ := hbi
 obtain ⟨b, hb⟩ := gen ((resB (resolveP q l)).1)
 obtain ⟨er, her⟩ := gen ((resB (resolveP q l)).2)
 rw [hb] at h1 h2 h3 h4 h5
 rw [her, hb]
 obtain ⟨t0, ht0⟩ := bya b.t
 obtain ⟨t1, ht1⟩ := bya b.j
 obtain ⟨bd, hbd⟩ := gen b.d
 obtain ⟨ba, hba⟩ := gen b.a
 obtain ⟨bb, hbb⟩ := gen b.b
 obtain ⟨br, hbr⟩ := gen b.r
 obtain ⟨n1, hn1⟩ := gen b.w.length
 obtain ⟨n2, hn2⟩ := gen b.g.length
 obtain ⟨n3, hn3⟩ := gen b.i.length
 obtain ⟨n4, hn4⟩ := gen b.n.length
 obtain ⟨n5, hn5⟩ := gen b.k.length
 have hbc : bndC b pw1 pg1 pi1 pn1 pk1 cw1 cg1 ci1 cn1 ck1 = (#[.string t0, .string t1, .int .i64 bd, .int .i64 ba, .int .i64 bb, .slice pw1 n1 cw1, .slice pg1 n2 cg1, .slice pi1 n3 ci1, .bool br, .slice pn1 n4 cn1, .slice pk1 n5 ck1]).toList := by unfold bndC; rw [ht0, ht1, hbd, hba, hbb, hbr, hn1, hn2, hn3, hn4, hn5]
 have hbc2 : (bndC b pw1 pg1 pi1 pn1 pk1 cw1 cg1 ci1 cn1 ck1).toArray = #[.string t0, .string t1, .int .i64 bd, .int .i64 ba, .int .i64 bb, .slice pw1 n1 cw1, .slice pg1 n2 cg1, .slice pi1 n3 ci1, .bool br, .slice pn1 n4 cn1, .slice pk1 n5 ck1] := by rw [hbc]
 have hg3 := (hb3.block _ (by have := HG2.out.2; omega)).trans HG2.out.1
 have hbw3 : Bl w w3 := HB2W.out.trans (hb3.mono HB2W.out.size)
 obtain ⟨hth, XR, hXR, hgR, hsR, hkR⟩ := put_all w3 (w.heap.size + 1) _ 32 hg3 (#[.string t0, .string t1, .int .i64 bd, .int .i64 ba, .int .i64 bb, .slice pw1 n1 cw1, .slice pg1 n2 cg1, .slice pi1 n3 ci1, .bool br, .slice pn1 n4 cn1, .slice pk1 n5 ck1]).toList rfl
 have HBR := hid (put_below hbw3 hkR hsR (by omega))
 have HTH : Hid (w3.there (w.heap.size + 1) 0 11) := hth
 have HXR : Hid (w3.setCells (w.heap.size + 1) 0 (#[.string t0, .string t1, .int .i64 bd, .int .i64 ba, .int .i64 bb, .slice pw1 n1 cw1, .slice pg1 n2 cg1, .slice pi1 n3 ci1, .bool br, .slice pn1 n4 cn1, .slice pk1 n5 ck1] : Array Value).toList = XR) := hXR
 have hld : (loadVar 32 ⟨w.heap.size + 1, 0, none⟩).run prog XR = .ok (.agg #[.string t0, .string t1, .int .i64 bd, .int .i64 ba, .int .i64 bb, .slice pw1 n1 cw1, .slice pg1 n2 cg1, .slice pi1 n3 ci1, .bool br, .slice pn1 n4 cn1, .slice pk1 n5 ck1]) XR := run_loadVar_mid (P := prog) XR (w.heap.size + 1) 0 32 (#[.string t0, .string t1, .int .i64 bd, .int .i64 ba, .int .i64 bb, .slice pw1 n1 cw1, .slice pg1 n2 cg1, .slice pi1 n3 ci1, .bool br, .slice pn1 n4 cn1, .slice pk1 n5 ck1]).toList _ (rgz hgR) underlying32 rfl sz_bnd
 have HLD2 := hid hld
 have hlt : ∀ x, From w2.heap.size w3 x → From w.heap.size XR x := fun x hx => ⟨by have := hx.1; have := HG2.out.2; omega, by have := hx.2; omega⟩
 have hkk : Kept (From w2.heap.size w3) w3 XR := hkR.less fun x hx => by show x ≠ _; have := hx.1; have := HG2.out.2; omega
 have HOUT : Hid (OutB w.heap.size XR R (.returned (.tuple #[.agg #[.string t0, .string t1, .int .i64 bd, .int .i64 ba, .int .i64 bb, .slice pw1 n1 cw1, .slice pg1 n2 cg1, .slice pi1 n3 ci1, .bool br, .slice pn1 n4 cn1, .slice pk1 n5 ck1], .int .i64 er]))) := by
  show OutB _ _ _ _
  rw [HE.out]
  refine ⟨bndC b pw1 pg1 pi1 pn1 pk1 cw1 cg1 ci1 cn1 ck1, by rw [hbc2, her], pw1, pg1, pi1, pn1, pk1, cw1, cg1, ci1, cn1, ck1, by rw [hb], ?_, ?_, ?_, ?_, ?_⟩
  · rw [hb]; exact h1.mono mStpW hlt hkk
  · rw [hb]; exact h2.mono mInt hlt hkk
  · rw [hb]; exact h3.mono mItmW hlt hkk
  · rw [hb]; exact h4.mono mStrW hlt hkk
  · rw [hb]; exact h5.mono mKnd hlt hkk
 rw [hbc2]
 clear h1 h2 h3 h4 h5 hb her ht0 ht1 hbd hba hbb hbr hn1 hn2 hn3 hn4 hn5 hbc hbc2 hg3 hbw3 hb3 hth hXR hgR hsR hkR hld hlt hkk HE C4 HRQ
 go_wp2_with (refine wpList_store_mid rfl 32 _ _ rfl (w.heap.size + 1) 0 #[.string t0, .string t1, .int .i64 bd, .int .i64 ba, .int .i64 bb, .slice pw1 n1 cw1, .slice pg1 n2 cg1, .slice pi1 n3 ci1, .bool br, .slice pn1 n4 cn1, .slice pk1 n5 ck1] rfl rfl HTH.out sz_bnd (by simp [Value.oneCell']) ?_; rw [HXR.out])
 refine bodyPost_ret (v := .tuple #[.agg #[.string t0, .string t1, .int .i64 bd, .int .i64 ba, .int .i64 bb, .slice pw1 n1 cw1, .slice pg1 n2 cg1, .slice pi1 n3 ci1, .bool br, .slice pn1 n4 cn1, .slice pk1 n5 ck1], .int .i64 er]) (by simp only [results, results10]; simp [asAddr, Act.put, HLD2.out]) rfl ?_
 exact ⟨HOUT.out, HBR.out⟩
theorem rjoin_any (Kc : Nat → Prop) (s : Scp) (p : Option Addr) (d : Nat) (b : Bnd) (pw pg pi pn pk : Option Addr) (cw cg ci cn ck : Nat) (w : World) (h : ListIs rClm 2 24 Kc w (.slice p s.c.length d) s.c) (hKc : ∀ b, Kc b → b < w.heap.size) (h16 : s.c.length ≤ 16) (hw : s.w ≤ s.c.length) :
 Calls prog 27 #[.agg (scpC s p d), .agg (bndC b pw pg pi pn pk cw cg ci cn ck).toArray] w fun e w' => e = .returned (.bool (rJoinB s b)) ∧ Bl w w' := by
 obtain ⟨tS, htS⟩ := bya s.t
 obtain ⟨jS, hjS⟩ := bya s.j
 obtain ⟨Nc, hNc⟩ := gen s.c.length
 obtain ⟨wd, hwd⟩ := gen s.w
 have hsc : scpC s p d = #[.string tS, .string jS, .int .i64 (wd : Int), .slice p Nc d] := by unfold scpC; rw [htS, hjS, hNc, hwd]
 obtain ⟨t0, ht0⟩ := bya b.t
 obtain ⟨t1, ht1⟩ := bya b.j
 obtain ⟨bd, hbd⟩ := gen b.d
 obtain ⟨ba, hba⟩ := gen b.a
 obtain ⟨bb, hbb⟩ := gen b.b
 obtain ⟨br, hbr⟩ := gen b.r
 obtain ⟨n1, hn1⟩ := gen b.w.length
 obtain ⟨n2, hn2⟩ := gen b.g.length
 obtain ⟨n3, hn3⟩ := gen b.i.length
 obtain ⟨n4, hn4⟩ := gen b.n.length
 obtain ⟨n5, hn5⟩ := gen b.k.length
 have hbc : (bndC b pw pg pi pn pk cw cg ci cn ck).toArray = #[.string t0, .string t1, .int .i64 bd, .int .i64 ba, .int .i64 bb, .slice pw n1 cw, .slice pg n2 cg, .slice pi n3 ci, .bool br, .slice pn n4 cn, .slice pk n5 ck] := by unfold bndC; rw [ht0, ht1, hbd, hba, hbb, hbr, hn1, hn2, hn3, hn4, hn5]
 obtain ⟨W0, hW0, hb0, hz0, g0, g1⟩ := two_boxes2 w #[.string tS, .string jS, .int .i64 (wd : Int), .slice p Nc d] #[.string t0, .string t1, .int .i64 bd, .int .i64 ba, .int .i64 bb, .slice pw n1 cw, .slice pg n2 cg, .slice pi n3 ci, .bool br, .slice pn n4 cn, .slice pk n5 ck] 67 32
 have HBX : Hid (∀ V, Bl W0 V → V.rangeAt w.heap.size 0 (#[.string tS, .string jS, .int .i64 (wd : Int), .slice p Nc d]).toList ∧ V.rangeAt (w.heap.size + 1) 0 (#[.string t0, .string t1, .int .i64 bd, .int .i64 ba, .int .i64 bb, .slice pw n1 cw, .slice pg n2 cg, .slice pi n3 ci, .bool br, .slice pn n4 cn, .slice pk n5 ck]).toList ∧ V.heap[w.heap.size]? = some (.cells #[.string tS, .string jS, .int .i64 (wd : Int), .slice p Nc d] 67 (0, 0)) ∧ V.heap[w.heap.size + 1]? = some (.cells #[.string t0, .string t1, .int .i64 bd, .int .i64 ba, .int .i64 bb, .slice pw n1 cw, .slice pg n2 cg, .slice pi n3 ci, .bool br, .slice pn n4 cn, .slice pk n5 ck] 32 (0, 0)) ∧ Bl w V) := fun V hV =>
  ⟨rgz ((hV.block _ (by omega)).trans g0), rgz ((hV.block _ (by omega)).trans g1), (hV.block _ (by omega)).trans g0, (hV.block _ (by omega)).trans g1, hb0.trans (hV.mono (by omega))⟩
 have HB0 := hid hb0
 have ht0d : t0.data.toList = b.t := by rw [← ht0]
 have ht1d : t1.data.toList = b.j := by rw [← ht1]
 have hE := empty_text ht1d
 have heq : (t1.toList == t0.toList) = (b.j == b.t) := eq_text ht1d ht0d
 have CJ : Hid (∀ V, Bl w V → Calls prog 70 #[.agg #[.string tS, .string jS, .int .i64 (wd : Int), .slice p Nc d], .int .i64 ba, .int .i64 bb] V fun e w' => e = .returned (.bool (joinsP s ba bb)) ∧ Bl V w') := fun V hV => by
  have := joins_any Kc s p d ba bb V (h.later mClm hKc hV) (fun b hb => nlt (hKc b hb) hV.size) h16 hw
  rwa [hsc] at this
 obtain ⟨J, hJ⟩ := gen (joinsP s ba bb)
 rw [hJ] at CJ
 obtain ⟨R, hR⟩ := gen (rJoinB s b)
 have HR : Hid (R = if b.j = [] then (decide (bd = 0) && (decide (ba = 0) && decide (bb = 0))) else (decide (b.j ≠ b.t) && (decide (bd = (wd : Int)) && J))) := by show _ = _; rw [← hR, ← hJ, ← hbd, ← hba, ← hbb, ← hwd]; rfl
 rw [hsc, hbc, hR]
 obtain ⟨hr0, hr1, hg0, hg1, -⟩ := HBX.out W0 (Below.refl _ _)
 have HS0 := hid hr0
 have c1 := cell_of_row (k := 1) (v := .string t1) hg1 rfl
 have c0 := cell_of_row (k := 0) (v := .string t0) hg1 rfl
 have c2 := cell_of_row (k := 2) (v := .int .i64 bd) hg1 rfl
 have c3 := cell_of_row (k := 3) (v := .int .i64 ba) hg1 rfl
 have c4 := cell_of_row (k := 4) (v := .int .i64 bb) hg1 rfl
 have s2 := cell_of_row (k := 2) (v := .int .i64 (wd : Int)) hg0 rfl
 have CJ' := hid (CJ.out W0 hb0)
 clear h hKc h16 hw htS hjS hNc hwd hsc ht0 ht1 hbd hba hbb hbr hn1 hn2 hn3 hn4 hn5 hbc hb0 hz0 g0 g1 hJ hR hr0 hr1 hg0 hg1 HBX CJ ht0d ht1d
 by_cases hj : b.j = []
 · have t5 := hE.1 hj
   have HR1 : Hid (R = (decide (bd = 0) && (decide (ba = 0) && decide (bb = 0)))) := by show _ = _; rw [HR.out, if_pos hj]
   clear HR hj hE heq CJ'
   by_cases e1 : bd = 0
   · have y1 : (bd == 0) = true := by simp [e1]
     by_cases e2 : ba = 0
     · have y2 : (ba == 0) = true := by simp [e2]
       obtain ⟨F, hF⟩ := gen ((bb == 0))
       have HE : Hid (R = F) := by show _ = _; rw [HR1.out, decide_eq_true e1, decide_eq_true e2, ← hF]; by_cases e3 : bb = 0 <;> simp [e3]
       clear HR1 e1 e2
       go_enter func27, ntmps27
       go_wp2_with fail
       go_ret
       exact ⟨by rw [HE.out]; try rfl, HB0.out⟩
     · have y2 : (ba == 0) = false := bfn e2
       have HE : Hid (R = false) := by show _ = _; rw [HR1.out, decide_eq_false e2]; simp
       clear HR1 e1 e2
       go_enter func27, ntmps27
       go_wp2_with fail
       go_ret
       exact ⟨by rw [HE.out]; try rfl, HB0.out⟩
   · have y1 : (bd == 0) = false := bfn e1
     have HE : Hid (R = false) := by show _ = _; rw [HR1.out, decide_eq_false e1]; rfl
     clear HR1 e1
     go_enter func27, ntmps27
     go_wp2_with fail
     go_ret
     exact ⟨by rw [HE.out]; try rfl, HB0.out⟩
 · have t5 := hE.2 hj
   have HR1 : Hid (R = (decide (b.j ≠ b.t) && (decide (bd = (wd : Int)) && J))) := by show _ = _; rw [HR.out, if_neg hj]
   clear HR hj hE
   by_cases e0 : b.j = b.t
   · have y0 : (t1.toList == t0.toList) = true := by rw [heq]; simp [e0]
     have HE : Hid (R = false) := by show _ = _; rw [HR1.out, decide_eq_false (fun h => h e0)]; rfl
     clear HR1 e0 heq CJ'
     go_enter func27, ntmps27
     go_wp2_with fail
     go_ret
     exact ⟨by rw [HE.out]; try rfl, HB0.out⟩
   · have y0 : (t1.toList == t0.toList) = false := by rw [heq]; exact bfn e0
     by_cases e1 : bd = (wd : Int)
     · have y1 : (bd == (wd : Int)) = true := by simp [e1]
       have HE : Hid (R = J) := by show _ = _; rw [HR1.out, decide_eq_true e0, decide_eq_true e1]; simp
       clear HR1 e0 e1 heq
       go_enter func27, ntmps27
       go_wp2_with (refine wpList_load_midH (by rfl) 67 _ rfl w.heap.size 0 rfl _ _ HS0.out underlying67 rfl sz_scp ?_)
       refine CJ'.out.mono ?_
       rintro e w1 ⟨rfl, hb1⟩
       have HB1 : Hid (Bl w w1) := HB0.out.trans (hb1.mono HB0.out.size)
       clear CJ' hb1 HS0
       go_wp2_with fail
       go_ret
       exact ⟨by rw [HE.out]; try rfl, HB1.out⟩
     · have y1 : (bd == (wd : Int)) = false := bfn e1
       have HE : Hid (R = false) := by show _ = _; rw [HR1.out, decide_eq_false e1]; simp
       clear HR1 e0 e1 heq CJ'
       go_enter func27, ntmps27
       go_wp2_with fail
       go_ret
       exact ⟨by rw [HE.out]; try rfl, HB0.out⟩
theorem rwhere_any (K Kc : Nat → Prop) (s : Scp) (p : Option Addr) (d : Nat) (b : Bnd) (pw pg pi pn pk : Option Addr) (cw cg ci cn ck : Nat) (w : World) (h : ListIs rClm 2 24 Kc w (.slice p s.c.length d) s.c) (hKc : ∀ b, Kc b → b < w.heap.size) (hl : ListIs rStpW 3 32 K w (.slice pw b.w.length cw) b.w) (hK : ∀ b, K b → b < w.heap.size) (hG : GW w) :
 Calls prog 28 #[.agg (scpC s p d), .agg (bndC b pw pg pi pn pk cw cg ci cn ck).toArray] w fun e w' => e = .returned (.bool (rWhereB s b)) ∧ Bl w w' := by
 obtain ⟨tS, htS⟩ := bya s.t
 obtain ⟨jS, hjS⟩ := bya s.j
 obtain ⟨Nc, hNc⟩ := gen s.c.length
 obtain ⟨wd, hwd⟩ := gen s.w
 have hsc : scpC s p d = #[.string tS, .string jS, .int .i64 (wd : Int), .slice p Nc d] := by unfold scpC; rw [htS, hjS, hNc, hwd]
 obtain ⟨t0, ht0⟩ := bya b.t
 obtain ⟨t1, ht1⟩ := bya b.j
 obtain ⟨bd, hbd⟩ := gen b.d
 obtain ⟨ba, hba⟩ := gen b.a
 obtain ⟨bb, hbb⟩ := gen b.b
 obtain ⟨br, hbr⟩ := gen b.r
 obtain ⟨n1, hn1⟩ := gen b.w.length
 obtain ⟨n2, hn2⟩ := gen b.g.length
 obtain ⟨n3, hn3⟩ := gen b.i.length
 obtain ⟨n4, hn4⟩ := gen b.n.length
 obtain ⟨n5, hn5⟩ := gen b.k.length
 have hbc : (bndC b pw pg pi pn pk cw cg ci cn ck).toArray = #[.string t0, .string t1, .int .i64 bd, .int .i64 ba, .int .i64 bb, .slice pw n1 cw, .slice pg n2 cg, .slice pi n3 ci, .bool br, .slice pn n4 cn, .slice pk n5 ck] := by unfold bndC; rw [ht0, ht1, hbd, hba, hbb, hbr, hn1, hn2, hn3, hn4, hn5]
 obtain ⟨W0, hW0, hb0, hz0, g0, g1⟩ := two_boxes2 w #[.string tS, .string jS, .int .i64 (wd : Int), .slice p Nc d] #[.string t0, .string t1, .int .i64 bd, .int .i64 ba, .int .i64 bb, .slice pw n1 cw, .slice pg n2 cg, .slice pi n3 ci, .bool br, .slice pn n4 cn, .slice pk n5 ck] 67 32
 have HBX : Hid (∀ V, Bl W0 V → V.rangeAt w.heap.size 0 (#[.string tS, .string jS, .int .i64 (wd : Int), .slice p Nc d]).toList ∧ V.rangeAt (w.heap.size + 1) 0 (#[.string t0, .string t1, .int .i64 bd, .int .i64 ba, .int .i64 bb, .slice pw n1 cw, .slice pg n2 cg, .slice pi n3 ci, .bool br, .slice pn n4 cn, .slice pk n5 ck]).toList ∧ V.heap[w.heap.size]? = some (.cells #[.string tS, .string jS, .int .i64 (wd : Int), .slice p Nc d] 67 (0, 0)) ∧ V.heap[w.heap.size + 1]? = some (.cells #[.string t0, .string t1, .int .i64 bd, .int .i64 ba, .int .i64 bb, .slice pw n1 cw, .slice pg n2 cg, .slice pi n3 ci, .bool br, .slice pn n4 cn, .slice pk n5 ck] 32 (0, 0)) ∧ Bl w V) := fun V hV =>
  ⟨rgz ((hV.block _ (by omega)).trans g0), rgz ((hV.block _ (by omega)).trans g1), (hV.block _ (by omega)).trans g0, (hV.block _ (by omega)).trans g1, hb0.trans (hV.mono (by omega))⟩
 have HB0 := hid hb0
 have CW : Hid (∀ V, Bl w V → Calls prog 71 #[.agg #[.string tS, .string jS, .int .i64 (wd : Int), .slice p Nc d], .slice pw n1 cw] V fun e w' => e = .returned (.int .i64 (whereE s b.w)) ∧ Bl V w') := fun V hV => by
  have := checkWhere_any K Kc s p d pw cw b.w V (h.later mClm hKc hV) (fun b hb => nlt (hKc b hb) hV.size) (hl.later mStpW hK hV) (fun b hb => nlt (hK b hb) hV.size) (hG.below hV)
  rwa [hsc, hn1] at this
 obtain ⟨J, hJ⟩ := gen (whereE s b.w)
 rw [hJ] at CW
 obtain ⟨R, hR⟩ := gen (rWhereB s b)
 have HR : Hid (R = (decide (n1 = 0) || decide (J = 0))) := by show _ = _; rw [← hR, ← hJ, ← hn1]; rfl
 rw [hsc, hbc, hR]
 obtain ⟨hr0, hr1, hg0, hg1, -⟩ := HBX.out W0 (Below.refl _ _)
 have HS0 := hid hr0
 have c5 := cell_of_row (k := 5) (v := .slice pw n1 cw) hg1 rfl
 have CW' := hid (CW.out W0 hb0)
 clear h hKc hl hK hG htS hjS hNc hwd hsc ht0 ht1 hbd hba hbb hbr hn1 hn2 hn3 hn4 hn5 hbc hb0 hz0 g0 g1 hJ hR hr0 hr1 hg0 hg1 HBX CW
 by_cases e1 : n1 = 0
 · have y1 : ((n1 : Int) == 0) = true := by simp [e1]
   have HE : Hid (R = true) := by show _ = _; rw [HR.out, decide_eq_true e1]; rfl
   clear HR e1 CW'
   go_enter func28, ntmps28
   go_wp2_with fail
   go_ret
   exact ⟨by rw [HE.out]; try rfl, HB0.out⟩
 · have y1 : ((n1 : Int) == 0) = false := bfn (by omega)
   obtain ⟨F, hF⟩ := gen ((J == 0))
   have HE : Hid (R = F) := by show _ = _; rw [HR.out, decide_eq_false e1, ← hF]; by_cases e3 : J = 0 <;> simp [e3]
   clear HR e1
   go_enter func28, ntmps28
   go_wp2_with (refine wpList_load_midH (by rfl) 67 _ rfl w.heap.size 0 rfl _ _ HS0.out underlying67 rfl sz_scp ?_)
   refine CW'.out.mono ?_
   rintro e w1 ⟨rfl, hb1⟩
   have HB1 : Hid (Bl w w1) := HB0.out.trans (hb1.mono HB0.out.size)
   clear CW' hb1 HS0
   go_wp2_with fail
   go_ret
   exact ⟨by rw [HE.out]; try rfl, HB1.out⟩
theorem grpGo_at (n : Nat) (l : List Int) (i : Nat) (h : i < l.length) : grpGo n (l.take i) (l.drop i) = if l[i] < 0 ∨ (n : Int) ≤ l[i] ∨ (l.take i).contains l[i] = true then false else grpGo n (l.take (i + 1)) (l.drop (i + 1)) := by
 rw [List.drop_eq_getElem_cons h, List.take_succ_eq_append_getElem h]
 rfl
theorem rgroup_any (K : Nat → Prop) (s : Scp) (p : Option Addr) (d : Nat) (b : Bnd) (pw pg pi pn pk : Option Addr) (cw cg ci cn ck : Nat) (w : World) (hl : ListIs rInt 1 8 K w (.slice pg b.g.length cg) b.g) (hK : ∀ b, K b → b < w.heap.size) (h16 : s.c.length ≤ 16) :
 Calls prog 29 #[.agg (scpC s p d), .agg (bndC b pw pg pi pn pk cw cg ci cn ck).toArray] w fun e w' => e = .returned (.bool (rGroupB s b)) ∧ Bl w w' := by
 have hbig : b.g.length ≤ 140737488355328 ∧ b.g.length ≤ cg := by
  obtain ⟨_, _, e, ⟨h1, h2⟩, -⟩ := hl
  cases e
  omega
 obtain ⟨tS, htS⟩ := bya s.t
 obtain ⟨jS, hjS⟩ := bya s.j
 obtain ⟨Nc, hNc⟩ := gen s.c.length
 obtain ⟨wd, hwd⟩ := gen s.w
 have hsc : scpC s p d = #[.string tS, .string jS, .int .i64 (wd : Int), .slice p Nc d] := by unfold scpC; rw [htS, hjS, hNc, hwd]
 obtain ⟨t0, ht0⟩ := bya b.t
 obtain ⟨t1, ht1⟩ := bya b.j
 obtain ⟨bd, hbd⟩ := gen b.d
 obtain ⟨ba, hba⟩ := gen b.a
 obtain ⟨bb, hbb⟩ := gen b.b
 obtain ⟨br, hbr⟩ := gen b.r
 obtain ⟨n1, hn1⟩ := gen b.w.length
 obtain ⟨n2, hn2⟩ := gen b.g.length
 obtain ⟨n3, hn3⟩ := gen b.i.length
 obtain ⟨n4, hn4⟩ := gen b.n.length
 obtain ⟨n5, hn5⟩ := gen b.k.length
 have hbc : (bndC b pw pg pi pn pk cw cg ci cn ck).toArray = #[.string t0, .string t1, .int .i64 bd, .int .i64 ba, .int .i64 bb, .slice pw n1 cw, .slice pg n2 cg, .slice pi n3 ci, .bool br, .slice pn n4 cn, .slice pk n5 ck] := by unfold bndC; rw [ht0, ht1, hbd, hba, hbb, hbr, hn1, hn2, hn3, hn4, hn5]
 obtain ⟨W0, hW0, hb0, hz0, g0, g1⟩ := two_boxes2 w #[.string tS, .string jS, .int .i64 (wd : Int), .slice p Nc d] #[.string t0, .string t1, .int .i64 bd, .int .i64 ba, .int .i64 bb, .slice pw n1 cw, .slice pg n2 cg, .slice pi n3 ci, .bool br, .slice pn n4 cn, .slice pk n5 ck] 67 32
 have HBX : Hid (∀ V, Bl W0 V → V.rangeAt w.heap.size 0 (#[.string tS, .string jS, .int .i64 (wd : Int), .slice p Nc d]).toList ∧ V.rangeAt (w.heap.size + 1) 0 (#[.string t0, .string t1, .int .i64 bd, .int .i64 ba, .int .i64 bb, .slice pw n1 cw, .slice pg n2 cg, .slice pi n3 ci, .bool br, .slice pn n4 cn, .slice pk n5 ck]).toList ∧ V.heap[w.heap.size]? = some (.cells #[.string tS, .string jS, .int .i64 (wd : Int), .slice p Nc d] 67 (0, 0)) ∧ V.heap[w.heap.size + 1]? = some (.cells #[.string t0, .string t1, .int .i64 bd, .int .i64 ba, .int .i64 bb, .slice pw n1 cw, .slice pg n2 cg, .slice pi n3 ci, .bool br, .slice pn n4 cn, .slice pk n5 ck] 32 (0, 0)) ∧ Bl w V) := fun V hV =>
  ⟨rgz ((hV.block _ (by omega)).trans g0), rgz ((hV.block _ (by omega)).trans g1), (hV.block _ (by omega)).trans g0, (hV.block _ (by omega)).trans g1, hb0.trans (hV.mono (by omega))⟩
 have HB0 := hid hb0
 obtain ⟨R, hR⟩ := gen (rGroupB s b)
 have HR : Hid (R = if 8 < n2 then false else grpGo Nc (b.g.take 0) (b.g.drop 0)) := by show _ = _; rw [← hR, ← hn2, ← hNc]; rfl
 have HL := hid hl
 have HK := hid hK
 have HN : Hid (b.g.length = n2) := hn2
 rw [hn2] at hbig
 rw [hsc, hbc, hR]
 obtain ⟨hr0, hr1, hg0, hg1, -⟩ := HBX.out W0 (Below.refl _ _)
 have c6 := cell_of_row (k := 6) (v := .slice pg n2 cg) hg1 rfl
 rw [hNc] at h16
 clear hl hK htS hjS hNc hwd hsc ht0 ht1 hbd hba hbb hbr hn1 hn2 hn3 hn4 hn5 hbc hb0 hz0 g0 g1 hR hr0 hr1 hg0 hg1
 by_cases h8 : 8 < n2
 · have y8 : (8 : Int) < (n2 : Int) := by omega
   have HE : Hid (R = false) := by show _ = _; rw [HR.out, if_pos h8]
   clear HR h8
   go_enter func29, ntmps29
   go_wp2_with fail
   go_ret
   exact ⟨by rw [HE.out]; try rfl, HB0.out⟩
 have y8 : ¬ (8 : Int) < (n2 : Int) := by omega
 have HR1 : Hid (R = grpGo Nc (b.g.take 0) (b.g.drop 0)) := by show _ = _; rw [HR.out, if_neg h8]
 have hcap : n2 ≤ cg := hbig.2
 clear HR h8
 go_enter func29, ntmps29
 go_wp2_with fail
 go_loopg [14] n2 (fun gf s14 wx => ∃ i : Nat, s14 = .int .i64 i ∧ i ≤ n2 ∧ n2 ≤ i + gf ∧ Hid (Bl W0 wx) ∧ Hid (R = grpGo Nc (b.g.take i) (b.g.drop i)))
 case atStart => exact ⟨0, rfl, by omega, by omega, Below.refl _ _, HR1⟩
 case round =>
  clear HR1 c6
  obtain ⟨i, rfl, hi1, hgf, HB, HR⟩ := hrel
  obtain ⟨-, -, hg0, hg1, hbw⟩ := HBX.out wr HB.out
  have HBW := hid hbw
  by_cases hi : i < n2
  · obtain ⟨g', rfl⟩ : ∃ g', gk = g' + 1 := ⟨gk - 1, by omega⟩
    have hil : i < b.g.length := by rw [HN.out]; exact hi
    have hli := HL.out.mono mInt (fun _ h => h) (kept_of HK.out hbw)
    obtain ⟨bq, o, hq, _, hc⟩ := int_at hli (by omega)
    have hcell := hc i hil
    have hat := grpGo_at Nc b.g i hil
    rw [← HR.out] at hat
    have hfr := front_any hli i (by omega) cg (by omega)
    have htl : (b.g.take i).length = i := by rw [List.length_take]; omega
    obtain ⟨v, hv⟩ := gen (b.g[i])
    rw [hv] at hcell hat
    have C1 : Hid (Calls prog 72 #[.slice pg i cg, .int .i64 v] wr fun e w' => e = .returned (.bool ((b.g.take i).contains v)) ∧ Bl wr w') := by
     have := contains_int K pg cg (b.g.take i) v wr hfr (fun b hb => nlt (HK.out b hb) hbw.size)
     rwa [htl] at this
    obtain ⟨F, hF⟩ := gen ((b.g.take i).contains v)
    rw [hF] at C1 hat
    have HAT : Hid (R = if v < 0 ∨ (Nc : Int) ≤ v ∨ F = true then false else grpGo Nc (b.g.take (i + 1)) (b.g.drop (i + 1))) := hat
    subst hq
    have c3 := cell_of_row (k := 3) (v := .slice p Nc d) hg0 rfl
    have c6 := cell_of_row (k := 6) (v := .slice (some ⟨bq, o, none⟩) n2 cg) hg1 rfl
    have z0 : (0 : Int) ≤ (i : Int) := by omega
    have z1 : (i : Int) < (n2 : Int) := by omega
    have z2 : (i : Int) ≤ (cg : Int) := by omega
    have z3 : ¬ cg = 0 := by omega
    clear hc hli hfr htl hil hv hF hat hg0 hg1 hbw HR
    by_cases v0 : v < 0
    · have HE : Hid (R = false) := by show _ = _; rw [HAT.out, if_pos (.inl v0)]
      clear HAT C1
      go_wp2_with fail
      go_ret
      exact ⟨by rw [HE.out]; try rfl, HBW.out⟩
    by_cases v1 : (Nc : Int) ≤ v
    · have HE : Hid (R = false) := by show _ = _; rw [HAT.out, if_pos (.inr (.inl v1))]
      clear HAT C1
      go_wp2_with fail
      go_ret
      exact ⟨by rw [HE.out]; try rfl, HBW.out⟩
    cases F with
    | true =>
     have HE : Hid (R = false) := by show _ = _; rw [HAT.out, if_pos (.inr (.inr rfl))]
     clear HAT
     go_wp2_with fail
     refine C1.out.mono ?_
     rintro e w1 ⟨rfl, hb1⟩
     have HB1 : Hid (Bl w w1) := HBW.out.trans (hb1.mono HBW.out.size)
     clear C1 hb1
     go_wp2_with fail
     go_ret
     exact ⟨by rw [HE.out]; try rfl, HB1.out⟩
    | false =>
     have HR2 : Hid (R = grpGo Nc (b.g.take (i + 1)) (b.g.drop (i + 1))) := by show _ = _; rw [HAT.out, if_neg (by rintro (h | h | h) <;> first | exact v0 h | exact v1 h | cases h)]
     clear HAT
     go_wp2_with fail
     refine C1.out.mono ?_
     rintro e w1 ⟨rfl, hb1⟩
     have HB1 : Hid (Bl W0 w1) := HB.out.trans (hb1.mono HB.out.size)
     clear C1 hb1
     go_wp2_with fail
     go_roundg g'
     case measure => omega
     case rel => exact ⟨i + 1, by go_num, by omega, by omega, HB1, HR2⟩
  · have z1 : ¬ (i : Int) < (n2 : Int) := by omega
    have HE : Hid (R = true) := by show _ = _; rw [HR.out, List.drop_of_length_le (by rw [HN.out]; omega)]; rfl
    clear HR hg0 hg1 hbw
    go_wp2_with fail
    go_ret
    exact ⟨by rw [HE.out]; try rfl, HBW.out⟩

theorem enters74 : ∀ args w, (callFunc 74 args).run prog w = .ok (.enter 74 args) w := enters_of func74 (by kernel_rfl) rfl
theorem index_bad (P : Itm → Bool) (bs bt : Nat) (K : Nat → Prop) (q : Option Addr) (c : Nat) (l : List Itm) (w : World) (h : ListIs rItmW 2 32 K w (.slice q l.length c) l) (hK : ∀ b, K b → b < w.heap.size) (hcl : ∀ V, Bl w V → ∀ x ∈ l, ∀ p' c', ListIs rStpW 3 32 K V (.slice p' x.e.length c') x.e → Calls prog 74 #[.agg #[.int .u8 (x.g : Int), .slice p' x.e.length c'], .pointer (some ⟨bs, 0, none⟩), .pointer (some ⟨bt, 0, none⟩)] V fun e w' => e = .returned (.bool (P x)) ∧ Bl V w') :
    Calls prog 115 #[.slice q l.length c, .func (.func 74) #[] #[.pointer (some ⟨bs, 0, none⟩), .pointer (some ⟨bt, 0, none⟩)]] w fun e w' => IdxB (l.any P) e ∧ Bl w w' := by
  have hbig : l.length ≤ 140737488355328 := by
    obtain ⟨q', c', -, ⟨hb, -⟩, -⟩ := h
    omega
  have eg := enters74
  have HL := hid h
  have HK := hid hK
  have HCL := hid hcl
  obtain ⟨N, hN⟩ := gen l.length
  have HN := hid hN
  have HP1 : Hid (l.any P = false → IdxB (l.any P) (.returned (.int .i64 (-1)))) := fun h => ⟨-1, rfl, .inr ⟨rfl, h⟩⟩
  have HP2 : Hid (∀ i : Nat, l.any P = true → IdxB (l.any P) (.returned (.int .i64 (i : Int)))) := fun i h => ⟨_, rfl, .inl ⟨by omega, h⟩⟩
  obtain ⟨F, hF⟩ := gen (l.any P)
  have HF := hid hF
  rw [hF] at HP1 HP2
  rw [hN] at hbig
  rw [hN, hF]
  clear h hK hcl hN hF
  go_enter func115, ntmps115
  go_wp2_with fail
  go_loopg [8] N (fun gf s8 wx => ∃ (i : Nat), s8 = .int .i64 i ∧ i ≤ N ∧ N ≤ i + gf ∧ Hid (Bl w wx) ∧ Hid ((l.take i).any P = false))
  case atStart => exact ⟨0, rfl, by omega, by omega, Below.refl _ _, rfl⟩
  case round =>
    obtain ⟨i, rfl, hi1, hgf, HB, HA⟩ := hrel
    by_cases hi : i < N
    · obtain ⟨g', rfl⟩ : ∃ g', gk = g' + 1 := ⟨gk - 1, by omega⟩
      have hil : i < l.length := by rw [HN.out]; exact hi
      obtain ⟨b2, o, hq, _, hc⟩ := itm_w (HL.out.mono mItmW (fun _ h => h) (kept_of HK.out HB.out)) (by omega)
      subst hq
      obtain ⟨p', c', hrg, hli, -⟩ := hc i hil
      have htk : l.take (i + 1) = l.take i ++ [l[i]] := List.take_succ_eq_append_getElem hil
      have CC := hid (HCL.out wr HB.out l[i] (List.getElem_mem hil) p' c' hli)
      have hmem : l[i] ∈ l := List.getElem_mem hil
      obtain ⟨y, hy⟩ := gen (l[i])
      rw [hy] at hrg htk CC hmem
      obtain ⟨M, hM⟩ := gen y.e.length
      obtain ⟨gi, hgi⟩ : ∃ g : Int, (y.g : Int) = g := ⟨_, rfl⟩
      rw [hM, hgi] at hrg CC
      have HRG := hid hrg
      have HTK : Hid (l.take (i + 1) = l.take i ++ [y]) := htk
      have HM : Hid (y ∈ l) := hmem
      have z0 : (0 : Int) ≤ (i : Int) := by omega
      have z1 : (i : Int) < (N : Int) := by omega
      clear hc htk hmem hy hil hrg hM hgi hli
      go_wp2_with (refine wpList_load_mid rfl 42 _ rfl b2 (o + i * 2) rfl _ _ HRG.out underlying42 rfl sz_item ?_)
      refine CC.out.mono ?_
      rintro e w3 ⟨rfl, hb3⟩
      have HB3 : Hid (Bl w w3) := HB.out.trans (hb3.mono HB.out.size)
      clear CC hb3 HRG
      cases hpy : P y with
      | true =>
        have hT : l.any P = true := List.any_eq_true.2 ⟨y, HM.out, hpy⟩
        have hFt : F = true := by rw [← HF.out]; exact hT
        have HQ := hid (HP2.out i hFt)
        clear hpy HA hT hFt HP1 HP2
        go_wp2_with fail
        go_ret
        exact ⟨HQ.out, HB3.out⟩
      | false =>
        have HA2 : Hid ((l.take (i + 1)).any P = false) := by
          show _ = _
          rw [HTK.out, List.any_append, HA.out]
          simp [hpy]
        clear hpy HA
        go_wp2_with fail
        go_roundg g'
        case measure => omega
        case rel => exact ⟨i + 1, by go_num, by omega, by omega, HB3, HA2⟩
    · have z1 : ¬ (i : Int) < (N : Int) := by omega
      have hFf : F = false := by
        rw [← HF.out]
        have := HA.out
        rwa [List.take_of_length_le (by rw [HN.out]; omega)] at this
      have HQ := hid (HP1.out hFf)
      clear HA HP1 HP2 hFf
      go_wp2_with fail
      go_ret
      exact ⟨HQ.out, HB.out⟩
theorem contains_bad (P : Itm → Bool) (bs bt : Nat) (K : Nat → Prop) (q : Option Addr) (c : Nat) (l : List Itm) (w : World) (h : ListIs rItmW 2 32 K w (.slice q l.length c) l) (hK : ∀ b, K b → b < w.heap.size) (hcl : ∀ V, Bl w V → ∀ x ∈ l, ∀ p' c', ListIs rStpW 3 32 K V (.slice p' x.e.length c') x.e → Calls prog 74 #[.agg #[.int .u8 (x.g : Int), .slice p' x.e.length c'], .pointer (some ⟨bs, 0, none⟩), .pointer (some ⟨bt, 0, none⟩)] V fun e w' => e = .returned (.bool (P x)) ∧ Bl V w') :
    Calls prog 73 #[.slice q l.length c, .func (.func 74) #[] #[.pointer (some ⟨bs, 0, none⟩), .pointer (some ⟨bt, 0, none⟩)]] w fun e w' => e = .returned (.bool (l.any P)) ∧ Bl w w' := by
  have CC := hid (index_bad P bs bt K q c l w h hK hcl)
  obtain ⟨N, hN⟩ := gen l.length
  obtain ⟨F, hF⟩ := gen (l.any P)
  rw [hN, hF] at CC
  rw [hN, hF]
  clear h hK hcl hN hF
  go_enter func73, ntmps73
  go_wp2_with fail
  refine CC.out.mono ?_
  rintro e w1 ⟨⟨k, rfl, hk⟩, hb⟩
  have HB := hid hb
  rcases hk with ⟨z, hk⟩ | ⟨rfl, hk⟩
  · subst hk
    clear hb CC
    go_wp2_with fail
    go_ret
    exact ⟨by simp [z], HB.out⟩
  · subst hk
    clear hb CC
    go_wp2_with fail
    go_ret
    exact ⟨rfl, HB.out⟩
theorem bad1_any (K Kc Kg : Nat → Prop) (s : Scp) (p : Option Addr) (d : Nat) (x : Itm) (pe : Option Addr) (ce bs bt : Nat) (b : Bnd) (pw pg pi pn pk : Option Addr) (cw cg ci cn ck : Nat) (w : World) (h : ListIs rClm 2 24 Kc w (.slice p s.c.length d) s.c) (hKc : ∀ b, Kc b → b < w.heap.size) (hl : ListIs rStpW 3 32 K w (.slice pe x.e.length ce) x.e) (hK : ∀ b, K b → b < w.heap.size) (hg : ListIs rInt 1 8 Kg w (.slice pg b.g.length cg) b.g) (hKg : ∀ b, Kg b → b < w.heap.size) (hG : GW w) (hbs : w.rangeAt bs 0 (scpC s p d).toList) (hbt : w.rangeAt bt 0 (bndC b pw pg pi pn pk cw cg ci cn ck)) (hbsl : bs < w.heap.size) (hbtl : bt < w.heap.size) :
    Calls prog 74 #[.agg #[.int .u8 (x.g : Int), .slice pe x.e.length ce], .pointer (some ⟨bs, 0, none⟩), .pointer (some ⟨bt, 0, none⟩)] w fun e w' => e = .returned (.bool (decide (itemE s x b.r b.g ≠ 0))) ∧ Bl w w' := by
  obtain ⟨tS, htS⟩ := bya s.t
  obtain ⟨jS, hjS⟩ := bya s.j
  obtain ⟨Nc, hNc⟩ := gen s.c.length
  obtain ⟨wd, hwd⟩ := gen s.w
  have hsc : scpC s p d = #[.string tS, .string jS, .int .i64 (wd : Int), .slice p Nc d] := by unfold scpC; rw [htS, hjS, hNc, hwd]
  obtain ⟨t0, ht0⟩ := bya b.t
  obtain ⟨t1, ht1⟩ := bya b.j
  obtain ⟨bd, hbd⟩ := gen b.d
  obtain ⟨ba, hba⟩ := gen b.a
  obtain ⟨bb, hbb⟩ := gen b.b
  obtain ⟨br, hbr⟩ := gen b.r
  obtain ⟨n1, hn1⟩ := gen b.w.length
  obtain ⟨n2, hn2⟩ := gen b.g.length
  obtain ⟨n3, hn3⟩ := gen b.i.length
  obtain ⟨n4, hn4⟩ := gen b.n.length
  obtain ⟨n5, hn5⟩ := gen b.k.length
  have hbc : (bndC b pw pg pi pn pk cw cg ci cn ck).toArray = #[.string t0, .string t1, .int .i64 bd, .int .i64 ba, .int .i64 bb, .slice pw n1 cw, .slice pg n2 cg, .slice pi n3 ci, .bool br, .slice pn n4 cn, .slice pk n5 ck] := by unfold bndC; rw [ht0, ht1, hbd, hba, hbb, hbr, hn1, hn2, hn3, hn4, hn5]
  obtain ⟨N, hN⟩ := gen x.e.length
  obtain ⟨g, hgg⟩ := gen x.g
  obtain ⟨W0, hW0⟩ := gen (w.alloc (.cells #[.int .u8 (g : Int), .slice pe N ce] 42))
  have hb0 : Bl w W0 := by rw [← hW0]; exact below_alloc _ _
  have hg0 : W0.heap[w.heap.size]? = some (.cells #[.int .u8 (g : Int), .slice pe N ce] 42 (0, 0)) := by rw [← hW0]; exact heap_alloc_new w _
  have hbcl : bndC b pw pg pi pn pk cw cg ci cn ck = (#[.string t0, .string t1, .int .i64 bd, .int .i64 ba, .int .i64 bb, .slice pw n1 cw, .slice pg n2 cg, .slice pi n3 ci, .bool br, .slice pn n4 cn, .slice pk n5 ck]).toList := by rw [← hbc]
  rw [hsc] at hbs
  rw [hbcl] at hbt
  have HRS : Hid (W0.rangeAt bs 0 (#[.string tS, .string jS, .int .i64 (wd : Int), .slice p Nc d]).toList) := fun j u hu => (hb0.cell (p := ⟨bs, _, none⟩) hbsl).trans (hbs j u hu)
  have HRB : Hid (W0.rangeAt bt 0 (#[.string t0, .string t1, .int .i64 bd, .int .i64 ba, .int .i64 bb, .slice pw n1 cw, .slice pg n2 cg, .slice pi n3 ci, .bool br, .slice pn n4 cn, .slice pk n5 ck]).toList) := fun j u hu => (hb0.cell (p := ⟨bt, _, none⟩) hbtl).trans (hbt j u hu)
  have HRI : Hid (W0.rangeAt w.heap.size 0 [.int .u8 (g : Int), .slice pe N ce]) := rgz hg0
  have C1 : Hid (Calls prog 75 #[.agg #[.string tS, .string jS, .int .i64 (wd : Int), .slice p Nc d], .agg #[.int .u8 (g : Int), .slice pe N ce], .agg #[.string t0, .string t1, .int .i64 bd, .int .i64 ba, .int .i64 bb, .slice pw n1 cw, .slice pg n2 cg, .slice pi n3 ci, .bool br, .slice pn n4 cn, .slice pk n5 ck]] W0 fun e w' => e = .returned (.int .i64 (itemE s x br b.g)) ∧ Bl W0 w') := by
    have := item_any K Kc Kg s p d x pe pg ce cg b.r b.g (.string t0) (.string t1) (.int .i64 bd) (.int .i64 ba) (.int .i64 bb) (.slice pw n1 cw) (.slice pi n3 ci) (.slice pn n4 cn) (.slice pk n5 ck) W0 (h.later mClm hKc hb0) (fun b hb => nlt (hKc b hb) hb0.size) (hl.later mStpW hK hb0) (fun b hb => nlt (hK b hb) hb0.size) (hg.later mInt hKg hb0) (fun b hb => nlt (hKg b hb) hb0.size) (hG.below hb0)
    rwa [hsc, hN, hgg, hn2, hbr] at this
  obtain ⟨v, hv'⟩ := gen (itemE s x br b.g)
  rw [hv'] at C1
  obtain ⟨F, hF⟩ := gen ((v != 0))
  have HE : Hid (decide (itemE s x b.r b.g ≠ 0) = F) := by
    show _ = _
    rw [hbr, hv', ← hF]
    by_cases e : v = 0 <;> simp [e]
  rw [HE.out, hN, hgg]
  have HB := hid hb0
  clear h hKc hl hK hg hKg hG hbs hbt hbsl hbtl htS hjS hNc hwd hsc ht0 ht1 hbd hba hbb hbr hn1 hn2 hn3 hn4 hn5 hbc hbcl hN hgg hb0 hg0 hv' HE
  go_enter func74, ntmps74
  go_wp2_with (first | (refine wpList_load_mid rfl 67 _ rfl bs 0 rfl _ _ HRS.out underlying67 rfl sz_scp ?_) | (refine wpList_load_mid rfl 42 _ rfl w.heap.size 0 rfl _ _ HRI.out underlying42 rfl sz_item ?_) | (refine wpList_load_mid rfl 32 _ rfl bt 0 rfl _ _ HRB.out underlying32 rfl sz_bnd ?_))
  refine C1.out.mono ?_
  rintro e w1 ⟨rfl, hb1⟩
  have HB1 : Hid (Bl w w1) := HB.out.trans (hb1.mono HB.out.size)
  clear C1 hb1 HRS HRB HRI
  go_wp2_with fail
  go_ret
  exact ⟨rfl, HB1.out⟩
theorem ritems_any (K Kc : Nat → Prop) (s : Scp) (p : Option Addr) (d : Nat) (b : Bnd) (pw pg pi pn pk : Option Addr) (cw cg ci cn ck : Nat) (w : World) (h : ListIs rClm 2 24 Kc w (.slice p s.c.length d) s.c) (hKc : ∀ b, Kc b → b < w.heap.size) (hl : ListIs rItmW 2 32 K w (.slice pi b.i.length ci) b.i) (hg : ListIs rInt 1 8 K w (.slice pg b.g.length cg) b.g) (hK : ∀ b, K b → b < w.heap.size) (hG : GW w) :
    Calls prog 30 #[.agg (scpC s p d), .agg (bndC b pw pg pi pn pk cw cg ci cn ck).toArray] w fun e w' => e = .returned (.bool (rItemsB s b)) ∧ Bl w w' := by
  have hmf : ∀ (fn : Fn) (first cap : Array Value) (w : World), (Instr.makeFunc fn first cap).run prog w = .ok (.func fn first cap) w := fun _ _ _ _ => rfl
  obtain ⟨tS, htS⟩ := bya s.t
  obtain ⟨jS, hjS⟩ := bya s.j
  obtain ⟨Nc, hNc⟩ := gen s.c.length
  obtain ⟨wd, hwd⟩ := gen s.w
  have hsc : scpC s p d = #[.string tS, .string jS, .int .i64 (wd : Int), .slice p Nc d] := by unfold scpC; rw [htS, hjS, hNc, hwd]
  obtain ⟨t0, ht0⟩ := bya b.t
  obtain ⟨t1, ht1⟩ := bya b.j
  obtain ⟨bd, hbd⟩ := gen b.d
  obtain ⟨ba, hba⟩ := gen b.a
  obtain ⟨bb, hbb⟩ := gen b.b
  obtain ⟨br, hbr⟩ := gen b.r
  obtain ⟨n1, hn1⟩ := gen b.w.length
  obtain ⟨n2, hn2⟩ := gen b.g.length
  obtain ⟨n3, hn3⟩ := gen b.i.length
  obtain ⟨n4, hn4⟩ := gen b.n.length
  obtain ⟨n5, hn5⟩ := gen b.k.length
  have hbc : (bndC b pw pg pi pn pk cw cg ci cn ck).toArray = #[.string t0, .string t1, .int .i64 bd, .int .i64 ba, .int .i64 bb, .slice pw n1 cw, .slice pg n2 cg, .slice pi n3 ci, .bool br, .slice pn n4 cn, .slice pk n5 ck] := by unfold bndC; rw [ht0, ht1, hbd, hba, hbb, hbr, hn1, hn2, hn3, hn4, hn5]
  obtain ⟨W0, hW0, hb0, hz0, g0, g1⟩ := two_boxes2 w #[.string tS, .string jS, .int .i64 (wd : Int), .slice p Nc d] #[.string t0, .string t1, .int .i64 bd, .int .i64 ba, .int .i64 bb, .slice pw n1 cw, .slice pg n2 cg, .slice pi n3 ci, .bool br, .slice pn n4 cn, .slice pk n5 ck] 67 32
  have HBX : Hid (∀ V, Bl W0 V → V.rangeAt w.heap.size 0 (#[.string tS, .string jS, .int .i64 (wd : Int), .slice p Nc d]).toList ∧ V.rangeAt (w.heap.size + 1) 0 (#[.string t0, .string t1, .int .i64 bd, .int .i64 ba, .int .i64 bb, .slice pw n1 cw, .slice pg n2 cg, .slice pi n3 ci, .bool br, .slice pn n4 cn, .slice pk n5 ck]).toList ∧ V.heap[w.heap.size]? = some (.cells #[.string tS, .string jS, .int .i64 (wd : Int), .slice p Nc d] 67 (0, 0)) ∧ V.heap[w.heap.size + 1]? = some (.cells #[.string t0, .string t1, .int .i64 bd, .int .i64 ba, .int .i64 bb, .slice pw n1 cw, .slice pg n2 cg, .slice pi n3 ci, .bool br, .slice pn n4 cn, .slice pk n5 ck] 32 (0, 0)) ∧ Bl w V) := fun V hV =>
    ⟨rgz ((hV.block _ (by omega)).trans g0), rgz ((hV.block _ (by omega)).trans g1), (hV.block _ (by omega)).trans g0, (hV.block _ (by omega)).trans g1, hb0.trans (hV.mono (by omega))⟩
  have HB0 := hid hb0
  have hbcl : bndC b pw pg pi pn pk cw cg ci cn ck = (#[.string t0, .string t1, .int .i64 bd, .int .i64 ba, .int .i64 bb, .slice pw n1 cw, .slice pg n2 cg, .slice pi n3 ci, .bool br, .slice pn n4 cn, .slice pk n5 ck]).toList := by rw [← hbc]
  have CGR : Hid (∀ V, Bl w V → Calls prog 66 #[.int .i64 (n2 : Int), .slice pi n3 ci] V fun e w' => e = .returned (.bool (isGroupedP b.g.length b.i)) ∧ Bl V w') := fun V hV => by
    have := grouped_any K b.g.length pi ci b.i V (hl.later mItmW hK hV) (fun b hb => nlt (hK b hb) hV.size)
    rwa [hn3, show ((b.g.length : Nat) : Int) = (n2 : Int) from by rw [hn2]] at this
  have CC : Hid (∀ V, Bl W0 V → Calls prog 73 #[.slice pi n3 ci, .func (.func 74) #[] #[.pointer (some ⟨w.heap.size, 0, none⟩), .pointer (some ⟨w.heap.size + 1, 0, none⟩)]] V fun e w' => e = .returned (.bool (b.i.any fun x => decide (itemE s x b.r b.g ≠ 0))) ∧ Bl V w') := fun V hV => by
    have hVw := (HBX.out V hV).2.2.2.2
    have := contains_bad (fun x => decide (itemE s x b.r b.g ≠ 0)) w.heap.size (w.heap.size + 1) K pi ci b.i V (hl.later mItmW hK hVw) (fun b hb => nlt (hK b hb) hVw.size) (fun X hX x hx p' c' hli => by
      have hX0 : Bl W0 X := hV.trans (hX.mono hV.size)
      obtain ⟨k1, k2, k3, k4, k5⟩ := HBX.out X hX0
      exact bad1_any K Kc K s p d x p' c' w.heap.size (w.heap.size + 1) b pw pg pi pn pk cw cg ci cn ck X (h.later mClm hKc k5) (fun b hb => nlt (hKc b hb) k5.size) hli (fun b hb => nlt (hK b hb) k5.size) (hg.later mInt hK k5) (fun b hb => nlt (hK b hb) k5.size) (hG.below k5) (by rw [hsc]; exact k1) (by rw [hbcl]; exact k2) (gsi k3).1 (gsi k4).1)
    rwa [hn3] at this
  obtain ⟨J, hJ⟩ := gen (isGroupedP b.g.length b.i)
  obtain ⟨A, hA⟩ := gen ((b.i.any fun x => decide (itemE s x b.r b.g ≠ 0)))
  have hAll : (b.i.all fun x => decide (itemE s x b.r b.g = 0)) = !A := by
    rw [← hA, ← Bool.not_not (b.i.all _), List.not_all_eq_any_not]
    congr 2
    funext x
    by_cases e : itemE s x b.r b.g = 0 <;> simp [e]
  obtain ⟨R, hR⟩ := gen (rItemsB s b)
  have HR : Hid (R = if n3 = 0 ∨ 8 < n3 ∨ br ≠ J then false else !A) := by show _ = _; rw [← hR]; unfold rItemsB; rw [hn3, hJ, hAll, hbr]
  rw [hJ] at CGR
  rw [hA] at CC
  rw [hsc, hbc, hR]
  obtain ⟨-, -, -, hg1, -⟩ := HBX.out W0 (Below.refl _ _)
  have HG1 : Hid (∀ V, Bl W0 V → V.cell? ⟨w.heap.size + 1, 7, none⟩ = some (.slice pi n3 ci) ∧ V.cell? ⟨w.heap.size + 1, 6, none⟩ = some (.slice pg n2 cg) ∧ V.cell? ⟨w.heap.size + 1, 8, none⟩ = some (.bool br)) := fun V hV => by
    have hg := (HBX.out V hV).2.2.2.1
    exact ⟨cell_of_row (k := 7) hg rfl, cell_of_row (k := 6) hg rfl, cell_of_row (k := 8) hg rfl⟩
  have HBW : Hid (∀ V, Bl W0 V → Bl w V) := fun V hV => (HBX.out V hV).2.2.2.2
  clear h hKc hl hg hK hG htS hjS hNc hwd hsc ht0 ht1 hbd hba hbb hbr hn1 hn2 hn3 hn4 hn5 hbc hb0 hz0 g0 g1 hbcl hJ hA hAll hR hg1 HBX
  by_cases e0 : n3 = 0
  · have y0 : ((n3 : Int) == 0) = true := by simp [e0]
    have HE : Hid (R = false) := by show _ = _; rw [HR.out, if_pos (.inl e0)]
    have c7 := (HG1.out W0 (Below.refl _ _)).1
    clear HR e0 CGR CC HG1 HBW
    go_enter func30, ntmps30
    go_wp2_with fail
    go_quiet (fail)
    go_wp2_with fail
    go_ret
    exact ⟨by rw [HE.out]; try rfl, below_drewN HB0.out _⟩
  have y0 : ((n3 : Int) == 0) = false := bfn (by omega)
  by_cases e8 : 8 < n3
  · have y8 : (8 : Int) < (n3 : Int) := by omega
    have y8d : decide ((8 : Int) < (n3 : Int)) = true := decide_eq_true y8
    have HE : Hid (R = false) := by show _ = _; rw [HR.out, if_pos (.inr (.inl e8))]
    have c7 := (HG1.out W0 (Below.refl _ _)).1
    clear HR e0 CGR CC HG1 HBW
    go_enter func30, ntmps30
    go_wp2_with fail
    go_quiet (fail)
    go_wp2_with fail
    go_ret
    exact ⟨by rw [HE.out]; try rfl, below_drewN HB0.out _⟩
  have y8 : ¬ (8 : Int) < (n3 : Int) := by omega
  have y8d : decide ((8 : Int) < (n3 : Int)) = false := decide_eq_false y8
  have y8n : decide (8 < n3) = false := decide_eq_false e8
  have HR1 : Hid (R = if br ≠ J then false else !A) := by
    show _ = _
    rw [HR.out]
    by_cases e : br = J
    · rw [if_neg (by rintro (h | h | h) <;> first | exact e0 h | exact e8 h | exact h e), if_neg (fun h => h e)]
    · rw [if_pos (.inr (.inr e)), if_pos e]
  have c7 : ∀ p : LaterS W0.heap.size W0, p.w.cell? ⟨w.heap.size + 1, 7, none⟩ = some (.slice pi n3 ci) := fun p => (HG1.out p.w p.h).1
  have c6 : ∀ p : LaterS W0.heap.size W0, p.w.cell? ⟨w.heap.size + 1, 6, none⟩ = some (.slice pg n2 cg) := fun p => (HG1.out p.w p.h).2.1
  have c8 : ∀ p : LaterS W0.heap.size W0, p.w.cell? ⟨w.heap.size + 1, 8, none⟩ = some (.bool br) := fun p => (HG1.out p.w p.h).2.2
  have cG : Hid (∀ p : LaterS W0.heap.size W0, Calls prog 66 #[.int .i64 (n2 : Int), .slice pi n3 ci] p.w fun e w' => e = .returned (.bool J) ∧ Bl p.w w') := fun p => CGR.out p.w (HBW.out p.w p.h)
  have hBJ : (br != J) = true ∨ (br != J) = false := by cases (br != J) <;> simp
  clear HR e0 e8 CGR
  go_enter func30, ntmps30
  go_wp2_with fail
  have inhL := laterInh
  refine wp_region_laterS mixedOnS (by kernel_rfl) ?_
  repeat (go_big_quiet_step ((go_at_call 66; exact calls_laterS (cG.out _))))
  refine wpQuiet_nil ?_
  intro wq hw'
  obtain ⟨pq, hpq⟩ := hw'
  have hwq := pq.h
  rw [← hpq] at hwq
  clear hpq
  have HBQ : Hid (Bl w wq) := HBW.out wq hwq
  have CC' := hid (CC.out wq hwq)
  have k7 := (HG1.out wq hwq).1
  clear c7 c6 c8 cG HG1 CC HBW
  cases br <;> cases J
  all_goals first
    | (have HE : Hid (R = !A) := by show _ = _; rw [HR1.out, if_neg (by decide)]
       clear HR1 hBJ
       go_wp2_with fail
       refine CC'.out.mono ?_
       rintro e w3 ⟨rfl, hb3⟩
       have HB3 : Hid (Bl w w3) := HBQ.out.trans (hb3.mono HBQ.out.size)
       clear CC' hb3
       go_wp2_with fail
       go_ret
       exact ⟨by rw [HE.out]; try rfl, HB3.out⟩)
    | (have HE : Hid (R = false) := by show _ = _; rw [HR1.out, if_pos (by decide)]
       clear HR1 hBJ CC'
       go_wp2_with fail
       go_ret
       exact ⟨by rw [HE.out]; try rfl, HBQ.out⟩)
theorem equal_76 (K L : Nat → Prop) (p q : Option Addr) (c d : Nat) (xs ys : List (List UInt8)) (w : World) (h : ListIs rStrW 1 16 K w (.slice p xs.length c) xs) (hK : ∀ b, K b → b < w.heap.size) (h' : ListIs rStrW 1 16 L w (.slice q ys.length d) ys) (hL : ∀ b, L b → b < w.heap.size) :
 Calls prog 76 #[.slice p xs.length c, .slice q ys.length d] w fun e w' => e = .returned (.bool (decide (xs = ys))) ∧ Bl w w' := by
 have hbig : xs.length ≤ 140737488355328 ∧ ys.length ≤ 140737488355328 := by
  obtain ⟨_, _, -, ⟨h1, -⟩, -⟩ := h
  obtain ⟨_, _, -, ⟨h2, -⟩, -⟩ := h'
  omega
 have HX := hid h
 have HK := hid hK
 have HY := hid h'
 have HL := hid hL
 obtain ⟨N, hN⟩ := gen xs.length
 obtain ⟨M, hM⟩ := gen ys.length
 have HN : Hid (xs.length = N ∧ ys.length = M) := ⟨hN, hM⟩
 obtain ⟨R, hR⟩ := gen (decide (xs = ys))
 have HR := hid hR
 rw [hN, hM] at hbig
 rw [hN, hM, hR]
 clear h hK h' hL hN hM hR
 by_cases hNM : N = M
 case neg =>
  have yn : ((N : Int) != (M : Int)) = true := bne_iff_ne.2 (by omega)
  have HE : Hid (R = false) := by show _ = _; rw [← HR.out]; exact decide_eq_false (fun h => hNM (by rw [← HN.out.1, ← HN.out.2, h]))
  clear hNM
  go_enter func76, ntmps76
  go_wp2_with fail
  go_ret
  exact ⟨by rw [HE.out]; try rfl, Below.refl _ _⟩
 subst hNM
 have yn : ((N : Int) != (N : Int)) = false := by simp
 go_enter func76, ntmps76
 go_wp2_with fail
 go_loopg [13] N (fun gf s13 wx => ∃ i : Nat, s13 = .int .i64 i ∧ i ≤ N ∧ N ≤ i + gf ∧ Hid (Bl w wx) ∧ Hid (xs.take i = ys.take i))
 case atStart => exact ⟨0, rfl, by omega, by omega, Below.refl _ _, by show _ = _; rw [List.take_zero, List.take_zero]⟩
 case round =>
  obtain ⟨i, rfl, hi1, hgf, HB, HA⟩ := hrel
  by_cases hi : i < N
  · obtain ⟨g', rfl⟩ : ∃ g', gk = g' + 1 := ⟨gk - 1, by omega⟩
    have hil : i < xs.length := by rw [HN.out.1]; exact hi
    have hjl : i < ys.length := by rw [HN.out.2]; exact hi
    obtain ⟨b, o, hq, _, hc⟩ := strW_at (HX.out.mono mStrW (fun _ h => h) (kept_of HK.out HB.out)) (by omega)
    obtain ⟨b', o', hq', _, hc'⟩ := strW_at (HY.out.mono mStrW (fun _ h => h) (kept_of HL.out HB.out)) (by omega)
    subst hq
    subst hq'
    have c0 := (hc i hil).1
    have c1 := (hc' i hjl).1
    have hx1 : xs.take (i + 1) = xs.take i ++ [xs[i]] := List.take_succ_eq_append_getElem hil
    have hy1 : ys.take (i + 1) = ys.take i ++ [ys[i]] := List.take_succ_eq_append_getElem hjl
    have hne : xs[i] ≠ ys[i] → xs ≠ ys := fun hne e => hne (by subst e; rfl)
    obtain ⟨x, hx⟩ := gen (xs[i])
    obtain ⟨y, hy⟩ := gen (ys[i])
    rw [hx] at c0 hx1 hne
    rw [hy] at c1 hy1 hne
    obtain ⟨A, hA⟩ := bya x
    obtain ⟨B, hB⟩ := bya y
    have hAB : (A.toList == B.toList) = (x == y) := eq_text (by rw [← hA]) (by rw [← hB])
    rw [hA] at c0
    rw [hB] at c1
    have HEQ : Hid ((x = y → (A.toList == B.toList) = true) ∧ (x ≠ y → (A.toList == B.toList) = false)) := ⟨fun e => by rw [hAB]; simp [e], fun e => by rw [hAB]; exact bfn e⟩
    clear hA hB hAB
    have z0 : (0 : Int) ≤ (i : Int) := by omega
    have z1 : (i : Int) < (N : Int) := by omega
    by_cases he : x = y
    · have HA2 : Hid (xs.take (i + 1) = ys.take (i + 1)) := by show _ = _; rw [hx1, hy1, HA.out, he]
      have hf := HEQ.out.1 he
      have hbw := HB.out
      clear hc hc' hx1 hy1 hne hx hy he HA HEQ hil hjl HB
      go_wp2_with fail
      go_quiet (fail)
      go_wp2_with fail
      go_roundg g'
      case measure => omega
      case rel => exact ⟨i + 1, by go_num, by omega, by omega, below_drewN hbw _, HA2⟩
    · have HE : Hid (R = false) := by show _ = _; rw [← HR.out]; exact decide_eq_false (hne he)
      have hf := HEQ.out.2 he
      have hbw := HB.out
      clear hc hc' hx1 hy1 hne hx hy he HA HEQ hil hjl HB
      go_wp2_with fail
      go_quiet (fail)
      go_wp2_with fail
      go_ret
      exact ⟨by rw [HE.out]; try rfl, below_drewN hbw _⟩
  · have z1 : ¬ (i : Int) < (N : Int) := by omega
    have HE : Hid (R = true) := by
     show _ = _
     rw [← HR.out]
     have h := HA.out
     rw [List.take_of_length_le (by rw [HN.out.1]; omega), List.take_of_length_le (by rw [HN.out.2]; omega)] at h
     exact decide_eq_true h
    have HBW := hid HB.out
    clear HA HB
    go_wp2_with fail
    go_ret
    exact ⟨by rw [HE.out]; try rfl, HBW.out⟩
theorem equal_77 (K L : Nat → Prop) (p q : Option Addr) (c d : Nat) (xs ys : List (Nat)) (w : World) (h : ListIs rKnd 1 1 K w (.slice p xs.length c) xs) (hK : ∀ b, K b → b < w.heap.size) (h' : ListIs rKnd 1 1 L w (.slice q ys.length d) ys) (hL : ∀ b, L b → b < w.heap.size) :
 Calls prog 77 #[.slice p xs.length c, .slice q ys.length d] w fun e w' => e = .returned (.bool (decide (xs = ys))) ∧ Bl w w' := by
 have hbig : xs.length ≤ 140737488355328 ∧ ys.length ≤ 140737488355328 := by
  obtain ⟨_, _, -, ⟨h1, -⟩, -⟩ := h
  obtain ⟨_, _, -, ⟨h2, -⟩, -⟩ := h'
  omega
 have HX := hid h
 have HK := hid hK
 have HY := hid h'
 have HL := hid hL
 obtain ⟨N, hN⟩ := gen xs.length
 obtain ⟨M, hM⟩ := gen ys.length
 have HN : Hid (xs.length = N ∧ ys.length = M) := ⟨hN, hM⟩
 obtain ⟨R, hR⟩ := gen (decide (xs = ys))
 have HR := hid hR
 rw [hN, hM] at hbig
 rw [hN, hM, hR]
 clear h hK h' hL hN hM hR
 by_cases hNM : N = M
 case neg =>
  have yn : ((N : Int) != (M : Int)) = true := bne_iff_ne.2 (by omega)
  have HE : Hid (R = false) := by show _ = _; rw [← HR.out]; exact decide_eq_false (fun h => hNM (by rw [← HN.out.1, ← HN.out.2, h]))
  clear hNM
  go_enter func77, ntmps77
  go_wp2_with fail
  go_ret
  exact ⟨by rw [HE.out]; try rfl, Below.refl _ _⟩
 subst hNM
 have yn : ((N : Int) != (N : Int)) = false := by simp
 go_enter func77, ntmps77
 go_wp2_with fail
 go_loopg [13] N (fun gf s13 wx => ∃ i : Nat, s13 = .int .i64 i ∧ i ≤ N ∧ N ≤ i + gf ∧ Hid (Bl w wx) ∧ Hid (xs.take i = ys.take i))
 case atStart => exact ⟨0, rfl, by omega, by omega, Below.refl _ _, by show _ = _; rw [List.take_zero, List.take_zero]⟩
 case round =>
  obtain ⟨i, rfl, hi1, hgf, HB, HA⟩ := hrel
  by_cases hi : i < N
  · obtain ⟨g', rfl⟩ : ∃ g', gk = g' + 1 := ⟨gk - 1, by omega⟩
    have hil : i < xs.length := by rw [HN.out.1]; exact hi
    have hjl : i < ys.length := by rw [HN.out.2]; exact hi
    obtain ⟨b, o, hq, _, hc⟩ := knd_at (HX.out.mono mKnd (fun _ h => h) (kept_of HK.out HB.out)) (by omega)
    obtain ⟨b', o', hq', _, hc'⟩ := knd_at (HY.out.mono mKnd (fun _ h => h) (kept_of HL.out HB.out)) (by omega)
    subst hq
    subst hq'
    have c0 := (hc i hil).1
    have c1 := (hc' i hjl).1
    have hx1 : xs.take (i + 1) = xs.take i ++ [xs[i]] := List.take_succ_eq_append_getElem hil
    have hy1 : ys.take (i + 1) = ys.take i ++ [ys[i]] := List.take_succ_eq_append_getElem hjl
    have hne : xs[i] ≠ ys[i] → xs ≠ ys := fun hne e => hne (by subst e; rfl)
    obtain ⟨x, hx⟩ := gen (xs[i])
    obtain ⟨y, hy⟩ := gen (ys[i])
    rw [hx] at c0 hx1 hne
    rw [hy] at c1 hy1 hne
    have HEQ : Hid ((x = y → ((x : Int) != (y : Int)) = false) ∧ (x ≠ y → ((x : Int) != (y : Int)) = true)) := ⟨fun e => by simp [e], fun e => bne_iff_ne.2 (by omega)⟩
    have z0 : (0 : Int) ≤ (i : Int) := by omega
    have z1 : (i : Int) < (N : Int) := by omega
    by_cases he : x = y
    · have HA2 : Hid (xs.take (i + 1) = ys.take (i + 1)) := by show _ = _; rw [hx1, hy1, HA.out, he]
      have hf := HEQ.out.1 he
      have hbw := HB.out
      clear hc hc' hx1 hy1 hne hx hy he HA HEQ hil hjl HB
      go_wp2_with fail
      go_quiet (fail)
      go_wp2_with fail
      go_roundg g'
      case measure => omega
      case rel => exact ⟨i + 1, by go_num, by omega, by omega, below_drewN hbw _, HA2⟩
    · have HE : Hid (R = false) := by show _ = _; rw [← HR.out]; exact decide_eq_false (hne he)
      have hf := HEQ.out.2 he
      have hbw := HB.out
      clear hc hc' hx1 hy1 hne hx hy he HA HEQ hil hjl HB
      go_wp2_with fail
      go_quiet (fail)
      go_wp2_with fail
      go_ret
      exact ⟨by rw [HE.out]; try rfl, below_drewN hbw _⟩
  · have z1 : ¬ (i : Int) < (N : Int) := by omega
    have HE : Hid (R = true) := by
     show _ = _
     rw [← HR.out]
     have h := HA.out
     rw [List.take_of_length_le (by rw [HN.out.1]; omega), List.take_of_length_le (by rw [HN.out.2]; omega)] at h
     exact decide_eq_true h
    have HBW := hid HB.out
    clear HA HB
    go_wp2_with fail
    go_ret
    exact ⟨by rw [HE.out]; try rfl, HBW.out⟩
theorem ranswer_any (K Kc : Nat → Prop) (s : Scp) (p : Option Addr) (d : Nat) (b : Bnd) (pw pg pi pn pk : Option Addr) (cw cg ci cn ck : Nat) (w : World) (h : ListIs rClm 2 24 Kc w (.slice p s.c.length d) s.c) (hKc : ∀ b, Kc b → b < w.heap.size) (hl : ListIs rItmW 2 32 K w (.slice pi b.i.length ci) b.i) (hn : ListIs rStrW 1 16 K w (.slice pn b.n.length cn) b.n) (hk : ListIs rKnd 1 1 K w (.slice pk b.k.length ck) b.k) (hK : ∀ b, K b → b < w.heap.size) (hG : GW w) (h8 : b.i.length ≤ 8) (hin : ∀ x ∈ b.i, isColI x = true → 0 ≤ firstN x ∧ firstN x < (s.c.length : Int)) :
 Calls prog 31 #[.agg (scpC s p d), .agg (bndC b pw pg pi pn pk cw cg ci cn ck).toArray] w fun e w' => e = .returned (.bool (rAnswerB s b)) ∧ Bl w w' := by
 obtain ⟨tS, htS⟩ := bya s.t
 obtain ⟨jS, hjS⟩ := bya s.j
 obtain ⟨Nc, hNc⟩ := gen s.c.length
 obtain ⟨wd, hwd⟩ := gen s.w
 have hsc : scpC s p d = #[.string tS, .string jS, .int .i64 (wd : Int), .slice p Nc d] := by unfold scpC; rw [htS, hjS, hNc, hwd]
 obtain ⟨t0, ht0⟩ := bya b.t
 obtain ⟨t1, ht1⟩ := bya b.j
 obtain ⟨bd, hbd⟩ := gen b.d
 obtain ⟨ba, hba⟩ := gen b.a
 obtain ⟨bb, hbb⟩ := gen b.b
 obtain ⟨br, hbr⟩ := gen b.r
 obtain ⟨n1, hn1⟩ := gen b.w.length
 obtain ⟨n2, hn2⟩ := gen b.g.length
 obtain ⟨n3, hn3⟩ := gen b.i.length
 obtain ⟨n4, hn4⟩ := gen b.n.length
 obtain ⟨n5, hn5⟩ := gen b.k.length
 have hbc : (bndC b pw pg pi pn pk cw cg ci cn ck).toArray = #[.string t0, .string t1, .int .i64 bd, .int .i64 ba, .int .i64 bb, .slice pw n1 cw, .slice pg n2 cg, .slice pi n3 ci, .bool br, .slice pn n4 cn, .slice pk n5 ck] := by unfold bndC; rw [ht0, ht1, hbd, hba, hbb, hbr, hn1, hn2, hn3, hn4, hn5]
 obtain ⟨W0, hW0, hb0, hz0, g0, g1⟩ := two_boxes2 w #[.string tS, .string jS, .int .i64 (wd : Int), .slice p Nc d] #[.string t0, .string t1, .int .i64 bd, .int .i64 ba, .int .i64 bb, .slice pw n1 cw, .slice pg n2 cg, .slice pi n3 ci, .bool br, .slice pn n4 cn, .slice pk n5 ck] 67 32
 have HBX : Hid (∀ V, Bl W0 V → V.rangeAt w.heap.size 0 (#[.string tS, .string jS, .int .i64 (wd : Int), .slice p Nc d]).toList ∧ V.rangeAt (w.heap.size + 1) 0 (#[.string t0, .string t1, .int .i64 bd, .int .i64 ba, .int .i64 bb, .slice pw n1 cw, .slice pg n2 cg, .slice pi n3 ci, .bool br, .slice pn n4 cn, .slice pk n5 ck]).toList ∧ V.heap[w.heap.size]? = some (.cells #[.string tS, .string jS, .int .i64 (wd : Int), .slice p Nc d] 67 (0, 0)) ∧ V.heap[w.heap.size + 1]? = some (.cells #[.string t0, .string t1, .int .i64 bd, .int .i64 ba, .int .i64 bb, .slice pw n1 cw, .slice pg n2 cg, .slice pi n3 ci, .bool br, .slice pn n4 cn, .slice pk n5 ck] 32 (0, 0)) ∧ Bl w V) := fun V hV =>
  ⟨rgz ((hV.block _ (by omega)).trans g0), rgz ((hV.block _ (by omega)).trans g1), (hV.block _ (by omega)).trans g0, (hV.block _ (by omega)).trans g1, hb0.trans (hV.mono (by omega))⟩
 have HB0 := hid hb0
 have C1 : Hid (Calls prog 68 #[.agg #[.string tS, .string jS, .int .i64 (wd : Int), .slice p Nc d], .slice pi n3 ci] W0 fun e w' => AnsE s b.i W0.heap.size w' e ∧ Bl W0 w') := by
  have := answer_any K Kc s p d pi ci b.i W0 (h.later mClm hKc hb0) (fun b hb => nlt (hKc b hb) hb0.size) (hl.later mItmW hK hb0) (fun b hb => nlt (hK b hb) hb0.size) h8 hin (hG.below hb0)
  rwa [hsc, hn3] at this
 have C2 : Hid (∀ V, Bl W0 V → ∀ (p1 : Option Addr) (c1 : Nat), ListIs rStrW 1 16 (From W0.heap.size V) V (.slice p1 n3 c1) (namesGo s 0 b.i) → Calls prog 76 #[.slice pn n4 cn, .slice p1 n3 c1] V fun e w' => e = .returned (.bool (decide (b.n = namesGo s 0 b.i))) ∧ Bl V w') := fun V hV p1 c1 h1 => by
  have hVw := (HBX.out V hV).2.2.2.2
  have := equal_76 K (From W0.heap.size V) pn p1 cn c1 b.n (namesGo s 0 b.i) V (hn.later mStrW hK hVw) (fun b hb => nlt (hK b hb) hVw.size) (by rw [namesGo_len, hn3]; exact h1) From.lt
  rwa [hn4, namesGo_len, hn3] at this
 have C3 : Hid (∀ V U, Bl W0 V → Bl V U → ∀ (p1 : Option Addr) (c1 : Nat), ListIs rKnd 1 1 (From W0.heap.size V) V (.slice p1 n3 c1) (b.i.map (kindI s)) → Calls prog 77 #[.slice pk n5 ck, .slice p1 n3 c1] U fun e w' => e = .returned (.bool (decide (b.k = b.i.map (kindI s)))) ∧ Bl U w') := fun V U hV hU p1 c1 h1 => by
  have hVw := (HBX.out V hV).2.2.2.2
  have hUw := hVw.trans (hU.mono hVw.size)
  have := equal_77 K (From W0.heap.size U) pk p1 ck c1 b.k (b.i.map (kindI s)) U (hk.later mKnd hK hUw) (fun b hb => nlt (hK b hb) hUw.size) (by rw [List.length_map, hn3]; exact h1.grow mKnd hU) From.lt
  rwa [hn5, List.length_map, hn3] at this
 obtain ⟨A, hA⟩ := gen (decide (b.n = namesGo s 0 b.i))
 obtain ⟨B, hB⟩ := gen (decide (b.k = b.i.map (kindI s)))
 rw [hA] at C2
 rw [hB] at C3
 have HNI : Hid (b.i.length = n3) := hn3
 obtain ⟨R, hR⟩ := gen (rAnswerB s b)
 have HR : Hid (R = (A && B)) := by show _ = _; rw [← hR, ← hA, ← hB]; rfl
 rw [hsc, hbc, hR]
 obtain ⟨hr0, hr1, hg0, hg1, -⟩ := HBX.out W0 (Below.refl _ _)
 have HS0 := hid hr0
 have c7 := cell_of_row (k := 7) (v := .slice pi n3 ci) hg1 rfl
 clear h hKc hl hn hk hK hG h8 hin htS hjS hNc hwd hsc ht0 ht1 hbd hba hbb hbr hn1 hn2 hn3 hn4 hn5 hbc hb0 hz0 g0 g1 hA hB hR hr0 hr1 hg0 hg1
 go_enter func31, ntmps31
 go_wp2_with (refine wpList_load_mid rfl 67 _ rfl w.heap.size 0 rfl _ _ HS0.out underlying67 rfl sz_scp ?_)
 refine C1.out.mono ?_
 rintro e w1 ⟨⟨p1, c1, p2, c2, rfl, hl1, hl2⟩, hb1⟩
 have HB1 := hid hb1
 rw [HNI.out] at hl1 hl2 ⊢
 have C2' := hid (C2.out w1 hb1 p1 c1 hl1)
 have HL2 := hid hl2
 obtain ⟨-, -, -, hg1, -⟩ := HBX.out w1 hb1
 have c9 := cell_of_row (k := 9) (v := .slice pn n4 cn) hg1 rfl
 clear C1 C2 hb1 hl1 hl2 hg1 c7 HS0
 go_wp2_with fail
 refine C2'.out.mono ?_
 rintro e w2 ⟨rfl, hb2⟩
 have C3' := hid (C3.out w1 w2 HB1.out hb2 p2 c2 HL2.out)
 have HB2 : Hid (Bl W0 w2) := HB1.out.trans (hb2.mono HB1.out.size)
 obtain ⟨-, -, -, hg2, hbw2⟩ := HBX.out w2 HB2.out
 have HBW2 := hid hbw2
 have c10 := cell_of_row (k := 10) (v := .slice pk n5 ck) hg2 rfl
 clear C2' C3 hb2 hg2 hbw2 HL2 c9
 cases A with
 | false =>
  have HE : Hid (R = false) := HR.out
  clear HR C3'
  go_wp2_with fail
  go_ret
  exact ⟨by rw [HE.out]; try rfl, HBW2.out⟩
 | true =>
  have HE : Hid (R = B) := by show _ = _; rw [HR.out, Bool.true_and]
  clear HR
  go_wp2_with fail
  refine C3'.out.mono ?_
  rintro e w3 ⟨rfl, hb3⟩
  have HB3 : Hid (Bl w w3) := HBW2.out.trans (hb3.mono HBW2.out.size)
  clear C3' hb3
  go_wp2_with fail
  go_ret
  exact ⟨by rw [HE.out]; try rfl, HB3.out⟩
theorem ritems_in {s : Scp} {b : Bnd} (h : rItemsB s b = true) : b.i.length ≤ 8 ∧ ∀ x ∈ b.i, isColI x = true → 0 ≤ firstN x ∧ firstN x < (s.c.length : Int) := by
 unfold rItemsB at h
 split at h
 · cases h
 · rename_i hn
   simp only [not_or] at hn
   refine ⟨by omega, fun x hx hc => ?_⟩
   rw [List.all_eq_true] at h
   exact item_in (of_decide_eq_true (h x hx)) hc
theorem bright_any (K Kt : Nat → Prop) (b : Bnd) (pw pg pi pn pk : Option Addr) (cw cg ci cn ck : Nat) (pt : Option Addr) (ct : Nat) (l : List Tab) (w : World) (hw : ListIs rStpW 3 32 K w (.slice pw b.w.length cw) b.w) (hg : ListIs rInt 1 8 K w (.slice pg b.g.length cg) b.g) (hi : ListIs rItmW 2 32 K w (.slice pi b.i.length ci) b.i) (hn : ListIs rStrW 1 16 K w (.slice pn b.n.length cn) b.n) (hk : ListIs rKnd 1 1 K w (.slice pk b.k.length ck) b.k) (hK : ∀ b, K b → b < w.heap.size) (ht : ListIs rTab 3 64 Kt w (.slice pt l.length ct) l) (hKt : ∀ b, Kt b → b < w.heap.size) (hG : GW w) :
 Calls prog 12 #[.agg (bndC b pw pg pi pn pk cw cg ci cn ck).toArray, .slice pt l.length ct] w fun e w' => e = .returned (.bool (rightBP b l)) ∧ Bl w w' := by
 obtain ⟨t0, ht0⟩ := bya b.t
 obtain ⟨t1, ht1⟩ := bya b.j
 obtain ⟨bd, hbd⟩ := gen b.d
 obtain ⟨ba, hba⟩ := gen b.a
 obtain ⟨bb, hbb⟩ := gen b.b
 obtain ⟨br, hbr⟩ := gen b.r
 obtain ⟨n1, hn1⟩ := gen b.w.length
 obtain ⟨n2, hn2⟩ := gen b.g.length
 obtain ⟨n3, hn3⟩ := gen b.i.length
 obtain ⟨n4, hn4⟩ := gen b.n.length
 obtain ⟨n5, hn5⟩ := gen b.k.length
 have hbc : (bndC b pw pg pi pn pk cw cg ci cn ck).toArray = #[.string t0, .string t1, .int .i64 bd, .int .i64 ba, .int .i64 bb, .slice pw n1 cw, .slice pg n2 cg, .slice pi n3 ci, .bool br, .slice pn n4 cn, .slice pk n5 ck] := by unfold bndC; rw [ht0, ht1, hbd, hba, hbb, hbr, hn1, hn2, hn3, hn4, hn5]
 obtain ⟨nl, hnl⟩ := gen l.length
 obtain ⟨W0, hW0⟩ := gen (w.alloc (.cells #[.string t0, .string t1, .int .i64 bd, .int .i64 ba, .int .i64 bb, .slice pw n1 cw, .slice pg n2 cg, .slice pi n3 ci, .bool br, .slice pn n4 cn, .slice pk n5 ck] 32))
 have hb0 : Bl w W0 := by rw [← hW0]; exact below_alloc _ _
 have hg0 : W0.heap[w.heap.size]? = some (.cells #[.string t0, .string t1, .int .i64 bd, .int .i64 ba, .int .i64 bb, .slice pw n1 cw, .slice pg n2 cg, .slice pi n3 ci, .bool br, .slice pn n4 cn, .slice pk n5 ck] 32 (0, 0)) := by rw [← hW0]; exact heap_alloc_new w _
 have hs0 : W0.heap.size = w.heap.size + 1 := by rw [← hW0]; simp
 have HBX : Hid (∀ V, Bl W0 V → V.rangeAt w.heap.size 0 (#[.string t0, .string t1, .int .i64 bd, .int .i64 ba, .int .i64 bb, .slice pw n1 cw, .slice pg n2 cg, .slice pi n3 ci, .bool br, .slice pn n4 cn, .slice pk n5 ck]).toList ∧ V.heap[w.heap.size]? = some (.cells #[.string t0, .string t1, .int .i64 bd, .int .i64 ba, .int .i64 bb, .slice pw n1 cw, .slice pg n2 cg, .slice pi n3 ci, .bool br, .slice pn n4 cn, .slice pk n5 ck] 32 (0, 0)) ∧ Bl w V) := fun V hV => ⟨rgz ((hV.block _ (by omega)).trans hg0), (hV.block _ (by omega)).trans hg0, hb0.trans (hV.mono (by omega))⟩
 have HT : Hid (∀ V, Bl w V → ListIs rTab 3 64 Kt V (.slice pt nl ct) l ∧ ∀ b, Kt b → b < V.heap.size) := fun V hV => by
  have := ht.later mTab hKt hV
  rw [hnl] at this
  exact ⟨this, fun b hb => nlt (hKt b hb) hV.size⟩
 have HNL : Hid (l.length = nl) := hnl
 have HLB : Hid (∀ V, Bl w V → ListIs rStpW 3 32 K V (.slice pw b.w.length cw) b.w ∧ ListIs rInt 1 8 K V (.slice pg b.g.length cg) b.g ∧ ListIs rItmW 2 32 K V (.slice pi b.i.length ci) b.i ∧ ListIs rStrW 1 16 K V (.slice pn b.n.length cn) b.n ∧ ListIs rKnd 1 1 K V (.slice pk b.k.length ck) b.k ∧ (∀ b, K b → b < V.heap.size) ∧ GW V) := fun V hV => ⟨hw.later mStpW hK hV, hg.later mInt hK hV, hi.later mItmW hK hV, hn.later mStrW hK hV, hk.later mKnd hK hV, fun b hb => nlt (hK b hb) hV.size, hG.below hV⟩
 have HBC := hid hbc
 have HTT : Hid ((⟨b.t.toArray⟩ : ByteArray) = t0 ∧ (⟨b.j.toArray⟩ : ByteArray) = t1) := ⟨ht0, ht1⟩
 have C1 : Hid (Calls prog 17 #[.slice pt nl ct] W0 fun e w' => e = .returned (.int .i64 (catP l)) ∧ Bl W0 w') := by
  have h1 := HT.out W0 hb0
  rw [← hnl] at h1
  have := cat_any Kt pt ct l W0 h1.1 h1.2 (hG.below hb0)
  rwa [hnl] at this
 obtain ⟨y, hy⟩ := gen (catP l)
 rw [hy] at C1
 have HYY := hid hy
 obtain ⟨R, hR⟩ := gen (rightBP b l)
 have HR := hid hR
 have HB0 := hid hb0
 rw [hbc, hnl, hR]
 clear hw hg hi hn hk hK ht hKt hG ht0 ht1 hbd hba hbb hbr hn1 hn2 hn3 hn4 hn5 hbc hb0 hg0 hs0 hnl hy hR
 go_enter func12, ntmps12
 go_wp2_with fail
 refine C1.out.mono ?_
 rintro e w1 ⟨rfl, hb1⟩
 obtain ⟨-, hg1, hbw1⟩ := HBX.out w1 hb1
 have HB1 := hid hb1
 have HBW1 := hid hbw1
 clear C1 hb1
 by_cases hy0 : y = 0
 case neg =>
  have yy : (y != 0) = true := bne_iff_ne.2 hy0
  have HE : Hid (R = false) := by show _ = _; rw [← HR.out]; unfold rightBP; rw [if_pos (by rw [HYY.out]; exact hy0)]
  clear hy0 hg1 hbw1
  go_wp2_with fail
  go_ret
  exact ⟨by rw [HE.out]; try rfl, HBW1.out⟩
 have yy : (y != 0) = false := by rw [hy0]; rfl
 have HCAT : Hid (catP l = 0) := HYY.out.trans hy0
 have c0 := cell_of_row (k := 0) (v := .string t0) hg1 rfl
 have c1 := cell_of_row (k := 1) (v := .string t1) hg1 rfl
 have C2 : Hid (Calls prog 26 #[.string t0, .string t1, .slice pt nl ct] w1 fun e w' => ScpE w1.heap.size l b.t b.j w' e ∧ Bl w1 w') := by
  have h1 := HT.out w1 hbw1
  rw [← HNL.out] at h1
  have := scope_any Kt pt ct l b.t b.j w1 h1.1 h1.2 HCAT.out
  rwa [HTT.out.1, HTT.out.2, HNL.out] at this
 clear hy0 hg1 hbw1
 go_wp2_with fail
 refine C2.out.mono ?_
 rintro e w2 ⟨hS, hb2⟩
 have HB2 : Hid (Bl W0 w2) := HB1.out.trans (hb2.mono HB1.out.size)
 obtain ⟨-, -, hbw2⟩ := HBX.out w2 HB2.out
 have HBB2 := hid hb2
 clear C2 hb2 c0 c1
 rcases hS with ⟨hs, rfl⟩ | ⟨s, p, d, hs, rfl, hls⟩
 · have HE : Hid (R = false) := by show _ = _; rw [← HR.out]; unfold rightBP; rw [if_neg (fun h => h HCAT.out), hs]
   obtain ⟨WS, hWS, hthS, X1, hX1, hgS, hsS, hbS⟩ := box_all w2 67 #[.string ⟨#[]⟩, .string ⟨#[]⟩, .int .i64 0, .slice none 0 0] (#[.string ⟨#[]⟩, .string ⟨#[]⟩, .int .i64 0, .slice none 0 0]).toList rfl
   have HTS : Hid (WS.there w2.heap.size 0 4) := hthS
   have HXS : Hid (WS.setCells w2.heap.size 0 (#[.string ⟨#[]⟩, .string ⟨#[]⟩, .int .i64 0, .slice none 0 0] : Array Value).toList = X1) := hX1
   have HBX1 : Hid (Bl w X1) := hbw2.trans (hbS.mono hbw2.size)
   clear hs hbw2 hthS hX1 hgS hsS hbS
   go_wp2_with (refine wpList_store_mid rfl 67 _ _ rfl w2.heap.size 0 #[.string ⟨#[]⟩, .string ⟨#[]⟩, .int .i64 0, .slice none 0 0] rfl rfl HTS.out sz_scp (by simp [Value.oneCell']) ?_; rw [HXS.out])
   go_ret
   exact ⟨by rw [HE.out]; try rfl, HBX1.out⟩
 · obtain ⟨ht', hj', hp0, h16, hwd'⟩ := scope_small HCAT.out hs
   obtain ⟨tS, htS⟩ := bya s.t
   obtain ⟨jS, hjS⟩ := bya s.j
   obtain ⟨Nc, hNc⟩ := gen s.c.length
   obtain ⟨wd, hwd⟩ := gen s.w
   have hsc : scpC s p d = #[.string tS, .string jS, .int .i64 (wd : Int), .slice p Nc d] := by unfold scpC; rw [htS, hjS, hNc, hwd]
   have HSC := hid hsc
   have HS16 : Hid (s.c.length ≤ 16 ∧ s.w ≤ s.c.length) := ⟨h16, hwd'⟩
   have HRS : Hid (R = (rJoinB s b && (rWhereB s b && (rGroupB s b && (rItemsB s b && rAnswerB s b))))) := by show _ = _; rw [← HR.out]; unfold rightBP; rw [if_neg (fun h => h HCAT.out), hs]
   obtain ⟨WS, hWS, hthS, X1, hX1, hgS, hsS, hbS⟩ := box_all w2 67 #[.string ⟨#[]⟩, .string ⟨#[]⟩, .int .i64 0, .slice none 0 0] (#[.string tS, .string jS, .int .i64 (wd : Int), .slice p Nc d]).toList rfl
   have HTS : Hid (WS.there w2.heap.size 0 4) := hthS
   have HXS : Hid (WS.setCells w2.heap.size 0 (#[.string tS, .string jS, .int .i64 (wd : Int), .slice p Nc d] : Array Value).toList = X1) := hX1
   have HX1 : Hid (Bl W0 X1) := HB2.out.trans (hbS.mono HB2.out.size)
   have hlS : w2.heap.size < X1.heap.size := by omega
   have HF : Hid (∀ V, Bl X1 V → V.rangeAt w2.heap.size 0 (#[.string tS, .string jS, .int .i64 (wd : Int), .slice p Nc d]).toList ∧ V.rangeAt w.heap.size 0 (#[.string t0, .string t1, .int .i64 bd, .int .i64 ba, .int .i64 bb, .slice pw n1 cw, .slice pg n2 cg, .slice pi n3 ci, .bool br, .slice pn n4 cn, .slice pk n5 ck]).toList ∧ Bl w V ∧ ListIs rClm 2 24 (From w1.heap.size w2) V (.slice p s.c.length d) s.c ∧ ∀ b, From w1.heap.size w2 b → b < V.heap.size) := fun V hV => by
    have hV0 := HX1.out.trans (hV.mono HX1.out.size)
    obtain ⟨k1, k2, k3⟩ := HBX.out V hV0
    have hV2 : Bl w2 V := hbS.trans (hV.mono (by omega))
    exact ⟨rgz ((hV.block _ hlS).trans hgS), k1, k3, hls.mono mClm (fun _ h => h) (kept_of From.lt hV2), fun b hb => nlt hb.2 hV2.size⟩
   have CJ : Hid (∀ V, Bl X1 V → Calls prog 27 #[.agg #[.string tS, .string jS, .int .i64 (wd : Int), .slice p Nc d], .agg #[.string t0, .string t1, .int .i64 bd, .int .i64 ba, .int .i64 bb, .slice pw n1 cw, .slice pg n2 cg, .slice pi n3 ci, .bool br, .slice pn n4 cn, .slice pk n5 ck]] V fun e w' => e = .returned (.bool (rJoinB s b)) ∧ Bl V w') := fun V hV => by
    obtain ⟨k1, k2, k3, k4, k5⟩ := HF.out V hV
    have := rjoin_any (From w1.heap.size w2) s p d b pw pg pi pn pk cw cg ci cn ck V k4 k5 HS16.out.1 HS16.out.2
    rwa [HSC.out, HBC.out] at this
   have CW : Hid (∀ V, Bl X1 V → Calls prog 28 #[.agg #[.string tS, .string jS, .int .i64 (wd : Int), .slice p Nc d], .agg #[.string t0, .string t1, .int .i64 bd, .int .i64 ba, .int .i64 bb, .slice pw n1 cw, .slice pg n2 cg, .slice pi n3 ci, .bool br, .slice pn n4 cn, .slice pk n5 ck]] V fun e w' => e = .returned (.bool (rWhereB s b)) ∧ Bl V w') := fun V hV => by
    obtain ⟨k1, k2, k3, k4, k5⟩ := HF.out V hV
    obtain ⟨b1, b2, b3, b4, b5, b6, b7⟩ := HLB.out V k3
    have := rwhere_any K (From w1.heap.size w2) s p d b pw pg pi pn pk cw cg ci cn ck V k4 k5 b1 b6 b7
    rwa [HSC.out, HBC.out] at this
   have CG : Hid (∀ V, Bl X1 V → Calls prog 29 #[.agg #[.string tS, .string jS, .int .i64 (wd : Int), .slice p Nc d], .agg #[.string t0, .string t1, .int .i64 bd, .int .i64 ba, .int .i64 bb, .slice pw n1 cw, .slice pg n2 cg, .slice pi n3 ci, .bool br, .slice pn n4 cn, .slice pk n5 ck]] V fun e w' => e = .returned (.bool (rGroupB s b)) ∧ Bl V w') := fun V hV => by
    obtain ⟨k1, k2, k3, k4, k5⟩ := HF.out V hV
    obtain ⟨b1, b2, b3, b4, b5, b6, b7⟩ := HLB.out V k3
    have := rgroup_any K s p d b pw pg pi pn pk cw cg ci cn ck V b2 b6 HS16.out.1
    rwa [HSC.out, HBC.out] at this
   have CI : Hid (∀ V, Bl X1 V → Calls prog 30 #[.agg #[.string tS, .string jS, .int .i64 (wd : Int), .slice p Nc d], .agg #[.string t0, .string t1, .int .i64 bd, .int .i64 ba, .int .i64 bb, .slice pw n1 cw, .slice pg n2 cg, .slice pi n3 ci, .bool br, .slice pn n4 cn, .slice pk n5 ck]] V fun e w' => e = .returned (.bool (rItemsB s b)) ∧ Bl V w') := fun V hV => by
    obtain ⟨k1, k2, k3, k4, k5⟩ := HF.out V hV
    obtain ⟨b1, b2, b3, b4, b5, b6, b7⟩ := HLB.out V k3
    have := ritems_any K (From w1.heap.size w2) s p d b pw pg pi pn pk cw cg ci cn ck V k4 k5 b3 b2 b6 b7
    rwa [HSC.out, HBC.out] at this
   have CA : Hid (IsT (rItemsB s b) → ∀ V, Bl X1 V → Calls prog 31 #[.agg #[.string tS, .string jS, .int .i64 (wd : Int), .slice p Nc d], .agg #[.string t0, .string t1, .int .i64 bd, .int .i64 ba, .int .i64 bb, .slice pw n1 cw, .slice pg n2 cg, .slice pi n3 ci, .bool br, .slice pn n4 cn, .slice pk n5 ck]] V fun e w' => e = .returned (.bool (rAnswerB s b)) ∧ Bl V w') := fun hI V hV => by
    obtain ⟨k1, k2, k3, k4, k5⟩ := HF.out V hV
    obtain ⟨b1, b2, b3, b4, b5, b6, b7⟩ := HLB.out V k3
    have := ranswer_any K (From w1.heap.size w2) s p d b pw pg pi pn pk cw cg ci cn ck V k4 k5 b3 b4 b5 b6 b7 (ritems_in hI).1 (ritems_in hI).2
    rwa [HSC.out, HBC.out] at this
   obtain ⟨q1, hq1⟩ := gen (rJoinB s b)
   obtain ⟨q2, hq2⟩ := gen (rWhereB s b)
   obtain ⟨q3, hq3⟩ := gen (rGroupB s b)
   obtain ⟨q4, hq4⟩ := gen (rItemsB s b)
   obtain ⟨q5, hq5⟩ := gen (rAnswerB s b)
   rw [hq1] at CJ HRS
   rw [hq2] at CW HRS
   rw [hq3] at CG HRS
   rw [hq4] at CI CA HRS
   rw [hq5] at CA HRS
   obtain ⟨hrA, hrB, hbwX, -, -⟩ := HF.out X1 (Below.refl _ _)
   have HRA := hid hrA
   have HRB := hid hrB
   have C0 := hid (CJ.out X1 (Below.refl _ _))
   have HBWX := hid hbwX
   rw [hsc]
   clear hs hls ht' hj' hp0 h16 hwd' htS hjS hNc hwd hsc hthS hX1 hgS hsS hbS hlS hq1 hq2 hq3 hq4 hq5 hrA hrB hbwX CJ hbw2 HLB HT
   go_wp2_with (first | (refine wpList_store_mid rfl 67 _ _ rfl w2.heap.size 0 #[.string tS, .string jS, .int .i64 (wd : Int), .slice p Nc d] rfl rfl HTS.out sz_scp (by simp [Value.oneCell']) ?_; rw [HXS.out]) | (refine wpList_load_midH (by rfl) 67 _ rfl w2.heap.size 0 rfl _ _ HRA.out underlying67 rfl sz_scp ?_) | (refine wpList_load_midH (by rfl) 32 _ rfl w.heap.size 0 rfl _ _ HRB.out underlying32 rfl sz_bnd ?_))
   refine C0.out.mono ?_
   rintro e x1 ⟨rfl, hbx1⟩
   have HXx1 : Hid (Bl X1 x1) := hbx1
   obtain ⟨hrA1, hrB1, hbw1, -, -⟩ := HF.out x1 HXx1.out
   have HRA1 := hid hrA1
   have HRB1 := hid hrB1
   have HBWx1 := hid hbw1
   clear C0 hbx1 hrA1 hrB1 hbw1 HRA HRB
   cases q1 with
   | false =>
    have HE : Hid (R = false) := by show _ = _; rw [HRS.out]; simp
    clear HRS
    go_wp2_with fail
    go_ret
    exact ⟨by rw [HE.out]; try rfl, HBWx1.out⟩
   | true =>
    have D1 := hid (CW.out x1 HXx1.out)
    clear CW
    go_wp2_with (first | (refine wpList_load_midH (by rfl) 67 _ rfl w2.heap.size 0 rfl _ _ HRA1.out underlying67 rfl sz_scp ?_) | (refine wpList_load_midH (by rfl) 32 _ rfl w.heap.size 0 rfl _ _ HRB1.out underlying32 rfl sz_bnd ?_))
    refine D1.out.mono ?_
    rintro e x2 ⟨rfl, hbx2⟩
    have HXx2 : Hid (Bl X1 x2) := HXx1.out.trans (hbx2.mono HXx1.out.size)
    obtain ⟨hrA2, hrB2, hbw2, -, -⟩ := HF.out x2 HXx2.out
    have HRA2 := hid hrA2
    have HRB2 := hid hrB2
    have HBWx2 := hid hbw2
    clear D1 hbx2 hrA2 hrB2 hbw2 HRA1 HRB1
    cases q2 with
    | false =>
     have HE : Hid (R = false) := by show _ = _; rw [HRS.out]; simp
     clear HRS
     go_wp2_with fail
     go_ret
     exact ⟨by rw [HE.out]; try rfl, HBWx2.out⟩
    | true =>
     have D2 := hid (CG.out x2 HXx2.out)
     clear CG
     go_wp2_with (first | (refine wpList_load_midH (by rfl) 67 _ rfl w2.heap.size 0 rfl _ _ HRA2.out underlying67 rfl sz_scp ?_) | (refine wpList_load_midH (by rfl) 32 _ rfl w.heap.size 0 rfl _ _ HRB2.out underlying32 rfl sz_bnd ?_))
     refine D2.out.mono ?_
     rintro e x3 ⟨rfl, hbx3⟩
     have HXx3 : Hid (Bl X1 x3) := HXx2.out.trans (hbx3.mono HXx2.out.size)
     obtain ⟨hrA3, hrB3, hbw3, -, -⟩ := HF.out x3 HXx3.out
     have HRA3 := hid hrA3
     have HRB3 := hid hrB3
     have HBWx3 := hid hbw3
     clear D2 hbx3 hrA3 hrB3 hbw3 HRA2 HRB2
     cases q3 with
     | false =>
      have HE : Hid (R = false) := by show _ = _; rw [HRS.out]; simp
      clear HRS
      go_wp2_with fail
      go_ret
      exact ⟨by rw [HE.out]; try rfl, HBWx3.out⟩
     | true =>
      have D3 := hid (CI.out x3 HXx3.out)
      clear CI
      go_wp2_with (first | (refine wpList_load_midH (by rfl) 67 _ rfl w2.heap.size 0 rfl _ _ HRA3.out underlying67 rfl sz_scp ?_) | (refine wpList_load_midH (by rfl) 32 _ rfl w.heap.size 0 rfl _ _ HRB3.out underlying32 rfl sz_bnd ?_))
      refine D3.out.mono ?_
      rintro e x4 ⟨rfl, hbx4⟩
      have HXx4 : Hid (Bl X1 x4) := HXx3.out.trans (hbx4.mono HXx3.out.size)
      obtain ⟨hrA4, hrB4, hbw4, -, -⟩ := HF.out x4 HXx4.out
      have HRA4 := hid hrA4
      have HRB4 := hid hrB4
      have HBWx4 := hid hbw4
      clear D3 hbx4 hrA4 hrB4 hbw4 HRA3 HRB3
      cases q4 with
      | false =>
       have HE : Hid (R = false) := by show _ = _; rw [HRS.out]; simp
       clear HRS
       go_wp2_with fail
       go_ret
       exact ⟨by rw [HE.out]; try rfl, HBWx4.out⟩
      | true =>
       have D4 := hid (CA.out (show IsT true from rfl) x4 HXx4.out)
       clear CA
       go_wp2_with (first | (refine wpList_load_midH (by rfl) 67 _ rfl w2.heap.size 0 rfl _ _ HRA4.out underlying67 rfl sz_scp ?_) | (refine wpList_load_midH (by rfl) 32 _ rfl w.heap.size 0 rfl _ _ HRB4.out underlying32 rfl sz_bnd ?_))
       refine D4.out.mono ?_
       rintro e x5 ⟨rfl, hbx5⟩
       have HXx5 : Hid (Bl X1 x5) := HXx4.out.trans (hbx5.mono HXx4.out.size)
       obtain ⟨hrA5, hrB5, hbw5, -, -⟩ := HF.out x5 HXx5.out
       have HRA5 := hid hrA5
       have HRB5 := hid hrB5
       have HBWx5 := hid hbw5
       clear D4 hbx5 hrA5 hrB5 hbw5 HRA4 HRB4
       cases q5 with
       | false =>
        have HE : Hid (R = false) := by show _ = _; rw [HRS.out]; simp
        clear HRS
        go_wp2_with fail
        go_ret
        exact ⟨by rw [HE.out]; try rfl, HBWx5.out⟩
       | true =>
        have HE : Hid (R = true) := by show _ = _; rw [HRS.out]; simp
        clear HRS
        go_wp2_with fail
        go_ret
        exact ⟨by rw [HE.out]; try rfl, HBWx5.out⟩
def lifeL : List Tab := [⟨[116], [⟨[107], 2⟩, ⟨[115], 3⟩]⟩, ⟨[117], [⟨[107], 2⟩]⟩]
theorem lifeL_is (w W1 W2 W3 : World) (h1 : w.alloc (.cells #[.string ⟨#[107]⟩, .int .u8 2, .string ⟨#[115]⟩, .int .u8 3] 50) = W1) (h2 : W1.alloc (.cells #[.string ⟨#[107]⟩, .int .u8 2] 50) = W2) (h3 : W2.alloc (.cells #[.string ⟨#[116]⟩, .slice (some ⟨w.heap.size, 0, none⟩) 2 2, .slice none 0 0, .string ⟨#[117]⟩, .slice (some ⟨w.heap.size + 1, 0, none⟩) 1 1, .slice none 0 0] 56) = W3) :
 ListIs rTab 3 64 (From w.heap.size W3) W3 (.slice (some ⟨w.heap.size + 1 + 1, 0, none⟩) 2 2) lifeL ∧ Below w.heap.size w W3 := by
 have b1 : Below w.heap.size w W1 := by rw [← h1]; exact below_alloc _ _
 have z1 : W1.heap.size = w.heap.size + 1 := by rw [← h1]; simp
 have b2 : Below W1.heap.size W1 W2 := by rw [← h2]; exact below_alloc _ _
 have z2 : W2.heap.size = W1.heap.size + 1 := by rw [← h2]; simp
 have b3 : Below W2.heap.size W2 W3 := by rw [← h3]; exact below_alloc _ _
 have z3 : W3.heap.size = W2.heap.size + 1 := by rw [← h3]; simp
 have g1 : W1.heap[w.heap.size]? = some (.cells #[.string ⟨#[107]⟩, .int .u8 2, .string ⟨#[115]⟩, .int .u8 3] 50 (0, 0)) := by rw [← h1]; exact heap_alloc_new w _
 have g2 : W2.heap[W1.heap.size]? = some (.cells #[.string ⟨#[107]⟩, .int .u8 2] 50 (0, 0)) := by rw [← h2]; exact heap_alloc_new W1 _
 have g3 : W3.heap[W2.heap.size]? = some (.cells #[.string ⟨#[116]⟩, .slice (some ⟨w.heap.size, 0, none⟩) 2 2, .slice none 0 0, .string ⟨#[117]⟩, .slice (some ⟨w.heap.size + 1, 0, none⟩) 1 1, .slice none 0 0] 56 (0, 0)) := by rw [← h3]; exact heap_alloc_new W2 _
 rw [z1] at z2 g2 b2
 rw [z2] at z3 g3 b3
 have G1 := (b3.block w.heap.size (by omega)).trans ((b2.block w.heap.size (by omega)).trans g1)
 have G2 := (b3.block (w.heap.size + 1) (by omega)).trans g2
 refine ⟨?_, b1.trans ((b2.mono (by omega)).trans (b3.mono (by omega)))⟩
 have hA : ListIs rClm 2 24 (From w.heap.size W3) W3 (.slice (some ⟨w.heap.size, 0, none⟩) 2 2) [⟨[107], 2⟩, ⟨[115], 3⟩] := by
  refine ⟨_, _, rfl, by decide, fun _ => ⟨w.heap.size, 0, rfl, ⟨Nat.le_refl _, by omega⟩, fun j hj => ?_⟩⟩
  have hj2 : j = 0 ∨ j = 1 := by simp at hj; omega
  rcases hj2 with rfl | rfl
  · exact ⟨[.string ⟨#[107]⟩, .int .u8 2], rfl, fun i u hu => by rw [show 0 + 0 * 2 + i = i by omega]; exact cell_of_row G1 (by have : i < 2 := (List.getElem?_eq_some_iff.1 hu).1; (obtain rfl | rfl : i = 0 ∨ i = 1 := by omega) <;> simpa using hu), rfl, show 1 ≤ 140737488355328 by decide, show 2 < 256 by decide⟩
  · exact ⟨[.string ⟨#[115]⟩, .int .u8 3], rfl, fun i u hu => by rw [show 0 + 1 * 2 + i = 2 + i by omega]; exact cell_of_row G1 (by have : i < 2 := (List.getElem?_eq_some_iff.1 hu).1; (obtain rfl | rfl : i = 0 ∨ i = 1 := by omega) <;> simpa using hu), rfl, show 1 ≤ 140737488355328 by decide, show 3 < 256 by decide⟩
 have hB : ListIs rClm 2 24 (From w.heap.size W3) W3 (.slice (some ⟨w.heap.size + 1, 0, none⟩) 1 1) [⟨[107], 2⟩] := by
  refine ⟨_, _, rfl, by decide, fun _ => ⟨w.heap.size + 1, 0, rfl, ⟨by omega, by omega⟩, fun j hj => ?_⟩⟩
  have hj2 : j = 0 := by simp at hj; omega
  subst hj2
  exact ⟨[.string ⟨#[107]⟩, .int .u8 2], rfl, fun i u hu => by rw [show 0 + 0 * 2 + i = i by omega]; exact cell_of_row G2 (by have : i < 2 := (List.getElem?_eq_some_iff.1 hu).1; (obtain rfl | rfl : i = 0 ∨ i = 1 := by omega) <;> simpa using hu), rfl, show 1 ≤ 140737488355328 by decide, show 2 < 256 by decide⟩
 refine ⟨_, _, rfl, by decide, fun _ => ⟨w.heap.size + 1 + 1, 0, rfl, ⟨by omega, by omega⟩, fun j hj => ?_⟩⟩
 have hj2 : j = 0 ∨ j = 1 := by have : j < 2 := hj; omega
 rcases hj2 with rfl | rfl
 · exact ⟨[.string ⟨#[116]⟩, .slice (some ⟨w.heap.size, 0, none⟩) 2 2, .slice none 0 0], rfl, fun i u hu => by rw [show 0 + 0 * 3 + i = i by omega]; exact cell_of_row g3 (by have : i < 3 := (List.getElem?_eq_some_iff.1 hu).1; (obtain rfl | rfl | rfl : i = 0 ∨ i = 1 ∨ i = 2 := by omega) <;> simpa using hu), _, _, _, _, rfl, hA, show 1 ≤ 140737488355328 by decide⟩
 · exact ⟨[.string ⟨#[117]⟩, .slice (some ⟨w.heap.size + 1, 0, none⟩) 1 1, .slice none 0 0], rfl, fun i u hu => by rw [show 0 + 1 * 3 + i = 3 + i by omega]; exact cell_of_row g3 (by have : i < 3 := (List.getElem?_eq_some_iff.1 hu).1; (obtain rfl | rfl | rfl : i = 0 ∨ i = 1 ∨ i = 2 := by omega) <;> simpa using hu), _, _, _, _, rfl, hB, show 1 ≤ 140737488355328 by decide⟩
theorem catalog_any (w : World) : Calls prog 21 #[] w fun e w' => ∃ p c, e = .returned (.slice p 2 c) ∧ ListIs rTab 3 64 (From w.heap.size w') w' (.slice p 2 c) lifeL ∧ Below w.heap.size w w' := by
 go_enter func21, ntmps21
 go_wp2_with fail
 go_ret
 obtain ⟨h1, h2⟩ := lifeL_is w _ _ _ rfl rfl rfl
 exact ⟨_, _, rfl, h1, h2⟩
def ofP (s : List UInt8) (l : List Tab) : Except Int Bnd := if (parseP s).2.1 ≠ 0 then .error (parseP s).2.1 else bindP (parseP s).1 l
theorem of_any (s : ByteArray) (Kt : Nat → Prop) (pt : Option Addr) (ct : Nat) (l : List Tab) (w : World) (hs : s.size ≤ 9223372036854775807) (ht : ListIs rTab 3 64 Kt w (.slice pt l.length ct) l) (hKt : ∀ b, Kt b → b < w.heap.size) (hGl : Glob w) (hG : GW w) (h10 : 10 ≤ w.heap.size) :
 Calls prog 20 #[.string s, .slice pt l.length ct] w fun e w' => OutB w.heap.size w' (ofP s.data.toList l) e ∧ Below w.heap.size w w' := by
 obtain ⟨nl, hnl⟩ := gen l.length
 obtain ⟨R, hR⟩ := gen (ofP s.data.toList l)
 obtain ⟨q, hq⟩ := gen ((parseP s.data.toList).1)
 obtain ⟨y, hy⟩ := gen ((parseP s.data.toList).2.1)
 obtain ⟨y2, hy2⟩ := gen ((parseP s.data.toList).2.2)
 have HR : Hid (R = if y ≠ 0 then .error y else bindP q l) := by show _ = _; rw [← hR, ← hq, ← hy]; rfl
 have hpp : parseP s.data.toList = (q, y, y2) := by rw [← hq, ← hy, ← hy2]
 obtain ⟨W0, hW0⟩ := gen (w.alloc (.cells #[.string ⟨#[]⟩, .string ⟨#[]⟩, .int .i64 0, .int .i64 0, .int .i64 0, .slice none 0 0, .slice none 0 0, .slice none 0 0, .bool false, .slice none 0 0, .slice none 0 0] 32))
 have hb0 : Below w.heap.size w W0 := by rw [← hW0]; exact below_alloc _ _
 have hg0 : W0.heap[w.heap.size]? = some (.cells #[.string ⟨#[]⟩, .string ⟨#[]⟩, .int .i64 0, .int .i64 0, .int .i64 0, .slice none 0 0, .slice none 0 0, .slice none 0 0, .bool false, .slice none 0 0, .slice none 0 0] 32 (0, 0)) := by rw [← hW0]; exact heap_alloc_new w _
 have hz0 : W0.heap.size = w.heap.size + 1 := by rw [← hW0]; simp
 have C1 : Hid (Calls prog 55 #[.string s] W0 fun e w' => OutP W0 (q, y, y2) e w') := by
  have := parse_any s W0 hs (hGl.below hb0) (hG.below hb0) (Nat.le_trans h10 hb0.size)
  rwa [hpp] at this
 have C2 : Hid (∀ V, Below w.heap.size w V → ∀ K pi pw pg ci cw cg, QLsW K V pi pw pg ci cw cg q → (∀ b, K b → b < V.heap.size) → Calls prog 10 #[.agg (q.cl (.slice pi q.i.length ci) (.slice pw q.w.length cw) (.slice pg q.g.length cg)), .slice pt nl ct] V fun e w' => OutB V.heap.size w' (bindP q l) e ∧ Below V.heap.size V w') := fun V hV K pi pw pg ci cw cg h hK => by
  have := bind_any K Kt pi pw pg ci cw cg q pt ct l V h hK (ht.later mTab hKt hV) (fun b hb => nlt (hKt b hb) hV.size) (hG.below hV)
  rwa [hnl] at this
 have HB0 := hid (And.intro hb0 (And.intro hg0 hz0))
 rw [hnl, hR]
 clear hpp hR hnl ht hKt hGl hG h10 hq hy hy2 hs hb0 hg0 hz0
 go_enter func20, ntmps20
 go_wp2_with (first | (rw [hW0]))
 refine C1.out.mono ?_
 rintro e w1 ⟨v, rfl, ⟨vi, vw, vg, rfl, hin⟩, hb1⟩
 obtain ⟨pi, ci, pw, cw, pg, cg, rfl, rfl, rfl, hls⟩ := hin.ls
 have hlw := hls.w
 obtain ⟨s0, hs0⟩ := bya q.t
 obtain ⟨s1, hs1⟩ := bya q.j
 obtain ⟨s2, hs2⟩ := bya q.a
 obtain ⟨s3, hs3⟩ := bya q.b
 obtain ⟨ni, hni⟩ := gen q.i.length
 obtain ⟨nw, hnw⟩ := gen q.w.length
 obtain ⟨ng, hng⟩ := gen q.g.length
 have hcl : q.cl (.slice pi q.i.length ci) (.slice pw q.w.length cw) (.slice pg q.g.length cg) = #[.slice pi ni ci, .string s0, .string s1, .string s2, .string s3, .slice pw nw cw, .slice pg ng cg] := by unfold Qry.cl; rw [hs0, hs1, hs2, hs3, hni, hnw, hng]
 obtain ⟨WA, hWA, hth, V1, hV1, hgQ, hbV⟩ := box_any w1 26 #[.slice none 0 0, .string ⟨#[]⟩, .string ⟨#[]⟩, .string ⟨#[]⟩, .string ⟨#[]⟩, .slice none 0 0, .slice none 0 0] [.slice pi ni ci, .string s0, .string s1, .string s2, .string s3, .slice pw nw cw, .slice pg ng cg] rfl
 have HTH := hid hth
 have HV1 : Hid (WA.setCells w1.heap.size 0 (#[.slice pi ni ci, .string s0, .string s1, .string s2, .string s3, .slice pw nw cw, .slice pg ng cg] : Array Value).toList = V1) := hV1
 have hlQ : w1.heap.size < V1.heap.size := (gsi hgQ).1
 have hb01 : Below w.heap.size w w1 := HB0.out.1.trans (hb1.mono (by have := HB0.out.2.2; omega))
 have hbw1 : Below w.heap.size w V1 := hb01.trans (hbV.mono hb01.size)
 have hls1 := hlw.below (fun b hb => hb.2) hbV
 have hgS : V1.heap[w.heap.size]? = some (.cells #[.string ⟨#[]⟩, .string ⟨#[]⟩, .int .i64 0, .int .i64 0, .int .i64 0, .slice none 0 0, .slice none 0 0, .slice none 0 0, .bool false, .slice none 0 0, .slice none 0 0] 32 (0, 0)) := (hbV.block _ (by have := hb1.size; have := HB0.out.2.2; omega)).trans ((hb1.block _ (by have := HB0.out.2.2; omega)).trans HB0.out.2.1)
 have C3 : Hid (Calls prog 10 #[.agg #[.slice pi ni ci, .string s0, .string s1, .string s2, .string s3, .slice pw nw cw, .slice pg ng cg], .slice pt nl ct] V1 fun e w' => OutB V1.heap.size w' (bindP q l) e ∧ Below V1.heap.size V1 w') := by
  have := C2.out V1 hbw1 _ pi pw pg ci cw cg hls1 (fun b hb => nlt hb.2 hbV.size)
  rwa [hcl] at this
 have HR1 : Hid (V1.rangeAt w1.heap.size 0 [.slice pi ni ci, .string s0, .string s1, .string s2, .string s3, .slice pw nw cw, .slice pg ng cg]) := rgz hgQ
 have HSS := hid (And.intro hbw1 (And.intro hgS (show w.heap.size < V1.heap.size by have := hb1.size; have := HB0.out.2.2; omega)))
 rw [show (q.cl (.slice pi q.i.length ci) (.slice pw q.w.length cw) (.slice pg q.g.length cg)) = #[.slice pi ni ci, .string s0, .string s1, .string s2, .string s3, .slice pw nw cw, .slice pg ng cg] from hcl]
 clear hW0 C1 C2 hin hls hlw hb1 hth hV1 hgQ hbV hlQ hbw1 hls1 hgS hs0 hs1 hs2 hs3 hni hnw hng hcl hb01 HB0
 by_cases hy : y = 0
 case neg =>
  have yy : (y != 0) = true := bne_iff_ne.2 hy
  have HE : Hid (R = .error y) := by show _ = _; rw [HR.out, if_pos hy]
  obtain ⟨hth, XR, hXR, hgR, hsR, hkR⟩ := put_all V1 w.heap.size _ 32 HSS.out.2.1 (#[.string ⟨#[]⟩, .string ⟨#[]⟩, .int .i64 0, .int .i64 0, .int .i64 0, .slice none 0 0, .slice none 0 0, .slice none 0 0, .bool false, .slice none 0 0, .slice none 0 0]).toList rfl
  have HBR := hid (put_below HSS.out.1 hkR hsR (by omega))
  have HT2 : Hid (V1.there w.heap.size 0 11) := hth
  have HXR : Hid (V1.setCells w.heap.size 0 (#[.string ⟨#[]⟩, .string ⟨#[]⟩, .int .i64 0, .int .i64 0, .int .i64 0, .slice none 0 0, .slice none 0 0, .slice none 0 0, .bool false, .slice none 0 0, .slice none 0 0] : Array Value).toList = XR) := hXR
  have hld : (loadVar 32 ⟨w.heap.size, 0, none⟩).run prog XR = .ok (.agg #[.string ⟨#[]⟩, .string ⟨#[]⟩, .int .i64 0, .int .i64 0, .int .i64 0, .slice none 0 0, .slice none 0 0, .slice none 0 0, .bool false, .slice none 0 0, .slice none 0 0]) XR := run_loadVar_mid (P := prog) XR w.heap.size 0 32 (#[.string ⟨#[]⟩, .string ⟨#[]⟩, .int .i64 0, .int .i64 0, .int .i64 0, .slice none 0 0, .slice none 0 0, .slice none 0 0, .bool false, .slice none 0 0, .slice none 0 0]).toList _ (rgz hgR) underlying32 rfl sz_bnd
  have HLD2 := hid hld
  have HOUT : Hid (OutB w.heap.size XR R (.returned (.tuple #[.agg #[.string ⟨#[]⟩, .string ⟨#[]⟩, .int .i64 0, .int .i64 0, .int .i64 0, .slice none 0 0, .slice none 0 0, .slice none 0 0, .bool false, .slice none 0 0, .slice none 0 0], .int .i64 y]))) := by
   show OutB _ _ _ _
   rw [HE.out]
   exact ⟨noBndC, rfl, noBnd_is _ _⟩
  clear hld hth hXR hgR hsR hkR HE HR hy C3 HR1 HSS
  go_wp2_with (first | (refine wpList_store_mid rfl 26 _ _ rfl w1.heap.size 0 #[.slice pi ni ci, .string s0, .string s1, .string s2, .string s3, .slice pw nw cw, .slice pg ng cg] rfl rfl HTH.out sz_qry (by simp [Value.oneCell']) ?_; rw [show WA.setCells w1.heap.size 0 (#[.slice pi ni ci, .string s0, .string s1, .string s2, .string s3, .slice pw nw cw, .slice pg ng cg] : Array Value).toList = V1 from HV1.out]) | (refine wpList_store_mid rfl 32 _ _ rfl w.heap.size 0 #[.string ⟨#[]⟩, .string ⟨#[]⟩, .int .i64 0, .int .i64 0, .int .i64 0, .slice none 0 0, .slice none 0 0, .slice none 0 0, .bool false, .slice none 0 0, .slice none 0 0] rfl rfl HT2.out sz_bnd (by simp [Value.oneCell']) ?_; rw [HXR.out]))
  refine bodyPost_ret (v := .tuple #[.agg #[.string ⟨#[]⟩, .string ⟨#[]⟩, .int .i64 0, .int .i64 0, .int .i64 0, .slice none 0 0, .slice none 0 0, .slice none 0 0, .bool false, .slice none 0 0, .slice none 0 0], .int .i64 y]) (by simp only [results, results20]; simp [asAddr, Act.put, HLD2.out]) rfl ?_
  exact ⟨HOUT.out, HBR.out⟩
 have yy : (y != 0) = false := by rw [hy]; rfl
 have HE : Hid (R = bindP q l) := by show _ = _; rw [HR.out, if_neg (by simp [hy])]
 clear HR hy
 go_wp2_with (first | (refine wpList_store_mid rfl 26 _ _ rfl w1.heap.size 0 #[.slice pi ni ci, .string s0, .string s1, .string s2, .string s3, .slice pw nw cw, .slice pg ng cg] rfl rfl HTH.out sz_qry (by simp [Value.oneCell']) ?_; rw [show WA.setCells w1.heap.size 0 (#[.slice pi ni ci, .string s0, .string s1, .string s2, .string s3, .slice pw nw cw, .slice pg ng cg] : Array Value).toList = V1 from HV1.out]) | (refine wpList_load_mid rfl 26 _ rfl w1.heap.size 0 rfl _ _ HR1.out underlying26 rfl sz_qry ?_))
 refine C3.out.mono ?_
 rintro e w3 ⟨⟨v, rfl, hbi⟩, hb3⟩
 obtain ⟨pw1, pg1, pi1, pn1, pk1, cw1, cg1, ci1, cn1, ck1, rfl, h1, h2, h3, h4, h5⟩ := hbi
 obtain ⟨b, hb⟩ := gen ((resB (bindP q l)).1)
 obtain ⟨er, her⟩ := gen ((resB (bindP q l)).2)
 rw [hb] at h1 h2 h3 h4 h5
 rw [her, hb]
 obtain ⟨t0, ht0⟩ := bya b.t
 obtain ⟨t1, ht1⟩ := bya b.j
 obtain ⟨bd, hbd⟩ := gen b.d
 obtain ⟨ba, hba⟩ := gen b.a
 obtain ⟨bb, hbb⟩ := gen b.b
 obtain ⟨br, hbr⟩ := gen b.r
 obtain ⟨n1, hn1⟩ := gen b.w.length
 obtain ⟨n2, hn2⟩ := gen b.g.length
 obtain ⟨n3, hn3⟩ := gen b.i.length
 obtain ⟨n4, hn4⟩ := gen b.n.length
 obtain ⟨n5, hn5⟩ := gen b.k.length
 have hbc : bndC b pw1 pg1 pi1 pn1 pk1 cw1 cg1 ci1 cn1 ck1 = (#[.string t0, .string t1, .int .i64 bd, .int .i64 ba, .int .i64 bb, .slice pw1 n1 cw1, .slice pg1 n2 cg1, .slice pi1 n3 ci1, .bool br, .slice pn1 n4 cn1, .slice pk1 n5 ck1]).toList := by unfold bndC; rw [ht0, ht1, hbd, hba, hbb, hbr, hn1, hn2, hn3, hn4, hn5]
 have hbc2 : (bndC b pw1 pg1 pi1 pn1 pk1 cw1 cg1 ci1 cn1 ck1).toArray = #[.string t0, .string t1, .int .i64 bd, .int .i64 ba, .int .i64 bb, .slice pw1 n1 cw1, .slice pg1 n2 cg1, .slice pi1 n3 ci1, .bool br, .slice pn1 n4 cn1, .slice pk1 n5 ck1] := by rw [hbc]
 have hg3 := (hb3.block _ HSS.out.2.2).trans HSS.out.2.1
 have hbw3 : Below w.heap.size w w3 := HSS.out.1.trans (hb3.mono HSS.out.1.size)
 obtain ⟨hth, XR, hXR, hgR, hsR, hkR⟩ := put_all w3 w.heap.size _ 32 hg3 (#[.string t0, .string t1, .int .i64 bd, .int .i64 ba, .int .i64 bb, .slice pw1 n1 cw1, .slice pg1 n2 cg1, .slice pi1 n3 ci1, .bool br, .slice pn1 n4 cn1, .slice pk1 n5 ck1]).toList rfl
 have HBR := hid (put_below hbw3 hkR hsR (by omega))
 have HT2 : Hid (w3.there w.heap.size 0 11) := hth
 have HXR : Hid (w3.setCells w.heap.size 0 (#[.string t0, .string t1, .int .i64 bd, .int .i64 ba, .int .i64 bb, .slice pw1 n1 cw1, .slice pg1 n2 cg1, .slice pi1 n3 ci1, .bool br, .slice pn1 n4 cn1, .slice pk1 n5 ck1] : Array Value).toList = XR) := hXR
 have hld : (loadVar 32 ⟨w.heap.size, 0, none⟩).run prog XR = .ok (.agg #[.string t0, .string t1, .int .i64 bd, .int .i64 ba, .int .i64 bb, .slice pw1 n1 cw1, .slice pg1 n2 cg1, .slice pi1 n3 ci1, .bool br, .slice pn1 n4 cn1, .slice pk1 n5 ck1]) XR := run_loadVar_mid (P := prog) XR w.heap.size 0 32 (#[.string t0, .string t1, .int .i64 bd, .int .i64 ba, .int .i64 bb, .slice pw1 n1 cw1, .slice pg1 n2 cg1, .slice pi1 n3 ci1, .bool br, .slice pn1 n4 cn1, .slice pk1 n5 ck1]).toList _ (rgz hgR) underlying32 rfl sz_bnd
 have HLD2 := hid hld
 have hlt : ∀ x, From V1.heap.size w3 x → From w.heap.size XR x := fun x hx => ⟨by have := hx.1; have := HSS.out.2.2; omega, by have := hx.2; omega⟩
 have hkk : Kept (From V1.heap.size w3) w3 XR := hkR.less fun x hx => by show x ≠ _; have := hx.1; have := HSS.out.2.2; omega
 have HOUT : Hid (OutB w.heap.size XR R (.returned (.tuple #[.agg #[.string t0, .string t1, .int .i64 bd, .int .i64 ba, .int .i64 bb, .slice pw1 n1 cw1, .slice pg1 n2 cg1, .slice pi1 n3 ci1, .bool br, .slice pn1 n4 cn1, .slice pk1 n5 ck1], .int .i64 er]))) := by
  show OutB _ _ _ _
  rw [HE.out]
  refine ⟨bndC b pw1 pg1 pi1 pn1 pk1 cw1 cg1 ci1 cn1 ck1, by rw [hbc2, her], pw1, pg1, pi1, pn1, pk1, cw1, cg1, ci1, cn1, ck1, by rw [hb], ?_, ?_, ?_, ?_, ?_⟩
  · rw [hb]; exact h1.mono mStpW hlt hkk
  · rw [hb]; exact h2.mono mInt hlt hkk
  · rw [hb]; exact h3.mono mItmW hlt hkk
  · rw [hb]; exact h4.mono mStrW hlt hkk
  · rw [hb]; exact h5.mono mKnd hlt hkk
 rw [hbc2]
 clear h1 h2 h3 h4 h5 hb her ht0 ht1 hbd hba hbb hbr hn1 hn2 hn3 hn4 hn5 hbc hbc2 hg3 hbw3 hb3 hld hth hXR hgR hsR hkR hlt hkk HE C3 HR1 HSS HTH HV1 hWA
 go_wp2_with (refine wpList_store_mid rfl 32 _ _ rfl w.heap.size 0 #[.string t0, .string t1, .int .i64 bd, .int .i64 ba, .int .i64 bb, .slice pw1 n1 cw1, .slice pg1 n2 cg1, .slice pi1 n3 ci1, .bool br, .slice pn1 n4 cn1, .slice pk1 n5 ck1] rfl rfl HT2.out sz_bnd (by simp [Value.oneCell']) ?_; rw [HXR.out])
 refine bodyPost_ret (v := .tuple #[.agg #[.string t0, .string t1, .int .i64 bd, .int .i64 ba, .int .i64 bb, .slice pw1 n1 cw1, .slice pg1 n2 cg1, .slice pi1 n3 ci1, .bool br, .slice pn1 n4 cn1, .slice pk1 n5 ck1], .int .i64 er]) (by simp only [results, results20]; simp [asAddr, Act.put, HLD2.out]) rfl ?_
 exact ⟨HOUT.out, HBR.out⟩
end Go.Proofs.YtfifphfihdhlaaaGreatDoor.Bd

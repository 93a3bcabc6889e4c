/- A query whose columns have their tables ahead is bound as the one without: the walk of the law. -/
import Derived.Test.YtfifphfihdhlaaaGreatDoorQbTk
import Derived.Test.YtfifphfihdhlaaaGreatDoorElErEpEq
import Derived.Test.YtfifphfihdhlaaaGreatDoorEkEaEe
import Derived.Test.YtfifphfihdhlaaaGreatDoorDe
set_option maxRecDepth 100000
set_option maxHeartbeats 32000000
namespace Go.Proofs.YtfifphfihdhlaaaGreatDoor.Bd
open Tryz
open Go.Shelf Go.RowKit Go.Lib Go.Sort
set_option linter.unusedVariables false
set_option linter.unusedSimpArgs false
attribute [local go_sem ↓] Go.wp_at_zero Go.wp_at_succ
theorem put_below2 {B : Nat} {w V X : World} {g : Nat} (h : Below B w V) (hk : Kept (fun b => b ≠ g) V X) (hs : X.heap.size = V.heap.size) (hg : B ≤ g) : Below B w X :=
 ⟨hk.os.trans h.os, hk.tape.trans h.tape, hk.output.trans h.output, by have := h.size; omega, fun b hb => (hk.block b (by show b ≠ _; omega)).trans (h.block b hb)⟩
theorem names_walk (pi pw pg : Option Addr) (ci cw cg : Nat) (q : Qry) (pt : Option Addr) (ct : Nat) (l : List Tab) (w : World) (h : QLsW (fun b => b < w.heap.size) w pi pw pg ci cw cg q) (ht : ListIs rTab 3 64 (fun b => b < w.heap.size) w (.slice pt l.length ct) l) (hG : GA w) :
 Calls prog 4 #[.agg (q.cl (.slice pi q.i.length ci) (.slice pw q.w.length cw) (.slice pg q.g.length cg)), .slice pt l.length ct] w fun e w' => e = .returned (.bool true) ∧ Bl w w' := by
 obtain ⟨s0, hs0⟩ := bya q.t
 obtain ⟨s1, hs1⟩ := bya q.j
 obtain ⟨s2, hs2⟩ := bya q.a
 obtain ⟨s3, hs3⟩ := bya q.b
 obtain ⟨ni, hni⟩ := gen q.i.length
 obtain ⟨nw, hnw⟩ := gen q.w.length
 obtain ⟨ng, hng⟩ := gen q.g.length
 obtain ⟨n, hn⟩ := gen l.length
 have hcl : q.cl (.slice pi q.i.length ci) (.slice pw q.w.length cw) (.slice pg q.g.length cg) = #[.slice pi ni ci, .string s0, .string s1, .string s2, .string s3, .slice pw nw cw, .slice pg ng cg] := by unfold Qry.cl; rw [hs0, hs1, hs2, hs3, hni, hnw, hng]
 have HQN : Hid (((⟨q.t.toArray⟩ : ByteArray) = s0 ∧ (⟨q.j.toArray⟩ : ByteArray) = s1 ∧ s2.data.toList = q.a ∧ s3.data.toList = q.b) ∧ s1.toList = q.j ∧ q.i.length = ni ∧ q.w.length = nw ∧ q.g.length = ng) := ⟨⟨hs0, hs1, by rw [← hs2], by rw [← hs3]⟩, by rw [← hs1]; simp [Lib.toList_data], hni, hnw, hng⟩
 obtain ⟨W0, hW0⟩ := gen (w.alloc (.cells #[.slice pi ni ci, .string s0, .string s1, .string s2, .string s3, .slice pw nw cw, .slice pg ng cg] 26))
 have hb0 : Bl w W0 := by rw [← hW0]; exact below_alloc _ _
 have hg0 : W0.heap[w.heap.size]? = some (.cells #[.slice pi ni ci, .string s0, .string s1, .string s2, .string s3, .slice pw nw cw, .slice pg ng cg] 26 (0, 0)) := by rw [← hW0]; exact heap_alloc_new w _
 have hz0 : W0.heap.size = w.heap.size + 1 := by rw [← hW0]; simp
 have HN : Hid (l.length = n) := hn
 have HL : Hid (∀ V, Bl w V → ListIs rTab 3 64 (fun b => b < w.heap.size) V (.slice pt n ct) l) := fun V hV => by
  have := ht.later mTab (fun b hb => hb) hV
  rwa [hn] at this
 have HQL : Hid (∀ V, Bl w V → QLsW (fun b => b < w.heap.size) V pi pw pg ci cw cg q) := fun V hV => h.below (fun b hb => hb) hV
 have C0 := hid (lives_any W0 (hG.below hb0))
 have CB : Hid (∀ V, Bl w V → Calls prog 10 #[.agg #[.slice pi ni ci, .string s0, .string s1, .string s2, .string s3, .slice pw nw cw, .slice pg ng cg], .slice pt n ct] V fun e w' => OutB V.heap.size w' (bindP q l) e ∧ Bl V w') := fun V hV => by
  have := bind_any (fun b => b < w.heap.size) (fun b => b < w.heap.size) pi pw pg ci cw cg q pt ct l V (h.below (fun b hb => hb) hV) (fun b hb => nlt hb hV.size) (ht.later mTab (fun b hb => hb) hV) (fun b hb => nlt hb hV.size) (hG.below hV).gw
  rwa [hcl, hn] at this
 have CF : Hid (∀ V, Bl w V → ∀ (s : ByteArray), s.size ≤ 140737488355328 → Calls prog 15 #[.string s, .agg #[.slice pi ni ci, .string s0, .string s1, .string s2, .string s3, .slice pw nw cw, .slice pg ng cg], .slice pt n ct] V fun e w' => e = .returned (.string ⟨(fullP q.t q.j l s.data.toList).toArray⟩) ∧ Bl V w') := fun V hV s hs => by
  have := full_any (fun b => b < w.heap.size) pt ct l q.t q.j (.slice pi ni ci) (.string s2) (.string s3) (.slice pw nw cw) (.slice pg ng cg) s V hs (ht.later mTab (fun b hb => hb) hV) (fun b hb => nlt hb hV.size)
  rwa [hs0, hs1, hn] at this
 have CS : Hid (∀ V, Bl w V → ∀ (pe : Option Addr) (ce : Nat) (e : List Stp), ListIs rStpW 3 32 (fun b => b < w.heap.size) V (.slice pe e.length ce) e → SmallE q l e → Calls prog 16 #[.slice pe e.length ce, .agg #[.slice pi ni ci, .string s0, .string s1, .string s2, .string s3, .slice pw nw cw, .slice pg ng cg], .slice pt n ct] V fun x w' => StpE V.heap.size w' (e.map (fullS q.t q.j l)) x ∧ Bl V w') := fun V hV pe ce e he hs => by
  have := fsteps_any (fun b => b < w.heap.size) (fun b => b < w.heap.size) pt ct l q.t q.j (.slice pi ni ci) (.string s2) (.string s3) (.slice pw nw cw) (.slice pg ng cg) pe ce e V he (fun b hb => nlt hb hV.size) hs.1 hs.2 (ht.later mTab (fun b hb => hb) hV) (fun b hb => nlt hb hV.size)
  rwa [hs0, hs1, hn] at this
 have HS23 : Hid (s2.size ≤ 140737488355328 ∧ s3.size ≤ 140737488355328) := ⟨by rw [← hs2]; show q.a.toArray.size ≤ _; simpa using h.la, by rw [← hs3]; show q.b.toArray.size ≤ _; simpa using h.lb⟩
 have HLTJ : Hid (q.t.length ≤ 140737488355328 ∧ q.j.length ≤ 140737488355328) := ⟨h.lt, h.lj⟩
 have HGA := hid hG
 have HG0 : Hid (∀ V, Bl W0 V → V.rangeAt w.heap.size 0 (#[.slice pi ni ci, .string s0, .string s1, .string s2, .string s3, .slice pw nw cw, .slice pg ng cg] : Array Value).toList ∧ Bl w V) := fun V hV => ⟨rgz ((hV.block _ (by omega)).trans hg0), hb0.trans (hV.mono (by omega))⟩
 have HZ0 : Hid (w.heap.size < W0.heap.size) := by show _ < _; omega
 rw [hcl, hn]
 clear h ht hG hs0 hs1 hs2 hs3 hni hnw hng hn hcl hg0 hz0 hb0
 go_enter func4, ntmps4
 go_wp2_with (rw [hW0])
 refine C0.out.mono ?_
 rintro e w1 ⟨rfl, hb1⟩
 have HB1 : Hid (Bl W0 w1) := hb1
 have HRQ := hid (HG0.out w1 hb1).1
 have HBW := hid (HG0.out w1 hb1).2
 have C1 := hid (CB.out w1 HBW.out)
 clear C0 hb1 hW0
 go_wp2_with (refine wpList_load_mid rfl 26 _ rfl w.heap.size 0 rfl _ _ HRQ.out underlying26 rfl sz_qry ?_)
 obtain ⟨r, hr⟩ := gen (bindP q l)
 have HR := hid hr
 rw [hr] at C1
 clear hr
 refine C1.out.mono ?_
 rintro e w2 ⟨⟨v, rfl, hbi⟩, hb2⟩
 obtain ⟨bB, hbB⟩ := gen ((resB r).1)
 obtain ⟨er, her⟩ := gen ((resB r).2)
 obtain ⟨pw_a, pg_a, pi_a, pn_a, pk_a, cw_a, cg_a, ci_a, cn_a, ck_a, rfl, h1, h2, h3, h4, h5⟩ := hbi
 rw [hbB] at h1 h2 h3 h4 h5
 rw [hbB, her]
 obtain ⟨t0, ht0⟩ := bya bB.t
 obtain ⟨t1, ht1⟩ := bya bB.j
 obtain ⟨bd, hbd⟩ := gen bB.d
 obtain ⟨ba, hba⟩ := gen bB.a
 obtain ⟨bb, hbb⟩ := gen bB.b
 obtain ⟨br, hbr⟩ := gen bB.r
 obtain ⟨n1, hn1⟩ := gen bB.w.length
 obtain ⟨n2, hn2⟩ := gen bB.g.length
 obtain ⟨n3, hn3⟩ := gen bB.i.length
 obtain ⟨n4, hn4⟩ := gen bB.n.length
 obtain ⟨n5, hn5⟩ := gen bB.k.length
 have HNM : Hid (∀ pw pg pi pn pk cw cg ci cn ck, (bndC bB pw pg pi pn pk cw cg ci cn ck).toArray = #[.string t0, .string t1, .int .i64 bd, .int .i64 ba, .int .i64 bb, .slice pw n1 cw, .slice pg n2 cg, .slice pi n3 ci, .bool br, .slice pn n4 cn, .slice pk n5 ck]) := fun pw pg pi pn pk cw cg ci cn ck => by unfold bndC; rw [ht0, ht1, hbd, hba, hbb, hbr, hn1, hn2, hn3, hn4, hn5]
 rw [HNM.out]
 obtain ⟨WA, hWA, hth, V2, hV2, hgV, hbV⟩ := box_any w2 32 #[.string ⟨#[]⟩, .string ⟨#[]⟩, .int .i64 0, .int .i64 0, .int .i64 0, .slice none 0 0, .slice none 0 0, .slice none 0 0, .bool false, .slice none 0 0, .slice none 0 0] [.string t0, .string t1, .int .i64 bd, .int .i64 ba, .int .i64 bb, .slice pw_a n1 cw_a, .slice pg_a n2 cg_a, .slice pi_a n3 ci_a, .bool br, .slice pn_a n4 cn_a, .slice pk_a n5 ck_a] rfl
 have HTH : Hid (WA.there w2.heap.size 0 11) := hth
 have HV2 : Hid (WA.setCells w2.heap.size 0 (#[.string t0, .string t1, .int .i64 bd, .int .i64 ba, .int .i64 bb, .slice pw_a n1 cw_a, .slice pg_a n2 cg_a, .slice pi_a n3 ci_a, .bool br, .slice pn_a n4 cn_a, .slice pk_a n5 ck_a] : Array Value).toList = V2) := hV2
 have hb12 : Bl w1 V2 := hb2.trans (hbV.mono hb2.size)
 have HBV2 : Hid (Bl w V2) := HBW.out.trans (hb12.mono HBW.out.size)
 have HB02 : Hid (Bl W0 V2) := HB1.out.trans (hb12.mono HB1.out.size)
 have HLA : Hid (∀ X, Bl V2 X → X.rangeAt w2.heap.size 0 (#[.string t0, .string t1, .int .i64 bd, .int .i64 ba, .int .i64 bb, .slice pw_a n1 cw_a, .slice pg_a n2 cg_a, .slice pi_a n3 ci_a, .bool br, .slice pn_a n4 cn_a, .slice pk_a n5 ck_a] : Array Value).toList ∧ ListIs rStpW 3 32 (fun b => b < w2.heap.size) X (.slice pw_a bB.w.length cw_a) bB.w ∧ ListIs rInt 1 8 (fun b => b < w2.heap.size) X (.slice pg_a bB.g.length cg_a) bB.g ∧ ListIs rItmW 2 32 (fun b => b < w2.heap.size) X (.slice pi_a bB.i.length ci_a) bB.i ∧ ListIs rStrW 1 16 (fun b => b < w2.heap.size) X (.slice pn_a bB.n.length cn_a) bB.n ∧ ListIs rKnd 1 1 (fun b => b < w2.heap.size) X (.slice pk_a bB.k.length ck_a) bB.k ∧ w2.heap.size ≤ X.heap.size) := fun X hX => by
  have hwX : Bl w2 X := hbV.trans (hX.mono hbV.size)
  have hk : ∀ b, From w1.heap.size w2 b → b < w2.heap.size := fun b hb => hb.2
  have hkk := kept_of (K := From w1.heap.size w2) (fun b hb => hb.2) hwX
  exact ⟨rgz ((hX.block _ (gsi hgV).1).trans hgV), h1.mono mStpW hk hkk, h2.mono mInt hk hkk, h3.mono mItmW hk hkk, h4.mono mStrW hk hkk, h5.mono mKnd hk hkk, hwX.size⟩
 have HBQ : Hid (∀ X, Bl V2 X → X.rangeAt w.heap.size 0 (#[.slice pi ni ci, .string s0, .string s1, .string s2, .string s3, .slice pw nw cw, .slice pg ng cg] : Array Value).toList ∧ Bl w X) := fun X hX => HG0.out X (HB02.out.trans (hX.mono HB02.out.size))
 cases r with
 | error x =>
  have hx : er = x := her.symm
  have hx0 : (x != 0) = true := bne_iff_ne.2 (bind_err HR.out)
  subst hx
  clear h1 h2 h3 h4 h5 hbB her ht0 ht1 hbd hba hbb hbr hn1 hn2 hn3 hn4 hn5 hth hV2 hgV hbV hb2 hb12 C1 HLA
  go_wp2_with (refine wpList_store_mid rfl 32 _ _ rfl w2.heap.size 0 #[.string t0, .string t1, .int .i64 bd, .int .i64 ba, .int .i64 bb, .slice pw_a n1 cw_a, .slice pg_a n2 cg_a, .slice pi_a n3 ci_a, .bool br, .slice pn_a n4 cn_a, .slice pk_a n5 ck_a] rfl rfl HTH.out sz_bnd (by simp [Value.oneCell']) ?_; rw [HV2.out])
  go_ret
  exact ⟨rfl, HBV2.out⟩
 | ok bnd =>
  have hx : er = 0 := her.symm
  subst hx
  have hb3 : bnd = bB := hbB
  subst hb3
  have HNS := hid (names_small HR.out)
  have HFB := hid (full_bound HR.out)
  have x0 : ((0 : Int) != 0) = false := by decide
  have HRQ2 := hid (HBQ.out V2 (Below.refl _ _)).1
  obtain ⟨WB, hWB, hthP, V3, hV3, hgP, hbP⟩ := box_any V2 26 #[.slice none 0 0, .string ⟨#[]⟩, .string ⟨#[]⟩, .string ⟨#[]⟩, .string ⟨#[]⟩, .slice none 0 0, .slice none 0 0] [.slice pi ni ci, .string s0, .string s1, .string s2, .string s3, .slice pw nw cw, .slice pg ng cg] rfl
  have HTHP : Hid (WB.there V2.heap.size 0 7) := hthP
  have HV3 : Hid (WB.setCells V2.heap.size 0 (#[.slice pi ni ci, .string s0, .string s1, .string s2, .string s3, .slice pw nw cw, .slice pg ng cg] : Array Value).toList = V3) := hV3
  obtain ⟨P, hP⟩ := gen V2.heap.size
  have HPZ : Hid (V2.heap.size = P) := hP
  obtain ⟨D, hD⟩ := gen V3.drew
  have hbD3 : Bl V3 D := by rw [← hD]; exact (Below.refl _ _).drew
  have HBD : Hid (Bl V2 D) := hbP.trans (hbD3.mono hbP.size)
  have hgPD : D.heap[P]? = some (.cells #[.slice pi ni ci, .string s0, .string s1, .string s2, .string s3, .slice pw nw cw, .slice pg ng cg] 26 (0, 0)) := by rw [← hP]; exact (hbD3.block _ (gsi hgP).1).trans hgP
  have HGPD := hid hgPD
  have HPD : Hid (P < D.heap.size) := (gsi hgPD).1
  have HSALL : Hid (∀ V, Bl D V → V.cell? ⟨w.heap.size, 3, none⟩ = some (.string s2) ∧ V.cell? ⟨w.heap.size, 4, none⟩ = some (.string s3) ∧ V.rangeAt w.heap.size 0 (#[.slice pi ni ci, .string s0, .string s1, .string s2, .string s3, .slice pw nw cw, .slice pg ng cg] : Array Value).toList) := fun V hV => by
   have hr := (HBQ.out V (HBD.out.trans (hV.mono HBD.out.size))).1
   exact ⟨hr 3 _ rfl, hr 4 _ rfl, hr⟩
  have HSD := hid (HSALL.out D (Below.refl _ _))
  obtain ⟨fa, hfa⟩ := bya (fullP q.t q.j l q.a)
  obtain ⟨fb, hfb⟩ := bya (fullP q.t q.j l q.b)
  have HFAB : Hid ((⟨(fullP q.t q.j l q.a).toArray⟩ : ByteArray) = fa ∧ (⟨(fullP q.t q.j l q.b).toArray⟩ : ByteArray) = fb) := ⟨hfa, hfb⟩
  have CA : Hid (Calls prog 15 #[.string s2, .agg #[.slice pi ni ci, .string s0, .string s1, .string s2, .string s3, .slice pw nw cw, .slice pg ng cg], .slice pt n ct] D fun e w' => e = .returned (.string fa) ∧ Bl D w') := by
   have := CF.out D (HBQ.out D HBD.out).2 s2 HS23.out.1
   rwa [HQN.out.1.2.2.1, hfa] at this
  have CBB : Hid (∀ V, Bl D V → Calls prog 15 #[.string s3, .agg #[.slice pi ni ci, .string s0, .string s1, .string s2, .string s3, .slice pw nw cw, .slice pg ng cg], .slice pt n ct] V fun e w' => e = .returned (.string fb) ∧ Bl V w') := fun V hV => by
   have := CF.out V (HBQ.out V (HBD.out.trans (hV.mono HBD.out.size))).2 s3 HS23.out.2
   rwa [HQN.out.1.2.2.2, hfb] at this
  rw [hP] at HTHP HV3
  clear h1 h2 h3 h4 h5 hbB her ht0 ht1 hbd hba hbb hbr hn1 hn2 hn3 hn4 hn5 hth hV2 hgV hbV hb2 hb12 C1 hthP hV3 hgP hbP hbD3 hgPD hfa hfb
  go_wp2_with (first | (refine wpList_store_mid rfl 32 _ _ rfl w2.heap.size 0 #[.string t0, .string t1, .int .i64 bd, .int .i64 ba, .int .i64 bb, .slice pw_a n1 cw_a, .slice pg_a n2 cg_a, .slice pi_a n3 ci_a, .bool br, .slice pn_a n4 cn_a, .slice pk_a n5 ck_a] rfl rfl HTH.out sz_bnd (by simp [Value.oneCell']) ?_; rw [HV2.out]) | (refine wpList_load_mid rfl 26 _ rfl w.heap.size 0 rfl _ _ HRQ2.out underlying26 rfl sz_qry ?_) | (refine wpList_store_mid rfl 26 _ _ rfl P 0 #[.slice pi ni ci, .string s0, .string s1, .string s2, .string s3, .slice pw nw cw, .slice pg ng cg] rfl rfl HTHP.out sz_qry (by simp [Value.oneCell']) ?_; rw [show WB.setCells P 0 (#[.slice pi ni ci, .string s0, .string s1, .string s2, .string s3, .slice pw nw cw, .slice pg ng cg] : Array Value).toList = V3 from HV3.out]))
  refine wp_region_held_drew (S := (fun V => V.cell? ⟨w.heap.size, 3, none⟩ = some (.string s2) ∧ V.cell? ⟨w.heap.size, 4, none⟩ = some (.string s3) ∧ V.rangeAt w.heap.size 0 (#[.slice pi ni ci, .string s0, .string s1, .string s2, .string s3, .slice pw nw cw, .slice pg ng cg] : Array Value).toList)) (by kernel_rfl) (by rw [hD]; exact HSD.out) (fun hHeld => ?_)
  refine tk0 0 (.pointer (some ⟨w.heap.size, 3, none⟩)) rfl hHeld ?_
  refine tk 1 (.string s2) rfl (.inl ⟨by rfl, fun W hW => by obtain ⟨g1, g2, g3⟩ := hW; go_simp⟩) hHeld ?_
  refine tk 2 (.agg #[.slice pi ni ci, .string s0, .string s1, .string s2, .string s3, .slice pw nw cw, .slice pg ng cg]) rfl (yieldsIf_load_mid (by rfl) 26 (.tmp 2) rfl (w.heap.size) (0) rfl (#[.slice pi ni ci, .string s0, .string s1, .string s2, .string s3, .slice pw nw cw, .slice pg ng cg] : Array Value).toList _ (fun W hW => hW.2.2) underlying26 rfl sz_qry) hHeld ?_
  refine tk0 3 (.slice pt n ct) rfl hHeld ?_
  refine tk0 5 (.pointer (some ⟨w.heap.size, 4, none⟩)) rfl hHeld ?_
  refine tk 6 (.string s3) rfl (.inl ⟨by rfl, fun W hW => by obtain ⟨g1, g2, g3⟩ := hW; go_simp⟩) hHeld ?_
  refine tk 7 (.agg #[.slice pi ni ci, .string s0, .string s1, .string s2, .string s3, .slice pw nw cw, .slice pg ng cg]) rfl (yieldsIf_load_mid (by rfl) 26 (.tmp 2) rfl (w.heap.size) (0) rfl (#[.slice pi ni ci, .string s0, .string s1, .string s2, .string s3, .slice pw nw cw, .slice pg ng cg] : Array Value).toList _ (fun W hW => hW.2.2) underlying26 rfl sz_qry) hHeld ?_
  refine tk0 8 (.slice pt n ct) rfl hHeld ?_
  simp only [Act.put, List.getElem_toArray, List.getElem_cons_zero, List.getElem_cons_succ, List.setIfInBounds_toArray, List.set_cons_zero, List.set_cons_succ]
  rw [hD] at hHeld ⊢
  clear hD
  refine wpAnyH_ready (rs := [4]) (by kernel_rfl) (by simp) ?_
  refine AllReadyH.cons rfl (fun K' hK => ?_) AllReadyH.nil
  rw [if_pos (by rfl)]
  go_simp
  go_at_call 15
  refine CA.out.mono ?_
  rintro e w4 ⟨rfl, hb4⟩
  have HS4 := hid (HSALL.out w4 hb4)
  have HB4 := hid hb4
  have C5 := hid (CBB.out w4 hb4)
  clear CA CBB hb4
  refine hK.out _ _ HS4.out (fun hHeld => ?_)
  clear hK K'
  refine tk0 10 (.pointer (some ⟨P, 3, none⟩)) rfl hHeld ?_
  simp only [Act.put, List.getElem_toArray, List.getElem_cons_zero, List.getElem_cons_succ, List.setIfInBounds_toArray, List.set_cons_zero, List.set_cons_succ]
  refine wpAnyH_ready (rs := [9]) (by kernel_rfl) (by simp) ?_
  refine AllReadyH.cons rfl (fun K' hK => ?_) AllReadyH.nil
  rw [if_pos (by rfl)]
  go_simp
  go_at_call 15
  refine C5.out.mono ?_
  rintro e w5 ⟨rfl, hb5⟩
  have HS5 := hid (HSALL.out w5 (HB4.out.trans (hb5.mono HB4.out.size)))
  have hb5D : Bl D w5 := HB4.out.trans (hb5.mono HB4.out.size)
  have hbV5 : Bl V2 w5 := HBD.out.trans (hb5D.mono HBD.out.size)
  have hg5 := (hb5D.block _ HPD.out).trans HGPD.out
  obtain ⟨⟨u3, cu3⟩, fu3, X3, hX3, hgX3, hsX3, hkX3⟩ := put_one w5 P 3 _ 26 hg5 (by simp) (.string fa)
  obtain ⟨⟨u4, cu4⟩, fu4, X4, hX4, hgX4, hsX4, hkX4⟩ := put_one X3 P 4 _ 26 hgX3 (by simp) (.string fb)
  have hbX3 := put_below2 hbV5 hkX3 hsX3 (by have := HPZ.out; omega)
  have HBX4 : Hid (Bl V2 X4) := put_below2 hbX3 hkX4 hsX4 (by have := HPZ.out; omega)
  have HSQ : Hid (∀ V, Bl V2 V → V.cell? ⟨w.heap.size, 3, none⟩ = some (.string s2) ∧ V.cell? ⟨w.heap.size, 4, none⟩ = some (.string s3) ∧ V.rangeAt w.heap.size 0 (#[.slice pi ni ci, .string s0, .string s1, .string s2, .string s3, .slice pw nw cw, .slice pg ng cg] : Array Value).toList) := fun V hV => by
   have hr := (HBQ.out V hV).1
   exact ⟨hr 3 _ rfl, hr 4 _ rfl, hr⟩
  have HSX3 := hid (HSQ.out X3 hbX3)
  have HSX4 := hid (HSQ.out X4 HBX4.out)
  have HGX4 : Hid (X4.heap[P]? = some (.cells ([.slice pi ni ci, .string s0, .string s1, .string fa, .string fb, .slice pw nw cw, .slice pg ng cg] : List Value).toArray 26 (0, 0))) := hgX4
  clear C5 hb5 hb5D hbV5 hg5 hgX3 hsX3 hkX3 hgX4 hsX4 hkX4 hbX3
  refine hK.out _ _ HS5.out (fun hHeld => ?_)
  clear hK K'
  refine wpAnyH_ready (rs := [11]) (by kernel_rfl) (by simp) ?_
  refine AllReadyH.cons rfl (fun K' hK => ?_) AllReadyH.nil
  rw [if_pos (by rfl)]
  go_simp
  refine hK.out _ _ HSX3.out (fun hHeld => ?_)
  clear hK K'
  refine tk0 12 (.pointer (some ⟨P, 4, none⟩)) rfl hHeld ?_
  simp only [Act.put, List.getElem_toArray, List.getElem_cons_zero, List.getElem_cons_succ, List.setIfInBounds_toArray, List.set_cons_zero, List.set_cons_succ]
  refine wpAnyH_ready (rs := [13]) (by kernel_rfl) (by simp) ?_
  refine AllReadyH.cons rfl (fun K' hK => ?_) AllReadyH.nil
  rw [if_pos (by rfl)]
  go_simp
  refine hK.out _ _ HSX4.out (fun hHeld => ?_)
  clear hK K'
  refine wpAnyH_done (by kernel_rfl) ?_ _
  clear u3 cu3 fu3 hX3 u4 cu4 fu4 hX4 hHeld HS4 HS5 HSX3 HSX4
  have hsq : ∃ (Y0 : World) (ga gb : ByteArray), (⟨(fullQ q l).a.toArray⟩ : ByteArray) = ga ∧ (⟨(fullQ q l).b.toArray⟩ : ByteArray) = gb ∧ Y0.heap[P]? = some (.cells ([.slice pi ni ci, .string s0, .string s1, .string ga, .string gb, .slice pw nw cw, .slice pg ng cg] : List Value).toArray 26 (0, 0)) ∧ Bl V2 Y0 ∧ (q.j = [] → ∃ Y1, ((∃ u, X4.cell? ⟨P, 3, none⟩ = some u) ∧ X4.frozen? ⟨P, 3, none⟩ = false ∧ X4.setCell ⟨P, 3, none⟩ (.string ⟨#[]⟩) = Y1) ∧ ((∃ u, Y1.cell? ⟨P, 4, none⟩ = some u) ∧ Y1.frozen? ⟨P, 4, none⟩ = false ∧ Y1.setCell ⟨P, 4, none⟩ (.string ⟨#[]⟩) = Y0)) ∧ (q.j ≠ [] → Y0 = X4) := by
   by_cases hj : q.j = []
   · obtain ⟨q1, q2, Y1, hY1, hgY1, hsY1, hkY1⟩ := put_one X4 P 3 _ 26 HGX4.out (by simp) (.string ⟨#[]⟩)
     obtain ⟨r1, r2, Y0, hY0, hgY0, hsY0, hkY0⟩ := put_one Y1 P 4 _ 26 hgY1 (by simp) (.string ⟨#[]⟩)
     have hp : V2.heap.size ≤ P := by have := HPZ.out; omega
     have ea : (fullQ q l).a = [] := if_pos hj
     have eb : (fullQ q l).b = [] := if_pos hj
     exact ⟨Y0, ⟨#[]⟩, ⟨#[]⟩, by rw [ea], by rw [eb], hgY0, put_below2 (put_below2 HBX4.out hkY1 hsY1 hp) hkY0 hsY0 hp, fun _ => ⟨Y1, ⟨q1, q2, hY1⟩, r1, r2, hY0⟩, fun h => absurd hj h⟩
   · have ea : (fullQ q l).a = fullP q.t q.j l q.a := if_neg hj
     have eb : (fullQ q l).b = fullP q.t q.j l q.b := if_neg hj
     exact ⟨X4, fa, fb, by rw [ea]; exact HFAB.out.1, by rw [eb]; exact HFAB.out.2, HGX4.out, HBX4.out, fun h => absurd h hj, fun _ => rfl⟩
  obtain ⟨Y0, ga, gb, hga, hgb, hgY, hbY, hy1, hy2⟩ := hsq
  have HGAB : Hid ((⟨(fullQ q l).a.toArray⟩ : ByteArray) = ga ∧ (⟨(fullQ q l).b.toArray⟩ : ByteArray) = gb) := ⟨hga, hgb⟩
  have HGY := hid hgY
  have HBY := hid hbY
  have HRY := hid (HBQ.out Y0 hbY).1
  have d5 : Y0.cell? ⟨w.heap.size, 5, none⟩ = some (.slice pw nw cw) := HRY.out 5 _ rfl
  have d2 : X4.cell? ⟨w.heap.size, 2, none⟩ = some (.string s1) := (HSQ.out X4 HBX4.out).2.2 2 _ rfl
  have CW : Hid (Calls prog 16 #[.slice pw nw cw, .agg #[.slice pi ni ci, .string s0, .string s1, .string s2, .string s3, .slice pw nw cw, .slice pg ng cg], .slice pt n ct] Y0 fun x w' => StpE Y0.heap.size w' (q.w.map (fullS q.t q.j l)) x ∧ Bl Y0 w') := by
   have := CS.out Y0 (HBQ.out Y0 hbY).2 pw cw q.w (HQL.out Y0 (HBQ.out Y0 hbY).2).lw HNS.out.1
   rwa [HQN.out.2.2.2.1] at this
  obtain ⟨i0, hi0, hiz, his, hib⟩ := inE_itm
  obtain ⟨i9, hi9, hz9, hs9, hb9⟩ := inE_str
  clear hga hgb hgY hbY
  by_cases hj : q.j = []
  all_goals
   first
   | (obtain ⟨Y1, ⟨⟨u1, cu1⟩, fu1, hY1⟩, ⟨u2, cu2⟩, fu2, hY2⟩ := hy1 hj; have t1 : (s1.toList == (⟨#[]⟩ : ByteArray).toList) = true := (by rw [HQN.out.2.1, hj, empty_toList]; rfl); have t2 : (s1.toList == []) = true := (by rw [HQN.out.2.1, hj]; rfl))
   | (have hh := hy2 hj; subst hh; have t1 : (s1.toList == (⟨#[]⟩ : ByteArray).toList) = false := (by rw [HQN.out.2.1, empty_toList]; exact bfn hj); have t2 : (s1.toList == []) = false := (by rw [HQN.out.2.1]; exact bfn hj))
   clear hy1 hy2 hj
   go_wp2_with ((with_reducible (show wpList _ _ _ (Oper.mk _ (.load _ _) _ _ _ none :: _) _ _)); refine wpList_load_mid rfl 26 _ rfl w.heap.size 0 rfl _ _ HRY.out underlying26 rfl sz_qry ?_)
   clear t1 t2 d2
   refine CW.out.mono ?_
   rintro e w10 ⟨⟨pW, cW, rfl, hlW⟩, hb10⟩
   have hmW : (q.w.map (fullS q.t q.j l)).length = nw := by rw [List.length_map]; exact HQN.out.2.2.2.1
   rw [hmW] at hlW ⊢
   have hPY : P < Y0.heap.size := (gsi HGY.out).1
   have hg10 := (hb10.block _ hPY).trans HGY.out
   obtain ⟨⟨v5, cv5⟩, fv5, A1, hA1, hgA1, hsA1, hkA1⟩ := put_one w10 P 5 _ 26 hg10 (by simp) (.slice pW nw cW)
   obtain ⟨⟨v0, cv0⟩, fv0, A2, hA2, hgA2, hsA2, hkA2⟩ := put_one A1 P 0 _ 26 hgA1 (by simp) (.slice none 0 0)
   obtain ⟨⟨v6, cv6⟩, fv6, Y, hA3, hgA3, hsA3, hkA3⟩ := put_one A2 P 6 _ 26 hgA2 (by simp) (.slice none 0 0)
   have hp : V2.heap.size ≤ P := by have := HPZ.out; omega
   have hbw10 : Bl V2 w10 := HBY.out.trans (hb10.mono HBY.out.size)
   have HBYY : Hid (Bl V2 Y) := put_below2 (put_below2 (put_below2 hbw10 hkA1 hsA1 hp) hkA2 hsA2 hp) hkA3 hsA3 hp
   have HPY : Hid (Y.heap[P]? = some (.cells ([.slice none 0 0, .string s0, .string s1, .string ga, .string gb, .slice pW nw cW, .slice none 0 0] : List Value).toArray 26 (0, 0)) ∧ P < Y.heap.size) := ⟨hgA3, (gsi hgA3).1⟩
   have hkY : Kept (fun b => b ≠ P) w10 Y := (hkA1.trans hkA2).trans hkA3
   have HLW : Hid (ListIs rStpW 3 32 (fun b => b < Y.heap.size ∧ b ≠ P) Y (.slice pW nw cW) (q.w.map (fullS q.t q.j l))) := hlW.mono mStpW (fun b hb => ⟨by have := hb.2; omega, by have := hb.1; omega⟩) (hkY.less fun b hb => by show b ≠ P; have := hb.1; omega)
   have e0 : Y.cell? ⟨w.heap.size, 0, none⟩ = some (.slice pi ni ci) := (HBQ.out Y HBYY.out).1 0 _ rfl
   clear CW hlW hb10 hmW hPY hg10 hgA1 hsA1 hkA1 hgA2 hsA2 hkA2 hgA3 hsA3 hkA3 hbw10 hkY d5 HRY
   go_wp2_with fail
   clear v5 cv5 fv5 hA1 v0 cv0 fv0 hA2 v6 cv6 fv6 hA3 e0
   go_loopg [53] ni (fun gf s53 wx => ∃ (i cI : Nat) (aI : Option Addr), s53 = .int .i64 i ∧ i ≤ ni ∧ ni ≤ i + gf ∧ Hid (Bl V2 wx) ∧ Hid (Kept (fun b => b < Y.heap.size ∧ b ≠ P) Y wx) ∧ Hid (wx.heap[P]? = some (.cells ([.slice aI i cI, .string s0, .string s1, .string ga, .string gb, .slice pW nw cW, .slice none 0 0] : List Value).toArray 26 (0, 0))) ∧ Hid (OwnR rItmW 2 42 Y.heap.size wx (.slice aI i cI) ((q.i.take i).map (fullI q.t q.j l))))
   case atStart => exact ⟨0, 0, none, rfl, by omega, by omega, HBYY, Kept.refl _ _, HPY.out.1, ⟨fun _ => False, [], fun b hb => hb.elim, World.ownsRow_nil _ _ _ _, fun j hj => by simp at hj⟩⟩
   case round =>
    obtain ⟨i, cI, aI, rfl, hi1, hgf, HB, HKY, HP, HO⟩ := hrel
    by_cases hi : i < ni
    · obtain ⟨g', rfl⟩ : ∃ g', gk = g' + 1 := ⟨gk - 1, by omega⟩
      obtain ⟨hRB, hbw⟩ := HBQ.out wr HB.out
      obtain ⟨bi, oi, hqi, -, hci⟩ := itm_w (HQL.out wr hbw).li (by have := HQN.out.2.2.1; omega)
      subst hqi
      have hil : i < q.i.length := by have := HQN.out.2.2.1; omega
      obtain ⟨pe, ce, hri, hle, hg256⟩ := hci i hil
      have hsm := HNS.out.2.2.1 _ (List.getElem_mem hil)
      have hnx : (q.i.take (i + 1)).map (fullI q.t q.j l) = (q.i.take i).map (fullI q.t q.j l) ++ [fullI q.t q.j l q.i[i]] := by rw [List.take_succ_eq_append_getElem hil, List.map_append]; rfl
      obtain ⟨x, hx⟩ := gen (q.i[i])
      rw [hx] at hri hle hg256 hsm hnx
      obtain ⟨L, hL⟩ := gen x.e.length
      obtain ⟨g, hg⟩ : ∃ g : Int, (x.g : Int) = g := ⟨_, rfl⟩
      rw [hL, hg] at hri
      have HRC := hid hri
      have HNX := hid hnx
      obtain ⟨WX, hWX, hth, V4, hV4, hgQ, hbV⟩ := box_any wr 42 #[.int .u8 0, .slice none 0 0] [.int .u8 g, .slice pe L ce] rfl
      have HTX := hid hth
      have HV4 : Hid (WX.setCells wr.heap.size 0 (#[.int .u8 g, .slice pe L ce] : Array Value).toList = V4) := hV4
      obtain ⟨D, hD⟩ := gen V4.drew
      have hbD4 : Bl V4 D := by rw [← hD]; exact (Below.refl _ _).drew
      have hbD : Bl wr D := hbV.trans (hbD4.mono hbV.size)
      have HBDw : Hid (Bl wr D) := hbD
      have HBDV : Hid (Bl V2 D) := HB.out.trans (hbD.mono HB.out.size)
      have hgG := (hbD4.block _ (gsi hgQ).1).trans hgQ
      obtain ⟨G, hG⟩ := gen wr.heap.size
      rw [hG] at HTX HV4 hgG
      have hPl : P < wr.heap.size := (gsi HP.out).1
      have HPG : Hid (P < Y.heap.size ∧ Y.heap.size ≤ wr.heap.size ∧ wr.heap.size = G ∧ G < D.heap.size ∧ w.heap.size < P ∧ V2.heap.size ≤ P) := ⟨HPY.out.2, HKY.out.size, hG, (gsi hgG).1, by have := HB02.out.size; have := HZ0.out; have := HPZ.out; omega, by have := HPZ.out; omega⟩
      have hPD := (hbD.block P hPl).trans HP.out
      have HPD2 := hid hPD
      have HSALL : Hid (∀ V, V.heap[G]? = D.heap[G]? → Bl V2 V → V.cell? ⟨G, 0, none⟩ = some (.int .u8 g) ∧ V.cell? ⟨G, 1, none⟩ = some (.slice pe L ce) ∧ V.rangeAt w.heap.size 0 (#[.slice (some ⟨bi, oi, none⟩) ni ci, .string s0, .string s1, .string s2, .string s3, .slice pw nw cw, .slice pg ng cg] : Array Value).toList) := fun V hV hB => ⟨cell_of_row (k := 0) (hV.trans hgG) rfl, cell_of_row (k := 1) (hV.trans hgG) rfl, (HBQ.out V hB).1⟩
      have HSD := hid (HSALL.out D rfl HBDV.out)
      have CI : Hid (Calls prog 16 #[.slice pe L ce, .agg #[.slice (some ⟨bi, oi, none⟩) ni ci, .string s0, .string s1, .string s2, .string s3, .slice pw nw cw, .slice pg ng cg], .slice pt n ct] D fun y w' => StpE D.heap.size w' (x.e.map (fullS q.t q.j l)) y ∧ Bl D w') := by
       have hbwD := (HBQ.out D HBDV.out).2
       have hleD := hle.mono mStpW (fun _ h => h) (kept_of (K := fun b => b < w.heap.size) (fun b hb => nlt hb hbw.size) hbD)
       have := CS.out D hbwD pe ce x.e hleD hsm
       rwa [hL] at this
      have HOW := hid HO.out
      have HXL : Hid (x.e.length = L ∧ (x.g : Int) = g ∧ x.g < 256) := ⟨hL, hg, hg256⟩
      have p0D : D.cell? ⟨P, 0, none⟩ = some (.slice aI i cI) := cell_of_row hPD (by simp)
      have hlt : ((q.i.take i).map (fullI q.t q.j l)).length = i := by rw [List.length_map, List.length_take]; omega
      have HNI8 : Hid (ni ≤ 8) := by show _ ≤ _; have := HNS.out.2.1; have := HQN.out.2.2.1; omega
      have HLT := hid hlt
      have z0 : (0 : Int) ≤ (i : Int) := by omega
      have z1 : (i : Int) < (ni : Int) := by omega
      clear hRB hbw hci hil hri hle hg256 hsm hnx hx hL hg hth hV4 hgQ hbV hbD4 hbD hgG hPl hPD hlt HB  HP HO
      go_wp2_with (first | ((with_reducible (show wpList _ _ _ (Oper.mk _ (.load _ _) _ _ _ none :: _) _ _)); refine wpList_load_mid rfl 42 _ rfl bi (oi + i * 2) rfl _ _ HRC.out underlying42 rfl sz_item ?_) | ((with_reducible (show wpList _ _ _ (Oper.mk _ (.store _ _ _) _ _ _ none :: _) _ _)); refine wpList_store_mid rfl 42 _ _ rfl G 0 #[.int .u8 g, .slice pe L ce] rfl rfl HTX.out sz_item (by simp [Value.oneCell']) ?_; rw [show WX.setCells G 0 (#[.int .u8 g, .slice pe L ce] : Array Value).toList = V4 from HV4.out]))
      refine wp_region_held_drew (S := (fun V => V.cell? ⟨G, 0, none⟩ = some (.int .u8 g) ∧ V.cell? ⟨G, 1, none⟩ = some (.slice pe L ce) ∧ V.rangeAt w.heap.size 0 (#[.slice (some ⟨bi, oi, none⟩) ni ci, .string s0, .string s1, .string s2, .string s3, .slice pw nw cw, .slice pg ng cg] : Array Value).toList)) (by kernel_rfl) (by rw [hD]; exact HSD.out) (fun hHeld => ?_)
      refine tk0 0 (.pointer (some ⟨P, 0, none⟩)) rfl hHeld ?_
      refine tk0 2 (.pointer (some ⟨G, 0, none⟩)) rfl hHeld ?_
      refine tk 3 (.int .u8 g) rfl (.inl ⟨by rfl, fun W hW => by obtain ⟨g1, g2, g3⟩ := hW; go_simp⟩) hHeld ?_
      refine tk0 4 (.pointer (some ⟨G, 1, none⟩)) rfl hHeld ?_
      refine tk 5 (.slice pe L ce) rfl (.inl ⟨by rfl, fun W hW => by obtain ⟨g1, g2, g3⟩ := hW; go_simp⟩) hHeld ?_
      refine tk 6 (.agg #[.slice (some ⟨bi, oi, none⟩) ni ci, .string s0, .string s1, .string s2, .string s3, .slice pw nw cw, .slice pg ng cg]) rfl (yieldsIf_load_mid (by rfl) 26 (.tmp 2) rfl (w.heap.size) (0) rfl (#[.slice (some ⟨bi, oi, none⟩) ni ci, .string s0, .string s1, .string s2, .string s3, .slice pw nw cw, .slice pg ng cg] : Array Value).toList _ (fun W hW => hW.2.2) underlying26 rfl sz_qry) hHeld ?_
      refine tk0 7 (.slice pt n ct) rfl hHeld ?_
      simp only [Act.put, List.getElem_toArray, List.getElem_cons_zero, List.getElem_cons_succ, List.setIfInBounds_toArray, List.set_cons_zero, List.set_cons_succ]
      rw [hD] at hHeld ⊢
      clear hD
      refine wpAnyH_ready (rs := [1, 8]) (by kernel_rfl) (by simp) ?_
      refine AllReadyH.cons rfl (fun K' hK => ?_) (AllReadyH.cons rfl (fun K' hK => ?_) AllReadyH.nil)
      rw [if_pos (by rfl)]
      go_simp
      first | refine hK.out _ _ HSD.out (fun hHeld => ?_) | refine hK _ _ HSD.out (fun hHeld => ?_)
      clear hK K'
      refine wpAnyH_ready (rs := [8]) (by kernel_rfl) (by simp) ?_
      refine AllReadyH.cons rfl (fun K' hK => ?_) AllReadyH.nil
      all_goals
       rw [if_pos (by rfl)]
       go_simp
       go_at_call 16
       refine CI.out.mono ?_
       rintro y w6 ⟨⟨pm, cm, rfl, hlm⟩, hb6⟩
       have hml : (x.e.map (fullS q.t q.j l)).length = L := by rw [List.length_map]; exact HXL.out.1
       rw [hml] at hlm ⊢
       have HLM : Hid (ListIs rStpW 3 32 (From D.heap.size w6) w6 (.slice pm L cm) (x.e.map (fullS q.t q.j l))) := hlm
       have HB6 : Hid (Bl D w6) := hb6
       have hg6 := hb6.block G HPG.out.2.2.2.1
       have hbV6 : Bl V2 w6 := HBDV.out.trans (hb6.mono HBDV.out.size)
       have HS6 := hid (HSALL.out w6 hg6 hbV6)
       have hP6 := (hb6.block P (by have := HPG.out; omega)).trans HPD2.out
       have p06 : w6.cell? ⟨P, 0, none⟩ = some (.slice aI i cI) := cell_of_row hP6 (by simp)
       obtain ⟨w7, hw7⟩ := gen (w6.alloc (.cells #[.int .u8 g, .slice pm L cm] 42))
       have hb7 : Bl w6 w7 := by rw [← hw7]; exact below_alloc _ _
       have HS7 := hid (HSALL.out w7 ((hb7.block G (by have := hb6.size; have := HPG.out; omega)).trans hg6) (hbV6.trans (hb7.mono hbV6.size)))
       have p07 : w7.cell? ⟨P, 0, none⟩ = some (.slice aI i cI) := cell_of_row ((hb7.block P (by have := hb6.size; have := HPG.out; omega)).trans hP6) (by simp)
       have hO6 : OwnR rItmW 2 42 Y.heap.size w6 (.slice aI i cI) ((q.i.take i).map (fullI q.t q.j l)) := HOW.out.keep mItmW (HBDw.out.trans (hb6.mono HBDw.out.size))
       have howl := HOW.out.lt
       obtain ⟨v', X3, e3, ho3, hB3, hs3, hk3⟩ := hO6.push mItmW (bytes := 32) (ts := 22) underlying22 hi0 hiz his hib rfl (by omega) (by have := hb6.size; have := HPG.out; omega) (x := fullI q.t q.j l x) (cs := [.int .u8 g, .slice pm L cm]) (K2 := From D.heap.size w6) rfl (by intro c hc; simp at hc; rcases hc with rfl | rfl <;> rfl) (fun b hb => ⟨by have := hb.1; have := HPG.out; omega, hb.2, fun e => by have := howl b e; have := hb.1; have := HPG.out; omega⟩) ⟨.slice pm L cm, by rw [← HXL.out.2.1]; rfl, HLM.out, HXL.out.2.2⟩ (by rw [HLT.out]; have := HNI8.out; omega) (by rw [HLT.out]; unfold maxLen; have := HNI8.out; omega)
       obtain ⟨a3, c3, ev⟩ := ho3.slice
       rw [List.length_append, HLT.out] at ev
       have ev2 : v' = .slice a3 (i + 1) c3 := ev
       subst ev2
       rw [hw7] at e3
       have HE3 := hid e3
       have hown : ∀ b, b < G → Y.heap.size ≤ b ∨ (Value.slice aI i cI).ownBlock ≠ some b := fun b _ => by
        by_cases h : Y.heap.size ≤ b
        · exact .inl h
        · exact .inr (fun e => h (hO6.block b e).1)
       have hoP : (Value.slice aI i cI).ownBlock ≠ some P := fun e => by have := (hO6.block P e).1; have := HPG.out; omega
       have hoG : (Value.slice aI i cI).ownBlock ≠ some G := fun e => by have := howl G e; have := HPG.out; omega
       have hP3 := (hk3 P (by have := hb6.size; have := HPG.out; omega) hoP).trans hP6
       have hG3 := (hk3 G (by have := hb6.size; have := HPG.out; omega) hoG).trans hg6
       have hbV3 : Bl V2 X3 := hB3 _ _ hbV6 (by have := HPG.out; omega)
       have hbY3 : Kept (fun b => b < Y.heap.size ∧ b ≠ P) Y X3 := by
        have hbw3 : Below Y.heap.size w6 X3 := hB3 _ _ (Below.refl _ _) (Nat.le_refl _)
        have hb6w : Bl wr w6 := HBDw.out.trans (hb6.mono HBDw.out.size)
        exact (HKY.out.trans ⟨hb6w.os, hb6w.tape, hb6w.output, hb6w.size, fun b hb => hb6w.block b (by have := hb.1; have := HPG.out; omega)⟩).trans ⟨hbw3.os, hbw3.tape, hbw3.output, hbw3.size, fun b hb => hbw3.block b hb.1⟩
       obtain ⟨⟨uP, cuP⟩, fuP, X4, hX4, hgX4, hsX4, hkX4⟩ := put_one X3 P 0 _ 26 hP3 (by simp) (.slice a3 (i + 1) c3)
       have HS3 := hid (HSALL.out X3 hG3 hbV3)
       have HBX4 : Hid (Bl V2 X4) := put_below2 hbV3 hkX4 hsX4 (by have := HPG.out; omega)
       have HS4 := hid (HSALL.out X4 ((hkX4.block G (by have := HPG.out; show G ≠ P; omega)).trans hG3) HBX4.out)
       have HKY4 : Hid (Kept (fun b => b < Y.heap.size ∧ b ≠ P) Y X4) := hbY3.trans (hkX4.less fun b hb => hb.2)
       have HPX4 : Hid (X4.heap[P]? = some (.cells ([.slice a3 (i + 1) c3, .string s0, .string s1, .string ga, .string gb, .slice pW nw cW, .slice none 0 0] : List Value).toArray 26 (0, 0))) := hgX4
       have HO4 : Hid (OwnR rItmW 2 42 Y.heap.size X4 (.slice a3 (i + 1) c3) ((q.i.take (i + 1)).map (fullI q.t q.j l))) := by
        show OwnR _ _ _ _ _ _ _
        rw [HNX.out]
        exact ho3.kept mItmW (hkX4.less fun b hb => by have := HPG.out; show b ≠ P; omega)
       clear CI hlm hml hb6 hg6 hbV6 hP6 hb7 hO6 howl e3 ho3 hB3 hs3 hk3 ev hown hoP hoG hP3 hG3 hbV3 hbY3 hgX4 hsX4 hkX4
       first | refine hK.out _ _ HS6.out (fun hHeld => ?_) | refine hK _ _ HS6.out (fun hHeld => ?_)
       clear hK K'
       refine tk0 9 (.agg #[.int .u8 g, .slice pm L cm]) rfl hHeld ?_
       simp only [Act.put, List.getElem_toArray, List.getElem_cons_zero, List.getElem_cons_succ, List.setIfInBounds_toArray, List.set_cons_zero, List.set_cons_succ]
      refine wpAnyH_ready (rs := [10]) (by kernel_rfl) (by simp) ?_
      refine AllReadyH.cons rfl (fun K' hK => ?_) AllReadyH.nil
      rotate_left
      refine wpAnyH_ready (rs := [1, 10]) (by kernel_rfl) (by simp) ?_
      refine AllReadyH.cons rfl (fun K' hK => ?_) (AllReadyH.cons rfl (fun K' hK => ?_) AllReadyH.nil)
      rw [if_pos (by rfl)]
      go_simp
      first | refine hK.out _ _ HS6.out (fun hHeld => ?_) | refine hK _ _ HS6.out (fun hHeld => ?_)
      clear hK K'
      refine wpAnyH_ready (rs := [10]) (by kernel_rfl) (by simp) ?_
      refine AllReadyH.cons rfl (fun K' hK => ?_) AllReadyH.nil
      all_goals
       rw [if_pos (by rfl)]
       go_simp
       try rw [hw7]
       first | refine hK.out _ _ HS7.out (fun hHeld => ?_) | refine hK _ _ HS7.out (fun hHeld => ?_)
       clear hK K'
      rotate_left
      refine wpAnyH_ready (rs := [1]) (by kernel_rfl) (by simp) ?_
      refine AllReadyH.cons rfl (fun K' hK => ?_) AllReadyH.nil
      rw [if_pos (by rfl)]
      go_simp
      first | refine hK.out _ _ HS7.out (fun hHeld => ?_) | refine hK _ _ HS7.out (fun hHeld => ?_)
      clear hK K'
      all_goals
       refine wpAnyH_ready (rs := [11]) (by kernel_rfl) (by simp) ?_
       refine AllReadyH.cons rfl (fun K' hK => ?_) AllReadyH.nil
       rw [if_pos (by rfl)]
       refine wp_append_run (.tmp 58) (.tmp 67) 22 22 rfl (.slice aI i cI) (.slice (some ⟨w6.heap.size, 0, none⟩) 1 1) rfl rfl _ _ HE3.out ?_
       simp only [Act.put, List.getElem_toArray, List.getElem_cons_zero, List.getElem_cons_succ, List.setIfInBounds_toArray, List.set_cons_zero, List.set_cons_succ]
       first | refine hK.out _ _ HS3.out (fun hHeld => ?_) | refine hK _ _ HS3.out (fun hHeld => ?_)
       clear hK K'
       refine tk0 12 (.pointer (some ⟨P, 0, none⟩)) rfl hHeld ?_
       simp only [Act.put, List.getElem_toArray, List.getElem_cons_zero, List.getElem_cons_succ, List.setIfInBounds_toArray, List.set_cons_zero, List.set_cons_succ]
       refine wpAnyH_ready (rs := [13]) (by kernel_rfl) (by simp) ?_
       refine AllReadyH.cons rfl (fun K' hK => ?_) AllReadyH.nil
       rw [if_pos (by rfl)]
       go_simp
       first | refine hK.out _ _ HS4.out (fun hHeld => ?_) | refine hK _ _ HS4.out (fun hHeld => ?_)
       clear hK K'
       refine wpAnyH_done (by kernel_rfl) ?_ _
       clear p0D p06 p07 hw7 uP cuP fuP hX4
       have hn8 : ni ≤ 8 := HNI8.out
       go_wp2_with fail
       go_roundg g'
       case measure => omega
       case rel => exact ⟨i + 1, c3, a3, by go_num, by omega, by omega, HBX4, HKY4, HPX4, HO4⟩
    · have z1 : ¬ (i : Int) < (ni : Int) := by omega
      obtain rfl : ni = i := by omega
      obtain ⟨Z, hZ⟩ : ∃ V, V = wr := ⟨_, rfl⟩
      subst hZ
      have HBZ := hid HB.out
      have HKYZ := hid HKY.out
      have HPZL : Hid (P < Z.heap.size) := (gsi HP.out).1
      have HOZ : Hid (OwnR rItmW 2 42 Y.heap.size Z (.slice aI ni cI) (q.i.map (fullI q.t q.j l))) := by
       have := HO.out
       rwa [List.take_of_length_le (by have := HQN.out.2.2.1; omega)] at this
      have HPZ0 : Hid (Z.heap[P]? = some (.cells ([.slice aI ni cI, .string s0, .string s1, .string ga, .string gb, .slice pW nw cW, .slice none 0 0] : List Value).toArray 26 (0, 0))) := HP.out
      have e6 : Z.cell? ⟨w.heap.size, 6, none⟩ = some (.slice pg ng cg) := (HBQ.out Z HB.out).1 6 _ rfl
      clear HB HKY HP HO
      go_wp2_with fail
      clear e6
      go_loopg [74] ng (fun gf s74 wx => ∃ (k cG : Nat) (aG : Option Addr), s74 = .int .i64 k ∧ k ≤ ng ∧ ng ≤ k + gf ∧ Hid (Bl V2 wx) ∧ Hid (Kept (fun b => b < Z.heap.size ∧ b ≠ P) Z wx) ∧ Hid (wx.heap[P]? = some (.cells ([.slice aI ni cI, .string s0, .string s1, .string ga, .string gb, .slice pW nw cW, .slice aG k cG] : List Value).toArray 26 (0, 0))) ∧ Hid (OwnK (fun _ => False) rStrW 1 9 Z.heap.size wx (.slice aG k cG) ((q.g.take k).map (fullP q.t q.j l))))
      case atStart => exact ⟨0, 0, none, rfl, by omega, by omega, HBZ, Kept.refl _ _, HPZ0, ⟨[], World.ownsRow_nil _ _ _ _, fun j hj => by simp at hj⟩⟩
      case round =>
       clear z1 hi1 hgf
       obtain ⟨k, cG, aG, rfl, hi1, hgf, HB, HKZ, HP, HO⟩ := hrel
       by_cases hk : k < ng
       · obtain ⟨g', rfl⟩ : ∃ g', gk = g' + 1 := ⟨gk - 1, by omega⟩
         obtain ⟨hRB, hbw⟩ := HBQ.out wr HB.out
         have hil : k < q.g.length := by have := HQN.out.2.2.2.2; omega
         obtain ⟨bg, og, hqg, -, hcg⟩ := cell_list (HQL.out wr hbw).lg (by omega)
         subst hqg
         obtain ⟨cs, hrg, hcs, hsz⟩ := hcg k hil
         have hfl := HNS.out.2.2.2.2.1 _ (List.getElem_mem hil)
         have hnx : (q.g.take (k + 1)).map (fullP q.t q.j l) = (q.g.take k).map (fullP q.t q.j l) ++ [fullP q.t q.j l q.g[k]] := by rw [List.take_succ_eq_append_getElem hil, List.map_append]; rfl
         obtain ⟨x, hx⟩ := gen (q.g[k])
         rw [hx] at hcs hsz hfl hnx
         obtain ⟨gS, hgS⟩ := bya x
         rw [hcs, hgS] at hrg
         have c0 := hrg 0 _ rfl
         simp only [Nat.add_zero, Nat.mul_one] at c0
         have HNX := hid hnx
         obtain ⟨D, hD⟩ := gen wr.drew
         have hbD : Bl wr D := by rw [← hD]; exact (Below.refl _ _).drew
         have HBDw : Hid (Bl wr D) := hbD
         have HBDV : Hid (Bl V2 D) := HB.out.trans (hbD.mono HB.out.size)
         have hPl : P < wr.heap.size := (gsi HP.out).1
         have HPG : Hid (P < Z.heap.size ∧ Z.heap.size ≤ wr.heap.size ∧ wr.heap.size ≤ D.heap.size ∧ V2.heap.size ≤ P ∧ V2.heap.size ≤ Z.heap.size) := ⟨HPZL.out, HKZ.out.size, hbD.size, by have := HPZ.out; omega, HBZ.out.size⟩
         have hPD := (hbD.block P hPl).trans HP.out
         have HPD2 := hid hPD
         have HSALL : Hid (∀ V, Bl V2 V → V.rangeAt w.heap.size 0 (#[.slice pi ni ci, .string s0, .string s1, .string s2, .string s3, .slice pw nw cw, .slice (some ⟨bg, og, none⟩) ng cg] : Array Value).toList) := fun V hB => (HBQ.out V hB).1
         have HSD := hid (HSALL.out D HBDV.out)
         obtain ⟨fS, hfS⟩ := bya (fullP q.t q.j l x)
         have CI : Hid (Calls prog 15 #[.string gS, .agg #[.slice pi ni ci, .string s0, .string s1, .string s2, .string s3, .slice pw nw cw, .slice (some ⟨bg, og, none⟩) ng cg], .slice pt n ct] D fun y w' => y = .returned (.string fS) ∧ Bl D w') := by
          have := CF.out D (HBQ.out D HBDV.out).2 gS (by rw [← hgS]; show x.toArray.size ≤ _; simpa using hsz)
          rwa [show gS.data.toList = x by rw [← hgS], hfS] at this
         have HOW := hid HO.out
         have HFS : Hid ((⟨(fullP q.t q.j l x).toArray⟩ : ByteArray) = fS ∧ (fullP q.t q.j l x).length ≤ 140737488355328) := ⟨hfS, hfl⟩
         have p0D : D.cell? ⟨P, 6, none⟩ = some (.slice aG k cG) := cell_of_row hPD (by simp)
         have hlt : ((q.g.take k).map (fullP q.t q.j l)).length = k := by rw [List.length_map, List.length_take]; omega
         have HNG8 : Hid (ng ≤ 8) := by show _ ≤ _; have := HNS.out.2.2.2.1; have := HQN.out.2.2.2.2; omega
         have HLT := hid hlt
         have HKZ0 := hid HKZ.out
         have z0 : (0 : Int) ≤ (k : Int) := by omega
         have z1 : (k : Int) < (ng : Int) := by omega
         clear hRB hbw hil hcg hrg hcs hsz hfl hnx hx hgS hbD hPl hPD hfS hlt HB HP HO HKZ
         go_wp2_with fail
         refine wp_region_held_drew (S := (fun V => V.rangeAt w.heap.size 0 (#[.slice pi ni ci, .string s0, .string s1, .string s2, .string s3, .slice pw nw cw, .slice (some ⟨bg, og, none⟩) ng cg] : Array Value).toList)) (by kernel_rfl) (by rw [hD]; exact HSD.out) (fun hHeld => ?_)
         refine tk0 0 (.pointer (some ⟨P, 6, none⟩)) rfl hHeld ?_
         refine tk0 2 (.string gS) rfl hHeld ?_
         refine tk 3 (.agg #[.slice pi ni ci, .string s0, .string s1, .string s2, .string s3, .slice pw nw cw, .slice (some ⟨bg, og, none⟩) ng cg]) rfl (yieldsIf_load_mid (by rfl) 26 (.tmp 2) rfl (w.heap.size) (0) rfl (#[.slice pi ni ci, .string s0, .string s1, .string s2, .string s3, .slice pw nw cw, .slice (some ⟨bg, og, none⟩) ng cg] : Array Value).toList _ (fun W hW => hW) underlying26 rfl sz_qry) hHeld ?_
         refine tk0 4 (.slice pt n ct) rfl hHeld ?_
         simp only [Act.put, List.getElem_toArray, List.getElem_cons_zero, List.getElem_cons_succ, List.setIfInBounds_toArray, List.set_cons_zero, List.set_cons_succ]
         rw [hD] at hHeld ⊢
         clear hD
         refine wpAnyH_ready (rs := [1, 5]) (by kernel_rfl) (by simp) ?_
         refine AllReadyH.cons rfl (fun K' hK => ?_) (AllReadyH.cons rfl (fun K' hK => ?_) AllReadyH.nil)
         rw [if_pos (by rfl)]
         go_simp
         first | refine hK.out _ _ HSD.out (fun hHeld => ?_) | refine hK _ _ HSD.out (fun hHeld => ?_)
         clear hK K'
         refine wpAnyH_ready (rs := [5]) (by kernel_rfl) (by simp) ?_
         refine AllReadyH.cons rfl (fun K' hK => ?_) AllReadyH.nil
         all_goals
          rw [if_pos (by rfl)]
          go_simp
          go_at_call 15
          refine CI.out.mono ?_
          rintro y w6 ⟨rfl, hb6⟩
          have HB6 : Hid (Bl D w6) := hb6
          have hbV6 : Bl V2 w6 := HBDV.out.trans (hb6.mono HBDV.out.size)
          have HS6 := hid (HSALL.out w6 hbV6)
          have hP6 := (hb6.block P (by have := HPG.out; omega)).trans HPD2.out
          have p06 : w6.cell? ⟨P, 6, none⟩ = some (.slice aG k cG) := cell_of_row hP6 (by simp)
          obtain ⟨w7, hw7⟩ := gen (w6.alloc (.cells #[.string fS] 9))
          have hb7 : Bl w6 w7 := by rw [← hw7]; exact below_alloc _ _
          have HS7 := hid (HSALL.out w7 (hbV6.trans (hb7.mono hbV6.size)))
          have p07 : w7.cell? ⟨P, 6, none⟩ = some (.slice aG k cG) := cell_of_row ((hb7.block P (by have := hb6.size; have := HPG.out; omega)).trans hP6) (by simp)
          have hbwr6 : Bl wr w6 := HBDw.out.trans (hb6.mono HBDw.out.size)
          have hO6 : OwnK (fun _ => False) rStrW 1 9 Z.heap.size w6 (.slice aG k cG) ((q.g.take k).map (fullP q.t q.j l)) := own_keep fStrW HOW.out fun g cur hg => hbwr6.block g (gsi hg).1
          obtain ⟨v', X3, e3, ho3, hk3⟩ := hO6.push mStrW (bytes := 16) (ts := 24) underlying24 hi9 hz9 hs9 hb9 rfl (by omega) (by have := hb6.size; have := HPG.out; omega) (x := fullP q.t q.j l x) (cs := [.string fS]) rfl (by intro c hc; simp at hc; subst hc; rfl) (fun b hb => hb.elim) ⟨by rw [HFS.out.1], HFS.out.2⟩ (by rw [HLT.out]; have := HNG8.out; omega) (by rw [HLT.out]; unfold maxLen; have := HNG8.out; omega)
          obtain ⟨a3, c3, ev⟩ := ownF_slice ho3
          rw [List.length_append, HLT.out] at ev
          have ev2 : v' = .slice a3 (k + 1) c3 := ev
          subst ev2
          rw [hw7] at e3
          have HE3 := hid e3
          have hoB : ∀ b, b < Z.heap.size → (Value.slice aG k cG).ownBlock ≠ some b := fun b hb e => by have := (fF hO6 e).1; omega
          have hP3 := (hk3.block P ⟨by have := hb6.size; have := HPG.out; omega, hoB P HPG.out.1⟩).trans hP6
          have hbV3 : Bl V2 X3 := own_below hO6 hk3 hbV6 HPG.out.2.2.2.2 (by have := hb6.size; have := HPG.out; omega)
          have hkZ3 : Kept (fun b => b < Z.heap.size ∧ b ≠ P) Z X3 := (HKZ0.out.trans ⟨hbwr6.os, hbwr6.tape, hbwr6.output, hbwr6.size, fun b hb => hbwr6.block b (by have := hb.1; have := HPG.out; omega)⟩).trans (hk3.less fun b hb => ⟨by have := hb.1; have := hb6.size; have := HPG.out; omega, hoB b hb.1⟩)
          obtain ⟨⟨uP, cuP⟩, fuP, X4, hX4, hgX4, hsX4, hkX4⟩ := put_one X3 P 6 _ 26 hP3 (by simp) (.slice a3 (k + 1) c3)
          have HS3 := hid (HSALL.out X3 hbV3)
          have HBX4 : Hid (Bl V2 X4) := put_below2 hbV3 hkX4 hsX4 (by have := HPG.out; omega)
          have HS4 := hid (HSALL.out X4 HBX4.out)
          have HKZ4 : Hid (Kept (fun b => b < Z.heap.size ∧ b ≠ P) Z X4) := hkZ3.trans (hkX4.less fun b hb => hb.2)
          have HPX4 : Hid (X4.heap[P]? = some (.cells ([.slice aI ni cI, .string s0, .string s1, .string ga, .string gb, .slice pW nw cW, .slice a3 (k + 1) c3] : List Value).toArray 26 (0, 0))) := hgX4
          have HO4 : Hid (OwnK (fun _ => False) rStrW 1 9 Z.heap.size X4 (.slice a3 (k + 1) c3) ((q.g.take (k + 1)).map (fullP q.t q.j l))) := by
           show OwnK _ _ _ _ _ _ _ _
           rw [HNX.out]
           exact own_keep fStrW ho3 fun g cur hg => hkX4.block g (fun e => by subst e; exact blk_ne hg hP3 (by decide) rfl)
          clear CI hb6 hbV6 hP6 hb7 hbwr6 hO6 e3 ho3 hk3 ev hoB hP3 hbV3 hkZ3 hgX4 hsX4 hkX4
          first | refine hK.out _ _ HS6.out (fun hHeld => ?_) | refine hK _ _ HS6.out (fun hHeld => ?_)
          clear hK K'
         refine wpAnyH_ready (rs := [6]) (by kernel_rfl) (by simp) ?_
         refine AllReadyH.cons rfl (fun K' hK => ?_) AllReadyH.nil
         rotate_left
         refine wpAnyH_ready (rs := [1, 6]) (by kernel_rfl) (by simp) ?_
         refine AllReadyH.cons rfl (fun K' hK => ?_) (AllReadyH.cons rfl (fun K' hK => ?_) AllReadyH.nil)
         rw [if_pos (by rfl)]
         go_simp
         first | refine hK.out _ _ HS6.out (fun hHeld => ?_) | refine hK _ _ HS6.out (fun hHeld => ?_)
         clear hK K'
         refine wpAnyH_ready (rs := [6]) (by kernel_rfl) (by simp) ?_
         refine AllReadyH.cons rfl (fun K' hK => ?_) AllReadyH.nil
         all_goals
          rw [if_pos (by rfl)]
          go_simp
          try rw [hw7]
          first | refine hK.out _ _ HS7.out (fun hHeld => ?_) | refine hK _ _ HS7.out (fun hHeld => ?_)
          clear hK K'
         rotate_left
         refine wpAnyH_ready (rs := [1]) (by kernel_rfl) (by simp) ?_
         refine AllReadyH.cons rfl (fun K' hK => ?_) AllReadyH.nil
         rw [if_pos (by rfl)]
         go_simp
         first | refine hK.out _ _ HS7.out (fun hHeld => ?_) | refine hK _ _ HS7.out (fun hHeld => ?_)
         clear hK K'
         all_goals
          refine wpAnyH_ready (rs := [7]) (by kernel_rfl) (by simp) ?_
          refine AllReadyH.cons rfl (fun K' hK => ?_) AllReadyH.nil
          rw [if_pos (by rfl)]
          refine wp_append_run (.tmp 79) (.tmp 84) 24 24 rfl (.slice aG k cG) (.slice (some ⟨w6.heap.size, 0, none⟩) 1 1) rfl rfl _ _ HE3.out ?_
          simp only [Act.put, List.getElem_toArray, List.getElem_cons_zero, List.getElem_cons_succ, List.setIfInBounds_toArray, List.set_cons_zero, List.set_cons_succ]
          first | refine hK.out _ _ HS3.out (fun hHeld => ?_) | refine hK _ _ HS3.out (fun hHeld => ?_)
          clear hK K'
          refine tk0 8 (.pointer (some ⟨P, 6, none⟩)) rfl hHeld ?_
          simp only [Act.put, List.getElem_toArray, List.getElem_cons_zero, List.getElem_cons_succ, List.setIfInBounds_toArray, List.set_cons_zero, List.set_cons_succ]
          refine wpAnyH_ready (rs := [9]) (by kernel_rfl) (by simp) ?_
          refine AllReadyH.cons rfl (fun K' hK => ?_) AllReadyH.nil
          rw [if_pos (by rfl)]
          go_simp
          first | refine hK.out _ _ HS4.out (fun hHeld => ?_) | refine hK _ _ HS4.out (fun hHeld => ?_)
          clear hK K'
          refine wpAnyH_done (by kernel_rfl) ?_ _
          clear p0D p06 p07 hw7 uP cuP fuP hX4
          have hn8 : ng ≤ 8 := HNG8.out
          go_wp2_with fail
          go_roundg g'
          case measure => omega
          case rel => exact ⟨k + 1, c3, a3, by go_num, by omega, by omega, HBX4, HKZ4, HPX4, HO4⟩
       · have z1 : ¬ (k : Int) < (ng : Int) := by omega
         obtain rfl : ng = k := by omega
         obtain ⟨E, hE⟩ : ∃ V, V = wr := ⟨_, rfl⟩
         subst hE
         have hbE := HB.out
         have hbwE := (HBQ.out E hbE).2
         have hPE := HP.out
         have HRP : Hid (E.rangeAt P 0 ([.slice aI ni cI, .string s0, .string s1, .string ga, .string gb, .slice pW nw cW, .slice aG ng cG] : List Value)) := rgz hPE
         have hYZ := HKYZ.out.size
         have hZE := HKZ.out.size
         have hPY := HPY.out.2
         have hl1 : (fullQ q l).i.length = ni := by show (q.i.map _).length = _; rw [List.length_map]; exact HQN.out.2.2.1
         have hl2 : (fullQ q l).w.length = nw := by show (q.w.map _).length = _; rw [List.length_map]; exact HQN.out.2.2.2.1
         have hl3 : (fullQ q l).g.length = ng := by show (q.g.map _).length = _; rw [List.length_map]; exact HQN.out.2.2.2.2
         have hls : QLsW (fun b => b < E.heap.size) E aI pW aG cI cW cG (fullQ q l) := by
          refine ⟨?_, ?_, ?_, HLTJ.out.1, HLTJ.out.2, ?_, ?_⟩
          · obtain ⟨p, c, e, hl⟩ := HOZ.out.list mItmW (bytes := 32) (by rw [List.length_map]; have := HNS.out.2.1; omega)
            have e2 : (q.i.map (fullI q.t q.j l)).length = ni := hl1
            rw [e2] at e hl
            cases e
            rw [hl1]
            exact hl.mono mItmW (fun b hb => by have := hb.2; omega) (HKZ.out.less fun b hb => ⟨hb.2, by have := hb.1; omega⟩)
          · rw [hl2]
            have h1 := HLW.out.mono mStpW (fun _ h => h) HKYZ.out
            exact h1.mono mStpW (fun b hb => by omega) (HKZ.out.less fun b hb => ⟨by have := hb.1; omega, hb.2⟩)
          · rw [hl3]
            have h1 := HO.out
            rw [List.take_of_length_le (by have := HQN.out.2.2.2.2; omega)] at h1
            exact (ownF_list fStrW h1 (bytes := 16) (by rw [List.length_map]; have := HNS.out.2.2.2.1; omega)).mono mStrW (fun b hb => hb.2) (Kept.refl _ _)
          · show (if q.j = [] then [] else fullP q.t q.j l q.a).length ≤ _
            by_cases hj : q.j = []
            · rw [if_pos hj]; simp
            · rw [if_neg hj]; exact (HNS.out.2.2.2.2.2 hj).1
          · show (if q.j = [] then [] else fullP q.t q.j l q.b).length ≤ _
            by_cases hj : q.j = []
            · rw [if_pos hj]; simp
            · rw [if_neg hj]; exact (HNS.out.2.2.2.2.2 hj).2
         have hcl2 : (fullQ q l).cl (.slice aI (fullQ q l).i.length cI) (.slice pW (fullQ q l).w.length cW) (.slice aG (fullQ q l).g.length cG) = #[.slice aI ni cI, .string s0, .string s1, .string ga, .string gb, .slice pW nw cW, .slice aG ng cG] := by
          unfold Qry.cl
          rw [HGAB.out.1, HGAB.out.2, hl1, hl2, hl3, show (⟨(fullQ q l).t.toArray⟩ : ByteArray) = s0 from HQN.out.1.1, show (⟨(fullQ q l).j.toArray⟩ : ByteArray) = s1 from HQN.out.1.2.1]
         have CX : Hid (Calls prog 10 #[.agg #[.slice aI ni cI, .string s0, .string s1, .string ga, .string gb, .slice pW nw cW, .slice aG ng cG], .slice pt n ct] E fun e w' => OutB E.heap.size w' (.ok bnd) e ∧ Bl E w') := by
          have hlt := HL.out E hbwE
          have := bind_any (fun b => b < E.heap.size) (fun b => b < w.heap.size) aI pW aG cI cW cG (fullQ q l) pt ct l E hls (fun b hb => hb) (by rw [HN.out]; exact hlt) (fun b hb => nlt hb hbwE.size) (HGA.out.below hbwE).gw
          rwa [hcl2, HN.out, HFB.out] at this
         have HBE := hid hbE
         clear hbE hbwE hPE hYZ hZE hPY hl1 hl2 hl3 hls hcl2 HB HKZ HP HO
         go_wp2_with ((with_reducible (show wpList _ _ _ (Oper.mk _ (.load _ _) _ _ _ none :: _) _ _)); refine wpList_load_mid rfl 26 _ rfl P 0 rfl _ _ HRP.out underlying26 rfl sz_qry ?_)
         refine CX.out.mono ?_
         rintro e w20 ⟨⟨v, rfl, hbi⟩, hb20⟩
         obtain ⟨pw_c, pg_c, pi_c, pn_c, pk_c, cw_c, cg_c, ci_c, cn_c, ck_c, rfl, h1, h2, h3, h4, h5⟩ := hbi
         simp only [show (resB (.ok bnd)).1 = bnd from rfl, show (resB (.ok bnd)).2 = 0 from rfl] at h1 h2 h3 h4 h5 ⊢
         rw [HNM.out]
         obtain ⟨WC, hWC, hth, V5, hV5, hgV, hbV⟩ := box_any w20 32 #[.string ⟨#[]⟩, .string ⟨#[]⟩, .int .i64 0, .int .i64 0, .int .i64 0, .slice none 0 0, .slice none 0 0, .slice none 0 0, .bool false, .slice none 0 0, .slice none 0 0] [.string t0, .string t1, .int .i64 bd, .int .i64 ba, .int .i64 bb, .slice pw_c n1 cw_c, .slice pg_c n2 cg_c, .slice pi_c n3 ci_c, .bool br, .slice pn_c n4 cn_c, .slice pk_c n5 ck_c] rfl
         have HTC : Hid (WC.there w20.heap.size 0 11) := hth
         have HV5 : Hid (WC.setCells w20.heap.size 0 (#[.string t0, .string t1, .int .i64 bd, .int .i64 ba, .int .i64 bb, .slice pw_c n1 cw_c, .slice pg_c n2 cg_c, .slice pi_c n3 ci_c, .bool br, .slice pn_c n4 cn_c, .slice pk_c n5 ck_c] : Array Value).toList = V5) := hV5
         have hb25 : Bl V2 V5 := HBE.out.trans ((hb20.trans (hbV.mono hb20.size)).mono HBE.out.size)
         have HB25 := hid hb25
         have HRA := hid (HLA.out V5 hb25).1
         have HRC : Hid (V5.rangeAt w20.heap.size 0 (#[.string t0, .string t1, .int .i64 bd, .int .i64 ba, .int .i64 bb, .slice pw_c n1 cw_c, .slice pg_c n2 cg_c, .slice pi_c n3 ci_c, .bool br, .slice pn_c n4 cn_c, .slice pk_c n5 ck_c] : Array Value).toList) := rgz hgV
         have CSM : Hid (Calls prog 11 #[.agg #[.string t0, .string t1, .int .i64 bd, .int .i64 ba, .int .i64 bb, .slice pw_a n1 cw_a, .slice pg_a n2 cg_a, .slice pi_a n3 ci_a, .bool br, .slice pn_a n4 cn_a, .slice pk_a n5 ck_a], .agg #[.string t0, .string t1, .int .i64 bd, .int .i64 ba, .int .i64 bb, .slice pw_c n1 cw_c, .slice pg_c n2 cg_c, .slice pi_c n3 ci_c, .bool br, .slice pn_c n4 cn_c, .slice pk_c n5 ck_c]] V5 fun e w' => e = .returned (.bool true) ∧ Bl V5 w') := by
          obtain ⟨_, x1, x2, x3, x4, x5, x6⟩ := HLA.out V5 hb25
          have hk : ∀ b, From E.heap.size w20 b → b < w20.heap.size := fun b hb => hb.2
          have hkk := kept_of (K := From E.heap.size w20) (fun b hb => hb.2) hbV
          have := same_eqB _ _ bnd pw_a pg_a pi_a pn_a pk_a pw_c pg_c pi_c pn_c pk_c cw_a cg_a ci_a cn_a ck_a cw_c cg_c ci_c cn_c ck_c V5 x1 x2 x3 x4 x5 (h1.mono mStpW hk hkk) (h2.mono mInt hk hkk) (h3.mono mItmW hk hkk) (h4.mono mStrW hk hkk) (h5.mono mKnd hk hkk) (fun b hb => nlt hb x6) (fun b hb => nlt hb hbV.size)
          rwa [HNM.out, HNM.out] at this
         have y0 : ((0 : Int) == 0) = true := by decide
         clear CX h1 h2 h3 h4 h5 hth hV5 hgV hbV hb20 hb25
         go_wp2_with (first | ((with_reducible (show wpList _ _ _ (Oper.mk _ (.store _ _ _) _ _ _ none :: _) _ _)); refine wpList_store_mid rfl 32 _ _ rfl w20.heap.size 0 #[.string t0, .string t1, .int .i64 bd, .int .i64 ba, .int .i64 bb, .slice pw_c n1 cw_c, .slice pg_c n2 cg_c, .slice pi_c n3 ci_c, .bool br, .slice pn_c n4 cn_c, .slice pk_c n5 ck_c] rfl rfl HTC.out sz_bnd (by simp [Value.oneCell']) ?_; rw [HV5.out]) | ((with_reducible (show wpList _ _ _ (Oper.mk _ (.load _ _) _ _ _ _ :: _) _ _)); first | (refine wpList_load_midH (by rfl) 32 _ rfl w2.heap.size 0 rfl _ _ HRA.out underlying32 rfl sz_bnd ?_) | (refine wpList_load_midH (by rfl) 32 _ rfl w20.heap.size 0 rfl _ _ HRC.out underlying32 rfl sz_bnd ?_)))
         refine CSM.out.mono ?_
         rintro e w21 ⟨rfl, hb21⟩
         have HBF : Hid (Bl w w21) := HBV2.out.trans ((HB25.out.trans (hb21.mono HB25.out.size)).mono HBV2.out.size)
         clear CSM hb21
         go_wp2_with fail
         go_ret
         exact ⟨rfl, HBF.out⟩
end Go.Proofs.YtfifphfihdhlaaaGreatDoor.Bd

/- The kinds of what is bound: the walk of the law. -/
import Derived.Test.YtfifphfihdhlaaaGreatDoorEaEdEkEeEf
import Derived.Test.YtfifphfihdhlaaaGreatDoorDe
set_option maxRecDepth 100000
set_option maxHeartbeats 32000000
namespace Go.Proofs.YtfifphfihdhlaaaGreatDoor.Bd
open Tryz
open Go.Shelf Go.RowKit Go.Lib Go.Sort
set_option linter.unusedVariables false
set_option linter.unusedSimpArgs false
attribute [local go_sem ↓] Go.wp_at_zero Go.wp_at_succ
theorem kinds_walk (pi pw pg : Option Addr) (ci cw cg : Nat) (q : Qry) (pt : Option Addr) (ct : Nat) (l : List Tab) (w : World) (h : QLsW (fun b => b < w.heap.size) w pi pw pg ci cw cg q) (ht : ListIs rTab 3 64 (fun b => b < w.heap.size) w (.slice pt l.length ct) l) (hG : GA w) :
 Calls prog 3 #[.agg (q.cl (.slice pi q.i.length ci) (.slice pw q.w.length cw) (.slice pg q.g.length cg)), .slice pt l.length ct] w fun e w' => e = .returned (.bool true) ∧ Below w.heap.size w w' := by
 obtain ⟨s0, hs0⟩ : ∃ s : ByteArray, (⟨q.t.toArray⟩ : ByteArray) = s := ⟨_, rfl⟩
 obtain ⟨s1, hs1⟩ : ∃ s : ByteArray, (⟨q.j.toArray⟩ : ByteArray) = s := ⟨_, rfl⟩
 obtain ⟨s2, hs2⟩ : ∃ s : ByteArray, (⟨q.a.toArray⟩ : ByteArray) = s := ⟨_, rfl⟩
 obtain ⟨s3, hs3⟩ : ∃ s : ByteArray, (⟨q.b.toArray⟩ : ByteArray) = s := ⟨_, rfl⟩
 obtain ⟨ni, hni⟩ : ∃ n, q.i.length = n := ⟨_, rfl⟩
 obtain ⟨nw, hnw⟩ : ∃ n, q.w.length = n := ⟨_, rfl⟩
 obtain ⟨ng, hng⟩ : ∃ n, q.g.length = n := ⟨_, rfl⟩
 obtain ⟨n, hn⟩ : ∃ n, l.length = n := ⟨_, rfl⟩
 have hcl : q.cl (.slice pi q.i.length ci) (.slice pw q.w.length cw) (.slice pg q.g.length cg) = #[.slice pi ni ci, .string s0, .string s1, .string s2, .string s3, .slice pw nw cw, .slice pg ng cg] := by unfold Qry.cl; rw [hs0, hs1, hs2, hs3, hni, hnw, hng]
 have HNI : Hid (q.i.length = ni ∧ q.w.length = nw) := ⟨hni, hnw⟩
 obtain ⟨W0, hW0⟩ : ∃ W, w.alloc (.cells #[.slice pi ni ci, .string s0, .string s1, .string s2, .string s3, .slice pw nw cw, .slice pg ng cg] 26) = W := ⟨_, rfl⟩
 have hb0 : Below w.heap.size w W0 := by rw [← hW0]; exact below_alloc _ _
 have hg0 : W0.heap[w.heap.size]? = some (.cells #[.slice pi ni ci, .string s0, .string s1, .string s2, .string s3, .slice pw nw cw, .slice pg ng cg] 26 (0, 0)) := by rw [← hW0]; exact heap_alloc_new w _
 have hz0 : W0.heap.size = w.heap.size + 1 := by rw [← hW0]; simp
 have HN : Hid (l.length = n) := hn
 have HL : Hid (∀ V, Below w.heap.size w V → ListIs rTab 3 64 (fun b => b < w.heap.size) V (.slice pt n ct) l) := fun V hV => by
  have := ht.later mTab (fun b hb => hb) hV
  rwa [hn] at this
 have C0 := hid (lives_any W0 (hG.below hb0))
 have CB : Hid (∀ V, Below w.heap.size w V → Calls prog 10 #[.agg #[.slice pi ni ci, .string s0, .string s1, .string s2, .string s3, .slice pw nw cw, .slice pg ng cg], .slice pt n ct] V fun e w' => OutB V.heap.size w' (bindP q l) e ∧ Below V.heap.size V w') := fun V hV => by
  have := bind_any (fun b => b < w.heap.size) (fun b => b < w.heap.size) pi pw pg ci cw cg q pt ct l V (h.below (fun b hb => hb) hV) (fun b hb => nlt hb hV.size) (ht.later mTab (fun b hb => hb) hV) (fun b hb => nlt hb hV.size) (hG.below hV).gw
  rwa [hcl, hn] at this
 have HGA := hid hG
 have HG0 : Hid (∀ V, Below W0.heap.size W0 V → V.heap[w.heap.size]? = some (.cells #[.slice pi ni ci, .string s0, .string s1, .string s2, .string s3, .slice pw nw cw, .slice pg ng cg] 26 (0, 0)) ∧ Below w.heap.size w V) := fun V hV => ⟨(hV.block _ (by omega)).trans hg0, hb0.trans (hV.mono (by omega))⟩
 rw [hcl, hn]
 clear h ht hG hs0 hs1 hs2 hs3 hni hnw hng hn hcl hg0 hz0 hb0
 go_enter func3, ntmps3
 go_wp2_with (rw [hW0])
 refine C0.out.mono ?_
 rintro e w1 ⟨rfl, hb1⟩
 have HB1 : Hid (Below W0.heap.size W0 w1) := hb1
 obtain ⟨hg1, hbw1⟩ := HG0.out w1 hb1
 have HRQ : Hid (w1.rangeAt w.heap.size 0 (#[.slice pi ni ci, .string s0, .string s1, .string s2, .string s3, .slice pw nw cw, .slice pg ng cg] : Array Value).toList) := rgz hg1
 have HBW := hid hbw1
 have C1 := hid (CB.out w1 HBW.out)
 clear C0 hb1 hW0 hg1 hbw1
 go_wp2_with (refine wpList_load_mid rfl 26 _ rfl w.heap.size 0 rfl _ _ HRQ.out underlying26 rfl sz_qry ?_)
 obtain ⟨r, hr⟩ : ∃ r, bindP q l = r := ⟨_, rfl⟩
 have HR := hid hr
 rw [hr] at C1
 clear hr
 refine C1.out.mono ?_
 rintro e w2 ⟨⟨v, rfl, hbi⟩, hb2⟩
 obtain ⟨bB, hbB⟩ : ∃ b, (resB r).1 = b := ⟨_, rfl⟩
 obtain ⟨er, her⟩ : ∃ x, (resB r).2 = x := ⟨_, rfl⟩
 obtain ⟨pw_a, pg_a, pi_a, pn_a, pk_a, cw_a, cg_a, ci_a, cn_a, ck_a, rfl, h1, h2, h3, h4, h5⟩ := hbi
 rw [hbB] at h1 h2 h3 h4 h5
 rw [hbB, her]
 cases r with
 | error x =>
  have hx : er = x := her.symm
  have hx0 : (x != 0) = true := bne_iff_ne.2 (bind_err HR.out)
  subst hx
  have hbn : noBnd = bB := hbB
  subst hbn
  have hnm : (bndC noBnd pw_a pg_a pi_a pn_a pk_a cw_a cg_a ci_a cn_a ck_a).toArray = #[.string ⟨#[]⟩, .string ⟨#[]⟩, .int .i64 0, .int .i64 0, .int .i64 0, .slice pw_a 0 cw_a, .slice pg_a 0 cg_a, .slice pi_a 0 ci_a, .bool false, .slice pn_a 0 cn_a, .slice pk_a 0 ck_a] := rfl
  have hnz : (bndC noBnd none none none none none 0 0 0 0 0).toArray = #[.string ⟨#[]⟩, .string ⟨#[]⟩, .int .i64 0, .int .i64 0, .int .i64 0, .slice none 0 0, .slice none 0 0, .slice none 0 0, .bool false, .slice none 0 0, .slice none 0 0] := rfl
  rw [hnm]
  obtain ⟨WA, hWA, hth, V2, hV2, hgV, hbV⟩ := box_any w2 32 #[.string ⟨#[]⟩, .string ⟨#[]⟩, .int .i64 0, .int .i64 0, .int .i64 0, .slice none 0 0, .slice none 0 0, .slice none 0 0, .bool false, .slice none 0 0, .slice none 0 0] [.string ⟨#[]⟩, .string ⟨#[]⟩, .int .i64 0, .int .i64 0, .int .i64 0, .slice pw_a 0 cw_a, .slice pg_a 0 cg_a, .slice pi_a 0 ci_a, .bool false, .slice pn_a 0 cn_a, .slice pk_a 0 ck_a] rfl
  have HTH : Hid (WA.there w2.heap.size 0 11) := hth
  have HV2 : Hid (WA.setCells w2.heap.size 0 (#[.string ⟨#[]⟩, .string ⟨#[]⟩, .int .i64 0, .int .i64 0, .int .i64 0, .slice pw_a 0 cw_a, .slice pg_a 0 cg_a, .slice pi_a 0 ci_a, .bool false, .slice pn_a 0 cn_a, .slice pk_a 0 ck_a] : Array Value).toList = V2) := hV2
  have HON : Hid ((#[.string ⟨#[]⟩, .string ⟨#[]⟩, .int .i64 0, .int .i64 0, .int .i64 0, .slice pw_a 0 cw_a, .slice pg_a 0 cg_a, .slice pi_a 0 ci_a, .bool false, .slice pn_a 0 cn_a, .slice pk_a 0 ck_a] : Array Value).all (·.oneCell') = true) := by show _ = _; simp [Value.oneCell']
  have HBV2 : Hid (Below w.heap.size w V2) := HBW.out.trans ((hb2.trans (hbV.mono hb2.size)).mono HBW.out.size)
  have HGV : Hid (∀ V, Below V2.heap.size V2 V → V.rangeAt w2.heap.size 0 (#[.string ⟨#[]⟩, .string ⟨#[]⟩, .int .i64 0, .int .i64 0, .int .i64 0, .slice pw_a 0 cw_a, .slice pg_a 0 cg_a, .slice pi_a 0 ci_a, .bool false, .slice pn_a 0 cn_a, .slice pk_a 0 ck_a] : Array Value).toList) := fun V hV j u hu => by rw [Nat.zero_add]; exact cell_of_row ((hV.block _ (gsi hgV).1).trans hgV) (by simpa using hu)
  have HRB := hid (HGV.out V2 (Below.refl _ _))
  have hk2 : ∀ b, From w1.heap.size w2 b → b < w2.heap.size := fun b hb => hb.2
  have hkk := kept_of (K := From w1.heap.size w2) (fun b hb => hb.2) hbV
  have g1 := h1.mono mStpW hk2 hkk
  have g2 := h2.mono mInt hk2 hkk
  have g3 := h3.mono mItmW hk2 hkk
  have g4 := h4.mono mStrW hk2 hkk
  have g5 := h5.mono mKnd hk2 hkk
  have CS : Hid (Calls prog 11 #[.agg #[.string ⟨#[]⟩, .string ⟨#[]⟩, .int .i64 0, .int .i64 0, .int .i64 0, .slice pw_a 0 cw_a, .slice pg_a 0 cg_a, .slice pi_a 0 ci_a, .bool false, .slice pn_a 0 cn_a, .slice pk_a 0 ck_a], .agg #[.string ⟨#[]⟩, .string ⟨#[]⟩, .int .i64 0, .int .i64 0, .int .i64 0, .slice none 0 0, .slice none 0 0, .slice none 0 0, .bool false, .slice none 0 0, .slice none 0 0]] V2 fun e w' => e = .returned (.bool true) ∧ Below V2.heap.size V2 w') := by
   have := same_eqB (fun b => b < w2.heap.size) (fun _ => False) noBnd pw_a pg_a pi_a pn_a pk_a none none none none none cw_a cg_a ci_a cn_a ck_a 0 0 0 0 0 V2 g1 g2 g3 g4 g5 (ListIs.nil none 0) (ListIs.nil none 0) (ListIs.nil none 0) (ListIs.nil none 0) (ListIs.nil none 0) (fun b hb => nlt hb hbV.size) (fun b hb => hb.elim)
   rwa [hnm, hnz] at this
  have CR : Hid (∀ V, Below V2.heap.size V2 V → Calls prog 12 #[.agg #[.string ⟨#[]⟩, .string ⟨#[]⟩, .int .i64 0, .int .i64 0, .int .i64 0, .slice pw_a 0 cw_a, .slice pg_a 0 cg_a, .slice pi_a 0 ci_a, .bool false, .slice pn_a 0 cn_a, .slice pk_a 0 ck_a], .slice pt n ct] V fun e w' => e = .returned (.bool false) ∧ Below V.heap.size V w') := fun V hV => by
   have hbw : Below w.heap.size w V := HBV2.out.trans (hV.mono HBV2.out.size)
   have hlt := HL.out V hbw
   have hk3 := kept_of (K := fun b => b < w2.heap.size) (fun b hb => nlt hb hbV.size) hV
   have := bright_any (fun b => b < w2.heap.size) (fun b => b < w.heap.size) noBnd pw_a pg_a pi_a pn_a pk_a cw_a cg_a ci_a cn_a ck_a pt ct l V (g1.mono mStpW (fun _ h => h) hk3) (g2.mono mInt (fun _ h => h) hk3) (g3.mono mItmW (fun _ h => h) hk3) (g4.mono mStrW (fun _ h => h) hk3) (g5.mono mKnd (fun _ h => h) hk3) (fun b hb => by have := hbV.size; have := hV.size; omega) (by rw [HN.out]; exact hlt) (fun b hb => nlt hb hbw.size) (HGA.out.below hbw).gw
   rwa [hnm, right_none, HN.out] at this
  clear h1 h2 h3 h4 h5 hbB her hnm hnz hth hV2 hgV hbV hb2 C1 hk2 hkk g1 g2 g3 g4 g5
  go_wp2_with (first | (refine wpList_store_mid rfl 32 _ _ rfl w2.heap.size 0 #[.string ⟨#[]⟩, .string ⟨#[]⟩, .int .i64 0, .int .i64 0, .int .i64 0, .slice pw_a 0 cw_a, .slice pg_a 0 cg_a, .slice pi_a 0 ci_a, .bool false, .slice pn_a 0 cn_a, .slice pk_a 0 ck_a] rfl rfl HTH.out sz_bnd HON.out ?_; rw [HV2.out]) | (refine wpList_load_mid rfl 32 _ rfl w2.heap.size 0 rfl _ _ HRB.out underlying32 rfl sz_bnd ?_))
  refine CS.out.mono ?_
  rintro e w3 ⟨rfl, hb3⟩
  have HRB3 := hid (HGV.out w3 hb3)
  have C3 := hid (CR.out w3 hb3)
  have HB3 := hid hb3
  clear CS hb3 HRB
  go_wp2_with (refine wpList_load_midH (by rfl) 32 _ rfl w2.heap.size 0 rfl _ _ HRB3.out underlying32 rfl sz_bnd ?_)
  refine C3.out.mono ?_
  rintro e w4 ⟨rfl, hb4⟩
  have HBE : Hid (Below w.heap.size w w4) := HBV2.out.trans ((HB3.out.trans (hb4.mono HB3.out.size)).mono HBV2.out.size)
  clear C3 hb4
  go_wp2_with fail
  go_ret
  exact ⟨rfl, HBE.out⟩
 | ok bnd =>
  have hx : er = 0 := her.symm
  subst hx
  have hb3 : bnd = bB := hbB
  subst hb3
  obtain ⟨hright, hl1, hl2, hl3, hbt, hbj, hww⟩ := bind_right HR.out
  obtain ⟨hC, hitems, hwhere⟩ := right_kinds hright
  obtain ⟨t0, ht0⟩ : ∃ s : ByteArray, (⟨bnd.t.toArray⟩ : ByteArray) = s := ⟨_, rfl⟩
  obtain ⟨t1, ht1⟩ : ∃ s : ByteArray, (⟨bnd.j.toArray⟩ : ByteArray) = s := ⟨_, rfl⟩
  obtain ⟨bd, hbd⟩ : ∃ x, bnd.d = x := ⟨_, rfl⟩
  obtain ⟨ba, hba⟩ : ∃ x, bnd.a = x := ⟨_, rfl⟩
  obtain ⟨bb, hbb⟩ : ∃ x, bnd.b = x := ⟨_, rfl⟩
  obtain ⟨br, hbr⟩ : ∃ x, bnd.r = x := ⟨_, rfl⟩
  obtain ⟨n1, hn1⟩ : ∃ x, bnd.w.length = x := ⟨_, rfl⟩
  obtain ⟨n2, hn2⟩ : ∃ x, bnd.g.length = x := ⟨_, rfl⟩
  obtain ⟨n3, hn3⟩ : ∃ x, bnd.i.length = x := ⟨_, rfl⟩
  have hn4 : bnd.n.length = n3 := hl1.trans hn3
  have hn5 : bnd.k.length = n3 := hl2.trans hn3
  obtain ⟨nc, hnc⟩ : ∃ x, (colsB l bnd.t bnd.j).length = x := ⟨_, rfl⟩
  have hnm : (bndC bnd pw_a pg_a pi_a pn_a pk_a cw_a cg_a ci_a cn_a ck_a).toArray = #[.string t0, .string t1, .int .i64 bd, .int .i64 ba, .int .i64 bb, .slice pw_a n1 cw_a, .slice pg_a n2 cg_a, .slice pi_a n3 ci_a, .bool br, .slice pn_a n3 cn_a, .slice pk_a n3 ck_a] := by unfold bndC; rw [ht0, ht1, hbd, hba, hbb, hbr, hn1, hn2, hn3, hn4, hn5]
  rw [hnm]
  obtain ⟨WA, hWA, hth, V2, hV2, hgV, hbV⟩ := box_any w2 32 #[.string ⟨#[]⟩, .string ⟨#[]⟩, .int .i64 0, .int .i64 0, .int .i64 0, .slice none 0 0, .slice none 0 0, .slice none 0 0, .bool false, .slice none 0 0, .slice none 0 0] [.string t0, .string t1, .int .i64 bd, .int .i64 ba, .int .i64 bb, .slice pw_a n1 cw_a, .slice pg_a n2 cg_a, .slice pi_a n3 ci_a, .bool br, .slice pn_a n3 cn_a, .slice pk_a n3 ck_a] rfl
  have HTH : Hid (WA.there w2.heap.size 0 11) := hth
  have HV2 : Hid (WA.setCells w2.heap.size 0 (#[.string t0, .string t1, .int .i64 bd, .int .i64 ba, .int .i64 bb, .slice pw_a n1 cw_a, .slice pg_a n2 cg_a, .slice pi_a n3 ci_a, .bool br, .slice pn_a n3 cn_a, .slice pk_a n3 ck_a] : Array Value).toList = V2) := hV2
  have HON : Hid ((#[.string t0, .string t1, .int .i64 bd, .int .i64 ba, .int .i64 bb, .slice pw_a n1 cw_a, .slice pg_a n2 cg_a, .slice pi_a n3 ci_a, .bool br, .slice pn_a n3 cn_a, .slice pk_a n3 ck_a] : Array Value).all (·.oneCell') = true) := by show _ = _; simp [Value.oneCell']
  have hb12 : Below w1.heap.size w1 V2 := hb2.trans (hbV.mono hb2.size)
  have HBV2 : Hid (Below w.heap.size w V2) := HBW.out.trans (hb12.mono HBW.out.size)
  have HB02 : Hid (Below W0.heap.size W0 V2) := HB1.out.trans (hb12.mono HB1.out.size)
  have HGV : Hid (∀ V, Below V2.heap.size V2 V → V.heap[w2.heap.size]? = some (.cells #[.string t0, .string t1, .int .i64 bd, .int .i64 ba, .int .i64 bb, .slice pw_a n1 cw_a, .slice pg_a n2 cg_a, .slice pi_a n3 ci_a, .bool br, .slice pn_a n3 cn_a, .slice pk_a n3 ck_a] 32 (0, 0))) := fun V hV => (hV.block _ (gsi hgV).1).trans hgV
  have HRV : Hid (∀ V, Below V2.heap.size V2 V → V.rangeAt w2.heap.size 0 (#[.string t0, .string t1, .int .i64 bd, .int .i64 ba, .int .i64 bb, .slice pw_a n1 cw_a, .slice pg_a n2 cg_a, .slice pi_a n3 ci_a, .bool br, .slice pn_a n3 cn_a, .slice pk_a n3 ck_a] : Array Value).toList) := fun V hV j u hu => by rw [Nat.zero_add]; exact cell_of_row (HGV.out V hV) (by simpa using hu)
  have HRB := hid (HRV.out V2 (Below.refl _ _))
  have HLA : Hid (∀ X, Below V2.heap.size V2 X → ListIs rStpW 3 32 (fun b => b < w2.heap.size) X (.slice pw_a bnd.w.length cw_a) bnd.w ∧ ListIs rInt 1 8 (fun b => b < w2.heap.size) X (.slice pg_a bnd.g.length cg_a) bnd.g ∧ ListIs rItmW 2 32 (fun b => b < w2.heap.size) X (.slice pi_a bnd.i.length ci_a) bnd.i ∧ ListIs rStrW 1 16 (fun b => b < w2.heap.size) X (.slice pn_a bnd.n.length cn_a) bnd.n ∧ ListIs rKnd 1 1 (fun b => b < w2.heap.size) X (.slice pk_a bnd.k.length ck_a) bnd.k ∧ w2.heap.size ≤ X.heap.size) := fun X hX => by
   have hwX : Below w2.heap.size w2 X := hbV.trans (hX.mono hbV.size)
   have hk : ∀ b, From w1.heap.size w2 b → b < w2.heap.size := fun b hb => hb.2
   have hkk := kept_of (K := From w1.heap.size w2) (fun b hb => hb.2) hwX
   exact ⟨h1.mono mStpW hk hkk, h2.mono mInt hk hkk, h3.mono mItmW hk hkk, h4.mono mStrW hk hkk, h5.mono mKnd hk hkk, hwX.size⟩
  have CR : Hid (Calls prog 12 #[.agg #[.string t0, .string t1, .int .i64 bd, .int .i64 ba, .int .i64 bb, .slice pw_a n1 cw_a, .slice pg_a n2 cg_a, .slice pi_a n3 ci_a, .bool br, .slice pn_a n3 cn_a, .slice pk_a n3 ck_a], .slice pt n ct] V2 fun e w' => e = .returned (.bool true) ∧ Below V2.heap.size V2 w') := by
   have hlt := HL.out V2 HBV2.out
   obtain ⟨x1, x2, x3, x4, x5, x6⟩ := HLA.out V2 (Below.refl _ _)
   have := bright_any (fun b => b < w2.heap.size) (fun b => b < w.heap.size) bnd pw_a pg_a pi_a pn_a pk_a cw_a cg_a ci_a cn_a ck_a pt ct l V2 x1 x2 x3 x4 x5 (fun b hb => nlt hb x6) (by rw [HN.out]; exact hlt) (fun b hb => nlt hb HBV2.out.size) (HGA.out.below HBV2.out).gw
   rwa [hnm, hright, HN.out] at this
  have HCC : Hid (∀ V, Below V2.heap.size V2 V → Calls prog 13 #[.agg #[.string t0, .string t1, .int .i64 bd, .int .i64 ba, .int .i64 bb, .slice pw_a n1 cw_a, .slice pg_a n2 cg_a, .slice pi_a n3 ci_a, .bool br, .slice pn_a n3 cn_a, .slice pk_a n3 ck_a], .slice pt n ct] V fun e w' => ColE l bnd.t bnd.j V.heap.size w' e ∧ Below V.heap.size V w') := fun V hV => by
   have hbw : Below w.heap.size w V := HBV2.out.trans (hV.mono HBV2.out.size)
   have hlt := HL.out V hbw
   have := rcols_any (fun b => b < w.heap.size) pt ct l bnd.t bnd.j (.int .i64 bd) (.int .i64 ba) (.int .i64 bb) (.slice pw_a n1 cw_a) (.slice pg_a n2 cg_a) (.slice pi_a n3 ci_a) (.bool br) (.slice pn_a n3 cn_a) (.slice pk_a n3 ck_a) V (by rw [HN.out]; exact hlt) (fun b hb => nlt hb hbw.size) hC
   rwa [ht0, ht1, HN.out] at this
  have HKC : Hid (∀ V, Below V2.heap.size V2 V → ∀ (K Kc : Nat → Prop) (pe pC : Option Addr) (ce cC : Nat) (e : List Stp), ListIs rStpW 3 32 K V (.slice pe e.length ce) e → ListIs rClm 2 24 Kc V (.slice pC nc cC) (colsB l bnd.t bnd.j) → (∀ b, K b → b < V.heap.size) → (∀ b, Kc b → b < V.heap.size) → Calls prog 14 #[.slice pe e.length ce, .slice pC nc cC] V fun x w' => x = .returned (.tuple #[.int .u8 ((kindP e (colsB l bnd.t bnd.j)).1 : Int), .int .i64 (kindP e (colsB l bnd.t bnd.j)).2]) ∧ Below V.heap.size V w') := fun V hV K Kc pe pC ce cC e h1 h2 h3 h4 => by
   have hbw : Below w.heap.size w V := HBV2.out.trans (hV.mono HBV2.out.size)
   have := kind_any K Kc pe pC ce cC e (colsB l bnd.t bnd.j) V h1 (by rw [hnc]; exact h2) h3 h4 (HGA.out.below hbw).gw
   rwa [hnc] at this
  have HP : Hid (bnd.i.length = n3 ∧ bnd.n.length = n3 ∧ bnd.k.length = n3 ∧ bnd.w.length = n1 ∧ (colsB l bnd.t bnd.j).length = nc) := ⟨hn3, hn4, hn5, hn1, hnc⟩
  have HIT := hid hitems
  have HWH := hid hwhere
  have HWW := hid hww
  have h24 : n3 * 32 ≤ 140737488355328 := by
   obtain ⟨_, _, -, ⟨hb, -⟩, -⟩ := h3
   rw [← hn3]
   exact hb
  have hqi : 0 < ni → n3 = ni := fun h => by
   have := hl3 (fun e => by have := HNI.out.1; rw [e] at this; simp at this; omega)
   have := HNI.out.1
   omega
  have x0 : ((0 : Int) != 0) = false := by decide
  clear h1 h2 h3 h4 h5 hbB her hbd hba hbb hbr hn1 hn2 hn3 hn4 hn5 hnc hnm hth hV2 hgV hbV hb2 hb12 ht0 ht1 C1 hright hl1 hl2 hl3 hbt hbj hww hC hitems hwhere
  go_wp2_with (first | (refine wpList_store_mid rfl 32 _ _ rfl w2.heap.size 0 #[.string t0, .string t1, .int .i64 bd, .int .i64 ba, .int .i64 bb, .slice pw_a n1 cw_a, .slice pg_a n2 cg_a, .slice pi_a n3 ci_a, .bool br, .slice pn_a n3 cn_a, .slice pk_a n3 ck_a] rfl rfl HTH.out sz_bnd HON.out ?_; rw [HV2.out]) | (refine wpList_load_mid rfl 32 _ rfl w2.heap.size 0 rfl _ _ HRB.out underlying32 rfl sz_bnd ?_))
  refine CR.out.mono ?_
  rintro e w3 ⟨rfl, hb3⟩
  have hg3 := HGV.out w3 hb3
  have hq3 := (HG0.out w3 (HB02.out.trans (hb3.mono HB02.out.size))).1
  have d5 := cell_of_row (k := 5) (v := .slice pw_a n1 cw_a) hg3 rfl
  have d7 := cell_of_row (k := 7) (v := .slice pi_a n3 ci_a) hg3 rfl
  have d9 := cell_of_row (k := 9) (v := .slice pn_a n3 cn_a) hg3 rfl
  have d10 := cell_of_row (k := 10) (v := .slice pk_a n3 ck_a) hg3 rfl
  have f0 := cell_of_row (k := 0) (v := .slice pi ni ci) hq3 rfl
  have nn : ((n3 : Int) != (n3 : Int)) = false := by simp
  have HR3 := hid (HRV.out w3 hb3)
  have C3 := hid (HCC.out w3 hb3)
  have HB3 := hid hb3
  clear CR hb3 hg3 hq3 HRB HCC
  have hsp : (0 < ni ∧ n3 = ni) ∨ ni = 0 := by
   by_cases h : 0 < ni
   · exact .inl ⟨h, hqi h⟩
   · exact .inr (by omega)
  rcases hsp with ⟨hi0, rfl⟩ | rfl
  all_goals
   try (have y0 : (0 : Int) < (n3 : Int) := by omega)
   clear hqi
   go_wp2_with (first | go_skip | (refine wpList_load_mid rfl 32 _ rfl w2.heap.size 0 rfl _ _ HR3.out underlying32 rfl sz_bnd ?_))
   refine C3.out.mono ?_
   rintro e w4 ⟨⟨pC, cC, rfl, hlc⟩, hb4⟩
   rw [HP.out.2.2.2.2]
   have HB4 : Hid (Below V2.heap.size V2 w4) := HB3.out.trans (hb4.mono HB3.out.size)
   have hg4 := HGV.out w4 HB4.out
   have e7 := cell_of_row (k := 7) (v := .slice pi_a n3 ci_a) hg4 rfl
   have HLC : Hid (∀ V, Below w4.heap.size w4 V → ListIs rClm 2 24 (fun b => b < w4.heap.size) V (.slice pC nc cC) (colsB l bnd.t bnd.j)) := fun V hV => by
    have := hlc.mono mClm (K2 := fun b => b < w4.heap.size) (fun b hb => hb.2) (kept_of (fun b hb => hb.2) hV)
    rwa [HP.out.2.2.2.2] at this
   clear C3 hlc hb4 hg4 d5 d7 d9 d10 f0 nn HR3
   go_wp2_with fail
   clear e7
   go_loopg [76] n3 (fun gf s76 wx => ∃ i : Nat, s76 = .int .i64 i ∧ i ≤ n3 ∧ n3 ≤ i + gf ∧ Hid (Below w4.heap.size w4 wx))
   case atStart => exact ⟨0, rfl, by omega, by omega, Below.refl _ _⟩
   case round =>
    obtain ⟨i, rfl, hi1, hgf, HB⟩ := hrel
    by_cases hi : i < n3
    · obtain ⟨g', rfl⟩ : ∃ g', gk = g' + 1 := ⟨gk - 1, by omega⟩
      have hik : i < bnd.k.length := by rw [HP.out.2.2.1]; exact hi
      have hii : i < bnd.i.length := by rw [HP.out.1]; exact hi
      have hbX : Below V2.heap.size V2 wr := HB4.out.trans (HB.out.mono HB4.out.size)
      obtain ⟨-, -, l1, -, -, l6⟩ := HLA.out wr hbX
      obtain ⟨bi, oi, hqi2, -, hci⟩ := itm_w l1 (by omega)
      subst hqi2
      obtain ⟨pe, ce, hri, hle, -⟩ := hci i hii
      have hit := HIT.out i hii hik
      obtain ⟨x, hx⟩ : ∃ x, bnd.i[i] = x := ⟨_, rfl⟩
      rw [hx] at hri hle hit
      obtain ⟨kk, hkk⟩ : ∃ x, bnd.k[i] = x := ⟨_, rfl⟩
      rw [hkk] at hit
      obtain ⟨L, hL⟩ : ∃ L, x.e.length = L := ⟨_, rfl⟩
      obtain ⟨g, hg⟩ : ∃ g : Int, (x.g : Int) = g := ⟨_, rfl⟩
      rw [hL, hg] at hri
      have HRC := hid hri
      obtain ⟨WA, hWA, hth, V3, hV3, hgQ, hbV⟩ := box_any wr 42 #[.int .u8 0, .slice none 0 0] [.int .u8 g, .slice pe L ce] rfl
      have HTH := hid hth
      have HV3 : Hid (WA.setCells wr.heap.size 0 (#[.int .u8 g, .slice pe L ce] : Array Value).toList = V3) := hV3
      have HON1 : Hid ((#[.int .u8 g, .slice pe L ce] : Array Value).all (·.oneCell') = true) := by show _ = _; simp [Value.oneCell']
      have hb33 : Below w4.heap.size w4 V3 := HB.out.trans (hbV.mono HB.out.size)
      have hbX3 : Below V2.heap.size V2 V3 := HB4.out.trans (hb33.mono HB4.out.size)
      have CK : Hid (Calls prog 14 #[.slice pe L ce, .slice pC nc cC] V3 fun y w' => y = .returned (.tuple #[.int .u8 ((kindP x.e (colsB l bnd.t bnd.j)).1 : Int), .int .i64 (kindP x.e (colsB l bnd.t bnd.j)).2]) ∧ Below V3.heap.size V3 w') := by
       have hle3 := hle.mono mStpW (K2 := fun b => b < w2.heap.size) (fun _ h => h) (kept_of (K := fun b => b < w2.heap.size) (fun b hb => nlt hb l6) hbV)
       have := HKC.out V3 hbX3 (fun b => b < w2.heap.size) (fun b => b < w4.heap.size) pe pC ce cC x.e hle3 (HLC.out V3 hb33) (fun b hb => by have := hbV.size; omega) (fun b hb => nlt hb hb33.size)
       rwa [hL] at this
      obtain ⟨kr, hkr⟩ : ∃ y, kindP x.e (colsB l bnd.t bnd.j) = y := ⟨_, rfl⟩
      rw [hkr] at CK hit
      have a1 := cell_of_row (k := 1) (v := .slice pe L ce) hgQ rfl
      have HGQ := hid hgQ
      have HIX : Hid ((x.g = 1 → kr.2 = 13 ∧ kk = 2) ∧ (x.g ≠ 1 → kr.2 = 0 ∧ (x.g ≠ 2 → kk = kr.1)) ∧ (x.g : Int) = g) := ⟨hit.1, hit.2, hg⟩
      have HBX3 := hid hbX3
      have HB33 := hid hb33
      have HKI : Hid (∃ h : i < bnd.k.length, bnd.k[i] = kk) := ⟨hik, hkk⟩
      have z0 : (0 : Int) ≤ (i : Int) := by omega
      have z1 : (i : Int) < (n3 : Int) := by omega
      clear hik hii hbX l1 l6 hci hri hle hit hx hkk hL hg hth hV3 hgQ hbV hb33 hbX3 hkr HB
      go_wp2_with (first | (refine wpList_load_mid rfl 42 _ rfl bi (oi + i * 2) rfl _ _ HRC.out underlying42 rfl sz_item ?_) | (refine wpList_store_mid rfl 42 _ _ rfl wr.heap.size 0 #[.int .u8 g, .slice pe L ce] rfl rfl HTH.out sz_item HON1.out ?_; rw [show WA.setCells wr.heap.size 0 (#[.int .u8 g, .slice pe L ce] : Array Value).toList = V3 from HV3.out]))
      refine CK.out.mono ?_
      rintro e w6 ⟨rfl, hb6⟩
      have hbY : Below V2.heap.size V2 w6 := HBX3.out.trans (hb6.mono HBX3.out.size)
      have hg6 := (hb6.block _ (gsi HGQ.out).1).trans HGQ.out
      have c0 := cell_of_row (k := 0) (v := .int .u8 g) hg6 rfl
      obtain ⟨-, -, -, -, l5, -⟩ := HLA.out w6 hbY
      obtain ⟨hik, hkk⟩ := HKI.out
      obtain ⟨bk, ok, hqk, -, hck⟩ := cell_list l5 (by omega)
      subst hqk
      obtain ⟨cs3, hrk, hcs3⟩ := hck i hik
      rw [hcs3.1, hkk] at hrk
      have c1 := hrk 0 _ rfl
      simp only [Nat.add_zero, Nat.mul_one] at c1
      have c10 := cell_of_row (k := 10) (v := .slice (some ⟨bk, ok, none⟩) n3 ck_a) (HGV.out w6 hbY) rfl
      have HBN : Hid (Below w4.heap.size w4 w6) := HB33.out.trans (hb6.mono HB33.out.size)
      have hK1 := HIX.out
      clear hb6 hbY hg6 l5 hik hkk hck hrk hcs3 a1 CK HTH HV3 HON1 hWA HRC
      by_cases hg1 : x.g = 1
      · obtain ⟨e1, e2⟩ := hK1.1 hg1
        obtain rfl : g = 1 := by rw [← hK1.2.2, hg1]; rfl
        rw [e1]
        rw [e2] at c1
        clear hK1 hg1 e1 e2
        go_wp2_with fail
        go_roundg g'
        case measure => omega
        case rel => exact ⟨i + 1, by go_num, by omega, by omega, HBN⟩
      · obtain ⟨e1, e2⟩ := hK1.2.1 hg1
        have y1 : (g == 1) = false := bfn (by have := hK1.2.2; omega)
        rw [e1]
        by_cases hg2 : x.g = 2
        · obtain rfl : g = 2 := by rw [← hK1.2.2, hg2]; rfl
          clear hK1 hg1 hg2 e1 e2
          go_wp2_with fail
          go_roundg g'
          case measure => omega
          case rel => exact ⟨i + 1, by go_num, by omega, by omega, HBN⟩
        · have y2 : (g != 2) = true := bne_iff_ne.2 (by have := hK1.2.2; omega)
          rw [e2 hg2] at c1
          obtain ⟨k1, hk1⟩ : ∃ x : Int, (kr.1 : Int) = x := ⟨_, rfl⟩
          rw [hk1] at c1 ⊢
          clear hK1 hg1 hg2 e1 e2 hk1
          go_wp2_with fail
          go_roundg g'
          case measure => omega
          case rel => exact ⟨i + 1, by go_num, by omega, by omega, HBN⟩
    · have z1 : ¬ (i : Int) < (n3 : Int) := by omega
      have hbY : Below V2.heap.size V2 wr := HB4.out.trans (HB.out.mono HB4.out.size)
      have hgY := HGV.out wr hbY
      have HBW2 : Hid (Below w.heap.size w wr) := HBV2.out.trans (hbY.mono HBV2.out.size)
      have hqY := (HG0.out wr (HB02.out.trans (hbY.mono HB02.out.size))).1
      have c5 := cell_of_row (k := 5) (v := .slice pw_a n1 cw_a) hgY rfl
      have q5 := cell_of_row (k := 5) (v := .slice pw nw cw) hqY rfl
      have hHB := HB.out
      have hlw := (HLA.out wr hbY).1
      have hl6 := (HLA.out wr hbY).2.2.2.2.2
      have CK := HKC.out wr hbY (fun b => b < w2.heap.size) (fun b => b < w4.heap.size) pw_a pC cw_a cC bnd.w hlw (HLC.out wr hHB) (fun b hb => nlt hb hl6) (fun b hb => nlt hb hHB.size)
      rw [HP.out.2.2.2.1] at CK
      have CKK := hid CK
      by_cases hw0 : n1 = 0
      · have hbw0 : bnd.w = [] := List.eq_nil_of_length_eq_zero (HP.out.2.2.2.1.trans hw0)
        have hq0 : nw = 0 := by rw [← HNI.out.2, HWW.out.1 hbw0]; rfl
        subst hw0
        subst hq0
        clear hbY hgY hqY hHB hlw hl6 CK CKK hbw0 HB
        go_wp2_with fail
        go_ret
        exact ⟨rfl, HBW2.out⟩
      · have y1 : ((n1 : Int) == 0) = false := bfn (by omega)
        have hne : bnd.w ≠ [] := fun e => hw0 (by rw [← HP.out.2.2.2.1, e]; rfl)
        obtain ⟨e1, e2⟩ := HWH.out hne
        obtain ⟨kr, hkr⟩ : ∃ x, kindP bnd.w (colsB l bnd.t bnd.j) = x := ⟨_, rfl⟩
        rw [hkr] at CKK e1 e2
        rw [e1] at CKK
        clear hbY hgY hqY hHB hlw hl6 CK HB hw0 hne e1 hkr
        go_wp2_with fail
        refine CKK.out.mono ?_
        rintro e w7 ⟨rfl, hb7⟩
        have HBE : Hid (Below w.heap.size w w7) := HBW2.out.trans (hb7.mono HBW2.out.size)
        clear CKK hb7
        rcases e2 with e2 | e2
        · rw [e2]
          clear e2
          go_wp2_with fail
          go_ret
          exact ⟨rfl, HBE.out⟩
        · rw [e2]
          clear e2
          go_wp2_with fail
          go_ret
          exact ⟨rfl, HBE.out⟩
end Go.Proofs.YtfifphfihdhlaaaGreatDoor.Bd

/- A query without items has all columns: the walk of the law. -/
import Derived.Test.YtfifphfihdhlaaaGreatDoorEaEdEkEeEf
import Derived.Test.YtfifphfihdhlaaaGreatDoorDe
set_option maxRecDepth 100000
set_option maxHeartbeats 32000000
namespace Go.Proofs.YtfifphfihdhlaaaGreatDoor.Bd
open Tryz
open Go.Shelf Go.RowKit Go.Lib Go.Sort
set_option linter.unusedVariables false
set_option linter.unusedSimpArgs false
attribute [local go_sem ↓] Go.wp_at_zero Go.wp_at_succ
theorem all_walk (pi pw pg : Option Addr) (ci cw cg : Nat) (q : Qry) (pt : Option Addr) (ct : Nat) (l : List Tab) (w : World) (h : QLsW (fun b => b < w.heap.size) w pi pw pg ci cw cg q) (ht : ListIs rTab 3 64 (fun b => b < w.heap.size) w (.slice pt l.length ct) l) (hG : GA w) :
 Calls prog 5 #[.agg (q.cl (.slice pi q.i.length ci) (.slice pw q.w.length cw) (.slice pg q.g.length cg)), .slice pt l.length ct] w fun e w' => e = .returned (.bool true) ∧ Below w.heap.size w w' := by
 obtain ⟨s0, hs0⟩ : ∃ s : ByteArray, (⟨q.t.toArray⟩ : ByteArray) = s := ⟨_, rfl⟩
 obtain ⟨s1, hs1⟩ : ∃ s : ByteArray, (⟨q.j.toArray⟩ : ByteArray) = s := ⟨_, rfl⟩
 obtain ⟨s2, hs2⟩ : ∃ s : ByteArray, (⟨q.a.toArray⟩ : ByteArray) = s := ⟨_, rfl⟩
 obtain ⟨s3, hs3⟩ : ∃ s : ByteArray, (⟨q.b.toArray⟩ : ByteArray) = s := ⟨_, rfl⟩
 obtain ⟨ni, hni⟩ : ∃ n, q.i.length = n := ⟨_, rfl⟩
 obtain ⟨nw, hnw⟩ : ∃ n, q.w.length = n := ⟨_, rfl⟩
 obtain ⟨ng, hng⟩ : ∃ n, q.g.length = n := ⟨_, rfl⟩
 obtain ⟨n, hn⟩ : ∃ n, l.length = n := ⟨_, rfl⟩
 obtain ⟨q2, hq2⟩ : ∃ x : Qry, (⟨[], q.t, q.j, q.a, q.b, q.w, []⟩ : Qry) = x := ⟨_, rfl⟩
 have hcl : q.cl (.slice pi q.i.length ci) (.slice pw q.w.length cw) (.slice pg q.g.length cg) = #[.slice pi ni ci, .string s0, .string s1, .string s2, .string s3, .slice pw nw cw, .slice pg ng cg] := by unfold Qry.cl; rw [hs0, hs1, hs2, hs3, hni, hnw, hng]
 have hcl2 : q2.cl (.slice none q2.i.length 0) (.slice pw q2.w.length cw) (.slice none q2.g.length 0) = #[.slice none 0 0, .string s0, .string s1, .string s2, .string s3, .slice pw nw cw, .slice none 0 0] := by rw [← hq2]; unfold Qry.cl; simp only [hs0, hs1, hs2, hs3, hnw, List.length_nil]
 have hls2 : QLsW (fun b => b < w.heap.size) w none pw none 0 cw 0 q2 := by rw [← hq2]; exact ⟨ListIs.nil none 0, h.lw, ListIs.nil none 0, h.lt, h.lj, h.la, h.lb⟩
 have HQ2 : Hid (q2.i = [] ∧ q2.g = []) := by show _ ∧ _; rw [← hq2]; exact ⟨rfl, rfl⟩
 obtain ⟨W0, hW0⟩ : ∃ W, w.alloc (.cells #[.slice pi ni ci, .string s0, .string s1, .string s2, .string s3, .slice pw nw cw, .slice pg ng cg] 26) = W := ⟨_, rfl⟩
 have hb0 : Below w.heap.size w W0 := by rw [← hW0]; exact below_alloc _ _
 have hg0 : W0.heap[w.heap.size]? = some (.cells #[.slice pi ni ci, .string s0, .string s1, .string s2, .string s3, .slice pw nw cw, .slice pg ng cg] 26 (0, 0)) := by rw [← hW0]; exact heap_alloc_new w _
 have hz0 : W0.heap.size = w.heap.size + 1 := by rw [← hW0]; simp
 have HN : Hid (l.length = n) := hn
 have HL : Hid (∀ V, Below w.heap.size w V → ListIs rTab 3 64 (fun b => b < w.heap.size) V (.slice pt n ct) l) := fun V hV => by
  have := ht.later mTab (fun b hb => hb) hV
  rwa [hn] at this
 have C0 := hid (lives_any W0 (hG.below hb0))
 have CB : Hid (∀ V, Below w.heap.size w V → Calls prog 10 #[.agg #[.slice none 0 0, .string s0, .string s1, .string s2, .string s3, .slice pw nw cw, .slice none 0 0], .slice pt n ct] V fun e w' => OutB V.heap.size w' (bindP q2 l) e ∧ Below V.heap.size V w') := fun V hV => by
  have := bind_any (fun b => b < w.heap.size) (fun b => b < w.heap.size) none pw none 0 cw 0 q2 pt ct l V (hls2.below (fun b hb => hb) hV) (fun b hb => Nat.lt_of_lt_of_le hb hV.size) (ht.later mTab (fun b hb => hb) hV) (fun b hb => Nat.lt_of_lt_of_le hb hV.size) (hG.below hV).gw
  rwa [hcl2, hn] at this
 have HG0 : Hid (W0.heap[w.heap.size]? = some (.cells #[.slice pi ni ci, .string s0, .string s1, .string s2, .string s3, .slice pw nw cw, .slice pg ng cg] 26 (0, 0)) ∧ W0.heap.size = w.heap.size + 1 ∧ Below w.heap.size w W0) := ⟨hg0, hz0, hb0⟩
 rw [hcl, hn]
 clear h ht hG hs0 hs1 hs2 hs3 hni hnw hng hn hcl hcl2 hls2 hq2 hg0 hz0 hb0
 go_enter func5, ntmps5
 go_wp2_with (rw [hW0])
 refine C0.out.mono ?_
 rintro e w1 ⟨rfl, hb1⟩
 have hg1 := (hb1.block _ (by have := HG0.out.2.1; omega)).trans HG0.out.1
 obtain ⟨⟨u0, cu0⟩, fu0, X1, hX1, hgX1, hsX1, hkX1⟩ := put_one w1 w.heap.size 0 _ 26 hg1 (by simp) (.slice none 0 0)
 obtain ⟨⟨u6, cu6⟩, fu6, X2, hX2, hgX2, hsX2, hkX2⟩ := put_one X1 w.heap.size 6 _ 26 hgX1 (by simp) (.slice none 0 0)
 have HRQ : Hid (X2.rangeAt w.heap.size 0 (#[.slice none 0 0, .string s0, .string s1, .string s2, .string s3, .slice pw nw cw, .slice none 0 0] : Array Value).toList) := fun j u hu => by rw [Nat.zero_add]; exact cell_of_row hgX2 (by simpa using hu)
 have hbw1 : Below w.heap.size w w1 := HG0.out.2.2.trans (hb1.mono HG0.out.2.2.size)
 have HBW : Hid (Below w.heap.size w X2) := put_below (put_below hbw1 hkX1 hsX1 (Nat.le_refl _)) hkX2 hsX2 (Nat.le_refl _)
 have C1 := hid (CB.out X2 HBW.out)
 clear C0 hb1 hW0 hg1 hgX1 hsX1 hkX1 hgX2 hsX2 hkX2 hbw1
 go_wp2_with (refine wpList_load_mid rfl 26 _ rfl w.heap.size 0 rfl _ _ HRQ.out underlying26 rfl sz_qry ?_)
 obtain ⟨r, hr⟩ : ∃ r, bindP q2 l = r := ⟨_, rfl⟩
 have HR := hid hr
 rw [hr] at C1
 clear hr
 refine C1.out.mono ?_
 rintro e w2 ⟨⟨v, rfl, hbi⟩, hb2⟩
 obtain ⟨bB, hbB⟩ : ∃ b, (resB r).1 = b := ⟨_, rfl⟩
 obtain ⟨er, her⟩ : ∃ x, (resB r).2 = x := ⟨_, rfl⟩
 obtain ⟨pw_a, pg_a, pi_a, pn_a, pk_a, cw_a, cg_a, ci_a, cn_a, ck_a, rfl, h1, h2, h3, h4, h5⟩ := hbi
 rw [hbB] at h1 h2 h3 h4 h5
 rw [hbB, her]
 obtain ⟨t0, ht0⟩ : ∃ s : ByteArray, (⟨bB.t.toArray⟩ : ByteArray) = s := ⟨_, rfl⟩
 obtain ⟨t1, ht1⟩ : ∃ s : ByteArray, (⟨bB.j.toArray⟩ : ByteArray) = s := ⟨_, rfl⟩
 obtain ⟨bd, hbd⟩ : ∃ x, bB.d = x := ⟨_, rfl⟩
 obtain ⟨ba, hba⟩ : ∃ x, bB.a = x := ⟨_, rfl⟩
 obtain ⟨bb, hbb⟩ : ∃ x, bB.b = x := ⟨_, rfl⟩
 obtain ⟨br, hbr⟩ : ∃ x, bB.r = x := ⟨_, rfl⟩
 obtain ⟨n1, hn1⟩ : ∃ x, bB.w.length = x := ⟨_, rfl⟩
 obtain ⟨n2, hn2⟩ : ∃ x, bB.g.length = x := ⟨_, rfl⟩
 obtain ⟨n3, hn3⟩ : ∃ x, bB.i.length = x := ⟨_, rfl⟩
 obtain ⟨n4, hn4⟩ : ∃ x, bB.n.length = x := ⟨_, rfl⟩
 obtain ⟨n5, hn5⟩ : ∃ x, bB.k.length = x := ⟨_, rfl⟩
 have hnm : (bndC bB pw_a pg_a pi_a pn_a pk_a cw_a cg_a ci_a cn_a ck_a).toArray = #[.string t0, .string t1, .int .i64 bd, .int .i64 ba, .int .i64 bb, .slice pw_a n1 cw_a, .slice pg_a n2 cg_a, .slice pi_a n3 ci_a, .bool br, .slice pn_a n4 cn_a, .slice pk_a n5 ck_a] := by unfold bndC; rw [ht0, ht1, hbd, hba, hbb, hbr, hn1, hn2, hn3, hn4, hn5]
 rw [hnm]
 obtain ⟨WA, hWA, hth, V2, hV2, hgV, hbV⟩ := box_any w2 32 #[.string ⟨#[]⟩, .string ⟨#[]⟩, .int .i64 0, .int .i64 0, .int .i64 0, .slice none 0 0, .slice none 0 0, .slice none 0 0, .bool false, .slice none 0 0, .slice none 0 0] [.string t0, .string t1, .int .i64 bd, .int .i64 ba, .int .i64 bb, .slice pw_a n1 cw_a, .slice pg_a n2 cg_a, .slice pi_a n3 ci_a, .bool br, .slice pn_a n4 cn_a, .slice pk_a n5 ck_a] rfl
 have HTH : Hid (WA.there w2.heap.size 0 11) := hth
 have HV2 : Hid (WA.setCells w2.heap.size 0 (#[.string t0, .string t1, .int .i64 bd, .int .i64 ba, .int .i64 bb, .slice pw_a n1 cw_a, .slice pg_a n2 cg_a, .slice pi_a n3 ci_a, .bool br, .slice pn_a n4 cn_a, .slice pk_a n5 ck_a] : Array Value).toList = V2) := hV2
 have HON : Hid ((#[.string t0, .string t1, .int .i64 bd, .int .i64 ba, .int .i64 bb, .slice pw_a n1 cw_a, .slice pg_a n2 cg_a, .slice pi_a n3 ci_a, .bool br, .slice pn_a n4 cn_a, .slice pk_a n5 ck_a] : Array Value).all (·.oneCell') = true) := by show _ = _; simp [Value.oneCell']
 have HBV2 : Hid (Below w.heap.size w V2) := HBW.out.trans ((hb2.trans (hbV.mono hb2.size)).mono HBW.out.size)
 have HGV : Hid (∀ V, Below V2.heap.size V2 V → V.heap[w2.heap.size]? = some (.cells #[.string t0, .string t1, .int .i64 bd, .int .i64 ba, .int .i64 bb, .slice pw_a n1 cw_a, .slice pg_a n2 cg_a, .slice pi_a n3 ci_a, .bool br, .slice pn_a n4 cn_a, .slice pk_a n5 ck_a] 32 (0, 0))) := fun V hV => (hV.block _ (Array.getElem?_eq_some_iff.1 hgV).1).trans hgV
 have HRB : Hid (V2.rangeAt w2.heap.size 0 (#[.string t0, .string t1, .int .i64 bd, .int .i64 ba, .int .i64 bb, .slice pw_a n1 cw_a, .slice pg_a n2 cg_a, .slice pi_a n3 ci_a, .bool br, .slice pn_a n4 cn_a, .slice pk_a n5 ck_a] : Array Value).toList) := fun j u hu => by rw [Nat.zero_add]; exact cell_of_row hgV (by simpa using hu)
 cases r with
 | error x =>
  have hx : er = x := her.symm
  have hx0 : (x != 0) = true := bne_iff_ne.2 (bind_err HR.out)
  subst hx
  clear h1 h2 h3 h4 h5 hbB her hbd hba hbb hbr hn1 hn2 hn3 hn4 hn5 hnm hth hV2 hgV hbV hb2 ht0 ht1 C1
  go_wp2_with (refine wpList_store_mid rfl 32 _ _ rfl w2.heap.size 0 #[.string t0, .string t1, .int .i64 bd, .int .i64 ba, .int .i64 bb, .slice pw_a n1 cw_a, .slice pg_a n2 cg_a, .slice pi_a n3 ci_a, .bool br, .slice pn_a n4 cn_a, .slice pk_a n5 ck_a] rfl rfl HTH.out sz_bnd HON.out ?_; rw [HV2.out])
  go_ret
  exact ⟨rfl, HBV2.out⟩
 | ok bnd =>
  have hx : er = 0 := her.symm
  subst hx
  have hb3 : bnd = bB := hbB
  subst hb3
  obtain ⟨hC, e1, e2, e3, e4, e5⟩ := all_bound HR.out HQ2.out.1 HQ2.out.2
  have hcol : (bnd.i.length = n3 ∧ n3 = n4 ∧ n3 = n5 ∧ br = false) := by
   refine ⟨hn3, ?_, ?_, by rw [← hbr]; exact e4⟩
   · rw [← hn4, ← hn3, e1, e2, List.length_map]
   · rw [← hn5, ← hn3, e1, e3, List.length_map]
  obtain ⟨-, rfl, rfl, rfl⟩ := hcol
  have hcl3 : (colsB l bnd.t bnd.j).length = n3 := by rw [← e1]; exact hn3
  have HC : Hid (Calls prog 13 #[.agg #[.string t0, .string t1, .int .i64 bd, .int .i64 ba, .int .i64 bb, .slice pw_a n1 cw_a, .slice pg_a n2 cg_a, .slice pi_a n3 ci_a, .bool false, .slice pn_a n3 cn_a, .slice pk_a n3 ck_a], .slice pt n ct] V2 fun e w' => ColE l bnd.t bnd.j V2.heap.size w' e ∧ Below V2.heap.size V2 w') := by
   have hlt := HL.out V2 HBV2.out
   have := rcols_any (fun b => b < w.heap.size) pt ct l bnd.t bnd.j (.int .i64 bd) (.int .i64 ba) (.int .i64 bb) (.slice pw_a n1 cw_a) (.slice pg_a n2 cg_a) (.slice pi_a n3 ci_a) (.bool false) (.slice pn_a n3 cn_a) (.slice pk_a n3 ck_a) V2 (by rw [HN.out]; exact hlt) (fun b hb => Nat.lt_of_lt_of_le hb HBV2.out.size) hC
   rwa [ht0, ht1, HN.out] at this
  have HP : Hid (bnd.i.length = n3 ∧ bnd.n.length = n3 ∧ bnd.k.length = n3 ∧ (colsB l bnd.t bnd.j).length = n3 ∧ n3 * 24 ≤ 140737488355328) := ⟨hn3, hn4, hn5, hcl3, by
   obtain ⟨_, _, -, ⟨hb, -⟩, -⟩ := h3
   obtain ⟨_, _, -, ⟨hbk, -⟩, -⟩ := h4
   have := hn3
   have h16 : (colsB l bnd.t bnd.j).length ≤ 16 := by
    unfold colsB
    have a := cols_small hC bnd.t
    have b := cols_small hC bnd.j
    rw [List.length_append]
    omega
   omega⟩
  have HE2 : Hid (bnd.n = (colsB l bnd.t bnd.j).map Clm.n ∧ bnd.k = (colsB l bnd.t bnd.j).map Clm.k) := ⟨e2, e3⟩
  have HE5 := hid e5
  have HLA : Hid (∀ X, Below V2.heap.size V2 X → ListIs rItmW 2 32 (fun b => b < w2.heap.size) X (.slice pi_a bnd.i.length ci_a) bnd.i ∧ ListIs rStrW 1 16 (fun b => b < w2.heap.size) X (.slice pn_a bnd.n.length cn_a) bnd.n ∧ ListIs rKnd 1 1 (fun b => b < w2.heap.size) X (.slice pk_a bnd.k.length ck_a) bnd.k) := fun X hX => by
   have hwX : Below w2.heap.size w2 X := hbV.trans (hX.mono hbV.size)
   have hk : ∀ b, From X2.heap.size w2 b → b < w2.heap.size := fun b hb => hb.2
   have hkk := kept_of (K := From X2.heap.size w2) (fun b hb => hb.2) hwX
   exact ⟨h3.mono mItmW hk hkk, h4.mono mStrW hk hkk, h5.mono mKnd hk hkk⟩
  have x0 : ((0 : Int) != 0) = false := by decide
  clear h1 h2 h3 h4 h5 hbB her hbd hba hbb hbr hn1 hn2 hn3 hn4 hn5 hnm hth hV2 hgV hbV hb2 ht0 ht1 C1 e1 e2 e3 e4 e5 hC hcl3
  go_wp2_with (first | (refine wpList_store_mid rfl 32 _ _ rfl w2.heap.size 0 #[.string t0, .string t1, .int .i64 bd, .int .i64 ba, .int .i64 bb, .slice pw_a n1 cw_a, .slice pg_a n2 cg_a, .slice pi_a n3 ci_a, .bool false, .slice pn_a n3 cn_a, .slice pk_a n3 ck_a] rfl rfl HTH.out sz_bnd HON.out ?_; rw [HV2.out]) | (refine wpList_load_mid rfl 32 _ rfl w2.heap.size 0 rfl _ _ HRB.out underlying32 rfl sz_bnd ?_))
  refine HC.out.mono ?_
  rintro e w3 ⟨⟨pC, cC, rfl, hlc⟩, hb3⟩
  rw [HP.out.2.2.2.1]
  have hg3 := HGV.out w3 hb3
  have d7 := cell_of_row (k := 7) (v := .slice pi_a n3 ci_a) hg3 rfl
  have d8 := cell_of_row (k := 8) (v := .bool false) hg3 rfl
  have d9 := cell_of_row (k := 9) (v := .slice pn_a n3 cn_a) hg3 rfl
  have d10 := cell_of_row (k := 10) (v := .slice pk_a n3 ck_a) hg3 rfl
  have nn : ((n3 : Int) != (n3 : Int)) = false := by simp
  have HB3 := hid hb3
  have HLC : Hid (∀ V, Below w3.heap.size w3 V → ListIs rClm 2 24 (From V2.heap.size w3) V (.slice pC n3 cC) (colsB l bnd.t bnd.j)) := fun V hV => by
   have := hlc.later mClm (fun b hb => hb.2) hV
   rwa [HP.out.2.2.2.1] at this
  clear HC hlc hb3 hg3
  go_wp2_with fail
  have h24 : n3 * 24 ≤ 140737488355328 := HP.out.2.2.2.2
  clear d7 d8 d9 d10 nn
  go_loopg [53] n3 (fun gf s53 wx => ∃ i : Nat, s53 = .int .i64 i ∧ i ≤ n3 ∧ n3 ≤ i + gf ∧ Hid (Below w3.heap.size w3 wx))
  case atStart => exact ⟨0, rfl, by omega, by omega, Below.refl _ _⟩
  case round =>
   obtain ⟨i, rfl, hi1, hgf, HB⟩ := hrel
   by_cases hi : i < n3
   · obtain ⟨g', rfl⟩ : ∃ g', gk = g' + 1 := ⟨gk - 1, by omega⟩
     have hic : i < (colsB l bnd.t bnd.j).length := by rw [HP.out.2.2.2.1]; exact hi
     have hin : i < bnd.n.length := by rw [HP.out.2.1]; exact hi
     have hik : i < bnd.k.length := by rw [HP.out.2.2.1]; exact hi
     have hii : i < bnd.i.length := by rw [HP.out.1]; exact hi
     obtain ⟨b, o, hq, -, hc⟩ := cell_list (HLC.out wr HB.out) (by omega)
     subst hq
     obtain ⟨cs, hrg, hcs, hcb⟩ := hc i hic
     have en : bnd.n[i] = ((colsB l bnd.t bnd.j)[i]).n := by
      have : bnd.n[i]? = ((colsB l bnd.t bnd.j).map Clm.n)[i]? := by rw [← HE2.out.1]
      rw [List.getElem?_eq_getElem hin, List.getElem?_map, List.getElem?_eq_getElem hic] at this
      exact Option.some.inj this
     have ek : bnd.k[i] = ((colsB l bnd.t bnd.j)[i]).k := by
      have : bnd.k[i]? = ((colsB l bnd.t bnd.j).map Clm.k)[i]? := by rw [← HE2.out.2]
      rw [List.getElem?_eq_getElem hik, List.getElem?_map, List.getElem?_eq_getElem hic] at this
      exact Option.some.inj this
     obtain ⟨c, hcc⟩ : ∃ c, (colsB l bnd.t bnd.j)[i] = c := ⟨_, rfl⟩
     rw [hcc] at hcs hcb en ek
     obtain ⟨cS, hcS⟩ : ∃ x : ByteArray, (⟨c.n.toArray⟩ : ByteArray) = x := ⟨_, rfl⟩
     obtain ⟨kk, hkk⟩ : ∃ x : Int, (c.k : Int) = x := ⟨_, rfl⟩
     rw [hcs, hcS, hkk] at hrg
     have HRC := hid hrg
     obtain ⟨WA, hWA, hth, V3, hV3, hgQ, hbV⟩ := box_any wr 50 #[.string ⟨#[]⟩, .int .u8 0] [.string cS, .int .u8 kk] rfl
     have HTH := hid hth
     have HV3 : Hid (WA.setCells wr.heap.size 0 (#[.string cS, .int .u8 kk] : Array Value).toList = V3) := hV3
     have HON1 : Hid ((#[.string cS, .int .u8 kk] : Array Value).all (·.oneCell') = true) := by show _ = _; simp [Value.oneCell']
     have hb33 : Below w3.heap.size w3 V3 := HB.out.trans (hbV.mono HB.out.size)
     have hbX : Below V2.heap.size V2 V3 := HB3.out.trans (hb33.mono HB3.out.size)
     obtain ⟨l1, l2, l3⟩ := HLA.out V3 hbX
     have hgB := HGV.out V3 hbX
     obtain ⟨bi, oi, hqi, -, hci⟩ := itm_w l1 (by omega)
     obtain ⟨bn, on, hqn, -, hcn⟩ := cell_list l2 (by omega)
     obtain ⟨bk, ok, hqk, -, hck⟩ := cell_list l3 (by omega)
     subst hqi
     subst hqn
     subst hqk
     obtain ⟨pe, ce, hri, hle, -⟩ := hci i hii
     obtain ⟨cs2, hrn, hcs2⟩ := hcn i hin
     obtain ⟨cs3, hrk, hcs3⟩ := hck i hik
     rw [hcs2.1, en, hcS] at hrn
     rw [hcs3.1, ek, hkk] at hrk
     have hit := HE5.out i hii
     rw [hit] at hri hle
     obtain ⟨be, oe, hqe, -, hce⟩ := cell_list hle (by simp)
     subst hqe
     obtain ⟨cs4, hre, hcs4⟩ := hce 0 (by simp)
     rw [hcs4.1] at hre
     have c0 := hrn 0 _ rfl
     have c1 := hrk 0 _ rfl
     have c2 := hri 1 _ rfl
     have c3 := hre 2 _ rfl
     simp only [Nat.add_zero, Nat.mul_one, Nat.zero_mul, List.length_cons, List.length_nil, Nat.zero_add] at c0 c1 c2 c3
     have b7 := cell_of_row (k := 7) (v := .slice (some ⟨bi, oi, none⟩) n3 ci_a) hgB rfl
     have b9 := cell_of_row (k := 9) (v := .slice (some ⟨bn, on, none⟩) n3 cn_a) hgB rfl
     have b10 := cell_of_row (k := 10) (v := .slice (some ⟨bk, ok, none⟩) n3 ck_a) hgB rfl
     have a0 := cell_of_row (k := 0) (v := .string cS) hgQ rfl
     have a1 := cell_of_row (k := 1) (v := .int .u8 kk) hgQ rfl
     have z0 : (0 : Int) ≤ (i : Int) := by omega
     have z1 : (i : Int) < (n3 : Int) := by omega
     have HBN := hid hb33
     clear hic hin hik hii hc hrg hcs hcb en ek hcc hcS hkk hth hV3 hgQ hbV hb33 hbX l1 l2 l3 hgB hci hcn hck hri hle hrn hcs2 hrk hcs3 hit hce hre hcs4 HB
     go_wp2_with (first | (refine wpList_load_mid rfl 50 _ rfl b (o + i * 2) rfl _ _ HRC.out underlying50 rfl sz_clm ?_) | (refine wpList_store_mid rfl 50 _ _ rfl wr.heap.size 0 #[.string cS, .int .u8 kk] rfl rfl HTH.out sz_clm HON1.out ?_; rw [show WA.setCells wr.heap.size 0 (#[.string cS, .int .u8 kk] : Array Value).toList = V3 from HV3.out]))
     go_quiet (fail)
     go_wp2_with fail
     go_roundg g'
     case measure => omega
     case rel => exact ⟨i + 1, by go_num, by omega, by omega, below_drewN HBN.out _⟩
   · have z1 : ¬ (i : Int) < (n3 : Int) := by omega
     have HBE : Hid (Below w.heap.size w wr) := HBV2.out.trans ((HB3.out.trans (HB.out.mono HB3.out.size)).mono HBV2.out.size)
     clear HB
     go_wp2_with fail
     go_ret
     exact ⟨rfl, HBE.out⟩
end Go.Proofs.YtfifphfihdhlaaaGreatDoor.Bd

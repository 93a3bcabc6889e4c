/- An item is read. -/
import Derived.Test.YtfifphfihdhlaaaGreatDoorQlQm
set_option maxRecDepth 100000
set_option maxHeartbeats 32000000
namespace Go.Proofs.YtfifphfihdhlaaaGreatDoor
open Tryz
open Go.Shelf Go.RowKit Go.Lib Go.Sort
set_option linter.unusedVariables false
set_option linter.unusedSimpArgs false
attribute [local go_sem ↓] Go.wp_at_zero Go.wp_at_succ
theorem sz_item : (prog.info? 42).map (·.size) = some 2 := by kernel_rfl
def VItm : World → World → Value → Itm → Prop := fun w w' v it => ∃ u, v = .agg #[.int .u8 (it.g : Int), u] ∧ StS w.heap.size w' u it.e ∧ it.g < 256
theorem item_put {K : Nat → Prop} {B : Nat} {en : Int} {w w2 : World} {x2 : PS} {a0 v0 : Value} {l : List Stp} {pu : Option Addr} {cu : Nat} (hk : Kept (fun b => b < w.heap.size ∧ b ≠ B) w w2) (hg : w2.heap[w.heap.size]? = some (.cells #[a0, v0] 42 (0, 0))) (rd : Rdr K w2 B en x2) (hK : ∀ b, K b → b < w.heap.size) (hB : B < w.heap.size)
 (st : StS (w.heap.size + 1) w2 (.slice pu l.length cu) l) (g : Nat) (gi : Int) (hgi : gi = (g : Int)) (h256 : g < 256) :
 w2.there w.heap.size 0 2 ∧ ∃ X, w2.setCells w.heap.size 0 (#[.int .u8 gi, .slice pu l.length cu] : Array Value).toList = X ∧ (loadVar 42 ⟨w.heap.size, 0, none⟩).run prog X = .ok (.agg #[.int .u8 gi, .slice pu l.length cu]) X ∧ ((#[.int .u8 gi, .slice pu l.length cu] : Array Value).all (·.oneCell') = true) ∧ ∀ r : Res Itm, r = .inr (⟨g, l⟩, x2) → Out VItm K B en w r (.returned (.agg #[.int .u8 gi, .slice pu l.length cu])) X := by
 obtain ⟨hth, X, hX, hld, hsX, hkX⟩ := put_row w2 w.heap.size _ 42 hg [.int .u8 gi, .slice pu l.length cu] rfl underlying42 rfl sz_item
 have h10 := rd.b10
 refine ⟨hth, X, hX, hld, by simp [Value.oneCell'], fun r hr => ⟨hk.trans (hkX.less fun b hb => Nat.ne_of_lt hb.1), .inr ⟨_, _, _, hr, rfl, ⟨_, by rw [hgi], (st.base (Nat.le_succ _)).held fun g hg => hkX.block g (by have := (st.1.lt g hg).1; omega), h256⟩, rd.kept (hkX.less fun b hb => ?_)⟩⟩⟩
 rcases hb with hb | hb | hb
 · omega
 · have := hK b hb; omega
 · omega
theorem box_two (W : World) (t : TypeId) (z0 z1 v0 v1 : Value) : ∃ WA, W.alloc (.cells #[z0, z1] t) = WA ∧ WA.there W.heap.size 0 2 ∧ ∃ WS, WA.setCells W.heap.size 0 [v0, v1] = WS ∧ WS.heap[W.heap.size]? = some (.cells #[v0, v1] t (0, 0)) ∧ Bl W WS := by
 obtain ⟨WA, hWA, hth, WS, hWS, _, _, hb, _⟩ := box_new W t #[z0, z1] [v0, v1] rfl
 refine ⟨WA, hWA, hth, WS, hWS, ?_, hb⟩
 have g0 : WA.heap[W.heap.size]? = some (.cells #[z0, z1] t (0, 0)) := by rw [← hWA]; exact heap_alloc_new W _
 have g1 := heap_setCell_same WA W.heap.size 0 _ t v0 g0
 have g2 := heap_setCell_same _ W.heap.size 1 _ t v1 g1
 rw [← hWS]
 exact g2
theorem item_any (K : Nat → Prop) (B : Nat) (en : Int) (w : World) (x : PS) (rd : Rdr K w B en x) : Calls prog 191 #[.pointer (some ⟨B, 0, none⟩)] w fun e w' => Out VItm K B en w (itemR en x) e w' := by
 have HKK := hid (And.intro rd.kb rd.lt)
 obtain ⟨W0, hW0⟩ := gen (w.alloc (.cells #[.int .u8 0, .slice none 0 0] 42))
 have hb0 : Bl w W0 := by rw [← hW0]; exact below_alloc w _
 have hg0 : W0.heap[w.heap.size]? = some (.cells #[.int .u8 0, .slice none 0 0] 42 (0, 0)) := by rw [← hW0]; exact heap_alloc_new w _
 have hl0 : w.heap.size < W0.heap.size := (gsi hg0).1
 obtain ⟨W1, hW1⟩ := gen (W0.alloc (.cells #[.func (.func 150) #[] #[]] 187))
 have C1 := hid (comes_one 150 opnP enters150 isOpen_any K W0 B en x (rd.below hb0))
 rw [hW1] at C1
 obtain ⟨Q, hQ⟩ := gen (comesP opnP x)
 have HQ := hid hQ
 rw [hQ] at C1
 have HS : Hid (Bl w W0 ∧ W0.heap[w.heap.size]? = some (.cells #[.int .u8 0, .slice none 0 0] 42 (0, 0)) ∧ w.heap.size < W0.heap.size ∧ Rdr K W0 B en x) := ⟨hb0, hg0, hl0, rd.below hb0⟩
 clear rd hb0 hg0 hl0 hQ
 go_enter func191, ntmps191
 go_wp2_with fail
 refine C1.out.mono ?_
 rintro e w1 ⟨rfl, hb1⟩
 have HK1 : Hid (Kept (fun b => b < w.heap.size ∧ b ≠ B) w w1) := kept_below (HS.out.1.trans (hb1.mono HS.out.1.size))
 have HG1 : Hid (w1.heap[w.heap.size]? = some (.cells #[.int .u8 0, .slice none 0 0] 42 (0, 0)) ∧ w.heap.size < w1.heap.size) := ⟨(hb1.block _ HS.out.2.2.1).trans HS.out.2.1, nlt HS.out.2.2.1 hb1.size⟩
 have HRD := hid (HS.out.2.2.2.below hb1)
 clear C1 hb1 HS hW0 hW1
 have hne : Hid (w.heap.size ≠ B) := Nat.ne_of_gt HKK.out.2
 cases Q with
 | false =>
  have C2 := hid (expr_any K B en w1 x HRD.out)
  have HR : Hid (itemR en x = andR (exprR en x) fun l s => .inr (⟨0, l⟩, s)) := by show _ = _; unfold itemR; rw [if_pos HQ.out]
  clear HRD HQ
  go_wp2_with fail
  refine C2.out.mono ?_
  rintro e w2 ⟨hk2, ⟨y, a, hr, rfl⟩ | ⟨l, x2, v, hr, rfl, hst, hrd, hlt⟩⟩
  · have HF : Hid (Out VItm K B en w (itemR en x) (faultE y a) w2) := out_fault (HK1.out.step hk2) (by rw [HR.out, hr]; rfl)
    clear C2 hk2 hr
    unfold faultE at HF ⊢
    go_wp2_with fail
    exact ⟨rfl, HF.out⟩
  · obtain ⟨pu, cu, rfl⟩ := hst.slice
    obtain ⟨hth, X, hX, hld, hon, hout⟩ := item_put (HK1.out.step hk2) ((hk2.block _ ⟨HG1.out.2, hne.out⟩).trans HG1.out.1) (hrd) HKK.out.1 HKK.out.2 (hst.base HG1.out.2) 0 0 rfl (by omega)
    have HF := hid (hout (itemR en x) (by rw [HR.out, hr]; rfl))
    have HTH := hid hth
    have HX : Hid (w2.setCells w.heap.size 0 (#[.int .u8 0, .slice pu l.length cu] : Array Value).toList = X) := hX
    have HLD : Hid ((loadVar 42 ⟨w.heap.size, 0, none⟩).run prog X = .ok (.agg #[.int .u8 0, .slice pu l.length cu]) X) := hld
    have HON : Hid ((#[.int .u8 0, .slice pu l.length cu] : Array Value).all (·.oneCell') = true) := hon
    clear hth hX hld hon hout hr C2 hk2 hst hrd hlt
    go_wp2_with (first | (refine wpList_store_mid rfl 42 _ _ rfl w.heap.size 0 #[.int .u8 0, .slice pu l.length cu] rfl rfl HTH.out sz_item HON.out ?_; rw [HX.out]))
    refine bodyPost_ret (v := .agg #[.int .u8 0, .slice pu l.length cu]) (by simp only [results, results191]; simp [asAddr, Act.put, HLD.out]) rfl ?_
    exact HF.out
 | true =>
  obtain ⟨W2, hW2⟩ := gen (w1.alloc (.cells #[.func (.func 150) #[] #[]] 187))
  have C2 := hid (take_one 150 opnP enters150 isOpen_any K w1 B en x HRD.out)
  rw [hW2] at C2
  have HR : Hid (itemR en x = andR (takeP en opnP x) fun _ s => andR (takeP en (fun t => oprP t || aggP t) s) fun h s => item2 en h s) := by show _ = _; unfold itemR; rw [if_neg (by rw [HQ.out]; simp)]
  clear HRD HQ
  go_wp2_with fail
  refine C2.out.mono ?_
  rintro e w2 ⟨hk2, ⟨y, a, hr, rfl⟩ | ⟨t0, x1, v, hr, rfl, ⟨rfl, _⟩, hrd⟩⟩
  · have HF : Hid (Out VItm K B en w (itemR en x) (faultE y a) w2) := out_fault (HK1.out.step hk2) (by rw [HR.out, hr]; rfl)
    clear C2 hk2 hr
    unfold faultE at HF ⊢
    go_wp2_with fail
    exact ⟨rfl, HF.out⟩
  · obtain ⟨tv, htv⟩ := gen t0.v
    rw [htv]
    have HR2 : Hid (itemR en x = andR (takeP en (fun t => oprP t || aggP t) x1) fun h s => item2 en h s) := by show _ = _; rw [HR.out, hr]; rfl
    have HK2 := hid (HK1.out.step hk2)
    have HG2 : Hid (w2.heap[w.heap.size]? = some (.cells #[.int .u8 0, .slice none 0 0] 42 (0, 0)) ∧ w.heap.size < w2.heap.size) := ⟨(hk2.block _ ⟨HG1.out.2, hne.out⟩).trans HG1.out.1, nlt HG1.out.2 hk2.size⟩
    obtain ⟨W3, hW3⟩ := gen (w2.alloc (.cells #[.func (.func 210) #[] #[], .func (.func 211) #[] #[]] 187))
    have C3 := hid (take_two 210 211 oprP aggP enters210 enters211 isOpr_any isAgg_any K w2 B en x1 hrd)
    rw [hW3] at C3
    clear HR HK1 HG1 C2 hk2 hr hrd htv hW2
    have HR := HR2
    clear HR2
    go_wp2_with fail
    refine C3.out.mono ?_
    rintro e w3 ⟨hk3, ⟨y, a, hr, rfl⟩ | ⟨t, x2, v, hr, rfl, ⟨rfl, hok⟩, hrd⟩⟩
    · have HF : Hid (Out VItm K B en w (itemR en x) (faultE y a) w3) := out_fault (HK2.out.step hk3) (by rw [HR.out, hr]; rfl)
      clear C3 hk3 hr
      unfold faultE at HF ⊢
      go_wp2_with fail
      exact ⟨rfl, HF.out⟩
    · have HR3 : Hid (itemR en x = item2 en t x2) := by show _ = _; rw [HR.out, hr]; rfl
      have HK3 := hid (HK2.out.step hk3)
      have HG3 : Hid (w3.heap[w.heap.size]? = some (.cells #[.int .u8 0, .slice none 0 0] 42 (0, 0)) ∧ w.heap.size < w3.heap.size) := ⟨(hk3.block _ ⟨HG2.out.2, hne.out⟩).trans HG2.out.1, nlt HG2.out.2 hk3.size⟩
      obtain ⟨s, hs⟩ := bya t.t
      have HST : Hid (s.data.toList = t.t) := by show _ = _; rw [← hs]
      have htv : t.v = .agg #[.int .u8 t.k, .string s, .int .i64 t.n, .int .i64 t.a] := by rw [← hs]; rfl
      obtain ⟨V1, hV1⟩ := gen (w3.alloc (.cells #[.int .u8 t.k, .string s, .int .i64 t.n, .int .i64 t.a] 160))
      have hbV1 : Bl w3 V1 := by rw [← hV1]; exact below_alloc _ _
      have hgT : V1.heap[w3.heap.size]? = some (.cells #[.int .u8 t.k, .string s, .int .i64 t.n, .int .i64 t.a] 160 (0, 0)) := by rw [← hV1]; exact heap_alloc_new _ _
      have hlT : w3.heap.size < V1.heap.size := (gsi hgT).1
      have hrV := hrd.below hbV1
      obtain ⟨Q, hQ⟩ := gen (oprP t)
      have HQ := hid hQ
      have C4 : Hid (Calls prog 210 #[.agg #[.int .u8 t.k, .string s, .int .i64 t.n, .int .i64 t.a]] V1 fun e w' => e = .returned (.bool Q) ∧ Bl V1 w') := by have := isOpr_any t V1 hok hrV.gw; rw [hQ, htv] at this; exact this
      have HRT : Hid (∀ V, Bl V1 V → V.rangeAt w3.heap.size 0 [.int .u8 t.k, .string s, .int .i64 t.n, .int .i64 t.a] ∧ V.cell? ⟨w3.heap.size, 1, none⟩ = some (.string s)) := fun V hb => ⟨rgz ((hb.block _ hlT).trans hgT), (hb.cell (p := ⟨w3.heap.size, 1, none⟩) hlT).trans (cell_of_row (k := 1) hgT rfl)⟩
      have HR0 := hid (HRT.out V1 (Below.refl _ _)).1
      have HK4 : Hid (Kept (fun b => b < w.heap.size ∧ b ≠ B) w V1) := HK3.out.step (kept_below hbV1)
      have HG4 : Hid (V1.heap[w.heap.size]? = some (.cells #[.int .u8 0, .slice none 0 0] 42 (0, 0)) ∧ w.heap.size < V1.heap.size) := ⟨(hbV1.block _ HG3.out.2).trans HG3.out.1, nlt HG3.out.2 hbV1.size⟩
      have HRV := hid hrV
      have HOK := hid hok
      have HTV := hid htv
      rw [htv]
      clear HR HK2 HG2 C3 hk3 hr hrd hok hs htv hbV1 hgT hlT hrV hQ HK3 HG3 hW3
      go_wp2_with (refine wpList_load_mid rfl 160 _ rfl w3.heap.size 0 rfl _ _ HR0.out underlying160 rfl sz_tok ?_)
      refine C4.out.mono ?_
      rintro e w4 ⟨rfl, hb4⟩
      have HK5 : Hid (Kept (fun b => b < w.heap.size ∧ b ≠ B) w w4) := HK4.out.step (kept_below hb4)
      have HG5 : Hid (w4.heap[w.heap.size]? = some (.cells #[.int .u8 0, .slice none 0 0] 42 (0, 0)) ∧ w.heap.size < w4.heap.size) := ⟨(hb4.block _ HG4.out.2).trans HG4.out.1, nlt HG4.out.2 hb4.size⟩
      have hrd4 := HRV.out.below hb4
      obtain ⟨hR4, c4⟩ := HRT.out w4 hb4
      have HR4 := hid hR4
      clear C4 HR0 HRT hb4 HK4 HG4 HRV hV1 hR4
      cases Q with
      | true =>
       have C5 := hid (oper_any K B en w4 x2 t hrd4 HOK.out HQ.out)
       rw [HTV.out] at C5
       have HR : Hid (itemR en x = andR (operR en (partR en (x2.ts.length + 1)) [] t x2) fun l s => .inr (⟨0, l⟩, s)) := by show _ = _; rw [HR3.out]; unfold item2; rw [if_pos HQ.out]
       clear HR3 HOK HTV HQ hrd4 c4 HST
       go_wp2_with (refine wpList_load_mid rfl 160 _ rfl w3.heap.size 0 rfl _ _ HR4.out underlying160 rfl sz_tok ?_)
       refine C5.out.mono ?_
       rintro e w5 ⟨hk5, ⟨y, a, hr, rfl⟩ | ⟨l, x3, v, hr, rfl, hst, hrd, hlt⟩⟩
       · have HF : Hid (Out VItm K B en w (itemR en x) (faultE y a) w5) := out_fault (HK5.out.step hk5) (by rw [HR.out, hr]; rfl)
         clear C5 hk5 hr
         unfold faultE at HF ⊢
         go_wp2_with fail
         exact ⟨rfl, HF.out⟩
       · obtain ⟨pu, cu, rfl⟩ := hst.slice
         obtain ⟨hth, X, hX, hld, hon, hout⟩ := item_put (HK5.out.step hk5) ((hk5.block _ ⟨HG5.out.2, hne.out⟩).trans HG5.out.1) (hrd) HKK.out.1 HKK.out.2 (hst.base HG5.out.2) 0 0 rfl (by omega)
         have HF := hid (hout (itemR en x) (by rw [HR.out, hr]; rfl))
         have HTH := hid hth
         have HX : Hid (w5.setCells w.heap.size 0 (#[.int .u8 0, .slice pu l.length cu] : Array Value).toList = X) := hX
         have HLD : Hid ((loadVar 42 ⟨w.heap.size, 0, none⟩).run prog X = .ok (.agg #[.int .u8 0, .slice pu l.length cu]) X) := hld
         have HON : Hid ((#[.int .u8 0, .slice pu l.length cu] : Array Value).all (·.oneCell') = true) := hon
         clear hth hX hld hon hout hr C5 hk5 hst hrd hlt
         go_wp2_with (first | (refine wpList_store_mid rfl 42 _ _ rfl w.heap.size 0 #[.int .u8 0, .slice pu l.length cu] rfl rfl HTH.out sz_item HON.out ?_; rw [HX.out]))
         refine bodyPost_ret (v := .agg #[.int .u8 0, .slice pu l.length cu]) (by simp only [results, results191]; simp [asAddr, Act.put, HLD.out]) rfl ?_
         exact HF.out
      | false =>
       obtain ⟨n, hn⟩ := gen (aggOfP t.t)
       have hn4 : n ≤ 4 := by rw [← hn]; exact aggOfP_le _
       have C5 : Hid (Calls prog 213 #[.string s] w4 fun e w' => e = .returned (.int .u8 (n : Int)) ∧ Bl w4 w') := by have := aggOf_any s w4 hrd4.gw.1; rw [HST.out, hn] at this; exact this
       have HRE : Hid (itemR en x = andR (if n = 1 then .inr (([] : List Stp), x2) else exprR en x2) fun l s => andR (takeP en clsP s) fun _ s => .inr (⟨n, l⟩, s)) := by show _ = _; rw [HR3.out]; unfold item2; rw [if_neg (by rw [HQ.out]; simp), hn]
       have HRD4 := hid hrd4
       clear HR3 HOK HTV HQ hrd4 HST hn HR4
       go_wp2_with fail
       refine C5.out.mono ?_
       rintro e w5 ⟨rfl, hb5⟩
       have HK6 : Hid (Kept (fun b => b < w.heap.size ∧ b ≠ B) w w5) := HK5.out.step (kept_below hb5)
       have HG6 : Hid (w5.heap[w.heap.size]? = some (.cells #[.int .u8 0, .slice none 0 0] 42 (0, 0)) ∧ w.heap.size < w5.heap.size) := ⟨(hb5.block _ HG5.out.2).trans HG5.out.1, nlt HG5.out.2 hb5.size⟩
       obtain ⟨WA, hWA, hTH, V2, hV2, hgI, hbV2⟩ := box_two w5 42 (.int .u8 0) (.slice none 0 0) (.int .u8 (n : Int)) (.slice none 0 0)
       have HRD5 := hid ((HRD4.out.below hb5).below hbV2)
       have HTHI := hid hTH
       have HWI := hid hV2
       have c5 := cell_of_row (k := 0) (v := .int .u8 (n : Int)) hgI rfl
       have hlI : w5.heap.size < V2.heap.size := (gsi hgI).1
       have HK7 : Hid (Kept (fun b => b < w.heap.size ∧ b ≠ B) w V2) := HK6.out.step (kept_below hbV2)
       have HG7 : Hid (V2.heap[w.heap.size]? = some (.cells #[.int .u8 0, .slice none 0 0] 42 (0, 0)) ∧ w.heap.size < V2.heap.size ∧ w.heap.size < w5.heap.size ∧ w5.heap.size < V2.heap.size ∧ w5.heap.size ≠ B) := ⟨(hbV2.block _ HG6.out.2).trans HG6.out.1, nlt HG6.out.2 hbV2.size, HG6.out.2, hlI, by have := HKK.out.2; have := HG6.out.2; omega⟩
       have HGI := hid hgI
       clear C5 hb5 HK5 HG5 HRD4 c4 hTH hV2 hgI hbV2 hlI HK6 HG6
       by_cases h1 : n = 1
       · have yn : ((n : Int) != 1) = false := by simp [h1]
         obtain ⟨W6, hW6⟩ := gen (V2.alloc (.cells #[.func (.func 154) #[] #[]] 187))
         have C6 := hid (take_one 154 clsP enters154 isClose_any K V2 B en x2 HRD5.out)
         rw [hW6] at C6
         have HR : Hid (itemR en x = andR (takeP en clsP x2) fun _ s => .inr (⟨n, []⟩, s)) := by show _ = _; rw [HRE.out, if_pos h1]; rfl
         clear HRE HRD5 h1
         go_wp2_with (first | (refine wpList_store_mid rfl 42 _ _ rfl w5.heap.size 0 #[.int .u8 (n : Int), .slice none 0 0] rfl rfl HTHI.out sz_item (by simp [Value.oneCell']) ?_; rw [show WA.setCells w5.heap.size 0 (#[.int .u8 (n : Int), .slice none 0 0] : Array Value).toList = V2 from HWI.out]))
         refine C6.out.mono ?_
         rintro e w6 ⟨hk6, ⟨y, a, hr, rfl⟩ | ⟨t0, x3, v, hr, rfl, ⟨rfl, _⟩, hrd⟩⟩
         · have HF : Hid (Out VItm K B en w (itemR en x) (faultE y a) w6) := out_fault (HK7.out.step hk6) (by rw [HR.out, hr]; rfl)
           clear C6 hk6 hr
           unfold faultE at HF ⊢
           go_wp2_with fail
           exact ⟨rfl, HF.out⟩
         · obtain ⟨tv, htv⟩ := gen t0.v
           rw [htv]
           have HRI : Hid (w6.rangeAt w5.heap.size 0 [.int .u8 (n : Int), .slice none 0 0]) := rgz ((hk6.block _ ⟨HG7.out.2.2.2.1, HG7.out.2.2.2.2⟩).trans HGI.out)
           have hst : StS (w.heap.size + 1) w6 (.slice none ([] : List Stp).length 0) [] := steps_none _ _
           obtain ⟨pu, hpu⟩ : ∃ pu : Option Addr, none = pu := ⟨_, rfl⟩
           obtain ⟨cu, hcu⟩ : ∃ cu : Nat, 0 = cu := ⟨_, rfl⟩
           clear htv hpu hcu pu cu
           obtain ⟨hth, X, hX, hld, hon, hout⟩ := item_put (HK7.out.step hk6) ((hk6.block _ ⟨HG7.out.2.1, hne.out⟩).trans HG7.out.1) (hrd) HKK.out.1 HKK.out.2 (hst) n (n : Int) rfl (by omega)
           have HF := hid (hout (itemR en x) (by rw [HR.out, hr]; rfl))
           have HTH := hid hth
           have HX : Hid (w6.setCells w.heap.size 0 (#[.int .u8 (n : Int), .slice none 0 0] : Array Value).toList = X) := hX
           have HLD : Hid ((loadVar 42 ⟨w.heap.size, 0, none⟩).run prog X = .ok (.agg #[.int .u8 (n : Int), .slice none 0 0]) X) := hld
           have HON : Hid ((#[.int .u8 (n : Int), .slice none 0 0] : Array Value).all (·.oneCell') = true) := hon
           clear hth hX hld hon hout hr C6 hk6 hst hrd
           go_wp2_with (first | (refine wpList_load_mid rfl 42 _ rfl w5.heap.size 0 rfl _ _ HRI.out underlying42 rfl sz_item ?_) | (refine wpList_store_mid rfl 42 _ _ rfl w.heap.size 0 #[.int .u8 (n : Int), .slice none 0 0] rfl rfl HTH.out sz_item HON.out ?_; rw [HX.out]))
           refine bodyPost_ret (v := .agg #[.int .u8 (n : Int), .slice none 0 0]) (by simp only [results, results191]; simp [asAddr, Act.put, HLD.out]) rfl ?_
           exact HF.out
       · have yn : ((n : Int) != 1) = true := bne_iff_ne.2 (by omega)
         have C6 := hid (expr_any K B en V2 x2 HRD5.out)
         have HR : Hid (itemR en x = andR (exprR en x2) fun l s => andR (takeP en clsP s) fun _ s => .inr (⟨n, l⟩, s)) := by show _ = _; rw [HRE.out, if_neg h1]
         clear HRE HRD5 h1
         go_wp2_with (first | (refine wpList_store_mid rfl 42 _ _ rfl w5.heap.size 0 #[.int .u8 (n : Int), .slice none 0 0] rfl rfl HTHI.out sz_item (by simp [Value.oneCell']) ?_; rw [show WA.setCells w5.heap.size 0 (#[.int .u8 (n : Int), .slice none 0 0] : Array Value).toList = V2 from HWI.out]))
         refine C6.out.mono ?_
         rintro e w6 ⟨hk6, ⟨y, a, hr, rfl⟩ | ⟨l, x3, v, hr, rfl, hst, hrd, hlt⟩⟩
         · have HF : Hid (Out VItm K B en w (itemR en x) (faultE y a) w6) := out_fault (HK7.out.step hk6) (by rw [HR.out, hr]; rfl)
           clear C6 hk6 hr
           unfold faultE at HF ⊢
           go_wp2_with fail
           exact ⟨rfl, HF.out⟩
         · obtain ⟨pu, cu, rfl⟩ := hst.slice
           have hgI6 : w6.heap[w5.heap.size]? = some (.cells [Value.int .u8 (n : Int), .slice none 0 0].toArray 42 (0, 0)) := (hk6.block _ ⟨HG7.out.2.2.2.1, HG7.out.2.2.2.2⟩).trans HGI.out
           obtain ⟨V3, hV3, c6, f6, hg3, hs3, hk3⟩ := box_put (k := 1) hgI6 rfl (.slice pu l.length cu)
           have HR2 : Hid (itemR en x = andR (takeP en clsP x3) fun _ s => .inr (⟨n, l⟩, s)) := by show _ = _; rw [HR.out, hr]; rfl
           have h10 := hrd.b10
           have hrd3 : Rdr K V3 B en x3 := hrd.kept (hk3.less fun b hb => by
            have := HG7.out.2.2
            have := HKK.out
            rcases hb with hb | hb | hb
            · omega
            · have := this.1 b hb; omega
            · omega)
           have HK8 : Hid (Kept (fun b => b < w.heap.size ∧ b ≠ B) w V3) := (HK7.out.step hk6).trans (hk3.less fun b hb => by have := HG7.out.2.2; omega)
           have HG8 : Hid (V3.heap[w.heap.size]? = some (.cells #[.int .u8 0, .slice none 0 0] 42 (0, 0)) ∧ w.heap.size < V3.heap.size ∧ w5.heap.size < V3.heap.size) := ⟨(hk3.block _ (by have := HG7.out.2.2; omega)).trans ((hk6.block _ ⟨HG7.out.2.1, hne.out⟩).trans HG7.out.1), by have := hk6.size; have := HG7.out.2.1; omega, by have := hk6.size; have := HG7.out.2.2; omega⟩
           have hst3 : StS V2.heap.size V3 (.slice pu l.length cu) l := hst.held fun g hg => hk3.block g (by have := (hst.1.lt g hg).1; have := HG7.out.2.2; omega)
           have HGI3 : Hid (V3.heap[w5.heap.size]? = some (.cells #[.int .u8 (n : Int), .slice pu l.length cu] 42 (0, 0))) := hg3
           have HST3 := hid hst3
           obtain ⟨W6, hW6⟩ := gen (V3.alloc (.cells #[.func (.func 154) #[] #[]] 187))
           have C7 := hid (take_one 154 clsP enters154 isClose_any K V3 B en x3 hrd3)
           rw [hW6] at C7
           clear C6 hk6 hr hst hrd hlt hgI6 hg3 hs3 hk3 HR h10 hrd3 hst3 HK7 HGI c5 HTHI HWI hWA
           have HR := HR2
           clear HR2
           go_wp2_with fail
           refine C7.out.mono ?_
           rintro e w7 ⟨hk7, ⟨y, a, hr, rfl⟩ | ⟨t0, x4, v, hr, rfl, ⟨rfl, _⟩, hrd⟩⟩
           · have HF : Hid (Out VItm K B en w (itemR en x) (faultE y a) w7) := out_fault (HK8.out.step hk7) (by rw [HR.out, hr]; rfl)
             clear C7 hk7 hr
             unfold faultE at HF ⊢
             go_wp2_with fail
             exact ⟨rfl, HF.out⟩
           · obtain ⟨tv, htv⟩ := gen t0.v
             rw [htv]
             have HRI : Hid (w7.rangeAt w5.heap.size 0 [.int .u8 (n : Int), .slice pu l.length cu]) := rgz ((hk7.block _ ⟨HG8.out.2.2, HG7.out.2.2.2.2⟩).trans HGI3.out)
             have hst : StS (w.heap.size + 1) w7 (.slice pu l.length cu) l := (HST3.out.base HG7.out.2.1).held fun g hg => hk7.block g ⟨(HST3.out.1.lt g hg).2, by have := (HST3.out.1.lt g hg).1; have := HKK.out.2; have := HG7.out.2.1; omega⟩
             clear htv
             obtain ⟨hth, X, hX, hld, hon, hout⟩ := item_put (HK8.out.step hk7) ((hk7.block _ ⟨HG8.out.2.1, hne.out⟩).trans HG8.out.1) (hrd) HKK.out.1 HKK.out.2 (hst) n (n : Int) rfl (by omega)
             have HF := hid (hout (itemR en x) (by rw [HR.out, hr]; rfl))
             have HTH := hid hth
             have HX : Hid (w7.setCells w.heap.size 0 (#[.int .u8 (n : Int), .slice pu l.length cu] : Array Value).toList = X) := hX
             have HLD : Hid ((loadVar 42 ⟨w.heap.size, 0, none⟩).run prog X = .ok (.agg #[.int .u8 (n : Int), .slice pu l.length cu]) X) := hld
             have HON : Hid ((#[.int .u8 (n : Int), .slice pu l.length cu] : Array Value).all (·.oneCell') = true) := hon
             clear hth hX hld hon hout hr C7 hk7 hst hrd
             go_wp2_with (first | (refine wpList_load_mid rfl 42 _ rfl w5.heap.size 0 rfl _ _ HRI.out underlying42 rfl sz_item ?_) | (refine wpList_store_mid rfl 42 _ _ rfl w.heap.size 0 #[.int .u8 (n : Int), .slice pu l.length cu] rfl rfl HTH.out sz_item HON.out ?_; rw [HX.out]))
             refine bodyPost_ret (v := .agg #[.int .u8 (n : Int), .slice pu l.length cu]) (by simp only [results, results191]; simp [asAddr, Act.put, HLD.out]) rfl ?_
             exact HF.out
end Go.Proofs.YtfifphfihdhlaaaGreatDoor

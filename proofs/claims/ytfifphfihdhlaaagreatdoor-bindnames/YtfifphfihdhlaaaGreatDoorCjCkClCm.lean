/- Whether a column's text means a column: tableOf, isMeant, resolveColumn's closure. -/
import Derived.Test.YtfifphfihdhlaaaGreatDoorChCi
import Derived.Laws.IdiomCopy
set_option maxRecDepth 100000
set_option maxHeartbeats 32000000
namespace Go.Proofs.YtfifphfihdhlaaaGreatDoor.Bd
open Tryz
open Go.Shelf Go.RowKit Go.Lib Go.Sort
set_option linter.unusedVariables false
set_option linter.unusedSimpArgs false
attribute [local go_sem ↓] Go.wp_at_zero Go.wp_at_succ
theorem tableOf_any (tS jS : ByteArray) (wd : Nat) (v : Value) (i : Nat) (w : World) :
 Calls prog 158 #[.agg #[.string tS, .string jS, .int .i64 (wd : Int), v], .int .i64 (i : Int)] w fun e w' => e = .returned (.string (if i < wd then tS else jS)) ∧ Bl w w' := by
 obtain ⟨W0, hW0⟩ := gen (w.alloc (.cells #[.string tS, .string jS, .int .i64 (wd : Int), v] 67))
 have hb0 : Bl w W0 := by rw [← hW0]; exact below_alloc _ _
 have hg0 : W0.heap[w.heap.size]? = some (.cells #[.string tS, .string jS, .int .i64 (wd : Int), v] 67 (0, 0)) := by rw [← hW0]; exact heap_alloc_new w _
 have c0 := cell_of_row (k := 0) (v := .string tS) hg0 rfl
 have c1 := cell_of_row (k := 1) (v := .string jS) hg0 rfl
 have c2 := cell_of_row (k := 2) (v := .int .i64 (wd : Int)) hg0 rfl
 have HB := hid hb0
 clear hb0 hg0
 by_cases h : i < wd
 · have z : (i : Int) < (wd : Int) := by omega
   rw [if_pos h]
   clear h
   go_enter func158, ntmps158
   go_wp2_with fail
   go_ret
   exact ⟨rfl, HB.out⟩
 · have z : ¬ (i : Int) < (wd : Int) := by omega
   rw [if_neg h]
   clear h
   go_enter func158, ntmps158
   go_wp2_with fail
   go_ret
   exact ⟨rfl, HB.out⟩
theorem nameAt_of (s : Scp) (i : Nat) (h : i < s.c.length) : nameAt s i = (s.c[i]).n := by unfold nameAt; simp [h]
theorem meant_any (K : Nat → Prop) (s : Scp) (p : Option Addr) (d : Nat) (t : List UInt8) (i : Nat) (w : World) (h : ListIs rClm 2 24 K w (.slice p s.c.length d) s.c) (hK : ∀ b, K b → b < w.heap.size) (hi : i < s.c.length) (ht : t.length ≤ 140737488355328) :
 Calls prog 139 #[.agg (scpC s p d), .int .i64 (i : Int), .string ⟨t.toArray⟩] w fun e w' => e = .returned (.bool (meantP s t i)) ∧ Bl w w' := by
 have hbig : s.c.length ≤ 140737488355328 := by
  obtain ⟨_, _, -, ⟨h1, -⟩, -⟩ := h
  omega
 obtain ⟨tS, htS⟩ := bya s.t
 obtain ⟨jS, hjS⟩ := bya s.j
 obtain ⟨xS, hxS⟩ := bya t
 have hxd : xS.data.toList = t := by rw [← hxS]
 obtain ⟨N, hN⟩ := gen s.c.length
 have hsc : scpC s p d = #[.string tS, .string jS, .int .i64 (s.w : Int), .slice p N d] := by unfold scpC; rw [htS, hjS, hN]
 obtain ⟨wd, hwd⟩ := gen s.w
 obtain ⟨W0, hW0⟩ := gen (w.alloc (.cells #[.string tS, .string jS, .int .i64 (wd : Int), .slice p N d] 67))
 have hb0 : Bl w W0 := by rw [← hW0]; exact below_alloc _ _
 have hg0 : W0.heap[w.heap.size]? = some (.cells #[.string tS, .string jS, .int .i64 (wd : Int), .slice p N d] 67 (0, 0)) := by rw [← hW0]; exact heap_alloc_new w _
 have hl0 : w.heap.size < W0.heap.size := (gsi hg0).1
 have C1 := hid (cut_one xS W0 (by have := txt_len t; rw [hxS] at this; omega))
 rw [hxd] at C1
 obtain ⟨ca, hca⟩ := gen ((Lib.cut t [46]).1)
 obtain ⟨cb, hcb⟩ := gen ((Lib.cut t [46]).2.1)
 obtain ⟨F, hF⟩ := gen ((Lib.cut t [46]).2.2)
 rw [hca, hcb, hF] at C1
 obtain ⟨aS, haS⟩ := bya ca
 obtain ⟨bS, hbS⟩ := bya cb
 rw [haS, hbS] at C1
 have had : aS.data.toList = ca := by rw [← haS]
 have hbd : bS.data.toList = cb := by rw [← hbS]
 obtain ⟨b, o, hq, hKb, hc⟩ := clm_at h (by omega)
 obtain ⟨c0, -⟩ := hc i hi
 have hna := nameAt_of s i hi
 obtain ⟨nm, hnm⟩ := gen ((s.c[i]).n)
 rw [hnm] at c0 hna
 obtain ⟨nS, hnS⟩ := bya nm
 have hnd : nS.data.toList = nm := by rw [← hnS]
 rw [hnS] at c0
 subst hq
 have hkb := hK b hKb
 have hcl : ∀ n, (W0.drewN n).cell? ⟨b, o + i * 2, none⟩ = some (.string nS) ∧ (W0.drewN n).cell? ⟨w.heap.size, 3, none⟩ = some (.slice (some ⟨b, o, none⟩) N d) ∧ (W0.drewN n).rangeAt w.heap.size 0 [.string tS, .string jS, .int .i64 (wd : Int), .slice (some ⟨b, o, none⟩) N d] ∧ Bl w (W0.drewN n) := fun n => by
  have hb : Bl W0 (W0.drewN n) := below_drewN (Below.refl _ _) n
  have hbw := hb0.trans (hb.mono (by omega))
  exact ⟨(hbw.cell (p := ⟨b, o + i * 2, none⟩) hkb).trans c0, cell_of_row (k := 3) ((hb.block _ hl0).trans hg0) rfl, rgz ((hb.block _ hl0).trans hg0), hbw⟩
 have HCL := hid hcl
 have e1 : (nS.toList == xS.toList) = (nm == t) := eq_text hnd hxd
 have e2 : (nS.toList == bS.toList) = (nm == cb) := eq_text hnd hbd
 have CT : Hid (∀ V, Calls prog 158 #[.agg #[.string tS, .string jS, .int .i64 (wd : Int), .slice (some ⟨b, o, none⟩) N d], .int .i64 (i : Int)] V fun e w' => e = .returned (.string (if i < wd then tS else jS)) ∧ Bl V w') := fun V => tableOf_any tS jS wd _ i V
 obtain ⟨uS, huS⟩ := gen ((if i < wd then tS else jS))
 have hud : uS.data.toList = tableAt s i := by
  unfold tableAt
  rw [hwd, ← huS]
  split
  · rw [← htS]
  · rw [← hjS]
 have e3 : (uS.toList == aS.toList) = (tableAt s i == ca) := eq_text hud had
 rw [huS] at CT
 obtain ⟨R, hR⟩ := gen (meantP s t i)
 have HR : Hid (R = if F = false then nm == t else (nm == cb && tableAt s i == ca)) := by show _ = _; rw [← hR]; unfold meantP; rw [hF, hna, hca, hcb]
 rw [hR, hsc, hxS, hwd]
 obtain ⟨E1, hE1⟩ := gen ((nm == t))
 obtain ⟨E2, hE2⟩ := gen ((nm == cb))
 obtain ⟨E3, hE3⟩ := gen ((tableAt s i == ca))
 rw [hE1] at e1 HR
 rw [hE2] at e2 HR
 rw [hE3] at e3 HR
 have z0 : (0 : Int) ≤ (i : Int) := by omega
 have z1 : (i : Int) < (N : Int) := by omega
 clear h hK hi ht htS hjS hxS hxd hN hsc hwd hb0 hg0 hl0 hca hcb hF haS hbS had hbd hc c0 hna hnm hnS hnd hKb hkb hcl huS hud hR hE1 hE2 hE3
 go_enter func139, ntmps139
 go_wp2_with fail
 refine C1.out.mono ?_
 rintro e w1 ⟨rfl, n, rfl⟩
 obtain ⟨x0, x3, xr, hbw⟩ := HCL.out n
 have HB := hid hbw
 have HXR := hid xr
 clear C1 HCL xr hbw
 cases F with
 | false =>
  have HE : Hid (R = E1) := HR.out
  clear HR e2 e3
  go_wp2_with fail
  go_ret
  exact ⟨by rw [HE.out]; try rfl, HB.out⟩
 | true =>
  have HR2 : Hid (R = (E2 && E3)) := HR.out
  clear HR e1
  cases E2 with
  | false =>
   have HE : Hid (R = false) := HR2.out
   clear HR2 e3 CT
   go_wp2_with fail
   go_ret
   exact ⟨by rw [HE.out]; try rfl, HB.out⟩
  | true =>
   have HE : Hid (R = E3) := by show _ = _; rw [HR2.out, Bool.true_and]
   clear HR2
   go_wp2_with (refine wpList_load_midH (by rfl) 67 _ rfl w.heap.size 0 rfl _ _ HXR.out underlying67 rfl sz_scp ?_)
   refine (CT.out _).mono ?_
   rintro e w2 ⟨rfl, hb2⟩
   have HB2 : Hid (Bl w w2) := HB.out.trans (hb2.mono HB.out.size)
   clear CT hb2
   go_wp2_with fail
   go_ret
   exact ⟨by rw [HE.out]; try rfl, HB2.out⟩
theorem column1_any (K : Nat → Prop) (s : Scp) (p : Option Addr) (d : Nat) (t : List UInt8) (i bs bt : Nat) (w : World) (h : ListIs rClm 2 24 K w (.slice p s.c.length d) s.c) (hK : ∀ b, K b → b < w.heap.size) (hi : i < s.c.length) (ht : t.length ≤ 140737488355328) (hbs : w.rangeAt bs 0 (scpC s p d).toList) (hbt : w.cell? ⟨bt, 0, none⟩ = some (.string ⟨t.toArray⟩)) :
 Calls prog 138 #[.int .i64 (i : Int), .pointer (some ⟨bs, 0, none⟩), .pointer (some ⟨bt, 0, none⟩)] w fun e w' => e = .returned (.bool (!meantP s t i)) ∧ Bl w w' := by
 have C1 := hid (meant_any K s p d t i w h hK hi ht)
 obtain ⟨tS, htS⟩ := bya s.t
 obtain ⟨jS, hjS⟩ := bya s.j
 obtain ⟨xS, hxS⟩ := bya t
 obtain ⟨N, hN⟩ := gen s.c.length
 have hsc : scpC s p d = #[.string tS, .string jS, .int .i64 (s.w : Int), .slice p N d] := by unfold scpC; rw [htS, hjS, hN]
 rw [hsc] at C1 hbs
 rw [hxS] at C1 hbt
 have HRG : Hid (w.rangeAt bs 0 [.string tS, .string jS, .int .i64 (s.w : Int), .slice p N d]) := hbs
 obtain ⟨R, hR⟩ := gen (meantP s t i)
 rw [hR] at C1 ⊢
 clear h hK hi ht htS hjS hxS hN hsc hR hbs
 go_enter func138, ntmps138
 go_wp2_with (refine wpList_load_mid rfl 67 _ rfl bs 0 rfl _ _ HRG.out underlying67 rfl sz_scp ?_)
 refine C1.out.mono ?_
 rintro e w1 ⟨rfl, hb1⟩
 have HB := hid hb1
 clear C1 hb1 HRG
 go_wp2_with fail
 go_ret
 exact ⟨rfl, HB.out⟩
theorem enters138 : ∀ args w, (callFunc 138 args).run prog w = .ok (.enter 138 args) w := enters_of func138 (by kernel_rfl) rfl
def DelN (w : World) (g : Nat) (zs ls : List Nat) (j : Nat) (W : World) : Prop :=
 Kept (fun b => b < w.heap.size ∧ b ≠ g) w W ∧ ∃ cur : Array Value, W.heap[g]? = some (.cells cur 3 (0, 0)) ∧ zs.length ≤ cur.size ∧ (∀ k (h : k < ls.length), cur[k]? = some (.int .i64 (ls[k] : Int))) ∧ ∀ k, j ≤ k → ∀ (h : k < zs.length), cur[k]? = some (.int .i64 (zs[k] : Int))
theorem DelN.put {w W : World} {g : Nat} {zs ls : List Nat} {j : Nat} (h : DelN w g zs ls j W) (hl : ls.length < j) (hj : j < zs.length) (z : Nat) : (∃ u, W.cell? ⟨g, ls.length, none⟩ = some u) ∧ W.frozen? ⟨g, ls.length, none⟩ = false ∧ DelN w g zs (ls ++ [z]) (j + 1) (W.setCell ⟨g, ls.length, none⟩ (.int .i64 (z : Int))) := by
 obtain ⟨hb, cur, hg, hc, h1, h2⟩ := h
 have g2 := heap_setCell_same W g ls.length cur 3 (.int .i64 (z : Int)) hg
 obtain ⟨a1, a2, a3, a4, a5⟩ := setCell_any W g ls.length (.int .i64 (z : Int))
 refine ⟨⟨cur[ls.length]'(by omega), cell_of_row hg (by simp [show ls.length < cur.size by omega])⟩, frozen_zero hg _, ⟨a2.trans hb.os, a3.trans hb.tape, a4.trans hb.output, by have := hb.size; omega, fun k hk => (a5 k hk.2).trans (hb.block k hk)⟩, _, g2, by simpa using hc, fun k hk => ?_, fun k hk hk2 => ?_⟩
 · by_cases e : k = ls.length
   · subst e; rw [Array.getElem?_setIfInBounds_self_of_lt (by omega)]; simp
   · have hk' : k < ls.length := by simp at hk; omega
     rw [Array.getElem?_setIfInBounds_ne (by omega), List.getElem_append_left hk']; exact h1 k hk'
 · rw [Array.getElem?_setIfInBounds_ne (by omega)]; exact h2 k (by omega) hk2
theorem DelN.next {w W : World} {g : Nat} {zs ls : List Nat} {j : Nat} (h : DelN w g zs ls j W) : DelN w g zs ls (j + 1) W := by
 obtain ⟨hb, cur, hg, hc, h1, h2⟩ := h
 exact ⟨hb, cur, hg, hc, h1, fun k hk hk2 => h2 k (by omega) hk2⟩
theorem DelN.lt {w W : World} {g : Nat} {zs ls : List Nat} {j : Nat} (h : DelN w g zs ls j W) : g < W.heap.size := by
 obtain ⟨hb, cur, hg, _⟩ := h
 exact (gsi hg).1
theorem DelN.later {w W W' : World} {g : Nat} {zs ls : List Nat} {j : Nat} (h : DelN w g zs ls j W) (hb' : Bl W W') : DelN w g zs ls j W' := by
 have hl := h.lt
 obtain ⟨hb, cur, hg, hc, h1, h2⟩ := h
 exact ⟨hb.trans (kept_of (fun b h => nlt h.1 hb.size) hb'), cur, (hb'.block g hl).trans hg, hc, h1, h2⟩
theorem DelN.cell {w W : World} {g : Nat} {zs ls : List Nat} {j : Nat} (h : DelN w g zs ls j W) (hj : j < zs.length) : W.cell? ⟨g, j, none⟩ = some (.int .i64 (zs[j] : Int)) := by
 obtain ⟨hb, cur, hg, hc, h1, h2⟩ := h
 exact cell_of_row hg (h2 j (Nat.le_refl _) hj)
theorem filter_step (pr : Nat → Bool) (zs : List Nat) (j : Nat) (h : j < zs.length) : (zs.take (j + 1)).filter pr = if pr zs[j] then (zs.take j).filter pr ++ [zs[j]] else (zs.take j).filter pr := by
 rw [List.take_succ_eq_append_getElem h, List.filter_append]
 split
 · rename_i e; simp [e]
 · rename_i e; simp [e]
def IdxE (pr : Nat → Bool) (zs : List Nat) (e : Ending) : Prop := (e = .returned (.int .i64 (-1)) ∧ zs.filter pr = zs) ∨ ∃ k : Nat, k < zs.length ∧ e = .returned (.int .i64 (k : Int)) ∧ (zs.take (k + 1)).filter pr = zs.take k
theorem index_del (pr : Nat → Bool) (zs : List Nat) (g cap bs bt : Nat) (w : World) (h16 : zs.length ≤ 16) (hz : DelN w g zs [] 0 w) (hcl : ∀ V, DelN w g zs [] 0 V → ∀ i ∈ zs, Calls prog 138 #[.int .i64 (i : Int), .pointer (some ⟨bs, 0, none⟩), .pointer (some ⟨bt, 0, none⟩)] V fun e w' => e = .returned (.bool (!pr i)) ∧ Bl V w') :
 Calls prog 157 #[.slice (some ⟨g, 0, none⟩) zs.length cap, .func (.func 138) #[] #[.pointer (some ⟨bs, 0, none⟩), .pointer (some ⟨bt, 0, none⟩)]] w fun e w' => IdxE pr zs e ∧ DelN w g zs [] 0 w' := by
 have eg := enters138
 have HCL := hid hcl
 obtain ⟨N, hN⟩ := gen zs.length
 have HN := hid hN
 have HZ := hid hz
 have HP1 : Hid (zs.filter pr = zs → IdxE pr zs (.returned (.int .i64 (-1)))) := fun h => .inl ⟨rfl, h⟩
 have HP2 : Hid (∀ k : Nat, k < zs.length → (zs.take (k + 1)).filter pr = zs.take k → IdxE pr zs (.returned (.int .i64 (k : Int)))) := fun k h1 h2 => .inr ⟨k, h1, rfl, h2⟩
 rw [hN] at h16
 rw [hN]
 clear hcl hN hz
 go_enter func157, ntmps157
 go_wp2_with fail
 go_loopg [8] N (fun gf s8 wx => ∃ (i : Nat), s8 = .int .i64 i ∧ i ≤ N ∧ N ≤ i + gf ∧ Hid (DelN w g zs [] 0 wx) ∧ Hid ((zs.take i).filter pr = zs.take i))
 case atStart => exact ⟨0, rfl, by omega, by omega, HZ, rfl⟩
 case round =>
  clear HZ
  obtain ⟨i, rfl, hi1, hgf, HZ, HA⟩ := hrel
  by_cases hi : i < N
  · obtain ⟨g', rfl⟩ : ∃ g', gk = g' + 1 := ⟨gk - 1, by omega⟩
    have hil : i < zs.length := by rw [HN.out]; exact hi
    have hcell : wr.cell? ⟨g, i, none⟩ = some (.int .i64 (zs[i] : Int)) := by
     obtain ⟨hb, cur, hg, hc, h1, h2⟩ := HZ.out
     exact cell_of_row hg (h2 i (Nat.zero_le _) hil)
    have hst := filter_step pr zs i hil
    rw [HA.out] at hst
    have htk : zs.take (i + 1) = zs.take i ++ [zs[i]] := List.take_succ_eq_append_getElem hil
    have CC := hid (HCL.out wr HZ.out zs[i] (List.getElem_mem hil))
    obtain ⟨z, hz⟩ := gen (zs[i])
    rw [hz] at hcell hst CC htk
    have z0 : (0 : Int) ≤ (i : Int) := by omega
    have z1 : (i : Int) < (N : Int) := by omega
    cases hF : pr z with
    | false =>
     rw [hF] at CC hst
     have HQ := hid (HP2.out i hil (by rw [hst]; rfl))
     clear hst htk hz hF HA hil HP1 HP2
     go_wp2_with fail
     refine CC.out.mono ?_
     rintro e w3 ⟨rfl, hb3⟩
     have HZ3 := hid (HZ.out.later hb3)
     clear CC hb3
     go_wp2_with fail
     go_ret
     exact ⟨HQ.out, HZ3.out⟩
    | true =>
     rw [hF] at CC hst
     have HA2 : Hid ((zs.take (i + 1)).filter pr = zs.take (i + 1)) := by show _ = _; rw [hst, htk]; rfl
     clear hst htk hz hF HA hil
     go_wp2_with fail
     refine CC.out.mono ?_
     rintro e w3 ⟨rfl, hb3⟩
     have HZ3 := hid (HZ.out.later hb3)
     clear CC hb3
     go_wp2_with fail
     go_roundg g'
     case measure => omega
     case rel => exact ⟨i + 1, by go_num, by omega, by omega, HZ3, HA2⟩
  · have z1 : ¬ (i : Int) < (N : Int) := by omega
    have HQ := hid (HP1.out (by have := HA.out; rwa [List.take_of_length_le (by rw [HN.out]; omega)] at this))
    clear HA HP1 HP2
    go_wp2_with fail
    go_ret
    exact ⟨HQ.out, HZ.out⟩
def DelE (w : World) (pr : Nat → Bool) (zs : List Nat) (g cap : Nat) (e : Ending) (w' : World) : Prop :=
 e = .returned (.slice (some ⟨g, 0, none⟩) (zs.filter pr).length cap) ∧ Kept (fun b => b < w.heap.size ∧ b ≠ g) w w' ∧ ∀ k (h : k < (zs.filter pr).length), w'.cell? ⟨g, k, none⟩ = some (.int .i64 ((zs.filter pr)[k] : Int))
theorem inE_int : ∃ i0, prog.info? 3 = some i0 ∧ i0.zero = some (.int .i64 0) ∧ i0.size = 1 ∧ i0.bytes = 8 := by
 have h1 : (prog.info? 3).bind (·.zero) = some (.int .i64 0) := by kernel_rfl
 have h2 : (prog.info? 3).map (fun i => (i.size, i.bytes)) = some (1, 8) := by kernel_rfl
 cases h : prog.info? 3 with
 | none => rw [h] at h2; cases h2
 | some i0 =>
  rw [h] at h1 h2
  have h3 := Option.some.inj h2
  exact ⟨i0, rfl, h1, (Prod.mk.inj h3).1, (Prod.mk.inj h3).2⟩
theorem delete_any (pr : Nat → Bool) (zs : List Nat) (g cap bs bt : Nat) (w : World) (h16 : zs.length ≤ 16) (hcap : zs.length ≤ cap) (hz : DelN w g zs [] 0 w) (hcl : ∀ V, Kept (fun b => b < w.heap.size ∧ b ≠ g) w V → ∀ i ∈ zs, Calls prog 138 #[.int .i64 (i : Int), .pointer (some ⟨bs, 0, none⟩), .pointer (some ⟨bt, 0, none⟩)] V fun e w' => e = .returned (.bool (!pr i)) ∧ Bl V w') :
 Calls prog 137 #[.slice (some ⟨g, 0, none⟩) zs.length cap, .func (.func 138) #[] #[.pointer (some ⟨bs, 0, none⟩), .pointer (some ⟨bt, 0, none⟩)]] w fun e w' => DelE w pr zs g cap e w' := by
 have eg := enters138
 have HCL := hid hcl
 have C1 := hid (index_del pr zs g cap bs bt w h16 hz (fun V hV => hcl V hV.1))
 obtain ⟨N, hN⟩ := gen zs.length
 have HN := hid hN
 obtain ⟨i0, hi0, hz0', hz1', hz2'⟩ := inE_int
 have hv3 : ∀ w, (zeroValue 3).run prog w = .ok (.int .i64 0) w := fun w => by simp [zeroValue, typeInfo, hi0, hz0']
 rw [hN] at h16 hcap C1
 rw [hN]
 clear hcl hN hz
 go_enter func137, ntmps137
 go_wp2_with fail
 refine C1.out.mono ?_
 rintro e w1 ⟨hE, hd⟩
 rcases hE with ⟨rfl, hf⟩ | ⟨k, hk, rfl, hf⟩
 · have HF : Hid (DelE w pr zs g cap (.returned (.slice (some ⟨g, 0, none⟩) N cap)) w1) := by
    refine ⟨by rw [hf, HN.out], hd.1, fun k hk => ?_⟩
    obtain ⟨_, cur, hg, hc, h1, h2⟩ := hd
    simp only [hf] at hk ⊢
    exact cell_of_row hg (h2 k (Nat.zero_le _) hk)
   clear hf hd C1
   go_wp2_with fail
   go_ret
   exact HF.out
 · have hkN : k < N := by rw [← HN.out]; exact hk
   have HLk : Hid (((zs.take (k + 1)).filter pr).length = k) := by show _ = _; rw [hf, List.length_take]; omega
   have HJ : Hid (DelN w g zs ((zs.take (k + 1)).filter pr) (k + 1) w1) := by
    show DelN _ _ _ _ _ _
    rw [hf]
    obtain ⟨hb, cur, hg, hc, h1, h2⟩ := hd
    exact ⟨hb, cur, hg, hc, fun m hm => by
     rw [List.length_take] at hm
     rw [List.getElem_take]; exact h2 m (Nat.zero_le _) (by omega), fun m _ hm => h2 m (Nat.zero_le _) hm⟩
   have hk1 : ((k : Int) == -1) = false := bfn (by omega)
   clear hf hd C1 hk
   go_wp2_with fail
   go_loopg [5, 6] N (fun gf s5 s6 wx => ∃ i j : Nat, s5 = .int .i64 i ∧ s6 = .int .i64 j ∧ i < j ∧ j ≤ N ∧ N ≤ j + gf ∧ Hid (((zs.take j).filter pr).length = i) ∧ Hid (DelN w g zs ((zs.take j).filter pr) j wx))
   case atStart => exact ⟨k, k + 1, rfl, by go_num, by omega, by omega, by omega, HLk, HJ⟩
   case round =>
    clear HJ HLk
    obtain ⟨i, j, rfl, rfl, hij, hj1, hgf, HLi, HJ⟩ := hrel
    have hz0 : (0 : Int) ≤ (j : Int) := by omega
    have hz2 : (0 : Int) ≤ (i : Int) := by omega
    have hz3 : (i : Int) < (N : Int) := by omega
    by_cases hj : j < N
    · obtain ⟨g', rfl⟩ : ∃ g', gk = g' + 1 := ⟨gk - 1, by omega⟩
      have hjl : j < zs.length := by rw [HN.out]; exact hj
      have hst := filter_step pr zs j hjl
      have c0 := HJ.out.cell hjl
      have C2 := hid (HCL.out wr HJ.out.1 zs[j] (List.getElem_mem hjl))
      obtain ⟨z, hz⟩ := gen (zs[j])
      rw [hz] at c0 hst C2
      have hz1 : (j : Int) < (N : Int) := by omega
      cases ha : pr z
      · rw [ha] at hst C2
        have hst' : (zs.take (j + 1)).filter pr = (zs.take j).filter pr := hst
        have HST := hid hst'
        have HL2 : Hid (((zs.take (j + 1)).filter pr).length = i) := by show _ = _; rw [hst']; exact HLi.out
        clear hst hst' ha HLi hz hjl
        go_wp2_with fail
        refine C2.out.mono ?_
        rintro e w2 ⟨rfl, hb2⟩
        have HJ2 : Hid (DelN w g zs ((zs.take (j + 1)).filter pr) (j + 1) w2) := by show DelN _ _ _ _ _ _; rw [HST.out]; exact (HJ.out.later hb2).next
        clear C2 HST HJ hb2
        go_wp2_with fail
        go_roundg g'
        case measure => omega
        case rel => exact ⟨i, j + 1, rfl, by go_num, by omega, by omega, by omega, HL2, HJ2⟩
      · rw [ha] at hst C2
        have hst' : (zs.take (j + 1)).filter pr = (zs.take j).filter pr ++ [z] := hst
        have HST := hid hst'
        have HL2 : Hid (((zs.take (j + 1)).filter pr).length = i + 1) := by show _ = _; rw [hst', List.length_append, HLi.out]; rfl
        have HJL := hid hjl
        clear hst hst' ha hz hjl
        go_wp2_with fail
        refine C2.out.mono ?_
        rintro e w2 ⟨rfl, hb2⟩
        obtain ⟨⟨old, ci⟩, cf, hput⟩ := (HJ.out.later hb2).put (by rw [HLi.out]; exact hij) HJL.out z
        rw [HLi.out] at ci cf hput
        have HJ2 : Hid (DelN w g zs ((zs.take (j + 1)).filter pr) (j + 1) (w2.setCell ⟨g, i, none⟩ (.int .i64 (z : Int)))) := by show DelN _ _ _ _ _ _; rw [HST.out]; exact hput
        clear C2 HST HJ hb2 hput HLi HJL
        go_wp2_with fail
        go_roundg g'
        case measure => omega
        case rel => exact ⟨i + 1, j + 1, by go_num, by go_num, by omega, by omega, by omega, HL2, HJ2⟩
    · have hend : j = zs.length := by rw [HN.out]; omega
      have hz1 : ¬ (j : Int) < (N : Int) := by omega
      obtain ⟨hBj, cur', hg', hc', h1', _⟩ := HJ.out
      rw [hend, List.take_length] at h1'
      have hNc : N ≤ cur'.size := by rw [← HN.out]; exact hc'
      have hcl : ∀ ty, (Builtin.clear_ #[29] ty #[.slice (some ⟨g, i, none⟩) (N - i) (cap - i)]).run prog wr = .ok (.tuple #[]) (wr.setCells g i (List.replicate (N - i) (.int .i64 0))) :=
       fun ty => Lib.run_clear_slice wr _ _ ty _ underlying29 hv3 rfl rfl g i _ _ (by omega) (fun m hm => by simp [World.cell?, hg', show i + m < cur'.size by omega]) (fun m hm => frozen_zero hg' _)
      obtain ⟨a1, a2, a3, a4, a5⟩ := setCells_any g (List.replicate (N - i) (Value.int .i64 0)) i wr
      have hli : (zs.filter pr).length = i := by have := HLi.out; rwa [hend, List.take_length] at this
      have HF : Hid (DelE w pr zs g cap (.returned (.slice (some ⟨g, 0, none⟩) i cap)) (wr.setCells g i (List.replicate (N - i) (.int .i64 0)))) := by
       refine ⟨by rw [hli], ⟨a2.trans hBj.os, a3.trans hBj.tape, a4.trans hBj.output, by have := hBj.size; omega, fun k hk => (a5 k hk.2).trans (hBj.block k hk)⟩, fun m hm => ?_⟩
       rw [World.cell?_setCells_out g _ _ wr ⟨g, m, none⟩ (fun _ _ => .inl (by show m < i; omega))]
       exact cell_of_row hg' (h1' m hm)
      clear HJ hBj hg' hc' h1' hend hli a1 a2 a3 a4 a5 HLi HCL hNc
      go_wp2_with fail
      go_ret
      exact HF.out
def stopE (x : Int) : Ending := .panicked [{ v := .iface 33 (.int .i64 x), recovered := false }]
def Got {α : Type} (r : Except Int α) (P : α → Ending → Prop) (e : Ending) : Prop :=
 match r with
 | .ok a => P a e
 | .error x => e = stopE x
def RetN (p : Nat) (e : Ending) : Prop := e = .returned (.int .i64 (p : Int))
theorem make_int (n : Nat) (hn : n ≤ 16) (w : World) : ∃ Z : Array Value, Z.size = n * 1 ∧ (Instr.makeSlice 29 (.int .i64 (n : Int)) (.int .i64 (n : Int))).run prog w = .ok (.slice (some ⟨w.heap.size, 0, none⟩) n n) (w.alloc (.cells Z 3)) := by
 obtain ⟨i0, hi, hz, hs, hb⟩ := inE_int
 have := run_make (P := prog) (w := w) 29 3 i0 _ underlying29 hi hz .i64 .i64 (n : Int) (n : Int) (by omega) (by omega) (by rw [hb]; omega) (by omega)
 rw [hs] at this
 refine ⟨madeCells (Value.int .i64 0).cells (n * 1), by rw [size_madeCells], ?_⟩
 simpa using this
def placesC (n : Nat) : List Value := (List.range n).map fun (i : Nat) => Value.int .i64 (i : Int)
theorem placesC_len (n : Nat) : (placesC n).length = n := by simp [placesC]
theorem placesC_next (n : Nat) : placesC (n + 1) = placesC n ++ [.int .i64 (n : Int)] := by simp [placesC, List.range_succ]
theorem column_any (K : Nat → Prop) (s : Scp) (p : Option Addr) (d : Nat) (t : List UInt8) (w : World) (h : ListIs rClm 2 24 K w (.slice p s.c.length d) s.c) (hK : ∀ b, K b → b < w.heap.size) (h16 : s.c.length ≤ 16) (ht : t.length ≤ 140737488355328) :
 Calls prog 107 #[.agg (scpC s p d), .string ⟨t.toArray⟩] w fun e w' => Got (colR s t) RetN e ∧ Below w.heap.size w w' := by
 have hmf : ∀ (fn : Fn) (first cap : Array Value) (w : World), (Instr.makeFunc fn first cap).run prog w = .ok (.func fn first cap) w := fun _ _ _ _ => rfl
 obtain ⟨tS, htS⟩ := bya s.t
 obtain ⟨jS, hjS⟩ := bya s.j
 obtain ⟨xS, hxS⟩ := bya t
 obtain ⟨N, hN⟩ := gen s.c.length
 obtain ⟨wd, hwd⟩ := gen s.w
 have hsc : scpC s p d = #[.string tS, .string jS, .int .i64 (wd : Int), .slice p N d] := by unfold scpC; rw [htS, hjS, hN, hwd]
 obtain ⟨W0, hW0, hb0, hz0, g0, g1⟩ := two_boxes2 w #[.string tS, .string jS, .int .i64 (wd : Int), .slice p N d] #[.string xS] 67 9
 have hG2 : W0.heap.size = w.heap.size + 2 := hz0
 have HBX : Hid (∀ V, Kept (fun b => b < W0.heap.size) W0 V → V.rangeAt w.heap.size 0 (scpC s p d).toList ∧ V.cell? ⟨w.heap.size + 1, 0, none⟩ = some (.string ⟨t.toArray⟩) ∧ ListIs rClm 2 24 K V (.slice p s.c.length d) s.c ∧ (∀ b, K b → b < V.heap.size) ∧ Below w.heap.size w V) := fun V hV => by
  have hbV : Below w.heap.size w V := ⟨hV.os.trans hb0.os, hV.tape.trans hb0.tape, hV.output.trans hb0.output, by have := hV.size; have := hb0.size; omega, fun b hb => (hV.block b (by show b < _; omega)).trans (hb0.block b hb)⟩
  refine ⟨fun j u hu => ?_, ?_, h.later mClm hK hbV, fun b hb => nlt (hK b hb) hbV.size, hbV⟩
  · rw [Nat.zero_add]
    rw [hsc] at hu
    exact cell_of_row ((hV.block _ (by show _ < _; omega)).trans g0) (by simpa using hu)
  · rw [hxS]
    exact cell_of_row ((hV.block _ (by show _ < _; omega)).trans g1) rfl
 have c3 := cell_of_row (k := 3) (v := .slice p N d) g0 rfl
 obtain ⟨Z, hZ, hmk⟩ := make_int N (by omega) W0
 have HF : Hid (Fil 3 1 N W0.heap.size W0 W0.heap.size (placesC 0) (W0.alloc (.cells Z 3))) := Fil.start 3 1 N W0 Z hZ
 obtain ⟨W1, hW1⟩ := gen (W0.alloc (.cells Z 3))
 rw [hW1] at hmk HF
 obtain ⟨G, hG⟩ := gen W0.heap.size
 have c3' : W1.cell? ⟨w.heap.size, 3, none⟩ = some (.slice p N d) := by
  have hb := HF.out.below
  exact cell_of_row ((hb.block _ (by omega)).trans g0) rfl
 rw [hG] at hmk HF
 have HG : Hid (W0.heap.size = G ∧ G = w.heap.size + 2) := ⟨hG, by omega⟩
 have CD : Hid (∀ V, DelN V G (List.range N) [] 0 V → Below W0.heap.size W0 V → Calls prog 137 #[.slice (some ⟨G, 0, none⟩) N N, .func (.func 138) #[] #[.pointer (some ⟨w.heap.size, 0, none⟩), .pointer (some ⟨w.heap.size + 1, 0, none⟩)]] V fun e w' => DelE V (meantP s t) (List.range N) G N e w') := fun V hV hbV => by
  have := delete_any (meantP s t) (List.range N) G N w.heap.size (w.heap.size + 1) V (by rw [List.length_range]; omega) (by rw [List.length_range]; omega) hV (fun X hX i hi => by
   have hkX : Kept (fun b => b < W0.heap.size) W0 X := (kept_of (fun b h => h) hbV).trans (hX.less fun b (hb : b < W0.heap.size) => ⟨by have := hbV.size; omega, by omega⟩)
   obtain ⟨k1, k2, k3, k4, _⟩ := HBX.out X hkX
   exact column1_any K s p d t i _ _ X k3 k4 (by have := List.mem_range.1 hi; omega) ht k1 k2)
  rwa [List.length_range] at this
 have HRES : Hid (colR s t = oneP ((List.range N).filter (meantP s t))) := by show _ = _; unfold colR leftP; rw [hN]
 have hN16 : N ≤ 16 := by omega
 rw [hsc, hxS]
 clear h hK h16 ht htS hjS hxS hN hwd hsc hb0 hz0 g0 g1 hG2 hZ hW1 hG
 go_enter func107, ntmps107
 go_wp2_with fail
 go_loopg [15] N (fun gf s15 wx => ∃ i : Nat, s15 = .int .i64 i ∧ i ≤ N ∧ N ≤ i + gf ∧ Hid (Fil 3 1 N G W0 G (placesC i) wx))
 case atStart => exact ⟨0, rfl, by omega, by omega, HF⟩
 case round =>
  clear HF hmk c3 c3'
  obtain ⟨i, rfl, hi1, hgf, HF⟩ := hrel
  by_cases hi : i < N
  · obtain ⟨g', rfl⟩ : ∃ g', gk = g' + 1 := ⟨gk - 1, by omega⟩
    obtain ⟨⟨u, cu⟩, fu, X, hX, hFX, _, _⟩ := HF.out.put1 (.int .i64 (i : Int)) (by rw [placesC_len]; omega)
    rw [placesC_len] at cu fu hX
    rw [← placesC_next] at hFX
    have HFX := hid hFX
    have z0 : (0 : Int) ≤ (i : Int) := by omega
    have z1 : (i : Int) < (N : Int) := by omega
    clear HF hFX
    go_wp2_with fail
    go_roundg g'
    case measure => omega
    case rel => exact ⟨i + 1, by go_num, by omega, by omega, HFX⟩
  · have z1 : ¬ (i : Int) < (N : Int) := by omega
    have hiN : i = N := by omega
    have hFN := HF.out
    rw [hiN] at hFN
    have hbW : Below W0.heap.size W0 wr := by rw [HG.out.1]; exact hFN.below
    have hdel : DelN wr G (List.range N) [] 0 wr := by
     obtain ⟨⟨cur, hg, hs, htk⟩, _, _⟩ := hFN
     refine ⟨Kept.refl _ _, cur, hg, by rw [List.length_range]; omega, fun k hk => by simp at hk, fun k _ hk => ?_⟩
     rw [List.length_range] at hk
     have h1 : (placesC N)[k]? = some (.int .i64 (k : Int)) := by simp [placesC, hk]
     rw [← htk, List.getElem?_take_of_lt (by rw [placesC_len]; omega)] at h1
     rw [List.getElem_range]
     simpa using h1
    have C1 := hid (CD.out wr hdel hbW)
    have HBW := hid hbW
    clear HF hFN hbW hdel CD hiN
    go_wp2_with fail
    refine C1.out.mono ?_
    rintro e w4 ⟨rfl, hk4, hc4⟩
    have HB4 : Hid (Below w.heap.size w w4) := by
     have hbw := (HBX.out wr (kept_of (fun b h => h) HBW.out)).2.2.2.2
     refine ⟨hk4.os.trans hbw.os, hk4.tape.trans hbw.tape, hk4.output.trans hbw.output, by have := hk4.size; have := hbw.size; omega, fun b hb => (hk4.block b ⟨by have := hbw.size; omega, by have := HG.out.2; omega⟩).trans (hbw.block b hb)⟩
    obtain ⟨L, hL⟩ := gen ((List.range N).filter (meantP s t))
    rw [hL] at hc4 HRES
    rw [hL]
    clear C1 hk4 HBX HBW hL
    by_cases h1 : L.length = 1
    · obtain ⟨a, rfl⟩ : ∃ a, L = [a] := by
       match L, h1 with
       | [a], _ => exact ⟨a, rfl⟩
      have ca : w4.cell? ⟨G, 0, none⟩ = some (.int .i64 (a : Int)) := hc4 0 (by simp)
      have HQ : Hid (Got (colR s t) RetN (.returned (.int .i64 (a : Int)))) := by show Got _ _ _; rw [HRES.out]; exact rfl
      clear HRES hc4 h1
      go_wp2_with fail
      go_ret
      exact ⟨HQ.out, HB4.out⟩
    · have y1 : ((L.length : Int) != 1) = true := bne_iff_ne.2 (by omega)
      have HQ : Hid (Got (colR s t) RetN (stopE 14)) := by
       show Got _ _ _
       rw [HRES.out]
       unfold oneP
       split
       · rename_i e; exact absurd (by rfl) h1
       · rfl
      obtain ⟨m, hm⟩ := gen L.length
      rw [hm] at y1 ⊢
      clear HRES hc4 h1 hm
      unfold stopE at HQ
      go_wp2_with fail
      exact ⟨rfl, HQ.out, HB4.out⟩
theorem stop_any (x : Int) (w : World) : Calls prog 109 #[.int .i64 x] w fun e w' => e = (if x = 0 then .returned (.tuple #[]) else stopE x) ∧ w' = w := by
 unfold stopE
 by_cases h : x = 0
 · have y : (x != 0) = false := by rw [h]; rfl
   rw [if_pos h]
   clear h
   go_enter func109, ntmps109
   go_wp2_with fail
   exact ⟨rfl, .tuple #[], by simp [results, results109], rfl, rfl⟩
 · have y : (x != 0) = true := bne_iff_ne.2 h
   rw [if_neg h]
   clear h
   go_enter func109, ntmps109
   go_wp2_with fail
   exact ⟨rfl, rfl, rfl⟩
theorem wrap_small (z : Int) (h0 : 0 ≤ z) (h1 : z ≤ 1000) : IntKind.i64.wrap z = z ∧ wrap64 z = z := by
 constructor
 · rw [IntKind.wrap_i64]; omega
 · unfold wrap64; omega
theorem kindAt_of (s : Scp) (i : Nat) (h : i < s.c.length) : kindAt s i = (s.c[i]).k := by unfold kindAt; simp [h]
theorem joins_any (K : Nat → Prop) (s : Scp) (p : Option Addr) (d : Nat) (a b : Int) (w : World) (h : ListIs rClm 2 24 K w (.slice p s.c.length d) s.c) (hK : ∀ b, K b → b < w.heap.size) (h16 : s.c.length ≤ 16) (hw : s.w ≤ s.c.length) :
 Calls prog 70 #[.agg (scpC s p d), .int .i64 a, .int .i64 b] w fun e w' => e = .returned (.bool (joinsP s a b)) ∧ Bl w w' := by
 obtain ⟨tS, htS⟩ := bya s.t
 obtain ⟨jS, hjS⟩ := bya s.j
 obtain ⟨N, hN⟩ := gen s.c.length
 obtain ⟨wd, hwd⟩ := gen s.w
 have hsc : scpC s p d = #[.string tS, .string jS, .int .i64 (wd : Int), .slice p N d] := by unfold scpC; rw [htS, hjS, hN, hwd]
 obtain ⟨W0, hW0⟩ := gen (w.alloc (.cells #[.string tS, .string jS, .int .i64 (wd : Int), .slice p N d] 67))
 have hb0 : Bl w W0 := by rw [← hW0]; exact below_alloc _ _
 have hg0 : W0.heap[w.heap.size]? = some (.cells #[.string tS, .string jS, .int .i64 (wd : Int), .slice p N d] 67 (0, 0)) := by rw [← hW0]; exact heap_alloc_new w _
 have c2 := cell_of_row (k := 2) (v := .int .i64 (wd : Int)) hg0 rfl
 have c3 := cell_of_row (k := 3) (v := .slice p N d) hg0 rfl
 obtain ⟨r, hr⟩ := gen (N - wd)
 have hwN : wd + r = N := by omega
 have hN16 : N ≤ 16 := by omega
 have hsub2 : (N : Int) - (wd : Int) = (r : Int) := by omega
 have hwr : wrap64 (r : Int) = (r : Int) := (wrap_small _ (by omega) (by omega)).2
 obtain ⟨R, hR⟩ := gen (joinsP s a b)
 have HR : Hid (R = if a < 0 ∨ (wd : Int) ≤ a ∨ b < 0 ∨ (r : Int) ≤ b then false else kindAt s a.toNat == kindAt s (wd + b.toNat)) := by show _ = _; rw [← hR]; unfold joinsP; rw [hwd, hN, hsub2]
 have HB := hid hb0
 have HL := hid (h.later mClm hK hb0)
 have HNW : Hid (s.c.length = N ∧ s.w = wd) := ⟨hN, hwd⟩
 rw [hsc, hR]
 clear h hK h16 hw htS hjS hN hwd hsc hb0 hg0 hr hR
 have HWN : Hid (wd + r = N ∧ N ≤ 16) := ⟨hwN, hN16⟩
 clear hwN
 by_cases h1 : a < 0
 · have HE : Hid (R = false) := by show _ = _; rw [HR.out, if_pos (.inl h1)]
   clear HR HL hsub2 hwr hN16
   go_enter func70, ntmps70
   go_wp2_with fail
   go_ret
   exact ⟨by rw [HE.out]; rfl, HB.out⟩
 by_cases h2 : (wd : Int) ≤ a
 · have HE : Hid (R = false) := by show _ = _; rw [HR.out, if_pos (.inr (.inl h2))]
   clear HR HL hsub2 hwr hN16
   go_enter func70, ntmps70
   go_wp2_with fail
   go_ret
   exact ⟨by rw [HE.out]; rfl, HB.out⟩
 by_cases h3 : b < 0
 · have HE : Hid (R = false) := by show _ = _; rw [HR.out, if_pos (.inr (.inr (.inl h3)))]
   clear HR HL hsub2 hwr hN16
   go_enter func70, ntmps70
   go_wp2_with fail
   go_ret
   exact ⟨by rw [HE.out]; rfl, HB.out⟩
 by_cases h4 : (r : Int) ≤ b
 · have HE : Hid (R = false) := by show _ = _; rw [HR.out, if_pos (.inr (.inr (.inr h4)))]
   clear HR HL hN16
   go_enter func70, ntmps70
   go_wp2_with fail
   go_ret
   exact ⟨by rw [HE.out]; rfl, HB.out⟩
 obtain ⟨i, rfl⟩ : ∃ i : Nat, a = (i : Int) := ⟨a.toNat, by omega⟩
 obtain ⟨k, rfl⟩ : ∃ i : Nat, b = (i : Int) := ⟨b.toNat, by omega⟩
 have hwn := HWN.out
 have hi : i < wd := by omega
 have hk : wd + k < N := by omega
 obtain ⟨g, o, hq, _, hc⟩ := clm_at HL.out (by rw [HNW.out.1]; omega)
 subst hq
 have x1 := (hc i (by rw [HNW.out.1]; omega)).2
 have x2 := (hc (wd + k) (by rw [HNW.out.1]; omega)).2
 have hA := kindAt_of s i (by rw [HNW.out.1]; omega)
 have hB := kindAt_of s (wd + k) (by rw [HNW.out.1]; omega)
 rw [← hA] at x1
 rw [← hB] at x2
 obtain ⟨A, hAA⟩ := gen (kindAt s i)
 obtain ⟨B, hBB⟩ := gen (kindAt s (wd + k))
 rw [hAA] at x1
 rw [hBB] at x2
 have HE : Hid (R = (A == B)) := by show _ = _; rw [HR.out, if_neg (by omega), Int.toNat_natCast, Int.toNat_natCast, hAA, hBB]
 obtain ⟨m, hm⟩ := gen (wd + k)
 rw [hm] at x2 hk
 have hadd2 : (wd : Int) + (k : Int) = (m : Int) := by omega
 have hib : (i : Int) < (N : Int) := by omega
 have hmb : (m : Int) < (N : Int) := by omega
 have hi0 : (0 : Int) ≤ (i : Int) := by omega
 have hm0 : (0 : Int) ≤ (m : Int) := by omega
 have HEQ : Hid (((A : Int) == (B : Int)) = (A == B)) := by
  show _ = _
  by_cases e : A = B
  · subst e; simp
  · rw [bfn (by omega : (A : Int) ≠ (B : Int)), bfn e]
 have hm1 : (m : Int) ≤ 1000 := by omega
 have hwm : wrap64 (m : Int) = (m : Int) := (wrap_small (m : Int) hm0 hm1).2
 obtain ⟨Q, hQ⟩ := gen (((A : Int) == (B : Int)))
 have HE2 : Hid (R = Q) := by show _ = _; rw [HE.out, ← HEQ.out, hQ]
 clear HR HL hc hA hB hAA hBB HE HEQ hm hwn hi hk hN16 hm1
 go_enter func70, ntmps70
 go_wp2_with fail
 go_quiet (fail)
 go_wp2_with fail
 go_ret
 exact ⟨by rw [HE2.out]; try rfl, below_drewN HB.out _⟩
theorem checkWhere_any (K Kc : Nat → Prop) (s : Scp) (p : Option Addr) (d : Nat) (q : Option Addr) (c : Nat) (l : List Stp) (w : World) (h : ListIs rClm 2 24 Kc w (.slice p s.c.length d) s.c) (hKc : ∀ b, Kc b → b < w.heap.size) (hl : ListIs rStpW 3 32 K w (.slice q l.length c) l) (hK : ∀ b, K b → b < w.heap.size) (hG : GW w) :
 Calls prog 71 #[.agg (scpC s p d), .slice q l.length c] w fun e w' => e = .returned (.int .i64 (whereE s l)) ∧ Bl w w' := by
 obtain ⟨tS, htS⟩ := bya s.t
 obtain ⟨jS, hjS⟩ := bya s.j
 obtain ⟨N, hN⟩ := gen s.c.length
 obtain ⟨wd, hwd⟩ := gen s.w
 have hsc : scpC s p d = #[.string tS, .string jS, .int .i64 (wd : Int), .slice p N d] := by unfold scpC; rw [htS, hjS, hN, hwd]
 obtain ⟨W0, hW0⟩ := gen (w.alloc (.cells #[.string tS, .string jS, .int .i64 (wd : Int), .slice p N d] 67))
 have hb0 : Bl w W0 := by rw [← hW0]; exact below_alloc _ _
 have hg0 : W0.heap[w.heap.size]? = some (.cells #[.string tS, .string jS, .int .i64 (wd : Int), .slice p N d] 67 (0, 0)) := by rw [← hW0]; exact heap_alloc_new w _
 have c3 := cell_of_row (k := 3) (v := .slice p N d) hg0 rfl
 have C1 := hid (kind_any K Kc q p c d l s.c W0 (hl.later mStpW hK hb0) (h.later mClm hKc hb0) (fun b hb => nlt (hK b hb) hb0.size) (fun b hb => nlt (hKc b hb) hb0.size) (hG.below hb0))
 obtain ⟨k, hk⟩ := gen ((kindP l s.c).1)
 obtain ⟨y, hy⟩ := gen ((kindP l s.c).2)
 obtain ⟨R, hR⟩ := gen (whereE s l)
 have HR : Hid (R = if y = 0 ∧ k ≠ 1 ∧ k ≠ 0 then 5 else y) := by show _ = _; rw [← hR]; unfold whereE; rw [hk, hy]
 rw [hk, hy, hN] at C1
 obtain ⟨M, hM⟩ := gen l.length
 rw [hM] at C1 ⊢
 rw [hsc, hR]
 have HB := hid hb0
 clear h hKc hl hK hG htS hjS hN hwd hsc hb0 hg0 hk hy hR hM
 go_enter func71, ntmps71
 go_wp2_with fail
 refine C1.out.mono ?_
 rintro e w1 ⟨rfl, hb1⟩
 have HB1 : Hid (Bl w w1) := HB.out.trans (hb1.mono HB.out.size)
 clear C1 hb1 c3
 by_cases hy : y = 0
 · have yy : (y == 0) = true := by rw [hy]; rfl
   by_cases h1 : k = 1
   · have y1 : ((k : Int) != 1) = false := by simp [h1]
     have HE : Hid (R = y) := by show _ = _; rw [HR.out, if_neg (by omega)]
     clear HR h1 hy
     go_wp2_with fail
     go_ret
     exact ⟨by rw [HE.out]; try rfl, HB1.out⟩
   · have y1 : ((k : Int) != 1) = true := bne_iff_ne.2 (by omega)
     by_cases h0 : k = 0
     · have y0 : ((k : Int) != 0) = false := by simp [h0]
       have HE : Hid (R = y) := by show _ = _; rw [HR.out, if_neg (by omega)]
       clear HR h1 h0 hy
       go_wp2_with fail
       go_ret
       exact ⟨by rw [HE.out]; try rfl, HB1.out⟩
     · have y0 : ((k : Int) != 0) = true := bne_iff_ne.2 (by omega)
       have HE : Hid (R = 5) := by show _ = _; rw [HR.out, if_pos ⟨hy, h1, h0⟩]
       clear HR h1 h0 hy
       go_wp2_with fail
       go_ret
       exact ⟨by rw [HE.out]; try rfl, HB1.out⟩
 · have yy : (y == 0) = false := bfn hy
   have HE : Hid (R = y) := by show _ = _; rw [HR.out, if_neg (by omega)]
   clear HR hy
   go_wp2_with fail
   go_ret
   exact ⟨by rw [HE.out]; try rfl, HB1.out⟩
end Go.Proofs.YtfifphfihdhlaaaGreatDoor.Bd

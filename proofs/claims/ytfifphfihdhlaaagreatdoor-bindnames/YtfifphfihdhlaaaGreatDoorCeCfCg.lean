/- A table of a catalog, by its name: find$1, IndexFunc, find. -/
import Derived.Test.YtfifphfihdhlaaaGreatDoorCcCd
import Derived.Test.YtfifphfihdhlaaaGreatDoorQbTk
set_option maxRecDepth 100000
set_option maxHeartbeats 32000000
namespace Go.Proofs.YtfifphfihdhlaaaGreatDoor.Bd
open Tryz
open Go.Shelf Go.RowKit Go.Lib Go.Sort
set_option linter.unusedVariables false
set_option linter.unusedSimpArgs false
attribute [local go_sem ↓] Go.wp_at_zero Go.wp_at_succ
def rTab : Rel Tab := fun K W cs t => ∃ v pr nr cr, cs = [.string ⟨t.n.toArray⟩, v, .slice pr nr cr] ∧ ListIs rClm 2 24 K W v t.c ∧ t.n.length ≤ 140737488355328
theorem mTab : Mono rTab := fun _ _ _ _ _ _ hk hW ⟨v, pr, nr, cr, e, hl, hn⟩ => ⟨v, pr, nr, cr, e, hl.mono mClm hk hW, hn⟩
theorem tab_at {K : Nat → Prop} {w : World} {q : Option Addr} {n c : Nat} {l : List Tab} (h : ListIs rTab 3 64 K w (.slice q n c) l) (hl : 0 < l.length) : ∃ b o, q = some ⟨b, o, none⟩ ∧ K b ∧ ∀ i (hi : i < l.length), ∃ pc cc pr nr cr, w.rangeAt b (o + i * 3) [.string ⟨(l[i]).n.toArray⟩, .slice pc (l[i]).c.length cc, .slice pr nr cr] ∧ ListIs rClm 2 24 K w (.slice pc (l[i]).c.length cc) (l[i]).c ∧ (l[i]).n.length ≤ 140737488355328 := by
 obtain ⟨q', c', e, _, hp⟩ := h
 obtain ⟨b, o, rfl, hKb, hc⟩ := hp hl
 cases e
 refine ⟨b, o, rfl, hKb, fun i hi => ?_⟩
 obtain ⟨cs, _, hcell, v, pr, nr, cr, rfl, hli, hn⟩ := hc i hi
 obtain ⟨pc, cc, rfl, h1, h2⟩ := hli
 exact ⟨pc, cc, pr, nr, cr, fun j u hu => hcell j u hu, ⟨pc, cc, rfl, h1, h2⟩, hn⟩
theorem sz_tab : (prog.info? 56).map (·.size) = some 3 := by kernel_rfl
theorem enters87 : ∀ args w, (callFunc 87 args).run prog w = .ok (.enter 87 args) w := enters_of func87 (by kernel_rfl) rfl
def FoundT (l : List Tab) (n : List UInt8) (e : Ending) : Prop := (e = .returned (.int .i64 (-1)) ∧ findP l n = none) ∨ ∃ i, ∃ hi : i < l.length, e = .returned (.int .i64 (i : Int)) ∧ findP l n = some l[i]
theorem find_at {l : List Tab} {n : List UInt8} {i : Nat} (h : i < l.length) (h0 : findP (l.take i) n = none) (h1 : isNamed n l[i] = true) : findP l n = some l[i] := by
 unfold findP at *
 conv => lhs; rw [← List.take_append_drop i l]
 rw [List.find?_append, h0, List.drop_eq_getElem_cons h, List.find?_cons_of_pos h1]
 rfl
theorem find_next {l : List Tab} {n : List UInt8} {i : Nat} (h : i < l.length) (h0 : findP (l.take i) n = none) (h1 : isNamed n l[i] = false) : findP (l.take (i + 1)) n = none := by
 unfold findP at *
 rw [List.take_succ_eq_append_getElem h, List.find?_append, h0]
 simp [h1]
theorem find1_any (s t : ByteArray) (v1 v2 : Value) (b : Nat) (w : World) (hb : w.cell? ⟨b, 0, none⟩ = some (.string s)) (hbl : b < w.heap.size) :
 Calls prog 87 #[.agg #[.string t, v1, v2], .pointer (some ⟨b, 0, none⟩)] w fun e w' => e = .returned (.bool (t.toList == s.toList)) ∧ Bl w w' := by
 obtain ⟨W0, hW0⟩ := gen (w.alloc (.cells #[.string t, v1, v2] 56))
 have hb0 : Bl w W0 := by rw [← hW0]; exact below_alloc _ _
 have hg0 : W0.heap[w.heap.size]? = some (.cells #[.string t, v1, v2] 56 (0, 0)) := by rw [← hW0]; exact heap_alloc_new w _
 have c0 := cell_of_row (k := 0) (v := .string t) hg0 rfl
 have cb : W0.cell? ⟨b, 0, none⟩ = some (.string s) := (hb0.cell (p := ⟨b, 0, none⟩) hbl).trans hb
 have HB := hid hb0
 clear hb hbl hb0 hg0
 go_enter func87, ntmps87
 go_wp2_with fail
 go_ret
 exact ⟨rfl, HB.out⟩
theorem index_tab (K : Nat → Prop) (q : Option Addr) (c : Nat) (l : List Tab) (n : List UInt8) (b : Nat) (w : World) (h : ListIs rTab 3 64 K w (.slice q l.length c) l) (hK : ∀ b, K b → b < w.heap.size) (hb : w.cell? ⟨b, 0, none⟩ = some (.string ⟨n.toArray⟩)) (hbl : b < w.heap.size) :
 Calls prog 86 #[.slice q l.length c, .func (.func 87) #[] #[.pointer (some ⟨b, 0, none⟩)]] w fun e w' => FoundT l n e ∧ Bl w w' := by
 have hbig : l.length ≤ 140737488355328 := by
  obtain ⟨q', c', -, ⟨hb, -⟩, -⟩ := h
  omega
 obtain ⟨s, hs⟩ := bya n
 have hsd : s.data.toList = n := by rw [← hs]
 rw [hs] at hb
 have HL := hid h
 have HK := hid hK
 have HD := hid hsd
 have HC : Hid (w.cell? ⟨b, 0, none⟩ = some (.string s) ∧ b < w.heap.size) := ⟨hb, hbl⟩
 have eg := enters87
 obtain ⟨N, hN⟩ := gen l.length
 have HN := hid hN
 rw [hN] at hbig
 have HP1 : Hid (findP l n = none → FoundT l n (.returned (.int .i64 (-1)))) := fun h1 => .inl ⟨rfl, h1⟩
 have HP2 : Hid (∀ (i : Nat) (hi : i < l.length), findP l n = some l[i] → FoundT l n (.returned (.int .i64 (i : Int)))) := fun i hi h1 => .inr ⟨i, hi, rfl, h1⟩
 rw [hN]
 clear h hK hN hb hbl hs hsd
 go_enter func86, ntmps86
 go_wp2_with fail
 go_loopg [8] N (fun gf s8 wx => ∃ (i : Nat), s8 = .int .i64 i ∧ i ≤ N ∧ N ≤ i + gf ∧ Hid (Bl w wx) ∧ Hid (findP (l.take i) n = none))
 case atStart => exact ⟨0, rfl, by omega, by omega, Below.refl _ _, rfl⟩
 case round =>
  obtain ⟨i, rfl, hi1, hgf, HB, HA⟩ := hrel
  by_cases hi : i < N
  · obtain ⟨g', rfl⟩ : ∃ g', gk = g' + 1 := ⟨gk - 1, by omega⟩
    have hil : i < l.length := by rw [HN.out]; exact hi
    obtain ⟨b2, o, hq, _, hc⟩ := tab_at (HL.out.mono mTab (fun _ h => h) (kept_of HK.out HB.out)) (by omega)
    subst hq
    obtain ⟨pc, cc, pr, nr, cr, hrg, -, -⟩ := hc i hil
    have HFA : Hid (isNamed n l[i] = true → findP l n = some l[i]) := find_at hil HA.out
    have HFN : Hid (isNamed n l[i] = false → findP (l.take (i + 1)) n = none) := find_next hil HA.out
    obtain ⟨M, hM⟩ := gen ((l[i]).c.length)
    obtain ⟨t, ht⟩ := bya ((l[i]).n)
    have htd : t.data.toList = (l[i]).n := by rw [← ht]
    have HEQ : Hid ((t.toList == s.toList) = isNamed n l[i]) := eq_text htd HD.out
    rw [hM, ht] at hrg
    have HRG := hid hrg
    have CC := hid (find1_any s t (.slice pc M cc) (.slice pr nr cr) b wr ((HB.out.cell (p := ⟨b, 0, none⟩) HC.out.2).trans HC.out.1) (by have := HB.out.size; have := HC.out.2; omega))
    obtain ⟨F, hF⟩ := gen ((t.toList == s.toList))
    rw [hF] at CC HEQ
    have HIL := hid hil
    have z0 : (0 : Int) ≤ (i : Int) := by omega
    have z1 : (i : Int) < (N : Int) := by omega
    clear hc hrg hM ht htd hF HA
    go_wp2_with (refine wpList_load_mid rfl 56 _ rfl b2 (o + i * 3) rfl _ _ HRG.out underlying56 rfl sz_tab ?_)
    refine CC.out.mono ?_
    rintro e w3 ⟨rfl, hb3⟩
    have HB3 : Hid (Bl w w3) := HB.out.trans (hb3.mono HB.out.size)
    clear CC hb3 HRG
    cases F with
    | true =>
     have HQ := hid (HP2.out i HIL.out (HFA.out HEQ.out.symm))
     clear HFA HFN HEQ HP1 HP2
     go_wp2_with fail
     go_ret
     exact ⟨HQ.out, HB3.out⟩
    | false =>
     have HA2 := hid (HFN.out HEQ.out.symm)
     clear HFA HFN HEQ
     go_wp2_with fail
     go_roundg g'
     case measure => omega
     case rel => exact ⟨i + 1, by go_num, by omega, by omega, HB3, HA2⟩
  · have z1 : ¬ (i : Int) < (N : Int) := by omega
    have HQ : Hid (FoundT l n (.returned (.int .i64 (-1)))) := HP1.out (by have := HA.out; rwa [List.take_of_length_le (by rw [HN.out]; omega)] at this)
    clear HA HP1 HP2
    go_wp2_with fail
    go_ret
    exact ⟨HQ.out, HB.out⟩
def noTab : Value := .agg #[.string ⟨#[]⟩, .slice none 0 0, .slice none 0 0]
def FoundV (K : Nat → Prop) (l : List Tab) (n : List UInt8) (w : World) (e : Ending) : Prop :=
 (findP l n = none ∧ e = .returned (.tuple #[noTab, .bool false])) ∨ ∃ t pc cc pr nr cr, findP l n = some t ∧ e = .returned (.tuple #[.agg #[.string ⟨t.n.toArray⟩, .slice pc t.c.length cc, .slice pr nr cr], .bool true]) ∧ ListIs rClm 2 24 K w (.slice pc t.c.length cc) t.c ∧ t.n.length ≤ 140737488355328
theorem find_any (K : Nat → Prop) (q : Option Addr) (c : Nat) (l : List Tab) (n : List UInt8) (w : World) (h : ListIs rTab 3 64 K w (.slice q l.length c) l) (hK : ∀ b, K b → b < w.heap.size) :
 Calls prog 41 #[.slice q l.length c, .string ⟨n.toArray⟩] w fun e w' => FoundV K l n w' e ∧ Bl w w' := by
 have hmf : ∀ (fn : Fn) (first cap : Array Value) (w : World), (Instr.makeFunc fn first cap).run prog w = .ok (.func fn first cap) w := fun _ _ _ _ => rfl
 obtain ⟨s, hs⟩ := bya n
 obtain ⟨W0, hW0, hb0, hz0, g0, g1⟩ := two_boxes2 w #[.string s] #[.string ⟨#[]⟩, .slice none 0 0, .slice none 0 0] 9 56
 have c0 := cell_of_row (k := 0) (v := .string s) g0 rfl
 have C1 : Hid (Calls prog 86 #[.slice q l.length c, .func (.func 87) #[] #[.pointer (some ⟨w.heap.size, 0, none⟩)]] W0 fun e w' => FoundT l n e ∧ Bl W0 w') := index_tab K q c l n w.heap.size W0 (h.later mTab hK hb0) (fun b hb => nlt (hK b hb) hb0.size) (by rw [hs]; exact c0) (by omega)
 have hbig : l.length ≤ 140737488355328 := by
  obtain ⟨q', c', -, ⟨hb, -⟩, -⟩ := h
  omega
 have HL := hid h
 have HK := hid hK
 have HB0 := hid hb0
 obtain ⟨N, hN⟩ := gen l.length
 have HN := hid hN
 have HG1 : Hid (∀ V, Bl W0 V → V.heap[w.heap.size + 1]? = some (.cells #[.string ⟨#[]⟩, .slice none 0 0, .slice none 0 0] 56 (0, 0)) ∧ Bl w V) := fun V hV => ⟨(hV.block _ (by omega)).trans g1, hb0.trans (hV.mono (by omega))⟩
 rw [hN] at C1
 rw [hs, hN]
 clear h hK hN hb0 g0 g1 c0 hs
 go_enter func41, ntmps41
 go_wp2_with fail
 refine C1.out.mono ?_
 rintro e w1 ⟨hF, hb1⟩
 obtain ⟨hg1, hbw1⟩ := HG1.out w1 hb1
 have HBW1 := hid hbw1
 have HZ1 := hid hz0
 clear C1 HG1 hz0
 rcases hF with ⟨rfl, hf⟩ | ⟨i, hi, rfl, hf⟩
 · have HF := hid hf
   obtain ⟨hth, X, hX, hld, hsX, hkX⟩ := put_row w1 (w.heap.size + 1) _ 56 hg1 [.string ⟨#[]⟩, .slice none 0 0, .slice none 0 0] rfl underlying56 rfl sz_tab
   have HTH : Hid (w1.there (w.heap.size + 1) 0 3) := hth
   have HWX : Hid (w1.setCells (w.heap.size + 1) 0 (#[.string ⟨#[]⟩, .slice none 0 0, .slice none 0 0] : Array Value).toList = X) := hX
   have HLD : Hid ((loadVar 56 ⟨w.heap.size + 1, 0, none⟩).run prog X = .ok (.agg #[.string ⟨#[]⟩, .slice none 0 0, .slice none 0 0]) X) := hld
   have HFX : Hid (Bl w X) := ⟨hkX.os.trans hbw1.os, hkX.tape.trans hbw1.tape, hkX.output.trans hbw1.output, by have := hbw1.size; omega, fun b h => (hkX.block b (by show b ≠ _; omega)).trans (hbw1.block b h)⟩
   clear hf hth hX hld hsX hkX hg1 hbw1 hb1
   go_wp2_with (refine wpList_store_mid rfl 56 _ _ rfl (w.heap.size + 1) 0 #[.string ⟨#[]⟩, .slice none 0 0, .slice none 0 0] rfl rfl HTH.out sz_tab (by simp [Value.oneCell']) ?_; rw [HWX.out])
   refine bodyPost_ret (v := .tuple #[.agg #[.string ⟨#[]⟩, .slice none 0 0, .slice none 0 0], .bool false]) (by simp only [results, results41]; simp [asAddr, Act.put, HLD.out]) rfl ?_
   exact ⟨.inl ⟨HF.out, rfl⟩, HFX.out⟩
 · have hli := HL.out.mono mTab (fun _ h => h) (kept_of HK.out hbw1)
   obtain ⟨b, o, hq, hKb, hc⟩ := tab_at hli (by omega)
   obtain ⟨pc, cc, pr, nr, cr, hrg, hcl, hn⟩ := hc i hi
   subst hq
   obtain ⟨t, ht⟩ := gen (l[i])
   rw [ht] at hrg hcl hf hn
   obtain ⟨M, hM⟩ := gen t.c.length
   obtain ⟨ts, hts⟩ := bya t.n
   have hiN : i < N := by rw [← HN.out]; exact hi
   have HF := hid hf
   have HCL := hid hcl
   have HTN := hid hn
   have HE : Hid (Ending.returned (.tuple #[.agg #[.string ts, .slice pc M cc, .slice pr nr cr], .bool true]) = .returned (.tuple #[.agg #[.string ⟨t.n.toArray⟩, .slice pc t.c.length cc, .slice pr nr cr], .bool true])) := by show _ = _; rw [hts, hM]
   rw [hM, hts] at hrg
   have HRG := hid hrg
   obtain ⟨hth, X, hX, hld, hsX, hkX⟩ := put_row w1 (w.heap.size + 1) _ 56 hg1 [.string ts, .slice pc M cc, .slice pr nr cr] rfl underlying56 rfl sz_tab
   have HTH : Hid (w1.there (w.heap.size + 1) 0 3) := hth
   have HWX : Hid (w1.setCells (w.heap.size + 1) 0 (#[.string ts, .slice pc M cc, .slice pr nr cr] : Array Value).toList = X) := hX
   have HLD : Hid ((loadVar 56 ⟨w.heap.size + 1, 0, none⟩).run prog X = .ok (.agg #[.string ts, .slice pc M cc, .slice pr nr cr]) X) := hld
   have HFX : Hid (Bl w X) := ⟨hkX.os.trans hbw1.os, hkX.tape.trans hbw1.tape, hkX.output.trans hbw1.output, by have := hbw1.size; omega, fun b h => (hkX.block b (by show b ≠ _; omega)).trans (hbw1.block b h)⟩
   have HKX : Hid (Kept K w1 X) := hkX.less fun b hb => by have := HK.out b hb; show b ≠ _; omega
   have z0 : (0 : Int) ≤ (i : Int) := by omega
   have z1 : (i : Int) < (N : Int) := by omega
   have z2 : ¬ (i : Int) < 0 := by omega
   clear hf hth hX hld hsX hkX hg1 hbw1 hb1 hli hc hrg hcl ht hM hts hi hn
   go_wp2_with (first | (refine wpList_load_mid rfl 56 _ rfl b (o + i * 3) rfl _ _ HRG.out underlying56 rfl sz_tab ?_) | (refine wpList_store_mid rfl 56 _ _ rfl (w.heap.size + 1) 0 #[.string ts, .slice pc M cc, .slice pr nr cr] rfl rfl HTH.out sz_tab (by simp [Value.oneCell']) ?_; rw [HWX.out]))
   refine bodyPost_ret (v := .tuple #[.agg #[.string ts, .slice pc M cc, .slice pr nr cr], .bool true]) (by simp only [results, results41]; simp [asAddr, Act.put, HLD.out]) rfl ?_
   exact ⟨.inr ⟨t, pc, cc, pr, nr, cr, HF.out, HE.out, HCL.out.mono mClm (fun _ h => h) HKX.out, HTN.out⟩, HFX.out⟩
theorem catGo_at (l : List Tab) (i : Nat) (h : i < l.length) : catGo (l.take i) (l.drop i) = if tabP l[i] = 0 then (if (findP (l.take i) (l[i]).n).isSome then 15 else catGo (l.take (i + 1)) (l.drop (i + 1))) else tabP l[i] := by
 rw [List.drop_eq_getElem_cons h, List.take_succ_eq_append_getElem h]
 rfl
theorem size56 (w : World) : (sizeOf (prog.elem 27)).run prog w = .ok 3 w := by
 have he : prog.elem 27 = 56 := by kernel_rfl
 have h2 := sz_tab
 rw [he]
 cases h : prog.info? 56 with
 | none => rw [h] at h2; cases h2
 | some i0 =>
  rw [h] at h2
  have hs : i0.size = 3 := Option.some.inj h2
  simp [sizeOf, typeInfo, h, hs]
theorem hu27 : prog.underlying 27 = some (.slice (prog.elem 27)) := by kernel_rfl
theorem yieldsIf_front (t : TypeId) (sz : Nat) (hu : prog.underlying t = some (.slice (prog.elem t))) (hsz : ∀ w, (sizeOf (prog.elem t)).run prog w = .ok sz w) {ops : Array Oper} {S : World → Prop} {op : Oper} {a : Act} (hw : Region.wanted op (yielded ops a.tmps) = true) (x hi : Operand) (ho : op.op = .slice t x none (some hi) none) (p : Option Addr) (n c r : Nat) (hx : a.eval x = .slice p n c) (hh : a.eval hi = .int .i64 (r : Int)) (hr : r ≤ c) {tv : Value} (ht : sliced p 0 r c sz = tv) : YieldsIf prog ops S op tv a :=
 .inl ⟨hw, fun w _ => by
  unfold execOp
  simp only [ho, hx, hh, Option.map_some, Option.map_none, run_slice_h (P := prog) w t p n c hu .i64 (r : Int) (by omega) (by omega), run_sliceAt_slice (P := prog) w t _ _ _ _ hu, hsz w, Result.andThen, Int.toNat_natCast, ht, Sem.run_bind, Sem.run_pure, Result.andThen_ok]⟩
theorem front_any {α : Type} {rel : Rel α} {size bytes : Nat} {K : Nat → Prop} {W : World} {p : Option Addr} {n c : Nat} {l : List α} (h : ListIs rel size bytes K W (.slice p n c) l) (i : Nat) (hi : i ≤ l.length) (c' : Nat) (hc' : i ≤ c') : ListIs rel size bytes K W (.slice p (l.take i).length c') (l.take i) := by
 obtain ⟨p', c2, e, ⟨hb1, hb2⟩, hp⟩ := ListIs.front h i hi
 cases e
 exact ⟨_, c', rfl, ⟨hb1, by rw [List.length_take]; omega⟩, hp⟩
theorem cat_any (K : Nat → Prop) (q : Option Addr) (c : Nat) (l : List Tab) (w : World) (h : ListIs rTab 3 64 K w (.slice q l.length c) l) (hK : ∀ b, K b → b < w.heap.size) (hG : GW w) :
 Calls prog 17 #[.slice q l.length c] w fun e w' => e = .returned (.int .i64 (catP l)) ∧ Bl w w' := by
 have hbig : l.length ≤ 140737488355328 ∧ l.length ≤ c := by
  obtain ⟨_, _, e, ⟨h1, h2⟩, -⟩ := h
  cases e
  omega
 have HL := hid h
 have HK := hid hK
 have HG := hid hG
 obtain ⟨R, hR⟩ := gen (catP l)
 have HR : Hid (R = if 8 < l.length then 3 else catGo (l.take 0) (l.drop 0)) := by show _ = _; rw [← hR]; rfl
 obtain ⟨N, hN⟩ := gen l.length
 have HN := hid hN
 rw [hN] at HR hbig
 rw [hN, hR]
 clear h hK hG hR hN
 by_cases h8 : 8 < N
 · have y8 : (8 : Int) < (N : Int) := by omega
   have HE : Hid (R = 3) := by show _ = _; rw [HR.out, if_pos h8]
   clear HR h8
   go_enter func17, ntmps17
   go_wp2_with fail
   go_ret
   exact ⟨by rw [HE.out]; rfl, Below.refl _ _⟩
 have y8 : ¬ (8 : Int) < (N : Int) := by omega
 have HR1 : Hid (R = catGo (l.take 0) (l.drop 0)) := by show _ = _; rw [HR.out, if_neg (by omega)]
 have hNc : N ≤ c := hbig.2
 clear HR h8
 go_enter func17, ntmps17
 go_wp2_with fail
 go_loopg [13] N (fun gf s13 wx => ∃ i : Nat, s13 = .int .i64 i ∧ i ≤ N ∧ N ≤ i + gf ∧ Hid (Bl w wx) ∧ Hid (R = catGo (l.take i) (l.drop i)))
 case atStart => exact ⟨0, rfl, by omega, by omega, Below.refl _ _, HR1⟩
 case round =>
  clear HR1
  obtain ⟨i, rfl, hi1, hgf, HB, HR⟩ := hrel
  by_cases hi : i < N
  · obtain ⟨g', rfl⟩ : ∃ g', gk = g' + 1 := ⟨gk - 1, by omega⟩
    have hil : i < l.length := by rw [HN.out]; exact hi
    have hli := HL.out.mono mTab (fun _ h => h) (kept_of HK.out HB.out)
    obtain ⟨b, o, hq, _, hc⟩ := tab_at hli (by omega)
    obtain ⟨pc, cc, pr, nr, cr, hrg, hcl, hyn⟩ := hc i hil
    have hat := catGo_at l i hil
    rw [← HR.out] at hat
    have hic : i ≤ c := by omega
    obtain ⟨cf, hfr, hcf⟩ := sliced_front q i c 3 hic
    have hfl := front_any hli i (by omega) cf hcf
    have htl : (l.take i).length = i := by rw [List.length_take]; omega
    obtain ⟨y, hy⟩ := gen (l[i])
    rw [hy] at hrg hcl hyn hat
    obtain ⟨M, hM⟩ := gen y.c.length
    obtain ⟨t, ht⟩ := bya y.n
    rw [ht, hM] at hrg
    have HRG := hid hrg
    obtain ⟨WA, hWA, hth, V1, hV1, hg1, hb1⟩ := box_three wr 56 (.string ⟨#[]⟩) (.slice none 0 0) (.slice none 0 0) (.string t) (.slice pc M cc) (.slice pr nr cr)
    have HTH := hid hth
    have HV1 := hid hV1
    have hl1 : wr.heap.size < V1.heap.size := (gsi hg1).1
    have HBX : Hid (∀ V, Bl V1 V → V.cell? ⟨wr.heap.size, 0, none⟩ = some (.string t) ∧ V.cell? ⟨wr.heap.size, 1, none⟩ = some (.slice pc M cc) ∧ Bl wr V) := fun V hV => by
     have hg := (hV.block _ hl1).trans hg1
     exact ⟨cell_of_row (k := 0) hg rfl, cell_of_row (k := 1) hg rfl, hb1.trans (hV.mono (by omega))⟩
    have HL1 := hid hl1
    have hkr : ∀ V, Bl wr V → (∀ b, K b → b < V.heap.size) ∧ GW V := fun V hV => ⟨fun b hb => nlt (HK.out b hb) (HB.out.trans (hV.mono HB.out.size)).size, HG.out.below (HB.out.trans (hV.mono HB.out.size))⟩
    have hkb : ∀ b, K b → b < wr.heap.size := fun b hb => nlt (HK.out b hb) HB.out.size
    have C1 : Hid (Calls prog 40 #[.agg #[.string t, .slice pc M cc, .slice none 0 0]] V1 fun e w' => e = .returned (.int .i64 (tabP y)) ∧ Bl V1 w') := by
     have := table_any K y pc cc V1 (hcl.mono mClm (fun _ h => h) (kept_of hkb hb1)) (hkr V1 hb1).1 hyn (hkr V1 hb1).2
     rw [ht, hM] at this
     exact this
    have C2 : Hid (∀ V, Bl wr V → Calls prog 41 #[.slice q i cf, .string t] V fun e w' => FoundV K (l.take i) y.n w' e ∧ Bl V w') := fun V hV => by
     have := find_any K q cf (l.take i) y.n V (hfl.mono mTab (fun _ h => h) (kept_of hkb hV)) (hkr V hV).1
     rw [ht, htl] at this
     exact this
    obtain ⟨A, hA⟩ := gen (tabP y)
    rw [hA] at C1 hat
    obtain ⟨v0, v1, hbv⟩ := HBX.out V1 (Below.refl _ _)
    have HAT : Hid (R = if A = 0 then (if (findP (l.take i) y.n).isSome then 15 else catGo (l.take (i + 1)) (l.drop (i + 1))) else A) := hat
    have HFR : Hid (sliced q 0 i c 3 = .slice q i cf) := hfr
    have z0 : (0 : Int) ≤ (i : Int) := by omega
    have z1 : (i : Int) < (N : Int) := by omega
    have z2 : (i : Int) ≤ (c : Int) := by omega
    subst hq
    clear hc hat hy ht hM hrg hcl hyn hth hV1 hg1 hl1 hb1 hA hfr hcf hfl htl hli hil HR hkr hkb hbv
    go_wp2_with (first | (refine wpList_load_mid rfl 56 _ rfl b (o + i * 3) rfl _ _ HRG.out underlying56 rfl sz_tab ?_) | (refine wpList_store_mid rfl 56 _ _ rfl wr.heap.size 0 #[.string t, .slice pc M cc, .slice pr nr cr] rfl rfl HTH.out sz_tab (by simp [Value.oneCell']) ?_; rw [show WA.setCells wr.heap.size 0 (#[.string t, .slice pc M cc, .slice pr nr cr] : Array Value).toList = V1 from HV1.out]))
    refine C1.out.mono ?_
    rintro e w2 ⟨rfl, hb2⟩
    obtain ⟨-, -, hbr2⟩ := HBX.out w2 hb2
    have HB2 : Hid (Bl w w2) := HB.out.trans (hbr2.mono HB.out.size)
    have HBR2 := hid hbr2
    have HBV2 := hid hb2
    clear C1 v0 v1 hb2 hbr2 HTH HV1 hWA HRG
    by_cases hA : A = 0
    case neg =>
     have yA : (A != 0) = true := bne_iff_ne.2 hA
     have HE : Hid (R = A) := by show _ = _; rw [HAT.out, if_neg hA]
     clear hA HAT C2
     go_wp2_with fail
     go_ret
     exact ⟨by rw [HE.out]; rfl, HB2.out⟩
    have yA : (A != 0) = false := by rw [hA]; rfl
    have HAT2 : Hid (R = if (findP (l.take i) y.n).isSome then 15 else catGo (l.take (i + 1)) (l.drop (i + 1))) := by show _ = _; rw [HAT.out, if_pos hA]
    clear hA HAT
    obtain ⟨D, hD⟩ := gen w2.drew
    have hbD : Bl V1 D := by rw [← hD]; exact HBV2.out.drew
    obtain ⟨d0, -, hbrD⟩ := HBX.out D hbD
    have HSD : Hid (D.cell? ⟨wr.heap.size, 0, none⟩ = some (.string t)) := d0
    have HBD := hid hbD
    have HBRD := hid hbrD
    clear hbD hbrD d0
    go_wp2_with fail
    refine wp_region_held_drew (S := fun V => V.cell? ⟨wr.heap.size, 0, none⟩ = some (.string t)) (by kernel_rfl) (by rw [hD]; exact HSD.out) (fun hHeld => ?_)
    refine tk0 0 (.slice (some ⟨b, o, none⟩) N c) rfl hHeld ?_
    refine tk0 1 (.int .i64 (i : Int)) rfl hHeld ?_
    refine tk 2 (.slice (some ⟨b, o, none⟩) i cf) rfl (yieldsIf_front 27 3 hu27 size56 (by rfl) _ _ rfl (some ⟨b, o, none⟩) N c i rfl rfl hic HFR.out) hHeld ?_
    refine tk0 3 (.pointer (some ⟨wr.heap.size, 0, none⟩)) rfl hHeld ?_
    refine tk0 4 (.string t) rfl hHeld ?_
    simp only [Act.put, List.getElem_toArray, List.getElem_cons_zero, List.getElem_cons_succ, List.setIfInBounds_toArray, List.set_cons_zero, List.set_cons_succ]
    rw [hD] at hHeld ⊢
    clear hD
    refine wpAnyH_ready (rs := [5, 9]) (by kernel_rfl) (by simp) ?_
    refine AllReadyH.cons rfl (fun K' hK => ?_) (AllReadyH.cons rfl (fun K' hK => ?_) AllReadyH.nil)
    · rw [if_pos (by rfl)]
      go_simp
      go_at_call 41
      refine (C2.out D HBRD.out).mono ?_
      rintro e w4 ⟨hF, hb4⟩
      have HBV4 : Hid (Bl V1 w4) := HBD.out.trans (hb4.mono HBD.out.size)
      have HBR4 : Hid (Bl wr w4) := HBRD.out.trans (hb4.mono HBRD.out.size)
      clear hb4 C2
      rcases hF with ⟨hf, rfl⟩ | ⟨t5, p5, c5, pr5, nr5, cr5, hf, rfl, -, -⟩
      · have HE : Hid (R = catGo (l.take (i + 1)) (l.drop (i + 1))) := by show _ = _; rw [HAT2.out, hf]; rfl
        clear HAT2 hf
        unfold noTab
        obtain ⟨WB, hWB, hth5, X, hX, hg5, hb5⟩ := box_three w4 56 (.string ⟨#[]⟩) (.slice none 0 0) (.slice none 0 0) (.string ⟨#[]⟩) (.slice none 0 0) (.slice none 0 0)
        have HBX5 := hid (HBR4.out.trans (hb5.mono HBR4.out.size))
        have HXW : Hid (Bl w X) := HB.out.trans (HBX5.out.mono HB.out.size)
        have hbA : Bl w4 (w4.alloc (.cells #[.string ⟨#[]⟩, .slice none 0 0, .slice none 0 0] 56)) := below_alloc _ _
        have HSW4 := hid (HBX.out w4 HBV4.out).1
        have HSB := hid (HBX.out _ (HBV4.out.trans (hbA.mono HBV4.out.size))).1
        have HSX := hid (HBX.out X (HBV4.out.trans (hb5.mono HBV4.out.size))).1
        rw [hWB] at HSB
        have HTH5 := hid hth5
        have HX5 : Hid (WB.setCells w4.heap.size 0 (#[.string ⟨#[]⟩, .slice none 0 0, .slice none 0 0] : Array Value).toList = X) := hX
        refine hK.out _ _ HSW4.out (fun hHeld => ?_)
        clear hK K' hth5 hX hg5 hb5 hbA
        refine tk0 6 (.tuple #[.agg #[.string ⟨#[]⟩, .slice none 0 0, .slice none 0 0], .bool false]) rfl hHeld ?_
        refine tk0 7 (.agg #[.string ⟨#[]⟩, .slice none 0 0, .slice none 0 0]) rfl hHeld ?_
        refine tk0 8 (.bool false) rfl hHeld ?_
        simp only [Act.put, List.getElem_toArray, List.getElem_cons_zero, List.getElem_cons_succ, List.setIfInBounds_toArray, List.set_cons_zero, List.set_cons_succ]
        refine wpAnyH_ready (rs := [9]) (by kernel_rfl) (by simp) ?_
        refine AllReadyH.cons rfl (fun K' hK => ?_) AllReadyH.nil
        rw [if_pos (by rfl)]
        go_simp
        clear hWB
        refine hK _ _ HSB.out (fun hHeld => ?_)
        clear hK K'
        refine wpAnyH_ready (rs := [10]) (by kernel_rfl) (by simp) ?_
        refine AllReadyH.cons rfl (fun K' hK => ?_) AllReadyH.nil
        rw [if_pos (by rfl)]
        refine wp_store_mid 56 (.tmp 6) (.tmp 34) rfl (w4.heap.size) (0) #[.string ⟨#[]⟩, .slice none 0 0, .slice none 0 0] rfl rfl HTH5.out sz_tab (by simp [Value.oneCell']) ?_
        rw [HX5.out]
        simp only [Act.put, List.getElem_toArray, List.getElem_cons_zero, List.getElem_cons_succ, List.setIfInBounds_toArray, List.set_cons_zero, List.set_cons_succ]
        refine hK _ _ HSX.out (fun hHeld => ?_)
        clear hK K'
        refine wpAnyH_ready (rs := [11]) (by kernel_rfl) (by simp) ?_
        refine AllReadyH.cons rfl (fun K' hK => ?_) AllReadyH.nil
        rw [if_pos (by rfl)]
        go_simp
        refine hK _ _ HSX.out (fun hHeld => ?_)
        clear hK K'
        refine wpAnyH_done (by kernel_rfl) ?_ _
        go_wp2_with fail
        go_roundg g'
        case measure => omega
        case rel => exact ⟨i + 1, by go_num, by omega, by omega, HXW, HE⟩
      · have HE : Hid (R = 15) := by show _ = _; rw [HAT2.out, hf]; rfl
        obtain ⟨m5, hm5⟩ := gen t5.c.length
        obtain ⟨ts, hts⟩ := bya t5.n
        rw [hm5, hts]
        clear HAT2 hf hm5 hts
        obtain ⟨WB, hWB, hth5, X, hX, hg5, hb5⟩ := box_three w4 56 (.string ⟨#[]⟩) (.slice none 0 0) (.slice none 0 0) (.string ts) (.slice p5 m5 c5) (.slice pr5 nr5 cr5)
        have HBX5 := hid (HBR4.out.trans (hb5.mono HBR4.out.size))
        have HXW : Hid (Bl w X) := HB.out.trans (HBX5.out.mono HB.out.size)
        have hbA : Bl w4 (w4.alloc (.cells #[.string ⟨#[]⟩, .slice none 0 0, .slice none 0 0] 56)) := below_alloc _ _
        have HSW4 := hid (HBX.out w4 HBV4.out).1
        have HSB := hid (HBX.out _ (HBV4.out.trans (hbA.mono HBV4.out.size))).1
        have HSX := hid (HBX.out X (HBV4.out.trans (hb5.mono HBV4.out.size))).1
        rw [hWB] at HSB
        have HTH5 := hid hth5
        have HX5 : Hid (WB.setCells w4.heap.size 0 (#[.string ts, .slice p5 m5 c5, .slice pr5 nr5 cr5] : Array Value).toList = X) := hX
        refine hK.out _ _ HSW4.out (fun hHeld => ?_)
        clear hK K' hth5 hX hg5 hb5 hbA
        refine tk0 6 (.tuple #[.agg #[.string ts, .slice p5 m5 c5, .slice pr5 nr5 cr5], .bool true]) rfl hHeld ?_
        refine tk0 7 (.agg #[.string ts, .slice p5 m5 c5, .slice pr5 nr5 cr5]) rfl hHeld ?_
        refine tk0 8 (.bool true) rfl hHeld ?_
        simp only [Act.put, List.getElem_toArray, List.getElem_cons_zero, List.getElem_cons_succ, List.setIfInBounds_toArray, List.set_cons_zero, List.set_cons_succ]
        refine wpAnyH_ready (rs := [9]) (by kernel_rfl) (by simp) ?_
        refine AllReadyH.cons rfl (fun K' hK => ?_) AllReadyH.nil
        rw [if_pos (by rfl)]
        go_simp
        clear hWB
        refine hK _ _ HSB.out (fun hHeld => ?_)
        clear hK K'
        refine wpAnyH_ready (rs := [10]) (by kernel_rfl) (by simp) ?_
        refine AllReadyH.cons rfl (fun K' hK => ?_) AllReadyH.nil
        rw [if_pos (by rfl)]
        refine wp_store_mid 56 (.tmp 6) (.tmp 34) rfl (w4.heap.size) (0) #[.string ts, .slice p5 m5 c5, .slice pr5 nr5 cr5] rfl rfl HTH5.out sz_tab (by simp [Value.oneCell']) ?_
        rw [HX5.out]
        simp only [Act.put, List.getElem_toArray, List.getElem_cons_zero, List.getElem_cons_succ, List.setIfInBounds_toArray, List.set_cons_zero, List.set_cons_succ]
        refine hK _ _ HSX.out (fun hHeld => ?_)
        clear hK K'
        refine wpAnyH_ready (rs := [11]) (by kernel_rfl) (by simp) ?_
        refine AllReadyH.cons rfl (fun K' hK => ?_) AllReadyH.nil
        rw [if_pos (by rfl)]
        go_simp
        refine hK _ _ HSX.out (fun hHeld => ?_)
        clear hK K'
        refine wpAnyH_done (by kernel_rfl) ?_ _
        go_wp2_with fail
        go_ret
        exact ⟨by rw [HE.out]; rfl, HXW.out⟩
    · rw [if_pos (by rfl)]
      go_simp
      have hz5 : (D.alloc (.cells #[.string ⟨#[]⟩, .slice none 0 0, .slice none 0 0] 56)).heap[D.heap.size]? = some (.cells #[.string ⟨#[]⟩, .slice none 0 0, .slice none 0 0] 56 (0, 0)) := heap_alloc_new D _
      have hbA : Bl D (D.alloc (.cells #[.string ⟨#[]⟩, .slice none 0 0, .slice none 0 0] 56)) := below_alloc _ _
      have hszA : (D.alloc (.cells #[.string ⟨#[]⟩, .slice none 0 0, .slice none 0 0] 56)).heap.size = D.heap.size + 1 := by simp
      obtain ⟨DA, hDA⟩ := gen (D.alloc (.cells #[.string ⟨#[]⟩, .slice none 0 0, .slice none 0 0] 56))
      rw [hDA] at hz5 hbA hszA ⊢
      have HBDA : Hid (Bl V1 DA) := HBD.out.trans (hbA.mono HBD.out.size)
      have HBRDA : Hid (Bl wr DA) := HBRD.out.trans (hbA.mono HBRD.out.size)
      have HSDA := hid (HBX.out DA HBDA.out).1
      have HZ5 : Hid (DA.heap[D.heap.size]? = some (.cells #[.string ⟨#[]⟩, .slice none 0 0, .slice none 0 0] 56 (0, 0)) ∧ DA.heap.size = D.heap.size + 1) := ⟨hz5, hszA⟩
      refine hK.out _ _ HSDA.out (fun hHeld => ?_)
      clear hK K' hz5 hbA hszA hDA
      refine wpAnyH_ready (rs := [5]) (by kernel_rfl) (by simp) ?_
      refine AllReadyH.cons rfl (fun K' hK => ?_) AllReadyH.nil
      rw [if_pos (by rfl)]
      go_simp
      go_at_call 41
      refine (C2.out DA HBRDA.out).mono ?_
      rintro e w4 ⟨hF, hb4⟩
      have HBV4 : Hid (Bl V1 w4) := HBDA.out.trans (hb4.mono HBDA.out.size)
      have HBR4 : Hid (Bl wr w4) := HBRDA.out.trans (hb4.mono HBRDA.out.size)
      have hg4 : w4.heap[D.heap.size]? = some (.cells #[.string ⟨#[]⟩, .slice none 0 0, .slice none 0 0] 56 (0, 0)) := (hb4.block _ (by have := HZ5.out.2; omega)).trans HZ5.out.1
      clear hb4 C2
      rcases hF with ⟨hf, rfl⟩ | ⟨t5, p5, c5, pr5, nr5, cr5, hf, rfl, -, -⟩
      · have HE : Hid (R = catGo (l.take (i + 1)) (l.drop (i + 1))) := by show _ = _; rw [HAT2.out, hf]; rfl
        clear HAT2 hf
        unfold noTab
        obtain ⟨hth5, X, hX, hld5, hs5, hk5⟩ := put_row w4 D.heap.size _ 56 hg4 [.string ⟨#[]⟩, .slice none 0 0, .slice none 0 0] rfl underlying56 rfl sz_tab
        have hwrD : wr.heap.size < D.heap.size := by have := HBD.out.size; have := HL1.out; omega
        have HXW : Hid (Bl w X) := by
         have hbb := HB.out.trans (HBR4.out.mono HB.out.size)
         have hsz := HB.out.size
         exact ⟨hk5.os.trans hbb.os, hk5.tape.trans hbb.tape, hk5.output.trans hbb.output, by have := hbb.size; omega, fun b h => (hk5.block b (by show b ≠ _; omega)).trans (hbb.block b h)⟩
        have HSW4 := hid (HBX.out w4 HBV4.out).1
        have HSX : Hid (X.cell? ⟨wr.heap.size, 0, none⟩ = some (.string t)) := (hk5.cell (p := ⟨wr.heap.size, 0, none⟩) (by show wr.heap.size ≠ _; omega)).trans HSW4.out
        have HTH5 := hid hth5
        have HX5 : Hid (w4.setCells D.heap.size 0 (#[.string ⟨#[]⟩, .slice none 0 0, .slice none 0 0] : Array Value).toList = X) := hX
        refine hK.out _ _ HSW4.out (fun hHeld => ?_)
        clear hK K' hth5 hX hld5 hs5 hk5
        refine tk0 6 (.tuple #[.agg #[.string ⟨#[]⟩, .slice none 0 0, .slice none 0 0], .bool false]) rfl hHeld ?_
        refine tk0 7 (.agg #[.string ⟨#[]⟩, .slice none 0 0, .slice none 0 0]) rfl hHeld ?_
        refine tk0 8 (.bool false) rfl hHeld ?_
        simp only [Act.put, List.getElem_toArray, List.getElem_cons_zero, List.getElem_cons_succ, List.setIfInBounds_toArray, List.set_cons_zero, List.set_cons_succ]
        refine wpAnyH_ready (rs := [10]) (by kernel_rfl) (by simp) ?_
        refine AllReadyH.cons rfl (fun K' hK => ?_) AllReadyH.nil
        rw [if_pos (by rfl)]
        refine wp_store_mid 56 (.tmp 6) (.tmp 34) rfl (D.heap.size) (0) #[.string ⟨#[]⟩, .slice none 0 0, .slice none 0 0] rfl rfl HTH5.out sz_tab (by simp [Value.oneCell']) ?_
        rw [HX5.out]
        simp only [Act.put, List.getElem_toArray, List.getElem_cons_zero, List.getElem_cons_succ, List.setIfInBounds_toArray, List.set_cons_zero, List.set_cons_succ]
        refine hK _ _ HSX.out (fun hHeld => ?_)
        clear hK K'
        refine wpAnyH_ready (rs := [11]) (by kernel_rfl) (by simp) ?_
        refine AllReadyH.cons rfl (fun K' hK => ?_) AllReadyH.nil
        rw [if_pos (by rfl)]
        go_simp
        refine hK _ _ HSX.out (fun hHeld => ?_)
        clear hK K'
        refine wpAnyH_done (by kernel_rfl) ?_ _
        go_wp2_with fail
        go_roundg g'
        case measure => omega
        case rel => exact ⟨i + 1, by go_num, by omega, by omega, HXW, HE⟩
      · have HE : Hid (R = 15) := by show _ = _; rw [HAT2.out, hf]; rfl
        obtain ⟨m5, hm5⟩ := gen t5.c.length
        obtain ⟨ts, hts⟩ := bya t5.n
        rw [hm5, hts]
        clear HAT2 hf hm5 hts
        obtain ⟨hth5, X, hX, hld5, hs5, hk5⟩ := put_row w4 D.heap.size _ 56 hg4 [.string ts, .slice p5 m5 c5, .slice pr5 nr5 cr5] rfl underlying56 rfl sz_tab
        have hwrD : wr.heap.size < D.heap.size := by have := HBD.out.size; have := HL1.out; omega
        have HXW : Hid (Bl w X) := by
         have hbb := HB.out.trans (HBR4.out.mono HB.out.size)
         have hsz := HB.out.size
         exact ⟨hk5.os.trans hbb.os, hk5.tape.trans hbb.tape, hk5.output.trans hbb.output, by have := hbb.size; omega, fun b h => (hk5.block b (by show b ≠ _; omega)).trans (hbb.block b h)⟩
        have HSW4 := hid (HBX.out w4 HBV4.out).1
        have HSX : Hid (X.cell? ⟨wr.heap.size, 0, none⟩ = some (.string t)) := (hk5.cell (p := ⟨wr.heap.size, 0, none⟩) (by show wr.heap.size ≠ _; omega)).trans HSW4.out
        have HTH5 := hid hth5
        have HX5 : Hid (w4.setCells D.heap.size 0 (#[.string ts, .slice p5 m5 c5, .slice pr5 nr5 cr5] : Array Value).toList = X) := hX
        refine hK.out _ _ HSW4.out (fun hHeld => ?_)
        clear hK K' hth5 hX hld5 hs5 hk5
        refine tk0 6 (.tuple #[.agg #[.string ts, .slice p5 m5 c5, .slice pr5 nr5 cr5], .bool true]) rfl hHeld ?_
        refine tk0 7 (.agg #[.string ts, .slice p5 m5 c5, .slice pr5 nr5 cr5]) rfl hHeld ?_
        refine tk0 8 (.bool true) rfl hHeld ?_
        simp only [Act.put, List.getElem_toArray, List.getElem_cons_zero, List.getElem_cons_succ, List.setIfInBounds_toArray, List.set_cons_zero, List.set_cons_succ]
        refine wpAnyH_ready (rs := [10]) (by kernel_rfl) (by simp) ?_
        refine AllReadyH.cons rfl (fun K' hK => ?_) AllReadyH.nil
        rw [if_pos (by rfl)]
        refine wp_store_mid 56 (.tmp 6) (.tmp 34) rfl (D.heap.size) (0) #[.string ts, .slice p5 m5 c5, .slice pr5 nr5 cr5] rfl rfl HTH5.out sz_tab (by simp [Value.oneCell']) ?_
        rw [HX5.out]
        simp only [Act.put, List.getElem_toArray, List.getElem_cons_zero, List.getElem_cons_succ, List.setIfInBounds_toArray, List.set_cons_zero, List.set_cons_succ]
        refine hK _ _ HSX.out (fun hHeld => ?_)
        clear hK K'
        refine wpAnyH_ready (rs := [11]) (by kernel_rfl) (by simp) ?_
        refine AllReadyH.cons rfl (fun K' hK => ?_) AllReadyH.nil
        rw [if_pos (by rfl)]
        go_simp
        refine hK _ _ HSX.out (fun hHeld => ?_)
        clear hK K'
        refine wpAnyH_done (by kernel_rfl) ?_ _
        go_wp2_with fail
        go_ret
        exact ⟨by rw [HE.out]; rfl, HXW.out⟩
  · have z1 : ¬ (i : Int) < (N : Int) := by omega
    have HE : Hid (R = 0) := by show _ = _; rw [HR.out, List.drop_of_length_le (by rw [HN.out]; omega)]; rfl
    clear HR
    go_wp2_with fail
    go_ret
    exact ⟨by rw [HE.out]; rfl, HB.out⟩
end Go.Proofs.YtfifphfihdhlaaaGreatDoor.Bd

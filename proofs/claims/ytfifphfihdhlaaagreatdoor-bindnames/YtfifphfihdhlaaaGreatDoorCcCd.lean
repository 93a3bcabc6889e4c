/- Names, columns: checkUtf, checkName, checkCol, CheckCols. -/
import Derived.Test.YtfifphfihdhlaaaGreatDoorBkBlBm
import Derived.Test.YtfifphfihdhlaaaGreatDoorCaCb
import Derived.Test.YtfifphfihdhlaaaGreatDoorQbTk
set_option maxRecDepth 100000
set_option maxHeartbeats 32000000
namespace Go.Proofs.YtfifphfihdhlaaaGreatDoor.Bd
open Tryz
open Go.Shelf Go.RowKit Go.Lib Go.Sort
set_option linter.unusedVariables false
set_option linter.unusedSimpArgs false
attribute [local go_sem ↓] Go.wp_at_zero Go.wp_at_succ
theorem txt_len (n : List UInt8) : (⟨n.toArray⟩ : ByteArray).size = n.length := by simp [ByteArray.size]
theorem utf_any (n : List UInt8) (w : World) (hn : n.length ≤ 140737488355328) (hG : GW w) :
 Calls prog 121 #[.string ⟨n.toArray⟩] w fun e w' => e = .returned (.int .i64 (if validD n then 0 else 9)) ∧ Bl w w' := by
 have C1 := hid (Tryz.utf8_ValidString ⟨n.toArray⟩ w (by rw [txt_len]; omega) hG.2.1)
 obtain ⟨s, hs⟩ := bya n
 have hd : s.data.toList = n := by rw [← hs]
 rw [hs, hd] at C1
 obtain ⟨V, hV⟩ := gen (validD n)
 rw [hV] at C1 ⊢
 rw [hs]
 clear hG hV hs hd hn
 cases V with
 | true =>
  go_enter func121, ntmps121
  go_wp2_with fail
  refine C1.out.mono ?_
  rintro e w1 ⟨rfl, hb1⟩
  have HB := hid hb1
  clear C1 hb1
  go_wp2_with fail
  go_ret
  exact ⟨rfl, HB.out⟩
 | false =>
  go_enter func121, ntmps121
  go_wp2_with fail
  refine C1.out.mono ?_
  rintro e w1 ⟨rfl, hb1⟩
  have HB := hid hb1
  clear C1 hb1
  go_wp2_with fail
  go_ret
  exact ⟨rfl, HB.out⟩
theorem name_any (n : List UInt8) (w : World) (hn : n.length ≤ 140737488355328) (hG : GW w) :
 Calls prog 83 #[.string ⟨n.toArray⟩] w fun e w' => e = .returned (.int .i64 (nameP n)) ∧ Bl w w' := by
 have C1 := hid (utf_any n w hn hG)
 obtain ⟨s, hs⟩ := bya n
 have hd : s.data.toList = n := by rw [← hs]
 have hsz : s.size = n.length := by rw [← hs]; exact txt_len n
 have hE := empty_text hd
 rw [hs] at C1 ⊢
 obtain ⟨V, hV⟩ : ∃ V : Int, (if validD n then 0 else 9) = V := ⟨_, rfl⟩
 rw [hV] at C1
 have HR : Hid (nameP n = if n.length = 0 ∨ 64 < n.length then 4 else V) := by show _ = _; rw [← hV]; rfl
 obtain ⟨R, hR⟩ := gen (nameP n)
 rw [hR] at HR ⊢
 clear hG hV hs hd
 by_cases h0 : n = []
 · have t5 := hE.1 h0
   have HE : Hid (R = 4) := by show _ = _; rw [HR.out, if_pos (.inl (by rw [h0]; rfl))]
   clear hE HR C1 h0 hR
   go_enter func83, ntmps83
   go_wp2_with fail
   go_ret
   exact ⟨by rw [HE.out]; rfl, Below.refl _ _⟩
 · have t5 := hE.2 h0
   have hl0 : n.length ≠ 0 := fun h => h0 (List.eq_nil_of_length_eq_zero h)
   by_cases h64 : 64 < s.size
   · have y64 : (64 : Int) < (s.size : Int) := by omega
     have HE : Hid (R = 4) := by show _ = _; rw [HR.out, if_pos (.inr (by omega))]
     clear hE HR C1 h0 hR h64 hl0 hsz
     go_enter func83, ntmps83
     go_wp2_with fail
     go_ret
     exact ⟨by rw [HE.out]; rfl, Below.refl _ _⟩
   · have y64 : ¬ (64 : Int) < (s.size : Int) := by omega
     have HE : Hid (R = V) := by show _ = _; rw [HR.out, if_neg (by omega)]
     clear hE HR h0 hR h64 hl0 hsz
     go_enter func83, ntmps83
     go_wp2_with fail
     refine C1.out.mono ?_
     rintro e w1 ⟨rfl, hb1⟩
     have HB := hid hb1
     clear C1 hb1
     go_wp2_with fail
     go_ret
     exact ⟨by rw [HE.out]; rfl, HB.out⟩
theorem eq_text {s t : ByteArray} {a b : List UInt8} (hs : s.data.toList = a) (ht : t.data.toList = b) : (s.toList == t.toList) = (a == b) := by rw [Lib.toList_data, Lib.toList_data, hs, ht]
theorem any_at (l : List Clm) (n : List UInt8) (i : Nat) (h : i < l.length) : (l.drop i).any (fun b => b.n == n) = ((l[i]).n == n || (l.drop (i + 1)).any (fun b => b.n == n)) := by
 rw [List.drop_eq_getElem_cons h, List.any_cons]
theorem sz_clm : (prog.info? 50).map (·.size) = some 2 := by kernel_rfl
theorem col_any (K : Nat → Prop) (x : Clm) (q : Option Addr) (c : Nat) (bs : List Clm) (w : World) (h : ListIs rClm 2 24 K w (.slice q bs.length c) bs) (hK : ∀ b, K b → b < w.heap.size) (hn : x.n.length ≤ 140737488355328) (hG : GW w) :
 Calls prog 122 #[.agg #[.string ⟨x.n.toArray⟩, .int .u8 (x.k : Int)], .slice q bs.length c] w fun e w' => e = .returned (.int .i64 (colP x bs)) ∧ Bl w w' := by
 have hbig : bs.length ≤ 140737488355328 := by
  obtain ⟨_, _, -, ⟨h1, -⟩, -⟩ := h
  omega
 obtain ⟨s, hs⟩ := bya x.n
 have hd : s.data.toList = x.n := by rw [← hs]
 obtain ⟨k, hk⟩ := gen x.k
 obtain ⟨W0, hW0⟩ := gen (w.alloc (.cells #[.string s, .int .u8 (k : Int)] 50))
 have hb0 : Bl w W0 := by rw [← hW0]; exact below_alloc _ _
 have hg0 : W0.heap[w.heap.size]? = some (.cells #[.string s, .int .u8 (k : Int)] 50 (0, 0)) := by rw [← hW0]; exact heap_alloc_new w _
 have hl0 : w.heap.size < W0.heap.size := (gsi hg0).1
 have HBX : Hid (∀ V, Bl W0 V → V.cell? ⟨w.heap.size, 0, none⟩ = some (.string s) ∧ V.cell? ⟨w.heap.size, 1, none⟩ = some (.int .u8 (k : Int)) ∧ Bl w V) := fun V hV => by
  have hg := (hV.block _ hl0).trans hg0
  exact ⟨cell_of_row (k := 0) hg rfl, cell_of_row (k := 1) hg rfl, hb0.trans (hV.mono (by omega))⟩
 have C1 := hid (name_any x.n W0 hn (hG.below hb0))
 rw [hs] at C1
 obtain ⟨A, hA⟩ := gen (nameP x.n)
 rw [hA] at C1
 obtain ⟨R, hR⟩ := gen (colP x bs)
 have HR : Hid (R = if A = 0 then (if (bs.drop 0).any (fun b => b.n == x.n) then 15 else if 1 ≤ k ∧ k ≤ 3 then 0 else 5) else A) := by show _ = _; rw [← hR, ← hA, ← hk]; rfl
 have HL := hid h
 have HK := hid hK
 have HD := hid hd
 obtain ⟨N, hN⟩ := gen bs.length
 have HN := hid hN
 rw [hs, hk, hR, hN]
 rw [hN] at hbig
 have HB0 : Hid (Bl W0 W0) := Below.refl _ _
 have k0 := (HBX.out W0 HB0.out).1
 clear h hK hn hG hs hd hb0 hg0 hl0 hA hR hN hk
 go_enter func122, ntmps122
 go_wp2_with fail
 refine C1.out.mono ?_
 rintro e w1 ⟨rfl, hb1⟩
 have HB1 := hid hb1
 clear C1 hb1 k0
 by_cases hA : A = 0
 case neg =>
  have yA : (A != 0) = true := bne_iff_ne.2 hA
  have HE : Hid (R = A) := by show _ = _; rw [HR.out, if_neg hA]
  have HBW := hid (HBX.out w1 HB1.out).2.2
  clear HR hA
  go_wp2_with fail
  go_ret
  exact ⟨by rw [HE.out]; rfl, HBW.out⟩
 have yA : (A != 0) = false := by rw [hA]; rfl
 have HR1 : Hid (R = if (bs.drop 0).any (fun b => b.n == x.n) then 15 else if 1 ≤ k ∧ k ≤ 3 then 0 else 5) := by show _ = _; rw [HR.out, if_pos hA]
 clear HR hA
 go_wp2_with fail
 go_loopg [16] N (fun gf s16 wx => ∃ i : Nat, s16 = .int .i64 i ∧ i ≤ N ∧ N ≤ i + gf ∧ Hid (Bl W0 wx) ∧ Hid (R = if (bs.drop i).any (fun b => b.n == x.n) then 15 else if 1 ≤ k ∧ k ≤ 3 then 0 else 5))
 case atStart => exact ⟨0, rfl, by omega, by omega, HB1, HR1⟩
 case round =>
  clear HR1 HB1
  obtain ⟨i, rfl, hi1, hgf, HB, HR⟩ := hrel
  obtain ⟨k0, k1, hbw⟩ := HBX.out wr HB.out
  by_cases hi : i < N
  · obtain ⟨g', rfl⟩ : ∃ g', gk = g' + 1 := ⟨gk - 1, by omega⟩
    have hil : i < bs.length := by rw [HN.out]; exact hi
    obtain ⟨b, o, hq, _, hc⟩ := clm_at (HL.out.mono mClm (fun _ h => h) (kept_of HK.out hbw)) (by omega)
    subst hq
    obtain ⟨c0, c1⟩ := hc i hil
    have hat := any_at bs x.n i hil
    obtain ⟨y, hy⟩ := gen (bs[i])
    rw [hy] at c0 c1 hat
    obtain ⟨t, ht⟩ := bya y.n
    have htd : t.data.toList = y.n := by rw [← ht]
    rw [ht] at c0
    obtain ⟨yk, hyk⟩ : ∃ k : Int, (y.k : Int) = k := ⟨_, rfl⟩
    rw [hyk] at c1
    have hrg : wr.rangeAt b (o + i * 2) [.string t, .int .u8 yk] := fun j u hu => by
     match j with
     | 0 => simp at hu; subst hu; exact c0
     | 1 => simp at hu; subst hu; exact c1
     | j + 2 => simp at hu
    have HRG := hid hrg
    obtain ⟨WA, hWA, hth, V1, hV1, hg1, hb1⟩ := box_two wr 50 (.string ⟨#[]⟩) (.int .u8 0) (.string t) (.int .u8 yk)
    have HTH := hid hth
    have HV1 := hid hV1
    have v0 := cell_of_row (k := 0) (v := .string t) hg1 rfl
    have HB1 : Hid (Bl W0 V1) := HB.out.trans (hb1.mono HB.out.size)
    obtain ⟨v1, -, hbw1⟩ := HBX.out V1 HB1.out
    have HBW1 := hid hbw1
    have z0 : (0 : Int) ≤ (i : Int) := by omega
    have z1 : (i : Int) < (N : Int) := by omega
    have he := eq_text htd HD.out
    cases hE : (y.n == x.n) with
    | true =>
     rw [hE] at he hat
     have HE : Hid (R = 15) := by show _ = _; rw [HR.out, hat]; rfl
     clear hc c0 c1 hat hy ht htd hyk hrg hth hV1 hg1 hb1 hbw1 hE HR HB hbw hil
     go_wp2_with (first | (refine wpList_load_mid rfl 50 _ rfl b (o + i * 2) rfl _ _ HRG.out underlying50 rfl sz_clm ?_) | (refine wpList_store_mid rfl 50 _ _ rfl wr.heap.size 0 #[.string t, .int .u8 yk] rfl rfl HTH.out sz_clm (by simp [Value.oneCell']) ?_; rw [show WA.setCells wr.heap.size 0 (#[.string t, .int .u8 yk] : Array Value).toList = V1 from HV1.out]))
     go_ret
     exact ⟨by rw [HE.out]; rfl, HBW1.out⟩
    | false =>
     rw [hE] at he hat
     have HR2 : Hid (R = if (bs.drop (i + 1)).any (fun b => b.n == x.n) then 15 else if 1 ≤ k ∧ k ≤ 3 then 0 else 5) := by show _ = _; rw [HR.out, hat, Bool.false_or]
     clear hc c0 c1 hat hy ht htd hyk hrg hth hV1 hg1 hb1 hbw1 hE HR HB hbw hil
     go_wp2_with (first | (refine wpList_load_mid rfl 50 _ rfl b (o + i * 2) rfl _ _ HRG.out underlying50 rfl sz_clm ?_) | (refine wpList_store_mid rfl 50 _ _ rfl wr.heap.size 0 #[.string t, .int .u8 yk] rfl rfl HTH.out sz_clm (by simp [Value.oneCell']) ?_; rw [show WA.setCells wr.heap.size 0 (#[.string t, .int .u8 yk] : Array Value).toList = V1 from HV1.out]))
     go_roundg g'
     case measure => omega
     case rel => exact ⟨i + 1, by go_num, by omega, by omega, HB1, HR2⟩
  · have z1 : ¬ (i : Int) < (N : Int) := by omega
    have hnil : bs.drop i = [] := List.drop_of_length_le (by rw [HN.out]; omega)
    have HR2 : Hid (R = if 1 ≤ k ∧ k ≤ 3 then 0 else 5) := by show _ = _; rw [HR.out, hnil]; rfl
    have HBW := hid hbw
    clear hnil HR hbw HB
    by_cases e1 : k = 1
    · have y1 : ((k : Int) == 1) = true := by simp [e1]
      have HE : Hid (R = 0) := by show _ = _; rw [HR2.out, if_pos (by omega)]
      clear HR2 e1
      go_wp2_with fail
      go_ret
      exact ⟨by rw [HE.out]; rfl, HBW.out⟩
    have y1 : ((k : Int) == 1) = false := bfn (by omega)
    by_cases e2 : k = 2
    · have y2 : ((k : Int) == 2) = true := by simp [e2]
      have HE : Hid (R = 0) := by show _ = _; rw [HR2.out, if_pos (by omega)]
      clear HR2 e1 e2
      go_wp2_with fail
      go_ret
      exact ⟨by rw [HE.out]; rfl, HBW.out⟩
    have y2 : ((k : Int) == 2) = false := bfn (by omega)
    by_cases e3 : k = 3
    · have y3 : ((k : Int) == 3) = true := by simp [e3]
      have HE : Hid (R = 0) := by show _ = _; rw [HR2.out, if_pos (by omega)]
      clear HR2 e1 e2 e3
      go_wp2_with fail
      go_ret
      exact ⟨by rw [HE.out]; rfl, HBW.out⟩
    have y3 : ((k : Int) == 3) = false := bfn (by omega)
    have HE : Hid (R = 5) := by show _ = _; rw [HR2.out, if_neg (by omega)]
    clear HR2 e1 e2 e3
    go_wp2_with fail
    go_ret
    exact ⟨by rw [HE.out]; rfl, HBW.out⟩
theorem colsGo_at (l : List Clm) (i : Nat) (h : i < l.length) : colsGo (l.take i) (l.drop i) = if colP l[i] (l.take i) = 0 then colsGo (l.take (i + 1)) (l.drop (i + 1)) else colP l[i] (l.take i) := by
 rw [List.drop_eq_getElem_cons h, List.take_succ_eq_append_getElem h]
 rfl
theorem ListIs.front {α : Type} {rel : Rel α} {size bytes : Nat} {K : Nat → Prop} {W : World} {p : Option Addr} {n c : Nat} {l : List α} (h : ListIs rel size bytes K W (.slice p n c) l) (i : Nat) (hi : i ≤ l.length) : ListIs rel size bytes K W (.slice p (l.take i).length c) (l.take i) := by
 obtain ⟨q, c', e, ⟨hb, hc⟩, hp⟩ := h
 cases e
 refine ⟨_, c, rfl, ⟨?_, by rw [List.length_take]; omega⟩, fun h0 => ?_⟩
 · exact Nat.le_trans (Nat.mul_le_mul_right _ (by rw [List.length_take]; omega)) hb
 · rw [List.length_take] at h0
   obtain ⟨b, o, rfl, hK, hj⟩ := hp (by omega)
   refine ⟨b, o, rfl, hK, fun j hjl => ?_⟩
   rw [List.length_take] at hjl
   obtain ⟨cs, h1, h2, h3⟩ := hj j (by omega)
   exact ⟨cs, h1, h2, by rw [List.getElem_take]; exact h3⟩
theorem clm_ok {K : Nat → Prop} {w : World} {v : Value} {l : List Clm} (h : ListIs rClm 2 24 K w v l) : ∀ c ∈ l, c.n.length ≤ 140737488355328 := fun x hx => by
 obtain ⟨j, hj, rfl⟩ := List.getElem_of_mem hx
 obtain ⟨q, c, rfl, _, hp⟩ := h
 obtain ⟨b, o, rfl, _, hc⟩ := hp (by omega)
 obtain ⟨cs, _, _, _, hk, _⟩ := hc j hj
 exact hk
theorem size50 (w : World) : (sizeOf (prog.elem 38)).run prog w = .ok 2 w := by
 have he : prog.elem 38 = 50 := by kernel_rfl
 have h2 := sz_clm
 rw [he]
 cases h : prog.info? 50 with
 | none => rw [h] at h2; cases h2
 | some i0 =>
  rw [h] at h2
  have hs : i0.size = 2 := Option.some.inj h2
  simp [sizeOf, typeInfo, h, hs]
theorem hu38 : prog.underlying 38 = some (.slice (prog.elem 38)) := by kernel_rfl
theorem sliced_front (p : Option Addr) (i c : Nat) (s : Nat) (h : i ≤ c) : ∃ c', sliced p 0 i c s = .slice p i c' ∧ i ≤ c' := by
 refine ⟨c - 0, ?_, by omega⟩
 unfold sliced
 split
 · rfl
 · cases p with
   | none => rfl
   | some a => simp [Addr.add]; try (cases a; simp_all)
theorem yieldsIf_front38 {ops : Array Oper} {S : World → Prop} {op : Oper} {a : Act} (hw : Region.wanted op (yielded ops a.tmps) = true) (x hi : Operand) (ho : op.op = .slice 38 x none (some hi) none) (p : Option Addr) (n c r : Nat) (hx : a.eval x = .slice p n c) (hh : a.eval hi = .int .i64 (r : Int)) (hr : r ≤ c) {tv : Value} (ht : sliced p 0 r c 2 = tv) : YieldsIf prog ops S op tv a :=
 .inl ⟨hw, fun w _ => by
  unfold execOp
  simp only [ho, hx, hh, Option.map_some, Option.map_none, run_slice_h (P := prog) w 38 p n c hu38 .i64 (r : Int) (by omega) (by omega), run_sliceAt_slice (P := prog) w 38 _ _ _ _ hu38, size50 w, Result.andThen, Int.toNat_natCast, ht, Sem.run_bind, Sem.run_pure, Result.andThen_ok]⟩
theorem cols_any (K : Nat → Prop) (q : Option Addr) (c : Nat) (l : List Clm) (w : World) (h : ListIs rClm 2 24 K w (.slice q l.length c) l) (hK : ∀ b, K b → b < w.heap.size) (hG : GW w) :
 Calls prog 84 #[.slice q l.length c] w fun e w' => e = .returned (.int .i64 (colsP l)) ∧ Bl w w' := by
 have hbig : l.length ≤ 140737488355328 ∧ l.length ≤ c := by
  obtain ⟨_, _, e, ⟨h1, h2⟩, -⟩ := h
  cases e
  omega
 have HL := hid h
 have HK := hid hK
 have HG := hid hG
 have HLO := hid (clm_ok h)
 obtain ⟨R, hR⟩ := gen (colsP l)
 have HR : Hid (R = if l.length = 0 ∨ 8 < l.length then 3 else colsGo (l.take 0) (l.drop 0)) := by show _ = _; rw [← hR]; rfl
 obtain ⟨N, hN⟩ := gen l.length
 have HN := hid hN
 rw [hN] at HR hbig
 rw [hN, hR]
 clear h hK hG hR hN
 by_cases h0 : N = 0
 · have HE : Hid (R = 3) := by show _ = _; rw [HR.out, if_pos (.inl h0)]
   subst h0
   clear HR HN
   go_enter func84, ntmps84
   go_wp2_with fail
   go_ret
   exact ⟨by rw [HE.out]; rfl, Below.refl _ _⟩
 have y0 : ((N : Int) == 0) = false := bfn (by omega)
 by_cases h8 : 8 < N
 · have y8 : (8 : Int) < (N : Int) := by omega
   have HE : Hid (R = 3) := by show _ = _; rw [HR.out, if_pos (.inr h8)]
   clear HR h0 h8
   go_enter func84, ntmps84
   go_wp2_with fail
   go_ret
   exact ⟨by rw [HE.out]; rfl, Below.refl _ _⟩
 have y8 : ¬ (8 : Int) < (N : Int) := by omega
 have HR1 : Hid (R = colsGo (l.take 0) (l.drop 0)) := by show _ = _; rw [HR.out, if_neg (by omega)]
 have hNc : N ≤ c := hbig.2
 clear HR h0 h8
 go_enter func84, ntmps84
 go_wp2_with fail
 go_loopg [16] N (fun gf s16 wx => ∃ i : Nat, s16 = .int .i64 i ∧ i ≤ N ∧ N ≤ i + gf ∧ Hid (Bl w wx) ∧ Hid (R = colsGo (l.take i) (l.drop i)))
 case atStart => exact ⟨0, rfl, by omega, by omega, Below.refl _ _, HR1⟩
 case round =>
  clear HR1
  obtain ⟨i, rfl, hi1, hgf, HB, HR⟩ := hrel
  by_cases hi : i < N
  · obtain ⟨g', rfl⟩ : ∃ g', gk = g' + 1 := ⟨gk - 1, by omega⟩
    have hil : i < l.length := by rw [HN.out]; exact hi
    have hli := HL.out.mono mClm (fun _ h => h) (kept_of HK.out HB.out)
    obtain ⟨b, o, hq, _, hc⟩ := clm_at hli (by omega)
    obtain ⟨c0, c1⟩ := hc i hil
    have hat := colsGo_at l i hil
    rw [← HR.out] at hat
    have hxn := HLO.out _ (List.getElem_mem hil)
    have hic : i ≤ c := by omega
    obtain ⟨cf, hfr, hcf⟩ := sliced_front q i c 2 hic
    have hfl : ListIs rClm 2 24 K wr (.slice q (l.take i).length cf) (l.take i) := by
     obtain ⟨p', c', e, ⟨hb1, hb2⟩, hp⟩ := ListIs.front hli i (by omega)
     cases e
     exact ⟨_, cf, rfl, ⟨hb1, by rw [List.length_take]; omega⟩, hp⟩
    have htl : (l.take i).length = i := by rw [List.length_take]; omega
    obtain ⟨y, hy⟩ := gen (l[i])
    rw [hy] at c0 c1 hat hxn
    obtain ⟨t, ht⟩ := bya y.n
    rw [ht] at c0
    obtain ⟨yk, hyk⟩ : ∃ k : Int, (y.k : Int) = k := ⟨_, rfl⟩
    rw [hyk] at c1
    have hrg : wr.rangeAt b (o + i * 2) [.string t, .int .u8 yk] := fun j u hu => by
     match j with
     | 0 => simp at hu; subst hu; exact c0
     | 1 => simp at hu; subst hu; exact c1
     | j + 2 => simp at hu
    have HRG := hid hrg
    obtain ⟨WA, hWA, hth, V1, hV1, hg1, hb1⟩ := box_two wr 50 (.string ⟨#[]⟩) (.int .u8 0) (.string t) (.int .u8 yk)
    have HTH := hid hth
    have HV1 := hid hV1
    obtain ⟨D, hD⟩ := gen V1.drew
    have hgD : D.heap[wr.heap.size]? = some (.cells #[.string t, .int .u8 yk] 50 (0, 0)) := by rw [← hD]; exact hg1
    have hbD : Bl wr D := by rw [← hD]; exact hb1.drew
    have hbw : Bl w D := HB.out.trans (hbD.mono HB.out.size)
    have HSD : Hid (D.rangeAt wr.heap.size 0 [.string t, .int .u8 yk]) := rgz hgD
    have HSA : Hid (∀ V, Bl D V → V.rangeAt wr.heap.size 0 [.string t, .int .u8 yk]) := fun V hV => range_box (cl := [.string t, .int .u8 yk]) hgD hV
    have C1 : Hid (Calls prog 122 #[.agg #[.string t, .int .u8 yk], .slice q i cf] D fun e w' => e = .returned (.int .i64 (colP y (l.take i))) ∧ Bl D w') := by
     have := col_any K y q cf (l.take i) D (hfl.mono mClm (fun _ h => h) (kept_of (fun b hb => nlt (HK.out b hb) HB.out.size) hbD)) (fun b hb => nlt (HK.out b hb) hbw.size) hxn (HG.out.below hbw)
     rw [ht, hyk, htl] at this
     exact this
    obtain ⟨A, hA⟩ := gen (colP y (l.take i))
    rw [hA] at C1 hat
    have HAT : Hid (R = if A = 0 then colsGo (l.take (i + 1)) (l.drop (i + 1)) else A) := hat
    have HFR : Hid (sliced q 0 i c 2 = .slice q i cf) := hfr
    have HBW := hid hbw
    have z0 : (0 : Int) ≤ (i : Int) := by omega
    have z1 : (i : Int) < (N : Int) := by omega
    have z2 : (i : Int) ≤ (c : Int) := by omega
    subst hq
    clear hc c0 c1 hat hy ht hyk hrg hth hV1 hg1 hb1 hbD hbw hgD hA hfr hcf hfl htl hli hxn hil HB HR
    go_wp2_with (first | (refine wpList_load_mid rfl 50 _ rfl b (o + i * 2) rfl _ _ HRG.out underlying50 rfl sz_clm ?_) | (refine wpList_store_mid rfl 50 _ _ rfl wr.heap.size 0 #[.string t, .int .u8 yk] rfl rfl HTH.out sz_clm (by simp [Value.oneCell']) ?_; rw [show WA.setCells wr.heap.size 0 (#[.string t, .int .u8 yk] : Array Value).toList = V1 from HV1.out]))
    refine wp_region_held_drew (S := fun V => V.rangeAt wr.heap.size 0 [.string t, .int .u8 yk]) (by kernel_rfl) (by rw [hD]; exact HSD.out) (fun hHeld => ?_)
    refine tk 0 (.agg #[.string t, .int .u8 yk]) rfl (yieldsIf_load_mid (by rfl) 50 (.tmp 4) rfl (wr.heap.size) (0) rfl [.string t, .int .u8 yk] _ (fun W hW => hW) underlying50 rfl sz_clm) hHeld ?_
    refine tk0 1 (.slice (some ⟨b, o, none⟩) N c) rfl hHeld ?_
    refine tk0 2 (.int .i64 (i : Int)) rfl hHeld ?_
    refine tk 3 (.slice (some ⟨b, o, none⟩) i cf) rfl (yieldsIf_front38 (by rfl) _ _ rfl (some ⟨b, o, none⟩) N c i rfl rfl hic HFR.out) hHeld ?_
    simp only [Act.put, List.getElem_toArray, List.getElem_cons_zero, List.getElem_cons_succ, List.setIfInBounds_toArray, List.set_cons_zero, List.set_cons_succ]
    rw [hD] at hHeld ⊢
    clear hD
    refine wpAnyH_ready (rs := [4]) (by kernel_rfl) (by simp) ?_
    refine AllReadyH.cons rfl (fun K' hK => ?_) AllReadyH.nil
    rw [if_pos (by rfl)]
    go_simp
    go_at_call 122
    refine C1.out.mono ?_
    rintro e w3 ⟨rfl, hb3⟩
    have HB3 : Hid (Bl w w3) := HBW.out.trans (hb3.mono HBW.out.size)
    have HS3 := hid (HSA.out w3 hb3)
    refine hK.out _ _ HS3.out (fun hHeld => ?_)
    clear hK K' hb3 C1
    refine wpAnyH_ready (rs := [5]) (by kernel_rfl) (by simp) ?_
    refine AllReadyH.cons rfl (fun K' hK => ?_) AllReadyH.nil
    rw [if_pos (by rfl)]
    go_simp
    refine hK _ _ HS3.out (fun hHeld => ?_)
    clear hK K'
    refine wpAnyH_done (by kernel_rfl) ?_ _
    by_cases hA : A = 0
    · have yA : (A != 0) = false := by rw [hA]; rfl
      have HR2 : Hid (R = colsGo (l.take (i + 1)) (l.drop (i + 1))) := by show _ = _; rw [HAT.out, if_pos hA]
      clear hA HAT hHeld
      go_wp2_with fail
      go_roundg g'
      case measure => omega
      case rel => exact ⟨i + 1, by go_num, by omega, by omega, HB3, HR2⟩
    · have yA : (A != 0) = true := bne_iff_ne.2 hA
      have HE : Hid (R = A) := by show _ = _; rw [HAT.out, if_neg hA]
      clear hA HAT hHeld
      go_wp2_with fail
      go_ret
      exact ⟨by rw [HE.out]; rfl, HB3.out⟩
  · have z1 : ¬ (i : Int) < (N : Int) := by omega
    have HE : Hid (R = 0) := by show _ = _; rw [HR.out, List.drop_of_length_le (by rw [HN.out]; omega)]; rfl
    clear HR
    go_wp2_with fail
    go_ret
    exact ⟨by rw [HE.out]; rfl, HB.out⟩
theorem table_any (K : Nat → Prop) (t : Tab) (q : Option Addr) (c : Nat) (w : World) (h : ListIs rClm 2 24 K w (.slice q t.c.length c) t.c) (hK : ∀ b, K b → b < w.heap.size) (hn : t.n.length ≤ 140737488355328) (hG : GW w) :
 Calls prog 40 #[.agg #[.string ⟨t.n.toArray⟩, .slice q t.c.length c, .slice none 0 0]] w fun e w' => e = .returned (.int .i64 (tabP t)) ∧ Bl w w' := by
 obtain ⟨s, hs⟩ := bya t.n
 obtain ⟨N, hN⟩ := gen t.c.length
 obtain ⟨W0, hW0⟩ := gen (w.alloc (.cells #[.string s, .slice q N c, .slice none 0 0] 56))
 have hb0 : Bl w W0 := by rw [← hW0]; exact below_alloc _ _
 have hg0 : W0.heap[w.heap.size]? = some (.cells #[.string s, .slice q N c, .slice none 0 0] 56 (0, 0)) := by rw [← hW0]; exact heap_alloc_new w _
 have hl0 : w.heap.size < W0.heap.size := (gsi hg0).1
 have HBX : Hid (∀ V, Bl W0 V → V.cell? ⟨w.heap.size, 0, none⟩ = some (.string s) ∧ V.cell? ⟨w.heap.size, 1, none⟩ = some (.slice q N c) ∧ V.cell? ⟨w.heap.size, 2, none⟩ = some (.slice none 0 0) ∧ Bl w V) := fun V hV => by
  have hg := (hV.block _ hl0).trans hg0
  exact ⟨cell_of_row (k := 0) hg rfl, cell_of_row (k := 1) hg rfl, cell_of_row (k := 2) hg rfl, hb0.trans (hV.mono (by omega))⟩
 have C1 := hid (name_any t.n W0 hn (hG.below hb0))
 rw [hs] at C1
 have C2 : Hid (∀ V, Bl W0 V → Calls prog 84 #[.slice q N c] V fun e w' => e = .returned (.int .i64 (colsP t.c)) ∧ Bl V w') := fun V hV => by
  have hw := (HBX.out V hV).2.2.2
  have := cols_any K q c t.c V (h.later mClm hK hw) (fun b hb => nlt (hK b hb) hw.size) (hG.below hw)
  rwa [hN] at this
 obtain ⟨A, hA⟩ := gen (nameP t.n)
 obtain ⟨B, hB⟩ := gen (colsP t.c)
 obtain ⟨R, hR⟩ := gen (tabP t)
 rw [hA] at C1
 rw [hB] at C2
 have HR : Hid (R = if A = 0 then B else A) := by show _ = _; rw [← hR, ← hA, ← hB]; rfl
 rw [hs, hN, hR]
 obtain ⟨k0, k1, k2, hbw0⟩ := HBX.out W0 (Below.refl _ _)
 clear h hK hn hG hs hN hb0 hg0 hl0 hA hB hR hbw0 k1 k2
 go_enter func40, ntmps40
 go_wp2_with fail
 refine C1.out.mono ?_
 rintro e w1 ⟨rfl, hb1⟩
 have C2' := hid (C2.out w1 hb1)
 have HB1 := hid hb1
 obtain ⟨-, k1, -, hbw1⟩ := HBX.out w1 hb1
 have HBW1 := hid hbw1
 clear C1 C2 hb1 k0 hbw1
 by_cases hA : A = 0
 · have yA : (A != 0) = false := by rw [hA]; rfl
   have HR2 : Hid (R = B) := by show _ = _; rw [HR.out, if_pos hA]
   clear hA HR
   go_wp2_with fail
   refine C2'.out.mono ?_
   rintro e w2 ⟨rfl, hb2⟩
   have hb2' : Bl W0 w2 := HB1.out.trans (hb2.mono HB1.out.size)
   obtain ⟨-, -, k2, hbw2⟩ := HBX.out w2 hb2'
   have HBW2 := hid hbw2
   clear C2' hb2 hb2' k1 hbw2
   by_cases hB : B = 0
   · have yB : (B != 0) = false := by rw [hB]; rfl
     have HE : Hid (R = 0) := by show _ = _; rw [HR2.out, hB]
     clear hB HR2
     go_wp2_with fail
     go_loopg [27] 1 (fun gf s27 wx => s27 = .int .i64 0 ∧ Hid (wx = w2))
     case atStart => exact ⟨rfl, rfl⟩
     case round =>
      obtain ⟨rfl, HW⟩ := hrel
      obtain ⟨V0, hV0⟩ : ∃ V0, V0 = wr := ⟨_, rfl⟩
      have HBV : Hid (Bl w wr) := by show Below _ _ _; rw [HW.out]; exact HBW2.out
      go_wp2_with fail
      go_ret
      exact ⟨by rw [HE.out]; rfl, HBV.out⟩
   · have yB : (B != 0) = true := bne_iff_ne.2 hB
     have HE : Hid (R = B) := HR2.out
     clear hB HR2
     go_wp2_with fail
     go_ret
     exact ⟨by rw [HE.out]; rfl, HBW2.out⟩
 · have yA : (A != 0) = true := bne_iff_ne.2 hA
   have HE : Hid (R = A) := by show _ = _; rw [HR.out, if_neg hA]
   clear hA HR C2'
   go_wp2_with fail
   go_ret
   exact ⟨by rw [HE.out]; rfl, HBW1.out⟩
end Go.Proofs.YtfifphfihdhlaaaGreatDoor.Bd

/- A column's text with its table ahead: the law's full. -/
import Derived.Test.YtfifphfihdhlaaaGreatDoorElEr
import Derived.Test.YtfifphfihdhlaaaGreatDoorCeCfCg
import Derived.Test.YtfifphfihdhlaaaGreatDoorEa
import Derived.Test.YtfifphfihdhlaaaGreatDoorCuCv
set_option maxRecDepth 100000
set_option maxHeartbeats 32000000
namespace Go.Proofs.YtfifphfihdhlaaaGreatDoor.Bd
open Tryz
open Go.Shelf Go.RowKit Go.Lib Go.Sort
set_option linter.unusedVariables false
set_option linter.unusedSimpArgs false
attribute [local go_sem ↓] Go.wp_at_zero Go.wp_at_succ
theorem hit_at {l : List Tab} {f : Tab → Bool} {i : Nat} (h : i < l.length) (h0 : (l.take i).find? f = none) (h1 : f l[i] = true) : l.find? f = some l[i] := by
 conv => lhs; rw [← List.take_append_drop i l]
 rw [List.find?_append, h0, List.drop_eq_getElem_cons h, List.find?_cons_of_pos h1]
 rfl
theorem hit_next {l : List Tab} {f : Tab → Bool} {i : Nat} (h : i < l.length) (h0 : (l.take i).find? f = none) (h1 : f l[i] = false) : (l.take (i + 1)).find? f = none := by
 rw [List.take_succ_eq_append_getElem h, List.find?_append, h0]
 simp [h1]
theorem anyC_next {l : List Clm} {f : Clm → Bool} {k : Nat} (h : k < l.length) (h0 : (l.take k).any f = false) (h1 : f l[k] = false) : (l.take (k + 1)).any f = false := by
 rw [List.take_succ_eq_append_getElem h, List.any_append, h0]
 simp [h1]
theorem anyC_at {l : List Clm} {f : Clm → Bool} {k : Nat} (h : k < l.length) (h1 : f l[k] = true) : l.any f = true := List.any_eq_true.2 ⟨_, List.getElem_mem h, h1⟩
theorem dot_join (n : List UInt8) (s : ByteArray) : (⟨n.toArray⟩ : ByteArray) ++ ⟨#[46]⟩ ++ s = ⟨(n ++ 46 :: s.data.toList).toArray⟩ := by
 apply ByteArray.ext
 simp [ByteArray.data_append]
theorem full_any (K : Nat → Prop) (q : Option Addr) (c : Nat) (l : List Tab) (t j : List UInt8) (q0 q3 q4 q5 q6 : Value) (sS : ByteArray) (w : World) (hs : sS.size ≤ 140737488355328) (h : ListIs rTab 3 64 K w (.slice q l.length c) l) (hK : ∀ b, K b → b < w.heap.size) :
 Calls prog 15 #[.string sS, .agg #[q0, .string ⟨t.toArray⟩, .string ⟨j.toArray⟩, q3, q4, q5, q6], .slice q l.length c] w fun e w' => e = .returned (.string ⟨(fullP t j l sS.data.toList).toArray⟩) ∧ Below w.heap.size w w' := by
 obtain ⟨tq, htq⟩ : ∃ x : ByteArray, (⟨t.toArray⟩ : ByteArray) = x := ⟨_, rfl⟩
 obtain ⟨jq, hjq⟩ : ∃ x : ByteArray, (⟨j.toArray⟩ : ByteArray) = x := ⟨_, rfl⟩
 obtain ⟨N, hN⟩ : ∃ N, l.length = N := ⟨_, rfl⟩
 have hbig : N ≤ 140737488355328 := by
  obtain ⟨_, _, -, ⟨hb, -⟩, -⟩ := h
  omega
 obtain ⟨W0, hW0⟩ : ∃ W, w.alloc (.cells #[q0, .string tq, .string jq, q3, q4, q5, q6] 26) = W := ⟨_, rfl⟩
 have hb0 : Below w.heap.size w W0 := by rw [← hW0]; exact below_alloc _ _
 have hg0 : W0.heap[w.heap.size]? = some (.cells #[q0, .string tq, .string jq, q3, q4, q5, q6] 26 (0, 0)) := by rw [← hW0]; exact heap_alloc_new w _
 have hz0 : W0.heap.size = w.heap.size + 1 := by rw [← hW0]; simp
 have HBX : Hid (∀ V, Below W0.heap.size W0 V → V.heap[w.heap.size]? = some (.cells #[q0, .string tq, .string jq, q3, q4, q5, q6] 26 (0, 0)) ∧ Below w.heap.size w V) := fun V hV => ⟨(hV.block _ (by omega)).trans hg0, hb0.trans (hV.mono (by omega))⟩
 have HL := hid h
 have HKK := hid hK
 have HN := hid hN
 have HTJ : Hid (tq.toList = t ∧ jq.toList = j ∧ sS.toList = sS.data.toList) := ⟨by rw [← htq]; simp [Lib.toList_data], by rw [← hjq]; simp [Lib.toList_data], by rw [Lib.toList_data]⟩
 obtain ⟨R, hR⟩ : ∃ R, fullP t j l sS.data.toList = R := ⟨_, rfl⟩
 have HR : Hid ((if (46 : UInt8) ∈ sS.data.toList then sS.data.toList else match l.find? (hitT t j sS.data.toList) with
  | some x => x.n ++ 46 :: sS.data.toList
  | none => sS.data.toList) = R) := hR
 rw [htq, hjq, hN, hR]
 clear h hK htq hjq hN hb0 hg0 hz0 hR
 go_enter func15, ntmps15
 go_wp2_with (rw [hW0])
 have HBS : Hid (Below w.heap.size w W0) := (HBX.out W0 (Below.refl _ _)).2
 clear hW0
 go_loopg [7] sS.size (fun gf s7 wx => ∃ i : Nat, s7 = .int .i64 i ∧ i ≤ sS.size ∧ sS.size ≤ i + gf ∧ wx = W0 ∧ Hid (∀ k (h : k < i), ∀ (h2 : k < sS.data.toList.length), sS.data.toList[k] ≠ 46))
 case atStart => exact ⟨0, rfl, by omega, by omega, rfl, fun k h => absurd h (by omega)⟩
 case round =>
  obtain ⟨i, rfl, hi1, hgf, rfl, HF⟩ := hrel
  by_cases hi : i < sS.size
  · obtain ⟨g', rfl⟩ : ∃ g', gk = g' + 1 := ⟨gk - 1, by omega⟩
    have z0 : (0 : Int) ≤ (i : Int) := by omega
    have z1 : (i : Int) < (sS.size : Int) := by omega
    have hil : i < sS.data.toList.length := by simpa using hi
    have hel : sS.data.toList[i] = sS[i] := by simp; rfl
    by_cases he : sS[i] = 46
    · have x1 : ((sS[i].toNat : Int) == 46) = true := by rw [he]; rfl
      have HE : Hid (R = sS.data.toList) := by
       have := HR.out
       rw [if_pos (by rw [← he, ← hel]; exact List.getElem_mem hil)] at this
       exact this.symm
      clear he hel HF
      go_wp2_with fail
      go_ret
      exact ⟨by rw [HE.out]; rfl, HBS.out⟩
    · have x1 : ((sS[i].toNat : Int) == 46) = false := bfn (fun e => he (UInt8.toNat_inj.1 (by have h46 : (46 : UInt8).toNat = 46 := rfl; omega)))
      have HF2 : Hid (∀ k (h : k < i + 1), ∀ (h2 : k < sS.data.toList.length), sS.data.toList[k] ≠ 46) := fun k hk h2 => by
       by_cases e : k = i
       · subst e; rw [hel]; exact he
       · exact HF.out k (by omega) h2
      clear he hel HF
      go_wp2_with fail
      go_roundg g'
      case measure => omega
      case rel => exact ⟨i + 1, by go_num, by omega, by omega, rfl, HF2⟩
  · have z1 : ¬ (i : Int) < (sS.size : Int) := by omega
    have HR2 : Hid ((match l.find? (hitT t j sS.data.toList) with
     | some x => x.n ++ 46 :: sS.data.toList
     | none => sS.data.toList) = R) := by
     have := HR.out
     rw [if_neg (fun hm => by
      obtain ⟨k, hk, e⟩ := List.getElem_of_mem hm
      exact HF.out k (by have : sS.data.toList.length = sS.size := by simp
       omega) hk e)] at this
     exact this
    clear HF HR
    obtain ⟨V0, hV0⟩ : ∃ V, V = wr := ⟨_, rfl⟩
    subst hV0
    have HB0 : Hid (Below V0.heap.size V0 V0) := Below.refl _ _
    go_wp2_with fail
    go_loopg [25] N (fun gf s25 wx => ∃ i : Nat, s25 = .int .i64 i ∧ i ≤ N ∧ N ≤ i + gf ∧ Hid (Below V0.heap.size V0 wx) ∧ Hid ((l.take i).find? (hitT t j sS.data.toList) = none))
    case atStart => exact ⟨0, rfl, by omega, by omega, HB0, rfl⟩
    case round =>
     clear z1 hi1 hgf HB0
     obtain ⟨i, rfl, hi1, hgf, HB, HF⟩ := hrel
     by_cases hi : i < N
     · obtain ⟨g', rfl⟩ : ∃ g', gk = g' + 1 := ⟨gk - 1, by omega⟩
       obtain ⟨V1, hV1⟩ : ∃ V, V = wr := ⟨_, rfl⟩
       subst hV1
       have hil : i < l.length := by rw [HN.out]; exact hi
       obtain ⟨hgS, hbw⟩ := HBX.out V1 HB.out
       have hli := HL.out.mono mTab (fun _ h => h) (kept_of HKK.out hbw)
       rw [HN.out] at hli
       obtain ⟨b, o, hq, -, hc⟩ := tab_at hli (by omega)
       subst hq
       obtain ⟨pc, cc, pr, nr, cr, hrg, hcl, hn⟩ := hc i hil
       have hat := fun (h : hitT t j sS.data.toList l[i] = true) => hit_at hil HF.out h
       have hnx := fun (h : hitT t j sS.data.toList l[i] = false) => hit_next hil HF.out h
       obtain ⟨x, hx⟩ : ∃ x, l[i] = x := ⟨_, rfl⟩
       rw [hx] at hrg hcl hn hat hnx
       obtain ⟨M, hM⟩ : ∃ M, x.c.length = M := ⟨_, rfl⟩
       obtain ⟨tS, htS⟩ : ∃ y : ByteArray, (⟨x.n.toArray⟩ : ByteArray) = y := ⟨_, rfl⟩
       rw [hM, htS] at hrg
       have HRG := hid hrg
       obtain ⟨WA, hWA, hth, V2, hV2, hgQ, hbV⟩ := box_any V1 56 #[.string ⟨#[]⟩, .slice none 0 0, .slice none 0 0] [.string tS, .slice pc M cc, .slice pr nr cr] rfl
       have HTH := hid hth
       have HV2 : Hid (WA.setCells V1.heap.size 0 (#[.string tS, .slice pc M cc, .slice pr nr cr] : Array Value).toList = V2) := hV2
       have HON1 : Hid ((#[.string tS, .slice pc M cc, .slice pr nr cr] : Array Value).all (·.oneCell') = true) := by show _ = _; simp [Value.oneCell']
       have d1 := cell_of_row (k := 1) (v := .slice pc M cc) hgQ rfl
       have HB2 : Hid (Below V0.heap.size V0 V2) := HB.out.trans (hbV.mono HB.out.size)
       have HAT : Hid (hitT t j sS.data.toList x = true → l.find? (hitT t j sS.data.toList) = some x) := hat
       have HNX := hid hnx
       have HX : Hid (x.c.length = M ∧ (⟨x.n.toArray⟩ : ByteArray) = tS ∧ tS.toList = x.n ∧ M * 24 ≤ 140737488355328 ∧ x.n.length ≤ 140737488355328) := ⟨hM, htS, by rw [← htS]; simp [Lib.toList_data], by
        obtain ⟨_, _, -, ⟨hb, -⟩, -⟩ := hcl
        rwa [hM] at hb, hn⟩
       have HCL : Hid (∀ V, Below V2.heap.size V2 V → ListIs rClm 2 24 K V (.slice pc M cc) x.c) := fun V hV => by
        have hbw2 : Below V1.heap.size V1 V := hbV.trans (hV.mono hbV.size)
        have hcl2 := hcl.mono mClm (fun _ h => h) (kept_of (K := K) (fun b hb => nlt (HKK.out b hb) hbw.size) hbw2)
        rwa [hM] at hcl2
       obtain ⟨T, hT⟩ : ∃ T, V1.heap.size = T := ⟨_, rfl⟩
       have HGT : Hid (∀ V, Below V2.heap.size V2 V → V.heap[T]? = some (.cells #[.string tS, .slice pc M cc, .slice pr nr cr] 56 (0, 0))) := fun V hV => by rw [← hT]; exact (hV.block _ (gsi hgQ).1).trans hgQ
       rw [hT] at HTH HV2 d1
       have hM24 : M * 24 ≤ 140737488355328 := HX.out.2.2.2.1
       have z0 : (0 : Int) ≤ (i : Int) := by omega
       have z1 : (i : Int) < (N : Int) := by omega
       clear hil hgS hbw hli hc hrg hcl hn hat hnx hx hM htS hth hV2 hgQ hbV HB HF
       go_wp2_with (first | (refine wpList_load_mid rfl 56 _ rfl b (o + i * 3) rfl _ _ HRG.out underlying56 rfl sz_tab ?_) | (refine wpList_store_mid rfl 56 _ _ rfl T 0 #[.string tS, .slice pc M cc, .slice pr nr cr] rfl rfl HTH.out sz_tab HON1.out ?_; rw [show WA.setCells T 0 (#[.string tS, .slice pc M cc, .slice pr nr cr] : Array Value).toList = V2 from HV2.out]))
       clear HTH HV2 HON1 hWA HRG d1
       go_loopg [32] M (fun gf s32 wx => ∃ k : Nat, s32 = .int .i64 k ∧ k ≤ M ∧ M ≤ k + gf ∧ Hid (Below V2.heap.size V2 wx) ∧ Hid (((x.c.take k).any (fun c => c.n == sS.data.toList) && (x.n == t || x.n == j)) = false))
       case atStart => exact ⟨0, rfl, by omega, by omega, Below.refl _ _, rfl⟩
       case round =>
        obtain ⟨k, rfl, hk1, hgf2, HB, HF⟩ := hrel
        by_cases hk : k < M
        · obtain ⟨g2, rfl⟩ : ∃ g2, gk = g2 + 1 := ⟨gk - 1, by omega⟩
          have hkl : k < x.c.length := by rw [HX.out.1]; exact hk
          obtain ⟨b2, o2, hq, -, hc⟩ := cell_list (HCL.out wr HB.out) (by omega)
          subst hq
          obtain ⟨cs, hrg, hcs, hcb⟩ := hc k hkl
          have hnxc := fun (h : (fun c : Clm => c.n == sS.data.toList) x.c[k] = false) (h0 : (x.c.take k).any (fun c => c.n == sS.data.toList) = false) => anyC_next hkl h0 h
          have hatc := fun (h : (fun c : Clm => c.n == sS.data.toList) x.c[k] = true) => anyC_at (f := fun c : Clm => c.n == sS.data.toList) hkl h
          obtain ⟨c, hcc⟩ : ∃ c, x.c[k] = c := ⟨_, rfl⟩
          rw [hcc] at hcs hcb hnxc hatc
          obtain ⟨cS, hcS⟩ : ∃ y : ByteArray, (⟨c.n.toArray⟩ : ByteArray) = y := ⟨_, rfl⟩
          rw [hcs, hcS] at hrg
          have HRC := hid hrg
          have ecn : cS.toList = c.n := by rw [← hcS]; simp [Lib.toList_data]
          obtain ⟨WA, hWA, hth, V3, hV3, hgQ, hbV⟩ := box_any wr 50 #[.string ⟨#[]⟩, .int .u8 0] [.string cS, .int .u8 (c.k : Int)] rfl
          have HTH := hid hth
          have HV3 : Hid (WA.setCells wr.heap.size 0 (#[.string cS, .int .u8 (c.k : Int)] : Array Value).toList = V3) := hV3
          have HON1 : Hid ((#[.string cS, .int .u8 (c.k : Int)] : Array Value).all (·.oneCell') = true) := by show _ = _; simp [Value.oneCell']
          have hb23 : Below V2.heap.size V2 V3 := HB.out.trans (hbV.mono HB.out.size)
          have HB23 := hid hb23
          have HB03 := hid (HB2.out.trans (hb23.mono HB2.out.size))
          obtain ⟨hgS, hbw⟩ := HBX.out V3 HB03.out
          have HBW := hid hbw
          have hgT := HGT.out V3 hb23
          have a0 := cell_of_row (k := 0) (v := .string cS) hgQ rfl
          have t0 := cell_of_row (k := 0) (v := .string tS) hgT rfl
          have q1 := cell_of_row (k := 1) (v := .string tq) hgS rfl
          have q2 := cell_of_row (k := 2) (v := .string jq) hgS rfl
          obtain ⟨A, hA⟩ : ∃ A, (c.n == sS.data.toList) = A := ⟨_, rfl⟩
          obtain ⟨B1, hB1⟩ : ∃ A, (x.n == t) = A := ⟨_, rfl⟩
          obtain ⟨B2, hB2⟩ : ∃ A, (x.n == j) = A := ⟨_, rfl⟩
          have f1 : (cS.toList == sS.toList) = A := by rw [ecn, HTJ.out.2.2]; exact hA
          have f2 : (tS.toList == tq.toList) = B1 := by rw [HX.out.2.2.1, HTJ.out.1]; exact hB1
          have f3 : (tS.toList == jq.toList) = B2 := by rw [HX.out.2.2.1, HTJ.out.2.1]; exact hB2
          have l1 : tS.size ≤ 140737488355328 := by have := HX.out.2.2.2.2; rw [← HX.out.2.1]; show x.n.toArray.size ≤ _; simpa using this
          have z2 : (0 : Int) ≤ (k : Int) := by omega
          have z3 : (k : Int) < (M : Int) := by omega
          have HHIT : Hid (A = true → (B1 || B2) = true → R = x.n ++ 46 :: sS.data.toList) := fun h1 h2 => by
           have hh : hitT t j sS.data.toList x = true := by
            unfold hitT
            rw [hatc (by rw [← h1]; exact hA), hB1, hB2, h2]
            rfl
           have := HR2.out
           rw [HAT.out hh] at this
           exact this.symm
          have HGO : Hid ((A && (B1 || B2)) = false → ((x.c.take (k + 1)).any (fun c => c.n == sS.data.toList) && (x.n == t || x.n == j)) = false) := fun h1 => by
           rw [hB1, hB2]
           cases hB : (B1 || B2) with
           | false => rw [Bool.and_false]
           | true =>
            rw [hB, Bool.and_true] at h1
            have h0 := HF.out
            rw [hB1, hB2, hB, Bool.and_true] at h0
            rw [hnxc (by rw [← h1]; exact hA) h0]
            rfl
          clear hkl hc hrg hcs hcb hnxc hatc hcc hcS ecn hth hV3 hgQ hbV hb23 hgS hbw hgT hA hB1 hB2 HB HF
          cases A with
          | false =>
           clear f2 f3 HHIT
           go_wp2_with (first | ((with_reducible (show wpList _ _ _ (Oper.mk _ (.load _ _) _ _ _ none :: _) _ _)); refine wpList_load_mid rfl 50 _ rfl b2 (o2 + k * 2) rfl _ _ HRC.out underlying50 rfl sz_clm ?_) | ((with_reducible (show wpList _ _ _ (Oper.mk _ (.store _ _ _) _ _ _ none :: _) _ _)); refine wpList_store_mid rfl 50 _ _ rfl wr.heap.size 0 #[.string cS, .int .u8 (c.k : Int)] rfl rfl HTH.out sz_clm HON1.out ?_; rw [show WA.setCells wr.heap.size 0 (#[.string cS, .int .u8 (c.k : Int)] : Array Value).toList = V3 from HV3.out]))
           go_roundg g2
           case measure => omega
           case rel => exact ⟨k + 1, by go_num, by omega, by omega, HB23, HGO.out rfl⟩
          | true =>
           cases B1 with
           | true =>
            have HRR := hid (HHIT.out rfl rfl)
            clear f3 HGO HHIT
            go_wp2_with (first | ((with_reducible (show wpList _ _ _ (Oper.mk _ (.load _ _) _ _ _ none :: _) _ _)); refine wpList_load_mid rfl 50 _ rfl b2 (o2 + k * 2) rfl _ _ HRC.out underlying50 rfl sz_clm ?_) | ((with_reducible (show wpList _ _ _ (Oper.mk _ (.store _ _ _) _ _ _ none :: _) _ _)); refine wpList_store_mid rfl 50 _ _ rfl wr.heap.size 0 #[.string cS, .int .u8 (c.k : Int)] rfl rfl HTH.out sz_clm HON1.out ?_; rw [show WA.setCells wr.heap.size 0 (#[.string cS, .int .u8 (c.k : Int)] : Array Value).toList = V3 from HV3.out]))
            go_ret
            exact ⟨by rw [HRR.out, ← dot_join, HX.out.2.1]; rfl, HBW.out⟩
           | false =>
            cases B2 with
            | true =>
             have HRR := hid (HHIT.out rfl rfl)
             clear HGO HHIT
             go_wp2_with (first | ((with_reducible (show wpList _ _ _ (Oper.mk _ (.load _ _) _ _ _ none :: _) _ _)); refine wpList_load_mid rfl 50 _ rfl b2 (o2 + k * 2) rfl _ _ HRC.out underlying50 rfl sz_clm ?_) | ((with_reducible (show wpList _ _ _ (Oper.mk _ (.store _ _ _) _ _ _ none :: _) _ _)); refine wpList_store_mid rfl 50 _ _ rfl wr.heap.size 0 #[.string cS, .int .u8 (c.k : Int)] rfl rfl HTH.out sz_clm HON1.out ?_; rw [show WA.setCells wr.heap.size 0 (#[.string cS, .int .u8 (c.k : Int)] : Array Value).toList = V3 from HV3.out]))
             go_ret
             exact ⟨by rw [HRR.out, ← dot_join, HX.out.2.1]; rfl, HBW.out⟩
            | false =>
             clear HHIT
             go_wp2_with (first | ((with_reducible (show wpList _ _ _ (Oper.mk _ (.load _ _) _ _ _ none :: _) _ _)); refine wpList_load_mid rfl 50 _ rfl b2 (o2 + k * 2) rfl _ _ HRC.out underlying50 rfl sz_clm ?_) | ((with_reducible (show wpList _ _ _ (Oper.mk _ (.store _ _ _) _ _ _ none :: _) _ _)); refine wpList_store_mid rfl 50 _ _ rfl wr.heap.size 0 #[.string cS, .int .u8 (c.k : Int)] rfl rfl HTH.out sz_clm HON1.out ?_; rw [show WA.setCells wr.heap.size 0 (#[.string cS, .int .u8 (c.k : Int)] : Array Value).toList = V3 from HV3.out]))
             go_roundg g2
             case measure => omega
             case rel => exact ⟨k + 1, by go_num, by omega, by omega, HB23, HGO.out rfl⟩
        · have z3 : ¬ (k : Int) < (M : Int) := by omega
          have HBE : Hid (Below V0.heap.size V0 wr) := HB2.out.trans (HB.out.mono HB2.out.size)
          have HFE : Hid ((l.take (i + 1)).find? (hitT t j sS.data.toList) = none) := by
           refine HNX.out ?_
           have := HF.out
           rw [List.take_of_length_le (by rw [HX.out.1]; omega)] at this
           exact this
          clear HB HF
          go_wp2_with fail
          go_roundg g'
          case measure => omega
          case rel => exact ⟨i + 1, by go_num, by omega, by omega, HBE, HFE⟩
     · have z1 : ¬ (i : Int) < (N : Int) := by omega
       have HE : Hid (R = sS.data.toList) := by
        have h0 := HF.out
        rw [List.take_of_length_le (by rw [HN.out]; omega)] at h0
        have := HR2.out
        rw [h0] at this
        exact this.symm
       have HBE := hid (HBX.out wr HB.out).2
       clear HF HB
       go_wp2_with fail
       go_ret
       exact ⟨by rw [HE.out]; rfl, HBE.out⟩
theorem info53 : ∃ i0, prog.info? 53 = some i0 ∧ i0.zero = some (.agg #[.int .u8 0, .string ⟨#[]⟩, .int .i64 0]) ∧ i0.size = 3 ∧ i0.bytes = 32 := by
 have h1 : (prog.info? 53).bind (·.zero) = some (.agg #[.int .u8 0, .string ⟨#[]⟩, .int .i64 0]) := by kernel_rfl
 have h2 : (prog.info? 53).map (fun i => (i.size, i.bytes)) = some (3, 32) := by kernel_rfl
 cases h : prog.info? 53 with
 | none => rw [h] at h2; cases h2
 | some i0 =>
  rw [h] at h1 h2
  have h3 := Option.some.inj h2
  exact ⟨i0, rfl, h1, (Prod.mk.inj h3).1, (Prod.mk.inj h3).2⟩
theorem sz_stp2 : (prog.info? 53).map (·.size) = some 3 := by kernel_rfl
theorem fStpW : Flat rStpW := ⟨fun _ _ _ _ _ _ h => h, fun K W cs x h u hu => by rw [h.1] at hu; simp at hu; rcases hu with rfl | rfl | rfl <;> rfl⟩
def StpE (B : Nat) (w' : World) (l : List Stp) (e : Ending) : Prop := ∃ p c, e = .returned (.slice p l.length c) ∧ ListIs rStpW 3 32 (From B w') w' (.slice p l.length c) l
theorem fsteps_any (K Ke : Nat → Prop) (q : Option Addr) (c : Nat) (l : List Tab) (t j : List UInt8) (q0 q3 q4 q5 q6 : Value) (pe : Option Addr) (ce : Nat) (e : List Stp) (w : World) (he : ListIs rStpW 3 32 Ke w (.slice pe e.length ce) e) (hKe : ∀ b, Ke b → b < w.heap.size) (h64 : e.length ≤ 64) (hsm : ∀ x ∈ e, x.k = 6 → (fullP t j l x.t).length ≤ 140737488355328) (h : ListIs rTab 3 64 K w (.slice q l.length c) l) (hK : ∀ b, K b → b < w.heap.size) :
 Calls prog 16 #[.slice pe e.length ce, .agg #[q0, .string ⟨t.toArray⟩, .string ⟨j.toArray⟩, q3, q4, q5, q6], .slice q l.length c] w fun x w' => StpE w.heap.size w' (e.map (fullS t j l)) x ∧ Below w.heap.size w w' := by
 obtain ⟨tq, htq⟩ : ∃ x : ByteArray, (⟨t.toArray⟩ : ByteArray) = x := ⟨_, rfl⟩
 obtain ⟨jq, hjq⟩ : ∃ x : ByteArray, (⟨j.toArray⟩ : ByteArray) = x := ⟨_, rfl⟩
 obtain ⟨N, hN⟩ : ∃ N, l.length = N := ⟨_, rfl⟩
 obtain ⟨M, hM⟩ : ∃ M, e.length = M := ⟨_, rfl⟩
 obtain ⟨W0, hW0⟩ : ∃ W, w.alloc (.cells #[q0, .string tq, .string jq, q3, q4, q5, q6] 26) = W := ⟨_, rfl⟩
 have hb0 : Below w.heap.size w W0 := by rw [← hW0]; exact below_alloc _ _
 have hg0 : W0.heap[w.heap.size]? = some (.cells #[q0, .string tq, .string jq, q3, q4, q5, q6] 26 (0, 0)) := by rw [← hW0]; exact heap_alloc_new w _
 have hz0 : W0.heap.size = w.heap.size + 1 := by rw [← hW0]; simp
 have HBX : Hid (∀ V, Below W0.heap.size W0 V → V.rangeAt w.heap.size 0 (#[q0, .string tq, .string jq, q3, q4, q5, q6] : Array Value).toList ∧ Below w.heap.size w V) := fun V hV => ⟨rgz ((hV.block _ (by omega)).trans hg0), hb0.trans (hV.mono (by omega))⟩
 have CF : Hid (∀ V, Below w.heap.size w V → ∀ (s : ByteArray), s.size ≤ 140737488355328 → Calls prog 15 #[.string s, .agg #[q0, .string tq, .string jq, q3, q4, q5, q6], .slice q N c] V fun e w' => e = .returned (.string ⟨(fullP t j l s.data.toList).toArray⟩) ∧ Below V.heap.size V w') := fun V hV s hs => by
  have := full_any K q c l t j q0 q3 q4 q5 q6 s V hs (h.later mTab hK hV) (fun b hb => nlt (hK b hb) hV.size)
  rwa [htq, hjq, hN] at this
 have HLE : Hid (∀ V, Below w.heap.size w V → ListIs rStpW 3 32 Ke V (.slice pe M ce) e) := fun V hV => by
  have := he.later mStpW hKe hV
  rwa [hM] at this
 have HMM : Hid (e.length = M) := hM
 have HSM := hid hsm
 have HZ : Hid (w.heap.size ≤ W0.heap.size) := hb0.size
 rw [hM] at h64
 rw [htq, hjq, hN, hM]
 clear he hKe hsm h hK htq hjq hN hM hb0 hg0 hz0
 obtain ⟨i53, hi53, hz53, hs53, hb53⟩ := info53
 go_enter func16, ntmps16
 go_wp2_with (rw [hW0])
 clear hW0
 go_loopg [7, 12] M (fun gf s7 s12 wx => ∃ (i c1 : Nat) (a1 : Option Addr), s7 = .slice a1 i c1 ∧ s12 = .int .i64 i ∧ i ≤ M ∧ M ≤ i + gf ∧ Hid (Below W0.heap.size W0 wx) ∧ Hid (OwnK (fun _ => False) rStpW 3 53 W0.heap.size wx (.slice a1 i c1) ((e.take i).map (fullS t j l))))
 case atStart => exact ⟨0, 0, none, rfl, rfl, by omega, by omega, Below.refl _ _, ⟨[], World.ownsRow_nil _ _ _ _, fun j hj => by simp at hj⟩⟩
 case round =>
  obtain ⟨i, c1, a1, rfl, rfl, hi1, hgf, HB, HO⟩ := hrel
  by_cases hi : i < M
  · obtain ⟨g', rfl⟩ : ∃ g', gk = g' + 1 := ⟨gk - 1, by omega⟩
    have hil : i < e.length := by rw [HMM.out]; exact hi
    obtain ⟨-, hbw⟩ := HBX.out wr HB.out
    obtain ⟨b, o, hq, -, hc⟩ := cell_list (HLE.out wr hbw) (by omega)
    subst hq
    obtain ⟨cs, hrg, hcs, hok⟩ := hc i hil
    have hnx : (e.take (i + 1)).map (fullS t j l) = (e.take i).map (fullS t j l) ++ [fullS t j l e[i]] := by rw [List.take_succ_eq_append_getElem hil, List.map_append]; rfl
    have hsx := HSM.out _ (List.getElem_mem hil)
    obtain ⟨x, hx⟩ : ∃ x, e[i] = x := ⟨_, rfl⟩
    rw [hx] at hcs hok hnx hsx
    have HNX := hid hnx
    obtain ⟨xS, hxS⟩ : ∃ y : ByteArray, (⟨x.t.toArray⟩ : ByteArray) = y := ⟨_, rfl⟩
    obtain ⟨kk, hkk⟩ : ∃ y : Int, (x.k : Int) = y := ⟨_, rfl⟩
    obtain ⟨nn, hnn⟩ : ∃ y : Int, x.n = y := ⟨_, rfl⟩
    rw [hcs, hxS, hkk, hnn] at hrg
    have HRC := hid hrg
    obtain ⟨WA, hWA, hth, V2, hV2, hgQ, hbV⟩ := box_any wr 53 #[.int .u8 0, .string ⟨#[]⟩, .int .i64 0] [.int .u8 kk, .string xS, .int .i64 nn] rfl
    have HTH := hid hth
    have HV2 : Hid (WA.setCells wr.heap.size 0 (#[.int .u8 kk, .string xS, .int .i64 nn] : Array Value).toList = V2) := hV2
    have HON1 : Hid ((#[.int .u8 kk, .string xS, .int .i64 nn] : Array Value).all (·.oneCell') = true) := by show _ = _; simp [Value.oneCell']
    have HB2 : Hid (Below W0.heap.size W0 V2) := HB.out.trans (hbV.mono HB.out.size)
    obtain ⟨hsQ, hbw2⟩ := HBX.out V2 HB2.out
    have HRQ := hid hsQ
    have hlt : ((e.take i).map (fullS t j l)).length = i := by rw [List.length_map, List.length_take, HMM.out]; omega
    have HO2 : Hid (OwnK (fun _ => False) rStpW 3 53 W0.heap.size V2 (.slice a1 i c1) ((e.take i).map (fullS t j l))) := own_keep fStpW HO.out fun g cur hg => hbV.block g (gsi hg).1
    have hne : ∀ g, (Value.slice a1 i c1).ownBlock = some g → g ≠ wr.heap.size := fun g hg => by
     obtain ⟨cells, ho, _⟩ := HO.out
     have := (ho.lt g hg).2
     omega
    obtain ⟨G, hG⟩ : ∃ G, wr.heap.size = G := ⟨_, rfl⟩
    rw [hG] at HTH HV2 hgQ hne
    have HW0 : Hid (W0.heap.size ≤ G ∧ G < V2.heap.size) := ⟨by rw [← hG]; exact HB.out.size, (gsi hgQ).1⟩
    have d0 := cell_of_row (k := 0) (v := .int .u8 kk) hgQ rfl
    have d1 := cell_of_row (k := 1) (v := .string xS) hgQ rfl
    have z0 : (0 : Int) ≤ (i : Int) := by omega
    have z1 : (i : Int) < (M : Int) := by omega
    by_cases h6 : x.k = 6
    · have y6 : (kk == 6) = true := by rw [← hkk, h6]; rfl
      have hxs : xS.data.toList = x.t := by rw [← hxS]
      have hxz : xS.size ≤ 140737488355328 := by rw [← hxS]; show x.t.toArray.size ≤ _; simpa using hok.2.2
      have C1 := CF.out V2 hbw2 xS hxz
      rw [hxs] at C1
      obtain ⟨fS, hfS⟩ : ∃ y : ByteArray, (⟨(fullP t j l x.t).toArray⟩ : ByteArray) = y := ⟨_, rfl⟩
      rw [hfS] at C1
      have HC1 := hid C1
      have HGQ := hid hgQ
      have HREL : Hid (∀ W, rStpW (fun _ => False) W [.int .u8 kk, .string fS, .int .i64 nn] (fullS t j l x)) := fun W => by
       unfold fullS
       rw [if_pos h6]
       refine ⟨?_, ⟨by show (6 : Nat) < 256; decide, hok.2.1, hsx h6⟩⟩
       rw [← hkk, h6, ← hfS, hnn]
      have HNE := hid hne
      clear hil hbw hc hrg hcs hok hnx hsx hx hxS hkk hnn hth hV2 hgQ hbV hsQ hbw2 hne C1 hxs hxz hfS h6 HB HO
      go_wp2_with (first | ((with_reducible (show wpList _ _ _ (Oper.mk _ (.load _ _) _ _ _ none :: _) _ _)); first | (refine wpList_load_mid rfl 53 _ rfl b (o + i * 3) rfl _ _ HRC.out underlying53 rfl sz_stp2 ?_) | (refine wpList_load_mid rfl 26 _ rfl w.heap.size 0 rfl _ _ HRQ.out underlying26 rfl sz_qry ?_)) | ((with_reducible (show wpList _ _ _ (Oper.mk _ (.store _ _ _) _ _ _ none :: _) _ _)); refine wpList_store_mid rfl 53 _ _ rfl G 0 #[.int .u8 kk, .string xS, .int .i64 nn] rfl rfl HTH.out sz_stp2 HON1.out ?_; rw [show WA.setCells G 0 (#[.int .u8 kk, .string xS, .int .i64 nn] : Array Value).toList = V2 from HV2.out]))
      refine HC1.out.mono ?_
      rintro y w3 ⟨rfl, hb3⟩
      have hg3 := (hb3.block _ HW0.out.2).trans HGQ.out
      obtain ⟨⟨u1, cu1⟩, fu1, X, hX, hgX, hsX, hkX⟩ := put_one w3 G 1 _ 53 hg3 (by simp) (.string fS)
      have hb03 : Below W0.heap.size W0 w3 := HB2.out.trans (hb3.mono HB2.out.size)
      have hXw : Below W0.heap.size W0 X := ⟨hkX.os.trans hb03.os, hkX.tape.trans hb03.tape, hkX.output.trans hb03.output, by have := hb03.size; omega, fun b hb => (hkX.block b (by have := HW0.out.1; show b ≠ _; omega)).trans (hb03.block b hb)⟩
      have ho : OwnK (fun _ => False) rStpW 3 53 W0.heap.size X (.slice a1 i c1) ((e.take i).map (fullS t j l)) := by
       obtain ⟨cells, ho, hr⟩ := HO2.out
       refine ⟨cells, owns_kept ho (fun g hg => (hkX.block g (HNE.out g hg)).trans (hb3.block g (ho.lt g hg).2)), fun j hj => hr j hj⟩
      have HRX : Hid (X.rangeAt G 0 [.int .u8 kk, .string fS, .int .i64 nn]) := rgz hgX
      obtain ⟨v3, X3, e3, ho3, hk3⟩ := ho.push mStpW (bytes := 32) (ts := 23) underlying23 hi53 hz53 hs53 hb53 rfl (by omega) hXw.size (x := fullS t j l x) (cs := [.int .u8 kk, .string fS, .int .i64 nn]) rfl (by intro c hc; simp at hc; rcases hc with rfl | rfl | rfl <;> rfl) (fun b hb => hb.elim) (HREL.out X) (by rw [hlt]; omega) (by rw [hlt]; unfold maxLen; omega)
      obtain ⟨a3, c3, ev⟩ := ownF_slice ho3
      rw [List.length_append, hlt] at ev
      have ev2 : v3 = .slice a3 (i + 1) c3 := ev
      subst ev2
      have HE3 := hid e3
      have HB3 : Hid (Below W0.heap.size W0 X3) := own_below ho hk3 hXw (Nat.le_refl _) hXw.size
      have HO3 : Hid (OwnK (fun _ => False) rStpW 3 53 W0.heap.size X3 (.slice a3 (i + 1) c3) ((e.take (i + 1)).map (fullS t j l))) := by
       show OwnK _ _ _ _ _ _ _ _
       rw [HNX.out]
       exact ho3
      clear HC1 hb3 hg3 hgX hsX hkX hb03 hXw ho e3 ho3 hk3 ev HTH HV2 HON1 hWA HRC HRQ d0 d1 y6 hlt
      go_wp2_with (first | (refine wpList_load_mid rfl 53 _ rfl G 0 rfl _ _ HRX.out underlying53 rfl sz_stp2 ?_) | (at_builtin; refine Lib.wpList_append_run _ rfl _ _ _ _ rfl (.slice a1 i c1) (.slice (some ⟨X.heap.size, 0, none⟩) 1 1) rfl rfl _ _ HE3.out ?_))
      go_roundg g'
      case measure => omega
      case rel => exact ⟨i + 1, c3, a3, rfl, by go_num, by omega, by omega, HB3, HO3⟩
    · have y6 : (kk == 6) = false := bfn (by omega)
      have HREL : Hid (∀ W, rStpW (fun _ => False) W [.int .u8 kk, .string xS, .int .i64 nn] (fullS t j l x)) := fun W => by
       unfold fullS
       rw [if_neg h6]
       exact ⟨by rw [hxS, hkk, hnn], hok⟩
      have HRX : Hid (V2.rangeAt G 0 [.int .u8 kk, .string xS, .int .i64 nn]) := rgz hgQ
      have ho := HO2.out
      have hXw := HB2.out
      obtain ⟨v3, X3, e3, ho3, hk3⟩ := ho.push mStpW (bytes := 32) (ts := 23) underlying23 hi53 hz53 hs53 hb53 rfl (by omega) hXw.size (x := fullS t j l x) (cs := [.int .u8 kk, .string xS, .int .i64 nn]) rfl (by intro c hc; simp at hc; rcases hc with rfl | rfl | rfl <;> rfl) (fun b hb => hb.elim) (HREL.out V2) (by rw [hlt]; omega) (by rw [hlt]; unfold maxLen; omega)
      obtain ⟨a3, c3, ev⟩ := ownF_slice ho3
      rw [List.length_append, hlt] at ev
      have ev2 : v3 = .slice a3 (i + 1) c3 := ev
      subst ev2
      have HE3 := hid e3
      have HB3 : Hid (Below W0.heap.size W0 X3) := own_below ho hk3 hXw (Nat.le_refl _) hXw.size
      have HO3 : Hid (OwnK (fun _ => False) rStpW 3 53 W0.heap.size X3 (.slice a3 (i + 1) c3) ((e.take (i + 1)).map (fullS t j l))) := by
       show OwnK _ _ _ _ _ _ _ _
       rw [HNX.out]
       exact ho3
      clear hil hbw hc hrg hcs hok hnx hsx hx hxS hkk hnn hth hV2 hgQ hbV hsQ hbw2 hne h6 HB HO hXw ho e3 ho3 hk3 ev hlt
      go_wp2_with (first | ((with_reducible (show wpList _ _ _ (Oper.mk _ (.load _ _) _ _ _ none :: _) _ _)); first | (refine wpList_load_mid rfl 53 _ rfl b (o + i * 3) rfl _ _ HRC.out underlying53 rfl sz_stp2 ?_) | (refine wpList_load_mid rfl 53 _ rfl G 0 rfl _ _ HRX.out underlying53 rfl sz_stp2 ?_)) | ((with_reducible (show wpList _ _ _ (Oper.mk _ (.store _ _ _) _ _ _ none :: _) _ _)); refine wpList_store_mid rfl 53 _ _ rfl G 0 #[.int .u8 kk, .string xS, .int .i64 nn] rfl rfl HTH.out sz_stp2 HON1.out ?_; rw [show WA.setCells G 0 (#[.int .u8 kk, .string xS, .int .i64 nn] : Array Value).toList = V2 from HV2.out]) | (at_builtin; refine Lib.wpList_append_run _ rfl _ _ _ _ rfl (.slice a1 i c1) (.slice (some ⟨V2.heap.size, 0, none⟩) 1 1) rfl rfl _ _ HE3.out ?_))
      go_roundg g'
      case measure => omega
      case rel => exact ⟨i + 1, c3, a3, rfl, by go_num, by omega, by omega, HB3, HO3⟩
  · have z1 : ¬ (i : Int) < (M : Int) := by omega
    obtain rfl : i = M := by omega
    have HBE := hid (HBX.out wr HB.out).2
    have HQ : Hid (StpE w.heap.size wr (e.map (fullS t j l)) (.returned (.slice a1 i c1))) := by
     have h1 := HO.out
     rw [List.take_of_length_le (by rw [HMM.out]; exact Nat.le_refl _)] at h1
     have h2 := (ownF_list fStpW h1 (bytes := 32) (by rw [List.length_map, HMM.out]; omega)).less (C := w.heap.size) mStpW HZ.out
     have h3 : (e.map (fullS t j l)).length = i := by rw [List.length_map, HMM.out]
     exact ⟨a1, c1, by rw [h3], by rw [h3]; exact h2⟩
    clear HO HB
    go_wp2_with fail
    go_ret
    exact ⟨HQ.out, HBE.out⟩
end Go.Proofs.YtfifphfihdhlaaaGreatDoor.Bd

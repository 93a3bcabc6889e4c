/- What fresh.each makes of a list: val. -/
import Derived.Test.YtajomnfeicfdlaaGreatDoorVaVbGaGb
import Derived.Deep.MidRow
namespace Go.Proofs.YtajomnfeicfdlaaGreatDoor
open Go.Shelf Go.RowKit Go.Lib
set_option linter.unusedVariables false
set_option linter.unusedSimpArgs false
attribute [local go_sem ↓] Go.wp_at_zero Go.wp_at_succ
set_option maxRecDepth 100000 in
set_option maxHeartbeats 4000000 in
theorem each_val (hpart : FreshC rVal 99) : FreshL rVal 4 32 98 #[.func (.func 99) #[] #[]] := by
 intro K w v xs h hK
 show Calls Tryz.prog 98 #[v, .func (.func 99) #[] #[]] w _
 obtain ⟨p, c, rfl, hby, hp⟩ := h
 have HP : Hid (0 < xs.length → ∃ b o, p = some ⟨b, o, none⟩ ∧ K b ∧ ∀ (j : Nat) (h : j < xs.length), ∃ cs, cs.length = 4 ∧ (∀ (i : Nat) (u : Value), cs[i]? = some u → w.cell? ⟨b, o + j * 4 + i, none⟩ = some u) ∧ rVal K w cs xs[j]) := hp
 have HPT : Hid (FreshC rVal 99) := hpart
 have HKK : Hid (∀ b, K b → b < w.heap.size) := hK
 have HBY : Hid (xs.length * 32 ≤ 140737488355328) := hby
 have CG := hid (grow_val xs.length w hby)
 obtain ⟨j0, hj0, hj1, hj2, hj3⟩ := inE_val
 have hx63 : xs.length ≤ 140737488355328 := by omega
 clear hp hK hby hpart
 go_enter Tryz.func98, Tryz.ntmps98
 go_wp2_with fail
 refine CG.out.mono ?_
 rintro e w0 ⟨u0, rfl, ho0, hb0⟩
 have HJ : Hid (OwnR rVal 4 184 w.heap.size w0 u0 (xs.take 0)) := OwnR.none ho0
 have HB0 : Hid (Below w.heap.size w w0) := hb0
 clear ho0 hb0 CG
 go_wp2_with fail
 go_loopg [5, 13] xs.length (fun gf s3 s8 wx => ∃ (u : Value) (i : Nat), u = s3 ∧ s8 = .int .i64 i ∧ i ≤ xs.length ∧ xs.length ≤ i + gf ∧ Hid (OwnR rVal 4 184 w.heap.size wx u (xs.take i)) ∧ Hid (Below w.heap.size w wx))
 case atStart => exact ⟨_, 0, rfl, rfl, by omega, by omega, HJ, HB0⟩
 case round =>
  clear HJ HB0
  obtain ⟨u, i, rfl, rfl, hi1, hgf, HJ, HB⟩ := hrel
  by_cases hi : i < xs.length
  ·obtain ⟨g', rfl⟩ : ∃ g', gk = g' + 1 := ⟨gk - 1, by omega⟩
   obtain ⟨b, o, rfl, hKb, hc⟩ := HP.out (by omega)
   obtain ⟨cs, hcl, hcell, hrel1⟩ := hc i hi
   have htk : xs.take (i + 1) = xs.take i ++ [xs[i]] := List.take_succ_eq_append_getElem hi
   obtain ⟨y, hy⟩ : ∃ y, xs[i] = y := ⟨_, rfl⟩
   rw [hy] at hrel1 htk
   have hbw := HB.out
   have hrw : rVal K wr cs y := mVal _ _ _ _ _ _ (fun _ h => h) (kept_of HKK.out hbw) hrel1
   obtain ⟨rfl, q1, q2, q3⟩ := id hrw
   have hra : ∀ (j : Nat) (u : Value), ([.int .u8 y.k, .bool y.b, .int .i64 y.n, .string y.s] : List Value)[j]? = some u → wr.cell? ⟨b, o + i * 4 + j, none⟩ = some u := fun j u hu => by
    rw [hbw.cell (p := ⟨b, _, none⟩) (HKK.out _ hKb)]
    exact hcell j u hu
   obtain ⟨WA, hWA, hth, WS, hWS, hrs, hss, hbs, hrl⟩ := box_new wr 184 #[.int .u8 0, .bool false, .int .i64 0, .string ⟨#[]⟩] [.int .u8 y.k, .bool y.b, .int .i64 y.n, .string y.s] rfl
   have hKW : ∀ b, K b → b < WS.heap.size := fun b hb => by have := HKK.out b hb; have := hbw.size; have := hbs.size; omega
   have CC := HPT.out K WS _ y (mVal _ _ _ _ _ _ (fun _ h => h) (kept_of (fun b hb => Nat.lt_of_lt_of_le (HKK.out b hb) hbw.size) hbs) hrw) hKW
   have HCC : Hid (Calls Tryz.prog 99 #[.agg #[.int .u8 y.k, .bool y.b, .int .i64 y.n, .string y.s]] WS fun e w' => ∃ cs', e = .returned (asV cs') ∧ rVal (From WS.heap.size w') w' cs' y ∧ Below WS.heap.size WS w') := CC
   have HBS : Hid (Below wr.heap.size wr WS) := hbs
   have HTK : Hid (xs.take (i + 1) = xs.take i ++ [y]) := htk
   have z0 : (0 : Int) ≤ (i : Int) := by omega
   have z1' : (i : Int) < (xs.length : Int) := by omega
   have HRA : Hid (wr.rangeAt b (o + i * 4) [.int .u8 y.k, .bool y.b, .int .i64 y.n, .string y.s]) := hra
   have HTH : Hid (WA.there wr.heap.size 0 4) := hth
   have HWS : Hid (WA.setCells wr.heap.size 0 (#[.int .u8 y.k, .bool y.b, .int .i64 y.n, .string y.s] : Array Value).toList = WS) := hWS
   have HRS : Hid (WS.rangeAt wr.heap.size 0 [.int .u8 y.k, .bool y.b, .int .i64 y.n, .string y.s]) := hrs
   have HON : Hid ((#[.int .u8 y.k, .bool y.b, .int .i64 y.n, .string y.s] : Array Value).all (·.oneCell') = true) := by show _ = _; simp [Value.oneCell']
   have SZ : Hid ((Tryz.prog.info? 184).map (·.size) = some 4) := by show _ = _; rw [hj0]; simp [hj2]
   clear CC hra hth hWS hrs hrl hbs htk hc hcell hy hKb hcl hbw hrel1 hrw q1 q2 q3 hKW hss
   go_wp2_with (first | (refine wpList_load_mid rfl 184 _ rfl b (o + i * 4) rfl _ _ HRA.out Tryz.underlying184 rfl SZ.out ?_) | (refine wpList_store_mid rfl 184 _ _ rfl wr.heap.size 0 #[.int .u8 y.k, .bool y.b, .int .i64 y.n, .string y.s] rfl rfl HTH.out SZ.out HON.out ?_; rw [HWS.out]) | (refine wpList_load_mid rfl 184 _ rfl wr.heap.size 0 rfl _ _ HRS.out Tryz.underlying184 rfl SZ.out ?_))
   refine HCC.out.mono ?_
   rintro e w3 ⟨cs3, rfl, hr3, hb3⟩
   obtain ⟨rfl, q1, q2, q3⟩ := id hr3
   have hB3 : Below wr.heap.size wr w3 := HBS.out.trans (hb3.mono HBS.out.size)
   have hJX := HJ.out.keep mVal hB3
   have hlen : (xs.take i).length = i := by simp; omega
   have hmx : i + 1 ≤ maxLen := by have := HBY.out; unfold maxLen; omega
   have hb80 : (i + 1) * 32 ≤ 140737488355328 := by have := HBY.out; omega
   obtain ⟨v', X2, e2, hJ2, hb2, hs2⟩ := OwnR.push mVal Tryz.underlying154 hj0 hj1 hj2 hj3 rfl (by omega) hJX (Nat.le_trans HB.out.size hB3.size) (cs := [.int .u8 y.k, .bool y.b, .int .i64 y.n, .string y.s]) (x := y) (K2 := From WS.heap.size w3) rfl (fun c hc => by simp at hc; rcases hc with rfl | rfl | rfl | rfl <;> rfl)
    (fun b hb => ⟨by have := hb.1; have := HB.out.size; have := HBS.out.size; omega, hb.2, fun e => by obtain ⟨_, _, _, ho, _⟩ := HJ.out; have := (ho.lt _ e).2; have := hb.1; have := HBS.out.size; omega⟩) hr3 (by rw [hlen]; exact hb80) (by rw [hlen]; exact hmx)
   have HJ2 : Hid (OwnR rVal 4 184 w.heap.size X2 v' (xs.take (i + 1))) := by rw [HTK.out]; exact hJ2
   have HB2 : Hid (Below w.heap.size w X2) := hb2 _ _ (HB.out.trans (hB3.mono HB.out.size)) (Nat.le_refl _)
   clear hJ2 hb2 hs2 hJX hlen hmx hb80 hB3 hr3 hb3 q1 q2 q3 HJ HB
   unfold asV
   go_wp2_with (at_builtin; refine Lib.wpList_append_run _ rfl _ _ _ _ rfl u (.slice (some ⟨w3.heap.size, 0, none⟩) 1 1) rfl rfl _ _ e2 ?_)
   go_roundg g'
   case measure => omega
   case rel => exact ⟨_, i + 1, rfl, by go_num, by omega, by omega, HJ2, HB2⟩
  ·have z1 : ¬ (i : Int) < (xs.length : Int) := by omega
   have hJ := HJ.out
   rw [List.take_of_length_le (by omega)] at hJ
   obtain ⟨pf, cf, huf, hlf⟩ := hJ.list mVal HBY.out
   subst huf
   have HF : Hid (ListIs rVal 4 32 (From w.heap.size wr) wr (.slice pf xs.length cf) xs ∧ Below w.heap.size w wr) := ⟨hlf, HB.out⟩
   clear HJ hJ hlf HB
   go_wp2_with fail
   go_ret
   exact ⟨_, _, rfl, HF.out⟩
end Go.Proofs.YtajomnfeicfdlaaGreatDoor
/- What fresh.each makes of a list: stp. -/
namespace Go.Proofs.YtajomnfeicfdlaaGreatDoor
open Go.Shelf Go.RowKit Go.Lib
set_option linter.unusedVariables false
set_option linter.unusedSimpArgs false
attribute [local go_sem ↓] Go.wp_at_zero Go.wp_at_succ
set_option maxRecDepth 100000 in
set_option maxHeartbeats 4000000 in
theorem each_stp (hpart : FreshC rStp 68) : FreshL rStp 3 32 67 #[.func (.func 68) #[] #[]] := by
 intro K w v xs h hK
 show Calls Tryz.prog 67 #[v, .func (.func 68) #[] #[]] w _
 obtain ⟨p, c, rfl, hby, hp⟩ := h
 have HP : Hid (0 < xs.length → ∃ b o, p = some ⟨b, o, none⟩ ∧ K b ∧ ∀ (j : Nat) (h : j < xs.length), ∃ cs, cs.length = 3 ∧ (∀ (i : Nat) (u : Value), cs[i]? = some u → w.cell? ⟨b, o + j * 3 + i, none⟩ = some u) ∧ rStp K w cs xs[j]) := hp
 have HPT : Hid (FreshC rStp 68) := hpart
 have HKK : Hid (∀ b, K b → b < w.heap.size) := hK
 have HBY : Hid (xs.length * 32 ≤ 140737488355328) := hby
 have CG := hid (grow_stp xs.length w hby)
 obtain ⟨j0, hj0, hj1, hj2, hj3⟩ := inE_stp
 have hx63 : xs.length ≤ 140737488355328 := by omega
 clear hp hK hby hpart
 go_enter Tryz.func67, Tryz.ntmps67
 go_wp2_with fail
 refine CG.out.mono ?_
 rintro e w0 ⟨u0, rfl, ho0, hb0⟩
 have HJ : Hid (OwnR rStp 3 137 w.heap.size w0 u0 (xs.take 0)) := OwnR.none ho0
 have HB0 : Hid (Below w.heap.size w w0) := hb0
 clear ho0 hb0 CG
 go_wp2_with fail
 go_loopg [5, 13] xs.length (fun gf s3 s8 wx => ∃ (u : Value) (i : Nat), u = s3 ∧ s8 = .int .i64 i ∧ i ≤ xs.length ∧ xs.length ≤ i + gf ∧ Hid (OwnR rStp 3 137 w.heap.size wx u (xs.take i)) ∧ Hid (Below w.heap.size w wx))
 case atStart => exact ⟨_, 0, rfl, rfl, by omega, by omega, HJ, HB0⟩
 case round =>
  clear HJ HB0
  obtain ⟨u, i, rfl, rfl, hi1, hgf, HJ, HB⟩ := hrel
  by_cases hi : i < xs.length
  ·obtain ⟨g', rfl⟩ : ∃ g', gk = g' + 1 := ⟨gk - 1, by omega⟩
   obtain ⟨b, o, rfl, hKb, hc⟩ := HP.out (by omega)
   obtain ⟨cs, hcl, hcell, hrel1⟩ := hc i hi
   have htk : xs.take (i + 1) = xs.take i ++ [xs[i]] := List.take_succ_eq_append_getElem hi
   obtain ⟨y, hy⟩ : ∃ y, xs[i] = y := ⟨_, rfl⟩
   rw [hy] at hrel1 htk
   have hbw := HB.out
   have hrw : rStp K wr cs y := mStp _ _ _ _ _ _ (fun _ h => h) (kept_of HKK.out hbw) hrel1
   obtain ⟨rfl, q1, q2, q3⟩ := id hrw
   have hra : ∀ (j : Nat) (u : Value), ([.int .u8 (y.k : Int), .string y.t, .int .i64 y.n] : List Value)[j]? = some u → wr.cell? ⟨b, o + i * 3 + j, none⟩ = some u := fun j u hu => by
    rw [hbw.cell (p := ⟨b, _, none⟩) (HKK.out _ hKb)]
    exact hcell j u hu
   obtain ⟨WA, hWA, hth, WS, hWS, hrs, hss, hbs, hrl⟩ := box_new wr 137 #[.int .u8 0, .string ⟨#[]⟩, .int .i64 0] [.int .u8 (y.k : Int), .string y.t, .int .i64 y.n] rfl
   have hKW : ∀ b, K b → b < WS.heap.size := fun b hb => by have := HKK.out b hb; have := hbw.size; have := hbs.size; omega
   have CC := HPT.out K WS _ y (mStp _ _ _ _ _ _ (fun _ h => h) (kept_of (fun b hb => Nat.lt_of_lt_of_le (HKK.out b hb) hbw.size) hbs) hrw) hKW
   have HCC : Hid (Calls Tryz.prog 68 #[.agg #[.int .u8 (y.k : Int), .string y.t, .int .i64 y.n]] WS fun e w' => ∃ cs', e = .returned (asV cs') ∧ rStp (From WS.heap.size w') w' cs' y ∧ Below WS.heap.size WS w') := CC
   have HBS : Hid (Below wr.heap.size wr WS) := hbs
   have HTK : Hid (xs.take (i + 1) = xs.take i ++ [y]) := htk
   have z0 : (0 : Int) ≤ (i : Int) := by omega
   have z1' : (i : Int) < (xs.length : Int) := by omega
   have HRA : Hid (wr.rangeAt b (o + i * 3) [.int .u8 (y.k : Int), .string y.t, .int .i64 y.n]) := hra
   have HTH : Hid (WA.there wr.heap.size 0 3) := hth
   have HWS : Hid (WA.setCells wr.heap.size 0 (#[.int .u8 (y.k : Int), .string y.t, .int .i64 y.n] : Array Value).toList = WS) := hWS
   have HRS : Hid (WS.rangeAt wr.heap.size 0 [.int .u8 (y.k : Int), .string y.t, .int .i64 y.n]) := hrs
   have HON : Hid ((#[.int .u8 (y.k : Int), .string y.t, .int .i64 y.n] : Array Value).all (·.oneCell') = true) := by show _ = _; simp [Value.oneCell']
   have SZ : Hid ((Tryz.prog.info? 137).map (·.size) = some 3) := by show _ = _; rw [hj0]; simp [hj2]
   clear CC hra hth hWS hrs hrl hbs htk hc hcell hy hKb hcl hbw hrel1 hrw q1 q2 q3 hKW hss
   go_wp2_with (first | (refine wpList_load_mid rfl 137 _ rfl b (o + i * 3) rfl _ _ HRA.out Tryz.underlying137 rfl SZ.out ?_) | (refine wpList_store_mid rfl 137 _ _ rfl wr.heap.size 0 #[.int .u8 (y.k : Int), .string y.t, .int .i64 y.n] rfl rfl HTH.out SZ.out HON.out ?_; rw [HWS.out]) | (refine wpList_load_mid rfl 137 _ rfl wr.heap.size 0 rfl _ _ HRS.out Tryz.underlying137 rfl SZ.out ?_))
   refine HCC.out.mono ?_
   rintro e w3 ⟨cs3, rfl, hr3, hb3⟩
   obtain ⟨rfl, q1, q2, q3⟩ := id hr3
   have hB3 : Below wr.heap.size wr w3 := HBS.out.trans (hb3.mono HBS.out.size)
   have hJX := HJ.out.keep mStp hB3
   have hlen : (xs.take i).length = i := by simp; omega
   have hmx : i + 1 ≤ maxLen := by have := HBY.out; unfold maxLen; omega
   have hb80 : (i + 1) * 32 ≤ 140737488355328 := by have := HBY.out; omega
   obtain ⟨v', X2, e2, hJ2, hb2, hs2⟩ := OwnR.push mStp Tryz.underlying48 hj0 hj1 hj2 hj3 rfl (by omega) hJX (Nat.le_trans HB.out.size hB3.size) (cs := [.int .u8 (y.k : Int), .string y.t, .int .i64 y.n]) (x := y) (K2 := From WS.heap.size w3) rfl (fun c hc => by simp at hc; rcases hc with rfl | rfl | rfl <;> rfl)
    (fun b hb => ⟨by have := hb.1; have := HB.out.size; have := HBS.out.size; omega, hb.2, fun e => by obtain ⟨_, _, _, ho, _⟩ := HJ.out; have := (ho.lt _ e).2; have := hb.1; have := HBS.out.size; omega⟩) hr3 (by rw [hlen]; exact hb80) (by rw [hlen]; exact hmx)
   have HJ2 : Hid (OwnR rStp 3 137 w.heap.size X2 v' (xs.take (i + 1))) := by rw [HTK.out]; exact hJ2
   have HB2 : Hid (Below w.heap.size w X2) := hb2 _ _ (HB.out.trans (hB3.mono HB.out.size)) (Nat.le_refl _)
   clear hJ2 hb2 hs2 hJX hlen hmx hb80 hB3 hr3 hb3 q1 q2 q3 HJ HB
   unfold asV
   go_wp2_with (at_builtin; refine Lib.wpList_append_run _ rfl _ _ _ _ rfl u (.slice (some ⟨w3.heap.size, 0, none⟩) 1 1) rfl rfl _ _ e2 ?_)
   go_roundg g'
   case measure => omega
   case rel => exact ⟨_, i + 1, rfl, by go_num, by omega, by omega, HJ2, HB2⟩
  ·have z1 : ¬ (i : Int) < (xs.length : Int) := by omega
   have hJ := HJ.out
   rw [List.take_of_length_le (by omega)] at hJ
   obtain ⟨pf, cf, huf, hlf⟩ := hJ.list mStp HBY.out
   subst huf
   have HF : Hid (ListIs rStp 3 32 (From w.heap.size wr) wr (.slice pf xs.length cf) xs ∧ Below w.heap.size w wr) := ⟨hlf, HB.out⟩
   clear HJ hJ hlf HB
   go_wp2_with fail
   go_ret
   exact ⟨_, _, rfl, HF.out⟩
end Go.Proofs.YtajomnfeicfdlaaGreatDoor
/- What fresh.each makes of a list: itm. -/
namespace Go.Proofs.YtajomnfeicfdlaaGreatDoor
open Go.Shelf Go.RowKit Go.Lib
set_option linter.unusedVariables false
set_option linter.unusedSimpArgs false
attribute [local go_sem ↓] Go.wp_at_zero Go.wp_at_succ
set_option maxRecDepth 100000 in
set_option maxHeartbeats 4000000 in
theorem each_itm (hpart : FreshC rItm 70) : FreshL rItm 2 32 69 #[.func (.func 70) #[] #[]] := by
 intro K w v xs h hK
 show Calls Tryz.prog 69 #[v, .func (.func 70) #[] #[]] w _
 obtain ⟨p, c, rfl, hby, hp⟩ := h
 have HP : Hid (0 < xs.length → ∃ b o, p = some ⟨b, o, none⟩ ∧ K b ∧ ∀ (j : Nat) (h : j < xs.length), ∃ cs, cs.length = 2 ∧ (∀ (i : Nat) (u : Value), cs[i]? = some u → w.cell? ⟨b, o + j * 2 + i, none⟩ = some u) ∧ rItm K w cs xs[j]) := hp
 have HPT : Hid (FreshC rItm 70) := hpart
 have HKK : Hid (∀ b, K b → b < w.heap.size) := hK
 have HBY : Hid (xs.length * 32 ≤ 140737488355328) := hby
 have CG := hid (grow_itm xs.length w hby)
 obtain ⟨j0, hj0, hj1, hj2, hj3⟩ := inE_itm
 have hx63 : xs.length ≤ 140737488355328 := by omega
 clear hp hK hby hpart
 go_enter Tryz.func69, Tryz.ntmps69
 go_wp2_with fail
 refine CG.out.mono ?_
 rintro e w0 ⟨u0, rfl, ho0, hb0⟩
 have HJ : Hid (OwnR rItm 2 142 w.heap.size w0 u0 (xs.take 0)) := OwnR.none ho0
 have HB0 : Hid (Below w.heap.size w w0) := hb0
 clear ho0 hb0 CG
 go_wp2_with fail
 go_loopg [5, 13] xs.length (fun gf s3 s8 wx => ∃ (u : Value) (i : Nat), u = s3 ∧ s8 = .int .i64 i ∧ i ≤ xs.length ∧ xs.length ≤ i + gf ∧ Hid (OwnR rItm 2 142 w.heap.size wx u (xs.take i)) ∧ Hid (Below w.heap.size w wx))
 case atStart => exact ⟨_, 0, rfl, rfl, by omega, by omega, HJ, HB0⟩
 case round =>
  clear HJ HB0
  obtain ⟨u, i, rfl, rfl, hi1, hgf, HJ, HB⟩ := hrel
  by_cases hi : i < xs.length
  ·obtain ⟨g', rfl⟩ : ∃ g', gk = g' + 1 := ⟨gk - 1, by omega⟩
   obtain ⟨b, o, rfl, hKb, hc⟩ := HP.out (by omega)
   obtain ⟨cs, hcl, hcell, hrel1⟩ := hc i hi
   have htk : xs.take (i + 1) = xs.take i ++ [xs[i]] := List.take_succ_eq_append_getElem hi
   obtain ⟨y, hy⟩ : ∃ y, xs[i] = y := ⟨_, rfl⟩
   rw [hy] at hrel1 htk
   have hbw := HB.out
   have hrw : rItm K wr cs y := mItm _ _ _ _ _ _ (fun _ h => h) (kept_of HKK.out hbw) hrel1
   obtain ⟨v1, rfl, q1, n1⟩ := id hrw
   obtain ⟨za1, ya1, rfl, _, _⟩ := n1
   have hra : ∀ (j : Nat) (u : Value), ([.int .u8 (y.g : Int), .slice za1 y.e.length ya1] : List Value)[j]? = some u → wr.cell? ⟨b, o + i * 2 + j, none⟩ = some u := fun j u hu => by
    rw [hbw.cell (p := ⟨b, _, none⟩) (HKK.out _ hKb)]
    exact hcell j u hu
   obtain ⟨WA, hWA, hth, WS, hWS, hrs, hss, hbs, hrl⟩ := box_new wr 142 #[.int .u8 0, .slice none 0 0] [.int .u8 (y.g : Int), .slice za1 y.e.length ya1] rfl
   have hKW : ∀ b, K b → b < WS.heap.size := fun b hb => by have := HKK.out b hb; have := hbw.size; have := hbs.size; omega
   have CC := HPT.out K WS _ y (mItm _ _ _ _ _ _ (fun _ h => h) (kept_of (fun b hb => Nat.lt_of_lt_of_le (HKK.out b hb) hbw.size) hbs) hrw) hKW
   have HCC : Hid (Calls Tryz.prog 70 #[.agg #[.int .u8 (y.g : Int), .slice za1 y.e.length ya1]] WS fun e w' => ∃ cs', e = .returned (asV cs') ∧ rItm (From WS.heap.size w') w' cs' y ∧ Below WS.heap.size WS w') := CC
   have HBS : Hid (Below wr.heap.size wr WS) := hbs
   have HTK : Hid (xs.take (i + 1) = xs.take i ++ [y]) := htk
   have z0 : (0 : Int) ≤ (i : Int) := by omega
   have z1' : (i : Int) < (xs.length : Int) := by omega
   have HRA : Hid (wr.rangeAt b (o + i * 2) [.int .u8 (y.g : Int), .slice za1 y.e.length ya1]) := hra
   have HTH : Hid (WA.there wr.heap.size 0 2) := hth
   have HWS : Hid (WA.setCells wr.heap.size 0 (#[.int .u8 (y.g : Int), .slice za1 y.e.length ya1] : Array Value).toList = WS) := hWS
   have HRS : Hid (WS.rangeAt wr.heap.size 0 [.int .u8 (y.g : Int), .slice za1 y.e.length ya1]) := hrs
   have HON : Hid ((#[.int .u8 (y.g : Int), .slice za1 y.e.length ya1] : Array Value).all (·.oneCell') = true) := by show _ = _; simp [Value.oneCell']
   have SZ : Hid ((Tryz.prog.info? 142).map (·.size) = some 2) := by show _ = _; rw [hj0]; simp [hj2]
   clear CC hra hth hWS hrs hrl hbs htk hc hcell hy hKb hcl hbw hrel1 hrw q1 hKW hss
   go_wp2_with (first | (refine wpList_load_mid rfl 142 _ rfl b (o + i * 2) rfl _ _ HRA.out Tryz.underlying142 rfl SZ.out ?_) | (refine wpList_store_mid rfl 142 _ _ rfl wr.heap.size 0 #[.int .u8 (y.g : Int), .slice za1 y.e.length ya1] rfl rfl HTH.out SZ.out HON.out ?_; rw [HWS.out]) | (refine wpList_load_mid rfl 142 _ rfl wr.heap.size 0 rfl _ _ HRS.out Tryz.underlying142 rfl SZ.out ?_))
   refine HCC.out.mono ?_
   rintro e w3 ⟨cs3, rfl, hr3, hb3⟩
   obtain ⟨u1, rfl, q1, n1⟩ := id hr3
   obtain ⟨zb1, yb1, rfl, _, _⟩ := n1
   have hB3 : Below wr.heap.size wr w3 := HBS.out.trans (hb3.mono HBS.out.size)
   have hJX := HJ.out.keep mItm hB3
   have hlen : (xs.take i).length = i := by simp; omega
   have hmx : i + 1 ≤ maxLen := by have := HBY.out; unfold maxLen; omega
   have hb80 : (i + 1) * 32 ≤ 140737488355328 := by have := HBY.out; omega
   obtain ⟨v', X2, e2, hJ2, hb2, hs2⟩ := OwnR.push mItm Tryz.underlying50 hj0 hj1 hj2 hj3 rfl (by omega) hJX (Nat.le_trans HB.out.size hB3.size) (cs := [.int .u8 (y.g : Int), .slice zb1 y.e.length yb1]) (x := y) (K2 := From WS.heap.size w3) rfl (fun c hc => by simp at hc; rcases hc with rfl | rfl <;> rfl)
    (fun b hb => ⟨by have := hb.1; have := HB.out.size; have := HBS.out.size; omega, hb.2, fun e => by obtain ⟨_, _, _, ho, _⟩ := HJ.out; have := (ho.lt _ e).2; have := hb.1; have := HBS.out.size; omega⟩) hr3 (by rw [hlen]; exact hb80) (by rw [hlen]; exact hmx)
   have HJ2 : Hid (OwnR rItm 2 142 w.heap.size X2 v' (xs.take (i + 1))) := by rw [HTK.out]; exact hJ2
   have HB2 : Hid (Below w.heap.size w X2) := hb2 _ _ (HB.out.trans (hB3.mono HB.out.size)) (Nat.le_refl _)
   clear hJ2 hb2 hs2 hJX hlen hmx hb80 hB3 hr3 hb3 q1 HJ HB
   unfold asV
   go_wp2_with (at_builtin; refine Lib.wpList_append_run _ rfl _ _ _ _ rfl u (.slice (some ⟨w3.heap.size, 0, none⟩) 1 1) rfl rfl _ _ e2 ?_)
   go_roundg g'
   case measure => omega
   case rel => exact ⟨_, i + 1, rfl, by go_num, by omega, by omega, HJ2, HB2⟩
  ·have z1 : ¬ (i : Int) < (xs.length : Int) := by omega
   have hJ := HJ.out
   rw [List.take_of_length_le (by omega)] at hJ
   obtain ⟨pf, cf, huf, hlf⟩ := hJ.list mItm HBY.out
   subst huf
   have HF : Hid (ListIs rItm 2 32 (From w.heap.size wr) wr (.slice pf xs.length cf) xs ∧ Below w.heap.size w wr) := ⟨hlf, HB.out⟩
   clear HJ hJ hlf HB
   go_wp2_with fail
   go_ret
   exact ⟨_, _, rfl, HF.out⟩
end Go.Proofs.YtajomnfeicfdlaaGreatDoor
/- What fresh.each makes of a list: txt. -/
namespace Go.Proofs.YtajomnfeicfdlaaGreatDoor
open Go.Shelf Go.RowKit Go.Lib
set_option linter.unusedVariables false
set_option linter.unusedSimpArgs false
attribute [local go_sem ↓] Go.wp_at_zero Go.wp_at_succ
set_option maxRecDepth 100000 in
set_option maxHeartbeats 4000000 in
theorem each_txt (hpart : FreshC rTxt 66) : FreshL rTxt 1 16 71 #[.func (.func 66) #[] #[]] := by
 intro K w v xs h hK
 show Calls Tryz.prog 71 #[v, .func (.func 66) #[] #[]] w _
 obtain ⟨p, c, rfl, hby, hp⟩ := h
 have HP : Hid (0 < xs.length → ∃ b o, p = some ⟨b, o, none⟩ ∧ K b ∧ ∀ (j : Nat) (h : j < xs.length), ∃ cs, cs.length = 1 ∧ (∀ (i : Nat) (u : Value), cs[i]? = some u → w.cell? ⟨b, o + j * 1 + i, none⟩ = some u) ∧ rTxt K w cs xs[j]) := hp
 have HPT : Hid (FreshC rTxt 66) := hpart
 have HKK : Hid (∀ b, K b → b < w.heap.size) := hK
 have HBY : Hid (xs.length * 16 ≤ 140737488355328) := hby
 have CG := hid (grow_txt xs.length w hby)
 obtain ⟨j0, hj0, hj1, hj2, hj3⟩ := inE_txt
 have hx63 : xs.length ≤ 140737488355328 := by omega
 clear hp hK hby hpart
 go_enter Tryz.func71, Tryz.ntmps71
 go_wp2_with fail
 refine CG.out.mono ?_
 rintro e w0 ⟨u0, rfl, ho0, hb0⟩
 have HJ : Hid (OwnR rTxt 1 9 w.heap.size w0 u0 (xs.take 0)) := OwnR.none ho0
 have HB0 : Hid (Below w.heap.size w w0) := hb0
 clear ho0 hb0 CG
 go_wp2_with fail
 go_loopg [5, 13] xs.length (fun gf s3 s8 wx => ∃ (u : Value) (i : Nat), u = s3 ∧ s8 = .int .i64 i ∧ i ≤ xs.length ∧ xs.length ≤ i + gf ∧ Hid (OwnR rTxt 1 9 w.heap.size wx u (xs.take i)) ∧ Hid (Below w.heap.size w wx))
 case atStart => exact ⟨_, 0, rfl, rfl, by omega, by omega, HJ, HB0⟩
 case round =>
  clear HJ HB0
  obtain ⟨u, i, rfl, rfl, hi1, hgf, HJ, HB⟩ := hrel
  by_cases hi : i < xs.length
  ·obtain ⟨g', rfl⟩ : ∃ g', gk = g' + 1 := ⟨gk - 1, by omega⟩
   obtain ⟨b, o, rfl, hKb, hc⟩ := HP.out (by omega)
   obtain ⟨cs, hcl, hcell, hrel1⟩ := hc i hi
   have htk : xs.take (i + 1) = xs.take i ++ [xs[i]] := List.take_succ_eq_append_getElem hi
   obtain ⟨y, hy⟩ : ∃ y, xs[i] = y := ⟨_, rfl⟩
   rw [hy] at hrel1 htk
   have hbw := HB.out
   have hrw : rTxt K wr cs y := mTxt _ _ _ _ _ _ (fun _ h => h) (kept_of HKK.out hbw) hrel1
   obtain ⟨rfl, q1⟩ := id hrw
   have hra : ∀ (j : Nat) (u : Value), ([.string y] : List Value)[j]? = some u → wr.cell? ⟨b, o + i * 1 + j, none⟩ = some u := fun j u hu => by
    rw [hbw.cell (p := ⟨b, _, none⟩) (HKK.out _ hKb)]
    exact hcell j u hu
   have c0 : wr.cell? ⟨b, o + i, none⟩ = some (.string y) := by
    have := hra 0 _ rfl
    simpa using this
   obtain ⟨WS, hWSe⟩ : ∃ WS, wr = WS := ⟨_, rfl⟩
   have hbs : Below wr.heap.size wr WS := by rw [← hWSe]; exact Below.refl _ _
   have hKW : ∀ b, K b → b < WS.heap.size := fun b hb => by have := HKK.out b hb; have := hbw.size; have := hbs.size; omega
   have CC := HPT.out K WS _ y (mTxt _ _ _ _ _ _ (fun _ h => h) (kept_of (fun b hb => Nat.lt_of_lt_of_le (HKK.out b hb) hbw.size) hbs) hrw) hKW
   have HCC : Hid (Calls Tryz.prog 66 #[.string y] WS fun e w' => ∃ cs', e = .returned (asV cs') ∧ rTxt (From WS.heap.size w') w' cs' y ∧ Below WS.heap.size WS w') := CC
   have HBS : Hid (Below wr.heap.size wr WS) := hbs
   have HTK : Hid (xs.take (i + 1) = xs.take i ++ [y]) := htk
   have z0 : (0 : Int) ≤ (i : Int) := by omega
   have z1' : (i : Int) < (xs.length : Int) := by omega
   subst hWSe
   clear CC hra hbs htk hc hcell hy hKb hcl hbw hrel1 hrw q1 hKW
   go_wp2_with fail
   refine HCC.out.mono ?_
   rintro e w3 ⟨cs3, rfl, hr3, hb3⟩
   obtain ⟨rfl, q1⟩ := id hr3
   have hB3 : Below wr.heap.size wr w3 := HBS.out.trans (hb3.mono HBS.out.size)
   have hJX := HJ.out.keep mTxt hB3
   have hlen : (xs.take i).length = i := by simp; omega
   have hmx : i + 1 ≤ maxLen := by have := HBY.out; unfold maxLen; omega
   have hb80 : (i + 1) * 16 ≤ 140737488355328 := by have := HBY.out; omega
   obtain ⟨v', X2, e2, hJ2, hb2, hs2⟩ := OwnR.push mTxt Tryz.underlying51 hj0 hj1 hj2 hj3 rfl (by omega) hJX (Nat.le_trans HB.out.size hB3.size) (cs := [.string y]) (x := y) (K2 := From wr.heap.size w3) rfl (fun c hc => by simp at hc; subst hc; rfl)
    (fun b hb => ⟨by have := hb.1; have := HB.out.size; have := HBS.out.size; omega, hb.2, fun e => by obtain ⟨_, _, _, ho, _⟩ := HJ.out; have := (ho.lt _ e).2; have := hb.1; have := HBS.out.size; omega⟩) hr3 (by rw [hlen]; exact hb80) (by rw [hlen]; exact hmx)
   have HJ2 : Hid (OwnR rTxt 1 9 w.heap.size X2 v' (xs.take (i + 1))) := by rw [HTK.out]; exact hJ2
   have HB2 : Hid (Below w.heap.size w X2) := hb2 _ _ (HB.out.trans (hB3.mono HB.out.size)) (Nat.le_refl _)
   clear hJ2 hb2 hs2 hJX hlen hmx hb80 hB3 hr3 hb3 q1 HJ HB
   unfold asV
   go_wp2_with (at_builtin; refine Lib.wpList_append_run _ rfl _ _ _ _ rfl u (.slice (some ⟨w3.heap.size, 0, none⟩) 1 1) rfl rfl _ _ e2 ?_)
   go_roundg g'
   case measure => omega
   case rel => exact ⟨_, i + 1, rfl, by go_num, by omega, by omega, HJ2, HB2⟩
  ·have z1 : ¬ (i : Int) < (xs.length : Int) := by omega
   have hJ := HJ.out
   rw [List.take_of_length_le (by omega)] at hJ
   obtain ⟨pf, cf, huf, hlf⟩ := hJ.list mTxt HBY.out
   subst huf
   have HF : Hid (ListIs rTxt 1 16 (From w.heap.size wr) wr (.slice pf xs.length cf) xs ∧ Below w.heap.size w wr) := ⟨hlf, HB.out⟩
   clear HJ hJ hlf HB
   go_wp2_with fail
   go_ret
   exact ⟨_, _, rfl, HF.out⟩
end Go.Proofs.YtajomnfeicfdlaaGreatDoor
/- What fresh.each makes of a list: cl. -/
namespace Go.Proofs.YtajomnfeicfdlaaGreatDoor
open Go.Shelf Go.RowKit Go.Lib
set_option linter.unusedVariables false
set_option linter.unusedSimpArgs false
attribute [local go_sem ↓] Go.wp_at_zero Go.wp_at_succ
set_option maxRecDepth 100000 in
set_option maxHeartbeats 4000000 in
theorem each_cl (hpart : FreshC rCl 75) : FreshL rCl 2 24 74 #[.func (.func 75) #[] #[]] := by
 intro K w v xs h hK
 show Calls Tryz.prog 74 #[v, .func (.func 75) #[] #[]] w _
 obtain ⟨p, c, rfl, hby, hp⟩ := h
 have HP : Hid (0 < xs.length → ∃ b o, p = some ⟨b, o, none⟩ ∧ K b ∧ ∀ (j : Nat) (h : j < xs.length), ∃ cs, cs.length = 2 ∧ (∀ (i : Nat) (u : Value), cs[i]? = some u → w.cell? ⟨b, o + j * 2 + i, none⟩ = some u) ∧ rCl K w cs xs[j]) := hp
 have HPT : Hid (FreshC rCl 75) := hpart
 have HKK : Hid (∀ b, K b → b < w.heap.size) := hK
 have HBY : Hid (xs.length * 24 ≤ 140737488355328) := hby
 have CG := hid (grow_cl xs.length w hby)
 obtain ⟨j0, hj0, hj1, hj2, hj3⟩ := inE_cl
 have hx63 : xs.length ≤ 140737488355328 := by omega
 clear hp hK hby hpart
 go_enter Tryz.func74, Tryz.ntmps74
 go_wp2_with fail
 refine CG.out.mono ?_
 rintro e w0 ⟨u0, rfl, ho0, hb0⟩
 have HJ : Hid (OwnR rCl 2 150 w.heap.size w0 u0 (xs.take 0)) := OwnR.none ho0
 have HB0 : Hid (Below w.heap.size w w0) := hb0
 clear ho0 hb0 CG
 go_wp2_with fail
 go_loopg [5, 13] xs.length (fun gf s3 s8 wx => ∃ (u : Value) (i : Nat), u = s3 ∧ s8 = .int .i64 i ∧ i ≤ xs.length ∧ xs.length ≤ i + gf ∧ Hid (OwnR rCl 2 150 w.heap.size wx u (xs.take i)) ∧ Hid (Below w.heap.size w wx))
 case atStart => exact ⟨_, 0, rfl, rfl, by omega, by omega, HJ, HB0⟩
 case round =>
  clear HJ HB0
  obtain ⟨u, i, rfl, rfl, hi1, hgf, HJ, HB⟩ := hrel
  by_cases hi : i < xs.length
  ·obtain ⟨g', rfl⟩ : ∃ g', gk = g' + 1 := ⟨gk - 1, by omega⟩
   obtain ⟨b, o, rfl, hKb, hc⟩ := HP.out (by omega)
   obtain ⟨cs, hcl, hcell, hrel1⟩ := hc i hi
   have htk : xs.take (i + 1) = xs.take i ++ [xs[i]] := List.take_succ_eq_append_getElem hi
   obtain ⟨y, hy⟩ : ∃ y, xs[i] = y := ⟨_, rfl⟩
   rw [hy] at hrel1 htk
   have hbw := HB.out
   have hrw : rCl K wr cs y := mCl _ _ _ _ _ _ (fun _ h => h) (kept_of HKK.out hbw) hrel1
   obtain ⟨rfl, q1, q2⟩ := id hrw
   have hra : ∀ (j : Nat) (u : Value), ([.string y.n, .int .u8 (y.k : Int)] : List Value)[j]? = some u → wr.cell? ⟨b, o + i * 2 + j, none⟩ = some u := fun j u hu => by
    rw [hbw.cell (p := ⟨b, _, none⟩) (HKK.out _ hKb)]
    exact hcell j u hu
   obtain ⟨WA, hWA, hth, WS, hWS, hrs, hss, hbs, hrl⟩ := box_new wr 150 #[.string ⟨#[]⟩, .int .u8 0] [.string y.n, .int .u8 (y.k : Int)] rfl
   have hKW : ∀ b, K b → b < WS.heap.size := fun b hb => by have := HKK.out b hb; have := hbw.size; have := hbs.size; omega
   have CC := HPT.out K WS _ y (mCl _ _ _ _ _ _ (fun _ h => h) (kept_of (fun b hb => Nat.lt_of_lt_of_le (HKK.out b hb) hbw.size) hbs) hrw) hKW
   have HCC : Hid (Calls Tryz.prog 75 #[.agg #[.string y.n, .int .u8 (y.k : Int)]] WS fun e w' => ∃ cs', e = .returned (asV cs') ∧ rCl (From WS.heap.size w') w' cs' y ∧ Below WS.heap.size WS w') := CC
   have HBS : Hid (Below wr.heap.size wr WS) := hbs
   have HTK : Hid (xs.take (i + 1) = xs.take i ++ [y]) := htk
   have z0 : (0 : Int) ≤ (i : Int) := by omega
   have z1' : (i : Int) < (xs.length : Int) := by omega
   have HRA : Hid (wr.rangeAt b (o + i * 2) [.string y.n, .int .u8 (y.k : Int)]) := hra
   have HTH : Hid (WA.there wr.heap.size 0 2) := hth
   have HWS : Hid (WA.setCells wr.heap.size 0 (#[.string y.n, .int .u8 (y.k : Int)] : Array Value).toList = WS) := hWS
   have HRS : Hid (WS.rangeAt wr.heap.size 0 [.string y.n, .int .u8 (y.k : Int)]) := hrs
   have HON : Hid ((#[.string y.n, .int .u8 (y.k : Int)] : Array Value).all (·.oneCell') = true) := by show _ = _; simp [Value.oneCell']
   have SZ : Hid ((Tryz.prog.info? 150).map (·.size) = some 2) := by show _ = _; rw [hj0]; simp [hj2]
   clear CC hra hth hWS hrs hrl hbs htk hc hcell hy hKb hcl hbw hrel1 hrw q1 q2 hKW hss
   go_wp2_with (first | (refine wpList_load_mid rfl 150 _ rfl b (o + i * 2) rfl _ _ HRA.out Tryz.underlying150 rfl SZ.out ?_) | (refine wpList_store_mid rfl 150 _ _ rfl wr.heap.size 0 #[.string y.n, .int .u8 (y.k : Int)] rfl rfl HTH.out SZ.out HON.out ?_; rw [HWS.out]) | (refine wpList_load_mid rfl 150 _ rfl wr.heap.size 0 rfl _ _ HRS.out Tryz.underlying150 rfl SZ.out ?_))
   refine HCC.out.mono ?_
   rintro e w3 ⟨cs3, rfl, hr3, hb3⟩
   obtain ⟨rfl, q1, q2⟩ := id hr3
   have hB3 : Below wr.heap.size wr w3 := HBS.out.trans (hb3.mono HBS.out.size)
   have hJX := HJ.out.keep mCl hB3
   have hlen : (xs.take i).length = i := by simp; omega
   have hmx : i + 1 ≤ maxLen := by have := HBY.out; unfold maxLen; omega
   have hb80 : (i + 1) * 24 ≤ 140737488355328 := by have := HBY.out; omega
   obtain ⟨v', X2, e2, hJ2, hb2, hs2⟩ := OwnR.push mCl Tryz.underlying41 hj0 hj1 hj2 hj3 rfl (by omega) hJX (Nat.le_trans HB.out.size hB3.size) (cs := [.string y.n, .int .u8 (y.k : Int)]) (x := y) (K2 := From WS.heap.size w3) rfl (fun c hc => by simp at hc; rcases hc with rfl | rfl <;> rfl)
    (fun b hb => ⟨by have := hb.1; have := HB.out.size; have := HBS.out.size; omega, hb.2, fun e => by obtain ⟨_, _, _, ho, _⟩ := HJ.out; have := (ho.lt _ e).2; have := hb.1; have := HBS.out.size; omega⟩) hr3 (by rw [hlen]; exact hb80) (by rw [hlen]; exact hmx)
   have HJ2 : Hid (OwnR rCl 2 150 w.heap.size X2 v' (xs.take (i + 1))) := by rw [HTK.out]; exact hJ2
   have HB2 : Hid (Below w.heap.size w X2) := hb2 _ _ (HB.out.trans (hB3.mono HB.out.size)) (Nat.le_refl _)
   clear hJ2 hb2 hs2 hJX hlen hmx hb80 hB3 hr3 hb3 q1 q2 HJ HB
   unfold asV
   go_wp2_with (at_builtin; refine Lib.wpList_append_run _ rfl _ _ _ _ rfl u (.slice (some ⟨w3.heap.size, 0, none⟩) 1 1) rfl rfl _ _ e2 ?_)
   go_roundg g'
   case measure => omega
   case rel => exact ⟨_, i + 1, rfl, by go_num, by omega, by omega, HJ2, HB2⟩
  ·have z1 : ¬ (i : Int) < (xs.length : Int) := by omega
   have hJ := HJ.out
   rw [List.take_of_length_le (by omega)] at hJ
   obtain ⟨pf, cf, huf, hlf⟩ := hJ.list mCl HBY.out
   subst huf
   have HF : Hid (ListIs rCl 2 24 (From w.heap.size wr) wr (.slice pf xs.length cf) xs ∧ Below w.heap.size w wr) := ⟨hlf, HB.out⟩
   clear HJ hJ hlf HB
   go_wp2_with fail
   go_ret
   exact ⟨_, _, rfl, HF.out⟩
end Go.Proofs.YtajomnfeicfdlaaGreatDoor
/- What fresh.each makes of a list: row. -/
namespace Go.Proofs.YtajomnfeicfdlaaGreatDoor
open Go.Shelf Go.RowKit Go.Lib
set_option linter.unusedVariables false
set_option linter.unusedSimpArgs false
attribute [local go_sem ↓] Go.wp_at_zero Go.wp_at_succ
set_option maxRecDepth 100000 in
set_option maxHeartbeats 4000000 in
theorem each_row (hpart : FreshC rRow 78) : FreshL rRow 1 24 77 #[.func (.func 78) #[] #[]] := by
 intro K w v xs h hK
 show Calls Tryz.prog 77 #[v, .func (.func 78) #[] #[]] w _
 obtain ⟨p, c, rfl, hby, hp⟩ := h
 have HP : Hid (0 < xs.length → ∃ b o, p = some ⟨b, o, none⟩ ∧ K b ∧ ∀ (j : Nat) (h : j < xs.length), ∃ cs, cs.length = 1 ∧ (∀ (i : Nat) (u : Value), cs[i]? = some u → w.cell? ⟨b, o + j * 1 + i, none⟩ = some u) ∧ rRow K w cs xs[j]) := hp
 have HPT : Hid (FreshC rRow 78) := hpart
 have HKK : Hid (∀ b, K b → b < w.heap.size) := hK
 have HBY : Hid (xs.length * 24 ≤ 140737488355328) := hby
 have CG := hid (grow_row xs.length w hby)
 obtain ⟨j0, hj0, hj1, hj2, hj3⟩ := inE_row
 have hx63 : xs.length ≤ 140737488355328 := by omega
 clear hp hK hby hpart
 go_enter Tryz.func77, Tryz.ntmps77
 go_wp2_with fail
 refine CG.out.mono ?_
 rintro e w0 ⟨u0, rfl, ho0, hb0⟩
 have HJ : Hid (OwnR rRow 1 155 w.heap.size w0 u0 (xs.take 0)) := OwnR.none ho0
 have HB0 : Hid (Below w.heap.size w w0) := hb0
 clear ho0 hb0 CG
 go_wp2_with fail
 go_loopg [5, 13] xs.length (fun gf s3 s8 wx => ∃ (u : Value) (i : Nat), u = s3 ∧ s8 = .int .i64 i ∧ i ≤ xs.length ∧ xs.length ≤ i + gf ∧ Hid (OwnR rRow 1 155 w.heap.size wx u (xs.take i)) ∧ Hid (Below w.heap.size w wx))
 case atStart => exact ⟨_, 0, rfl, rfl, by omega, by omega, HJ, HB0⟩
 case round =>
  clear HJ HB0
  obtain ⟨u, i, rfl, rfl, hi1, hgf, HJ, HB⟩ := hrel
  by_cases hi : i < xs.length
  ·obtain ⟨g', rfl⟩ : ∃ g', gk = g' + 1 := ⟨gk - 1, by omega⟩
   obtain ⟨b, o, rfl, hKb, hc⟩ := HP.out (by omega)
   obtain ⟨cs, hcl, hcell, hrel1⟩ := hc i hi
   have htk : xs.take (i + 1) = xs.take i ++ [xs[i]] := List.take_succ_eq_append_getElem hi
   obtain ⟨y, hy⟩ : ∃ y, xs[i] = y := ⟨_, rfl⟩
   rw [hy] at hrel1 htk
   have hbw := HB.out
   have hrw : rRow K wr cs y := mRow _ _ _ _ _ _ (fun _ h => h) (kept_of HKK.out hbw) hrel1
   obtain ⟨v1, rfl, n1⟩ := id hrw
   obtain ⟨za1, ya1, rfl, _, _⟩ := n1
   have hra : ∀ (j : Nat) (u : Value), ([.slice za1 y.length ya1] : List Value)[j]? = some u → wr.cell? ⟨b, o + i * 1 + j, none⟩ = some u := fun j u hu => by
    rw [hbw.cell (p := ⟨b, _, none⟩) (HKK.out _ hKb)]
    exact hcell j u hu
   have c0 : wr.cell? ⟨b, o + i, none⟩ = some (.slice za1 y.length ya1) := by
    have := hra 0 _ rfl
    simpa using this
   obtain ⟨WS, hWSe⟩ : ∃ WS, wr = WS := ⟨_, rfl⟩
   have hbs : Below wr.heap.size wr WS := by rw [← hWSe]; exact Below.refl _ _
   have hKW : ∀ b, K b → b < WS.heap.size := fun b hb => by have := HKK.out b hb; have := hbw.size; have := hbs.size; omega
   have CC := HPT.out K WS _ y (mRow _ _ _ _ _ _ (fun _ h => h) (kept_of (fun b hb => Nat.lt_of_lt_of_le (HKK.out b hb) hbw.size) hbs) hrw) hKW
   have HCC : Hid (Calls Tryz.prog 78 #[.slice za1 y.length ya1] WS fun e w' => ∃ cs', e = .returned (asV cs') ∧ rRow (From WS.heap.size w') w' cs' y ∧ Below WS.heap.size WS w') := CC
   have HBS : Hid (Below wr.heap.size wr WS) := hbs
   have HTK : Hid (xs.take (i + 1) = xs.take i ++ [y]) := htk
   have z0 : (0 : Int) ≤ (i : Int) := by omega
   have z1' : (i : Int) < (xs.length : Int) := by omega
   subst hWSe
   clear CC hra hbs htk hc hcell hy hKb hcl hbw hrel1 hrw  hKW
   go_wp2_with fail
   refine HCC.out.mono ?_
   rintro e w3 ⟨cs3, rfl, hr3, hb3⟩
   obtain ⟨u1, rfl, n1⟩ := id hr3
   obtain ⟨zb1, yb1, rfl, _, _⟩ := n1
   have hB3 : Below wr.heap.size wr w3 := HBS.out.trans (hb3.mono HBS.out.size)
   have hJX := HJ.out.keep mRow hB3
   have hlen : (xs.take i).length = i := by simp; omega
   have hmx : i + 1 ≤ maxLen := by have := HBY.out; unfold maxLen; omega
   have hb80 : (i + 1) * 24 ≤ 140737488355328 := by have := HBY.out; omega
   obtain ⟨v', X2, e2, hJ2, hb2, hs2⟩ := OwnR.push mRow Tryz.underlying42 hj0 hj1 hj2 hj3 rfl (by omega) hJX (Nat.le_trans HB.out.size hB3.size) (cs := [.slice zb1 y.length yb1]) (x := y) (K2 := From wr.heap.size w3) rfl (fun c hc => by simp at hc; subst hc; rfl)
    (fun b hb => ⟨by have := hb.1; have := HB.out.size; have := HBS.out.size; omega, hb.2, fun e => by obtain ⟨_, _, _, ho, _⟩ := HJ.out; have := (ho.lt _ e).2; have := hb.1; have := HBS.out.size; omega⟩) hr3 (by rw [hlen]; exact hb80) (by rw [hlen]; exact hmx)
   have HJ2 : Hid (OwnR rRow 1 155 w.heap.size X2 v' (xs.take (i + 1))) := by rw [HTK.out]; exact hJ2
   have HB2 : Hid (Below w.heap.size w X2) := hb2 _ _ (HB.out.trans (hB3.mono HB.out.size)) (Nat.le_refl _)
   clear hJ2 hb2 hs2 hJX hlen hmx hb80 hB3 hr3 hb3  HJ HB
   unfold asV
   go_wp2_with (at_builtin; refine Lib.wpList_append_run _ rfl _ _ _ _ rfl u (.slice (some ⟨w3.heap.size, 0, none⟩) 1 1) rfl rfl _ _ e2 ?_)
   go_roundg g'
   case measure => omega
   case rel => exact ⟨_, i + 1, rfl, by go_num, by omega, by omega, HJ2, HB2⟩
  ·have z1 : ¬ (i : Int) < (xs.length : Int) := by omega
   have hJ := HJ.out
   rw [List.take_of_length_le (by omega)] at hJ
   obtain ⟨pf, cf, huf, hlf⟩ := hJ.list mRow HBY.out
   subst huf
   have HF : Hid (ListIs rRow 1 24 (From w.heap.size wr) wr (.slice pf xs.length cf) xs ∧ Below w.heap.size w wr) := ⟨hlf, HB.out⟩
   clear HJ hJ hlf HB
   go_wp2_with fail
   go_ret
   exact ⟨_, _, rfl, HF.out⟩
end Go.Proofs.YtajomnfeicfdlaaGreatDoor
/- What fresh.each makes of a list: tbl. -/
namespace Go.Proofs.YtajomnfeicfdlaaGreatDoor
open Go.Shelf Go.RowKit Go.Lib
set_option linter.unusedVariables false
set_option linter.unusedSimpArgs false
attribute [local go_sem ↓] Go.wp_at_zero Go.wp_at_succ
set_option maxRecDepth 100000 in
set_option maxHeartbeats 4000000 in
theorem each_tbl (hpart : FreshC rTbl 45) : FreshL rTbl 3 64 44 #[.func (.func 45) #[] #[]] := by
 intro K w v xs h hK
 show Calls Tryz.prog 44 #[v, .func (.func 45) #[] #[]] w _
 obtain ⟨p, c, rfl, hby, hp⟩ := h
 have HP : Hid (0 < xs.length → ∃ b o, p = some ⟨b, o, none⟩ ∧ K b ∧ ∀ (j : Nat) (h : j < xs.length), ∃ cs, cs.length = 3 ∧ (∀ (i : Nat) (u : Value), cs[i]? = some u → w.cell? ⟨b, o + j * 3 + i, none⟩ = some u) ∧ rTbl K w cs xs[j]) := hp
 have HPT : Hid (FreshC rTbl 45) := hpart
 have HKK : Hid (∀ b, K b → b < w.heap.size) := hK
 have HBY : Hid (xs.length * 64 ≤ 140737488355328) := hby
 have CG := hid (grow_tbl xs.length w hby)
 obtain ⟨j0, hj0, hj1, hj2, hj3⟩ := inE_tbl
 have hx63 : xs.length ≤ 140737488355328 := by omega
 clear hp hK hby hpart
 go_enter Tryz.func44, Tryz.ntmps44
 go_wp2_with fail
 refine CG.out.mono ?_
 rintro e w0 ⟨u0, rfl, ho0, hb0⟩
 have HJ : Hid (OwnR rTbl 3 97 w.heap.size w0 u0 (xs.take 0)) := OwnR.none ho0
 have HB0 : Hid (Below w.heap.size w w0) := hb0
 clear ho0 hb0 CG
 go_wp2_with fail
 go_loopg [5, 13] xs.length (fun gf s3 s8 wx => ∃ (u : Value) (i : Nat), u = s3 ∧ s8 = .int .i64 i ∧ i ≤ xs.length ∧ xs.length ≤ i + gf ∧ Hid (OwnR rTbl 3 97 w.heap.size wx u (xs.take i)) ∧ Hid (Below w.heap.size w wx))
 case atStart => exact ⟨_, 0, rfl, rfl, by omega, by omega, HJ, HB0⟩
 case round =>
  clear HJ HB0
  obtain ⟨u, i, rfl, rfl, hi1, hgf, HJ, HB⟩ := hrel
  by_cases hi : i < xs.length
  ·obtain ⟨g', rfl⟩ : ∃ g', gk = g' + 1 := ⟨gk - 1, by omega⟩
   obtain ⟨b, o, rfl, hKb, hc⟩ := HP.out (by omega)
   obtain ⟨cs, hcl, hcell, hrel1⟩ := hc i hi
   have htk : xs.take (i + 1) = xs.take i ++ [xs[i]] := List.take_succ_eq_append_getElem hi
   obtain ⟨y, hy⟩ : ∃ y, xs[i] = y := ⟨_, rfl⟩
   rw [hy] at hrel1 htk
   have hbw := HB.out
   have hrw : rTbl K wr cs y := mTbl _ _ _ _ _ _ (fun _ h => h) (kept_of HKK.out hbw) hrel1
   obtain ⟨v1, v2, rfl, q1, n1, n2⟩ := id hrw
   obtain ⟨za1, ya1, rfl, _, _⟩ := n1
   obtain ⟨za2, ya2, rfl, _, _⟩ := n2
   have hra : ∀ (j : Nat) (u : Value), ([.string y.n, .slice za1 y.c.length ya1, .slice za2 y.r.length ya2] : List Value)[j]? = some u → wr.cell? ⟨b, o + i * 3 + j, none⟩ = some u := fun j u hu => by
    rw [hbw.cell (p := ⟨b, _, none⟩) (HKK.out _ hKb)]
    exact hcell j u hu
   obtain ⟨WA, hWA, hth, WS, hWS, hrs, hss, hbs, hrl⟩ := box_new wr 97 #[.string ⟨#[]⟩, .slice none 0 0, .slice none 0 0] [.string y.n, .slice za1 y.c.length ya1, .slice za2 y.r.length ya2] rfl
   have hKW : ∀ b, K b → b < WS.heap.size := fun b hb => by have := HKK.out b hb; have := hbw.size; have := hbs.size; omega
   have CC := HPT.out K WS _ y (mTbl _ _ _ _ _ _ (fun _ h => h) (kept_of (fun b hb => Nat.lt_of_lt_of_le (HKK.out b hb) hbw.size) hbs) hrw) hKW
   have HCC : Hid (Calls Tryz.prog 45 #[.agg #[.string y.n, .slice za1 y.c.length ya1, .slice za2 y.r.length ya2]] WS fun e w' => ∃ cs', e = .returned (asV cs') ∧ rTbl (From WS.heap.size w') w' cs' y ∧ Below WS.heap.size WS w') := CC
   have HBS : Hid (Below wr.heap.size wr WS) := hbs
   have HTK : Hid (xs.take (i + 1) = xs.take i ++ [y]) := htk
   have z0 : (0 : Int) ≤ (i : Int) := by omega
   have z1' : (i : Int) < (xs.length : Int) := by omega
   have HRA : Hid (wr.rangeAt b (o + i * 3) [.string y.n, .slice za1 y.c.length ya1, .slice za2 y.r.length ya2]) := hra
   have HTH : Hid (WA.there wr.heap.size 0 3) := hth
   have HWS : Hid (WA.setCells wr.heap.size 0 (#[.string y.n, .slice za1 y.c.length ya1, .slice za2 y.r.length ya2] : Array Value).toList = WS) := hWS
   have HRS : Hid (WS.rangeAt wr.heap.size 0 [.string y.n, .slice za1 y.c.length ya1, .slice za2 y.r.length ya2]) := hrs
   have HON : Hid ((#[.string y.n, .slice za1 y.c.length ya1, .slice za2 y.r.length ya2] : Array Value).all (·.oneCell') = true) := by show _ = _; simp [Value.oneCell']
   have SZ : Hid ((Tryz.prog.info? 97).map (·.size) = some 3) := by show _ = _; rw [hj0]; simp [hj2]
   clear CC hra hth hWS hrs hrl hbs htk hc hcell hy hKb hcl hbw hrel1 hrw q1 hKW hss
   go_wp2_with (first | (refine wpList_load_mid rfl 97 _ rfl b (o + i * 3) rfl _ _ HRA.out Tryz.underlying97 rfl SZ.out ?_) | (refine wpList_store_mid rfl 97 _ _ rfl wr.heap.size 0 #[.string y.n, .slice za1 y.c.length ya1, .slice za2 y.r.length ya2] rfl rfl HTH.out SZ.out HON.out ?_; rw [HWS.out]) | (refine wpList_load_mid rfl 97 _ rfl wr.heap.size 0 rfl _ _ HRS.out Tryz.underlying97 rfl SZ.out ?_))
   refine HCC.out.mono ?_
   rintro e w3 ⟨cs3, rfl, hr3, hb3⟩
   obtain ⟨u1, u2, rfl, q1, n1, n2⟩ := id hr3
   obtain ⟨zb1, yb1, rfl, _, _⟩ := n1
   obtain ⟨zb2, yb2, rfl, _, _⟩ := n2
   have hB3 : Below wr.heap.size wr w3 := HBS.out.trans (hb3.mono HBS.out.size)
   have hJX := HJ.out.keep mTbl hB3
   have hlen : (xs.take i).length = i := by simp; omega
   have hmx : i + 1 ≤ maxLen := by have := HBY.out; unfold maxLen; omega
   have hb80 : (i + 1) * 64 ≤ 140737488355328 := by have := HBY.out; omega
   obtain ⟨v', X2, e2, hJ2, hb2, hs2⟩ := OwnR.push mTbl Tryz.underlying55 hj0 hj1 hj2 hj3 rfl (by omega) hJX (Nat.le_trans HB.out.size hB3.size) (cs := [.string y.n, .slice zb1 y.c.length yb1, .slice zb2 y.r.length yb2]) (x := y) (K2 := From WS.heap.size w3) rfl (fun c hc => by simp at hc; rcases hc with rfl | rfl | rfl <;> rfl)
    (fun b hb => ⟨by have := hb.1; have := HB.out.size; have := HBS.out.size; omega, hb.2, fun e => by obtain ⟨_, _, _, ho, _⟩ := HJ.out; have := (ho.lt _ e).2; have := hb.1; have := HBS.out.size; omega⟩) hr3 (by rw [hlen]; exact hb80) (by rw [hlen]; exact hmx)
   have HJ2 : Hid (OwnR rTbl 3 97 w.heap.size X2 v' (xs.take (i + 1))) := by rw [HTK.out]; exact hJ2
   have HB2 : Hid (Below w.heap.size w X2) := hb2 _ _ (HB.out.trans (hB3.mono HB.out.size)) (Nat.le_refl _)
   clear hJ2 hb2 hs2 hJX hlen hmx hb80 hB3 hr3 hb3 q1 HJ HB
   unfold asV
   go_wp2_with (at_builtin; refine Lib.wpList_append_run _ rfl _ _ _ _ rfl u (.slice (some ⟨w3.heap.size, 0, none⟩) 1 1) rfl rfl _ _ e2 ?_)
   go_roundg g'
   case measure => omega
   case rel => exact ⟨_, i + 1, rfl, by go_num, by omega, by omega, HJ2, HB2⟩
  ·have z1 : ¬ (i : Int) < (xs.length : Int) := by omega
   have hJ := HJ.out
   rw [List.take_of_length_le (by omega)] at hJ
   obtain ⟨pf, cf, huf, hlf⟩ := hJ.list mTbl HBY.out
   subst huf
   have HF : Hid (ListIs rTbl 3 64 (From w.heap.size wr) wr (.slice pf xs.length cf) xs ∧ Below w.heap.size w wr) := ⟨hlf, HB.out⟩
   clear HJ hJ hlf HB
   go_wp2_with fail
   go_ret
   exact ⟨_, _, rfl, HF.out⟩
end Go.Proofs.YtajomnfeicfdlaaGreatDoor
/- What fresh.each makes of a list: clm. -/
namespace Go.Proofs.YtajomnfeicfdlaaGreatDoor
open Go.Shelf Go.RowKit Go.Lib
set_option linter.unusedVariables false
set_option linter.unusedSimpArgs false
attribute [local go_sem ↓] Go.wp_at_zero Go.wp_at_succ
set_option maxRecDepth 100000 in
set_option maxHeartbeats 4000000 in
theorem each_clm (hpart : FreshC rClm 80) : FreshL rClm 5 80 79 #[.func (.func 80) #[] #[]] := by
 intro K w v xs h hK
 show Calls Tryz.prog 79 #[v, .func (.func 80) #[] #[]] w _
 obtain ⟨p, c, rfl, hby, hp⟩ := h
 have HP : Hid (0 < xs.length → ∃ b o, p = some ⟨b, o, none⟩ ∧ K b ∧ ∀ (j : Nat) (h : j < xs.length), ∃ cs, cs.length = 5 ∧ (∀ (i : Nat) (u : Value), cs[i]? = some u → w.cell? ⟨b, o + j * 5 + i, none⟩ = some u) ∧ rClm K w cs xs[j]) := hp
 have HPT : Hid (FreshC rClm 80) := hpart
 have HKK : Hid (∀ b, K b → b < w.heap.size) := hK
 have HBY : Hid (xs.length * 80 ≤ 140737488355328) := hby
 have CG := hid (grow_clm xs.length w hby)
 obtain ⟨j0, hj0, hj1, hj2, hj3⟩ := inE_clm
 have hx63 : xs.length ≤ 140737488355328 := by omega
 clear hp hK hby hpart
 go_enter Tryz.func79, Tryz.ntmps79
 go_wp2_with fail
 refine CG.out.mono ?_
 rintro e w0 ⟨u0, rfl, ho0, hb0⟩
 have HJ : Hid (OwnR rClm 5 160 w.heap.size w0 u0 (xs.take 0)) := OwnR.none ho0
 have HB0 : Hid (Below w.heap.size w w0) := hb0
 clear ho0 hb0 CG
 go_wp2_with fail
 go_loopg [5, 13] xs.length (fun gf s3 s8 wx => ∃ (u : Value) (i : Nat), u = s3 ∧ s8 = .int .i64 i ∧ i ≤ xs.length ∧ xs.length ≤ i + gf ∧ Hid (OwnR rClm 5 160 w.heap.size wx u (xs.take i)) ∧ Hid (Below w.heap.size w wx))
 case atStart => exact ⟨_, 0, rfl, rfl, by omega, by omega, HJ, HB0⟩
 case round =>
  clear HJ HB0
  obtain ⟨u, i, rfl, rfl, hi1, hgf, HJ, HB⟩ := hrel
  by_cases hi : i < xs.length
  ·obtain ⟨g', rfl⟩ : ∃ g', gk = g' + 1 := ⟨gk - 1, by omega⟩
   obtain ⟨b, o, rfl, hKb, hc⟩ := HP.out (by omega)
   obtain ⟨cs, hcl, hcell, hrel1⟩ := hc i hi
   have htk : xs.take (i + 1) = xs.take i ++ [xs[i]] := List.take_succ_eq_append_getElem hi
   obtain ⟨y, hy⟩ : ∃ y, xs[i] = y := ⟨_, rfl⟩
   rw [hy] at hrel1 htk
   have hbw := HB.out
   have hrw : rClm K wr cs y := mClm _ _ _ _ _ _ (fun _ h => h) (kept_of HKK.out hbw) hrel1
   obtain ⟨v1, v2, rfl, q1, n1, q2, n2⟩ := id hrw
   obtain ⟨za1, ya1, rfl, _, _⟩ := n1
   obtain ⟨za2, ya2, rfl, _, _⟩ := n2
   have hra : ∀ (j : Nat) (u : Value), ([.string y.t, .slice za1 y.c.length ya1, .int .u64 (y.v.b : Int), .int .u64 (y.v.l : Int), .slice za2 y.o.length ya2] : List Value)[j]? = some u → wr.cell? ⟨b, o + i * 5 + j, none⟩ = some u := fun j u hu => by
    rw [hbw.cell (p := ⟨b, _, none⟩) (HKK.out _ hKb)]
    exact hcell j u hu
   obtain ⟨WA, hWA, hth, WS, hWS, hrs, hss, hbs, hrl⟩ := box_new wr 160 #[.string ⟨#[]⟩, .slice none 0 0, .int .u64 0, .int .u64 0, .slice none 0 0] [.string y.t, .slice za1 y.c.length ya1, .int .u64 (y.v.b : Int), .int .u64 (y.v.l : Int), .slice za2 y.o.length ya2] rfl
   have hKW : ∀ b, K b → b < WS.heap.size := fun b hb => by have := HKK.out b hb; have := hbw.size; have := hbs.size; omega
   have CC := HPT.out K WS _ y (mClm _ _ _ _ _ _ (fun _ h => h) (kept_of (fun b hb => Nat.lt_of_lt_of_le (HKK.out b hb) hbw.size) hbs) hrw) hKW
   have HCC : Hid (Calls Tryz.prog 80 #[.agg #[.string y.t, .slice za1 y.c.length ya1, .int .u64 (y.v.b : Int), .int .u64 (y.v.l : Int), .slice za2 y.o.length ya2]] WS fun e w' => ∃ cs', e = .returned (asV cs') ∧ rClm (From WS.heap.size w') w' cs' y ∧ Below WS.heap.size WS w') := CC
   have HBS : Hid (Below wr.heap.size wr WS) := hbs
   have HTK : Hid (xs.take (i + 1) = xs.take i ++ [y]) := htk
   have z0 : (0 : Int) ≤ (i : Int) := by omega
   have z1' : (i : Int) < (xs.length : Int) := by omega
   have HRA : Hid (wr.rangeAt b (o + i * 5) [.string y.t, .slice za1 y.c.length ya1, .int .u64 (y.v.b : Int), .int .u64 (y.v.l : Int), .slice za2 y.o.length ya2]) := hra
   have HTH : Hid (WA.there wr.heap.size 0 5) := hth
   have HWS : Hid (WA.setCells wr.heap.size 0 (#[.string y.t, .slice za1 y.c.length ya1, .int .u64 (y.v.b : Int), .int .u64 (y.v.l : Int), .slice za2 y.o.length ya2] : Array Value).toList = WS) := hWS
   have HRS : Hid (WS.rangeAt wr.heap.size 0 [.string y.t, .slice za1 y.c.length ya1, .int .u64 (y.v.b : Int), .int .u64 (y.v.l : Int), .slice za2 y.o.length ya2]) := hrs
   have HON : Hid ((#[.string y.t, .slice za1 y.c.length ya1, .int .u64 (y.v.b : Int), .int .u64 (y.v.l : Int), .slice za2 y.o.length ya2] : Array Value).all (·.oneCell') = true) := by show _ = _; simp [Value.oneCell']
   have SZ : Hid ((Tryz.prog.info? 160).map (·.size) = some 5) := by show _ = _; rw [hj0]; simp [hj2]
   clear CC hra hth hWS hrs hrl hbs htk hc hcell hy hKb hcl hbw hrel1 hrw q1 q2 hKW hss
   go_wp2_with (first | (refine wpList_load_mid rfl 160 _ rfl b (o + i * 5) rfl _ _ HRA.out Tryz.underlying160 rfl SZ.out ?_) | (refine wpList_store_mid rfl 160 _ _ rfl wr.heap.size 0 #[.string y.t, .slice za1 y.c.length ya1, .int .u64 (y.v.b : Int), .int .u64 (y.v.l : Int), .slice za2 y.o.length ya2] rfl rfl HTH.out SZ.out HON.out ?_; rw [HWS.out]) | (refine wpList_load_mid rfl 160 _ rfl wr.heap.size 0 rfl _ _ HRS.out Tryz.underlying160 rfl SZ.out ?_))
   refine HCC.out.mono ?_
   rintro e w3 ⟨cs3, rfl, hr3, hb3⟩
   obtain ⟨u1, u2, rfl, q1, n1, q2, n2⟩ := id hr3
   obtain ⟨zb1, yb1, rfl, _, _⟩ := n1
   obtain ⟨zb2, yb2, rfl, _, _⟩ := n2
   have hB3 : Below wr.heap.size wr w3 := HBS.out.trans (hb3.mono HBS.out.size)
   have hJX := HJ.out.keep mClm hB3
   have hlen : (xs.take i).length = i := by simp; omega
   have hmx : i + 1 ≤ maxLen := by have := HBY.out; unfold maxLen; omega
   have hb80 : (i + 1) * 80 ≤ 140737488355328 := by have := HBY.out; omega
   obtain ⟨v', X2, e2, hJ2, hb2, hs2⟩ := OwnR.push mClm Tryz.underlying61 hj0 hj1 hj2 hj3 rfl (by omega) hJX (Nat.le_trans HB.out.size hB3.size) (cs := [.string y.t, .slice zb1 y.c.length yb1, .int .u64 (y.v.b : Int), .int .u64 (y.v.l : Int), .slice zb2 y.o.length yb2]) (x := y) (K2 := From WS.heap.size w3) rfl (fun c hc => by simp at hc; rcases hc with rfl | rfl | rfl | rfl | rfl <;> rfl)
    (fun b hb => ⟨by have := hb.1; have := HB.out.size; have := HBS.out.size; omega, hb.2, fun e => by obtain ⟨_, _, _, ho, _⟩ := HJ.out; have := (ho.lt _ e).2; have := hb.1; have := HBS.out.size; omega⟩) hr3 (by rw [hlen]; exact hb80) (by rw [hlen]; exact hmx)
   have HJ2 : Hid (OwnR rClm 5 160 w.heap.size X2 v' (xs.take (i + 1))) := by rw [HTK.out]; exact hJ2
   have HB2 : Hid (Below w.heap.size w X2) := hb2 _ _ (HB.out.trans (hB3.mono HB.out.size)) (Nat.le_refl _)
   clear hJ2 hb2 hs2 hJX hlen hmx hb80 hB3 hr3 hb3 q1 q2 HJ HB
   unfold asV
   go_wp2_with (at_builtin; refine Lib.wpList_append_run _ rfl _ _ _ _ rfl u (.slice (some ⟨w3.heap.size, 0, none⟩) 1 1) rfl rfl _ _ e2 ?_)
   go_roundg g'
   case measure => omega
   case rel => exact ⟨_, i + 1, rfl, by go_num, by omega, by omega, HJ2, HB2⟩
  ·have z1 : ¬ (i : Int) < (xs.length : Int) := by omega
   have hJ := HJ.out
   rw [List.take_of_length_le (by omega)] at hJ
   obtain ⟨pf, cf, huf, hlf⟩ := hJ.list mClm HBY.out
   subst huf
   have HF : Hid (ListIs rClm 5 80 (From w.heap.size wr) wr (.slice pf xs.length cf) xs ∧ Below w.heap.size w wr) := ⟨hlf, HB.out⟩
   clear HJ hJ hlf HB
   go_wp2_with fail
   go_ret
   exact ⟨_, _, rfl, HF.out⟩
end Go.Proofs.YtajomnfeicfdlaaGreatDoor
/- What fresh.each makes of a list: ints. -/
namespace Go.Proofs.YtajomnfeicfdlaaGreatDoor
open Go.Shelf Go.RowKit Go.Lib
set_option linter.unusedVariables false
set_option linter.unusedSimpArgs false
attribute [local go_sem ↓] Go.wp_at_zero Go.wp_at_succ
set_option maxRecDepth 100000 in
set_option maxHeartbeats 4000000 in
theorem each_ints (hpart : FreshC rInts 47) : FreshL rInts 1 24 101 #[.func (.func 47) #[] #[]] := by
 intro K w v xs h hK
 show Calls Tryz.prog 101 #[v, .func (.func 47) #[] #[]] w _
 obtain ⟨p, c, rfl, hby, hp⟩ := h
 have HP : Hid (0 < xs.length → ∃ b o, p = some ⟨b, o, none⟩ ∧ K b ∧ ∀ (j : Nat) (h : j < xs.length), ∃ cs, cs.length = 1 ∧ (∀ (i : Nat) (u : Value), cs[i]? = some u → w.cell? ⟨b, o + j * 1 + i, none⟩ = some u) ∧ rInts K w cs xs[j]) := hp
 have HPT : Hid (FreshC rInts 47) := hpart
 have HKK : Hid (∀ b, K b → b < w.heap.size) := hK
 have HBY : Hid (xs.length * 24 ≤ 140737488355328) := hby
 have CG := hid (grow_ints xs.length w hby)
 obtain ⟨j0, hj0, hj1, hj2, hj3⟩ := inE_ints
 have hx63 : xs.length ≤ 140737488355328 := by omega
 clear hp hK hby hpart
 go_enter Tryz.func101, Tryz.ntmps101
 go_wp2_with fail
 refine CG.out.mono ?_
 rintro e w0 ⟨u0, rfl, ho0, hb0⟩
 have HJ : Hid (OwnR rInts 1 49 w.heap.size w0 u0 (xs.take 0)) := OwnR.none ho0
 have HB0 : Hid (Below w.heap.size w w0) := hb0
 clear ho0 hb0 CG
 go_wp2_with fail
 go_loopg [5, 13] xs.length (fun gf s3 s8 wx => ∃ (u : Value) (i : Nat), u = s3 ∧ s8 = .int .i64 i ∧ i ≤ xs.length ∧ xs.length ≤ i + gf ∧ Hid (OwnR rInts 1 49 w.heap.size wx u (xs.take i)) ∧ Hid (Below w.heap.size w wx))
 case atStart => exact ⟨_, 0, rfl, rfl, by omega, by omega, HJ, HB0⟩
 case round =>
  clear HJ HB0
  obtain ⟨u, i, rfl, rfl, hi1, hgf, HJ, HB⟩ := hrel
  by_cases hi : i < xs.length
  ·obtain ⟨g', rfl⟩ : ∃ g', gk = g' + 1 := ⟨gk - 1, by omega⟩
   obtain ⟨b, o, rfl, hKb, hc⟩ := HP.out (by omega)
   obtain ⟨cs, hcl, hcell, hrel1⟩ := hc i hi
   have htk : xs.take (i + 1) = xs.take i ++ [xs[i]] := List.take_succ_eq_append_getElem hi
   obtain ⟨y, hy⟩ : ∃ y, xs[i] = y := ⟨_, rfl⟩
   rw [hy] at hrel1 htk
   have hbw := HB.out
   have hrw : rInts K wr cs y := mInts _ _ _ _ _ _ (fun _ h => h) (kept_of HKK.out hbw) hrel1
   obtain ⟨v1, rfl, n1⟩ := id hrw
   obtain ⟨za1, ya1, rfl, _, _⟩ := n1
   have hra : ∀ (j : Nat) (u : Value), ([.slice za1 y.length ya1] : List Value)[j]? = some u → wr.cell? ⟨b, o + i * 1 + j, none⟩ = some u := fun j u hu => by
    rw [hbw.cell (p := ⟨b, _, none⟩) (HKK.out _ hKb)]
    exact hcell j u hu
   have c0 : wr.cell? ⟨b, o + i, none⟩ = some (.slice za1 y.length ya1) := by
    have := hra 0 _ rfl
    simpa using this
   obtain ⟨WS, hWSe⟩ : ∃ WS, wr = WS := ⟨_, rfl⟩
   have hbs : Below wr.heap.size wr WS := by rw [← hWSe]; exact Below.refl _ _
   have hKW : ∀ b, K b → b < WS.heap.size := fun b hb => by have := HKK.out b hb; have := hbw.size; have := hbs.size; omega
   have CC := HPT.out K WS _ y (mInts _ _ _ _ _ _ (fun _ h => h) (kept_of (fun b hb => Nat.lt_of_lt_of_le (HKK.out b hb) hbw.size) hbs) hrw) hKW
   have HCC : Hid (Calls Tryz.prog 47 #[.slice za1 y.length ya1] WS fun e w' => ∃ cs', e = .returned (asV cs') ∧ rInts (From WS.heap.size w') w' cs' y ∧ Below WS.heap.size WS w') := CC
   have HBS : Hid (Below wr.heap.size wr WS) := hbs
   have HTK : Hid (xs.take (i + 1) = xs.take i ++ [y]) := htk
   have z0 : (0 : Int) ≤ (i : Int) := by omega
   have z1' : (i : Int) < (xs.length : Int) := by omega
   subst hWSe
   clear CC hra hbs htk hc hcell hy hKb hcl hbw hrel1 hrw  hKW
   go_wp2_with fail
   refine HCC.out.mono ?_
   rintro e w3 ⟨cs3, rfl, hr3, hb3⟩
   obtain ⟨u1, rfl, n1⟩ := id hr3
   obtain ⟨zb1, yb1, rfl, _, _⟩ := n1
   have hB3 : Below wr.heap.size wr w3 := HBS.out.trans (hb3.mono HBS.out.size)
   have hJX := HJ.out.keep mInts hB3
   have hlen : (xs.take i).length = i := by simp; omega
   have hmx : i + 1 ≤ maxLen := by have := HBY.out; unfold maxLen; omega
   have hb80 : (i + 1) * 24 ≤ 140737488355328 := by have := HBY.out; omega
   obtain ⟨v', X2, e2, hJ2, hb2, hs2⟩ := OwnR.push mInts Tryz.underlying158 hj0 hj1 hj2 hj3 rfl (by omega) hJX (Nat.le_trans HB.out.size hB3.size) (cs := [.slice zb1 y.length yb1]) (x := y) (K2 := From wr.heap.size w3) rfl (fun c hc => by simp at hc; subst hc; rfl)
    (fun b hb => ⟨by have := hb.1; have := HB.out.size; have := HBS.out.size; omega, hb.2, fun e => by obtain ⟨_, _, _, ho, _⟩ := HJ.out; have := (ho.lt _ e).2; have := hb.1; have := HBS.out.size; omega⟩) hr3 (by rw [hlen]; exact hb80) (by rw [hlen]; exact hmx)
   have HJ2 : Hid (OwnR rInts 1 49 w.heap.size X2 v' (xs.take (i + 1))) := by rw [HTK.out]; exact hJ2
   have HB2 : Hid (Below w.heap.size w X2) := hb2 _ _ (HB.out.trans (hB3.mono HB.out.size)) (Nat.le_refl _)
   clear hJ2 hb2 hs2 hJX hlen hmx hb80 hB3 hr3 hb3  HJ HB
   unfold asV
   go_wp2_with (at_builtin; refine Lib.wpList_append_run _ rfl _ _ _ _ rfl u (.slice (some ⟨w3.heap.size, 0, none⟩) 1 1) rfl rfl _ _ e2 ?_)
   go_roundg g'
   case measure => omega
   case rel => exact ⟨_, i + 1, rfl, by go_num, by omega, by omega, HJ2, HB2⟩
  ·have z1 : ¬ (i : Int) < (xs.length : Int) := by omega
   have hJ := HJ.out
   rw [List.take_of_length_le (by omega)] at hJ
   obtain ⟨pf, cf, huf, hlf⟩ := hJ.list mInts HBY.out
   subst huf
   have HF : Hid (ListIs rInts 1 24 (From w.heap.size wr) wr (.slice pf xs.length cf) xs ∧ Below w.heap.size w wr) := ⟨hlf, HB.out⟩
   clear HJ hJ hlf HB
   go_wp2_with fail
   go_ret
   exact ⟨_, _, rfl, HF.out⟩
end Go.Proofs.YtajomnfeicfdlaaGreatDoor

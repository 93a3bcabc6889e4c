/- The names and kinds of an answer's columns: Itoa, nameOfItem, kindOfItem. -/
import Derived.Test.YtfifphfihdhlaaaGreatDoorQbTk
import Derived.Test.YtfifphfihdhlaaaGreatDoorCrCsCt
set_option maxRecDepth 100000
set_option maxHeartbeats 32000000
namespace Go.Proofs.YtfifphfihdhlaaaGreatDoor.Bd
open Tryz
open Go.Shelf Go.RowKit Go.Lib Go.Sort
set_option linter.unusedVariables false
set_option linter.unusedSimpArgs false
attribute [local go_sem ↓] Go.wp_at_zero Go.wp_at_succ
theorem itoa_nat (i : Nat) : Lib.itoa ((i : Int) + 1) = Lib.decDigits (i + 1) := by
 unfold Lib.itoa
 rw [if_neg (by omega), show ((i : Int) + 1).toNat = i + 1 by omega]
theorem digits_all : ((List.range 100).all fun n => decide ((Lib.decDigits n).length ≤ 3)) = true := by kernel_rfl
theorem digits_short (n : Nat) (h : n < 100) : (Lib.decDigits n).length ≤ 3 := of_decide_eq_true (List.all_eq_true.1 digits_all n (List.mem_range.2 h))
theorem itoa_any (i : Nat) (hi : i < 100) (w : World) : Calls prog 141 #[.int .i64 (i : Int)] w fun e w' => e = .returned (.string ⟨(Lib.decDigits i).toArray⟩) ∧ w' = w := by
 have C : Hid (∀ W, Calls prog 176 #[.int .i64 (i : Int), .int .i64 10] W fun e w' => e = .returned (.string ⟨(Lib.decDigits i).toArray⟩) ∧ w' = W) := fun W => Any.internal_strconv_FormatInt_10_small { Tryz.laysM173 with } i hi W
 have C2 : Hid (∀ W, Calls prog 159 #[.int .i64 (i : Int)] W fun e w' => e = .returned (.string ⟨(Lib.decDigits i).toArray⟩) ∧ w' = W) := fun W => by
  go_enter func159, ntmps159
  go_wp2_with fail
  refine (C.out W).mono ?_
  rintro e w1 ⟨rfl, rfl⟩
  go_wp2_with fail
  go_ret
  exact ⟨rfl, rfl⟩
 clear C hi
 go_enter func141, ntmps141
 go_wp2_with fail
 refine (C2.out w).mono ?_
 rintro e w1 ⟨rfl, rfl⟩
 clear C2
 go_wp2_with fail
 go_ret
 exact ⟨rfl, rfl⟩
theorem clm_small {K : Nat → Prop} {w : World} {v : Value} {l : List Clm} (h : ListIs rClm 2 24 K w v l) (i : Nat) (hi : i < l.length) : (l[i]).n.length ≤ 140737488355328 := clm_ok h _ (List.getElem_mem hi)
theorem nameI_any (K Kc : Nat → Prop) (s : Scp) (p : Option Addr) (d : Nat) (x : Itm) (pe : Option Addr) (ce i : Nat) (w : World) (h : ListIs rClm 2 24 Kc w (.slice p s.c.length d) s.c) (hKc : ∀ b, Kc b → b < w.heap.size) (hl : ListIs rStpW 3 32 K w (.slice pe x.e.length ce) x.e) (hK : ∀ b, K b → b < w.heap.size) (hi : i < 99) (hin : isColI x = true → 0 ≤ firstN x ∧ firstN x < (s.c.length : Int)) :
 Calls prog 112 #[.agg (scpC s p d), .agg #[.int .u8 (x.g : Int), .slice pe x.e.length ce], .int .i64 (i : Int)] w fun e w' => e = .returned (.string ⟨(nameI s x i).toArray⟩) ∧ Bl w w' := by
 have hbig : s.c.length ≤ 140737488355328 := by
  obtain ⟨_, _, -, ⟨h1, -⟩, -⟩ := h
  omega
 obtain ⟨tS, htS⟩ := bya s.t
 obtain ⟨jS, hjS⟩ := bya s.j
 obtain ⟨Nc, hNc⟩ := gen s.c.length
 obtain ⟨wd, hwd⟩ := gen s.w
 have hsc : scpC s p d = #[.string tS, .string jS, .int .i64 (wd : Int), .slice p Nc d] := by unfold scpC; rw [htS, hjS, hNc, hwd]
 obtain ⟨N, hN⟩ := gen x.e.length
 obtain ⟨g, hgg⟩ := gen x.g
 obtain ⟨W0, hW0, hb0, hz0, g0, g1⟩ := two_boxes2 w #[.string tS, .string jS, .int .i64 (wd : Int), .slice p Nc d] #[.int .u8 (g : Int), .slice pe N ce] 67 42
 have HBX : Hid (∀ V, Bl W0 V → V.cell? ⟨w.heap.size, 3, none⟩ = some (.slice p Nc d) ∧ V.cell? ⟨w.heap.size + 1, 1, none⟩ = some (.slice pe N ce) ∧ Bl w V) := fun V hV =>
  ⟨cell_of_row (k := 3) ((hV.block _ (by omega)).trans g0) rfl, cell_of_row (k := 1) ((hV.block _ (by omega)).trans g1) rfl, hb0.trans (hV.mono (by omega))⟩
 have HRI : Hid (W0.rangeAt (w.heap.size + 1) 0 [.int .u8 (g : Int), .slice pe N ce]) := rgz g1
 have C1 : Hid (Calls prog 140 #[.agg #[.int .u8 (g : Int), .slice pe N ce]] W0 fun e w' => e = .returned (.bool (isColI x)) ∧ Bl W0 w') := by
  have := isCol_item K x pe ce W0 (hl.later mStpW hK hb0) (fun b hb => nlt (hK b hb) hb0.size)
  rwa [hN, hgg] at this
 have HLX : Hid (∀ V, Bl w V → ListIs rStpW 3 32 K V (.slice pe N ce) x.e ∧ ListIs rClm 2 24 Kc V (.slice p Nc d) s.c) := fun V hV => by
  have h1 := hl.later mStpW hK hV
  have h2 := h.later mClm hKc hV
  rw [hN] at h1
  rw [hNc] at h2
  exact ⟨h1, h2⟩
 have HIN := hid hin
 have HNN : Hid (x.e.length = N ∧ s.c.length = Nc) := ⟨hN, hNc⟩
 obtain ⟨A, hA⟩ := gen (isColI x)
 have HA := hid hA
 rw [hA] at C1
 obtain ⟨R, hR⟩ := gen (nameI s x i)
 have HR : Hid (R = if A = true then nameAt s (firstN x).toNat else 99 :: Lib.itoa ((i : Int) + 1)) := by show _ = _; rw [← hR, ← hA]; rfl
 rw [hN, hgg, hsc, hR]
 clear h hKc hl hK hin htS hjS hNc hwd hsc hN hgg hb0 hz0 g0 g1 hA hR
 go_enter func112, ntmps112
 go_wp2_with (refine wpList_load_mid rfl 42 _ rfl (w.heap.size + 1) 0 rfl _ _ HRI.out underlying42 rfl sz_item ?_)
 refine C1.out.mono ?_
 rintro e w1 ⟨rfl, hb1⟩
 have HB1 := hid hb1
 clear C1 HRI
 cases A with
 | false =>
  have HBW := hid (HBX.out w1 hb1).2.2
  have CI := hid (itoa_any (i + 1) (by omega) w1)
  obtain ⟨S, hS⟩ := bya ((Lib.decDigits (i + 1)))
  rw [hS] at CI
  have hsz : S.size ≤ 3 := by rw [← hS, txt_len]; exact digits_short _ (by omega)
  have hsd : S.data.toList = Lib.decDigits (i + 1) := by rw [← hS]
  obtain ⟨X, hX⟩ : ∃ X : ByteArray, (⟨#[99]⟩ : ByteArray) ++ S = X := ⟨_, rfl⟩
  have hXd : X.data.toList = 99 :: Lib.decDigits (i + 1) := by rw [← hX, ← hsd]; simp [ByteArray.data_append]
  have HQ : Hid (X = ⟨R.toArray⟩) := by
   show _ = _
   rw [HR.out, if_neg (by simp), itoa_nat]
   apply ByteArray.ext
   apply Array.ext'
   rw [hXd]
  have hii : (i : Int) + 1 = ((i + 1 : Nat) : Int) := by omega
  have r1 : ¬ 9223372036854775807 < 1 + S.size := by omega
  have hwi : wrap64 ((i + 1 : Nat) : Int) = ((i + 1 : Nat) : Int) := wrap_mid _ (by omega) (by omega)
  obtain ⟨m, hm⟩ := gen (i + 1)
  rw [hm] at CI hii hwi
  clear hb1 HR HIN HA HLX hS hsz hsd hXd hm hi
  go_wp2_with fail
  refine CI.out.mono ?_
  rintro e w2 ⟨rfl, hw2⟩
  replace hw2 := hw2.symm
  subst hw2
  clear CI
  go_wp2_with fail
  go_ret
  exact ⟨by rw [HQ.out]; rfl, HBW.out⟩
 | true =>
  obtain ⟨D, hD⟩ := gen w1.drew
  have hbD : Bl W0 D := by rw [← hD]; exact hb1.drew
  obtain ⟨k3, k1, hbw⟩ := HBX.out D hbD
  obtain ⟨hle, hlc⟩ := HLX.out D hbw
  have hin := HIN.out HA.out
  have hx1 : x.e.length = 1 := by
   have := HA.out
   unfold isColI at this
   simp only [Bool.and_eq_true, decide_eq_true_eq] at this
   exact this.2.1
  obtain ⟨be, oe, hqe, _, hce⟩ := stp_w hle (by omega)
  obtain ⟨bc, oc, hqc, _, hcc⟩ := clm_at hlc (by omega)
  have cn := (hce 0 (by omega)).1 2 _ rfl
  have hfn : firstN x = (x.e[0]).n := by unfold firstN; simp [hx1]
  rw [← hfn] at cn
  obtain ⟨n, hn⟩ : ∃ n : Nat, firstN x = (n : Int) := ⟨(firstN x).toNat, by omega⟩
  rw [hn] at cn hin
  have hnl : n < s.c.length := by omega
  have cm := (hcc n hnl).1
  have hna := nameAt_of s n hnl
  have hsm := clm_small hlc n hnl
  rw [← hna] at cm hsm
  simp only [Nat.zero_mul, Nat.add_zero] at cn
  obtain ⟨nS, hnS⟩ := bya (nameAt s n)
  rw [hnS] at cm
  have CL := hid (clone_any nS D (by have := txt_len (nameAt s n); rw [hnS] at this; omega))
  have HQ : Hid (Ending.returned (.string nS) = .returned (.string ⟨R.toArray⟩)) := by show _ = _; rw [HR.out, if_pos rfl, hn, Int.toNat_natCast, hnS]
  have HSD : Hid (D.cell? ⟨w.heap.size, 3, none⟩ = some (.slice p Nc d) ∧ D.cell? ⟨w.heap.size + 1, 1, none⟩ = some (.slice pe N ce) ∧ D.cell? ⟨be, oe + 2, none⟩ = some (.int .i64 (n : Int)) ∧ D.cell? ⟨bc, oc + n * 2, none⟩ = some (.string nS)) := ⟨k3, k1, cn, cm⟩
  have HBD := hid hbw
  have hkbe : be < D.heap.size := (World.block_lt_of_cell? D _ cn)
  have hkbc : bc < D.heap.size := (World.block_lt_of_cell? D _ cm)
  have hkw : w.heap.size + 1 < D.heap.size := (World.block_lt_of_cell? D _ k1)
  have HSALL : Hid (∀ V, Bl D V → V.cell? ⟨w.heap.size, 3, none⟩ = some (.slice p Nc d) ∧ V.cell? ⟨w.heap.size + 1, 1, none⟩ = some (.slice pe N ce) ∧ V.cell? ⟨be, oe + 2, none⟩ = some (.int .i64 (n : Int)) ∧ V.cell? ⟨bc, oc + n * 2, none⟩ = some (.string nS)) := fun V hV =>
   ⟨(hV.cell (p := ⟨w.heap.size, 3, none⟩) (by show w.heap.size < _; omega)).trans k3, (hV.cell (p := ⟨w.heap.size + 1, 1, none⟩) hkw).trans k1, (hV.cell (p := ⟨be, oe + 2, none⟩) hkbe).trans cn, (hV.cell (p := ⟨bc, oc + n * 2, none⟩) hkbc).trans cm⟩
  have z0 : (0 : Int) < (N : Int) := by have := HNN.out.1; omega
  have z3 : ¬ N = 0 := by have := HNN.out.1; omega
  have z1 : (0 : Int) ≤ (n : Int) := by omega
  have z2 : (n : Int) < (Nc : Int) := by have := HNN.out.2; omega
  subst hqe
  subst hqc
  clear hkbe hkbc hkw hb1 HR HIN HA HLX hbD k3 k1 hbw hle hlc hin hx1 hce hcc cn hfn hn hnl cm hna hsm hnS hi
  go_wp2_with fail
  refine wp_region_held_drew (S := fun V => V.cell? ⟨w.heap.size, 3, none⟩ = some (.slice (some ⟨bc, oc, none⟩) Nc d) ∧ V.cell? ⟨w.heap.size + 1, 1, none⟩ = some (.slice (some ⟨be, oe, none⟩) N ce) ∧ V.cell? ⟨be, oe + 2, none⟩ = some (.int .i64 (n : Int)) ∧ V.cell? ⟨bc, oc + n * 2, none⟩ = some (.string nS)) (by kernel_rfl) (by rw [hD]; exact HSD.out) (fun hHeld => ?_)
  refine tk0 0 (.pointer (some ⟨w.heap.size, 3, none⟩)) rfl hHeld ?_
  refine tk 1 (.slice (some ⟨bc, oc, none⟩) Nc d) rfl (.inl ⟨by rfl, fun W hW => by obtain ⟨q1, q2, q3, q4⟩ := hW; go_simp⟩) hHeld ?_
  refine tk0 2 (.pointer (some ⟨w.heap.size + 1, 1, none⟩)) rfl hHeld ?_
  refine tk 3 (.slice (some ⟨be, oe, none⟩) N ce) rfl (.inl ⟨by rfl, fun W hW => by obtain ⟨q1, q2, q3, q4⟩ := hW; go_simp⟩) hHeld ?_
  refine tk0 4 (.pointer (some ⟨be, oe, none⟩)) rfl hHeld ?_
  refine tk0 5 (.pointer (some ⟨be, oe + 2, none⟩)) rfl hHeld ?_
  refine tk 6 (.int .i64 (n : Int)) rfl (.inl ⟨by rfl, fun W hW => by obtain ⟨q1, q2, q3, q4⟩ := hW; go_simp⟩) hHeld ?_
  refine tk0 7 (.pointer (some ⟨bc, oc + n * 2, none⟩)) rfl hHeld ?_
  refine tk0 8 (.pointer (some ⟨bc, oc + n * 2, none⟩)) rfl hHeld ?_
  refine tk 9 (.string nS) rfl (.inl ⟨by rfl, fun W hW => by obtain ⟨q1, q2, q3, q4⟩ := hW; go_simp⟩) hHeld ?_
  simp only [Act.put, List.getElem_toArray, List.getElem_cons_zero, List.getElem_cons_succ, List.setIfInBounds_toArray, List.set_cons_zero, List.set_cons_succ]
  rw [hD] at hHeld ⊢
  clear hD
  refine wpAnyH_ready (rs := [10]) (by kernel_rfl) (by simp) ?_
  refine AllReadyH.cons rfl (fun K' hK => ?_) AllReadyH.nil
  rw [if_pos (by rfl)]
  go_simp
  go_at_call 62
  refine CL.out.mono ?_
  rintro e w4 ⟨rfl, hb4⟩
  have HB4 : Hid (Bl w w4) := HBD.out.trans (hb4.mono HBD.out.size)
  have HS4 := hid (HSALL.out w4 hb4)
  refine hK.out _ _ HS4.out (fun hHeld => ?_)
  clear hK K' CL hb4
  refine wpAnyH_ready (rs := [11]) (by kernel_rfl) (by simp) ?_
  refine AllReadyH.cons rfl (fun K' hK => ?_) AllReadyH.nil
  rw [if_pos (by rfl)]
  go_simp
  refine hK _ _ HS4.out (fun hHeld => ?_)
  clear hK K'
  refine wpAnyH_done (by kernel_rfl) ?_ _
  go_wp2_with fail
  go_ret
  exact ⟨HQ.out, HB4.out⟩
theorem kindI_any (K Kc : Nat → Prop) (s : Scp) (p : Option Addr) (d : Nat) (x : Itm) (pe : Option Addr) (ce : Nat) (w : World) (h : ListIs rClm 2 24 Kc w (.slice p s.c.length d) s.c) (hKc : ∀ b, Kc b → b < w.heap.size) (hl : ListIs rStpW 3 32 K w (.slice pe x.e.length ce) x.e) (hK : ∀ b, K b → b < w.heap.size) (hG : GW w) :
 Calls prog 113 #[.agg (scpC s p d), .agg #[.int .u8 (x.g : Int), .slice pe x.e.length ce]] w fun e w' => e = .returned (.int .u8 (kindI s x : Int)) ∧ Bl w w' := by
 obtain ⟨tS, htS⟩ := bya s.t
 obtain ⟨jS, hjS⟩ := bya s.j
 obtain ⟨Nc, hNc⟩ := gen s.c.length
 obtain ⟨wd, hwd⟩ := gen s.w
 have hsc : scpC s p d = #[.string tS, .string jS, .int .i64 (wd : Int), .slice p Nc d] := by unfold scpC; rw [htS, hjS, hNc, hwd]
 obtain ⟨N, hN⟩ := gen x.e.length
 obtain ⟨g, hgg⟩ := gen x.g
 obtain ⟨W0, hW0, hb0, hz0, g0, g1⟩ := two_boxes2 w #[.string tS, .string jS, .int .i64 (wd : Int), .slice p Nc d] #[.int .u8 (g : Int), .slice pe N ce] 67 42
 have c3 := cell_of_row (k := 3) (v := .slice p Nc d) g0 rfl
 have x0 := cell_of_row (k := 0) (v := .int .u8 (g : Int)) g1 rfl
 have x1 := cell_of_row (k := 1) (v := .slice pe N ce) g1 rfl
 have C1 : Hid (Calls prog 14 #[.slice pe N ce, .slice p Nc d] W0 fun e w' => e = .returned (.tuple #[.int .u8 ((kindP x.e s.c).1 : Int), .int .i64 (kindP x.e s.c).2]) ∧ Bl W0 w') := by
  have := kind_any K Kc pe p ce d x.e s.c W0 (hl.later mStpW hK hb0) (h.later mClm hKc hb0) (fun b hb => nlt (hK b hb) hb0.size) (fun b hb => nlt (hKc b hb) hb0.size) (hG.below hb0)
  rwa [hN, hNc] at this
 obtain ⟨k, hk⟩ := gen ((kindP x.e s.c).1)
 obtain ⟨y, hy⟩ := gen ((kindP x.e s.c).2)
 rw [hk, hy] at C1
 obtain ⟨R, hR⟩ := gen (kindI s x)
 have HR : Hid (R = if g = 1 ∨ g = 2 then 2 else k) := by show _ = _; rw [← hR]; unfold kindI; rw [hgg, hk]
 have HB0 := hid hb0
 rw [hN, hgg, hsc, hR]
 clear h hKc hl hK hG htS hjS hNc hwd hsc hN hgg hb0 hz0 g0 g1 hk hy hR
 by_cases h1 : g = 1
 · have y1 : ((g : Int) == 1) = true := by simp [h1]
   have HE : Hid (R = 2) := by show _ = _; rw [HR.out, if_pos (.inl h1)]
   clear HR h1 C1
   go_enter func113, ntmps113
   go_wp2_with fail
   go_ret
   exact ⟨by rw [HE.out]; try rfl, HB0.out⟩
 have y1 : ((g : Int) == 1) = false := bfn (by omega)
 by_cases h2 : g = 2
 · have y2 : ((g : Int) == 2) = true := by simp [h2]
   have HE : Hid (R = 2) := by show _ = _; rw [HR.out, if_pos (.inr h2)]
   clear HR h1 h2 C1
   go_enter func113, ntmps113
   go_wp2_with fail
   go_ret
   exact ⟨by rw [HE.out]; try rfl, HB0.out⟩
 have y2 : ((g : Int) == 2) = false := bfn (by omega)
 have HE : Hid (R = k) := by show _ = _; rw [HR.out, if_neg (by omega)]
 clear HR h1 h2
 go_enter func113, ntmps113
 go_wp2_with fail
 refine C1.out.mono ?_
 rintro e w1 ⟨rfl, hb1⟩
 have HB1 : Hid (Bl w w1) := HB0.out.trans (hb1.mono HB0.out.size)
 clear C1 hb1 c3 x0 x1
 go_wp2_with fail
 go_ret
 exact ⟨by rw [HE.out]; try rfl, HB1.out⟩
theorem namesGo_app (s : Scp) : ∀ (a b : List Itm) (k : Nat), namesGo s k (a ++ b) = namesGo s k a ++ namesGo s (k + a.length) b
 | [], b, k => rfl
 | x :: a, b, k => by
  show nameI s x k :: namesGo s (k + 1) (a ++ b) = _
  rw [namesGo_app s a b (k + 1), List.length_cons, show k + 1 + a.length = k + (a.length + 1) by omega]
  rfl
theorem namesGo_len (s : Scp) : ∀ (l : List Itm) (k : Nat), (namesGo s k l).length = l.length
 | [], _ => rfl
 | x :: l, k => by show (nameI s x k :: namesGo s (k + 1) l).length = _; simp [namesGo_len s l]
theorem names_next (s : Scp) (l : List Itm) (i : Nat) (h : i < l.length) : namesGo s 0 (l.take (i + 1)) = namesGo s 0 (l.take i) ++ [nameI s l[i] i] := by
 rw [List.take_succ_eq_append_getElem h, namesGo_app, List.length_take, show 0 + min i l.length = i by omega]
 rfl
theorem comes_lt (cols : List Clm) (hc : ∀ c ∈ cols, c.k < 256) : ∀ (l : List Stp) (st : List Nat), (∀ k ∈ st, k < 256) → (comesGo cols l st).1 < 256
 | [], st, h => by
  show st.headD 0 < 256
  cases st with
  | nil => decide
  | cons a r => exact h a (List.mem_cons_self ..)
 | x :: l, st, h => by
  show (if fitsP x.k _ then comesGo cols l _ else ((0 : Nat), (5 : Int))).1 < 256
  split
  · refine comes_lt cols hc l _ fun k hk => ?_
    rcases List.mem_append.1 hk with hk | hk
    · exact h k (List.mem_of_mem_take hk)
    · simp at hk; subst hk; exact kindS_lt cols x hc
  · decide
theorem kind_lt (cols : List Clm) (hc : ∀ c ∈ cols, c.k < 256) (l : List Stp) : (kindP l cols).1 < 256 := by
 unfold kindP
 split
 · decide
 · split
   · decide
   · split
     · decide
     · exact comes_lt cols hc l [] (by simp)
theorem kindI_lt (s : Scp) (hc : ∀ c ∈ s.c, c.k < 256) (x : Itm) : kindI s x < 256 := by
 unfold kindI
 split
 · decide
 · exact kind_lt s.c hc x.e
theorem nameI_len (s : Scp) (hc : ∀ c ∈ s.c, c.n.length ≤ 140737488355328) (x : Itm) (i : Nat) (hi : i < 99) : (nameI s x i).length ≤ 140737488355328 := by
 unfold nameI
 split
 · unfold nameAt
   cases hg : s.c[(firstN x).toNat]? with
   | none => simp
   | some c => exact hc c (List.mem_of_getElem? hg)
 · rw [itoa_nat, List.length_cons]
   have := digits_short (i + 1) (by omega)
   omega
theorem own_type {α : Type} {K : Nat → Prop} {rel : Rel α} {size : Nat} {te t : TypeId} {base g : Nat} {X : World} {u : Value} {xs : List α} {a : Array Value} (h : OwnK K rel size te base X u xs) (hg : X.heap[g]? = some (.cells a t (0, 0))) (ht : t ≠ te) : u.ownBlock ≠ some g := fun e => by
 obtain ⟨cells, ⟨hl, ⟨rfl, hn⟩ | ⟨g', cap, cur, rfl, hb, hg', r⟩⟩, hr⟩ := h
 · cases e
 · simp only [Value.ownBlock, Option.map_some, Option.some.injEq] at e
   exact blk_ne hg hg' ht e.symm
theorem own_keep {α : Type} {rel : Rel α} (hf : Flat rel) {size : Nat} {te : TypeId} {base : Nat} {W W' : World} {u : Value} {xs : List α} (h : OwnK (fun _ => False) rel size te base W u xs) (hk : ∀ (g : Nat) (cur : Array Value), W.heap[g]? = some (Obj.cells cur te (0, 0)) → W'.heap[g]? = W.heap[g]?) : OwnK (fun _ => False) rel size te base W' u xs := by
 obtain ⟨cells, ⟨hl, ⟨rfl, hn⟩ | ⟨g, cap, cur, rfl, h1, hg, r⟩⟩, hr⟩ := h
 · exact ⟨cells, ⟨hl, .inl ⟨rfl, hn⟩⟩, fun j hj => hf.1 _ _ _ _ _ _ (hr j hj)⟩
 · exact ⟨cells, ⟨hl, .inr ⟨g, cap, cur, rfl, h1, (hk g cur hg).trans hg, r⟩⟩, fun j hj => hf.1 _ _ _ _ _ _ (hr j hj)⟩
theorem own_below {α : Type} {K : Nat → Prop} {rel : Rel α} {size : Nat} {te : TypeId} {base B : Nat} {w0 X X2 : World} {u : Value} {xs : List α} (h : OwnK K rel size te base X u xs) (hk : Kept (fun b => b < X.heap.size ∧ u.ownBlock ≠ some b) X X2) (hb : Below B w0 X) (hB : B ≤ base) (hs : base ≤ X.heap.size) : Below B w0 X2 := by
 obtain ⟨cells, ho, hr⟩ := h
 refine ⟨hk.os.trans hb.os, hk.tape.trans hb.tape, hk.output.trans hb.output, by have := hk.size; have := hb.size; omega, fun b hlt => (hk.block b ⟨by omega, fun e => ?_⟩).trans (hb.block b hlt)⟩
 have := (ho.lt _ e).1
 omega
theorem fStrW : Flat rStrW := ⟨fun _ _ _ _ _ _ h => h, fun K W cs x h u hu => by rw [h.1] at hu; simp at hu; subst hu; rfl⟩
theorem fKnd : Flat rKnd := ⟨fun _ _ _ _ _ _ h => h, fun K W cs x h u hu => by rw [h.1] at hu; simp at hu; subst hu; rfl⟩
theorem ownF_list {α : Type} {rel : Rel α} (hf : Flat rel) {size bytes : Nat} {te : TypeId} {base : Nat} {W : World} {u : Value} {xs : List α} (h : OwnK (fun _ => False) rel size te base W u xs) (hb : xs.length * bytes ≤ 140737488355328) : ListIs rel size bytes (From base W) W u xs := by
 obtain ⟨cells, ho, hr⟩ := h
 exact own_list (te := te) hf ho hb hr
theorem ownF_slice {α : Type} {K : Nat → Prop} {rel : Rel α} {size : Nat} {te : TypeId} {base : Nat} {W : World} {u : Value} {xs : List α} (h : OwnK K rel size te base W u xs) : ∃ p c, u = .slice p xs.length c := by
 obtain ⟨cells, ho, hr⟩ := h
 exact owns_slice ho
def AnsE (s : Scp) (l : List Itm) (B : Nat) (w' : World) (e : Ending) : Prop := ∃ p1 c1 p2 c2, e = .returned (.tuple #[.slice p1 l.length c1, .slice p2 l.length c2]) ∧ ListIs rStrW 1 16 (From B w') w' (.slice p1 l.length c1) (namesGo s 0 l) ∧ ListIs rKnd 1 1 (From B w') w' (.slice p2 l.length c2) (l.map (kindI s))
theorem answer_any (K Kc : Nat → Prop) (s : Scp) (p : Option Addr) (d : Nat) (q : Option Addr) (c : Nat) (l : List Itm) (w : World) (h : ListIs rClm 2 24 Kc w (.slice p s.c.length d) s.c) (hKc : ∀ b, Kc b → b < w.heap.size) (hl : ListIs rItmW 2 32 K w (.slice q l.length c) l) (hK : ∀ b, K b → b < w.heap.size) (h8 : l.length ≤ 8) (hin : ∀ x ∈ l, isColI x = true → 0 ≤ firstN x ∧ firstN x < (s.c.length : Int)) (hG : GW w) :
 Calls prog 68 #[.agg (scpC s p d), .slice q l.length c] w fun e w' => AnsE s l w.heap.size w' e ∧ Bl w w' := by
 obtain ⟨tS, htS⟩ := bya s.t
 obtain ⟨jS, hjS⟩ := bya s.j
 obtain ⟨Nc, hNc⟩ := gen s.c.length
 obtain ⟨wd, hwd⟩ := gen s.w
 have hsc : scpC s p d = #[.string tS, .string jS, .int .i64 (wd : Int), .slice p Nc d] := by unfold scpC; rw [htS, hjS, hNc, hwd]
 obtain ⟨W0, hW0⟩ := gen (w.alloc (.cells #[.string tS, .string jS, .int .i64 (wd : Int), .slice p Nc d] 67))
 have hb0 : Bl w W0 := by rw [← hW0]; exact below_alloc _ _
 have hg0 : W0.heap[w.heap.size]? = some (.cells #[.string tS, .string jS, .int .i64 (wd : Int), .slice p Nc d] 67 (0, 0)) := by rw [← hW0]; exact heap_alloc_new w _
 have hs0 : W0.heap.size = w.heap.size + 1 := by rw [← hW0]; simp
 have HBX : Hid (∀ V, Bl W0 V → V.rangeAt w.heap.size 0 [.string tS, .string jS, .int .i64 (wd : Int), .slice p Nc d] ∧ Bl w V) := fun V hV => ⟨rgz ((hV.block _ (by omega)).trans hg0), hb0.trans (hV.mono (by omega))⟩
 have HNM : Hid (∀ V, Bl w V → ∀ (x : Itm) (pe : Option Addr) (ce i : Nat), ListIs rStpW 3 32 K V (.slice pe x.e.length ce) x.e → i < 99 → (isColI x = true → 0 ≤ firstN x ∧ firstN x < (s.c.length : Int)) → Calls prog 112 #[.agg #[.string tS, .string jS, .int .i64 (wd : Int), .slice p Nc d], .agg #[.int .u8 (x.g : Int), .slice pe x.e.length ce], .int .i64 (i : Int)] V fun e w' => e = .returned (.string ⟨(nameI s x i).toArray⟩) ∧ Bl V w') := fun V hV x pe ce i h2 hi h3 => by
  have := nameI_any K Kc s p d x pe ce i V (h.later mClm hKc hV) (fun b hb => nlt (hKc b hb) hV.size) h2 (fun b hb => nlt (hK b hb) hV.size) hi h3
  rwa [hsc] at this
 have HKN : Hid (∀ V, Bl w V → ∀ (x : Itm) (pe : Option Addr) (ce : Nat), ListIs rStpW 3 32 K V (.slice pe x.e.length ce) x.e → Calls prog 113 #[.agg #[.string tS, .string jS, .int .i64 (wd : Int), .slice p Nc d], .agg #[.int .u8 (x.g : Int), .slice pe x.e.length ce]] V fun e w' => e = .returned (.int .u8 (kindI s x : Int)) ∧ Bl V w') := fun V hV x pe ce h2 => by
  have := kindI_any K Kc s p d x pe ce V (h.later mClm hKc hV) (fun b hb => nlt (hKc b hb) hV.size) h2 (fun b hb => nlt (hK b hb) hV.size) (hG.below hV)
  rwa [hsc] at this
 have HSM : Hid ((∀ c ∈ s.c, c.k < 256) ∧ ∀ c ∈ s.c, c.n.length ≤ 140737488355328) := ⟨clm_lt h, clm_ok h⟩
 have HIN := hid hin
 have HL := hid hl
 have HK := hid hK
 obtain ⟨N, hN⟩ := gen l.length
 have HN := hid hN
 have HZ : Hid (W0.heap.size = w.heap.size + 1) := hs0
 have HQE : Hid (∀ (p1 p2 : Option Addr) (c1 c2 : Nat) (w' : World), ListIs rStrW 1 16 (From w.heap.size w') w' (.slice p1 N c1) (namesGo s 0 l) → ListIs rKnd 1 1 (From w.heap.size w') w' (.slice p2 N c2) (l.map (kindI s)) → AnsE s l w.heap.size w' (.returned (.tuple #[.slice p1 N c1, .slice p2 N c2]))) := fun p1 p2 c1 c2 w' h1 h2 => ⟨p1, c1, p2, c2, by rw [hN], by rw [hN]; exact h1, by rw [hN]; exact h2⟩
 rw [hN] at h8
 rw [hsc, hN]
 clear h hKc hl hK hin hG htS hjS hNc hwd hsc hb0 hg0 hs0 hN
 obtain ⟨i9, hi9, hz9, hs9, hb9⟩ := inE_str
 obtain ⟨i43, hi43, hz43, hs43, hb43⟩ := info43
 go_enter func68, ntmps68
 go_wp2_with fail
 go_loopg [6, 7, 12] N (fun gf s6 s7 s12 wx => ∃ (i : Nat) (a1 a2 : Option Addr) (c1 c2 : Nat), s6 = .slice a1 i c1 ∧ s7 = .slice a2 i c2 ∧ s12 = .int .i64 i ∧ i ≤ N ∧ N ≤ i + gf ∧ Hid (Bl W0 wx) ∧ Hid (OwnK (fun _ => False) rStrW 1 9 W0.heap.size wx (.slice a1 i c1) (namesGo s 0 (l.take i))) ∧ Hid (OwnK (fun _ => False) rKnd 1 43 W0.heap.size wx (.slice a2 i c2) ((l.take i).map (kindI s))))
 case atStart => exact ⟨0, none, none, 0, 0, rfl, rfl, rfl, by omega, by omega, Below.refl _ _, ⟨[], World.ownsRow_nil _ _ _ _, fun j hj => by simp [namesGo] at hj⟩, ⟨[], World.ownsRow_nil _ _ _ _, fun j hj => by simp at hj⟩⟩
 case round =>
  obtain ⟨i, a1, a2, c1, c2, rfl, rfl, rfl, hi1, hgf, HB, HO1, HO2⟩ := hrel
  by_cases hi : i < N
  · obtain ⟨g', rfl⟩ : ∃ g', gk = g' + 1 := ⟨gk - 1, by omega⟩
    have hil : i < l.length := by rw [HN.out]; exact hi
    obtain ⟨-, hbw⟩ := HBX.out wr HB.out
    have hkr : ∀ b, K b → b < wr.heap.size := fun b hb => nlt (HK.out b hb) hbw.size
    obtain ⟨b, o, hq, _, hc⟩ := itm_w (HL.out.mono mItmW (fun _ h => h) (kept_of HK.out hbw)) (by omega)
    subst hq
    obtain ⟨pe, ce, hrg, hle, hg256⟩ := hc i hil
    have hnx := names_next s l i hil
    have hkx : (l.take (i + 1)).map (kindI s) = (l.take i).map (kindI s) ++ [kindI s l[i]] := by rw [List.take_succ_eq_append_getElem hil, List.map_append]; rfl
    have hinx := HIN.out _ (List.getElem_mem hil)
    obtain ⟨x, hx⟩ := gen (l[i])
    rw [hx] at hrg hle hnx hkx hinx
    obtain ⟨L, hL⟩ := gen x.e.length
    obtain ⟨g, hgg⟩ : ∃ g : Int, (x.g : Int) = g := ⟨_, rfl⟩
    rw [hL, hgg] at hrg
    have HRG := hid hrg
    obtain ⟨WA, hWA, hth, V1, hV1, hg1, hb1⟩ := box_two wr 42 (.int .u8 0) (.slice none 0 0) (.int .u8 g) (.slice pe L ce)
    have HTH := hid hth
    have HV1 := hid hV1
    have hl1 : wr.heap.size < V1.heap.size := (gsi hg1).1
    have HB1 : Hid (Bl W0 V1) := HB.out.trans (hb1.mono HB.out.size)
    obtain ⟨hs1, hbw1⟩ := HBX.out V1 HB1.out
    have HS1 := hid hs1
    have HR1 : Hid (V1.rangeAt wr.heap.size 0 [.int .u8 g, .slice pe L ce]) := rgz hg1
    have hle1 : ListIs rStpW 3 32 K V1 (.slice pe x.e.length ce) x.e := hle.mono mStpW (fun _ h => h) (kept_of hkr hb1)
    have C1 := hid (HNM.out V1 hbw1 x pe ce i hle1 (by omega) hinx)
    obtain ⟨S, hS⟩ := bya (nameI s x i)
    rw [hL, hgg, hS] at C1
    have HSS : Hid ((⟨(nameI s x i).toArray⟩ : ByteArray) = S) := hS
    have HO1V : Hid (OwnK (fun _ => False) rStrW 1 9 W0.heap.size V1 (.slice a1 i c1) (namesGo s 0 (l.take i))) := own_keep fStrW HO1.out fun g cur hg => hb1.block g (gsi hg).1
    have HO2V : Hid (OwnK (fun _ => False) rKnd 1 43 W0.heap.size V1 (.slice a2 i c2) ((l.take i).map (kindI s))) := own_keep fKnd HO2.out fun g cur hg => hb1.block g (gsi hg).1
    have HX : Hid (x.e.length = L ∧ (x.g : Int) = g ∧ nameI s x i = nameI s x i) := ⟨hL, hgg, rfl⟩
    have HNX := hid hnx
    have HKX := hid hkx
    have HLE1 := hid hle1
    have HG1 : Hid (V1.heap[wr.heap.size]? = some (.cells #[.int .u8 g, .slice pe L ce] 42 (0, 0)) ∧ wr.heap.size < V1.heap.size) := ⟨hg1, hl1⟩
    have hlt1 : (namesGo s 0 (l.take i)).length = i := by rw [namesGo_len, List.length_take]; omega
    have hlt2 : ((l.take i).map (kindI s)).length = i := by rw [List.length_map, List.length_take]; omega
    have HLT : Hid ((namesGo s 0 (l.take i)).length = i ∧ ((l.take i).map (kindI s)).length = i) := ⟨hlt1, hlt2⟩
    have z0 : (0 : Int) ≤ (i : Int) := by omega
    have z1 : (i : Int) < (N : Int) := by omega
    clear hc hrg hle hg256 hnx hkx hinx hx hL hgg hth hV1 hg1 hb1 hl1 hs1 hbw1 hle1 hS hbw hkr hil HB HO1 HO2 hlt1 hlt2
    go_wp2_with (first | (refine wpList_load_mid rfl 42 _ rfl b (o + i * 2) rfl _ _ HRG.out underlying42 rfl sz_item ?_) | (refine wpList_store_mid rfl 42 _ _ rfl wr.heap.size 0 #[.int .u8 g, .slice pe L ce] rfl rfl HTH.out sz_item (by simp [Value.oneCell']) ?_; rw [show WA.setCells wr.heap.size 0 (#[.int .u8 g, .slice pe L ce] : Array Value).toList = V1 from HV1.out]) | (refine wpList_load_mid rfl 67 _ rfl w.heap.size 0 rfl _ _ HS1.out underlying67 rfl sz_scp ?_) | (refine wpList_load_mid rfl 42 _ rfl wr.heap.size 0 rfl _ _ HR1.out underlying42 rfl sz_item ?_))
    refine C1.out.mono ?_
    rintro e w2 ⟨rfl, hb2⟩
    have HB2 : Hid (Bl W0 w2) := HB1.out.trans (hb2.mono HB1.out.size)
    have ho1 := own_keep fStrW HO1V.out (W' := w2) fun g cur hg => hb2.block g (gsi hg).1
    have ho2 := own_keep fKnd HO2V.out (W' := w2) fun g cur hg => hb2.block g (gsi hg).1
    obtain ⟨v3, X3, e3, ho3, hk3⟩ := ho1.push mStrW (bytes := 16) (ts := 24) underlying24 hi9 hz9 hs9 hb9 rfl (by omega) HB2.out.size (x := nameI s x i) (cs := [.string S]) rfl (by intro c hc; simp at hc; subst hc; rfl) (fun b hb => hb.elim) ⟨by rw [HSS.out], nameI_len s HSM.out.2 x i (by omega)⟩ (by rw [HLT.out.1]; omega) (by rw [HLT.out.1]; unfold maxLen; omega)
    obtain ⟨a3, c3, ev⟩ := ownF_slice ho3
    rw [List.length_append, HLT.out.1] at ev
    have ev2 : v3 = .slice a3 (i + 1) c3 := ev
    subst ev2
    have HE3 := hid e3
    have hg2 := (hb2.block _ HG1.out.2).trans HG1.out.1
    have hb3 : Bl W0 X3 := own_below ho1 hk3 HB2.out (Nat.le_refl _) HB2.out.size
    have hlw2 : wr.heap.size < w2.heap.size := (gsi hg2).1
    have hg3 := (hk3.block _ ⟨hlw2, own_type ho1 hg2 (by decide)⟩).trans hg2
    have ho2b := own_keep fKnd ho2 (W' := X3) fun g cur hg => hk3.block g ⟨(gsi hg).1, own_type ho1 hg (by decide)⟩
    obtain ⟨hs3, hbw3⟩ := HBX.out X3 hb3
    have HS3 := hid hs3
    have HR3 : Hid (X3.rangeAt wr.heap.size 0 [.int .u8 g, .slice pe L ce]) := rgz hg3
    have hle3 : ListIs rStpW 3 32 K X3 (.slice pe x.e.length ce) x.e := HLE1.out.mono mStpW (fun _ h => h) ⟨hb3.os.trans HB1.out.os.symm, hb3.tape.trans HB1.out.tape.symm, hb3.output.trans HB1.out.output.symm, by have := hb2.size; have := hk3.size; omega, fun b hb => by
     have h1 := HK.out b hb
     have h2 : b < W0.heap.size := by have := HZ.out; omega
     exact (hb3.block b h2).trans (HB1.out.block b h2).symm⟩
    have C4 := hid (HKN.out X3 hbw3 x pe ce hle3)
    rw [HX.out.1, HX.out.2.1] at C4
    obtain ⟨k, hk⟩ := gen (kindI s x)
    have HKK := hid hk
    rw [hk] at C4
    have HB3 := hid hb3
    have HO3 := hid ho3
    have HO2B := hid ho2b
    clear C1 hb2 ho1 ho2 e3 ho3 hk3 ev hg2 hb3 hlw2 hg3 ho2b hs3 hbw3 hle3 hk HO1V HO2V HS1 HR1
    go_wp2_with (first | (at_builtin; refine Lib.wpList_append_run _ rfl _ _ _ _ rfl (.slice a1 i c1) (.slice (some ⟨w2.heap.size, 0, none⟩) 1 1) rfl rfl _ _ HE3.out ?_) | (refine wpList_load_mid rfl 67 _ rfl w.heap.size 0 rfl _ _ HS3.out underlying67 rfl sz_scp ?_) | (refine wpList_load_mid rfl 42 _ rfl wr.heap.size 0 rfl _ _ HR3.out underlying42 rfl sz_item ?_))
    refine C4.out.mono ?_
    rintro e w4 ⟨rfl, hb4⟩
    have HB4 : Hid (Bl W0 w4) := HB3.out.trans (hb4.mono HB3.out.size)
    have ho4 := own_keep fStrW HO3.out (W' := w4) fun g cur hg => hb4.block g (gsi hg).1
    have ho5 := own_keep fKnd HO2B.out (W' := w4) fun g cur hg => hb4.block g (gsi hg).1
    obtain ⟨v5, X5, e5, ho6, hk5⟩ := ho5.push mKnd (bytes := 1) (ts := 30) underlying30 hi43 hz43 hs43 hb43 rfl (by omega) HB4.out.size (x := k) (cs := [.int .u8 (k : Int)]) rfl (by intro c hc; simp at hc; subst hc; rfl) (fun b hb => hb.elim) ⟨rfl, by rw [← HKK.out]; exact kindI_lt s HSM.out.1 x⟩ (by rw [HLT.out.2]; omega) (by rw [HLT.out.2]; unfold maxLen; omega)
    obtain ⟨a5, c5, ev⟩ := ownF_slice ho6
    rw [List.length_append, HLT.out.2] at ev
    have ev2 : v5 = .slice a5 (i + 1) c5 := ev
    subst ev2
    have HE5 := hid e5
    have HB5 : Hid (Bl W0 X5) := own_below ho5 hk5 HB4.out (Nat.le_refl _) HB4.out.size
    have HO5 : Hid (OwnK (fun _ => False) rStrW 1 9 W0.heap.size X5 (.slice a3 (i + 1) c3) (namesGo s 0 (l.take (i + 1)))) := by
     show OwnK _ _ _ _ _ _ _ _
     rw [HNX.out]
     exact own_keep fStrW ho4 fun g cur hg => hk5.block g ⟨(gsi hg).1, own_type ho5 hg (by decide)⟩
    have HO6 : Hid (OwnK (fun _ => False) rKnd 1 43 W0.heap.size X5 (.slice a5 (i + 1) c5) ((l.take (i + 1)).map (kindI s))) := by
     show OwnK _ _ _ _ _ _ _ _
     rw [HKX.out, HKK.out]
     exact ho6
    clear C4 hb4 ho4 ho5 e5 ho6 hk5 ev HO3 HO2B HS3 HR3
    go_wp2_with (at_builtin; refine Lib.wpList_append_run _ rfl _ _ _ _ rfl (.slice a2 i c2) (.slice (some ⟨w4.heap.size, 0, none⟩) 1 1) rfl rfl _ _ HE5.out ?_)
    go_roundg g'
    case measure => omega
    case rel => exact ⟨i + 1, a3, a5, c3, c5, rfl, rfl, by go_num, by omega, by omega, HB5, HO5, HO6⟩
  · have z1 : ¬ (i : Int) < (N : Int) := by omega
    have hiN : i = N := by omega
    subst hiN
    have HBW := hid (HBX.out wr HB.out).2
    have HQ : Hid (AnsE s l w.heap.size wr (.returned (.tuple #[.slice a1 i c1, .slice a2 i c2]))) := by
     have h1 := HO1.out
     have h2 := HO2.out
     have ht : l.take i = l := List.take_of_length_le (by rw [HN.out]; omega)
     rw [ht] at h1 h2
     exact HQE.out a1 a2 c1 c2 wr ((ownF_list fStrW h1 (by rw [namesGo_len, HN.out]; omega)).less mStrW (by have := HZ.out; omega)) ((ownF_list fKnd h2 (by rw [List.length_map, HN.out]; omega)).less mKnd (by have := HZ.out; omega))
    clear HO1 HO2 HQE
    go_wp2_with fail
    go_ret2
    exact ⟨HQ.out, HBW.out⟩
end Go.Proofs.YtfifphfihdhlaaaGreatDoor.Bd

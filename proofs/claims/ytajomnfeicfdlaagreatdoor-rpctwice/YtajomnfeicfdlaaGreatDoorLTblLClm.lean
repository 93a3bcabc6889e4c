/- What list answers of Tbl. -/
import Derived.Test.YtajomnfeicfdlaaGreatDoorWkWm
namespace Go.Proofs.YtajomnfeicfdlaaGreatDoor
open Go.Shelf Go.RowKit Go.Lib
set_option linter.unusedVariables false
set_option linter.unusedSimpArgs false
attribute [local go_sem ↓] Go.wp_at_zero Go.wp_at_succ
set_option maxRecDepth 100000 in
set_option maxHeartbeats 4000000 in
theorem list41_any (part : St → Tbl → Tbl × St) (d : Tbl) (most c t p F : Nat) (rv : Value) (hmost : most ≤ 600) (hcb : c ≤ 400000) (hg : Grows part c) (eF : ∀ args w, (callFunc F args).run Tryz.prog w = .ok (.enter F args) w)
  (hp : PartC rTbl part c t p F #[rv]) :
  ListC rTbl 3 64 most part d c t p 129 (.func (.func F) #[rv] #[]) := by
 intro K D w st v xs htb h hDK hxs hl
 have HTB : Hid (Tabs K w) := htb
 have HDK : Hid (∀ b, D b → K b) := hDK
 obtain ⟨W0, hW0, hP0, hK0, hs0, hg0⟩ := h.box
 obtain ⟨K1, hK1⟩ : ∃ K1 : Nat → Prop, (fun b => K b ∨ b = w.heap.size) = K1 := ⟨_, rfl⟩
 rw [hK1] at hP0
 have HKK : Hid (∀ b, K b → K1 b) := fun b hb => by rw [← hK1]; exact .inl hb
 have HK1b : Hid (K1 w.heap.size) := by show K1 _; rw [← hK1]; exact .inr rfl
 have cw := cellR (k := 0) hg0 rfl
 have hm := m_num h.isT p
 have eg := e_num h.isT
 have hm2 := m_fail h.isT p
 have hm3 := m_failed h.isT p
 have eg3 := e_failed h.isT
 have hrd := h.rd74
 have hT0 := h.isT
 have HNE : Hid (¬ t = 212) := h.ne
 obtain ⟨NF, hNF⟩ : ∃ F, nuF t = F := ⟨_, rfl⟩
 obtain ⟨DF, hDF⟩ : ∃ F, fdF t = F := ⟨_, rfl⟩
 rw [hNF] at hm eg
 rw [hDF] at hm3 eg3
 have HDF : Hid (fdF t = DF) := hDF
 have HLI : Hid (ListIs rTbl 3 64 D w v xs) := hxs
 obtain ⟨q, cp, rfl, hbytes, hcells⟩ := hxs
 have HCE : Hid (0 < xs.length → ∃ b o, q = some ⟨b, o, none⟩ ∧ D b ∧ ∀ j (h : j < xs.length), ∃ cs, cs.length = 3 ∧ (∀ i u, cs[i]? = some u → w.cell? ⟨b, o + j * 3 + i, none⟩ = some u) ∧ rTbl D w cs xs[j]) := hcells
 have hxl : xs.length < 18446744073709551616 := by omega
 have hxl2 : xs.length ≤ 140737488355328 := by omega
 obtain ⟨⟨n1, st1⟩, hn1⟩ : ∃ q, numP st xs.length = q := ⟨_, rfl⟩
 have hnl := numP_len st xs.length
 have hnr := numP_reads st xs.length
 have hn64 : n1 < 18446744073709551616 := by have := numP_lt st xs.length hxl; rw [hn1] at this; exact this
 rw [hn1] at hnl hnr
 simp only at hnl hnr
 have C : Hid (Calls Tryz.prog NF #[.pointer (some ⟨p, 0, none⟩), .int .u64 (xs.length : Int)] W0 fun e w' => e = .returned (.int .u64 (n1 : Int)) ∧ PortIs K1 w' t p st1 ∧ Kept K1 W0 w') := by
  have := num_any _ t p st xs.length W0 hP0 hxl (by omega)
  rw [hn1, hNF] at this
  exact this
 obtain ⟨st2, hst2⟩ : ∃ st2, (if most < n1 then failP st1 else st1) = st2 := ⟨_, rfl⟩
 have hl2 : st2.len = st1.len := by rw [← hst2]; split; exact failP_len _; rfl
 have hr2 : st2.reads = st.reads := by rw [← hst2, ← hnr]; split; exact failP_reads _; rfl
 have HLN : Hid (max st2.len 65536 + c ≤ 990000) := by show _ ≤ _; omega
 have HLN0 : Hid (65536 + c + c ≤ 990000) := by show _ ≤ _; omega
 have HGR : Hid (Grows part c) := hg
 have HPC : Hid (PartC rTbl part c t p F #[rv]) := hp
 have HG0 : Hid (W0.heap[w.heap.size]? = some (wb t p)) := hg0
 have HK0 : Hid (Kept K w W0) := hK0
 have HFA : Hid (∀ W, PortIs K1 W t p st1 → Calls Tryz.prog 182 #[.pointer (some ⟨p, 0, none⟩)] W fun e w' => e = .returned (.tuple #[]) ∧ PortIs K1 w' t p (failP st1) ∧ Kept K1 W w') := fun W h => fail_any K1 t p st1 W h
 have hll : (listP most part d st xs) = if st2.reads then takenP part d n1 st2 [] else (xs, eachP part st2 xs) := by simp only [listP, hn1, hst2]
 unfold wk
 clear htb hDK hP0 hK0 hg0 hcells hNF hDF hn1 hK1 h hs0 hg hp hnr
 by_cases ht : t = 212
 ·exact absurd ht HNE.out
 ·have hta : ∀ (v : Value) (W : World), (Instr.typeAssert (.iface t v) 127 212 true).run Tryz.prog W = .ok (.tuple #[.pointer none, .bool false]) W := by
   rcases hT0 with rfl | rfl | rfl
   ·exact fun v W => by kernel_rfl
   ·exact fun v W => by kernel_rfl
   ·exact absurd rfl ht
  have HLP : Hid (listP most part d st xs = (xs, eachP part st2 xs)) := by show _ = _; rw [hll, if_neg (by rw [hr2]; intro e; exact ht (hrd.1 e))]
  clear hll hrd hr2 hT0 ht HNE
  by_cases hc : most < n1
  ·rw [if_pos hc] at hst2
   have z0 : (most : Int) < (n1 : Int) := by omega
   go_enter Tryz.func129, Tryz.ntmps129
   go_wp2_with (first | (go_at_fn NF; refine C.out.mono ?_; rintro e w1 ⟨rfl, h1, h2⟩; have H1 : Hid (PortIs K1 w1 t p st1 ∧ Kept K1 W0 w1) := ⟨h1, h2⟩; have hg1 := (h2.block _ HK1b.out).trans HG0.out; have cw1 := cellR (k := 0) hg1 rfl; have HG1 : Hid (w1.heap[w.heap.size]? = some (wb t p)) := hg1; clear h1 h2 hg1 C) | (go_at_call 182; refine (HFA.out _ H1.out.1).mono ?_; rintro e W2 ⟨rfl, h1, h2⟩; rw [hst2] at h1; have HP2 : Hid (PortIs K1 W2 t p st2) := h1; have HKW2 : Hid (Kept K w W2) := HK0.out.trans ((H1.out.2.trans h2).less HKK.out); have hg2 := (h2.block _ HK1b.out).trans HG1.out; have cw2 := cellR (k := 0) hg2 rfl; have HG2 : Hid (W2.heap[w.heap.size]? = some (wb t p)) := hg2; clear h1 h2 hg2))
   go_loopg [39] xs.length (fun gf s39 wx => ∃ (i : Nat) (sti : St) (Ki : Nat → Prop), s39 = .int .i64 (i : Int) ∧ Hid (i + gf = xs.length) ∧ Hid (eachP part sti (xs.drop i) = eachP part st2 xs) ∧ Hid (PortIs Ki wx t p sti) ∧ Hid ((∀ b, K1 b → Ki b) ∧ Kept K1 W2 wx ∧ max sti.len 65536 + c ≤ 990000))
   case atStart => exact ⟨0, st2, K1, rfl, (by show _ = _; omega), rfl, HP2, fun _ h => h, Kept.refl _ _, HLN.out⟩
   case round =>
    obtain ⟨i, sti, Ki, rfl, H1, H3, H4, H5⟩ := hrel
    have hcw : wr.heap[w.heap.size]? = some (wb t p) := (H5.out.2.1.block _ (HK1b.out)).trans HG2.out
    have cwr := cellR (k := 0) hcw rfl
    by_cases hi : i < xs.length
    ·obtain ⟨g', rfl⟩ : ∃ g', gk = g' + 1 := ⟨gk - 1, by have := H1.out; omega⟩
     obtain ⟨b, o, rfl, hKb, hall⟩ := HCE.out (by omega)
     obtain ⟨cs, hcl, hcc, hrel0⟩ := hall i hi
     have HKW : Hid (Kept K w wr) := HKW2.out.trans (H5.out.2.1.less HKK.out)
     have HST : Hid (xs.drop i = xs[i] :: xs.drop (i + 1)) := by show _ = _; exact List.drop_eq_getElem_cons hi
     obtain ⟨X, hX⟩ : ∃ X, xs[i] = X := ⟨_, rfl⟩
     rw [hX] at hrel0 HST
     clear hX
     have hre : rTbl D wr cs X := mTbl _ _ _ _ _ _ (fun _ h => h) (HKW.out.less HDK.out) hrel0
     obtain ⟨xn, xc, xr⟩ := X
     obtain ⟨v0, u0, hcs, _, hv, hu⟩ := hrel0
     obtain ⟨q1, c1, rfl, _⟩ := hv
     obtain ⟨q2, c2, rfl, _⟩ := hu
     replace hcs : cs = [Value.string xn, Value.slice q1 xc.length c1, Value.slice q2 xr.length c2] := hcs
     subst hcs
     have HRE : Hid (rTbl D wr [Value.string xn, Value.slice q1 xc.length c1, Value.slice q2 xr.length c2] ⟨xn, xc, xr⟩) := hre
     have f0 : wr.cell? ⟨b, o + i * 3 + 0, none⟩ = some (Value.string xn) := by rw [HKW.out.cell (p := ⟨b, _, none⟩) (HDK.out _ hKb)]; exact hcc 0 _ rfl
     have f1 : wr.cell? ⟨b, o + i * 3 + 1, none⟩ = some (Value.slice q1 xc.length c1) := by rw [HKW.out.cell (p := ⟨b, _, none⟩) (HDK.out _ hKb)]; exact hcc 1 _ rfl
     have f2 : wr.cell? ⟨b, o + i * 3 + 2, none⟩ = some (Value.slice q2 xr.length c2) := by rw [HKW.out.cell (p := ⟨b, _, none⟩) (HDK.out _ hKb)]; exact hcc 2 _ rfl
     have f0' : wr.cell? ⟨b, o + i * 3, none⟩ = some (Value.string xn) := f0
     have z0 : (0 : Int) ≤ (i : Int) := by omega
     have z1 : (i : Int) < (xs.length : Int) := by omega
     obtain ⟨W3, hW3⟩ : ∃ W3, wr.alloc (.cells #[Value.string xn, Value.slice q1 xc.length c1, Value.slice q2 xr.length c2] 97) = W3 := ⟨_, rfl⟩
     have hbx : W3.heap[wr.heap.size]? = some (.cells #[Value.string xn, Value.slice q1 xc.length c1, Value.slice q2 xr.length c2] 97 (0, 0)) := by rw [← hW3]; exact heap_alloc_new wr _
     have hPX : PortIs (fun b => Ki b ∨ b = wr.heap.size) W3 t p sti := by rw [← hW3]; exact H4.out.alloc _
     have hKX : Kept Ki wr W3 := by rw [← hW3]; exact (Kept.refl Ki wr).alloc H4.out.lt _
     have cw3 : W3.cell? ⟨w.heap.size, 0, none⟩ = some (.iface t (.pointer (some ⟨p, 0, none⟩))) := cellR ((hKX.block _ (H5.out.1 _ HK1b.out)).trans hcw) rfl
     have CD : Hid (Calls Tryz.prog DF #[.pointer (some ⟨p, 0, none⟩)] W3 fun e w' => e = .returned (.bool (failedP sti)) ∧ PortIs (fun b => Ki b ∨ b = wr.heap.size) w' t p sti ∧ Kept (fun b => Ki b ∨ b = wr.heap.size) W3 w') := by
      have := failed_any _ t p sti W3 hPX
      rw [HDF.out] at this
      exact this
     have HBX : Hid (W3.heap[wr.heap.size]? = some (.cells #[Value.string xn, Value.slice q1 xc.length c1, Value.slice q2 xr.length c2] 97 (0, 0))) := hbx
     have HKX : Hid (Kept Ki wr W3) := hKX
     have HKB : Hid (D b) := hKb
     clear hbx hPX hKX hcw hcl hcc hre hall hKb
     cases hfd : failedP sti with
     | true =>
      rw [hfd] at CD
      have HEQ : Hid (eachP part st2 xs = sti) := by show _ = _; rw [← H3.out, HST.out]; simp only [eachP]; rw [if_pos hfd]
      clear hfd
      go_wp2_with (go_at_fn DF; refine CD.out.mono ?_; rintro e w4 ⟨rfl, h1, h2⟩; have H6 : Hid (PortIs Ki w4 t p sti ∧ Kept Ki wr w4) := ⟨h1.less fun b hb => Or.inl hb, HKX.out.trans (h2.less fun b hb => Or.inl hb)⟩; clear h1 h2 CD)
      go_ret
      have hk4 : Kept K w w4 := HKW.out.trans (H6.out.2.less fun b hb => H5.out.1 b (HKK.out b hb))
      have hki : ∀ b, K b → Ki b := fun b hb => H5.out.1 b (HKK.out b hb)
      refine ⟨fun _ => False, _, rfl, fun b hb => hb.elim, ?_, ?_, hk4⟩
      ·rw [HLP.out]; show PortIs _ w4 t p (eachP part st2 xs); rw [HEQ.out]; exact H6.out.1.less fun b hb => hb.elim (fun h => hki b h) (fun h => h.elim)
      ·rw [HLP.out]; exact ListIs.mono mTbl (fun b hb => Or.inl hb) (hk4.less HDK.out) HLI.out
     | false =>
      rw [hfd] at CD
      have HEQ : Hid (eachP part (part sti (⟨xn, xc, xr⟩ : Tbl)).2 (xs.drop (i + 1)) = eachP part st2 xs) := by show _ = _; rw [← H3.out, HST.out]; simp only [eachP]; rw [hfd]; simp
      have HLN2 : Hid (max (part sti (⟨xn, xc, xr⟩ : Tbl)).2.len 65536 + c ≤ 990000) := by have h1 := HGR.out sti (⟨xn, xc, xr⟩ : Tbl); have h2 := failedP_len hfd; have h3 := HLN0.out; show _ ≤ _; omega
      clear hfd
      go_wp2_with (first | (go_at_fn DF; refine CD.out.mono ?_; rintro e w4 ⟨rfl, h1, h2⟩; have H6 : Hid (PortIs Ki w4 t p sti ∧ Kept Ki wr w4) := ⟨h1.less fun b hb => Or.inl hb, HKX.out.trans (h2.less fun b hb => Or.inl hb)⟩; have y0 := cellR (k := 0) ((h2.block _ (.inr rfl)).trans HBX.out) rfl; have y1 := cellR (k := 1) ((h2.block _ (.inr rfl)).trans HBX.out) rfl; have y2 := cellR (k := 2) ((h2.block _ (.inr rfl)).trans HBX.out) rfl; have CP : Hid (Calls Tryz.prog F #[rv, .agg #[Value.string xn, Value.slice q1 xc.length c1, Value.slice q2 xr.length c2]] w4 fun e w' => ∃ (N : Nat → Prop) (cs' : List Value), e = .returned (asV cs') ∧ (∀ b, N b → w4.heap.size ≤ b) ∧ PortIs (fun b => Ki b ∨ N b) w' t p (part sti (⟨xn, xc, xr⟩ : Tbl)).2 ∧ rTbl (fun b => D b ∨ N b) w' cs' (part sti (⟨xn, xc, xr⟩ : Tbl)).1 ∧ Kept Ki w4 w') := HPC.out Ki D w4 sti [Value.string xn, Value.slice q1 xc.length c1, Value.slice q2 xr.length c2] (⟨xn, xc, xr⟩ : Tbl) (HTB.out.mono (fun b hb => H5.out.1 b (HKK.out b hb)) (HKW.out.trans (H6.out.2.less (fun b hb => H5.out.1 b (HKK.out b hb))))) H6.out.1 (fun b hb => H5.out.1 b (HKK.out b (HDK.out b hb))) (mTbl _ _ _ _ _ _ (fun _ h => h) (H6.out.2.less (fun b hb => H5.out.1 b (HKK.out b (HDK.out b hb)))) HRE.out) H5.out.2.2; clear h1 h2 CD) | (go_at_fn F; refine CP.out.mono ?_; rintro e w5 ⟨N, cs', rfl, hk2, h1, h2, h3⟩; have H7 : Hid (PortIs Ki w5 t p (part sti (⟨xn, xc, xr⟩ : Tbl)).2 ∧ Kept Ki wr w5) := ⟨h1.less fun b hb => Or.inl hb, H6.out.2.trans h3⟩; clear h1 h2 h3 hk2 CP))
      go_roundg g'
      case measure => omega
      case rel => exact ⟨i + 1, (part sti (⟨xn, xc, xr⟩ : Tbl)).2, Ki, by go_num, (by show _ = _; have := H1.out; omega), HEQ, H7.out.1, H5.out.1, H5.out.2.1.trans (H7.out.2.less H5.out.1), HLN2.out⟩
    ·have z1 : ¬ (i : Int) < (xs.length : Int) := by omega
     have HEQ : Hid (eachP part st2 xs = sti) := by show _ = _; rw [← H3.out, List.drop_eq_nil_of_le (by omega)]; rfl
     clear hcw
     go_wp2_with fail
     go_ret
     have hk4 : Kept K w wr := HKW2.out.trans (H5.out.2.1.less HKK.out)
     have hki : ∀ b, K b → Ki b := fun b hb => H5.out.1 b (HKK.out b hb)
     refine ⟨fun _ => False, _, rfl, fun b hb => hb.elim, ?_, ?_, hk4⟩
     ·rw [HLP.out]; show PortIs _ wr t p (eachP part st2 xs); rw [HEQ.out]; exact H4.out.less fun b hb => hb.elim (fun h => hki b h) (fun h => h.elim)
     ·rw [HLP.out]; exact ListIs.mono mTbl (fun b hb => Or.inl hb) (hk4.less HDK.out) HLI.out
  ·rw [if_neg hc] at hst2
   subst hst2
   obtain ⟨st2, hst2⟩ : ∃ st2, st1 = st2 := ⟨_, rfl⟩
   subst hst2
   have z0 : ¬ (most : Int) < (n1 : Int) := by omega
   go_enter Tryz.func129, Tryz.ntmps129
   go_wp2_with (go_at_fn NF; refine C.out.mono ?_; rintro e W2 ⟨rfl, h1, h2⟩; have HP2 : Hid (PortIs K1 W2 t p st1) := h1; have HKW2 : Hid (Kept K w W2) := HK0.out.trans (h2.less HKK.out); have hg2 := (h2.block _ HK1b.out).trans HG0.out; have cw2 := cellR (k := 0) hg2 rfl; have HG2 : Hid (W2.heap[w.heap.size]? = some (wb t p)) := hg2; clear h1 h2 hg2 C)
   go_loopg [39] xs.length (fun gf s39 wx => ∃ (i : Nat) (sti : St) (Ki : Nat → Prop), s39 = .int .i64 (i : Int) ∧ Hid (i + gf = xs.length) ∧ Hid (eachP part sti (xs.drop i) = eachP part st1 xs) ∧ Hid (PortIs Ki wx t p sti) ∧ Hid ((∀ b, K1 b → Ki b) ∧ Kept K1 W2 wx ∧ max sti.len 65536 + c ≤ 990000))
   case atStart => exact ⟨0, st1, K1, rfl, (by show _ = _; omega), rfl, HP2, fun _ h => h, Kept.refl _ _, HLN.out⟩
   case round =>
    obtain ⟨i, sti, Ki, rfl, H1, H3, H4, H5⟩ := hrel
    have hcw : wr.heap[w.heap.size]? = some (wb t p) := (H5.out.2.1.block _ (HK1b.out)).trans HG2.out
    have cwr := cellR (k := 0) hcw rfl
    by_cases hi : i < xs.length
    ·obtain ⟨g', rfl⟩ : ∃ g', gk = g' + 1 := ⟨gk - 1, by have := H1.out; omega⟩
     obtain ⟨b, o, rfl, hKb, hall⟩ := HCE.out (by omega)
     obtain ⟨cs, hcl, hcc, hrel0⟩ := hall i hi
     have HKW : Hid (Kept K w wr) := HKW2.out.trans (H5.out.2.1.less HKK.out)
     have HST : Hid (xs.drop i = xs[i] :: xs.drop (i + 1)) := by show _ = _; exact List.drop_eq_getElem_cons hi
     obtain ⟨X, hX⟩ : ∃ X, xs[i] = X := ⟨_, rfl⟩
     rw [hX] at hrel0 HST
     clear hX
     have hre : rTbl D wr cs X := mTbl _ _ _ _ _ _ (fun _ h => h) (HKW.out.less HDK.out) hrel0
     obtain ⟨xn, xc, xr⟩ := X
     obtain ⟨v0, u0, hcs, _, hv, hu⟩ := hrel0
     obtain ⟨q1, c1, rfl, _⟩ := hv
     obtain ⟨q2, c2, rfl, _⟩ := hu
     replace hcs : cs = [Value.string xn, Value.slice q1 xc.length c1, Value.slice q2 xr.length c2] := hcs
     subst hcs
     have HRE : Hid (rTbl D wr [Value.string xn, Value.slice q1 xc.length c1, Value.slice q2 xr.length c2] ⟨xn, xc, xr⟩) := hre
     have f0 : wr.cell? ⟨b, o + i * 3 + 0, none⟩ = some (Value.string xn) := by rw [HKW.out.cell (p := ⟨b, _, none⟩) (HDK.out _ hKb)]; exact hcc 0 _ rfl
     have f1 : wr.cell? ⟨b, o + i * 3 + 1, none⟩ = some (Value.slice q1 xc.length c1) := by rw [HKW.out.cell (p := ⟨b, _, none⟩) (HDK.out _ hKb)]; exact hcc 1 _ rfl
     have f2 : wr.cell? ⟨b, o + i * 3 + 2, none⟩ = some (Value.slice q2 xr.length c2) := by rw [HKW.out.cell (p := ⟨b, _, none⟩) (HDK.out _ hKb)]; exact hcc 2 _ rfl
     have f0' : wr.cell? ⟨b, o + i * 3, none⟩ = some (Value.string xn) := f0
     have z0 : (0 : Int) ≤ (i : Int) := by omega
     have z1 : (i : Int) < (xs.length : Int) := by omega
     obtain ⟨W3, hW3⟩ : ∃ W3, wr.alloc (.cells #[Value.string xn, Value.slice q1 xc.length c1, Value.slice q2 xr.length c2] 97) = W3 := ⟨_, rfl⟩
     have hbx : W3.heap[wr.heap.size]? = some (.cells #[Value.string xn, Value.slice q1 xc.length c1, Value.slice q2 xr.length c2] 97 (0, 0)) := by rw [← hW3]; exact heap_alloc_new wr _
     have hPX : PortIs (fun b => Ki b ∨ b = wr.heap.size) W3 t p sti := by rw [← hW3]; exact H4.out.alloc _
     have hKX : Kept Ki wr W3 := by rw [← hW3]; exact (Kept.refl Ki wr).alloc H4.out.lt _
     have cw3 : W3.cell? ⟨w.heap.size, 0, none⟩ = some (.iface t (.pointer (some ⟨p, 0, none⟩))) := cellR ((hKX.block _ (H5.out.1 _ HK1b.out)).trans hcw) rfl
     have CD : Hid (Calls Tryz.prog DF #[.pointer (some ⟨p, 0, none⟩)] W3 fun e w' => e = .returned (.bool (failedP sti)) ∧ PortIs (fun b => Ki b ∨ b = wr.heap.size) w' t p sti ∧ Kept (fun b => Ki b ∨ b = wr.heap.size) W3 w') := by
      have := failed_any _ t p sti W3 hPX
      rw [HDF.out] at this
      exact this
     have HBX : Hid (W3.heap[wr.heap.size]? = some (.cells #[Value.string xn, Value.slice q1 xc.length c1, Value.slice q2 xr.length c2] 97 (0, 0))) := hbx
     have HKX : Hid (Kept Ki wr W3) := hKX
     have HKB : Hid (D b) := hKb
     clear hbx hPX hKX hcw hcl hcc hre hall hKb
     cases hfd : failedP sti with
     | true =>
      rw [hfd] at CD
      have HEQ : Hid (eachP part st1 xs = sti) := by show _ = _; rw [← H3.out, HST.out]; simp only [eachP]; rw [if_pos hfd]
      clear hfd
      go_wp2_with (go_at_fn DF; refine CD.out.mono ?_; rintro e w4 ⟨rfl, h1, h2⟩; have H6 : Hid (PortIs Ki w4 t p sti ∧ Kept Ki wr w4) := ⟨h1.less fun b hb => Or.inl hb, HKX.out.trans (h2.less fun b hb => Or.inl hb)⟩; clear h1 h2 CD)
      go_ret
      have hk4 : Kept K w w4 := HKW.out.trans (H6.out.2.less fun b hb => H5.out.1 b (HKK.out b hb))
      have hki : ∀ b, K b → Ki b := fun b hb => H5.out.1 b (HKK.out b hb)
      refine ⟨fun _ => False, _, rfl, fun b hb => hb.elim, ?_, ?_, hk4⟩
      ·rw [HLP.out]; show PortIs _ w4 t p (eachP part st1 xs); rw [HEQ.out]; exact H6.out.1.less fun b hb => hb.elim (fun h => hki b h) (fun h => h.elim)
      ·rw [HLP.out]; exact ListIs.mono mTbl (fun b hb => Or.inl hb) (hk4.less HDK.out) HLI.out
     | false =>
      rw [hfd] at CD
      have HEQ : Hid (eachP part (part sti (⟨xn, xc, xr⟩ : Tbl)).2 (xs.drop (i + 1)) = eachP part st1 xs) := by show _ = _; rw [← H3.out, HST.out]; simp only [eachP]; rw [hfd]; simp
      have HLN2 : Hid (max (part sti (⟨xn, xc, xr⟩ : Tbl)).2.len 65536 + c ≤ 990000) := by have h1 := HGR.out sti (⟨xn, xc, xr⟩ : Tbl); have h2 := failedP_len hfd; have h3 := HLN0.out; show _ ≤ _; omega
      clear hfd
      go_wp2_with (first | (go_at_fn DF; refine CD.out.mono ?_; rintro e w4 ⟨rfl, h1, h2⟩; have H6 : Hid (PortIs Ki w4 t p sti ∧ Kept Ki wr w4) := ⟨h1.less fun b hb => Or.inl hb, HKX.out.trans (h2.less fun b hb => Or.inl hb)⟩; have y0 := cellR (k := 0) ((h2.block _ (.inr rfl)).trans HBX.out) rfl; have y1 := cellR (k := 1) ((h2.block _ (.inr rfl)).trans HBX.out) rfl; have y2 := cellR (k := 2) ((h2.block _ (.inr rfl)).trans HBX.out) rfl; have CP : Hid (Calls Tryz.prog F #[rv, .agg #[Value.string xn, Value.slice q1 xc.length c1, Value.slice q2 xr.length c2]] w4 fun e w' => ∃ (N : Nat → Prop) (cs' : List Value), e = .returned (asV cs') ∧ (∀ b, N b → w4.heap.size ≤ b) ∧ PortIs (fun b => Ki b ∨ N b) w' t p (part sti (⟨xn, xc, xr⟩ : Tbl)).2 ∧ rTbl (fun b => D b ∨ N b) w' cs' (part sti (⟨xn, xc, xr⟩ : Tbl)).1 ∧ Kept Ki w4 w') := HPC.out Ki D w4 sti [Value.string xn, Value.slice q1 xc.length c1, Value.slice q2 xr.length c2] (⟨xn, xc, xr⟩ : Tbl) (HTB.out.mono (fun b hb => H5.out.1 b (HKK.out b hb)) (HKW.out.trans (H6.out.2.less (fun b hb => H5.out.1 b (HKK.out b hb))))) H6.out.1 (fun b hb => H5.out.1 b (HKK.out b (HDK.out b hb))) (mTbl _ _ _ _ _ _ (fun _ h => h) (H6.out.2.less (fun b hb => H5.out.1 b (HKK.out b (HDK.out b hb)))) HRE.out) H5.out.2.2; clear h1 h2 CD) | (go_at_fn F; refine CP.out.mono ?_; rintro e w5 ⟨N, cs', rfl, hk2, h1, h2, h3⟩; have H7 : Hid (PortIs Ki w5 t p (part sti (⟨xn, xc, xr⟩ : Tbl)).2 ∧ Kept Ki wr w5) := ⟨h1.less fun b hb => Or.inl hb, H6.out.2.trans h3⟩; clear h1 h2 h3 hk2 CP))
      go_roundg g'
      case measure => omega
      case rel => exact ⟨i + 1, (part sti (⟨xn, xc, xr⟩ : Tbl)).2, Ki, by go_num, (by show _ = _; have := H1.out; omega), HEQ, H7.out.1, H5.out.1, H5.out.2.1.trans (H7.out.2.less H5.out.1), HLN2.out⟩
    ·have z1 : ¬ (i : Int) < (xs.length : Int) := by omega
     have HEQ : Hid (eachP part st1 xs = sti) := by show _ = _; rw [← H3.out, List.drop_eq_nil_of_le (by omega)]; rfl
     clear hcw
     go_wp2_with fail
     go_ret
     have hk4 : Kept K w wr := HKW2.out.trans (H5.out.2.1.less HKK.out)
     have hki : ∀ b, K b → Ki b := fun b hb => H5.out.1 b (HKK.out b hb)
     refine ⟨fun _ => False, _, rfl, fun b hb => hb.elim, ?_, ?_, hk4⟩
     ·rw [HLP.out]; show PortIs _ wr t p (eachP part st1 xs); rw [HEQ.out]; exact H4.out.less fun b hb => hb.elim (fun h => hki b h) (fun h => h.elim)
     ·rw [HLP.out]; exact ListIs.mono mTbl (fun b hb => Or.inl hb) (hk4.less HDK.out) HLI.out
end Go.Proofs.YtajomnfeicfdlaaGreatDoor
/- What list answers of Clm. -/
namespace Go.Proofs.YtajomnfeicfdlaaGreatDoor
open Go.Shelf Go.RowKit Go.Lib
set_option linter.unusedVariables false
set_option linter.unusedSimpArgs false
attribute [local go_sem ↓] Go.wp_at_zero Go.wp_at_succ
set_option maxRecDepth 100000 in
set_option maxHeartbeats 4000000 in
theorem list48_any (part : St → Clm → Clm × St) (d : Clm) (most c t p F : Nat) (rv : Value) (hmost : most ≤ 600) (hcb : c ≤ 400000) (hg : Grows part c) (eF : ∀ args w, (callFunc F args).run Tryz.prog w = .ok (.enter F args) w)
  (hp : PartC rClm part c t p F #[rv]) :
  ListC rClm 5 80 most part d c t p 136 (.func (.func F) #[rv] #[]) := by
 intro K D w st v xs htb h hDK hxs hl
 have HTB : Hid (Tabs K w) := htb
 have HDK : Hid (∀ b, D b → K b) := hDK
 obtain ⟨W0, hW0, hP0, hK0, hs0, hg0⟩ := h.box
 obtain ⟨K1, hK1⟩ : ∃ K1 : Nat → Prop, (fun b => K b ∨ b = w.heap.size) = K1 := ⟨_, rfl⟩
 rw [hK1] at hP0
 have HKK : Hid (∀ b, K b → K1 b) := fun b hb => by rw [← hK1]; exact .inl hb
 have HK1b : Hid (K1 w.heap.size) := by show K1 _; rw [← hK1]; exact .inr rfl
 have cw := cellR (k := 0) hg0 rfl
 have hm := m_num h.isT p
 have eg := e_num h.isT
 have hm2 := m_fail h.isT p
 have hm3 := m_failed h.isT p
 have eg3 := e_failed h.isT
 have hrd := h.rd74
 have hT0 := h.isT
 have HNE : Hid (¬ t = 212) := h.ne
 obtain ⟨NF, hNF⟩ : ∃ F, nuF t = F := ⟨_, rfl⟩
 obtain ⟨DF, hDF⟩ : ∃ F, fdF t = F := ⟨_, rfl⟩
 rw [hNF] at hm eg
 rw [hDF] at hm3 eg3
 have HDF : Hid (fdF t = DF) := hDF
 have HLI : Hid (ListIs rClm 5 80 D w v xs) := hxs
 obtain ⟨q, cp, rfl, hbytes, hcells⟩ := hxs
 have HCE : Hid (0 < xs.length → ∃ b o, q = some ⟨b, o, none⟩ ∧ D b ∧ ∀ j (h : j < xs.length), ∃ cs, cs.length = 5 ∧ (∀ i u, cs[i]? = some u → w.cell? ⟨b, o + j * 5 + i, none⟩ = some u) ∧ rClm D w cs xs[j]) := hcells
 have hxl : xs.length < 18446744073709551616 := by omega
 have hxl2 : xs.length ≤ 140737488355328 := by omega
 obtain ⟨⟨n1, st1⟩, hn1⟩ : ∃ q, numP st xs.length = q := ⟨_, rfl⟩
 have hnl := numP_len st xs.length
 have hnr := numP_reads st xs.length
 have hn64 : n1 < 18446744073709551616 := by have := numP_lt st xs.length hxl; rw [hn1] at this; exact this
 rw [hn1] at hnl hnr
 simp only at hnl hnr
 have C : Hid (Calls Tryz.prog NF #[.pointer (some ⟨p, 0, none⟩), .int .u64 (xs.length : Int)] W0 fun e w' => e = .returned (.int .u64 (n1 : Int)) ∧ PortIs K1 w' t p st1 ∧ Kept K1 W0 w') := by
  have := num_any _ t p st xs.length W0 hP0 hxl (by omega)
  rw [hn1, hNF] at this
  exact this
 obtain ⟨st2, hst2⟩ : ∃ st2, (if most < n1 then failP st1 else st1) = st2 := ⟨_, rfl⟩
 have hl2 : st2.len = st1.len := by rw [← hst2]; split; exact failP_len _; rfl
 have hr2 : st2.reads = st.reads := by rw [← hst2, ← hnr]; split; exact failP_reads _; rfl
 have HLN : Hid (max st2.len 65536 + c ≤ 990000) := by show _ ≤ _; omega
 have HLN0 : Hid (65536 + c + c ≤ 990000) := by show _ ≤ _; omega
 have HGR : Hid (Grows part c) := hg
 have HPC : Hid (PartC rClm part c t p F #[rv]) := hp
 have HG0 : Hid (W0.heap[w.heap.size]? = some (wb t p)) := hg0
 have HK0 : Hid (Kept K w W0) := hK0
 have HFA : Hid (∀ W, PortIs K1 W t p st1 → Calls Tryz.prog 182 #[.pointer (some ⟨p, 0, none⟩)] W fun e w' => e = .returned (.tuple #[]) ∧ PortIs K1 w' t p (failP st1) ∧ Kept K1 W w') := fun W h => fail_any K1 t p st1 W h
 have hll : (listP most part d st xs) = if st2.reads then takenP part d n1 st2 [] else (xs, eachP part st2 xs) := by simp only [listP, hn1, hst2]
 unfold wk
 clear htb hDK hP0 hK0 hg0 hcells hNF hDF hn1 hK1 h hs0 hg hp hnr
 by_cases ht : t = 212
 ·exact absurd ht HNE.out
 ·have hta : ∀ (v : Value) (W : World), (Instr.typeAssert (.iface t v) 127 212 true).run Tryz.prog W = .ok (.tuple #[.pointer none, .bool false]) W := by
   rcases hT0 with rfl | rfl | rfl
   ·exact fun v W => by kernel_rfl
   ·exact fun v W => by kernel_rfl
   ·exact absurd rfl ht
  have HLP : Hid (listP most part d st xs = (xs, eachP part st2 xs)) := by show _ = _; rw [hll, if_neg (by rw [hr2]; intro e; exact ht (hrd.1 e))]
  clear hll hrd hr2 hT0 ht HNE
  by_cases hc : most < n1
  ·rw [if_pos hc] at hst2
   have z0 : (most : Int) < (n1 : Int) := by omega
   go_enter Tryz.func136, Tryz.ntmps136
   go_wp2_with (first | (go_at_fn NF; refine C.out.mono ?_; rintro e w1 ⟨rfl, h1, h2⟩; have H1 : Hid (PortIs K1 w1 t p st1 ∧ Kept K1 W0 w1) := ⟨h1, h2⟩; have hg1 := (h2.block _ HK1b.out).trans HG0.out; have cw1 := cellR (k := 0) hg1 rfl; have HG1 : Hid (w1.heap[w.heap.size]? = some (wb t p)) := hg1; clear h1 h2 hg1 C) | (go_at_call 182; refine (HFA.out _ H1.out.1).mono ?_; rintro e W2 ⟨rfl, h1, h2⟩; rw [hst2] at h1; have HP2 : Hid (PortIs K1 W2 t p st2) := h1; have HKW2 : Hid (Kept K w W2) := HK0.out.trans ((H1.out.2.trans h2).less HKK.out); have hg2 := (h2.block _ HK1b.out).trans HG1.out; have cw2 := cellR (k := 0) hg2 rfl; have HG2 : Hid (W2.heap[w.heap.size]? = some (wb t p)) := hg2; clear h1 h2 hg2))
   go_loopg [39] xs.length (fun gf s39 wx => ∃ (i : Nat) (sti : St) (Ki : Nat → Prop), s39 = .int .i64 (i : Int) ∧ Hid (i + gf = xs.length) ∧ Hid (eachP part sti (xs.drop i) = eachP part st2 xs) ∧ Hid (PortIs Ki wx t p sti) ∧ Hid ((∀ b, K1 b → Ki b) ∧ Kept K1 W2 wx ∧ max sti.len 65536 + c ≤ 990000))
   case atStart => exact ⟨0, st2, K1, rfl, (by show _ = _; omega), rfl, HP2, fun _ h => h, Kept.refl _ _, HLN.out⟩
   case round =>
    obtain ⟨i, sti, Ki, rfl, H1, H3, H4, H5⟩ := hrel
    have hcw : wr.heap[w.heap.size]? = some (wb t p) := (H5.out.2.1.block _ (HK1b.out)).trans HG2.out
    have cwr := cellR (k := 0) hcw rfl
    by_cases hi : i < xs.length
    ·obtain ⟨g', rfl⟩ : ∃ g', gk = g' + 1 := ⟨gk - 1, by have := H1.out; omega⟩
     obtain ⟨b, o, rfl, hKb, hall⟩ := HCE.out (by omega)
     obtain ⟨cs, hcl, hcc, hrel0⟩ := hall i hi
     have HKW : Hid (Kept K w wr) := HKW2.out.trans (H5.out.2.1.less HKK.out)
     have HST : Hid (xs.drop i = xs[i] :: xs.drop (i + 1)) := by show _ = _; exact List.drop_eq_getElem_cons hi
     obtain ⟨X, hX⟩ : ∃ X, xs[i] = X := ⟨_, rfl⟩
     rw [hX] at hrel0 HST
     clear hX
     have hre : rClm D wr cs X := mClm _ _ _ _ _ _ (fun _ h => h) (HKW.out.less HDK.out) hrel0
     obtain ⟨xt, xc, ⟨vb, vl⟩, xo⟩ := X
     obtain ⟨v0, u0, hcs, _, hv, _, hu⟩ := hrel0
     obtain ⟨q1, c1, rfl, _⟩ := hv
     obtain ⟨q2, c2, rfl, _⟩ := hu
     replace hcs : cs = [Value.string xt, Value.slice q1 xc.length c1, Value.int .u64 (vb : Int), Value.int .u64 (vl : Int), Value.slice q2 xo.length c2] := hcs
     subst hcs
     have HRE : Hid (rClm D wr [Value.string xt, Value.slice q1 xc.length c1, Value.int .u64 (vb : Int), Value.int .u64 (vl : Int), Value.slice q2 xo.length c2] ⟨xt, xc, ⟨vb, vl⟩, xo⟩) := hre
     have f0 : wr.cell? ⟨b, o + i * 5 + 0, none⟩ = some (Value.string xt) := by rw [HKW.out.cell (p := ⟨b, _, none⟩) (HDK.out _ hKb)]; exact hcc 0 _ rfl
     have f1 : wr.cell? ⟨b, o + i * 5 + 1, none⟩ = some (Value.slice q1 xc.length c1) := by rw [HKW.out.cell (p := ⟨b, _, none⟩) (HDK.out _ hKb)]; exact hcc 1 _ rfl
     have f2 : wr.cell? ⟨b, o + i * 5 + 2, none⟩ = some (Value.int .u64 (vb : Int)) := by rw [HKW.out.cell (p := ⟨b, _, none⟩) (HDK.out _ hKb)]; exact hcc 2 _ rfl
     have f3 : wr.cell? ⟨b, o + i * 5 + 3, none⟩ = some (Value.int .u64 (vl : Int)) := by rw [HKW.out.cell (p := ⟨b, _, none⟩) (HDK.out _ hKb)]; exact hcc 3 _ rfl
     have f4 : wr.cell? ⟨b, o + i * 5 + 4, none⟩ = some (Value.slice q2 xo.length c2) := by rw [HKW.out.cell (p := ⟨b, _, none⟩) (HDK.out _ hKb)]; exact hcc 4 _ rfl
     have f0' : wr.cell? ⟨b, o + i * 5, none⟩ = some (Value.string xt) := f0
     have z0 : (0 : Int) ≤ (i : Int) := by omega
     have z1 : (i : Int) < (xs.length : Int) := by omega
     obtain ⟨W3, hW3⟩ : ∃ W3, wr.alloc (.cells #[Value.string xt, Value.slice q1 xc.length c1, Value.int .u64 (vb : Int), Value.int .u64 (vl : Int), Value.slice q2 xo.length c2] 160) = W3 := ⟨_, rfl⟩
     have hbx : W3.heap[wr.heap.size]? = some (.cells #[Value.string xt, Value.slice q1 xc.length c1, Value.int .u64 (vb : Int), Value.int .u64 (vl : Int), Value.slice q2 xo.length c2] 160 (0, 0)) := by rw [← hW3]; exact heap_alloc_new wr _
     have hPX : PortIs (fun b => Ki b ∨ b = wr.heap.size) W3 t p sti := by rw [← hW3]; exact H4.out.alloc _
     have hKX : Kept Ki wr W3 := by rw [← hW3]; exact (Kept.refl Ki wr).alloc H4.out.lt _
     have cw3 : W3.cell? ⟨w.heap.size, 0, none⟩ = some (.iface t (.pointer (some ⟨p, 0, none⟩))) := cellR ((hKX.block _ (H5.out.1 _ HK1b.out)).trans hcw) rfl
     have CD : Hid (Calls Tryz.prog DF #[.pointer (some ⟨p, 0, none⟩)] W3 fun e w' => e = .returned (.bool (failedP sti)) ∧ PortIs (fun b => Ki b ∨ b = wr.heap.size) w' t p sti ∧ Kept (fun b => Ki b ∨ b = wr.heap.size) W3 w') := by
      have := failed_any _ t p sti W3 hPX
      rw [HDF.out] at this
      exact this
     have HBX : Hid (W3.heap[wr.heap.size]? = some (.cells #[Value.string xt, Value.slice q1 xc.length c1, Value.int .u64 (vb : Int), Value.int .u64 (vl : Int), Value.slice q2 xo.length c2] 160 (0, 0))) := hbx
     have HKX : Hid (Kept Ki wr W3) := hKX
     have HKB : Hid (D b) := hKb
     clear hbx hPX hKX hcw hcl hcc hre hall hKb
     cases hfd : failedP sti with
     | true =>
      rw [hfd] at CD
      have HEQ : Hid (eachP part st2 xs = sti) := by show _ = _; rw [← H3.out, HST.out]; simp only [eachP]; rw [if_pos hfd]
      clear hfd
      go_wp2_with (go_at_fn DF; refine CD.out.mono ?_; rintro e w4 ⟨rfl, h1, h2⟩; have H6 : Hid (PortIs Ki w4 t p sti ∧ Kept Ki wr w4) := ⟨h1.less fun b hb => Or.inl hb, HKX.out.trans (h2.less fun b hb => Or.inl hb)⟩; clear h1 h2 CD)
      go_ret
      have hk4 : Kept K w w4 := HKW.out.trans (H6.out.2.less fun b hb => H5.out.1 b (HKK.out b hb))
      have hki : ∀ b, K b → Ki b := fun b hb => H5.out.1 b (HKK.out b hb)
      refine ⟨fun _ => False, _, rfl, fun b hb => hb.elim, ?_, ?_, hk4⟩
      ·rw [HLP.out]; show PortIs _ w4 t p (eachP part st2 xs); rw [HEQ.out]; exact H6.out.1.less fun b hb => hb.elim (fun h => hki b h) (fun h => h.elim)
      ·rw [HLP.out]; exact ListIs.mono mClm (fun b hb => Or.inl hb) (hk4.less HDK.out) HLI.out
     | false =>
      rw [hfd] at CD
      have HEQ : Hid (eachP part (part sti (⟨xt, xc, ⟨vb, vl⟩, xo⟩ : Clm)).2 (xs.drop (i + 1)) = eachP part st2 xs) := by show _ = _; rw [← H3.out, HST.out]; simp only [eachP]; rw [hfd]; simp
      have HLN2 : Hid (max (part sti (⟨xt, xc, ⟨vb, vl⟩, xo⟩ : Clm)).2.len 65536 + c ≤ 990000) := by have h1 := HGR.out sti (⟨xt, xc, ⟨vb, vl⟩, xo⟩ : Clm); have h2 := failedP_len hfd; have h3 := HLN0.out; show _ ≤ _; omega
      clear hfd
      go_wp2_with (first | (go_at_fn DF; refine CD.out.mono ?_; rintro e w4 ⟨rfl, h1, h2⟩; have H6 : Hid (PortIs Ki w4 t p sti ∧ Kept Ki wr w4) := ⟨h1.less fun b hb => Or.inl hb, HKX.out.trans (h2.less fun b hb => Or.inl hb)⟩; have y0 := cellR (k := 0) ((h2.block _ (.inr rfl)).trans HBX.out) rfl; have y1 := cellR (k := 1) ((h2.block _ (.inr rfl)).trans HBX.out) rfl; have y2 := cellR (k := 2) ((h2.block _ (.inr rfl)).trans HBX.out) rfl; have y3 := cellR (k := 3) ((h2.block _ (.inr rfl)).trans HBX.out) rfl; have y4 := cellR (k := 4) ((h2.block _ (.inr rfl)).trans HBX.out) rfl; have CP : Hid (Calls Tryz.prog F #[rv, .agg #[Value.string xt, Value.slice q1 xc.length c1, Value.int .u64 (vb : Int), Value.int .u64 (vl : Int), Value.slice q2 xo.length c2]] w4 fun e w' => ∃ (N : Nat → Prop) (cs' : List Value), e = .returned (asV cs') ∧ (∀ b, N b → w4.heap.size ≤ b) ∧ PortIs (fun b => Ki b ∨ N b) w' t p (part sti (⟨xt, xc, ⟨vb, vl⟩, xo⟩ : Clm)).2 ∧ rClm (fun b => D b ∨ N b) w' cs' (part sti (⟨xt, xc, ⟨vb, vl⟩, xo⟩ : Clm)).1 ∧ Kept Ki w4 w') := HPC.out Ki D w4 sti [Value.string xt, Value.slice q1 xc.length c1, Value.int .u64 (vb : Int), Value.int .u64 (vl : Int), Value.slice q2 xo.length c2] (⟨xt, xc, ⟨vb, vl⟩, xo⟩ : Clm) (HTB.out.mono (fun b hb => H5.out.1 b (HKK.out b hb)) (HKW.out.trans (H6.out.2.less (fun b hb => H5.out.1 b (HKK.out b hb))))) H6.out.1 (fun b hb => H5.out.1 b (HKK.out b (HDK.out b hb))) (mClm _ _ _ _ _ _ (fun _ h => h) (H6.out.2.less (fun b hb => H5.out.1 b (HKK.out b (HDK.out b hb)))) HRE.out) H5.out.2.2; clear h1 h2 CD) | (go_at_fn F; refine CP.out.mono ?_; rintro e w5 ⟨N, cs', rfl, hk2, h1, h2, h3⟩; have H7 : Hid (PortIs Ki w5 t p (part sti (⟨xt, xc, ⟨vb, vl⟩, xo⟩ : Clm)).2 ∧ Kept Ki wr w5) := ⟨h1.less fun b hb => Or.inl hb, H6.out.2.trans h3⟩; clear h1 h2 h3 hk2 CP))
      go_roundg g'
      case measure => omega
      case rel => exact ⟨i + 1, (part sti (⟨xt, xc, ⟨vb, vl⟩, xo⟩ : Clm)).2, Ki, by go_num, (by show _ = _; have := H1.out; omega), HEQ, H7.out.1, H5.out.1, H5.out.2.1.trans (H7.out.2.less H5.out.1), HLN2.out⟩
    ·have z1 : ¬ (i : Int) < (xs.length : Int) := by omega
     have HEQ : Hid (eachP part st2 xs = sti) := by show _ = _; rw [← H3.out, List.drop_eq_nil_of_le (by omega)]; rfl
     clear hcw
     go_wp2_with fail
     go_ret
     have hk4 : Kept K w wr := HKW2.out.trans (H5.out.2.1.less HKK.out)
     have hki : ∀ b, K b → Ki b := fun b hb => H5.out.1 b (HKK.out b hb)
     refine ⟨fun _ => False, _, rfl, fun b hb => hb.elim, ?_, ?_, hk4⟩
     ·rw [HLP.out]; show PortIs _ wr t p (eachP part st2 xs); rw [HEQ.out]; exact H4.out.less fun b hb => hb.elim (fun h => hki b h) (fun h => h.elim)
     ·rw [HLP.out]; exact ListIs.mono mClm (fun b hb => Or.inl hb) (hk4.less HDK.out) HLI.out
  ·rw [if_neg hc] at hst2
   subst hst2
   obtain ⟨st2, hst2⟩ : ∃ st2, st1 = st2 := ⟨_, rfl⟩
   subst hst2
   have z0 : ¬ (most : Int) < (n1 : Int) := by omega
   go_enter Tryz.func136, Tryz.ntmps136
   go_wp2_with (go_at_fn NF; refine C.out.mono ?_; rintro e W2 ⟨rfl, h1, h2⟩; have HP2 : Hid (PortIs K1 W2 t p st1) := h1; have HKW2 : Hid (Kept K w W2) := HK0.out.trans (h2.less HKK.out); have hg2 := (h2.block _ HK1b.out).trans HG0.out; have cw2 := cellR (k := 0) hg2 rfl; have HG2 : Hid (W2.heap[w.heap.size]? = some (wb t p)) := hg2; clear h1 h2 hg2 C)
   go_loopg [39] xs.length (fun gf s39 wx => ∃ (i : Nat) (sti : St) (Ki : Nat → Prop), s39 = .int .i64 (i : Int) ∧ Hid (i + gf = xs.length) ∧ Hid (eachP part sti (xs.drop i) = eachP part st1 xs) ∧ Hid (PortIs Ki wx t p sti) ∧ Hid ((∀ b, K1 b → Ki b) ∧ Kept K1 W2 wx ∧ max sti.len 65536 + c ≤ 990000))
   case atStart => exact ⟨0, st1, K1, rfl, (by show _ = _; omega), rfl, HP2, fun _ h => h, Kept.refl _ _, HLN.out⟩
   case round =>
    obtain ⟨i, sti, Ki, rfl, H1, H3, H4, H5⟩ := hrel
    have hcw : wr.heap[w.heap.size]? = some (wb t p) := (H5.out.2.1.block _ (HK1b.out)).trans HG2.out
    have cwr := cellR (k := 0) hcw rfl
    by_cases hi : i < xs.length
    ·obtain ⟨g', rfl⟩ : ∃ g', gk = g' + 1 := ⟨gk - 1, by have := H1.out; omega⟩
     obtain ⟨b, o, rfl, hKb, hall⟩ := HCE.out (by omega)
     obtain ⟨cs, hcl, hcc, hrel0⟩ := hall i hi
     have HKW : Hid (Kept K w wr) := HKW2.out.trans (H5.out.2.1.less HKK.out)
     have HST : Hid (xs.drop i = xs[i] :: xs.drop (i + 1)) := by show _ = _; exact List.drop_eq_getElem_cons hi
     obtain ⟨X, hX⟩ : ∃ X, xs[i] = X := ⟨_, rfl⟩
     rw [hX] at hrel0 HST
     clear hX
     have hre : rClm D wr cs X := mClm _ _ _ _ _ _ (fun _ h => h) (HKW.out.less HDK.out) hrel0
     obtain ⟨xt, xc, ⟨vb, vl⟩, xo⟩ := X
     obtain ⟨v0, u0, hcs, _, hv, _, hu⟩ := hrel0
     obtain ⟨q1, c1, rfl, _⟩ := hv
     obtain ⟨q2, c2, rfl, _⟩ := hu
     replace hcs : cs = [Value.string xt, Value.slice q1 xc.length c1, Value.int .u64 (vb : Int), Value.int .u64 (vl : Int), Value.slice q2 xo.length c2] := hcs
     subst hcs
     have HRE : Hid (rClm D wr [Value.string xt, Value.slice q1 xc.length c1, Value.int .u64 (vb : Int), Value.int .u64 (vl : Int), Value.slice q2 xo.length c2] ⟨xt, xc, ⟨vb, vl⟩, xo⟩) := hre
     have f0 : wr.cell? ⟨b, o + i * 5 + 0, none⟩ = some (Value.string xt) := by rw [HKW.out.cell (p := ⟨b, _, none⟩) (HDK.out _ hKb)]; exact hcc 0 _ rfl
     have f1 : wr.cell? ⟨b, o + i * 5 + 1, none⟩ = some (Value.slice q1 xc.length c1) := by rw [HKW.out.cell (p := ⟨b, _, none⟩) (HDK.out _ hKb)]; exact hcc 1 _ rfl
     have f2 : wr.cell? ⟨b, o + i * 5 + 2, none⟩ = some (Value.int .u64 (vb : Int)) := by rw [HKW.out.cell (p := ⟨b, _, none⟩) (HDK.out _ hKb)]; exact hcc 2 _ rfl
     have f3 : wr.cell? ⟨b, o + i * 5 + 3, none⟩ = some (Value.int .u64 (vl : Int)) := by rw [HKW.out.cell (p := ⟨b, _, none⟩) (HDK.out _ hKb)]; exact hcc 3 _ rfl
     have f4 : wr.cell? ⟨b, o + i * 5 + 4, none⟩ = some (Value.slice q2 xo.length c2) := by rw [HKW.out.cell (p := ⟨b, _, none⟩) (HDK.out _ hKb)]; exact hcc 4 _ rfl
     have f0' : wr.cell? ⟨b, o + i * 5, none⟩ = some (Value.string xt) := f0
     have z0 : (0 : Int) ≤ (i : Int) := by omega
     have z1 : (i : Int) < (xs.length : Int) := by omega
     obtain ⟨W3, hW3⟩ : ∃ W3, wr.alloc (.cells #[Value.string xt, Value.slice q1 xc.length c1, Value.int .u64 (vb : Int), Value.int .u64 (vl : Int), Value.slice q2 xo.length c2] 160) = W3 := ⟨_, rfl⟩
     have hbx : W3.heap[wr.heap.size]? = some (.cells #[Value.string xt, Value.slice q1 xc.length c1, Value.int .u64 (vb : Int), Value.int .u64 (vl : Int), Value.slice q2 xo.length c2] 160 (0, 0)) := by rw [← hW3]; exact heap_alloc_new wr _
     have hPX : PortIs (fun b => Ki b ∨ b = wr.heap.size) W3 t p sti := by rw [← hW3]; exact H4.out.alloc _
     have hKX : Kept Ki wr W3 := by rw [← hW3]; exact (Kept.refl Ki wr).alloc H4.out.lt _
     have cw3 : W3.cell? ⟨w.heap.size, 0, none⟩ = some (.iface t (.pointer (some ⟨p, 0, none⟩))) := cellR ((hKX.block _ (H5.out.1 _ HK1b.out)).trans hcw) rfl
     have CD : Hid (Calls Tryz.prog DF #[.pointer (some ⟨p, 0, none⟩)] W3 fun e w' => e = .returned (.bool (failedP sti)) ∧ PortIs (fun b => Ki b ∨ b = wr.heap.size) w' t p sti ∧ Kept (fun b => Ki b ∨ b = wr.heap.size) W3 w') := by
      have := failed_any _ t p sti W3 hPX
      rw [HDF.out] at this
      exact this
     have HBX : Hid (W3.heap[wr.heap.size]? = some (.cells #[Value.string xt, Value.slice q1 xc.length c1, Value.int .u64 (vb : Int), Value.int .u64 (vl : Int), Value.slice q2 xo.length c2] 160 (0, 0))) := hbx
     have HKX : Hid (Kept Ki wr W3) := hKX
     have HKB : Hid (D b) := hKb
     clear hbx hPX hKX hcw hcl hcc hre hall hKb
     cases hfd : failedP sti with
     | true =>
      rw [hfd] at CD
      have HEQ : Hid (eachP part st1 xs = sti) := by show _ = _; rw [← H3.out, HST.out]; simp only [eachP]; rw [if_pos hfd]
      clear hfd
      go_wp2_with (go_at_fn DF; refine CD.out.mono ?_; rintro e w4 ⟨rfl, h1, h2⟩; have H6 : Hid (PortIs Ki w4 t p sti ∧ Kept Ki wr w4) := ⟨h1.less fun b hb => Or.inl hb, HKX.out.trans (h2.less fun b hb => Or.inl hb)⟩; clear h1 h2 CD)
      go_ret
      have hk4 : Kept K w w4 := HKW.out.trans (H6.out.2.less fun b hb => H5.out.1 b (HKK.out b hb))
      have hki : ∀ b, K b → Ki b := fun b hb => H5.out.1 b (HKK.out b hb)
      refine ⟨fun _ => False, _, rfl, fun b hb => hb.elim, ?_, ?_, hk4⟩
      ·rw [HLP.out]; show PortIs _ w4 t p (eachP part st1 xs); rw [HEQ.out]; exact H6.out.1.less fun b hb => hb.elim (fun h => hki b h) (fun h => h.elim)
      ·rw [HLP.out]; exact ListIs.mono mClm (fun b hb => Or.inl hb) (hk4.less HDK.out) HLI.out
     | false =>
      rw [hfd] at CD
      have HEQ : Hid (eachP part (part sti (⟨xt, xc, ⟨vb, vl⟩, xo⟩ : Clm)).2 (xs.drop (i + 1)) = eachP part st1 xs) := by show _ = _; rw [← H3.out, HST.out]; simp only [eachP]; rw [hfd]; simp
      have HLN2 : Hid (max (part sti (⟨xt, xc, ⟨vb, vl⟩, xo⟩ : Clm)).2.len 65536 + c ≤ 990000) := by have h1 := HGR.out sti (⟨xt, xc, ⟨vb, vl⟩, xo⟩ : Clm); have h2 := failedP_len hfd; have h3 := HLN0.out; show _ ≤ _; omega
      clear hfd
      go_wp2_with (first | (go_at_fn DF; refine CD.out.mono ?_; rintro e w4 ⟨rfl, h1, h2⟩; have H6 : Hid (PortIs Ki w4 t p sti ∧ Kept Ki wr w4) := ⟨h1.less fun b hb => Or.inl hb, HKX.out.trans (h2.less fun b hb => Or.inl hb)⟩; have y0 := cellR (k := 0) ((h2.block _ (.inr rfl)).trans HBX.out) rfl; have y1 := cellR (k := 1) ((h2.block _ (.inr rfl)).trans HBX.out) rfl; have y2 := cellR (k := 2) ((h2.block _ (.inr rfl)).trans HBX.out) rfl; have y3 := cellR (k := 3) ((h2.block _ (.inr rfl)).trans HBX.out) rfl; have y4 := cellR (k := 4) ((h2.block _ (.inr rfl)).trans HBX.out) rfl; have CP : Hid (Calls Tryz.prog F #[rv, .agg #[Value.string xt, Value.slice q1 xc.length c1, Value.int .u64 (vb : Int), Value.int .u64 (vl : Int), Value.slice q2 xo.length c2]] w4 fun e w' => ∃ (N : Nat → Prop) (cs' : List Value), e = .returned (asV cs') ∧ (∀ b, N b → w4.heap.size ≤ b) ∧ PortIs (fun b => Ki b ∨ N b) w' t p (part sti (⟨xt, xc, ⟨vb, vl⟩, xo⟩ : Clm)).2 ∧ rClm (fun b => D b ∨ N b) w' cs' (part sti (⟨xt, xc, ⟨vb, vl⟩, xo⟩ : Clm)).1 ∧ Kept Ki w4 w') := HPC.out Ki D w4 sti [Value.string xt, Value.slice q1 xc.length c1, Value.int .u64 (vb : Int), Value.int .u64 (vl : Int), Value.slice q2 xo.length c2] (⟨xt, xc, ⟨vb, vl⟩, xo⟩ : Clm) (HTB.out.mono (fun b hb => H5.out.1 b (HKK.out b hb)) (HKW.out.trans (H6.out.2.less (fun b hb => H5.out.1 b (HKK.out b hb))))) H6.out.1 (fun b hb => H5.out.1 b (HKK.out b (HDK.out b hb))) (mClm _ _ _ _ _ _ (fun _ h => h) (H6.out.2.less (fun b hb => H5.out.1 b (HKK.out b (HDK.out b hb)))) HRE.out) H5.out.2.2; clear h1 h2 CD) | (go_at_fn F; refine CP.out.mono ?_; rintro e w5 ⟨N, cs', rfl, hk2, h1, h2, h3⟩; have H7 : Hid (PortIs Ki w5 t p (part sti (⟨xt, xc, ⟨vb, vl⟩, xo⟩ : Clm)).2 ∧ Kept Ki wr w5) := ⟨h1.less fun b hb => Or.inl hb, H6.out.2.trans h3⟩; clear h1 h2 h3 hk2 CP))
      go_roundg g'
      case measure => omega
      case rel => exact ⟨i + 1, (part sti (⟨xt, xc, ⟨vb, vl⟩, xo⟩ : Clm)).2, Ki, by go_num, (by show _ = _; have := H1.out; omega), HEQ, H7.out.1, H5.out.1, H5.out.2.1.trans (H7.out.2.less H5.out.1), HLN2.out⟩
    ·have z1 : ¬ (i : Int) < (xs.length : Int) := by omega
     have HEQ : Hid (eachP part st1 xs = sti) := by show _ = _; rw [← H3.out, List.drop_eq_nil_of_le (by omega)]; rfl
     clear hcw
     go_wp2_with fail
     go_ret
     have hk4 : Kept K w wr := HKW2.out.trans (H5.out.2.1.less HKK.out)
     have hki : ∀ b, K b → Ki b := fun b hb => H5.out.1 b (HKK.out b hb)
     refine ⟨fun _ => False, _, rfl, fun b hb => hb.elim, ?_, ?_, hk4⟩
     ·rw [HLP.out]; show PortIs _ wr t p (eachP part st1 xs); rw [HEQ.out]; exact H4.out.less fun b hb => hb.elim (fun h => hki b h) (fun h => h.elim)
     ·rw [HLP.out]; exact ListIs.mono mClm (fun b hb => Or.inl hb) (hk4.less HDK.out) HLI.out
end Go.Proofs.YtajomnfeicfdlaaGreatDoor

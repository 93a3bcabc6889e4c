/- What list answers of Val. -/
import Derived.Test.YtgdjhkcllpkiiaaGreatDoorWkWm
namespace Go.Proofs.YtgdjhkcllpkiiaaGreatDoor
open Go.Shelf Go.RowKit Go.Lib
set_option linter.unusedVariables false
set_option linter.unusedSimpArgs false
attribute [local go_sem ↓] Go.wp_at_zero Go.wp_at_succ
set_option maxRecDepth 100000 in
set_option maxHeartbeats 4000000 in
theorem list62_any (part : St → Val → Val × St) (d : Val) (most c t p F : Nat) (rv : Value) (hmost : most ≤ 600) (hcb : c ≤ 400000) (hg : Grows part c) (eF : ∀ args w, (callFunc F args).run Tryz.prog w = .ok (.enter F args) w)
    (hp : PartC rVal part c t p F #[rv]) (hT : t = 94 → TakenC rVal 4 32 part d c t p 126 (.func (.func F) #[rv] #[])) :
    ListC rVal 4 32 most part d c t p 116 (.func (.func F) #[rv] #[]) := by
  intro K D w st v xs htb h hDK hxs hl
  have HTB : Hid (Tabs K w) := htb
  have HDK : Hid (∀ b, D b → K b) := hDK
  obtain ⟨W0, hW0, hP0, hK0, hs0, hg0⟩ := h.box
  obtain ⟨K1, hK1⟩ : ∃ K1 : Nat → Prop, (fun b => K b ∨ b = w.heap.size) = K1 := ⟨_, rfl⟩
  rw [hK1] at hP0
  have HKK : Hid (∀ b, K b → K1 b) := fun b hb => by rw [← hK1]; exact .inl hb
  have HK1b : Hid (K1 w.heap.size) := by show K1 _; rw [← hK1]; exact .inr rfl
  have cw := cellR (k := 0) hg0 rfl
  have hm := m_num h.isT p
  have eg := e_num h.isT
  have hm2 := m_fail h.isT p
  have hm3 := m_failed h.isT p
  have eg3 := e_failed h.isT
  have hrd := h.rd74
  have hT0 := h.isT
  obtain ⟨NF, hNF⟩ : ∃ F, nuF t = F := ⟨_, rfl⟩
  obtain ⟨DF, hDF⟩ : ∃ F, fdF t = F := ⟨_, rfl⟩
  rw [hNF] at hm eg
  rw [hDF] at hm3 eg3
  have HDF : Hid (fdF t = DF) := hDF
  have HLI : Hid (ListIs rVal 4 32 D w v xs) := hxs
  obtain ⟨q, cp, rfl, hbytes, hcells⟩ := hxs
  have HCE : Hid (0 < xs.length → ∃ b o, q = some ⟨b, o, none⟩ ∧ D b ∧ ∀ j (h : j < xs.length), ∃ cs, cs.length = 4 ∧ (∀ i u, cs[i]? = some u → w.cell? ⟨b, o + j * 4 + i, none⟩ = some u) ∧ rVal D w cs xs[j]) := hcells
  have hxl : xs.length < 18446744073709551616 := by omega
  have hxl2 : xs.length ≤ 140737488355328 := by omega
  obtain ⟨⟨n1, st1⟩, hn1⟩ : ∃ q, numP st xs.length = q := ⟨_, rfl⟩
  have hnl := numP_len st xs.length
  have hnr := numP_reads st xs.length
  have hn64 : n1 < 18446744073709551616 := by have := numP_lt st xs.length hxl; rw [hn1] at this; exact this
  rw [hn1] at hnl hnr
  simp only at hnl hnr
  have C : Hid (Calls Tryz.prog NF #[.pointer (some ⟨p, 0, none⟩), .int .u64 (xs.length : Int)] W0 fun e w' => e = .returned (.int .u64 (n1 : Int)) ∧ PortIs K1 w' t p st1 ∧ Kept K1 W0 w') := by
    have := num_any _ t p st xs.length W0 hP0 hxl (by omega)
    rw [hn1, hNF] at this
    exact this
  obtain ⟨st2, hst2⟩ : ∃ st2, (if most < n1 then failP st1 else st1) = st2 := ⟨_, rfl⟩
  have hl2 : st2.len = st1.len := by rw [← hst2]; split; exact failP_len _; rfl
  have hr2 : st2.reads = st.reads := by rw [← hst2, ← hnr]; split; exact failP_reads _; rfl
  have HLN : Hid (max st2.len 65536 + c ≤ 990000) := by show _ ≤ _; omega
  have HLN0 : Hid (65536 + c + c ≤ 990000) := by show _ ≤ _; omega
  have HGR : Hid (Grows part c) := hg
  have HPC : Hid (PartC rVal part c t p F #[rv]) := hp
  have HG0 : Hid (W0.heap[w.heap.size]? = some (wb t p)) := hg0
  have HK0 : Hid (Kept K w W0) := hK0
  have HFA : Hid (∀ W, PortIs K1 W t p st1 → Calls Tryz.prog 149 #[.pointer (some ⟨p, 0, none⟩)] W fun e w' => e = .returned (.tuple #[]) ∧ PortIs K1 w' t p (failP st1) ∧ Kept K1 W w') := fun W h => fail_any K1 t p st1 W h
  have hll : (listP most part d st xs) = if st2.reads then takenP part d n1 st2 [] else (xs, eachP part st2 xs) := by simp only [listP, hn1, hst2]
  unfold wk
  clear htb hDK hP0 hK0 hg0 hcells hNF hDF hn1 hK1 h hs0 hg hp hnr
  by_cases ht : t = 94
  · subst ht
    have hta : ∀ (v : Value) (W : World), (Instr.typeAssert (.iface 94 v) 87 94 true).run Tryz.prog W = .ok (.tuple #[v, .bool true]) W := fun v W => by kernel_rfl
    have HLP : Hid (listP most part d st xs = takenP part d n1 st2 []) := by show _ = _; rw [hll, if_pos (by rw [hr2]; exact hrd.2 rfl)]
    have HTC : Hid (TakenC rVal 4 32 part d c 94 p 126 (.func (.func F) #[rv] #[])) := hT rfl
    clear hll hrd hr2 hT hT0
    by_cases hc : most < n1
    · rw [if_pos hc] at hst2
      have z0 : (most : Int) < (n1 : Int) := by omega
      have HF6 : Hid (600 < n1 → failedP st2 = true) := fun _ => by rw [← hst2]; cases st1 using St.three <;> rfl
      go_enter Tryz.func116, Tryz.ntmps116
      go_wp2_with (first | (go_at_fn NF; refine C.out.mono ?_; rintro e w1 ⟨rfl, h1, h2⟩; have H1 : Hid (PortIs K1 w1 94 p st1 ∧ Kept K1 W0 w1) := ⟨h1, h2⟩; have hg1 := (h2.block _ HK1b.out).trans HG0.out; have cw1 := cellR (k := 0) hg1 rfl; have HG1 : Hid (w1.heap[w.heap.size]? = some (wb 94 p)) := hg1; clear h1 h2 hg1 C) | (go_at_call 149; refine (HFA.out _ H1.out.1).mono ?_; rintro e w2 ⟨rfl, h1, h2⟩; rw [hst2] at h1; have H2 : Hid (PortIs K1 w2 94 p st2 ∧ Kept K w w2) := ⟨h1, HK0.out.trans ((H1.out.2.trans h2).less HKK.out)⟩; have hg2 := (h2.block _ HK1b.out).trans HG1.out; have cw2 := cellR (k := 0) hg2 rfl; clear h1 h2 hg2))
      refine (HTC.out K w2 st2 n1 (HTB.out.mono (fun _ h => h) H2.out.2) (H2.out.1.less HKK.out) hn64 HF6.out HLN.out).mono ?_
      rintro e w3 ⟨N, v', rfl, hk2, h1, h2, h3⟩
      have H3 : Hid ((∀ b, N b → w.heap.size ≤ b) ∧ PortIs (fun b => K b ∨ N b) w3 94 p (takenP part d n1 st2 []).2 ∧ ListIs rVal 4 32 N w3 v' (takenP part d n1 st2 []).1 ∧ Kept K w w3) := ⟨fun b hb => Nat.le_trans H2.out.2.size (hk2 b hb), h1, h2, H2.out.2.trans h3⟩
      clear h1 h2 h3 hk2
      obtain ⟨vq, vn', vc, hv'⟩ : ∃ vq vn' vc, v' = .slice vq vn' vc := by obtain ⟨a1, a2, a3, _⟩ := H3.out.2.2.1; exact ⟨_, _, _, a3⟩
      subst hv'
      go_wp2_with fail
      go_ret
      refine ⟨N, _, rfl, H3.out.1, ?_, ?_, H3.out.2.2.2⟩
      · rw [HLP.out]; exact H3.out.2.1
      · rw [HLP.out]; exact ListIs.mono mVal (fun b hb => Or.inr hb) (Kept.refl _ _) H3.out.2.2.1
    · rw [if_neg hc] at hst2
      subst hst2
      have z0 : ¬ (most : Int) < (n1 : Int) := by omega
      have HF6 : Hid (600 < n1 → failedP st1 = true) := fun _ => by omega
      go_enter Tryz.func116, Tryz.ntmps116
      go_wp2_with (go_at_fn NF; refine C.out.mono ?_; rintro e w1 ⟨rfl, h1, h2⟩; have H1 : Hid (PortIs K1 w1 94 p st1 ∧ Kept K w w1) := ⟨h1, HK0.out.trans (h2.less HKK.out)⟩; have hg1 := (h2.block _ HK1b.out).trans HG0.out; have cw1 := cellR (k := 0) hg1 rfl; clear h1 h2 hg1 C)
      refine (HTC.out K w1 st1 n1 (HTB.out.mono (fun _ h => h) H1.out.2) (H1.out.1.less HKK.out) hn64 HF6.out HLN.out).mono ?_
      rintro e w3 ⟨N, v', rfl, hk2, h1, h2, h3⟩
      have H3 : Hid ((∀ b, N b → w.heap.size ≤ b) ∧ PortIs (fun b => K b ∨ N b) w3 94 p (takenP part d n1 st1 []).2 ∧ ListIs rVal 4 32 N w3 v' (takenP part d n1 st1 []).1 ∧ Kept K w w3) := ⟨fun b hb => Nat.le_trans H1.out.2.size (hk2 b hb), h1, h2, H1.out.2.trans h3⟩
      clear h1 h2 h3 hk2
      obtain ⟨vq, vn', vc, hv'⟩ : ∃ vq vn' vc, v' = .slice vq vn' vc := by obtain ⟨a1, a2, a3, _⟩ := H3.out.2.2.1; exact ⟨_, _, _, a3⟩
      subst hv'
      go_wp2_with fail
      go_ret
      refine ⟨N, _, rfl, H3.out.1, ?_, ?_, H3.out.2.2.2⟩
      · rw [HLP.out]; exact H3.out.2.1
      · rw [HLP.out]; exact ListIs.mono mVal (fun b hb => Or.inr hb) (Kept.refl _ _) H3.out.2.2.1
  · have hta : ∀ (v : Value) (W : World), (Instr.typeAssert (.iface t v) 87 94 true).run Tryz.prog W = .ok (.tuple #[.pointer none, .bool false]) W := by
      rcases hT0 with rfl | rfl | rfl
      · exact fun v W => by kernel_rfl
      · exact fun v W => by kernel_rfl
      · exact absurd rfl ht
    have HLP : Hid (listP most part d st xs = (xs, eachP part st2 xs)) := by show _ = _; rw [hll, if_neg (by rw [hr2]; intro e; exact ht (hrd.1 e))]
    clear hll hrd hr2 hT hT0 ht
    by_cases hc : most < n1
    · rw [if_pos hc] at hst2
      have z0 : (most : Int) < (n1 : Int) := by omega
      go_enter Tryz.func116, Tryz.ntmps116
      go_wp2_with (first | (go_at_fn NF; refine C.out.mono ?_; rintro e w1 ⟨rfl, h1, h2⟩; have H1 : Hid (PortIs K1 w1 t p st1 ∧ Kept K1 W0 w1) := ⟨h1, h2⟩; have hg1 := (h2.block _ HK1b.out).trans HG0.out; have cw1 := cellR (k := 0) hg1 rfl; have HG1 : Hid (w1.heap[w.heap.size]? = some (wb t p)) := hg1; clear h1 h2 hg1 C) | (go_at_call 149; refine (HFA.out _ H1.out.1).mono ?_; rintro e W2 ⟨rfl, h1, h2⟩; rw [hst2] at h1; have HP2 : Hid (PortIs K1 W2 t p st2) := h1; have HKW2 : Hid (Kept K w W2) := HK0.out.trans ((H1.out.2.trans h2).less HKK.out); have hg2 := (h2.block _ HK1b.out).trans HG1.out; have cw2 := cellR (k := 0) hg2 rfl; have HG2 : Hid (W2.heap[w.heap.size]? = some (wb t p)) := hg2; clear h1 h2 hg2))
      go_loopg [39] xs.length (fun gf s39 wx => ∃ (i : Nat) (sti : St) (Ki : Nat → Prop), s39 = .int .i64 (i : Int) ∧ Hid (i + gf = xs.length) ∧ Hid (eachP part sti (xs.drop i) = eachP part st2 xs) ∧ Hid (PortIs Ki wx t p sti) ∧ Hid ((∀ b, K1 b → Ki b) ∧ Kept K1 W2 wx ∧ max sti.len 65536 + c ≤ 990000))
      case atStart => exact ⟨0, st2, K1, rfl, (by show _ = _; omega), rfl, HP2, fun _ h => h, Kept.refl _ _, HLN.out⟩
      case round =>
        obtain ⟨i, sti, Ki, rfl, H1, H3, H4, H5⟩ := hrel
        have hcw : wr.heap[w.heap.size]? = some (wb t p) := (H5.out.2.1.block _ (HK1b.out)).trans HG2.out
        have cwr := cellR (k := 0) hcw rfl
        by_cases hi : i < xs.length
        · obtain ⟨g', rfl⟩ : ∃ g', gk = g' + 1 := ⟨gk - 1, by have := H1.out; omega⟩
          obtain ⟨b, o, rfl, hKb, hall⟩ := HCE.out (by omega)
          obtain ⟨cs, hcl, hcc, hrel0⟩ := hall i hi
          have HKW : Hid (Kept K w wr) := HKW2.out.trans (H5.out.2.1.less HKK.out)
          have HST : Hid (xs.drop i = xs[i] :: xs.drop (i + 1)) := by show _ = _; exact List.drop_eq_getElem_cons hi
          obtain ⟨X, hX⟩ : ∃ X, xs[i] = X := ⟨_, rfl⟩
          rw [hX] at hrel0 HST
          clear hX
          have hre : rVal D wr cs X := mVal _ _ _ _ _ _ (fun _ h => h) (HKW.out.less HDK.out) hrel0
          obtain ⟨xk, xb, xn, xt⟩ := X
          obtain ⟨hcs, _⟩ := hrel0
          replace hcs : cs = [Value.int .u8 xk, Value.bool xb, Value.int .i64 xn, Value.string xt] := hcs
          subst hcs
          have HRE : Hid (rVal D wr [Value.int .u8 xk, Value.bool xb, Value.int .i64 xn, Value.string xt] ⟨xk, xb, xn, xt⟩) := hre
          have f0 : wr.cell? ⟨b, o + i * 4 + 0, none⟩ = some (Value.int .u8 xk) := by rw [HKW.out.cell (p := ⟨b, _, none⟩) (HDK.out _ hKb)]; exact hcc 0 _ rfl
          have f1 : wr.cell? ⟨b, o + i * 4 + 1, none⟩ = some (Value.bool xb) := by rw [HKW.out.cell (p := ⟨b, _, none⟩) (HDK.out _ hKb)]; exact hcc 1 _ rfl
          have f2 : wr.cell? ⟨b, o + i * 4 + 2, none⟩ = some (Value.int .i64 xn) := by rw [HKW.out.cell (p := ⟨b, _, none⟩) (HDK.out _ hKb)]; exact hcc 2 _ rfl
          have f3 : wr.cell? ⟨b, o + i * 4 + 3, none⟩ = some (Value.string xt) := by rw [HKW.out.cell (p := ⟨b, _, none⟩) (HDK.out _ hKb)]; exact hcc 3 _ rfl
          have f0' : wr.cell? ⟨b, o + i * 4, none⟩ = some (Value.int .u8 xk) := f0
          have z0 : (0 : Int) ≤ (i : Int) := by omega
          have z1 : (i : Int) < (xs.length : Int) := by omega
          obtain ⟨W3, hW3⟩ : ∃ W3, wr.alloc (.cells #[Value.int .u8 xk, Value.bool xb, Value.int .i64 xn, Value.string xt] 64) = W3 := ⟨_, rfl⟩
          have hbx : W3.heap[wr.heap.size]? = some (.cells #[Value.int .u8 xk, Value.bool xb, Value.int .i64 xn, Value.string xt] 64 (0, 0)) := by rw [← hW3]; exact heap_alloc_new wr _
          have hPX : PortIs (fun b => Ki b ∨ b = wr.heap.size) W3 t p sti := by rw [← hW3]; exact H4.out.alloc _
          have hKX : Kept Ki wr W3 := by rw [← hW3]; exact (Kept.refl Ki wr).alloc H4.out.lt _
          have cw3 : W3.cell? ⟨w.heap.size, 0, none⟩ = some (.iface t (.pointer (some ⟨p, 0, none⟩))) := cellR ((hKX.block _ (H5.out.1 _ HK1b.out)).trans hcw) rfl
          have CD : Hid (Calls Tryz.prog DF #[.pointer (some ⟨p, 0, none⟩)] W3 fun e w' => e = .returned (.bool (failedP sti)) ∧ PortIs (fun b => Ki b ∨ b = wr.heap.size) w' t p sti ∧ Kept (fun b => Ki b ∨ b = wr.heap.size) W3 w') := by
            have := failed_any _ t p sti W3 hPX
            rw [HDF.out] at this
            exact this
          have HBX : Hid (W3.heap[wr.heap.size]? = some (.cells #[Value.int .u8 xk, Value.bool xb, Value.int .i64 xn, Value.string xt] 64 (0, 0))) := hbx
          have HKX : Hid (Kept Ki wr W3) := hKX
          have HKB : Hid (D b) := hKb
          clear hbx hPX hKX hcw hcl hcc hre hall hKb
          cases hfd : failedP sti with
          | true =>
            rw [hfd] at CD
            have HEQ : Hid (eachP part st2 xs = sti) := by show _ = _; rw [← H3.out, HST.out]; simp only [eachP]; rw [if_pos hfd]
            clear hfd
            go_wp2_with (go_at_fn DF; refine CD.out.mono ?_; rintro e w4 ⟨rfl, h1, h2⟩; have H6 : Hid (PortIs Ki w4 t p sti ∧ Kept Ki wr w4) := ⟨h1.less fun b hb => Or.inl hb, HKX.out.trans (h2.less fun b hb => Or.inl hb)⟩; clear h1 h2 CD)
            go_ret
            have hk4 : Kept K w w4 := HKW.out.trans (H6.out.2.less fun b hb => H5.out.1 b (HKK.out b hb))
            have hki : ∀ b, K b → Ki b := fun b hb => H5.out.1 b (HKK.out b hb)
            refine ⟨fun _ => False, _, rfl, fun b hb => hb.elim, ?_, ?_, hk4⟩
            · rw [HLP.out]; show PortIs _ w4 t p (eachP part st2 xs); rw [HEQ.out]; exact H6.out.1.less fun b hb => hb.elim (fun h => hki b h) (fun h => h.elim)
            · rw [HLP.out]; exact ListIs.mono mVal (fun b hb => Or.inl hb) (hk4.less HDK.out) HLI.out
          | false =>
            rw [hfd] at CD
            have HEQ : Hid (eachP part (part sti (⟨xk, xb, xn, xt⟩ : Val)).2 (xs.drop (i + 1)) = eachP part st2 xs) := by show _ = _; rw [← H3.out, HST.out]; simp only [eachP]; rw [hfd]; simp
            have HLN2 : Hid (max (part sti (⟨xk, xb, xn, xt⟩ : Val)).2.len 65536 + c ≤ 990000) := by have h1 := HGR.out sti (⟨xk, xb, xn, xt⟩ : Val); have h2 := failedP_len hfd; have h3 := HLN0.out; show _ ≤ _; omega
            clear hfd
            go_wp2_with (first | (go_at_fn DF; refine CD.out.mono ?_; rintro e w4 ⟨rfl, h1, h2⟩; have H6 : Hid (PortIs Ki w4 t p sti ∧ Kept Ki wr w4) := ⟨h1.less fun b hb => Or.inl hb, HKX.out.trans (h2.less fun b hb => Or.inl hb)⟩; have y0 := cellR (k := 0) ((h2.block _ (.inr rfl)).trans HBX.out) rfl; have y1 := cellR (k := 1) ((h2.block _ (.inr rfl)).trans HBX.out) rfl; have y2 := cellR (k := 2) ((h2.block _ (.inr rfl)).trans HBX.out) rfl; have y3 := cellR (k := 3) ((h2.block _ (.inr rfl)).trans HBX.out) rfl; have CP : Hid (Calls Tryz.prog F #[rv, .agg #[Value.int .u8 xk, Value.bool xb, Value.int .i64 xn, Value.string xt]] w4 fun e w' => ∃ (N : Nat → Prop) (cs' : List Value), e = .returned (asV cs') ∧ (∀ b, N b → w4.heap.size ≤ b) ∧ PortIs (fun b => Ki b ∨ N b) w' t p (part sti (⟨xk, xb, xn, xt⟩ : Val)).2 ∧ rVal (fun b => D b ∨ N b) w' cs' (part sti (⟨xk, xb, xn, xt⟩ : Val)).1 ∧ Kept Ki w4 w') := HPC.out Ki D w4 sti [Value.int .u8 xk, Value.bool xb, Value.int .i64 xn, Value.string xt] (⟨xk, xb, xn, xt⟩ : Val) (HTB.out.mono (fun b hb => H5.out.1 b (HKK.out b hb)) (HKW.out.trans (H6.out.2.less (fun b hb => H5.out.1 b (HKK.out b hb))))) H6.out.1 (fun b hb => H5.out.1 b (HKK.out b (HDK.out b hb))) (mVal _ _ _ _ _ _ (fun _ h => h) (H6.out.2.less (fun b hb => H5.out.1 b (HKK.out b (HDK.out b hb)))) HRE.out) H5.out.2.2; clear h1 h2 CD) | (go_at_fn F; refine CP.out.mono ?_; rintro e w5 ⟨N, cs', rfl, hk2, h1, h2, h3⟩; have H7 : Hid (PortIs Ki w5 t p (part sti (⟨xk, xb, xn, xt⟩ : Val)).2 ∧ Kept Ki wr w5) := ⟨h1.less fun b hb => Or.inl hb, H6.out.2.trans h3⟩; clear h1 h2 h3 hk2 CP))
            go_roundg g'
            case measure => omega
            case rel => exact ⟨i + 1, (part sti (⟨xk, xb, xn, xt⟩ : Val)).2, Ki, by go_num, (by show _ = _; have := H1.out; omega), HEQ, H7.out.1, H5.out.1, H5.out.2.1.trans (H7.out.2.less H5.out.1), HLN2.out⟩
        · have z1 : ¬ (i : Int) < (xs.length : Int) := by omega
          have HEQ : Hid (eachP part st2 xs = sti) := by show _ = _; rw [← H3.out, List.drop_eq_nil_of_le (by omega)]; rfl
          clear hcw
          go_wp2_with fail
          go_ret
          have hk4 : Kept K w wr := HKW2.out.trans (H5.out.2.1.less HKK.out)
          have hki : ∀ b, K b → Ki b := fun b hb => H5.out.1 b (HKK.out b hb)
          refine ⟨fun _ => False, _, rfl, fun b hb => hb.elim, ?_, ?_, hk4⟩
          · rw [HLP.out]; show PortIs _ wr t p (eachP part st2 xs); rw [HEQ.out]; exact H4.out.less fun b hb => hb.elim (fun h => hki b h) (fun h => h.elim)
          · rw [HLP.out]; exact ListIs.mono mVal (fun b hb => Or.inl hb) (hk4.less HDK.out) HLI.out
    · rw [if_neg hc] at hst2
      subst hst2
      obtain ⟨st2, hst2⟩ : ∃ st2, st1 = st2 := ⟨_, rfl⟩
      subst hst2
      have z0 : ¬ (most : Int) < (n1 : Int) := by omega
      go_enter Tryz.func116, Tryz.ntmps116
      go_wp2_with (go_at_fn NF; refine C.out.mono ?_; rintro e W2 ⟨rfl, h1, h2⟩; have HP2 : Hid (PortIs K1 W2 t p st1) := h1; have HKW2 : Hid (Kept K w W2) := HK0.out.trans (h2.less HKK.out); have hg2 := (h2.block _ HK1b.out).trans HG0.out; have cw2 := cellR (k := 0) hg2 rfl; have HG2 : Hid (W2.heap[w.heap.size]? = some (wb t p)) := hg2; clear h1 h2 hg2 C)
      go_loopg [39] xs.length (fun gf s39 wx => ∃ (i : Nat) (sti : St) (Ki : Nat → Prop), s39 = .int .i64 (i : Int) ∧ Hid (i + gf = xs.length) ∧ Hid (eachP part sti (xs.drop i) = eachP part st1 xs) ∧ Hid (PortIs Ki wx t p sti) ∧ Hid ((∀ b, K1 b → Ki b) ∧ Kept K1 W2 wx ∧ max sti.len 65536 + c ≤ 990000))
      case atStart => exact ⟨0, st1, K1, rfl, (by show _ = _; omega), rfl, HP2, fun _ h => h, Kept.refl _ _, HLN.out⟩
      case round =>
        obtain ⟨i, sti, Ki, rfl, H1, H3, H4, H5⟩ := hrel
        have hcw : wr.heap[w.heap.size]? = some (wb t p) := (H5.out.2.1.block _ (HK1b.out)).trans HG2.out
        have cwr := cellR (k := 0) hcw rfl
        by_cases hi : i < xs.length
        · obtain ⟨g', rfl⟩ : ∃ g', gk = g' + 1 := ⟨gk - 1, by have := H1.out; omega⟩
          obtain ⟨b, o, rfl, hKb, hall⟩ := HCE.out (by omega)
          obtain ⟨cs, hcl, hcc, hrel0⟩ := hall i hi
          have HKW : Hid (Kept K w wr) := HKW2.out.trans (H5.out.2.1.less HKK.out)
          have HST : Hid (xs.drop i = xs[i] :: xs.drop (i + 1)) := by show _ = _; exact List.drop_eq_getElem_cons hi
          obtain ⟨X, hX⟩ : ∃ X, xs[i] = X := ⟨_, rfl⟩
          rw [hX] at hrel0 HST
          clear hX
          have hre : rVal D wr cs X := mVal _ _ _ _ _ _ (fun _ h => h) (HKW.out.less HDK.out) hrel0
          obtain ⟨xk, xb, xn, xt⟩ := X
          obtain ⟨hcs, _⟩ := hrel0
          replace hcs : cs = [Value.int .u8 xk, Value.bool xb, Value.int .i64 xn, Value.string xt] := hcs
          subst hcs
          have HRE : Hid (rVal D wr [Value.int .u8 xk, Value.bool xb, Value.int .i64 xn, Value.string xt] ⟨xk, xb, xn, xt⟩) := hre
          have f0 : wr.cell? ⟨b, o + i * 4 + 0, none⟩ = some (Value.int .u8 xk) := by rw [HKW.out.cell (p := ⟨b, _, none⟩) (HDK.out _ hKb)]; exact hcc 0 _ rfl
          have f1 : wr.cell? ⟨b, o + i * 4 + 1, none⟩ = some (Value.bool xb) := by rw [HKW.out.cell (p := ⟨b, _, none⟩) (HDK.out _ hKb)]; exact hcc 1 _ rfl
          have f2 : wr.cell? ⟨b, o + i * 4 + 2, none⟩ = some (Value.int .i64 xn) := by rw [HKW.out.cell (p := ⟨b, _, none⟩) (HDK.out _ hKb)]; exact hcc 2 _ rfl
          have f3 : wr.cell? ⟨b, o + i * 4 + 3, none⟩ = some (Value.string xt) := by rw [HKW.out.cell (p := ⟨b, _, none⟩) (HDK.out _ hKb)]; exact hcc 3 _ rfl
          have f0' : wr.cell? ⟨b, o + i * 4, none⟩ = some (Value.int .u8 xk) := f0
          have z0 : (0 : Int) ≤ (i : Int) := by omega
          have z1 : (i : Int) < (xs.length : Int) := by omega
          obtain ⟨W3, hW3⟩ : ∃ W3, wr.alloc (.cells #[Value.int .u8 xk, Value.bool xb, Value.int .i64 xn, Value.string xt] 64) = W3 := ⟨_, rfl⟩
          have hbx : W3.heap[wr.heap.size]? = some (.cells #[Value.int .u8 xk, Value.bool xb, Value.int .i64 xn, Value.string xt] 64 (0, 0)) := by rw [← hW3]; exact heap_alloc_new wr _
          have hPX : PortIs (fun b => Ki b ∨ b = wr.heap.size) W3 t p sti := by rw [← hW3]; exact H4.out.alloc _
          have hKX : Kept Ki wr W3 := by rw [← hW3]; exact (Kept.refl Ki wr).alloc H4.out.lt _
          have cw3 : W3.cell? ⟨w.heap.size, 0, none⟩ = some (.iface t (.pointer (some ⟨p, 0, none⟩))) := cellR ((hKX.block _ (H5.out.1 _ HK1b.out)).trans hcw) rfl
          have CD : Hid (Calls Tryz.prog DF #[.pointer (some ⟨p, 0, none⟩)] W3 fun e w' => e = .returned (.bool (failedP sti)) ∧ PortIs (fun b => Ki b ∨ b = wr.heap.size) w' t p sti ∧ Kept (fun b => Ki b ∨ b = wr.heap.size) W3 w') := by
            have := failed_any _ t p sti W3 hPX
            rw [HDF.out] at this
            exact this
          have HBX : Hid (W3.heap[wr.heap.size]? = some (.cells #[Value.int .u8 xk, Value.bool xb, Value.int .i64 xn, Value.string xt] 64 (0, 0))) := hbx
          have HKX : Hid (Kept Ki wr W3) := hKX
          have HKB : Hid (D b) := hKb
          clear hbx hPX hKX hcw hcl hcc hre hall hKb
          cases hfd : failedP sti with
          | true =>
            rw [hfd] at CD
            have HEQ : Hid (eachP part st1 xs = sti) := by show _ = _; rw [← H3.out, HST.out]; simp only [eachP]; rw [if_pos hfd]
            clear hfd
            go_wp2_with (go_at_fn DF; refine CD.out.mono ?_; rintro e w4 ⟨rfl, h1, h2⟩; have H6 : Hid (PortIs Ki w4 t p sti ∧ Kept Ki wr w4) := ⟨h1.less fun b hb => Or.inl hb, HKX.out.trans (h2.less fun b hb => Or.inl hb)⟩; clear h1 h2 CD)
            go_ret
            have hk4 : Kept K w w4 := HKW.out.trans (H6.out.2.less fun b hb => H5.out.1 b (HKK.out b hb))
            have hki : ∀ b, K b → Ki b := fun b hb => H5.out.1 b (HKK.out b hb)
            refine ⟨fun _ => False, _, rfl, fun b hb => hb.elim, ?_, ?_, hk4⟩
            · rw [HLP.out]; show PortIs _ w4 t p (eachP part st1 xs); rw [HEQ.out]; exact H6.out.1.less fun b hb => hb.elim (fun h => hki b h) (fun h => h.elim)
            · rw [HLP.out]; exact ListIs.mono mVal (fun b hb => Or.inl hb) (hk4.less HDK.out) HLI.out
          | false =>
            rw [hfd] at CD
            have HEQ : Hid (eachP part (part sti (⟨xk, xb, xn, xt⟩ : Val)).2 (xs.drop (i + 1)) = eachP part st1 xs) := by show _ = _; rw [← H3.out, HST.out]; simp only [eachP]; rw [hfd]; simp
            have HLN2 : Hid (max (part sti (⟨xk, xb, xn, xt⟩ : Val)).2.len 65536 + c ≤ 990000) := by have h1 := HGR.out sti (⟨xk, xb, xn, xt⟩ : Val); have h2 := failedP_len hfd; have h3 := HLN0.out; show _ ≤ _; omega
            clear hfd
            go_wp2_with (first | (go_at_fn DF; refine CD.out.mono ?_; rintro e w4 ⟨rfl, h1, h2⟩; have H6 : Hid (PortIs Ki w4 t p sti ∧ Kept Ki wr w4) := ⟨h1.less fun b hb => Or.inl hb, HKX.out.trans (h2.less fun b hb => Or.inl hb)⟩; have y0 := cellR (k := 0) ((h2.block _ (.inr rfl)).trans HBX.out) rfl; have y1 := cellR (k := 1) ((h2.block _ (.inr rfl)).trans HBX.out) rfl; have y2 := cellR (k := 2) ((h2.block _ (.inr rfl)).trans HBX.out) rfl; have y3 := cellR (k := 3) ((h2.block _ (.inr rfl)).trans HBX.out) rfl; have CP : Hid (Calls Tryz.prog F #[rv, .agg #[Value.int .u8 xk, Value.bool xb, Value.int .i64 xn, Value.string xt]] w4 fun e w' => ∃ (N : Nat → Prop) (cs' : List Value), e = .returned (asV cs') ∧ (∀ b, N b → w4.heap.size ≤ b) ∧ PortIs (fun b => Ki b ∨ N b) w' t p (part sti (⟨xk, xb, xn, xt⟩ : Val)).2 ∧ rVal (fun b => D b ∨ N b) w' cs' (part sti (⟨xk, xb, xn, xt⟩ : Val)).1 ∧ Kept Ki w4 w') := HPC.out Ki D w4 sti [Value.int .u8 xk, Value.bool xb, Value.int .i64 xn, Value.string xt] (⟨xk, xb, xn, xt⟩ : Val) (HTB.out.mono (fun b hb => H5.out.1 b (HKK.out b hb)) (HKW.out.trans (H6.out.2.less (fun b hb => H5.out.1 b (HKK.out b hb))))) H6.out.1 (fun b hb => H5.out.1 b (HKK.out b (HDK.out b hb))) (mVal _ _ _ _ _ _ (fun _ h => h) (H6.out.2.less (fun b hb => H5.out.1 b (HKK.out b (HDK.out b hb)))) HRE.out) H5.out.2.2; clear h1 h2 CD) | (go_at_fn F; refine CP.out.mono ?_; rintro e w5 ⟨N, cs', rfl, hk2, h1, h2, h3⟩; have H7 : Hid (PortIs Ki w5 t p (part sti (⟨xk, xb, xn, xt⟩ : Val)).2 ∧ Kept Ki wr w5) := ⟨h1.less fun b hb => Or.inl hb, H6.out.2.trans h3⟩; clear h1 h2 h3 hk2 CP))
            go_roundg g'
            case measure => omega
            case rel => exact ⟨i + 1, (part sti (⟨xk, xb, xn, xt⟩ : Val)).2, Ki, by go_num, (by show _ = _; have := H1.out; omega), HEQ, H7.out.1, H5.out.1, H5.out.2.1.trans (H7.out.2.less H5.out.1), HLN2.out⟩
        · have z1 : ¬ (i : Int) < (xs.length : Int) := by omega
          have HEQ : Hid (eachP part st1 xs = sti) := by show _ = _; rw [← H3.out, List.drop_eq_nil_of_le (by omega)]; rfl
          clear hcw
          go_wp2_with fail
          go_ret
          have hk4 : Kept K w wr := HKW2.out.trans (H5.out.2.1.less HKK.out)
          have hki : ∀ b, K b → Ki b := fun b hb => H5.out.1 b (HKK.out b hb)
          refine ⟨fun _ => False, _, rfl, fun b hb => hb.elim, ?_, ?_, hk4⟩
          · rw [HLP.out]; show PortIs _ wr t p (eachP part st1 xs); rw [HEQ.out]; exact H4.out.less fun b hb => hb.elim (fun h => hki b h) (fun h => h.elim)
          · rw [HLP.out]; exact ListIs.mono mVal (fun b hb => Or.inl hb) (hk4.less HDK.out) HLI.out
end Go.Proofs.YtgdjhkcllpkiiaaGreatDoor
/- What taken answers of Val. -/
namespace Go.Proofs.YtgdjhkcllpkiiaaGreatDoor
open Go.Shelf Go.RowKit Go.Lib
set_option linter.unusedVariables false
set_option linter.unusedSimpArgs false
attribute [local go_sem ↓] Go.wp_at_zero Go.wp_at_succ
theorem infoE71 : ∃ i0, Tryz.prog.info? 64 = some i0 ∧ i0.zero = some ((Value.agg #[Value.int .u8 0, Value.bool false, Value.int .i64 0, Value.string ⟨#[]⟩])) ∧ i0.size = 4 ∧ i0.bytes = 32 := by
  have h1 : (Tryz.prog.info? 64).bind (·.zero) = some ((Value.agg #[Value.int .u8 0, Value.bool false, Value.int .i64 0, Value.string ⟨#[]⟩])) := by kernel_rfl
  have h2 : (Tryz.prog.info? 64).map (·.size) = some 4 := by kernel_rfl
  have h3 : (Tryz.prog.info? 64).map (·.bytes) = some 32 := by kernel_rfl
  generalize Tryz.prog.info? 64 = i at *
  cases i with
  | none => cases h1
  | some i => exact ⟨i, rfl, h1, Option.some.inj h2, Option.some.inj h3⟩
set_option maxRecDepth 100000 in
set_option maxHeartbeats 4000000 in
theorem taken71_any (part : St → Val → Val × St) (d : Val) (c p F : Nat) (rv : Value) (hcb : c ≤ 400000) (hg : Grows part c) (eF : ∀ args w, (callFunc F args).run Tryz.prog w = .ok (.enter F args) w)
    (hp : PartC rVal part c 94 p F #[rv]) (hd : ∀ W, rVal (fun _ => False) W [Value.int .u8 0, Value.bool false, Value.int .i64 0, Value.string ⟨#[]⟩] d) :
    TakenC rVal 4 32 part d c 94 p 126 (.func (.func F) #[rv] #[]) := by
  intro K w st n htb h hn64 h600 hl
  have HTB : Hid (Tabs K w) := htb
  obtain ⟨W0, hW0, hP0, hK0, hs0, hg0⟩ := h.box
  obtain ⟨K1, hK1⟩ : ∃ K1 : Nat → Prop, (fun b => K b ∨ b = w.heap.size) = K1 := ⟨_, rfl⟩
  rw [hK1] at hP0
  have HKK : Hid (∀ b, K b → K1 b) := fun b hb => by rw [← hK1]; exact .inl hb
  have HK1b : Hid (K1 w.heap.size) := by show K1 _; rw [← hK1]; exact .inr rfl
  have HK1s : Hid (∀ b, K1 b → K b ∨ b = w.heap.size) := fun b hb => by rw [← hK1] at hb; exact hb
  have cw := cellR (k := 0) hg0 rfl
  have hm3 := m_failed h.isT p
  have eg3 := e_failed h.isT
  obtain ⟨DF, hDF⟩ : ∃ F, fdF 94 = F := ⟨_, rfl⟩
  rw [hDF] at hm3 eg3
  have HDF : Hid (fdF 94 = DF) := hDF
  have HGR : Hid (Grows part c) := hg
  have HPC : Hid (PartC rVal part c 94 p F #[rv]) := hp
  have HG0 : Hid (W0.heap[w.heap.size]? = some (wb 94 p)) := hg0
  have HK0 : Hid (Kept K w W0) := hK0
  have HP0 : Hid (PortIs K1 W0 94 p st) := hP0
  have H600 : Hid (600 < n → failedP st = true) := h600
  have HL : Hid (max st.len 65536 + c ≤ 990000) := hl
  have HLN0 : Hid (65536 + c + c ≤ 990000) := by show _ ≤ _; omega
  have HLT0 : Hid (∀ b, K b → b < w.heap.size) := h.lt
  have HD : Hid (∀ W, rVal (fun _ => False) W [Value.int .u8 0, Value.bool false, Value.int .i64 0, Value.string ⟨#[]⟩] d) := hd
  obtain ⟨i0, hi0, hz0, hz1, hz2⟩ := infoE71
  have hz0' : Hid (i0.zero = some ((Value.agg #[Value.int .u8 0, Value.bool false, Value.int .i64 0, Value.string ⟨#[]⟩]))) := hz0
  have hpl : p < w.heap.size := h.pos
  have HS0 : Hid (W0.heap.size = w.heap.size + 1) := hs0
  unfold wk
  clear htb hP0 hK0 hg0 hDF hK1 h hs0 hg hp h600 hl hd hz0
  go_enter Tryz.func126, Tryz.ntmps126
  go_wp2_with fail
  go_loopg [7, 10] n (fun gf s7 s10 wx => ∃ (i : Nat) (sti : St) (D : Nat → Prop) (q7 : Option Addr) (c7 : Nat) (acc : List Val) (css : List (List Value)), s7 = .slice q7 acc.length c7 ∧ s10 = .int .u64 (i : Int) ∧ Hid (i + gf = n) ∧ Hid (acc.length = i) ∧ Hid (600 < n → failedP sti = true) ∧ Hid (takenP part d gf sti acc = takenP part d n st []) ∧ Hid (wx.ownsRow 0 64 4 (.slice q7 acc.length c7) acc.length css.flatten) ∧ Hid (css.length = acc.length ∧ (∀ cs ∈ css, cs.length = 4) ∧ (∀ j (h1 : j < css.length) (h2 : j < acc.length), rVal D wx css[j] acc[j])) ∧ Hid ((∀ b, D b → w.heap.size < b ∧ b < wx.heap.size) ∧ ∀ g, (Value.slice q7 acc.length c7).ownBlock = some g → ¬ D g ∧ w.heap.size < g) ∧ Hid (PortIs (fun b => K1 b ∨ D b) wx 94 p sti) ∧ Hid (Kept K1 W0 wx ∧ max sti.len 65536 + c ≤ 990000))
  case atStart => exact ⟨0, st, fun _ => False, none, 0, [], [], rfl, rfl, (by show _ = _; omega), rfl, H600.out, rfl, World.ownsRow_nil _ _ _ _, ⟨rfl, fun _ h => by simp at h, fun j h1 h2 => by simp at h1⟩, ⟨fun b hb => hb.elim, fun g hg => by simp [Value.ownBlock] at hg⟩, HP0.out.less (fun b hb => hb.elim id (fun h => h.elim)), Kept.refl _ _, HL.out⟩
  case round =>
    obtain ⟨i, sti, D, q7, c7, acc, css, rfl, rfl, H1, H2, H3, H4, H5, H6, H7, H8, H9⟩ := hrel
    have hcw : wr.heap[w.heap.size]? = some (wb 94 p) := (H9.out.1.block _ HK1b.out).trans HG0.out
    have cwr := cellR (k := 0) hcw rfl
    by_cases hi : i < n
    · obtain ⟨g', rfl⟩ : ∃ g', gk = g' + 1 := ⟨gk - 1, by have := H1.out; omega⟩
      have z1 : (i : Int) < (n : Int) := by omega
      have hi64 : i < 18446744073709551616 := by omega
      obtain ⟨K3, hK3⟩ : ∃ K3 : Nat → Prop, (fun b => (K1 b ∨ D b) ∨ (Value.slice q7 acc.length c7).ownBlock = some b) = K3 := ⟨_, rfl⟩
      have HK3a : Hid (∀ b, K1 b ∨ D b → K3 b) := fun b hb => by rw [← hK3]; exact .inl hb
      have HK3b : Hid (∀ b, (Value.slice q7 acc.length c7).ownBlock = some b → K3 b) := fun b hb => by rw [← hK3]; exact .inr hb
      have HK3s : Hid (∀ b, K3 b → (K1 b ∨ D b) ∨ (Value.slice q7 acc.length c7).ownBlock = some b) := fun b hb => by rw [← hK3] at hb; exact hb
      clear hK3
      have hPX : PortIs K3 wr 94 p sti := H8.out.wide (fun e => (HK3s.out p e).elim H8.out.out (fun e => by have := (H7.out.2 p e).2; omega)) (fun b hb => (HK3s.out b hb).elim (H8.out.lt b) (fun e => ownsRow_lt H5.out b e)) (fun b hb hpb => (HK3s.out b hb).elim (fun e => H8.out.unf rfl b e hpb) (fun e => own_unf H5.out b e))
      have CD : Hid (Calls Tryz.prog DF #[.pointer (some ⟨p, 0, none⟩)] wr fun e w' => e = .returned (.bool (failedP sti)) ∧ PortIs K3 w' 94 p sti ∧ Kept K3 wr w') := by
        have := failed_any _ 94 p sti wr hPX
        rw [HDF.out] at this
        exact this
      have HCW : Hid (wr.heap[w.heap.size]? = some (wb 94 p)) := hcw
      clear hcw hPX
      cases hfd : failedP sti with
      | true =>
        rw [hfd] at CD
        have HEQ : Hid (takenP part d n st [] = ([], sti)) := by show _ = _; rw [← H4.out]; simp only [takenP]; rw [if_pos hfd]
        clear hfd
        go_wp2_with (go_at_fn DF; refine CD.out.mono ?_; rintro e w4 ⟨rfl, h1, h2⟩; have H10 : Hid (PortIs K3 w4 94 p sti ∧ Kept K3 wr w4) := ⟨h1, h2⟩; clear h1 h2 CD)
        go_ret
        refine ⟨fun _ => False, _, rfl, fun b hb => hb.elim, ?_, ?_, ?_⟩
        · rw [HEQ.out]; exact H10.out.1.less fun b hb => hb.elim (fun h => HK3a.out b (.inl (HKK.out b h))) (fun h => h.elim)
        · rw [HEQ.out]; exact ListIs.nil _ _ _ _ _
        · exact HK0.out.trans ((H9.out.1.less HKK.out).trans (H10.out.2.less fun b hb => HK3a.out b (.inl (HKK.out b hb))))
      | false =>
        rw [hfd] at CD
        have hn6 : n ≤ 600 := by
          false_or_by_contra
          rename_i hh
          rw [H3.out (by omega)] at hfd
          cases hfd
        have HEQ : Hid (takenP part d g' (part sti d).2 (acc ++ [(part sti d).1]) = takenP part d n st []) := by show _ = _; rw [← H4.out]; simp only [takenP]; rw [hfd]; simp
        have HLN2 : Hid (max (part sti d).2.len 65536 + c ≤ 990000) := by have h1 := HGR.out sti d; have h2 := failedP_len hfd; have h3 := HLN0.out; show _ ≤ _; omega
        have hal : acc.length = i := H2.out
        have hal6 : acc.length ≤ 600 := by omega
        clear hfd hal
        go_wp2_with (first | (go_at_fn DF; refine CD.out.mono ?_; rintro e w4 ⟨rfl, h1, h2⟩; have H10 : Hid (PortIs K3 w4 94 p sti ∧ Kept K3 wr w4) := ⟨h1, h2⟩; have HW5 : Hid (Kept K3 w4 (w4.alloc (.cells #[Value.int .u8 0, Value.bool false, Value.int .i64 0, Value.string ⟨#[]⟩] 64))) := (Kept.refl K3 w4).alloc H10.out.1.lt _; have HP5 : Hid (PortIs K3 (w4.alloc (.cells #[Value.int .u8 0, Value.bool false, Value.int .i64 0, Value.string ⟨#[]⟩] 64)) 94 p sti) := H10.out.1.allocK _; have CP : Hid (Calls Tryz.prog F #[rv, .agg #[Value.int .u8 0, Value.bool false, Value.int .i64 0, Value.string ⟨#[]⟩]] (w4.alloc (.cells #[Value.int .u8 0, Value.bool false, Value.int .i64 0, Value.string ⟨#[]⟩] 64)) fun e w' => ∃ (N : Nat → Prop) (cs' : List Value), e = .returned (asV cs') ∧ (∀ b, N b → (w4.alloc (.cells #[Value.int .u8 0, Value.bool false, Value.int .i64 0, Value.string ⟨#[]⟩] 64)).heap.size ≤ b) ∧ PortIs (fun b => K3 b ∨ N b) w' 94 p (part sti d).2 ∧ rVal (fun b => False ∨ N b) w' cs' (part sti d).1 ∧ Kept K3 (w4.alloc (.cells #[Value.int .u8 0, Value.bool false, Value.int .i64 0, Value.string ⟨#[]⟩] 64)) w') := HPC.out K3 (fun _ => False) (w4.alloc (.cells #[Value.int .u8 0, Value.bool false, Value.int .i64 0, Value.string ⟨#[]⟩] 64)) sti [Value.int .u8 0, Value.bool false, Value.int .i64 0, Value.string ⟨#[]⟩] d (HTB.out.mono (fun b hb => HK3a.out b (Or.inl (HKK.out b hb))) (HK0.out.trans ((H9.out.1.less HKK.out).trans ((H10.out.2.trans HW5.out).less (fun b hb => HK3a.out b (Or.inl (HKK.out b hb))))))) HP5.out (fun b hb => hb.elim) (HD.out _) H9.out.2; clear h1 h2 CD) | (go_at_fn F; refine CP.out.mono ?_; rintro e w6 ⟨N, cs', he, hN, h1, h2, h3⟩; obtain ⟨X, hX⟩ : ∃ X, (part sti d).1 = X := ⟨_, rfl⟩; rw [hX] at h2; have HRX : Hid (rVal (fun b => False ∨ N b) w6 cs' X) := h2; have HXE : Hid ((part sti d).1 = X) := hX; clear hX; obtain ⟨xk, xb, xn, xt⟩ := X; obtain ⟨hcs, _⟩ := h2; replace hcs : cs' = [Value.int .u8 xk, Value.bool xb, Value.int .i64 xn, Value.string xt] := hcs; subst hcs; replace he : e = .returned (.agg #[Value.int .u8 xk, Value.bool xb, Value.int .i64 xn, Value.string xt]) := he; subst he; have H12 : Hid (PortIs (fun b => K3 b ∨ N b) w6 94 p (part sti d).2 ∧ Kept K3 wr w6 ∧ (∀ b, N b → wr.heap.size ≤ b)) := ⟨h1, H10.out.2.trans (HW5.out.trans h3), fun b hb => Nat.le_trans (Nat.le_trans H10.out.2.size HW5.out.size) (hN b hb)⟩; clear h1 h3 hN CP) | (at_builtin; refine wpList_append_own_at _ rfl _ _ 60 rfl 0 64 i0 _ 4 32 Tryz.underlying60 hi0 hz0'.out hz1 hz2 rfl (by decide) (.slice q7 acc.length c7) acc.length css.flatten rfl (ownsRow_of_block H5.out (fun g hg => by rw [hao _ _ _ (Nat.lt_of_lt_of_le (ownsRow_lt H5.out g hg) H12.out.2.1.size), H12.out.2.1.block g (HK3b.out g hg)])) ⟨_, 0, none⟩ 1 1 [Value.int .u8 xk, Value.bool xb, Value.int .i64 xn, Value.string xt] rfl rfl (cell_list_new _ _ _) (fun x hx => by simp at hx; rcases hx with rfl | rfl | rfl | rfl <;> rfl) (by unfold maxLen; omega) (by omega) (Nat.zero_le _) ?_; intro v8 w8 hown8 hgrow8 hnil8 hob8; obtain ⟨q8, c8, rfl⟩ := own_form hown8; have H13 : Hid (w8.ownsRow 0 64 4 (.slice q8 (acc.length + 1) c8) (acc.length + 1) (css.flatten ++ [Value.int .u8 xk, Value.bool xb, Value.int .i64 xn, Value.string xt]) ∧ (w6.alloc (.cells #[Value.int .u8 xk, Value.bool xb, Value.int .i64 xn, Value.string xt] 64)).grownBy w8 (Value.slice q7 acc.length c7).ownBlock ∧ ((Value.slice q8 (acc.length + 1) c8).ownBlock = (Value.slice q7 acc.length c7).ownBlock ∨ (Value.slice q8 (acc.length + 1) c8).ownBlock = some (w6.heap.size + 1))) := ⟨hown8, hgrow8, by simpa using hob8⟩; clear hown8 hgrow8 hnil8 hob8))
        go_roundg g'
        case measure => omega
        case rel =>
          have hX := H13.out
          exact taken_next (x := (⟨xk, xb, xn, xt⟩ : Val)) mVal H1.out H2.out (fun h => absurd h (by omega)) HEQ.out HXE.out H5.out H6.out H7.out H8.out H9.out.1 HLN2.out HK3a.out HK3b.out HK3s.out H12.out.1 H12.out.2.1 H12.out.2.2 HRX.out (by rfl) hX.1 hX.2.1 hX.2.2 HK1b.out HK1s.out HS0.out HLT0.out hpl (by go_num)
    · have z1 : ¬ (i : Int) < (n : Int) := by omega
      have hgk : gk = 0 := by have := H1.out; omega
      have HEQ : Hid (takenP part d n st [] = (acc, sti)) := by show _ = _; rw [← H4.out, hgk]; rfl
      have hal6 : acc.length * 32 ≤ 140737488355328 ∨ failedP sti = true := by
        by_cases h6 : 600 < n
        · exact .inr (H3.out h6)
        · left; have := H2.out; have := H1.out; omega
      have HLI : Hid (acc.length * 32 ≤ 140737488355328) := by
        show _ ≤ _
        rcases hal6 with h | h
        · exact h
        · have h0 : acc.length = 0 ∨ n ≤ 600 := by
            by_cases h6 : 600 < n
            · left
              exact H11z part d st n acc sti h6 (H600.out h6) (by have := H2.out; have := H1.out; omega) HEQ.out
            · right; omega
          rcases h0 with h0 | h0
          · rw [h0]; omega
          · have := H2.out; have := H1.out; omega
      clear hi hgk hal6
      go_wp2_with fail
      go_ret
      obtain ⟨N, hN⟩ : ∃ N : Nat → Prop, (fun b => D b ∨ (Value.slice q7 acc.length c7).ownBlock = some b) = N := ⟨_, rfl⟩
      refine ⟨N, _, rfl, fun b hb => ?_, ?_, ?_, HK0.out.trans (H9.out.1.less HKK.out)⟩
      · rw [← hN] at hb
        rcases hb with hb | hb
        · have := (H7.out.1 b hb).1; omega
        · have := (H7.out.2 b hb).2; omega
      · rw [HEQ.out]
        refine H8.out.wide (fun e => ?_) (fun b hb => ?_) (fun b hb hpb => ?_)
        · rcases e with e | e
          · have := HLT0.out p e; exact H8.out.out (.inl (HKK.out p e))
          · rw [← hN] at e
            rcases e with e | e
            · exact H8.out.out (.inr e)
            · have := (H7.out.2 p e).2; omega
        · rcases hb with hb | hb
          · exact H8.out.lt b (.inl (HKK.out b hb))
          · rw [← hN] at hb
            rcases hb with hb | hb
            · exact H8.out.lt b (.inr hb)
            · exact ownsRow_lt H5.out b hb
        · rcases hb with hb | hb
          · exact H8.out.unf rfl b (.inl (HKK.out b hb)) hpb
          · rw [← hN] at hb
            rcases hb with hb | hb
            · exact H8.out.unf rfl b (.inr hb) hpb
            · exact own_unf H5.out b hb
      · rw [HEQ.out]
        exact list_of_own H5.out HLI.out H6.out.1 H6.out.2.1 (fun j h1 h2 => mVal _ _ _ _ _ _ (fun b hb => by rw [← hN]; exact .inl hb) (Kept.refl _ _) (H6.out.2.2 j h1 h2)) (fun g hg => by rw [← hN]; exact .inr hg)
end Go.Proofs.YtgdjhkcllpkiiaaGreatDoor

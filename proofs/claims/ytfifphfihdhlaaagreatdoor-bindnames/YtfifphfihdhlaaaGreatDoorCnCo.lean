/- An expression whose columns' places are found: resolveExpr. -/
import Derived.Test.YtfifphfihdhlaaaGreatDoorQbTk
import Derived.Test.YtfifphfihdhlaaaGreatDoorCjCkClCm
import Derived.Test.YtfifphfihdhlaaaGreatDoorRbRc
set_option maxRecDepth 100000
set_option maxHeartbeats 32000000
namespace Go.Proofs.YtfifphfihdhlaaaGreatDoor.Bd
open Tryz
open Go.Shelf Go.RowKit Go.Lib Go.Sort
set_option linter.unusedVariables false
set_option linter.unusedSimpArgs false
attribute [local go_sem ↓] Go.wp_at_zero Go.wp_at_succ
def preE (ys : List Stp) : Except Int (List Stp) → Except Int (List Stp)
 | .error e => .error e
 | .ok m => .ok (ys ++ m)
theorem preE_pre (ys zs : List Stp) (r : Except Int (List Stp)) : preE ys (preE zs r) = preE (ys ++ zs) r := by
 cases r with
 | error e => rfl
 | ok m => unfold preE; simp only [List.append_assoc]
theorem exprR_at (s : Scp) (l : List Stp) (i : Nat) (h : i < l.length) : exprR s (l.drop i) = match stepR s l[i] with
 | .error e => .error e
 | .ok y => preE [y] (exprR s (l.drop (i + 1))) := by
 rw [List.drop_eq_getElem_cons h, show exprR s (l[i] :: l.drop (i + 1)) = (match stepR s l[i] with
  | .error e => .error e
  | .ok y => match exprR s (l.drop (i + 1)) with
   | .error e => .error e
   | .ok m => .ok (y :: m)) from rfl]
 cases stepR s l[i] with
 | error e => rfl
 | ok y =>
  simp only
  generalize exprR s (l.drop (i + 1)) = r
  cases r <;> rfl
def NewS (B : Nat) (w' : World) (m : List Stp) (e : Ending) : Prop := ∃ p c, e = .returned (.slice p m.length c) ∧ ListIs rStpW 3 32 (From B w') w' (.slice p m.length c) m
theorem expr_any (K Kc : Nat → Prop) (s : Scp) (p : Option Addr) (d : Nat) (q : Option Addr) (c : Nat) (l : List Stp) (w : World) (h : ListIs rClm 2 24 Kc w (.slice p s.c.length d) s.c) (hKc : ∀ b, Kc b → b < w.heap.size) (h16 : s.c.length ≤ 16) (hl : ListIs rStpW 3 32 K w (.slice q l.length c) l) (hK : ∀ b, K b → b < w.heap.size) :
 Calls prog 108 #[.agg (scpC s p d), .slice q l.length c] w fun e w' => Got (exprR s l) (NewS w.heap.size w') e ∧ Below w.heap.size w w' := by
 have hbig : l.length * 32 ≤ 140737488355328 := by
  obtain ⟨_, _, -, ⟨hb, -⟩, -⟩ := hl
  exact hb
 have HOK : Hid (∀ x ∈ l, okW x) := stp_ok hl
 obtain ⟨tS, htS⟩ := bya s.t
 obtain ⟨jS, hjS⟩ := bya s.j
 obtain ⟨Nc, hNc⟩ := gen s.c.length
 obtain ⟨wd, hwd⟩ := gen s.w
 have hsc : scpC s p d = #[.string tS, .string jS, .int .i64 (wd : Int), .slice p Nc d] := by unfold scpC; rw [htS, hjS, hNc, hwd]
 obtain ⟨W0, hW0⟩ := gen (w.alloc (.cells #[.string tS, .string jS, .int .i64 (wd : Int), .slice p Nc d] 67))
 have hb0 : Below w.heap.size w W0 := by rw [← hW0]; exact below_alloc _ _
 have hg0 : W0.heap[w.heap.size]? = some (.cells #[.string tS, .string jS, .int .i64 (wd : Int), .slice p Nc d] 67 (0, 0)) := by rw [← hW0]; exact heap_alloc_new w _
 have hs0 : W0.heap.size = w.heap.size + 1 := by rw [← hW0]; simp
 have HBX : Hid (∀ V, Below W0.heap.size W0 V → V.rangeAt w.heap.size 0 [.string tS, .string jS, .int .i64 (wd : Int), .slice p Nc d] ∧ Below w.heap.size w V) := fun V hV => ⟨rgz ((hV.block _ (by omega)).trans hg0), hb0.trans (hV.mono (by omega))⟩
 have HCOL : Hid (∀ V, Below w.heap.size w V → ∀ (t : List UInt8) (x : ByteArray), (⟨t.toArray⟩ : ByteArray) = x → t.length ≤ 140737488355328 → Calls prog 107 #[.agg #[.string tS, .string jS, .int .i64 (wd : Int), .slice p Nc d], .string x] V fun e w' => Got (colR s t) RetN e ∧ Below V.heap.size V w') := fun V hV t x hx ht => by
  have := column_any Kc s p d t V (h.later mClm hKc hV) (fun b hb => nlt (hKc b hb) hV.size) h16 ht
  rwa [hsc, hx] at this
 have HC16 : Hid (∀ (t : List UInt8) (n : Nat), colR s t = .ok n → n < 16) := fun t n hn => nlt (colR_lt hn) h16
 have HL := hid hl
 have HK := hid hK
 obtain ⟨N, hN⟩ := gen l.length
 have HN := hid hN
 rw [hN] at hbig
 obtain ⟨Z, hZ, hmk⟩ := make_stp N hbig W0
 have HF : Hid (Fil 53 3 N W0.heap.size W0 W0.heap.size (([] : List Stp).flatMap cellsS) (W0.alloc (.cells Z 53))) := Fil.start 53 3 N W0 Z hZ
 obtain ⟨W1, hW1⟩ := gen (W0.alloc (.cells Z 53))
 rw [hW1] at hmk HF
 obtain ⟨G, hG⟩ := gen W0.heap.size
 rw [hG] at hmk HF
 have HG : Hid (W0.heap.size = G ∧ G = w.heap.size + 1) := ⟨hG, by omega⟩
 obtain ⟨R, hR⟩ := gen (exprR s l)
 have HR0 : Hid (R = preE [] (exprR s (l.drop 0))) := by
  show _ = _
  rw [← hR, List.drop_zero]
  cases exprR s l <;> rfl
 rw [hsc, hN, hR]
 clear h hKc h16 hl hK htS hjS hNc hwd hsc hb0 hg0 hs0 hN hZ hW1 hG hR
 go_enter func108, ntmps108
 go_wp2_with fail
 go_loopg [13] N (fun gf s13 wx => ∃ (i : Nat) (ys : List Stp), s13 = .int .i64 i ∧ i ≤ N ∧ N ≤ i + gf ∧ Hid (ys.length = i ∧ ∀ y ∈ ys, okW y) ∧ Hid (Fil 53 3 N G W0 G (ys.flatMap cellsS) wx) ∧ Hid (R = preE ys (exprR s (l.drop i))))
 case atStart => exact ⟨0, [], rfl, by omega, by omega, ⟨rfl, by simp⟩, HF, HR0⟩
 case round =>
  clear HF hmk HR0
  obtain ⟨i, ys, rfl, hi1, hgf, HYS, HF, HR⟩ := hrel
  by_cases hi : i < N
  · obtain ⟨g', rfl⟩ : ∃ g', gk = g' + 1 := ⟨gk - 1, by omega⟩
    have hil : i < l.length := by rw [HN.out]; exact hi
    have hbW0 : Below W0.heap.size W0 wr := by rw [HG.out.1]; exact HF.out.below
    have hbw := (HBX.out wr hbW0).2
    obtain ⟨b, o, hq, _, hc⟩ := stp_w (HL.out.mono mStpW (fun _ h => h) (kept_of HK.out hbw)) (by omega)
    subst hq
    obtain ⟨hrg, hok⟩ := hc i hil
    have hat := exprR_at s l i hil
    obtain ⟨y, hy⟩ := gen (l[i])
    rw [hy] at hrg hok hat
    obtain ⟨s', hse⟩ := bya y.t
    obtain ⟨k, hk⟩ : ∃ k : Nat, y.k = k := ⟨_, rfl⟩
    obtain ⟨m, hm⟩ : ∃ m : Int, y.n = m := ⟨_, rfl⟩
    rw [hse, hk, hm] at hrg
    have HYC : Hid (cellsS y = [.int .u8 (k : Int), .string s', .int .i64 m]) := by show _ = _; unfold cellsS; rw [hse, hk, hm]
    have HY : Hid ((⟨y.t.toArray⟩ : ByteArray) = s' ∧ y.k = k ∧ okW y) := ⟨hse, hk, hok⟩
    have hs'sz : s'.size ≤ 281474976710656 := by have := txt_len y.t; rw [hse] at this; have := hok.2.2; omega
    have HRG := hid hrg
    obtain ⟨WA, hWA, hth, V1, hV1, hg1, hb1⟩ := box_three wr 53 (.int .u8 0) (.string ⟨#[]⟩) (.int .i64 0) (.int .u8 (k : Int)) (.string s') (.int .i64 m)
    have HTH := hid hth
    have HV1 := hid hV1
    have hl1 : wr.heap.size < V1.heap.size := (gsi hg1).1
    obtain ⟨D, hD⟩ := gen V1.drew
    have hbD : Below wr.heap.size wr D := by rw [← hD]; exact hb1.drew
    have hgD : D.heap[wr.heap.size]? = some (.cells #[.int .u8 (k : Int), .string s', .int .i64 m] 53 (0, 0)) := by rw [← hD]; exact hg1
    have hlD : wr.heap.size < D.heap.size := (gsi hgD).1
    have HROW : Hid (∀ V, Kept (fun b => b < D.heap.size ∧ b ≠ G) D V → V.cell? ⟨wr.heap.size, 0, none⟩ = some (.int .u8 (k : Int)) ∧ V.cell? ⟨wr.heap.size, 1, none⟩ = some (.string s') ∧ V.cell? ⟨wr.heap.size, 2, none⟩ = some (.int .i64 m)) := fun V hV => by
     have hg := (hV.block wr.heap.size ⟨hlD, by have := HF.out.lt; omega⟩).trans hgD
     exact ⟨cell_of_row (k := 0) hg rfl, cell_of_row (k := 1) hg rfl, cell_of_row (k := 2) hg rfl⟩
    have HSD := hid (HROW.out D (Kept.refl _ _))
    have HFD : Hid (Fil 53 3 N G W0 G (ys.flatMap cellsS) D) := HF.out.later hbD
    have HLEN : Hid ((ys.flatMap cellsS).length = i * 3) := by show _ = _; rw [flat_len cellsS 3 cellsS_len, HYS.out.1]
    have CL := hid (clone_any s' D hs'sz)
    have HAT : Hid (R = preE ys (match stepR s y with
     | .error e => .error e
     | .ok z => preE [z] (exprR s (l.drop (i + 1))))) := by show _ = _; rw [HR.out, hat]
    have z0 : (0 : Int) ≤ (i : Int) := by omega
    have z1 : (i : Int) < (N : Int) := by omega
    clear hc hrg hok hat hy hse hk hm hth hV1 hg1 hb1 hl1 hbD hgD hlD hbw hbW0 HR HF hs'sz hil
    go_wp2_with (first | (refine wpList_load_mid rfl 53 _ rfl b (o + i * 3) rfl _ _ HRG.out underlying53 rfl sz_step ?_) | (refine wpList_store_mid rfl 53 _ _ rfl wr.heap.size 0 #[.int .u8 (k : Int), .string s', .int .i64 m] rfl rfl HTH.out sz_step (by simp [Value.oneCell']) ?_; rw [show WA.setCells wr.heap.size 0 (#[.int .u8 (k : Int), .string s', .int .i64 m] : Array Value).toList = V1 from HV1.out]))
    refine wp_region_held_drew (S := fun V => V.cell? ⟨wr.heap.size, 0, none⟩ = some (.int .u8 (k : Int)) ∧ V.cell? ⟨wr.heap.size, 1, none⟩ = some (.string s') ∧ V.cell? ⟨wr.heap.size, 2, none⟩ = some (.int .i64 m)) (by kernel_rfl) (by rw [hD]; exact HSD.out) (fun hHeld => ?_)
    refine tk0 0 (.slice (some ⟨G, 0, none⟩) N N) rfl hHeld ?_
    refine tk0 1 (.int .i64 (i : Int)) rfl hHeld ?_
    refine tk0 2 (.pointer (some ⟨wr.heap.size, 0, none⟩)) rfl hHeld ?_
    refine tk 3 (.int .u8 (k : Int)) rfl (.inl ⟨by rfl, fun W hW => by obtain ⟨x0, x1, x2⟩ := hW; go_simp⟩) hHeld ?_
    refine tk0 4 (.pointer (some ⟨wr.heap.size, 1, none⟩)) rfl hHeld ?_
    refine tk 5 (.string s') rfl (.inl ⟨by rfl, fun W hW => by obtain ⟨x0, x1, x2⟩ := hW; go_simp⟩) hHeld ?_
    refine tk0 7 (.pointer (some ⟨wr.heap.size, 2, none⟩)) rfl hHeld ?_
    refine tk 8 (.int .i64 m) rfl (.inl ⟨by rfl, fun W hW => by obtain ⟨x0, x1, x2⟩ := hW; go_simp⟩) hHeld ?_
    simp only [Act.put, List.getElem_toArray, List.getElem_cons_zero, List.getElem_cons_succ, List.setIfInBounds_toArray, List.set_cons_zero, List.set_cons_succ]
    rw [hD] at hHeld ⊢
    clear hD
    refine wpAnyH_ready (rs := [6]) (by kernel_rfl) (by simp) ?_
    refine AllReadyH.cons rfl (fun K' hK => ?_) AllReadyH.nil
    rw [if_pos (by rfl)]
    go_simp
    go_at_call 62
    refine CL.out.mono ?_
    rintro e w4 ⟨rfl, hb4⟩
    have hkD4 : Kept (fun b => b < D.heap.size ∧ b ≠ G) D w4 := kept_of (fun b h => h.1) hb4
    have HS4 := hid (HROW.out w4 hkD4)
    have hF4 := HFD.out.later hb4
    obtain ⟨hth4, X, hX, hFX, hsX, hkX⟩ := hF4.put (cellsS y) (by rw [HLEN.out, cellsS_len]; omega)
    rw [HLEN.out, HYC.out] at hth4 hX
    have hkDX : Kept (fun b => b < D.heap.size ∧ b ≠ G) D X := hkD4.trans (hkX.less fun b hb => hb.2)
    have HSX := hid (HROW.out X hkDX)
    have HT4 : Hid (w4.there G (i * 3) 3) := hth4
    have HX4 : Hid (w4.setCells G (i * 3) (#[.int .u8 (k : Int), .string s', .int .i64 m] : Array Value).toList = X) := hX
    have HFX := hid hFX
    refine hK.out _ _ HS4.out (fun hHeld => ?_)
    clear hK K' hb4 hkD4 hF4 hth4 hX hFX hsX hkX hkDX CL HFD
    refine tk0 9 (.agg #[.int .u8 (k : Int), .string s', .int .i64 m]) rfl hHeld ?_
    refine tk0 10 (.pointer (some ⟨G, i * 3, none⟩)) rfl hHeld ?_
    simp only [Act.put, List.getElem_toArray, List.getElem_cons_zero, List.getElem_cons_succ, List.setIfInBounds_toArray, List.set_cons_zero, List.set_cons_succ]
    refine wpAnyH_ready (rs := [11]) (by kernel_rfl) (by simp) ?_
    refine AllReadyH.cons rfl (fun K' hK => ?_) AllReadyH.nil
    rw [if_pos (by rfl)]
    refine wp_store_mid 53 (.tmp 28) (.tmp 27) rfl (G) (i * 3) #[.int .u8 (k : Int), .string s', .int .i64 m] rfl rfl HT4.out sz_step (by simp [Value.oneCell']) ?_
    rw [HX4.out]
    simp only [Act.put, List.getElem_toArray, List.getElem_cons_zero, List.getElem_cons_succ, List.setIfInBounds_toArray, List.set_cons_zero, List.set_cons_succ]
    refine hK _ _ HSX.out (fun hHeld => ?_)
    clear hK K'
    refine wpAnyH_done (by kernel_rfl) ?_ _
    obtain ⟨x0, x1, x2⟩ := HSX.out
    by_cases h6 : k = 6
    case neg =>
     have y6 : ((k : Int) == 6) = false := bfn (by omega)
     have HYS2 : Hid ((ys ++ [y]).length = i + 1 ∧ ∀ z ∈ ys ++ [y], okW z) := ⟨by rw [List.length_append, HYS.out.1]; rfl, fun z hz => by
      rcases List.mem_append.1 hz with hz | hz
      · exact HYS.out.2 z hz
      · simp at hz; subst hz; exact HY.out.2.2⟩
     have HF2 : Hid (Fil 53 3 N G W0 G ((ys ++ [y]).flatMap cellsS) X) := by show Fil _ _ _ _ _ _ _ _; rw [List.flatMap_append]; simpa using HFX.out
     have HR2 : Hid (R = preE (ys ++ [y]) (exprR s (l.drop (i + 1)))) := by
      show _ = _
      rw [HAT.out, ← preE_pre]
      have : stepR s y = .ok y := by unfold stepR; rw [if_neg (by rw [HY.out.2.1]; exact h6)]
      rw [this]
     clear h6 HAT HFX HYS HSX hHeld
     go_wp2_with fail
     go_roundg g'
     case measure => omega
     case rel => exact ⟨i + 1, ys ++ [y], by go_num, by omega, by omega, HYS2, HF2, HR2⟩
    have y6 : ((k : Int) == 6) = true := by simp [h6]
    have hbX0 : Below W0.heap.size W0 X := by rw [HG.out.1]; exact HFX.out.below
    obtain ⟨hscX, hbwX⟩ := HBX.out X hbX0
    have HSC := hid hscX
    have C2 := hid (HCOL.out X hbwX y.t s' HY.out.1 HY.out.2.2.2.2)
    have HBWX := hid hbwX
    have HAT2 : Hid (R = preE ys (match colR s y.t with
     | .error e => .error e
     | .ok n => preE [⟨6, [], (n : Int)⟩] (exprR s (l.drop (i + 1))))) := by
     show _ = _
     rw [HAT.out]
     unfold stepR
     rw [if_pos (by rw [HY.out.2.1]; exact h6)]
     cases colR s y.t <;> rfl
    obtain ⟨cr, hcr⟩ := gen (colR s y.t)
    have HCR := hid hcr
    rw [hcr] at C2 HAT2
    clear h6 HAT hbX0 hscX hbwX hHeld HSX x2 hcr
    go_wp2_with (refine wpList_load_mid rfl 67 _ rfl w.heap.size 0 rfl _ _ HSC.out underlying67 rfl sz_scp ?_)
    refine C2.out.mono ?_
    rintro e w5 ⟨hgot, hb5⟩
    have HB5 : Hid (Below w.heap.size w w5) := HBWX.out.trans (hb5.mono HBWX.out.size)
    cases cr with
    | error z =>
     have HE : Hid (R = .error z) := HAT2.out
     have he : e = stopE z := hgot
     subst he
     clear HAT2 hgot hb5 C2 HSC
     have HQ : Hid (Got R (NewS w.heap.size w5) (stopE z)) := by show Got _ _ _; rw [HE.out]; rfl
     unfold stopE at HQ ⊢
     go_wp2_with fail
     exact ⟨rfl, HQ.out, HB5.out⟩
    | ok n =>
     have he : e = .returned (.int .i64 (n : Int)) := hgot
     subst he
     have hF5 := (Fil.less (vs := cellsS y) HFX.out).later hb5
     obtain ⟨hth5, X5, hX5, hFX5, hsX5, hkX5⟩ := hF5.put (cellsS ⟨6, [], (n : Int)⟩) (by rw [HLEN.out, cellsS_len]; omega)
     have hcs : cellsS ⟨6, [], (n : Int)⟩ = [.int .u8 6, .string ⟨#[]⟩, .int .i64 (n : Int)] := rfl
     rw [HLEN.out, hcs] at hth5 hX5
     have HT5 : Hid (w5.there G (i * 3) 3) := hth5
     have HX5 : Hid (w5.setCells G (i * 3) (#[.int .u8 6, .string ⟨#[]⟩, .int .i64 (n : Int)] : Array Value).toList = X5) := hX5
     have HYS2 : Hid ((ys ++ [(⟨6, [], (n : Int)⟩ : Stp)]).length = i + 1 ∧ ∀ z ∈ ys ++ [(⟨6, [], (n : Int)⟩ : Stp)], okW z) := ⟨by rw [List.length_append, HYS.out.1]; rfl, fun z hz => by
      rcases List.mem_append.1 hz with hz | hz
      · exact HYS.out.2 z hz
      · simp at hz
        subst hz
        have := HC16.out _ _ HCR.out
        exact ⟨by show 6 < 256; omega, ⟨by show (-9223372036854775808 : Int) ≤ (n : Int); omega, by show (n : Int) ≤ 9223372036854775807; omega⟩, by show 0 ≤ 140737488355328; omega⟩⟩
     have HF2 : Hid (Fil 53 3 N G W0 G ((ys ++ [(⟨6, [], (n : Int)⟩ : Stp)]).flatMap cellsS) X5) := by show Fil _ _ _ _ _ _ _ _; rw [List.flatMap_append]; simpa using hFX5
     have HR2 : Hid (R = preE (ys ++ [⟨6, [], (n : Int)⟩]) (exprR s (l.drop (i + 1)))) := by show _ = _; rw [HAT2.out, ← preE_pre]
     clear HAT2 hgot hb5 C2 HSC hF5 hth5 hX5 hFX5 hsX5 hkX5 hcs HFX HYS HCR
     go_wp2_with (refine wpList_store_mid rfl 53 _ _ rfl G (i * 3) #[.int .u8 6, .string ⟨#[]⟩, .int .i64 (n : Int)] rfl rfl HT5.out sz_step (by simp [Value.oneCell']) ?_; rw [HX5.out])
     go_roundg g'
     case measure => omega
     case rel => exact ⟨i + 1, ys ++ [⟨6, [], (n : Int)⟩], by go_num, by omega, by omega, HYS2, HF2, HR2⟩
  · have z1 : ¬ (i : Int) < (N : Int) := by omega
    have hiN : i = N := by omega
    have hbW : Below W0.heap.size W0 wr := by rw [HG.out.1]; exact HF.out.below
    have HBW := hid (HBX.out wr hbW).2
    have HQ : Hid (Got R (NewS w.heap.size wr) (.returned (.slice (some ⟨G, 0, none⟩) N N))) := by
     show Got _ _ _
     have hy := HYS.out
     rw [HR.out, List.drop_of_length_le (by rw [HN.out]; omega)]
     have hO : OwnR rStpW 3 53 G wr (.slice (some ⟨G, 0, none⟩) N N) ys := HF.out.own cellsS cellsS_len (by omega) (by unfold maxLen; omega) (fun x hx => ⟨rfl, hy.2 x hx⟩)
     obtain ⟨p', c', e, hli⟩ := hO.list (bytes := 32) mStpW (by rw [hy.1]; omega)
     cases e
     show NewS _ _ (ys ++ []) _
     rw [List.append_nil]
     refine ⟨_, _, by rw [hy.1, hiN], ?_⟩
     exact hli.mono mStpW (fun b hb => ⟨by have := hb.1; have := HG.out.2; omega, hb.2⟩) (Kept.refl _ _)
    clear HF HR HYS hbW hiN
    go_wp2_with fail
    go_ret
    exact ⟨HQ.out, HBW.out⟩
theorem wrap_mid (z : Int) (h0 : -1000 ≤ z) (h1 : z ≤ 1000) : wrap64 z = z := by unfold wrap64; omega
def RetJ (x : Int × Int) (e : Ending) : Prop := e = .returned (.tuple #[.int .i64 x.1, .int .i64 x.2])
theorem join_any (K : Nat → Prop) (s : Scp) (p : Option Addr) (d : Nat) (a b : List UInt8) (w : World) (h : ListIs rClm 2 24 K w (.slice p s.c.length d) s.c) (hK : ∀ b, K b → b < w.heap.size) (h16 : s.c.length ≤ 16) (hw : s.w ≤ s.c.length) (ha : a.length ≤ 140737488355328) (hb : b.length ≤ 140737488355328) :
 Calls prog 63 #[.agg (scpC s p d), .string ⟨a.toArray⟩, .string ⟨b.toArray⟩] w fun e w' => Got (joinR s a b) RetJ e ∧ Bl w w' := by
 obtain ⟨tS, htS⟩ := bya s.t
 obtain ⟨jS, hjS⟩ := bya s.j
 obtain ⟨aS, haS⟩ := bya a
 obtain ⟨bS, hbS⟩ := bya b
 obtain ⟨Nc, hNc⟩ := gen s.c.length
 obtain ⟨wd, hwd⟩ := gen s.w
 have hsc : scpC s p d = #[.string tS, .string jS, .int .i64 (wd : Int), .slice p Nc d] := by unfold scpC; rw [htS, hjS, hNc, hwd]
 obtain ⟨W0, hW0⟩ := gen (w.alloc (.cells #[.string tS, .string jS, .int .i64 (wd : Int), .slice p Nc d] 67))
 have hb0 : Bl w W0 := by rw [← hW0]; exact below_alloc _ _
 have hg0 : W0.heap[w.heap.size]? = some (.cells #[.string tS, .string jS, .int .i64 (wd : Int), .slice p Nc d] 67 (0, 0)) := by rw [← hW0]; exact heap_alloc_new w _
 have hs0 : W0.heap.size = w.heap.size + 1 := by rw [← hW0]; simp
 have HBX : Hid (∀ V, Bl W0 V → V.rangeAt w.heap.size 0 [.string tS, .string jS, .int .i64 (wd : Int), .slice p Nc d] ∧ V.cell? ⟨w.heap.size, 2, none⟩ = some (.int .i64 (wd : Int)) ∧ Bl w V) := fun V hV => ⟨rgz ((hV.block _ (by omega)).trans hg0), cell_of_row (k := 2) ((hV.block _ (by omega)).trans hg0) rfl, hb0.trans (hV.mono (by omega))⟩
 have HCOL : Hid (∀ V, Bl w V → ∀ (t : List UInt8) (x : ByteArray), (⟨t.toArray⟩ : ByteArray) = x → t.length ≤ 140737488355328 → Calls prog 107 #[.agg #[.string tS, .string jS, .int .i64 (wd : Int), .slice p Nc d], .string x] V fun e w' => Got (colR s t) RetN e ∧ Bl V w') := fun V hV t x hx ht => by
  have := column_any K s p d t V (h.later mClm hK hV) (fun b hb => nlt (hK b hb) hV.size) h16 ht
  rwa [hsc, hx] at this
 have HJN : Hid (∀ V, Bl w V → ∀ (x y : Int), Calls prog 70 #[.agg #[.string tS, .string jS, .int .i64 (wd : Int), .slice p Nc d], .int .i64 x, .int .i64 y] V fun e w' => e = .returned (.bool (joinsP s x y)) ∧ Bl V w') := fun V hV x y => by
  have := joins_any K s p d x y V (h.later mClm hK hV) (fun b hb => nlt (hK b hb) hV.size) h16 hw
  rwa [hsc] at this
 have HC16 : Hid (∀ (t : List UInt8) (n : Nat), colR s t = .ok n → n < 16) := fun t n hn => nlt (colR_lt hn) h16
 have HWD : Hid (s.w = wd ∧ wd ≤ 16) := ⟨hwd, by omega⟩
 have HBS : Hid ((⟨b.toArray⟩ : ByteArray) = bS ∧ b.length ≤ 140737488355328) := ⟨hbS, hb⟩
 have C1 := hid (HCOL.out W0 hb0 a aS haS ha)
 have HR0 := hid (HBX.out W0 (Below.refl _ _)).1
 obtain ⟨R, hR⟩ := gen (joinR s a b)
 have HR := hid hR
 obtain ⟨ra, hra⟩ := gen (colR s a)
 have HRA := hid hra
 rw [hra] at C1
 rw [hsc, haS, hbS, hR]
 clear h hK h16 hw ha hb htS hjS haS hbS hNc hwd hsc hb0 hg0 hs0 hR hra
 go_enter func63, ntmps63
 go_wp2_with (refine wpList_load_mid rfl 67 _ rfl w.heap.size 0 rfl _ _ HR0.out underlying67 rfl sz_scp ?_)
 refine C1.out.mono ?_
 rintro e w1 ⟨hgot, hb1⟩
 have HB1 := hid hb1
 clear C1 HR0 hb1
 cases ra with
 | error z =>
  have he : e = stopE z := hgot
  subst he
  have HQ : Hid (Got R RetJ (stopE z)) := by show Got _ _ _; rw [← HR.out]; unfold joinR; rw [HRA.out]; rfl
  have HBW := hid (HBX.out w1 HB1.out).2.2
  clear hgot
  unfold stopE at HQ ⊢
  go_wp2_with fail
  exact ⟨rfl, HQ.out, HBW.out⟩
 | ok x =>
  have he : e = .returned (.int .i64 (x : Int)) := hgot
  subst he
  obtain ⟨hr1, hc1, hbw1⟩ := HBX.out w1 HB1.out
  have HR1 := hid hr1
  have C2 := hid (HCOL.out w1 hbw1 b bS HBS.out.1 HBS.out.2)
  obtain ⟨rb, hrb⟩ := gen (colR s b)
  have HRB := hid hrb
  rw [hrb] at C2
  clear hgot hr1 hc1 hbw1 hrb
  go_wp2_with (refine wpList_load_mid rfl 67 _ rfl w.heap.size 0 rfl _ _ HR1.out underlying67 rfl sz_scp ?_)
  refine C2.out.mono ?_
  rintro e w2 ⟨hgot, hb2⟩
  have HB2 : Hid (Bl W0 w2) := HB1.out.trans (hb2.mono HB1.out.size)
  clear C2 HR1 hb2
  cases rb with
  | error z =>
   have he : e = stopE z := hgot
   subst he
   have HQ : Hid (Got R RetJ (stopE z)) := by show Got _ _ _; rw [← HR.out]; unfold joinR; rw [HRA.out, HRB.out]; rfl
   have HBW := hid (HBX.out w2 HB2.out).2.2
   clear hgot
   unfold stopE at HQ ⊢
   go_wp2_with fail
   exact ⟨rfl, HQ.out, HBW.out⟩
  | ok y =>
   have he : e = .returned (.int .i64 (y : Int)) := hgot
   subst he
   obtain ⟨hr2, hc2, hbw2⟩ := HBX.out w2 HB2.out
   have HR2 := hid hr2
   have hx16 := HC16.out _ _ HRA.out
   have hy16 := HC16.out _ _ HRB.out
   obtain ⟨mn, hmn⟩ := gen (min x y)
   obtain ⟨mx, hmx⟩ := gen (max x y)
   obtain ⟨z, hz⟩ : ∃ z : Int, (mx : Int) - (wd : Int) = z := ⟨_, rfl⟩
   have hwd16 := HWD.out.2
   have hz1 : -1000 ≤ z := by omega
   have hz2 : z ≤ 1000 := by omega
   have C3 := hid (HJN.out w2 hbw2 (mn : Int) z)
   obtain ⟨J, hJ⟩ := gen (joinsP s (mn : Int) z)
   rw [hJ] at C3
   have HRR : Hid (R = if J = true then .ok ((mn : Int), z) else .error 5) := by
    show _ = _
    rw [← HR.out]
    unfold joinR
    rw [HRA.out, HRB.out]
    simp only
    rw [HWD.out.1, hmn, hmx, hz, hJ]
   have hmin : min (x : Int) (y : Int) = (mn : Int) := by omega
   have hmax : max (x : Int) (y : Int) = (mx : Int) := by omega
   have hwz := wrap_mid z hz1 hz2
   have HWZ := hid hwz
   clear hgot hr2 hbw2 hx16 hy16 hmn hmx hwd16 hz1 hz2 hJ
   go_wp2_with (refine wpList_load_mid rfl 67 _ rfl w.heap.size 0 rfl _ _ HR2.out underlying67 rfl sz_scp ?_)
   refine C3.out.mono ?_
   rintro e w3 ⟨rfl, hb3⟩
   have HB3 : Hid (Bl W0 w3) := HB2.out.trans (hb3.mono HB2.out.size)
   obtain ⟨-, hc3, hbw3⟩ := HBX.out w3 HB3.out
   have HBW3 := hid hbw3
   clear C3 HR2 hb3 hc2 hbw3
   cases J with
   | false =>
    have HQ : Hid (Got R RetJ (stopE 5)) := by show Got _ _ _; rw [HRR.out, if_neg (by simp)]; rfl
    clear HRR
    unfold stopE at HQ
    go_wp2_with fail
    exact ⟨rfl, HQ.out, HBW3.out⟩
   | true =>
    have HQ : Hid (Got R RetJ (.returned (.tuple #[.int .i64 (mn : Int), .int .i64 z]))) := by show Got _ _ _; rw [HRR.out, if_pos rfl]; rfl
    clear HRR
    go_wp2_with fail
    go_quiet (fail)
    go_wp2_with fail
    go_ret2
    refine ⟨?_, below_drewN HBW3.out _⟩
    show Got R RetJ (.returned (.tuple #[.int .i64 (mn : Int), .int .i64 (wrap64 z)]))
    rw [HWZ.out]
    exact HQ.out
def whereM (s : Scp) (E : Except Int (List Stp)) : Except Int (List Stp) :=
 match E with
 | .error e => .error e
 | .ok m => if whereE s m = 0 then .ok m else .error (whereE s m)
theorem where_any (K Kc : Nat → Prop) (s : Scp) (p : Option Addr) (d : Nat) (q : Option Addr) (c : Nat) (l : List Stp) (w : World) (h : ListIs rClm 2 24 Kc w (.slice p s.c.length d) s.c) (hKc : ∀ b, Kc b → b < w.heap.size) (h16 : s.c.length ≤ 16) (hl : ListIs rStpW 3 32 K w (.slice q l.length c) l) (hK : ∀ b, K b → b < w.heap.size) (hG : GW w) :
 Calls prog 64 #[.agg (scpC s p d), .slice q l.length c] w fun e w' => Got (whereR s l) (NewS w.heap.size w') e ∧ Bl w w' := by
 obtain ⟨tS, htS⟩ := bya s.t
 obtain ⟨jS, hjS⟩ := bya s.j
 obtain ⟨Nc, hNc⟩ := gen s.c.length
 obtain ⟨wd, hwd⟩ := gen s.w
 have hsc : scpC s p d = #[.string tS, .string jS, .int .i64 (wd : Int), .slice p Nc d] := by unfold scpC; rw [htS, hjS, hNc, hwd]
 obtain ⟨W0, hW0⟩ := gen (w.alloc (.cells #[.string tS, .string jS, .int .i64 (wd : Int), .slice p Nc d] 67))
 have hb0 : Bl w W0 := by rw [← hW0]; exact below_alloc _ _
 have hg0 : W0.heap[w.heap.size]? = some (.cells #[.string tS, .string jS, .int .i64 (wd : Int), .slice p Nc d] 67 (0, 0)) := by rw [← hW0]; exact heap_alloc_new w _
 have hs0 : W0.heap.size = w.heap.size + 1 := by rw [← hW0]; simp
 have HBX : Hid (∀ V, Bl W0 V → V.rangeAt w.heap.size 0 [.string tS, .string jS, .int .i64 (wd : Int), .slice p Nc d] ∧ Bl w V) := fun V hV => ⟨rgz ((hV.block _ (by omega)).trans hg0), hb0.trans (hV.mono (by omega))⟩
 have C1 : Hid (Calls prog 108 #[.agg #[.string tS, .string jS, .int .i64 (wd : Int), .slice p Nc d], .slice q l.length c] W0 fun e w' => Got (exprR s l) (NewS W0.heap.size w') e ∧ Bl W0 w') := by
  have := expr_any K Kc s p d q c l W0 (h.later mClm hKc hb0) (fun b hb => nlt (hKc b hb) hb0.size) h16 (hl.later mStpW hK hb0) (fun b hb => nlt (hK b hb) hb0.size)
  rwa [hsc] at this
 have HCW : Hid (∀ V, Bl w V → ∀ (K2 : Nat → Prop) (q2 : Option Addr) (c2 : Nat) (m : List Stp), ListIs rStpW 3 32 K2 V (.slice q2 m.length c2) m → (∀ b, K2 b → b < V.heap.size) → Calls prog 71 #[.agg #[.string tS, .string jS, .int .i64 (wd : Int), .slice p Nc d], .slice q2 m.length c2] V fun e w' => e = .returned (.int .i64 (whereE s m)) ∧ Bl V w') := fun V hV K2 q2 c2 m h2 hk2 => by
  have := checkWhere_any K2 Kc s p d q2 c2 m V (h.later mClm hKc hV) (fun b hb => nlt (hKc b hb) hV.size) h2 hk2 (hG.below hV)
  rwa [hsc] at this
 have HST : Hid (∀ (x : Int) V, Calls prog 109 #[.int .i64 x] V fun e w' => e = (if x = 0 then .returned (.tuple #[]) else stopE x) ∧ w' = V) := stop_any
 have HR0 := hid (HBX.out W0 (Below.refl _ _)).1
 obtain ⟨R, hR⟩ := gen (whereR s l)
 obtain ⟨E, hE⟩ := gen (exprR s l)
 have HR : Hid (R = if l.length = 0 then .ok [] else whereM s E) := by
  show _ = _
  rw [← hR, ← hE]
  unfold whereR whereM
  cases l with
  | nil => rfl
  | cons a l => rfl
 rw [hE] at C1
 obtain ⟨N, hN⟩ := gen l.length
 rw [hN] at C1 HR
 have HB0 := hid hb0
 have HZ : Hid (W0.heap.size = w.heap.size + 1) := hs0
 rw [hsc, hN, hR]
 clear h hKc h16 hl hK hG htS hjS hNc hwd hsc hb0 hg0 hs0 hN hE hR
 by_cases h0 : N = 0
 · have HQ : Hid (Got R (NewS w.heap.size W0) (.returned (.slice none 0 0))) := by
    show Got _ _ _
    rw [HR.out, if_pos h0]
    exact ⟨none, 0, rfl, none, 0, rfl, ⟨by simp, by simp⟩, fun h => by simp at h⟩
   subst h0
   clear HR C1
   go_enter func64, ntmps64
   go_wp2_with fail
   go_ret
   exact ⟨HQ.out, HB0.out⟩
 have y0 : ((N : Int) == 0) = false := bfn (by omega)
 have HR1 : Hid (R = whereM s E) := by show _ = _; rw [HR.out, if_neg h0]
 clear HR h0
 go_enter func64, ntmps64
 go_wp2_with (refine wpList_load_mid rfl 67 _ rfl w.heap.size 0 rfl _ _ HR0.out underlying67 rfl sz_scp ?_)
 refine C1.out.mono ?_
 rintro e w1 ⟨hgot, hb1⟩
 have HB1 := hid hb1
 obtain ⟨hr1, hbw1⟩ := HBX.out w1 hb1
 have HBW1 := hid hbw1
 cases E with
 | error z =>
  have he : e = stopE z := hgot
  subst he
  have HQ : Hid (Got R (NewS w.heap.size w1) (stopE z)) := by show Got _ _ _; rw [HR1.out]; rfl
  clear hgot HR1 C1 HR0 hb1 hr1 hbw1
  unfold stopE at HQ ⊢
  go_wp2_with fail
  exact ⟨rfl, HQ.out, HBW1.out⟩
 | ok m =>
  obtain ⟨p1, c1, he, hli⟩ : NewS W0.heap.size w1 m e := hgot
  subst he
  have HR1' := hid hr1
  have HLI := hid hli
  have C2 := hid (HCW.out w1 hbw1 _ p1 c1 m hli From.lt)
  obtain ⟨v, hv⟩ := gen (whereE s m)
  have HR2 : Hid (R = if v = 0 then .ok m else .error v) := by show _ = _; rw [HR1.out]; unfold whereM; simp only; rw [hv]
  rw [hv] at C2
  obtain ⟨M, hM⟩ := gen m.length
  have HM := hid hM
  rw [hM] at C2 ⊢
  clear HR1 C1 HR0 hb1 hr1 hbw1 hli hv hM
  go_wp2_with (refine wpList_load_mid rfl 67 _ rfl w.heap.size 0 rfl _ _ HR1'.out underlying67 rfl sz_scp ?_)
  refine C2.out.mono ?_
  rintro e w2 ⟨rfl, hb2⟩
  have HB2 : Hid (Bl w w2) := HBW1.out.trans (hb2.mono HBW1.out.size)
  have HBB2 := hid hb2
  have C3 := hid (HST.out v w2)
  clear C2 HR1' hb2
  by_cases hv : v = 0
  · rw [if_pos hv] at C3
    have HQ : Hid (Got R (NewS w.heap.size w2) (.returned (.slice p1 M c1))) := by
     show Got _ _ _
     rw [HR2.out, if_pos hv]
     refine ⟨p1, c1, by rw [HM.out], ?_⟩
     exact (HLI.out.grow mStpW HBB2.out).less mStpW (by have := HZ.out; omega)
    clear hv HR2
    go_wp2_with fail
    refine C3.out.mono ?_
    rintro e w3 ⟨rfl, rfl⟩
    clear C3
    go_wp2_with fail
    go_ret
    exact ⟨HQ.out, HB2.out⟩
  · rw [if_neg hv] at C3
    have HQ : Hid (Got R (NewS w.heap.size w2) (stopE v)) := by show Got _ _ _; rw [HR2.out, if_neg hv]; rfl
    clear hv HR2
    go_wp2_with fail
    refine C3.out.mono ?_
    rintro e w3 ⟨rfl, rfl⟩
    clear C3
    unfold stopE at HQ ⊢
    go_wp2_with fail
    exact ⟨rfl, HQ.out, HB2.out⟩
end Go.Proofs.YtfifphfihdhlaaaGreatDoor.Bd

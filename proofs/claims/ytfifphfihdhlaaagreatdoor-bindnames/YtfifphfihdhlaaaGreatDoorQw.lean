/- Whether an expression is right. -/
import Derived.Test.YtfifphfihdhlaaaGreatDoorQuQv
set_option maxRecDepth 100000
set_option maxHeartbeats 32000000
namespace Go.Proofs.YtfifphfihdhlaaaGreatDoor
open Tryz
open Go.Shelf Go.RowKit Go.Lib Go.Sort
set_option linter.unusedVariables false
set_option linter.unusedSimpArgs false
attribute [local go_sem ↓] Go.wp_at_zero Go.wp_at_succ
def okW (x : Stp) : Prop := x.k < 256 ∧ I64 x.n ∧ x.t.length ≤ 140737488355328
def rStpW : Rel Stp := fun K W cs x => cs = [.int .u8 (x.k : Int), .string ⟨x.t.toArray⟩, .int .i64 x.n] ∧ okW x
theorem mStpW : Mono rStpW := fun _ _ _ _ _ _ _ _ h => h
theorem okP.w {x : Stp} (h : okP x) : okW x := ⟨h.1, h.2.1, by have := h.2.2; omega⟩
theorem wStp : ∀ K W cs x, rStp K W cs x → rStpW K W cs x := fun _ _ _ _ h => ⟨h.1, h.2.w⟩
theorem ListIs.rel {α : Type} {rel rel' : Rel α} {size bytes : Nat} {K : Nat → Prop} {W : World} {v : Value} {xs : List α} (h : ListIs rel size bytes K W v xs) (hr : ∀ cs, ∀ x ∈ xs, rel K W cs x → rel' K W cs x) : ListIs rel' size bytes K W v xs := by
 obtain ⟨q, c, rfl, hb, h⟩ := h
 refine ⟨q, c, rfl, hb, fun h0 => ?_⟩
 obtain ⟨b, o, rfl, hK, h⟩ := h h0
 refine ⟨b, o, rfl, hK, fun j hj => ?_⟩
 obtain ⟨cs, h1, h2, h3⟩ := h j hj
 exact ⟨cs, h1, h2, hr cs _ (List.getElem_mem hj) h3⟩
def rStepP (x : Stp) : Bool := if x.k = 0 ∨ 22 ≤ x.k then false else if x.k = 4 then decide (x.t = []) else if x.k = 5 then decide (x.n = 0) && (decide (x.t.length ≤ 256) && validD x.t) else if x.k = 6 then decide (x.n = 0) && isColP x.t else decide (x.n = 0) && decide (x.t = [])
theorem rightStep_w (x : Stp) (w : World) (hk : okW x) (hG : GW w) : Calls prog 117 #[x.v] w fun e w' => e = .returned (.bool (rStepP x)) ∧ Bl w w' := by
 obtain ⟨s, hs⟩ := bya x.t
 have HST : Hid (s.data.toList = x.t) := by show _ = _; rw [← hs]
 have hv : x.v = .agg #[.int .u8 (x.k : Int), .string s, .int .i64 x.n] := by rw [← hs]; rfl
 have HSZ : Hid (s.size ≤ 140737488355328 ∧ s.size = x.t.length) := by
  have h1 : s.data.toList.length = s.size := by simp
  have h2 := HST.out
  rw [h2] at h1
  have h3 := hk.2.2
  exact ⟨by omega, h1.symm⟩
 rw [hv]
 obtain ⟨W0, hW0⟩ := gen (w.alloc (.cells #[.int .u8 (x.k : Int), .string s, .int .i64 x.n] 53))
 have hb0 : Bl w W0 := by rw [← hW0]; exact below_alloc _ _
 have hg0 : W0.heap[w.heap.size]? = some (.cells #[.int .u8 (x.k : Int), .string s, .int .i64 x.n] 53 (0, 0)) := by rw [← hW0]; exact heap_alloc_new w _
 have c0 := cell_of_row (k := 0) (v := .int .u8 (x.k : Int)) hg0 rfl
 have c1 := cell_of_row (k := 1) (v := .string s) hg0 rfl
 have c2 := cell_of_row (k := 2) (v := .int .i64 x.n) hg0 rfl
 have HB := hid hb0
 have HG0 : Hid (GW W0) := hG.below hb0
 obtain ⟨k, hkk⟩ := gen x.k
 obtain ⟨n, hnn⟩ := gen x.n
 have hk256 : k < 256 := by rw [← hkk]; exact hk.1
 have HR : Hid (rStepP x = if k = 0 ∨ 22 ≤ k then false else if k = 4 then decide (x.t = []) else if k = 5 then decide (n = 0) && (decide (x.t.length ≤ 256) && validD x.t) else if k = 6 then decide (n = 0) && isColP x.t else decide (n = 0) && decide (x.t = [])) := by show _ = _; rw [← hkk, ← hnn]; rfl
 rw [hkk, hnn] at hW0 ⊢
 rw [hkk] at c0
 rw [hnn] at c2
 clear hs hv hk hG hb0 hg0 hkk hnn
 by_cases h0 : k = 0
 · have y0 : ((k : Int) == 0) = true := by simp [h0]
   have HE : Hid (rStepP x = false) := by show _ = _; rw [HR.out, if_pos (.inl h0)]
   clear h0 HR HST HG0 HSZ
   go_enter func117, ntmps117
   go_wp2_with fail
   go_ret
   exact ⟨by rw [HE.out]; rfl, HB.out⟩
 · have y0 : ((k : Int) == 0) = false := bfn (by omega)
   by_cases h22 : 22 ≤ k
   · have y22 : (22 : Int) ≤ (k : Int) := by omega
     have HE : Hid (rStepP x = false) := by show _ = _; rw [HR.out, if_pos (.inr h22)]
     clear h0 h22 HR HST HG0 HSZ
     go_enter func117, ntmps117
     go_wp2_with fail
     go_ret
     exact ⟨by rw [HE.out]; rfl, HB.out⟩
   · have y22 : ¬ (22 : Int) ≤ (k : Int) := by omega
     have h022 : ¬ (k = 0 ∨ 22 ≤ k) := by omega
     by_cases h4 : k = 4
     · have y4 : ((k : Int) == 4) = true := by simp [h4]
       by_cases ht : x.t = []
       · have t1 : (s.toList == (⟨#[]⟩ : ByteArray).toList) = true := by rw [Lib.toList_data, HST.out, ht, empty_toList]; rfl
         have t2 : (s.toList == []) = true := by rw [Lib.toList_data, HST.out, ht]; rfl
         have HE : Hid (rStepP x = true) := by show _ = _; rw [HR.out]; simp [h4, ht]
         clear ht h0 h22 h022 h4 HR HST HG0 HSZ
         go_enter func117, ntmps117
         go_wp2_with fail
         go_ret
         exact ⟨by rw [HE.out]; rfl, HB.out⟩
       · have t1 : (s.toList == (⟨#[]⟩ : ByteArray).toList) = false := by rw [Lib.toList_data, HST.out, empty_toList]; exact bfn ht
         have t2 : (s.toList == []) = false := by rw [Lib.toList_data, HST.out]; exact bfn ht
         have HE : Hid (rStepP x = false) := by show _ = _; rw [HR.out]; simp [h4, ht]
         clear ht h0 h22 h022 h4 HR HST HG0 HSZ
         go_enter func117, ntmps117
         go_wp2_with fail
         go_ret
         exact ⟨by rw [HE.out]; rfl, HB.out⟩
     · have y4 : ((k : Int) == 4) = false := bfn (by omega)
       by_cases h5 : k = 5
       · have y5 : ((k : Int) == 5) = true := by simp [h5]
         have HR5 : Hid (rStepP x = (decide (n = 0) && (decide (x.t.length ≤ 256) && validD x.t))) := by show _ = _; rw [HR.out, if_neg h022, if_neg h4, if_pos h5]
         by_cases hn : n = 0
         · have yn : (n == 0) = true := by simp [hn]
           by_cases h256 : s.size ≤ 256
           · have y256 : (s.size : Int) ≤ 256 := by omega
             obtain ⟨V, hV⟩ := gen (validD x.t)
             have C1 : Hid (Calls prog 100 #[.string s] W0 fun e w' => e = .returned (.bool V) ∧ Bl W0 w') := by have := Tryz.utf8_ValidString s W0 (by have := HSZ.out; omega) HG0.out.2.1; rw [HST.out, hV] at this; exact this
             have HE : Hid (rStepP x = V) := by show _ = _; rw [HR5.out, hn, hV, decide_eq_true (show x.t.length ≤ 256 by have := HSZ.out; omega)]; simp
             clear hV h256 hn h0 h22 h022 h4 h5 HR5 HR HST HG0 HSZ
             go_enter func117, ntmps117
             go_wp2_with fail
             refine C1.out.mono ?_
             rintro e w1 ⟨rfl, hb1⟩
             have HB1 : Hid (Bl w w1) := HB.out.trans (hb1.mono HB.out.size)
             clear C1 hb1 hW0
             go_wp2_with fail
             go_ret
             exact ⟨by rw [HE.out]; rfl, HB1.out⟩
           · have y256 : ¬ (s.size : Int) ≤ 256 := by omega
             have HE : Hid (rStepP x = false) := by show _ = _; rw [HR5.out, decide_eq_false (show ¬ x.t.length ≤ 256 by have := HSZ.out; omega)]; simp
             clear h256 hn h0 h22 h022 h4 h5 HR5 HR HST HG0 HSZ
             go_enter func117, ntmps117
             go_wp2_with fail
             go_ret
             exact ⟨by rw [HE.out]; rfl, HB.out⟩
         · have yn : (n == 0) = false := bfn hn
           have HE : Hid (rStepP x = false) := by show _ = _; rw [HR5.out, decide_eq_false hn]; rfl
           clear hn h0 h22 h022 h4 h5 HR5 HR HST HG0 HSZ
           go_enter func117, ntmps117
           go_wp2_with fail
           go_ret
           exact ⟨by rw [HE.out]; rfl, HB.out⟩
       · have y5 : ((k : Int) == 5) = false := bfn (by omega)
         by_cases h6 : k = 6
         · have y6 : ((k : Int) == 6) = true := by simp [h6]
           have HR6 : Hid (rStepP x = (decide (n = 0) && isColP x.t)) := by show _ = _; rw [HR.out, if_neg h022, if_neg h4, if_neg h5, if_pos h6]
           by_cases hn : n = 0
           · have yn : (n == 0) = true := by simp [hn]
             obtain ⟨V, hV⟩ := gen (isColP x.t)
             have C1 : Hid (Calls prog 104 #[.string s] W0 fun e w' => e = .returned (.bool V) ∧ Bl W0 w') := by have := isCol_all s W0 (by have := HSZ.out; omega) HG0.out; rw [HST.out, hV] at this; exact this
             have HE : Hid (rStepP x = V) := by show _ = _; rw [HR6.out, hn, hV]; simp
             clear hV hn h0 h22 h022 h4 h5 h6 HR6 HR HST HG0 HSZ
             go_enter func117, ntmps117
             go_wp2_with fail
             refine C1.out.mono ?_
             rintro e w1 ⟨rfl, hb1⟩
             have HB1 : Hid (Bl w w1) := HB.out.trans (hb1.mono HB.out.size)
             clear C1 hb1 hW0
             go_wp2_with fail
             go_ret
             exact ⟨by rw [HE.out]; rfl, HB1.out⟩
           · have yn : (n == 0) = false := bfn hn
             have HE : Hid (rStepP x = false) := by show _ = _; rw [HR6.out, decide_eq_false hn]; rfl
             clear hn h0 h22 h022 h4 h5 h6 HR6 HR HST HG0 HSZ
             go_enter func117, ntmps117
             go_wp2_with fail
             go_ret
             exact ⟨by rw [HE.out]; rfl, HB.out⟩
         · have y6 : ((k : Int) == 6) = false := bfn (by omega)
           have HR7 : Hid (rStepP x = (decide (n = 0) && decide (x.t = []))) := by show _ = _; rw [HR.out, if_neg h022, if_neg h4, if_neg h5, if_neg h6]
           by_cases hn : n = 0
           · have yn : (n == 0) = true := by simp [hn]
             by_cases ht : x.t = []
             · have t1 : (s.toList == (⟨#[]⟩ : ByteArray).toList) = true := by rw [Lib.toList_data, HST.out, ht, empty_toList]; rfl
               have t2 : (s.toList == []) = true := by rw [Lib.toList_data, HST.out, ht]; rfl
               have HE : Hid (rStepP x = true) := by show _ = _; rw [HR7.out]; simp [hn, ht]
               clear ht hn h0 h22 h022 h4 h5 h6 HR7 HR HST HG0 HSZ
               go_enter func117, ntmps117
               go_wp2_with fail
               go_ret
               exact ⟨by rw [HE.out]; rfl, HB.out⟩
             · have t1 : (s.toList == (⟨#[]⟩ : ByteArray).toList) = false := by rw [Lib.toList_data, HST.out, empty_toList]; exact bfn ht
               have t2 : (s.toList == []) = false := by rw [Lib.toList_data, HST.out]; exact bfn ht
               have HE : Hid (rStepP x = false) := by show _ = _; rw [HR7.out]; simp [hn, ht]
               clear ht hn h0 h22 h022 h4 h5 h6 HR7 HR HST HG0 HSZ
               go_enter func117, ntmps117
               go_wp2_with fail
               go_ret
               exact ⟨by rw [HE.out]; rfl, HB.out⟩
           · have yn : (n == 0) = false := bfn hn
             have HE : Hid (rStepP x = false) := by show _ = _; rw [HR7.out, decide_eq_false hn]; rfl
             clear hn h0 h22 h022 h4 h5 h6 HR7 HR HST HG0 HSZ
             go_enter func117, ntmps117
             go_wp2_with fail
             go_ret
             exact ⟨by rw [HE.out]; rfl, HB.out⟩
def takesP (x : Stp) : Nat × Bool := if rStepP x then (takesN x.k, true) else (0, false)
theorem takes_w (x : Stp) (w : World) (hk : okW x) (hG : GW w) : Calls prog 78 #[x.v] w fun e w' => e = .returned (.tuple #[.int .i64 ((takesP x).1 : Int), .bool (takesP x).2]) ∧ Bl w w' := by
 obtain ⟨s, hs⟩ := bya x.t
 have hv : x.v = .agg #[.int .u8 (x.k : Int), .string s, .int .i64 x.n] := by rw [← hs]; rfl
 obtain ⟨W0, hW0⟩ := gen (w.alloc (.cells #[.int .u8 (x.k : Int), .string s, .int .i64 x.n] 53))
 have hb0 : Bl w W0 := by rw [← hW0]; exact below_alloc _ _
 have hg0 : W0.heap[w.heap.size]? = some (.cells #[.int .u8 (x.k : Int), .string s, .int .i64 x.n] 53 (0, 0)) := by rw [← hW0]; exact heap_alloc_new w _
 have hl0 : w.heap.size < W0.heap.size := (gsi hg0).1
 obtain ⟨R, hR⟩ := gen (rStepP x)
 have C : Hid (Calls prog 117 #[.agg #[.int .u8 (x.k : Int), .string s, .int .i64 x.n]] W0 fun e w' => e = .returned (.bool R) ∧ Bl W0 w') := by have := rightStep_w x W0 hk (hG.below hb0); rw [hv, hR] at this; exact this
 have HR0 : Hid (W0.rangeAt w.heap.size 0 [.int .u8 (x.k : Int), .string s, .int .i64 x.n]) := rgz hg0
 have c0 := cell_of_row (k := 0) (v := .int .u8 (x.k : Int)) hg0 rfl
 have HL : Hid (∀ V, Bl W0 V → V.cell? ⟨w.heap.size, 0, none⟩ = some (.int .u8 (x.k : Int)) ∧ Bl w V) := fun V hb => ⟨(hb.cell (p := ⟨w.heap.size, 0, none⟩) hl0).trans c0, hb0.trans (hb.mono hb0.size)⟩
 have HT : Hid (takesP x = if R then (takesN x.k, true) else (0, false)) := by show _ = _; rw [← hR]; rfl
 rw [hv]
 obtain ⟨k, hkk⟩ := gen x.k
 rw [hkk] at hW0 C HR0 HL HT ⊢
 clear hs hv hk hG hb0 hg0 hl0 hR hkk c0
 go_enter func78, ntmps78
 go_wp2_with (refine wpList_load_mid rfl 53 _ rfl w.heap.size 0 rfl _ _ HR0.out underlying53 rfl sz_step ?_)
 refine C.out.mono ?_
 rintro e w1 ⟨rfl, hb1⟩
 obtain ⟨c0, hbw⟩ := HL.out w1 hb1
 have HB := hid hbw
 clear C hb1 HR0 HL hW0 hbw
 cases R with
 | false =>
  have HE : Hid (takesP x = (0, false)) := HT.out
  clear HT
  go_wp2_with fail
  go_ret2
  exact ⟨by rw [HE.out]; rfl, HB.out⟩
 | true =>
  by_cases h6 : k ≤ 6
  · have y6 : (k : Int) ≤ 6 := by omega
    have HE : Hid (takesP x = (0, true)) := by show _ = _; rw [HT.out]; unfold takesN; rw [if_pos rfl, if_pos h6]
    clear HT h6
    go_wp2_with fail
    go_ret2
    exact ⟨by rw [HE.out]; rfl, HB.out⟩
  · have y6 : ¬ (k : Int) ≤ 6 := by omega
    by_cases h10 : k ≤ 10
    · have y10 : (k : Int) ≤ 10 := by omega
      have HE : Hid (takesP x = (1, true)) := by show _ = _; rw [HT.out]; unfold takesN; rw [if_pos rfl, if_neg h6, if_pos h10]
      clear HT h6 h10
      go_wp2_with fail
      go_ret2
      exact ⟨by rw [HE.out]; rfl, HB.out⟩
    · have y10 : ¬ (k : Int) ≤ 10 := by omega
      have HE : Hid (takesP x = (2, true)) := by show _ = _; rw [HT.out]; unfold takesN; rw [if_pos rfl, if_neg h6, if_neg h10]
      clear HT h6 h10
      go_wp2_with fail
      go_ret2
      exact ⟨by rw [HE.out]; rfl, HB.out⟩
theorem takesP_le (x : Stp) : (takesP x).1 ≤ 2 := by
 unfold takesP takesN
 split
 · split
   · exact Nat.zero_le _
   · split
     · exact Nat.le_succ 1
     · exact Nat.le_refl 2
 · exact Nat.zero_le _
def rightL : List Stp → Nat → Bool
 | [], v => decide (v = 1)
 | x :: l, v => if (takesP x).2 = false ∨ v < (takesP x).1 then false else rightL l (v + 1 - (takesP x).1)
def rightP (l : List Stp) : Bool := if 64 < l.length then false else rightL l 0
theorem stp_w {K : Nat → Prop} {w : World} {q : Option Addr} {n c : Nat} {l : List Stp} (h : ListIs rStpW 3 32 K w (.slice q n c) l) (hl : 0 < l.length) : ∃ b o, q = some ⟨b, o, none⟩ ∧ K b ∧ ∀ i (hi : i < l.length), w.rangeAt b (o + i * 3) [.int .u8 (l[i].k : Int), .string ⟨(l[i]).t.toArray⟩, .int .i64 l[i].n] ∧ okW l[i] := by
 obtain ⟨q', c', e, _, hp⟩ := h
 obtain ⟨b, o, rfl, hKb, hc⟩ := hp hl
 cases e
 refine ⟨b, o, rfl, hKb, fun i hi => ?_⟩
 obtain ⟨cs, _, hcell, rfl, hk⟩ := hc i hi
 exact ⟨fun j u hu => hcell j u hu, hk⟩
theorem right_w (K : Nat → Prop) (q : Option Addr) (c : Nat) (l : List Stp) (w : World) (h : ListIs rStpW 3 32 K w (.slice q l.length c) l) (hK : ∀ b, K b → b < w.heap.size) (hG : GW w) : Calls prog 34 #[.slice q l.length c] w fun e w' => e = .returned (.bool (rightP l)) ∧ Bl w w' := by
 have HL := hid h
 have HK := hid hK
 have HG := hid hG
 obtain ⟨R, hR⟩ := gen (rightP l)
 have HR : Hid ((if 64 < l.length then false else rightL l 0) = R) := hR
 rw [hR]
 clear h hK hG hR
 by_cases h64 : 64 < l.length
 · have y64 : (64 : Int) < (l.length : Int) := by omega
   have HE : Hid (R = false) := by have := HR.out; rw [if_pos h64] at this; exact this.symm
   clear HR h64
   go_enter func34, ntmps34
   go_wp2_with fail
   go_ret
   exact ⟨by rw [HE.out]; rfl, Below.refl _ _⟩
 · have y64 : ¬ (64 : Int) < (l.length : Int) := by omega
   have HR0 : Hid (rightL (l.drop 0) 0 = R) := by have := HR.out; rw [if_neg h64] at this; exact this
   clear HR
   go_enter func34, ntmps34
   go_wp2_with fail
   go_loopg [3, 13] l.length (fun gf s3 s13 wx => ∃ (i v : Nat), s3 = .int .i64 v ∧ s13 = .int .i64 i ∧ i ≤ l.length ∧ l.length ≤ i + gf ∧ v ≤ i ∧ Hid (Bl w wx) ∧ Hid (rightL (l.drop i) v = R))
   case atStart => exact ⟨0, 0, rfl, rfl, by omega, by omega, by omega, Below.refl _ _, HR0⟩
   case round =>
    clear HR0
    obtain ⟨i, v, rfl, rfl, hi1, hgf, hvi, HB, HT⟩ := hrel
    by_cases hi : i < l.length
    · obtain ⟨g', rfl⟩ : ∃ g', gk = g' + 1 := ⟨gk - 1, by omega⟩
      have hbw := HB.out
      obtain ⟨b, o, hq, _, hc⟩ := stp_w (HL.out.mono mStpW (fun _ h => h) (kept_of HK.out hbw)) (by omega)
      subst hq
      obtain ⟨hrg, hok⟩ := hc i hi
      have hdr : l.drop i = l[i] :: l.drop (i + 1) := List.drop_eq_getElem_cons hi
      have hT := HT.out
      rw [hdr] at hT
      obtain ⟨y, hy⟩ := gen (l[i])
      rw [hy] at hrg hok hT
      obtain ⟨s, hs⟩ := bya y.t
      have hv : y.v = .agg #[.int .u8 (y.k : Int), .string s, .int .i64 y.n] := by rw [← hs]; rfl
      rw [hs] at hrg
      have HRG := hid hrg
      obtain ⟨WA, hWA, hth, W1, hW1, hg1, hb1⟩ := box_three wr 53 (.int .u8 0) (.string ⟨#[]⟩) (.int .i64 0) (.int .u8 (y.k : Int)) (.string s) (.int .i64 y.n)
      have HTH := hid hth
      have HW1 := hid hW1
      have HR1 : Hid (W1.rangeAt wr.heap.size 0 [.int .u8 (y.k : Int), .string s, .int .i64 y.n]) := rgz hg1
      obtain ⟨tk, ok, htk⟩ : ∃ tk ok, takesP y = (tk, ok) := ⟨_, _, rfl⟩
      have htk2 : tk ≤ 2 := by have := takesP_le y; rw [htk] at this; exact this
      have hbW : Bl w W1 := hbw.trans (hb1.mono hbw.size)
      have C : Hid (Calls prog 78 #[.agg #[.int .u8 (y.k : Int), .string s, .int .i64 y.n]] W1 fun e w' => e = .returned (.tuple #[.int .i64 (tk : Int), .bool ok]) ∧ Bl W1 w') := by have := takes_w y W1 hok (HG.out.below hbW); rw [hv, htk] at this; exact this
      have HBW := hid hbW
      have HT2 : Hid ((if ok = false ∨ v < tk then false else rightL (l.drop (i + 1)) (v + 1 - tk)) = R) := by
       show _ = _
       rw [← hT]
       show _ = (if (takesP y).2 = false ∨ v < (takesP y).1 then false else rightL (l.drop (i + 1)) (v + 1 - (takesP y).1))
       rw [htk]
      have z0 : (0 : Int) ≤ (i : Int) := by omega
      have z1 : (i : Int) < (l.length : Int) := by omega
      clear hc hrg hok hdr hT hy hs hv hth hW1 hg1 hb1 hbw hbW htk HT HB
      go_wp2_with (first | (refine wpList_load_mid rfl 53 _ rfl b (o + i * 3) rfl _ _ HRG.out underlying53 rfl sz_step ?_) | (refine wpList_store_mid rfl 53 _ _ rfl wr.heap.size 0 #[.int .u8 (y.k : Int), .string s, .int .i64 y.n] rfl rfl HTH.out sz_step (by simp [Value.oneCell']) ?_; rw [show WA.setCells wr.heap.size 0 (#[.int .u8 (y.k : Int), .string s, .int .i64 y.n] : Array Value).toList = W1 from HW1.out]) | (refine wpList_load_mid rfl 53 _ rfl wr.heap.size 0 rfl _ _ HR1.out underlying53 rfl sz_step ?_))
      refine C.out.mono ?_
      rintro e w2 ⟨rfl, hb2⟩
      have HB2 : Hid (Bl w w2) := HBW.out.trans (hb2.mono HBW.out.size)
      clear C hb2 HBW HRG HTH HW1 HR1 hWA
      cases ok with
      | false =>
       have HE : Hid (R = false) := by have := HT2.out; rw [if_pos (.inl rfl)] at this; exact this.symm
       clear HT2
       go_wp2_with fail
       go_ret
       exact ⟨by rw [HE.out]; rfl, HB2.out⟩
      | true =>
       by_cases hvt : v < tk
       · have yv : (v : Int) < (tk : Int) := by omega
         have HE : Hid (R = false) := by have := HT2.out; rw [if_pos (.inr hvt)] at this; exact this.symm
         clear HT2 hvt
         go_wp2_with fail
         go_ret
         exact ⟨by rw [HE.out]; rfl, HB2.out⟩
       · have yv : ¬ (v : Int) < (tk : Int) := by omega
         have HT3 : Hid (rightL (l.drop (i + 1)) (v + 1 - tk) = R) := by have := HT2.out; rw [if_neg (by simpa using hvt)] at this; exact this
         have hvn : ((v + 1 - tk : Nat) : Int) = (v : Int) + (1 - (tk : Int)) := by omega
         have HVN := hid hvn
         clear HT2 hvn
         go_wp2_with fail
         go_roundg g'
         case measure => omega
         case rel => exact ⟨i + 1, v + 1 - tk, by rw [HVN.out], by go_num, by omega, by omega, by omega, HB2, HT3⟩
    · have z1 : ¬ (i : Int) < (l.length : Int) := by omega
      have HE : Hid (decide (v = 1) = R) := by
       have := HT.out
       rw [List.drop_of_length_le (by omega)] at this
       exact this
      clear HT
      by_cases hv1 : v = 1
      · have yv : ((v : Int) == 1) = true := by simp [hv1]
        have HE2 : Hid (R = true) := by have := HE.out; rw [decide_eq_true hv1] at this; exact this.symm
        clear HE hv1
        go_wp2_with fail
        go_ret
        exact ⟨by rw [HE2.out]; rfl, HB.out⟩
      · have yv : ((v : Int) == 1) = false := bfn (by omega)
        have HE2 : Hid (R = false) := by have := HE.out; rw [decide_eq_false hv1] at this; exact this.symm
        clear HE hv1
        go_wp2_with fail
        go_ret
        exact ⟨by rw [HE2.out]; rfl, HB.out⟩
end Go.Proofs.YtfifphfihdhlaaaGreatDoor

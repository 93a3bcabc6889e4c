/- An operation, if its parts are read. -/
import Derived.Test.YtfifphfihdhlaaaGreatDoorQi
set_option maxRecDepth 100000
set_option maxHeartbeats 32000000
namespace Go.Proofs.YtfifphfihdhlaaaGreatDoor
open Tryz
open Go.Shelf Go.RowKit Go.Lib Go.Sort
set_option linter.unusedVariables false
set_option linter.unusedSimpArgs false
attribute [local go_sem ↓] Go.wp_at_zero Go.wp_at_succ
theorem lookP_mem : ∀ (l : List (List UInt8 × Nat)) (t : List UInt8), lookP l t = 0 ∨ ∃ x ∈ l, lookP l t = x.2
 | [], t => .inl rfl
 | x :: l, t => by
  unfold lookP
  split
  · exact .inr ⟨x, by simp, rfl⟩
  · rcases lookP_mem l t with h | ⟨y, hy, h⟩
    · exact .inl h
    · exact .inr ⟨y, by simp [hy], h⟩
theorem opr_k {h : Tok} (ho : oprP h = true) : 7 ≤ stepOfP h.t ∧ stepOfP h.t ≤ 21 := by
 unfold oprP at ho
 simp only [Bool.and_eq_true, decide_eq_true_eq, Bool.not_eq_true'] at ho
 obtain ⟨_, h0, hc⟩ := ho
 refine ⟨?_, stepOfP_le _⟩
 unfold isConstP at hc
 simp only [Bool.and_eq_false_iff, decide_eq_false_iff_not] at hc
 rcases lookP_mem wordsP h.t with h1 | ⟨x, hx, h1⟩
 · exact absurd h1 h0
 · have h2 : stepOfP h.t = x.2 := h1
   have hw : ∀ x ∈ wordsP, x.2 ≤ 3 ∨ 7 ≤ x.2 := by decide
   have := hw x hx
   omega
theorem enters154 : ∀ args w, (callFunc 154 args).run prog w = .ok (.enter 154 args) w := enters_of func154 (by kernel_rfl) rfl
theorem Pre.next {base : Nat} {K : Nat → Prop} {B : Nat} {en : Int} {w w' : World} {u v : Value} {l l' : List Stp} {x x' : PS} (h : Pre base K B en w u l x) (hs : w.heap.size ≤ w'.heap.size) (st : StS base w' v l') (rd : Rdr K w' B en x') : Pre base K B en w' v l' x' := ⟨rd, st, Nat.le_trans h.hb hs, h.hB, h.hK⟩
theorem Pre.put {base : Nat} {K : Nat → Prop} {B : Nat} {en : Int} {w w' : World} {u v : Value} {l l' : List Stp} {x : PS} (h : Pre base K B en w u l x) (hk : Kept (fun b => b < w.heap.size ∧ u.ownBlock ≠ some b) w w') (st : StS base w' v l') : Pre base K B en w' v l' x := by
 refine h.next hk.size st (h.rd.kept (hk.less fun b hb => ?_))
 have hbb : b < base := by
  rcases hb with h1 | h1 | h1
  · obtain ⟨_, _, _, _, _, _, _, h10, _⟩ := h.rd
    have := h.hB
    omega
  · exact h.hK b h1
  · rw [h1]; exact h.hB
 exact ⟨by have := h.hb; omega, fun e => by have := (h.st.1.lt b e).1; omega⟩
theorem keptS_block {B : Nat} {u : Value} {w w' : World} (h : KeptS B u w w') {g : Nat} (hg : g < w.heap.size) (hB : g ≠ B) (hu : u.ownBlock ≠ some g) : w'.heap[g]? = w.heap[g]? := h.block g ⟨hg, hB, hu⟩
theorem box_three (W : World) (t : TypeId) (z0 z1 z2 v0 v1 v2 : Value) : ∃ WA, W.alloc (.cells #[z0, z1, z2] t) = WA ∧ WA.there W.heap.size 0 3 ∧ ∃ WS, WA.setCells W.heap.size 0 [v0, v1, v2] = WS ∧ WS.heap[W.heap.size]? = some (.cells #[v0, v1, v2] t (0, 0)) ∧ Bl W WS := by
 obtain ⟨WA, hWA, hth, WS, hWS, _, _, hb, _⟩ := box_new W t #[z0, z1, z2] [v0, v1, v2] rfl
 refine ⟨WA, hWA, hth, WS, hWS, ?_, hb⟩
 have g0 : WA.heap[W.heap.size]? = some (.cells #[z0, z1, z2] t (0, 0)) := by rw [← hWA]; exact heap_alloc_new W _
 have g1 := heap_setCell_same WA W.heap.size 0 _ t v0 g0
 have g2 := heap_setCell_same _ W.heap.size 1 _ t v1 g1
 have g3 := heap_setCell_same _ W.heap.size 2 _ t v2 g2
 rw [← hWS]
 exact g3
def opMore (en : Int) (f : Nat) (k F m : Nat) (l : List Stp) (x : PS) : Res (List Stp × Nat) := if mreP k = true then moreR (partR en f) F m l x else .inr ((l, m), x)
def opEnd (en : Int) (k m : Nat) (l : List Stp) (x : PS) : Res (List Stp) := andR (takeP en clsP x) fun e s => putN (max 1 (m - 1)) l ⟨k, [], 0⟩ e.a s
theorem oper_eq (en : Int) (f : Nat) (l : List Stp) (h : Tok) (x : PS) : operR en (partR en f) l h x = andR (timesR (partR en f) (takesN (stepOfP h.t)) l x) fun l s => andR (opMore en f (stepOfP h.t) (s.ts.length + 1) (takesN (stepOfP h.t)) l s) fun y s => opEnd en (stepOfP h.t) y.2 y.1 s := by
 unfold operR
 congr 1
 funext l s
 have e : opMore en f (stepOfP h.t) (s.ts.length + 1) (takesN (stepOfP h.t)) l s = (if stepOfP h.t = 20 ∨ stepOfP h.t = 21 then moreR (partR en f) (s.ts.length + 1) (takesN (stepOfP h.t)) l s else .inr ((l, takesN (stepOfP h.t)), s)) := by
  unfold opMore mreP
  by_cases h1 : stepOfP h.t = 20 ∨ stepOfP h.t = 21
  · rw [if_pos h1, if_pos (by simpa using h1)]
  · rw [if_neg h1, if_neg (by simpa using h1)]
 rw [e]
 rfl
theorem oper_step (en : Int) (f : Nat) (hpc : PartC en f) : OperC en f := by
 intro base K B w u l x h hp hok hop hlen
 have HPC := hid hpc
 have HP := hid hp
 have HLN : Hid (x.ts.length < f) := hlen
 have HXS : Hid (Small x) := by obtain ⟨_, _, _, _, _, _, _, _, hsm, _⟩ := hp.rd; exact hsm
 obtain ⟨k, hk⟩ := gen (stepOfP h.t)
 obtain ⟨hk7, hk21⟩ := opr_k hop
 rw [hk] at hk7 hk21
 obtain ⟨s, hs⟩ := bya h.t
 have hst : s.data.toList = h.t := by rw [← hs]
 have hv : h.v = .agg #[.int .u8 h.k, .string s, .int .i64 h.n, .int .i64 h.a] := by rw [← hs]; rfl
 obtain ⟨W0, hW0⟩ := gen (w.alloc (.cells #[.int .u8 h.k, .string s, .int .i64 h.n, .int .i64 h.a] 160))
 have hb0 : Bl w W0 := by rw [← hW0]; exact (Below.refl _ _).alloc (Nat.le_refl _) _
 have hg0 : W0.heap[w.heap.size]? = some (.cells #[.int .u8 h.k, .string s, .int .i64 h.n, .int .i64 h.a] 160 (0, 0)) := by rw [← hW0]; exact heap_alloc_new w _
 have hG : GW W0 := by obtain ⟨_, _, _, _, _, _, hG, _⟩ := hp.rd; exact hG.below hb0
 have C1 : Hid (Calls prog 135 #[.string s] W0 fun e w' => e = .returned (.int .u8 (k : Int)) ∧ Bl W0 w') := by have := stepOf_any s W0 hG.1; rw [hst, hk] at this; exact this
 have c1 := cell_of_row (k := 1) (v := .string s) hg0 rfl
 have HB0 := hid hb0
 obtain ⟨n, hn⟩ := gen (takesN k)
 have hn12 : n = 1 ∨ n = 2 := by rw [← hn]; unfold takesN; rw [if_neg (by omega)]; split; exact .inl rfl; exact .inr rfl
 have hn2 : n ≤ 2 := by omega
 have hn1 : 1 ≤ n := by omega
 obtain ⟨R1, hR1⟩ := gen (timesR (partR en f) n l x)
 have HR : Hid (operR en (partR en f) l h x = andR R1 fun l s => andR (opMore en f k (s.ts.length + 1) n l s) fun y s => opEnd en k y.2 y.1 s) := by show _ = _; rw [oper_eq, hk, hn, hR1]
 have HR1 : Hid (timesR (partR en f) n l x = R1) := hR1
 obtain ⟨pu, cu, hu⟩ := hp.st.slice
 subst hu
 rw [hv]
 clear hpc hp hlen hop hok hk hst hv hs hg0 hG hb0 hR1 hn12
 go_enter func212, ntmps212
 go_wp2_with fail
 refine C1.out.mono ?_
 rintro e w1 ⟨rfl, hb1⟩
 obtain ⟨WA, hWA, hTH, V1, hV1, hgS, hbV1⟩ := box_three w1 53 (.int .u8 0) (.string ⟨#[]⟩) (.int .i64 0) (.int .u8 (k : Int)) (.string ⟨#[]⟩) (.int .i64 0)
 have HTH := hid hTH
 have HWS := hid hV1
 have hlS : w1.heap.size < V1.heap.size := (gsi hgS).1
 have C2 : Hid (Calls prog 78 #[.agg #[.int .u8 (k : Int), .string ⟨#[]⟩, .int .i64 0]] V1 fun e w' => e = .returned (.tuple #[.int .i64 (n : Int), .bool true]) ∧ Bl V1 w') := by have := takes_word k V1 hk7 hk21; rw [hn] at this; exact this
 have HR0 : Hid (V1.rangeAt w1.heap.size 0 [.int .u8 (k : Int), .string ⟨#[]⟩, .int .i64 0]) := rgz hgS
 have hbw1 : Bl w w1 := HB0.out.trans (hb1.mono HB0.out.size)
 have hbV : Bl w V1 := hbw1.trans (hbV1.mono hbw1.size)
 have HBV := hid hbV
 have HGS : Hid (V1.heap[w1.heap.size]? = some (.cells #[.int .u8 (k : Int), .string ⟨#[]⟩, .int .i64 0] 53 (0, 0)) ∧ w1.heap.size < V1.heap.size ∧ w.heap.size ≤ w1.heap.size) := ⟨hgS, hlS, hbw1.size⟩
 clear C1 c1 hb1 hbV1 hgS hlS hbw1 hbV hW0 hn hTH hV1
 go_wp2_with first | (refine wpList_load_mid rfl 53 _ rfl w1.heap.size 0 rfl _ _ HR0.out underlying53 rfl sz_step ?_) | (refine wpList_store_mid rfl 53 _ _ rfl w1.heap.size 0 #[.int .u8 (k : Int), .string ⟨#[]⟩, .int .i64 0] rfl rfl HTH.out sz_step (by simp [Value.oneCell']) ?_; rw [show WA.setCells w1.heap.size 0 (#[.int .u8 (k : Int), .string ⟨#[]⟩, .int .i64 0] : Array Value).toList = V1 from HWS.out])
 refine C2.out.mono ?_
 rintro e V2 ⟨rfl, hb2⟩
 have HBW : Hid (Bl w V2) := HBV.out.trans (hb2.mono HBV.out.size)
 have hP2 := HP.out.below HBW.out
 have HOWN : Hid (∀ g, (Value.slice pu l.length cu).ownBlock = some g → g < w.heap.size) := fun g hg => (HP.out.st.1.lt g hg).2
 have HGS2 : Hid (V2.heap[w1.heap.size]? = some (.cells #[.int .u8 (k : Int), .string ⟨#[]⟩, .int .i64 0] 53 (0, 0)) ∧ w1.heap.size < V2.heap.size ∧ w.heap.size ≤ w1.heap.size) := ⟨(hb2.block _ HGS.out.2.1).trans HGS.out.1, by have := hb2.size; have := HGS.out.2.1; omega, HGS.out.2.2⟩
 have HSB : Hid (∀ V, KeptS B (.slice pu l.length cu) V2 V → V.heap[w1.heap.size]? = some (.cells #[.int .u8 (k : Int), .string ⟨#[]⟩, .int .i64 0] 53 (0, 0))) := fun V hk => (keptS_block hk HGS2.out.2.1 (by have := HP.out.hB; have := HP.out.hb; have := HGS2.out.2.2; omega) (fun e => by have := HOWN.out _ e; have := HGS2.out.2.2; omega)).trans HGS2.out.1
 have HFIN : Hid (∀ e V, KeptS B (.slice pu l.length cu) V2 V → ((∃ y a, operR en (partR en f) l h x = .inl (y, a) ∧ e = faultE y a) ∨ ∃ l' x' v, operR en (partR en f) l h x = .inr (l', x') ∧ e = .returned v ∧ StS base V v l' ∧ OwnTo V2 (.slice pu l.length cu) v ∧ Rdr K V B en x' ∧ x'.ts.length < x.ts.length) → OutS base K B en w (.slice pu l.length cu) x (operR en (partR en f) l h x) e V) := fun e V hk hr => by
  refine ⟨(KeptS.of_below HBW.out).trans (OwnTo.refl _ _) hk, ?_⟩
  rcases hr with hr | ⟨l', x', v, h1, h2, h3, h4, h5, h6⟩
  · exact .inl hr
  · exact .inr ⟨l', x', v, h1, h2, h3, h4.mono HBW.out.size, h5, h6⟩
 have HP2 := hid hP2
 clear C2 HR0 hb2 hP2 HGS HBV hWA HTH HWS HB0
 go_wp2_with fail
 go_loopg [1, 21] n (fun gf s1 s21 wx => ∃ (i : Nat) (uu : Value) (li : List Stp) (xi : PS), uu = s1 ∧ s21 = .int .i64 i ∧ i ≤ n ∧ n ≤ i + gf ∧ Hid (Pre base K B en wx uu li xi) ∧ Hid (KeptS B (.slice pu l.length cu) V2 wx) ∧ Hid (OwnTo V2 (.slice pu l.length cu) uu) ∧ Hid (timesR (partR en f) (n - i) li xi = R1) ∧ Hid (xi.ts.length ≤ x.ts.length ∧ (i = 0 ∨ xi.ts.length < x.ts.length)))
 case atStart => exact ⟨0, _, l, x, rfl, rfl, by omega, by omega, HP2, Kept.refl _ _, OwnTo.refl _ _, HR1, ⟨Nat.le_refl _, .inl rfl⟩⟩
 case round =>
  clear HP2 HR1
  obtain ⟨i, uu, li, xi, rfl, rfl, hi1, hgf, HPI, HKI, HOI, HTI, HXI⟩ := hrel
  by_cases hi : i < n
  · obtain ⟨g', rfl⟩ : ∃ g', gk = g' + 1 := ⟨gk - 1, by omega⟩
    obtain ⟨pi, ci, hui⟩ := HPI.out.st.slice
    subst hui
    have CC := hid (HPC.out base K B wr _ li xi HPI.out (by have := HXI.out.1; have := HLN.out; omega))
    have HTI2 : Hid (andR (partR en f li xi) (fun l s => timesR (partR en f) (n - (i + 1)) l s) = R1) := by
     have := HTI.out
     rw [show n - i = (n - (i + 1)) + 1 by omega] at this
     exact this
    have z1 : (i : Int) < (n : Int) := by omega
    clear HTI
    go_wp2_with fail
    refine CC.out.mono ?_
    rintro e w3 ⟨hk3, ⟨y, a, hr, rfl⟩ | ⟨l3, x3, v, hr, rfl, hst3, hot3, hrd3, hlt3⟩⟩
    · have HF := hid (HFIN.out (faultE y a) w3 (HKI.out.trans HOI.out hk3) (.inl ⟨y, a, by rw [HR.out, ← HTI2.out, hr]; rfl, rfl⟩))
      clear CC hk3 hr
      unfold faultE at HF ⊢
      go_wp2_with fail
      exact ⟨rfl, HF.out⟩
    · have HPN : Hid (Pre base K B en w3 v l3 x3) := HPI.out.next hk3.size hst3 hrd3
      have HKN : Hid (KeptS B (.slice pu l.length cu) V2 w3) := HKI.out.trans HOI.out hk3
      have HON : Hid (OwnTo V2 (.slice pu l.length cu) v) := HOI.out.trans hot3 HKI.out.size
      have HTN : Hid (timesR (partR en f) (n - (i + 1)) l3 x3 = R1) := by have := HTI2.out; rw [hr] at this; exact this
      have HXN : Hid (x3.ts.length ≤ x.ts.length ∧ (i + 1 = 0 ∨ x3.ts.length < x.ts.length)) := ⟨by have := HXI.out.1; omega, .inr (by have := HXI.out.1; omega)⟩
      clear CC hk3 hr hst3 hot3 hrd3 hlt3 HTI2
      go_wp2_with fail
      go_roundg g'
      case measure => omega
      case rel => exact ⟨i + 1, v, l3, x3, rfl, by go_num, by omega, by omega, HPN, HKN, HON, HTN, HXN⟩
  · have z1 : ¬ (i : Int) < (n : Int) := by omega
    have HRR : Hid (operR en (partR en f) l h x = andR (opMore en f k (xi.ts.length + 1) n li xi) fun y s => opEnd en k y.2 y.1 s) := by
     have := HTI.out
     rw [show n - i = 0 by omega] at this
     show _ = _
     rw [HR.out, ← this]
     rfl
    have HXX : Hid (xi.ts.length < x.ts.length) := by show _ < _; have := HXI.out.2; omega
    clear HTI HXI hgf hi hi1 HR
    obtain ⟨wa, hwa⟩ : ∃ wa, wa = wr := ⟨_, rfl⟩
    subst hwa
    go_wp2_with fail
    clear z1
    obtain ⟨R2, hR2⟩ := gen (opMore en f k (xi.ts.length + 1) n li xi)
    have HR2 : Hid (operR en (partR en f) l h x = andR R2 fun y s => opEnd en k y.2 y.1 s) := by show _ = _; rw [HRR.out, hR2]
    have HM0 : Hid (opMore en f k (xi.ts.length + 1) n li xi = R2) := hR2
    clear HRR hR2
    go_loopg [1, 8] (xi.ts.length + 1) (fun gf s1 s8 wx => ∃ (uu' : Value) (lj : List Stp) (xj : PS) (m F : Nat), uu' = s1 ∧ s8 = .int .i64 m ∧ xj.ts.length < gf ∧ xj.ts.length < F ∧ 1 ≤ m ∧ m + xj.ts.length ≤ 200000 ∧ Hid (Pre base K B en wx uu' lj xj) ∧ Hid (KeptS B (.slice pu l.length cu) V2 wx) ∧ Hid (OwnTo V2 (.slice pu l.length cu) uu') ∧ Hid (opMore en f k F m lj xj = R2) ∧ Hid (xj.ts.length < x.ts.length))
    case atStart => exact ⟨_, li, xi, n, _, rfl, rfl, by omega, by omega, hn1, by have h1 := HXX.out; have h2 := HXS.out.1; omega, HPI, HKI, HOI, HM0, HXX⟩
    case round =>
     clear HPI HKI HOI HM0 HXX
     obtain ⟨uu', lj, xj, m, F, rfl, rfl, hgf, hF, hm1, hm2, HPJ, HKJ, HOJ, HMJ, HXJ⟩ := hrel
     obtain ⟨g', rfl⟩ : ∃ g', gk = g' + 1 := ⟨gk - 1, by omega⟩
     obtain ⟨pj, cj, huj⟩ := HPJ.out.st.slice
     subst huj
     have d7 := cell_of_row (k := 0) (v := .int .u8 (k : Int)) (HSB.out wr HKJ.out) rfl
     obtain ⟨Q, hQ⟩ := gen (mreP k)
     have CT : Hid (Calls prog 226 #[.int .u8 (k : Int)] wr fun e w' => e = .returned (.bool Q) ∧ w' = wr) := by have := takesMore_any k wr; rw [hQ] at this; exact this
     have HQ : Hid (mreP k = Q) := hQ
     clear hQ
     go_wp2_with fail
     refine CT.out.mono ?_
     rintro e w3 ⟨rfl, h3⟩
     replace h3 := h3.symm
     subst h3
     clear CT d7
     cases Q with
     | false =>
      have HRE : Hid (operR en (partR en f) l h x = opEnd en k m lj xj) := by
       show _ = _
       have := HMJ.out
       unfold opMore at this
       rw [if_neg (by rw [HQ.out]; simp)] at this
       rw [HR2.out, ← this]
       rfl
      clear HMJ
      obtain ⟨wc, hwc⟩ : ∃ wc, wc = wr := ⟨_, rfl⟩
      subst hwc
      as_aux_lemma =>
       obtain ⟨V4, hV4⟩ := gen (wc.alloc (.cells #[.func (.func 154) #[] #[]] 187))
       have hbV4 : Bl wc V4 := by rw [← hV4]; exact (Below.refl _ _).alloc (Nat.le_refl _) _
       have hG4 : GW wc := by obtain ⟨_, _, _, _, _, _, hG, _⟩ := HPJ.out.rd; exact hG
       have hw4 : WantsAt V4 (.slice (some ⟨wc.heap.size, 0, none⟩) 1 1) [(.func (.func 154) #[] #[], clsP)] := by rw [← hV4]; exact wants_one wc _ _ (want_plain 154 clsP enters154 isClose_any wc hG4)
       have hPV := HPJ.out.below hbV4
       have CT := hid (take_any _ _ K V4 B en xj hPV.rd hw4)
       rw [anyP_one] at CT
       have HPV := hid hPV
       have HKV : Hid (KeptS B (.slice pu l.length cu) V2 V4) := HKJ.out.trans HOJ.out (KeptS.of_below hbV4)
       clear hG4 hw4 hPV hbV4 HPJ HKJ hgf
       go_wp2_with fail
       refine CT.out.mono ?_
       rintro e w5 ⟨hk5, ⟨y, a, hr, rfl⟩ | ⟨t, x5, v, hr, rfl, ⟨rfl, hokt⟩, hrd5⟩⟩
       · have HF := hid (HFIN.out (faultE y a) w5 (HKV.out.trans HOJ.out (KeptS.of_take hk5)) (.inl ⟨y, a, by rw [HRE.out]; unfold opEnd; rw [hr]; rfl, rfl⟩))
         clear CT hk5 hr
         unfold faultE at HF ⊢
         go_wp2_with fail
         exact ⟨rfl, HF.out⟩
       · have hP5 := HPV.out.move hk5 hrd5
         have hK5 : KeptS B (.slice pu l.length cu) V2 w5 := HKV.out.trans HOJ.out (KeptS.of_take hk5)
         have htl := take_len hr
         obtain ⟨st, hst⟩ := bya t.t
         have htv : t.v = .agg #[.int .u8 t.k, .string st, .int .i64 t.n, .int .i64 t.a] := by rw [← hst]; rfl
         obtain ⟨V5, hV5⟩ := gen (w5.alloc (.cells #[.int .u8 t.k, .string st, .int .i64 t.n, .int .i64 t.a] 160))
         have hbV5 : Bl w5 V5 := by rw [← hV5]; exact (Below.refl _ _).alloc (Nat.le_refl _) _
         have hgE : V5.heap[w5.heap.size]? = some (.cells #[.int .u8 t.k, .string st, .int .i64 t.n, .int .i64 t.a] 160 (0, 0)) := by rw [← hV5]; exact heap_alloc_new _ _
         have hlE : w5.heap.size < V5.heap.size := (gsi hgE).1
         have HP5 := hid (hP5.below hbV5)
         have HK5 : Hid (KeptS B (.slice pu l.length cu) V2 V5) := hK5.trans HOJ.out (KeptS.of_below hbV5)
         obtain ⟨N, hN⟩ := gen (max 1 (m - 1))
         have hN1 : (N = 1 ∧ m ≤ 2) ∨ (N = m - 1 ∧ 2 < m) := by rw [← hN]; omega
         obtain ⟨R3, hR3⟩ := gen (putN N lj ⟨k, [], 0⟩ t.a x5)
         have HR3 : Hid (operR en (partR en f) l h x = R3) := by show _ = _; rw [HRE.out]; unfold opEnd; rw [hr, hN]; exact hR3
         have HPN0 : Hid (putN (N - 0) lj ⟨k, [], 0⟩ t.a x5 = R3) := hR3
         have HXE : Hid (x5.ts.length < x.ts.length) := by show _ < _; have := HXJ.out; have := htl.1; omega
         have HEB : Hid (∀ V, KeptS B (.slice pj lj.length cj) V5 V → V.heap[w5.heap.size]? = some (.cells #[.int .u8 t.k, .string st, .int .i64 t.n, .int .i64 t.a] 160 (0, 0)) ∧ V.heap[w1.heap.size]? = some (.cells #[.int .u8 (k : Int), .string ⟨#[]⟩, .int .i64 0] 53 (0, 0))) := fun V hk => by
          have hBl := hP5.rd.lt
          refine ⟨(keptS_block hk hlE (by omega) (fun e => by have := (hP5.st.1.lt _ e).2; omega)).trans hgE, HSB.out V (HK5.out.trans HOJ.out hk)⟩
         rw [htv]
         clear CT hk5 hrd5 hP5 hK5 hr hst htv hbV5 hgE hlE hN hR3 hokt htl HPV HKV hV4 HRE HXJ
         have HN : Hid ((N = 1 ∧ m ≤ 2) ∨ (N = m - 1 ∧ 2 < m)) := hN1
         clear hN1
         have hmx : max (1 : Int) ((m : Int) - 1) = (N : Int) := by have := HN.out; omega
         have HMX := hid hmx
         have hNs : N ≤ 200000 := by have := HN.out; omega
         clear hmx
         go_wp2_with fail
         rw [HMX.out]
         go_loopg [1, 47] N (fun gf s1 s47 wx => ∃ (j : Nat) (uv : Value) (lv : List Stp), uv = s1 ∧ s47 = .int .i64 j ∧ j ≤ N ∧ N ≤ j + gf ∧ Hid (Pre base K B en wx uv lv x5) ∧ Hid (KeptS B (.slice pj lj.length cj) V5 wx) ∧ Hid (OwnTo V5 (.slice pj lj.length cj) uv) ∧ Hid (putN (N - j) lv ⟨k, [], 0⟩ t.a x5 = R3))
         case atStart => exact ⟨0, _, lj, rfl, rfl, by omega, by omega, HP5, Kept.refl _ _, OwnTo.refl _ _, HPN0⟩
         case round =>
          clear HP5 HPN0
          obtain ⟨j, uv, lv, rfl, rfl, hj1, hgf3, HPJ3, HKJ3, HOJ3, HPT⟩ := hrel
          obtain ⟨pv, cv, huv⟩ := HPJ3.out.st.slice
          subst huv
          by_cases hj : j < N
          · obtain ⟨g3, rfl⟩ : ∃ g3, gk = g3 + 1 := ⟨gk - 1, by omega⟩
            have hh := HEB.out wr HKJ3.out
            have HRS : Hid (wr.rangeAt w1.heap.size 0 [.int .u8 (k : Int), .string ⟨#[]⟩, .int .i64 0]) := fun i u hu => by rw [Nat.zero_add]; exact cell_of_row hh.2 (by simpa using hu)
            have e3 := cell_of_row (k := 3) (v := .int .i64 t.a) hh.1 rfl
            have cp := put_any _ lv ⟨k, [], 0⟩ t.a base wr HPJ3.out.st HPJ3.out.hb ⟨by show k < 256; omega, by show I64 0; unfold I64; omega, by simp⟩
            rw [show (⟨k, [], 0⟩ : Stp).v = .agg #[.int .u8 (k : Int), .string ⟨#[]⟩, .int .i64 0] from rfl] at cp
            have CP := hid cp
            have HPT2 : Hid (andR (putR lv ⟨k, [], 0⟩ t.a x5) (fun l s => putN (N - (j + 1)) l ⟨k, [], 0⟩ t.a s) = R3) := by
             have := HPT.out
             rw [show N - j = (N - (j + 1)) + 1 by omega] at this
             exact this
            have z1 : (j : Int) < (N : Int) := by omega
            clear HPT cp hh
            go_wp2_with (refine wpList_load_mid rfl 53 _ rfl w1.heap.size 0 rfl _ _ HRS.out underlying53 rfl sz_step ?_)
            refine CP.out.mono ?_
            rintro e w6 ⟨hk6, ⟨h64, rfl⟩ | ⟨h64, v, rfl, hst6, hot6⟩⟩
            · have K6 : KeptS B (.slice pj lj.length cj) V5 w6 := HKJ3.out.trans HOJ3.out (hk6.less fun b hb => ⟨hb.1, hb.2.2⟩)
              have HF := hid (HFIN.out (faultE 3 t.a) w6 (HK5.out.trans HOJ.out K6) (.inl ⟨3, t.a, by rw [HR3.out, ← HPT2.out]; unfold putR; rw [if_pos h64]; rfl, rfl⟩))
              clear CP hk6 h64 K6
              unfold faultE at HF ⊢
              go_wp2_with fail
              exact ⟨rfl, HF.out⟩
            · have HKN : Hid (KeptS B (.slice pj lj.length cj) V5 w6) := HKJ3.out.trans HOJ3.out (hk6.less fun b hb => ⟨hb.1, hb.2.2⟩)
              have HPN : Hid (Pre base K B en w6 v (lv ++ [⟨k, [], 0⟩]) x5) := HPJ3.out.put hk6 hst6
              have HON : Hid (OwnTo V5 (.slice pj lj.length cj) v) := HOJ3.out.trans hot6 HKJ3.out.size
              have HTN : Hid (putN (N - (j + 1)) (lv ++ [⟨k, [], 0⟩]) ⟨k, [], 0⟩ t.a x5 = R3) := by
               have := HPT2.out
               unfold putR at this
               rw [if_neg (by omega)] at this
               exact this
              clear CP hk6 h64 hst6 hot6 HPT2 HRS e3
              go_wp2_with fail
              go_roundg g3
              case measure => omega
              case rel => exact ⟨j + 1, v, _, rfl, by go_num, by omega, by omega, HPN, HKN, HON, HTN⟩
          · have z1 : ¬ (j : Int) < (N : Int) := by omega
            have HF := hid (HFIN.out (.returned (.slice pv lv.length cv)) wr (HK5.out.trans HOJ.out HKJ3.out) (.inr ⟨lv, x5, _, by
             have := HPT.out
             rw [show N - j = 0 by omega] at this
             rw [HR3.out, ← this]
             rfl, rfl, HPJ3.out.st, HOJ.out.trans HOJ3.out HK5.out.size, HPJ3.out.rd, HXE.out⟩))
            go_wp2_with fail
            go_ret
            exact HF.out
     | true =>
      have HMJ2 : Hid (moreR (partR en f) F m lj xj = R2) := by have := HMJ.out; unfold opMore at this; rw [if_pos HQ.out] at this; exact this
      obtain ⟨V3, hV3⟩ := gen (wr.alloc (.cells #[.func (.func 154) #[] #[]] 187))
      have hbV3 : Bl wr V3 := by rw [← hV3]; exact (Below.refl _ _).alloc (Nat.le_refl _) _
      have hG3 : GW wr := by obtain ⟨_, _, _, _, _, _, hG, _⟩ := HPJ.out.rd; exact hG
      have hw3 : WantsAt V3 (.slice (some ⟨wr.heap.size, 0, none⟩) 1 1) [(.func (.func 154) #[] #[], clsP)] := by rw [← hV3]; exact wants_one wr _ _ (want_plain 154 clsP enters154 isClose_any wr hG3)
      have hPV := HPJ.out.below hbV3
      obtain ⟨D, hD⟩ := gen (comesP clsP xj)
      have CD : Hid (Calls prog 167 #[.pointer (some ⟨B, 0, none⟩), .slice (some ⟨wr.heap.size, 0, none⟩) 1 1] V3 fun e w' => e = .returned (.bool D) ∧ Bl V3 w') := by have := comes_any _ _ K V3 B en xj hPV.rd hw3; rw [anyP_one, hD] at this; exact this
      have HD : Hid (comesP clsP xj = D) := hD
      have HBV3 := hid hbV3
      clear hD hG3 hw3 hPV hbV3 HMJ
      go_wp2_with fail
      refine CD.out.mono ?_
      rintro e wc ⟨rfl, hbc⟩
      have hbc' : Bl wr wc := HBV3.out.trans (hbc.mono HBV3.out.size)
      have HPC2 : Hid (Pre base K B en wc (.slice pj lj.length cj) lj xj) := HPJ.out.below hbc'
      have HKC : Hid (KeptS B (.slice pu l.length cu) V2 wc) := HKJ.out.trans HOJ.out (KeptS.of_below hbc')
      clear CD hbc hbc' HBV3 hV3
      cases D with
      | true =>
       have HRE : Hid (operR en (partR en f) l h x = opEnd en k m lj xj) := by
        show _ = _
        have := HMJ2.out
        obtain ⟨F', rfl⟩ : ∃ F', F = F' + 1 := ⟨F - 1, by omega⟩
        unfold moreR at this
        rw [if_pos HD.out] at this
        rw [HR2.out, ← this]
        rfl
       clear HMJ2 HPJ HKJ
       have HPJ := HPC2
       have HKJ := HKC
       clear HPC2 HKC
       as_aux_lemma =>
        obtain ⟨V4, hV4⟩ := gen (wc.alloc (.cells #[.func (.func 154) #[] #[]] 187))
        have hbV4 : Bl wc V4 := by rw [← hV4]; exact (Below.refl _ _).alloc (Nat.le_refl _) _
        have hG4 : GW wc := by obtain ⟨_, _, _, _, _, _, hG, _⟩ := HPJ.out.rd; exact hG
        have hw4 : WantsAt V4 (.slice (some ⟨wc.heap.size, 0, none⟩) 1 1) [(.func (.func 154) #[] #[], clsP)] := by rw [← hV4]; exact wants_one wc _ _ (want_plain 154 clsP enters154 isClose_any wc hG4)
        have hPV := HPJ.out.below hbV4
        have CT := hid (take_any _ _ K V4 B en xj hPV.rd hw4)
        rw [anyP_one] at CT
        have HPV := hid hPV
        have HKV : Hid (KeptS B (.slice pu l.length cu) V2 V4) := HKJ.out.trans HOJ.out (KeptS.of_below hbV4)
        clear hG4 hw4 hPV hbV4 HPJ HKJ hgf
        go_wp2_with fail
        refine CT.out.mono ?_
        rintro e w5 ⟨hk5, ⟨y, a, hr, rfl⟩ | ⟨t, x5, v, hr, rfl, ⟨rfl, hokt⟩, hrd5⟩⟩
        · have HF := hid (HFIN.out (faultE y a) w5 (HKV.out.trans HOJ.out (KeptS.of_take hk5)) (.inl ⟨y, a, by rw [HRE.out]; unfold opEnd; rw [hr]; rfl, rfl⟩))
          clear CT hk5 hr
          unfold faultE at HF ⊢
          go_wp2_with fail
          exact ⟨rfl, HF.out⟩
        · have hP5 := HPV.out.move hk5 hrd5
          have hK5 : KeptS B (.slice pu l.length cu) V2 w5 := HKV.out.trans HOJ.out (KeptS.of_take hk5)
          have htl := take_len hr
          obtain ⟨st, hst⟩ := bya t.t
          have htv : t.v = .agg #[.int .u8 t.k, .string st, .int .i64 t.n, .int .i64 t.a] := by rw [← hst]; rfl
          obtain ⟨V5, hV5⟩ := gen (w5.alloc (.cells #[.int .u8 t.k, .string st, .int .i64 t.n, .int .i64 t.a] 160))
          have hbV5 : Bl w5 V5 := by rw [← hV5]; exact (Below.refl _ _).alloc (Nat.le_refl _) _
          have hgE : V5.heap[w5.heap.size]? = some (.cells #[.int .u8 t.k, .string st, .int .i64 t.n, .int .i64 t.a] 160 (0, 0)) := by rw [← hV5]; exact heap_alloc_new _ _
          have hlE : w5.heap.size < V5.heap.size := (gsi hgE).1
          have HP5 := hid (hP5.below hbV5)
          have HK5 : Hid (KeptS B (.slice pu l.length cu) V2 V5) := hK5.trans HOJ.out (KeptS.of_below hbV5)
          obtain ⟨N, hN⟩ := gen (max 1 (m - 1))
          have hN1 : (N = 1 ∧ m ≤ 2) ∨ (N = m - 1 ∧ 2 < m) := by rw [← hN]; omega
          obtain ⟨R3, hR3⟩ := gen (putN N lj ⟨k, [], 0⟩ t.a x5)
          have HR3 : Hid (operR en (partR en f) l h x = R3) := by show _ = _; rw [HRE.out]; unfold opEnd; rw [hr, hN]; exact hR3
          have HPN0 : Hid (putN (N - 0) lj ⟨k, [], 0⟩ t.a x5 = R3) := hR3
          have HXE : Hid (x5.ts.length < x.ts.length) := by show _ < _; have := HXJ.out; have := htl.1; omega
          have HEB : Hid (∀ V, KeptS B (.slice pj lj.length cj) V5 V → V.heap[w5.heap.size]? = some (.cells #[.int .u8 t.k, .string st, .int .i64 t.n, .int .i64 t.a] 160 (0, 0)) ∧ V.heap[w1.heap.size]? = some (.cells #[.int .u8 (k : Int), .string ⟨#[]⟩, .int .i64 0] 53 (0, 0))) := fun V hk => by
           have hBl := hP5.rd.lt
           refine ⟨(keptS_block hk hlE (by omega) (fun e => by have := (hP5.st.1.lt _ e).2; omega)).trans hgE, HSB.out V (HK5.out.trans HOJ.out hk)⟩
          rw [htv]
          clear CT hk5 hrd5 hP5 hK5 hr hst htv hbV5 hgE hlE hN hR3 hokt htl HPV HKV hV4 HRE HXJ
          have HN : Hid ((N = 1 ∧ m ≤ 2) ∨ (N = m - 1 ∧ 2 < m)) := hN1
          clear hN1
          have hmx : max (1 : Int) ((m : Int) - 1) = (N : Int) := by have := HN.out; omega
          have HMX := hid hmx
          have hNs : N ≤ 200000 := by have := HN.out; omega
          clear hmx
          go_wp2_with fail
          rw [HMX.out]
          go_loopg [1, 47] N (fun gf s1 s47 wx => ∃ (j : Nat) (uv : Value) (lv : List Stp), uv = s1 ∧ s47 = .int .i64 j ∧ j ≤ N ∧ N ≤ j + gf ∧ Hid (Pre base K B en wx uv lv x5) ∧ Hid (KeptS B (.slice pj lj.length cj) V5 wx) ∧ Hid (OwnTo V5 (.slice pj lj.length cj) uv) ∧ Hid (putN (N - j) lv ⟨k, [], 0⟩ t.a x5 = R3))
          case atStart => exact ⟨0, _, lj, rfl, rfl, by omega, by omega, HP5, Kept.refl _ _, OwnTo.refl _ _, HPN0⟩
          case round =>
           clear HP5 HPN0
           obtain ⟨j, uv, lv, rfl, rfl, hj1, hgf3, HPJ3, HKJ3, HOJ3, HPT⟩ := hrel
           obtain ⟨pv, cv, huv⟩ := HPJ3.out.st.slice
           subst huv
           by_cases hj : j < N
           · obtain ⟨g3, rfl⟩ : ∃ g3, gk = g3 + 1 := ⟨gk - 1, by omega⟩
             have hh := HEB.out wr HKJ3.out
             have HRS : Hid (wr.rangeAt w1.heap.size 0 [.int .u8 (k : Int), .string ⟨#[]⟩, .int .i64 0]) := fun i u hu => by rw [Nat.zero_add]; exact cell_of_row hh.2 (by simpa using hu)
             have e3 := cell_of_row (k := 3) (v := .int .i64 t.a) hh.1 rfl
             have cp := put_any _ lv ⟨k, [], 0⟩ t.a base wr HPJ3.out.st HPJ3.out.hb ⟨by show k < 256; omega, by show I64 0; unfold I64; omega, by simp⟩
             rw [show (⟨k, [], 0⟩ : Stp).v = .agg #[.int .u8 (k : Int), .string ⟨#[]⟩, .int .i64 0] from rfl] at cp
             have CP := hid cp
             have HPT2 : Hid (andR (putR lv ⟨k, [], 0⟩ t.a x5) (fun l s => putN (N - (j + 1)) l ⟨k, [], 0⟩ t.a s) = R3) := by
              have := HPT.out
              rw [show N - j = (N - (j + 1)) + 1 by omega] at this
              exact this
             have z1 : (j : Int) < (N : Int) := by omega
             clear HPT cp hh
             go_wp2_with (refine wpList_load_mid rfl 53 _ rfl w1.heap.size 0 rfl _ _ HRS.out underlying53 rfl sz_step ?_)
             refine CP.out.mono ?_
             rintro e w6 ⟨hk6, ⟨h64, rfl⟩ | ⟨h64, v, rfl, hst6, hot6⟩⟩
             · have K6 : KeptS B (.slice pj lj.length cj) V5 w6 := HKJ3.out.trans HOJ3.out (hk6.less fun b hb => ⟨hb.1, hb.2.2⟩)
               have HF := hid (HFIN.out (faultE 3 t.a) w6 (HK5.out.trans HOJ.out K6) (.inl ⟨3, t.a, by rw [HR3.out, ← HPT2.out]; unfold putR; rw [if_pos h64]; rfl, rfl⟩))
               clear CP hk6 h64 K6
               unfold faultE at HF ⊢
               go_wp2_with fail
               exact ⟨rfl, HF.out⟩
             · have HKN : Hid (KeptS B (.slice pj lj.length cj) V5 w6) := HKJ3.out.trans HOJ3.out (hk6.less fun b hb => ⟨hb.1, hb.2.2⟩)
               have HPN : Hid (Pre base K B en w6 v (lv ++ [⟨k, [], 0⟩]) x5) := HPJ3.out.put hk6 hst6
               have HON : Hid (OwnTo V5 (.slice pj lj.length cj) v) := HOJ3.out.trans hot6 HKJ3.out.size
               have HTN : Hid (putN (N - (j + 1)) (lv ++ [⟨k, [], 0⟩]) ⟨k, [], 0⟩ t.a x5 = R3) := by
                have := HPT2.out
                unfold putR at this
                rw [if_neg (by omega)] at this
                exact this
               clear CP hk6 h64 hst6 hot6 HPT2 HRS e3
               go_wp2_with fail
               go_roundg g3
               case measure => omega
               case rel => exact ⟨j + 1, v, _, rfl, by go_num, by omega, by omega, HPN, HKN, HON, HTN⟩
           · have z1 : ¬ (j : Int) < (N : Int) := by omega
             have HF := hid (HFIN.out (.returned (.slice pv lv.length cv)) wr (HK5.out.trans HOJ.out HKJ3.out) (.inr ⟨lv, x5, _, by
              have := HPT.out
              rw [show N - j = 0 by omega] at this
              rw [HR3.out, ← this]
              rfl, rfl, HPJ3.out.st, HOJ.out.trans HOJ3.out HK5.out.size, HPJ3.out.rd, HXE.out⟩))
             go_wp2_with fail
             go_ret
             exact HF.out
      | false =>
       have CC := hid (HPC.out base K B wc _ lj xj HPC2.out (by have := HXJ.out; have := HLN.out; omega))
       have HMJ3 : Hid (andR (partR en f lj xj) (fun l s => moreR (partR en f) (F - 1) (m + 1) l s) = R2) := by
        show _ = _
        have := HMJ2.out
        obtain ⟨F', rfl⟩ : ∃ F', F = F' + 1 := ⟨F - 1, by omega⟩
        unfold moreR at this
        rw [if_neg (by rw [HD.out]; simp)] at this
        exact this
       clear HMJ2
       go_wp2_with fail
       refine CC.out.mono ?_
       rintro e w4 ⟨hk4, ⟨y, a, hr, rfl⟩ | ⟨l4, x4, v, hr, rfl, hst4, hot4, hrd4, hlt4⟩⟩
       · have HF := hid (HFIN.out (faultE y a) w4 (HKC.out.trans HOJ.out hk4) (.inl ⟨y, a, by rw [HR2.out, ← HMJ3.out, hr]; rfl, rfl⟩))
         clear CC hk4 hr
         unfold faultE at HF ⊢
         go_wp2_with fail
         exact ⟨rfl, HF.out⟩
       · have HPN : Hid (Pre base K B en w4 v l4 x4) := HPC2.out.next hk4.size hst4 hrd4
         have HKN : Hid (KeptS B (.slice pu l.length cu) V2 w4) := HKC.out.trans HOJ.out hk4
         have HON : Hid (OwnTo V2 (.slice pu l.length cu) v) := HOJ.out.trans hot4 HKC.out.size
         have HMN : Hid (opMore en f k (F - 1) (m + 1) l4 x4 = R2) := by
          show _ = _
          unfold opMore
          rw [if_pos HQ.out]
          have := HMJ3.out
          rw [hr] at this
          exact this
         have HXN : Hid (x4.ts.length < x.ts.length) := by show _ < _; have := HXJ.out; omega
         have hlt' := hlt4
         clear CC hk4 hr hst4 hot4 hrd4 hlt4 HMJ3
         go_wp2_with fail
         go_roundg g'
         case measure => omega
         case rel => exact ⟨v, l4, x4, m + 1, F - 1, rfl, by go_num, by omega, by omega, by omega, by omega, HPN, HKN, HON, HMN, HXN⟩
theorem part_all (en : Int) : ∀ f, PartC en f
 | 0 => by
  intro base K B w u l x hp hl
  exact absurd hl (Nat.not_lt_zero _)
 | f + 1 => part_step en f (oper_step en f (part_all en f))
def exprR (en : Int) (s : PS) : Res (List Stp) := partR en (s.ts.length + 1) [] s
theorem steps_none (w : World) (base : Nat) : StS base w (.slice none 0 0) [] := ⟨World.ownsRow_nil _ _ _ _, by simp, by simp⟩
theorem pre_none {K : Nat → Prop} {B : Nat} {en : Int} {w : World} {x : PS} (rd : Rdr K w B en x) : Pre w.heap.size K B en w (.slice none 0 0) [] x :=
 ⟨rd, steps_none _ _, Nat.le_refl _, rd.lt, by obtain ⟨_, _, _, _, _, h, _⟩ := rd; exact h⟩
def OutE (K : Nat → Prop) (B : Nat) (en : Int) (w : World) (x0 : PS) (r : Res (List Stp)) (e : Ending) (w' : World) : Prop :=
 Kept (fun b => b < w.heap.size ∧ b ≠ B) w w' ∧ ((∃ y a, r = .inl (y, a) ∧ e = faultE y a) ∨ ∃ l x v, r = .inr (l, x) ∧ e = .returned v ∧ StS w.heap.size w' v l ∧ Rdr K w' B en x ∧ x.ts.length < x0.ts.length)
theorem outE_of {K : Nat → Prop} {B : Nat} {en : Int} {w : World} {x0 : PS} {r : Res (List Stp)} {e : Ending} {w' : World} (h : OutS w.heap.size K B en w (.slice none 0 0) x0 r e w') : OutE K B en w x0 r e w' := by
 obtain ⟨hk, hr⟩ := h
 refine ⟨hk.less fun b hb => ⟨hb.1, hb.2, by simp [Value.ownBlock]⟩, ?_⟩
 rcases hr with hr | ⟨l, x, v, h1, h2, h3, _, h5, h6⟩
 · exact .inl hr
 · exact .inr ⟨l, x, v, h1, h2, h3, h5, h6⟩
theorem expr_any (K : Nat → Prop) (B : Nat) (en : Int) (w : World) (x : PS) (rd : Rdr K w B en x) : Calls prog 187 #[.pointer (some ⟨B, 0, none⟩)] w fun e w' => OutE K B en w x (exprR en x) e w' := by
 have C : Hid (Calls prog 209 #[.pointer (some ⟨B, 0, none⟩), .slice none 0 0] w fun e w' => OutE K B en w x (exprR en x) e w') :=
  (part_all en (x.ts.length + 1) _ K B w _ [] x (pre_none rd) (Nat.lt_succ_self _)).mono fun e w' h => outE_of h
 clear rd
 go_enter func187, ntmps187
 go_wp2_with fail
 refine C.out.mono ?_
 intro e w1 h
 have HF := hid h
 obtain ⟨hk, ⟨y, a, hr, rfl⟩ | ⟨l, x1, v, hr, rfl, _⟩⟩ := h
 · clear C hk hr
   unfold faultE at HF ⊢
   go_wp2_with fail
   exact ⟨rfl, HF.out⟩
 · clear C hk hr
   go_wp2_with fail
   go_ret
   exact HF.out
theorem oper_any (K : Nat → Prop) (B : Nat) (en : Int) (w : World) (x : PS) (h : Tok) (rd : Rdr K w B en x) (hok : okT h) (ho : oprP h = true) : Calls prog 212 #[.pointer (some ⟨B, 0, none⟩), .slice none 0 0, h.v] w fun e w' => OutE K B en w x (operR en (partR en (x.ts.length + 1)) [] h x) e w' :=
 (oper_step en _ (part_all en (x.ts.length + 1)) _ K B w _ [] x h (pre_none rd) hok ho (Nat.lt_succ_self _)).mono fun e w' h => outE_of h
end Go.Proofs.YtfifphfihdhlaaaGreatDoor

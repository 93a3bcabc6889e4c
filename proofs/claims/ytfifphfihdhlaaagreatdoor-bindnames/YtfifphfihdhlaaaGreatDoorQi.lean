/- An expression's part, if its operations are read. -/
import Derived.Test.YtfifphfihdhlaaaGreatDoorQbTk
import Derived.Test.YtfifphfihdhlaaaGreatDoorQh
set_option maxRecDepth 100000
set_option maxHeartbeats 32000000
namespace Go.Proofs.YtfifphfihdhlaaaGreatDoor
open Tryz
open Go.Shelf Go.RowKit Go.Lib Go.Sort
set_option linter.unusedVariables false
set_option linter.unusedSimpArgs false
attribute [local go_sem ↓] Go.wp_at_zero Go.wp_at_succ
def putR (l : List Stp) (x : Stp) (a : Int) (s : PS) : Res (List Stp) := if l.length = 64 then .inl (3, a) else .inr (l ++ [x], s)
def putN : Nat → List Stp → Stp → Int → PS → Res (List Stp)
 | 0, l, x, a, s => .inr (l, s)
 | n + 1, l, x, a, s => andR (putR l x a s) fun l s => putN n l x a s
def timesR (part : List Stp → PS → Res (List Stp)) : Nat → List Stp → PS → Res (List Stp)
 | 0, l, s => .inr (l, s)
 | n + 1, l, s => andR (part l s) fun l s => timesR part n l s
def moreR (part : List Stp → PS → Res (List Stp)) : Nat → Nat → List Stp → PS → Res (List Stp × Nat)
 | 0, k, l, s => .inr ((l, k), s)
 | f + 1, k, l, s => if comesP clsP s then .inr ((l, k), s) else andR (part l s) fun l s => moreR part f (k + 1) l s
def operR (en : Int) (part : List Stp → PS → Res (List Stp)) (l : List Stp) (h : Tok) (s : PS) : Res (List Stp) :=
 andR (timesR part (takesN (stepOfP h.t)) l s) fun l s =>
  andR (if stepOfP h.t = 20 ∨ stepOfP h.t = 21 then moreR part (s.ts.length + 1) (takesN (stepOfP h.t)) l s else .inr ((l, takesN (stepOfP h.t)), s)) fun x s =>
   andR (takeP en clsP s) fun e s => putN (max 1 (x.2 - 1)) x.1 ⟨stepOfP h.t, [], 0⟩ e.a s
def partR (en : Int) : Nat → List Stp → PS → Res (List Stp)
 | 0, l, s => .inl (0, 0)
 | f + 1, l, s => andR (takeP en (fun t => lefP t || opnP t) s) fun t s =>
  if t.k = 1 then andR (takeP en oprP s) fun h s => operR en (partR en f) l h s
  else putR l (leafP t) t.a s
theorem take_len {en : Int} {P : Tok → Bool} {x x' : PS} {t : Tok} (h : takeP en P x = .inr (t, x')) : x'.ts.length + 1 = x.ts.length ∧ P t = true := by
 unfold takeP at h
 split at h
 · cases h
 · split at h
   · cases h
   · rename_i t' ts he
     split at h
     · rename_i hp
       have h2 := Sum.inr.inj h
       obtain ⟨h3, h4⟩ := Prod.mk.inj h2
       subst h3
       subst h4
       rw [he]
       exact ⟨rfl, hp⟩
     · cases h
structure Pre (base : Nat) (K : Nat → Prop) (B : Nat) (en : Int) (w : World) (u : Value) (l : List Stp) (x : PS) : Prop where
 rd : Rdr K w B en x
 st : StS base w u l
 hb : base ≤ w.heap.size
 hB : B < base
 hK : ∀ b, K b → b < base
theorem Pre.below {base : Nat} {K : Nat → Prop} {B : Nat} {en : Int} {w w' : World} {u : Value} {l : List Stp} {x : PS} (h : Pre base K B en w u l x) (hb : Bl w w') : Pre base K B en w' u l x :=
 ⟨h.rd.below hb, h.st.held (fun g hg => hb.block g (h.st.1.lt g hg).2), Nat.le_trans h.hb hb.size, h.hB, h.hK⟩
theorem Pre.move {base : Nat} {K : Nat → Prop} {B : Nat} {en : Int} {w w' : World} {u : Value} {l : List Stp} {x x' : PS} (h : Pre base K B en w u l x) (hk : Kept (fun b => b < w.heap.size ∧ b ≠ B) w w') (hr : Rdr K w' B en x') : Pre base K B en w' u l x' :=
 ⟨hr, h.st.held (fun g hg => hk.block g ⟨(h.st.1.lt g hg).2, by have := (h.st.1.lt g hg).1; have := h.hB; omega⟩), Nat.le_trans h.hb hk.size, h.hB, h.hK⟩
theorem OwnTo.mono {w w' : World} {u v : Value} (h : OwnTo w' u v) (hs : w.heap.size ≤ w'.heap.size) : OwnTo w u v := (OwnTo.refl w u).trans h hs
def OutS (base : Nat) (K : Nat → Prop) (B : Nat) (en : Int) (w : World) (u : Value) (x0 : PS) (r : Res (List Stp)) (e : Ending) (w' : World) : Prop :=
 KeptS B u w w' ∧ ((∃ y a, r = .inl (y, a) ∧ e = faultE y a) ∨ ∃ l x v, r = .inr (l, x) ∧ e = .returned v ∧ StS base w' v l ∧ OwnTo w u v ∧ Rdr K w' B en x ∧ x.ts.length < x0.ts.length)
def PartC (en : Int) (f : Nat) : Prop := ∀ base K B w u l x, Pre base K B en w u l x → x.ts.length < f → Calls prog 209 #[.pointer (some ⟨B, 0, none⟩), u] w fun e w' => OutS base K B en w u x (partR en f l x) e w'
def OperC (en : Int) (f : Nat) : Prop := ∀ base K B w u l x (h : Tok), Pre base K B en w u l x → okT h → oprP h = true → x.ts.length < f → Calls prog 212 #[.pointer (some ⟨B, 0, none⟩), u, h.v] w fun e w' => OutS base K B en w u x (operR en (partR en f) l h x) e w'
theorem enters192 : ∀ args w, (callFunc 192 args).run prog w = .ok (.enter 192 args) w := enters_of func192 (by kernel_rfl) rfl
theorem enters210 : ∀ args w, (callFunc 210 args).run prog w = .ok (.enter 210 args) w := enters_of func210 (by kernel_rfl) rfl
theorem wants_two (W : World) (f g : Value) (P Q : Tok → Bool) (hf : WantF W f P) (hg : WantF W g Q) : WantsAt (W.alloc (.cells #[f, g] 187)) (.slice (some ⟨W.heap.size, 0, none⟩) 2 2) [(f, P), (g, Q)] := by
 have hb : Bl W (W.alloc (.cells #[f, g] 187)) := (Below.refl _ _).alloc (Nat.le_refl _) _
 refine ⟨W.heap.size, 0, 2, rfl, by simp, by simp, fun i hi => ?_⟩
 have hi2 : i < 2 := by simpa using hi
 match i, hi2 with
 | 0, _ => exact ⟨cell_of_row (heap_alloc_new W _) rfl, hf.later hb⟩
 | 1, _ => exact ⟨cell_of_row (heap_alloc_new W _) rfl, hg.later hb⟩
theorem anyP_two (f g : Value) (P Q : Tok → Bool) : anyP [(f, P), (g, Q)] = fun t => P t || Q t := by funext t; simp [anyP]
theorem leafP_ok {t : Tok} (h : okT t) : okP (leafP t) := by
 have h21 := stepOfP_le t.t
 have i0 : I64 0 := ⟨by omega, by omega⟩
 unfold leafP
 repeat' split
 · exact ⟨by show 4 < 256; omega, h.2.1, by simp⟩
 · exact ⟨by show 5 < 256; omega, i0, h.2.2.2⟩
 · exact ⟨by show 6 < 256; omega, i0, h.2.2.2⟩
 · exact ⟨by show stepOfP t.t < 256; omega, i0, by simp⟩
 · exact ⟨by show 0 < 256; omega, i0, by simp⟩
theorem part_step (en : Int) (f : Nat) (hop : OperC en f) : PartC en (f + 1) := by
 intro base K B w u l x hp hlen
 have HOP := hid hop
 have HP := hid hp
 have HLN : Hid (x.ts.length < f + 1) := hlen
 obtain ⟨W0, hW0⟩ := gen (w.alloc (.cells #[.func (.func 192) #[] #[], .func (.func 150) #[] #[]] 187))
 have hb0 : Bl w W0 := by rw [← hW0]; exact (Below.refl _ _).alloc (Nat.le_refl _) _
 have hG : GW w := by obtain ⟨_, _, _, _, _, _, hG, _⟩ := hp.rd; exact hG
 have hw0 : WantsAt W0 (.slice (some ⟨w.heap.size, 0, none⟩) 2 2) [(.func (.func 192) #[] #[], lefP), (.func (.func 150) #[] #[], opnP)] := by rw [← hW0]; exact wants_two w _ _ _ _ (want_plain 192 lefP enters192 isLeaf_any w hG) (want_plain 150 opnP enters150 isOpen_any w hG)
 have C1 := hid (take_any _ _ K W0 B en x (hp.rd.below hb0) hw0)
 rw [anyP_two] at C1
 have HB0 := hid hb0
 have HR : Hid (partR en (f + 1) l x = andR (takeP en (fun t => lefP t || opnP t) x) fun t s => if t.k = 1 then andR (takeP en oprP s) fun h s => operR en (partR en f) l h s else putR l (leafP t) t.a s) := rfl
 obtain ⟨pu, cu, hu⟩ := hp.st.slice
 subst hu
 clear hop hp hlen hb0 hG hw0
 go_enter func209, ntmps209
 go_wp2_with fail
 refine C1.out.mono ?_
 rintro e w1 ⟨hk1, ⟨y, a, hr, rfl⟩ | ⟨t, x1, v, hr, rfl, ⟨rfl, hok⟩, hrd1⟩⟩
 · have HF : Hid (OutS base K B en w (.slice pu l.length cu) x (partR en (f + 1) l x) (faultE y a) w1) := ⟨(KeptS.of_below HB0.out).trans (OwnTo.refl _ _) (KeptS.of_take hk1), .inl ⟨y, a, by rw [HR.out, hr]; rfl, rfl⟩⟩
   clear hk1 hr C1
   unfold faultE at HF ⊢
   go_wp2_with fail
   exact ⟨rfl, HF.out⟩
 · have hP1 : Pre base K B en w1 (.slice pu l.length cu) l x1 := (HP.out.below HB0.out).move hk1 hrd1
   have HK1 : Hid (KeptS B (.slice pu l.length cu) w w1) := (KeptS.of_below HB0.out).trans (OwnTo.refl _ _) (KeptS.of_take hk1)
   have HT := hid (take_len hr)
   have HR1 : Hid (partR en (f + 1) l x = if t.k = 1 then andR (takeP en oprP x1) fun h s => operR en (partR en f) l h s else putR l (leafP t) t.a x1) := by show _ = _; rw [HR.out, hr]; rfl
   obtain ⟨s, hs⟩ := bya t.t
   have htv : t.v = .agg #[.int .u8 t.k, .string s, .int .i64 t.n, .int .i64 t.a] := by rw [← hs]; rfl
   obtain ⟨V1, hV1⟩ := gen (w1.alloc (.cells #[.int .u8 t.k, .string s, .int .i64 t.n, .int .i64 t.a] 160))
   have hbV1 : Bl w1 V1 := by rw [← hV1]; exact (Below.refl _ _).alloc (Nat.le_refl _) _
   have hgT : V1.heap[w1.heap.size]? = some (.cells #[.int .u8 t.k, .string s, .int .i64 t.n, .int .i64 t.a] 160 (0, 0)) := by rw [← hV1]; exact heap_alloc_new _ _
   have hlT : w1.heap.size < V1.heap.size := (gsi hgT).1
   have hPV := hP1.below hbV1
   have hGV : GW V1 := by obtain ⟨_, _, _, _, _, _, hG, _⟩ := hPV.rd; exact hG
   obtain ⟨Q, hQ⟩ := gen (opnP t)
   have C2 : Hid (Calls prog 150 #[.agg #[.int .u8 t.k, .string s, .int .i64 t.n, .int .i64 t.a]] V1 fun e w' => e = .returned (.bool Q) ∧ Bl V1 w') := by have := isOpen_any t V1 hok hGV; rw [hQ, htv] at this; exact this
   have HRT : Hid (∀ V, Bl V1 V → V.rangeAt w1.heap.size 0 [.int .u8 t.k, .string s, .int .i64 t.n, .int .i64 t.a] ∧ V.cell? ⟨w1.heap.size, 3, none⟩ = some (.int .i64 t.a)) := fun V hb => ⟨rgz ((hb.block _ hlT).trans hgT), (hb.cell (p := ⟨w1.heap.size, 3, none⟩) hlT).trans (cell_of_row (k := 3) hgT rfl)⟩
   have HR0 := hid (HRT.out V1 (Below.refl _ _)).1
   have HQ : Hid (opnP t = Q) := hQ
   have HPV := hid hPV
   have HOK := hid hok
   have HOWN : Hid (∀ g, (Value.slice pu l.length cu).ownBlock = some g → g < w1.heap.size) := fun g hg => (hP1.st.1.lt g hg).2
   have HTV : Hid (t.v = .agg #[.int .u8 t.k, .string s, .int .i64 t.n, .int .i64 t.a]) := htv
   have HK2 : Hid (KeptS B (.slice pu l.length cu) w V1) := HK1.out.trans (OwnTo.refl _ _) (KeptS.of_below hbV1)
   rw [htv]
   clear C1 hk1 hrd1 hP1 hr hbV1 hgT hlT hPV hGV hQ hok hs htv HR HK1 hW0 HP
   go_wp2_with (refine wpList_load_mid rfl 160 _ rfl w1.heap.size 0 rfl _ _ HR0.out underlying160 rfl sz_tok ?_)
   refine C2.out.mono ?_
   rintro e w2 ⟨rfl, hb2⟩
   clear C2 HR0
   cases Q with
   | true =>
    have hk1 : t.k = 1 := of_decide_eq_true HQ.out
    have HR2 : Hid (partR en (f + 1) l x = andR (takeP en oprP x1) fun h s => operR en (partR en f) l h s) := by show _ = _; rw [HR1.out, if_pos hk1]
    have hP2 := HPV.out.below hb2
    obtain ⟨V2, hV2⟩ := gen (w2.alloc (.cells #[.func (.func 210) #[] #[]] 187))
    have hbV2 : Bl w2 V2 := by rw [← hV2]; exact (Below.refl _ _).alloc (Nat.le_refl _) _
    have hG2 : GW w2 := by obtain ⟨_, _, _, _, _, _, hG, _⟩ := hP2.rd; exact hG
    have hw2 : WantsAt V2 (.slice (some ⟨w2.heap.size, 0, none⟩) 1 1) [(.func (.func 210) #[] #[], oprP)] := by rw [← hV2]; exact wants_one w2 _ _ (want_plain 210 oprP enters210 isOpr_any w2 hG2)
    have hP3 := hP2.below hbV2
    have C3 := hid (take_any _ _ K V2 B en x1 hP3.rd hw2)
    rw [anyP_one] at C3
    have HP3 := hid hP3
    have HK3 : Hid (KeptS B (.slice pu l.length cu) w V2) := (HK2.out.trans (OwnTo.refl _ _) (KeptS.of_below hb2)).trans (OwnTo.refl _ _) (KeptS.of_below hbV2)
    clear hk1 hP2 hbV2 hG2 hw2 hP3 hb2 HR1 HRT HK2 HPV
    go_wp2_with fail
    refine C3.out.mono ?_
    rintro e w3 ⟨hk3, ⟨y, a, hr, rfl⟩ | ⟨h, x2, v, hr, rfl, ⟨rfl, hokh⟩, hrd3⟩⟩
    · have HF : Hid (OutS base K B en w (.slice pu l.length cu) x (partR en (f + 1) l x) (faultE y a) w3) := ⟨HK3.out.trans (OwnTo.refl _ _) (KeptS.of_take hk3), .inl ⟨y, a, by rw [HR2.out, hr]; rfl, rfl⟩⟩
      clear hk3 hr C3
      unfold faultE at HF ⊢
      go_wp2_with fail
      exact ⟨rfl, HF.out⟩
    · have hP4 := HP3.out.move hk3 hrd3
      have ht2 := take_len hr
      have C4 := hid (HOP.out base K B w3 _ l x2 h hP4 hokh ht2.2 (by have := HT.out.1; have := HLN.out; omega))
      have HR3 : Hid (partR en (f + 1) l x = operR en (partR en f) l h x2) := by show _ = _; rw [HR2.out, hr]; rfl
      have HK4 : Hid (KeptS B (.slice pu l.length cu) w w3) := HK3.out.trans (OwnTo.refl _ _) (KeptS.of_take hk3)
      have HLX : Hid (x2.ts.length < x.ts.length) := by show _ < _; have := HT.out.1; have := ht2.1; omega
      obtain ⟨sh, hsh⟩ := gen h.v
      rw [hsh] at C4 ⊢
      clear hk3 hrd3 hP4 hr ht2 C3 HR2 hokh hsh
      go_wp2_with fail
      refine C4.out.mono ?_
      rintro e w4 ⟨hk4, ⟨y, a, hr, rfl⟩ | ⟨l4, x4, v, hr, rfl, hst4, hot4, hrd4, hlt4⟩⟩
      · have HF : Hid (OutS base K B en w (.slice pu l.length cu) x (partR en (f + 1) l x) (faultE y a) w4) := ⟨HK4.out.trans (OwnTo.refl _ _) hk4, .inl ⟨y, a, by rw [HR3.out, hr], rfl⟩⟩
        clear hk4 hr C4
        unfold faultE at HF ⊢
        go_wp2_with fail
        exact ⟨rfl, HF.out⟩
      · have HF : Hid (OutS base K B en w (.slice pu l.length cu) x (partR en (f + 1) l x) (.returned v) w4) := ⟨HK4.out.trans (OwnTo.refl _ _) hk4, .inr ⟨l4, x4, v, by rw [HR3.out, hr], rfl, hst4, hot4.mono HK4.out.size, hrd4, by have := HLX.out; omega⟩⟩
        clear hk4 hr C4 hst4 hot4 hrd4 hlt4
        go_wp2_with fail
        go_ret
        exact HF.out
   | false =>
    have hk1 : t.k ≠ 1 := of_decide_eq_false HQ.out
    have HR2 : Hid (partR en (f + 1) l x = putR l (leafP t) t.a x1) := by show _ = _; rw [HR1.out, if_neg hk1]
    have hP2 := HPV.out.below hb2
    obtain ⟨w3, hw3⟩ := gen w2.drew
    have hb3 : Bl w2 w3 := by rw [← hw3]; exact (Below.refl _ _).drew
    have hP3 := hP2.below hb3
    have hb3' : Bl V1 w3 := hb2.trans (hb3.mono hb2.size)
    have hG3 : GW w3 := by obtain ⟨_, _, _, _, _, _, hG, _⟩ := hP3.rd; exact hG
    have C3 : Hid (Calls prog 214 #[.agg #[.int .u8 t.k, .string s, .int .i64 t.n, .int .i64 t.a]] w3 fun e w' => e = .returned (leafP t).v ∧ Bl w3 w') := by have := leaf_any t w3 HOK.out hG3; rw [HTV.out] at this; exact this
    have HS : Hid (∀ V, Bl w3 V → V.rangeAt w1.heap.size 0 [.int .u8 t.k, .string s, .int .i64 t.n, .int .i64 t.a] ∧ V.cell? ⟨w1.heap.size, 3, none⟩ = some (.int .i64 t.a)) := fun V hb => HRT.out V (hb3'.trans (hb.mono hb3'.size))
    have HS3 := hid (HS.out w3 (Below.refl _ _))
    have HP3 := hid hP3
    have HK3 : Hid (KeptS B (.slice pu l.length cu) w w3) := (HK2.out.trans (OwnTo.refl _ _) (KeptS.of_below hb2)).trans (OwnTo.refl _ _) (KeptS.of_below hb3)
    have HLX : Hid (x1.ts.length < x.ts.length) := by show _ < _; have := HT.out.1; omega
    clear hk1 hP2 hb3 hP3 hb3' hG3 hb2 HR1 HRT HK2 HPV
    go_wp2_with fail
    refine wp_region_held_drew (S := fun V => V.rangeAt w1.heap.size 0 [.int .u8 t.k, .string s, .int .i64 t.n, .int .i64 t.a] ∧ V.cell? ⟨w1.heap.size, 3, none⟩ = some (.int .i64 t.a)) (by kernel_rfl) (by rw [hw3]; exact HS3.out) (fun hHeld => ?_)
    refine tk0 0 (.slice pu l.length cu) rfl hHeld ?_
    refine tk 1 (.agg #[.int .u8 t.k, .string s, .int .i64 t.n, .int .i64 t.a]) rfl (yieldsIf_load_mid (by rfl) 160 (.tmp 5) rfl w1.heap.size 0 rfl [.int .u8 t.k, .string s, .int .i64 t.n, .int .i64 t.a] _ (fun W hW => hW.1) underlying160 rfl sz_tok) hHeld ?_
    refine tk0 3 (.pointer (some ⟨w1.heap.size, 3, none⟩)) rfl hHeld ?_
    refine tk 4 (.int .i64 t.a) rfl (.inl ⟨by rfl, fun W hW => by obtain ⟨_, h3⟩ := hW; go_simp⟩) hHeld ?_
    simp only [Act.put, List.getElem_toArray, List.getElem_cons_zero, List.getElem_cons_succ, List.setIfInBounds_toArray, List.set_cons_zero, List.set_cons_succ]
    rw [hw3] at hHeld ⊢
    clear hw3
    refine wpAnyH_ready (rs := [2]) (by kernel_rfl) (by simp) ?_
    refine AllReadyH.cons rfl (fun K' hK => ?_) AllReadyH.nil
    rw [if_pos (by rfl)]
    go_simp
    go_at_call 214
    refine C3.out.mono ?_
    rintro e w4 ⟨rfl, hb4⟩
    have hP4 := HP3.out.below hb4
    have hS4 := HS.out w4 hb4
    have C4 := hid (put_any _ l (leafP t) t.a base w4 hP4.st hP4.hb (leafP_ok HOK.out))
    have HK4 : Hid (KeptS B (.slice pu l.length cu) w w4) := HK3.out.trans (OwnTo.refl _ _) (KeptS.of_below hb4)
    have HP4 := hid hP4
    obtain ⟨lv, hlv⟩ := gen ((leafP t).v)
    rw [hlv] at C4 ⊢
    refine hK.out _ _ hS4 (fun hHeld => ?_)
    clear hK K' hS4 hP4 hb4 hlv C3
    refine wpAnyH_ready (rs := [5]) (by kernel_rfl) (by simp) ?_
    refine AllReadyH.cons rfl (fun K' hK => ?_) AllReadyH.nil
    rw [if_pos (by rfl)]
    go_simp
    go_at_call 225
    refine C4.out.mono ?_
    rintro e w5 ⟨hk5, ⟨h64, rfl⟩ | ⟨h64, v, rfl, hst5, hot5⟩⟩
    · have HF : Hid (OutS base K B en w (.slice pu l.length cu) x (partR en (f + 1) l x) (faultE 3 t.a) w5) := ⟨HK4.out.trans (OwnTo.refl _ _) (hk5.less fun b hb => ⟨hb.1, hb.2.2⟩), .inl ⟨3, t.a, by rw [HR2.out]; unfold putR; rw [if_pos h64], rfl⟩⟩
      clear hk5 h64 C4
      unfold faultE at HF ⊢
      go_simp
      exact ⟨rfl, HF.out⟩
    · have hBl := HP4.out.rd.lt
      have hrd5 : Rdr K w5 B en x1 := HP4.out.rd.kept (hk5.less fun b hb => by
       have hbb : b < base := by
        rcases hb with h | h | h
        · obtain ⟨_, _, _, _, _, _, _, h10, _⟩ := HP4.out.rd
          have := HP4.out.hB
          omega
        · exact HP4.out.hK b h
        · rw [h]; exact HP4.out.hB
       exact ⟨by have := HP4.out.hb; omega, fun e => by have := (HP4.out.st.1.lt b e).1; omega⟩)
      have HF : Hid (OutS base K B en w (.slice pu l.length cu) x (partR en (f + 1) l x) (.returned v) w5) := ⟨HK4.out.trans (OwnTo.refl _ _) (hk5.less fun b hb => ⟨hb.1, hb.2.2⟩), .inr ⟨_, x1, v, by rw [HR2.out]; unfold putR; rw [if_neg (by omega)], rfl, hst5, hot5.mono HK4.out.size, hrd5, HLX.out⟩⟩
      have hS5 : w5.rangeAt w1.heap.size 0 [.int .u8 t.k, .string s, .int .i64 t.n, .int .i64 t.a] ∧ w5.cell? ⟨w1.heap.size, 3, none⟩ = some (.int .i64 t.a) := by
       have hs := hHeld
       have hkT : w5.heap[w1.heap.size]? = w4.heap[w1.heap.size]? := hk5.block _ ⟨by
        have h9 := World.block_lt_of_cell? w4 _ hs.2
        exact h9, fun e => by have := (HOWN.out _ e); omega⟩
       exact ⟨fun j u hu => (World.cell?_of_block (a := ⟨w1.heap.size, _, none⟩) hkT).trans (hs.1 j u hu), (World.cell?_of_block (a := ⟨w1.heap.size, 3, none⟩) hkT).trans hs.2⟩
      refine hK.out _ _ hS5 (fun hHeld => ?_)
      clear hK K' hk5 h64 hst5 hot5 hrd5 hS5 C4 hBl
      refine wpAnyH_ready (rs := [6]) (by kernel_rfl) (by simp) ?_
      refine AllReadyH.cons rfl (fun K' hK => ?_) AllReadyH.nil
      rw [if_pos (by rfl)]
      go_simp
      refine hK.out _ _ hHeld (fun hHeld => ?_)
      clear hK K'
      refine wpAnyH_done (by kernel_rfl) ?_ _
      clear hHeld
      go_wp2_with fail
      go_ret
      exact HF.out
end Go.Proofs.YtfifphfihdhlaaaGreatDoor

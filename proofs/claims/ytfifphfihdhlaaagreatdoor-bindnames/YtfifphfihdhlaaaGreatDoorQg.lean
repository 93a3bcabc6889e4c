/- The reader: a token is taken. -/
import Derived.Test.YtfifphfihdhlaaaGreatDoorQf
set_option maxRecDepth 100000
set_option maxHeartbeats 32000000
namespace Go.Proofs.YtfifphfihdhlaaaGreatDoor
open Tryz
open Go.Shelf Go.RowKit Go.Lib Go.Sort
set_option linter.unusedVariables false
set_option linter.unusedSimpArgs false
attribute [local go_sem ↓] Go.wp_at_zero Go.wp_at_succ
def takeP (en : Int) (P : Tok → Bool) (x : PS) : Res Tok :=
 if comesP opnP x && decide (x.op = 8) then .inl (10, placeP en x)
 else match x.ts with
  | [] => .inl (13, en)
  | t :: ts => if P t then .inr (t, ⟨ts, if t.k = 1 then x.op + 1 else if t.k = 2 then x.op - 1 else x.op⟩) else .inl (13, t.a)
def faultE (y a : Int) : Ending := .panicked [{ v := .iface 136 (.agg #[.int .i64 y, .int .i64 a]), recovered := false }]
def Out {α : Type} (V : World → World → Value → α → Prop) (K : Nat → Prop) (B : Nat) (en : Int) (w : World) (r : Res α) (e : Ending) (w' : World) : Prop :=
 Kept (fun b => b < w.heap.size ∧ b ≠ B) w w' ∧ ((∃ y a, r = .inl (y, a) ∧ e = faultE y a) ∨ ∃ a x v, r = .inr (a, x) ∧ e = .returned v ∧ V w w' v a ∧ Rdr K w' B en x)
def VTok : World → World → Value → Tok → Prop := fun _ _ v t => v = t.v ∧ okT t
theorem tok_tail {KK : Nat → Prop} {W : World} {b o m c : Nat} {y : Tok} {ys : List Tok} (h : ListIs rTok 4 40 KK W (.slice (some ⟨b, o, none⟩) m c) (y :: ys)) : ListIs rTok 4 40 KK W (.slice (some ⟨b, o + 4, none⟩) ys.length (c - 1)) ys ∧ (c = 1 → ys.length = 0 ∧ ListIs rTok 4 40 KK W (.slice (some ⟨b, o, none⟩) 0 0) ys) := by
 obtain ⟨q, c', e, h1, hp⟩ := h
 cases e
 simp only [List.length_cons] at h1 hp
 refine ⟨⟨_, _, rfl, ⟨by omega, by omega⟩, fun h0 => ?_⟩, fun hc => ⟨by omega, ⟨_, _, by rw [show ys.length = 0 by omega], ⟨by omega, by omega⟩, fun h0 => by omega⟩⟩⟩
 obtain ⟨b', o', e, hKb, hc⟩ := hp (by omega)
 cases e
 refine ⟨b, o + 4, rfl, hKb, fun j hj => ?_⟩
 obtain ⟨cs, k1, k2, k3⟩ := hc (j + 1) (by omega)
 exact ⟨cs, k1, fun i u hu => by have := k2 i u hu; rwa [show o + (j + 1) * 4 + i = o + 4 + j * 4 + i by omega] at this, by simpa using k3⟩
theorem enters150 : ∀ args w, (callFunc 150 args).run prog w = .ok (.enter 150 args) w := enters_of func150 (by kernel_rfl) rfl
theorem want_plain (F : Nat) (P : Tok → Bool) (eg : ∀ args w, (callFunc F args).run prog w = .ok (.enter F args) w) (hc : ∀ (x : Tok) (w : World), okT x → GW w → Calls prog F #[x.v] w fun e w' => e = .returned (.bool (P x)) ∧ Bl w w') (W : World) (hG : GW W) : WantF W (.func (.func F) #[] #[]) P :=
 ⟨F, #[], rfl, eg, fun W' hb t ht => by simpa using hc t W' ht (hG.below hb)⟩
theorem wants_one (W : World) (f : Value) (P : Tok → Bool) (hf : WantF W f P) : WantsAt (W.alloc (.cells #[f] 187)) (.slice (some ⟨W.heap.size, 0, none⟩) 1 1) [(f, P)] := by
 have hb : Bl W (W.alloc (.cells #[f] 187)) := (Below.refl _ _).alloc (Nat.le_refl _) _
 refine ⟨W.heap.size, 0, 1, rfl, by simp, by simp, fun i hi => ?_⟩
 have e : i = 0 := by simpa using hi
 subst e
 exact ⟨cell_of_row (heap_alloc_new W _) rfl, hf.later hb⟩
theorem anyP_one (f : Value) (P : Tok → Bool) : anyP [(f, P)] = P := by funext t; simp [anyP]
theorem take_any (vm : Value) (fs : List (Value × (Tok → Bool))) (K : Nat → Prop) (w : World) (B : Nat) (en : Int) (x : PS) (h : Rdr K w B en x) (hf : WantsAt w vm fs) :
 Calls prog 149 #[.pointer (some ⟨B, 0, none⟩), vm] w fun e w' => Out VTok K B en w (takeP en (anyP fs) x) e w' := by
 obtain ⟨W0, hW0⟩ := gen (w.alloc (.cells #[.int .u8 0, .string ⟨#[]⟩, .int .i64 0, .int .i64 0] 160))
 have hb0 : Bl w W0 := by rw [← hW0]; exact (Below.refl _ _).alloc (Nat.le_refl _) _
 have hg0 : W0.heap[w.heap.size]? = some (.cells #[.int .u8 0, .string ⟨#[]⟩, .int .i64 0, .int .i64 0] 160 (0, 0)) := by rw [← hW0]; exact heap_alloc_new w _
 have hs0 : W0.heap.size = w.heap.size + 1 := by rw [← hW0]; simp
 obtain ⟨W1, hW1⟩ := gen (W0.alloc (.cells #[.func (.func 150) #[] #[]] 187))
 have hb1 : Bl W0 W1 := by rw [← hW1]; exact (Below.refl _ _).alloc (Nat.le_refl _) _
 have hbw1 : Bl w W1 := hb0.trans (hb1.mono hb0.size)
 have hG0 : GW W0 := by obtain ⟨_, _, _, _, _, _, hG, _⟩ := h; exact hG.below hb0
 have hw1 : WantsAt W1 (.slice (some ⟨W0.heap.size, 0, none⟩) 1 1) [(.func (.func 150) #[] #[], opnP)] := by rw [← hW1]; exact wants_one W0 _ _ (want_plain 150 opnP enters150 isOpen_any W0 hG0)
 obtain ⟨Q, hQ⟩ := gen (comesP opnP x)
 have C1 : Hid (Calls prog 167 #[.pointer (some ⟨B, 0, none⟩), .slice (some ⟨W0.heap.size, 0, none⟩) 1 1] W1 fun e w' => e = .returned (.bool Q) ∧ Bl W1 w') := by have := comes_any _ _ K W1 B en x (h.below hbw1) hw1; rw [anyP_one, hQ] at this; exact this
 have HH := hid h
 have HF := hid hf
 have HQ : Hid (comesP opnP x = Q) := hQ
 have HB1 := hid hbw1
 have HG0 : Hid (W0.heap[w.heap.size]? = some (.cells #[.int .u8 0, .string ⟨#[]⟩, .int .i64 0, .int .i64 0] 160 (0, 0)) ∧ Bl W0 W1 ∧ W0.heap.size = w.heap.size + 1) := ⟨hg0, hb1, hs0⟩
 have HLT := hid h.lt
 obtain ⟨gm, om, cm, rfl, _⟩ := id hf
 clear h hf hQ hb0 hg0 hb1 hbw1 hG0 hw1 hs0
 go_enter func149, ntmps149
 go_wp2_with fail
 refine C1.out.mono ?_
 rintro e w2 ⟨rfl, hb2⟩
 have HB2 : Hid (Bl w w2) := HB1.out.trans (hb2.mono HB1.out.size)
 have h2 := HH.out.below HB2.out
 obtain ⟨p, c, hg, hl, hnK, hK, hG, hB10, hsm, hcap, hen⟩ := id h2
 have c1 := cell_of_row (k := 1) (v := .int .i64 x.op) hg rfl
 have hBl := h2.lt
 have CP := hid (place_any K w2 B en x h2)
 have HKB : Hid (Kept (fun b => b < w.heap.size ∧ b ≠ B) w w2) := kept_of (fun b h => h.1) HB2.out
 have HG2 : Hid (w2.heap[w.heap.size]? = some (.cells #[.int .u8 0, .string ⟨#[]⟩, .int .i64 0, .int .i64 0] 160 (0, 0)) ∧ w.heap.size < w2.heap.size) := by
  obtain ⟨a1, a2, a3⟩ := HG0.out
  have hbb := a2.trans (hb2.mono a2.size)
  exact ⟨(hbb.block _ (by omega)).trans a1, by have := hbb.size; omega⟩
 clear C1 hW0 hW1 HB1 HG0
 by_cases hD : (Q && decide (x.op = 8)) = true
 · have hd : Q = true ∧ x.op = 8 := by simpa using hD
   obtain ⟨hQ1, hop⟩ := hd
   subst hQ1
   have yop : (x.op == 8) = true := by simp [hop]
   have HE : Hid (takeP en (anyP fs) x = .inl (10, placeP en x)) := by show _ = _; unfold takeP; rw [HQ.out, if_pos hD]
   clear hD hop hg hl h2 hb2 hnK hK hG hB10 hsm hcap hen HH HF hBl
   go_wp2_with fail
   refine CP.out.mono ?_
   rintro e w3 ⟨rfl, rfl⟩
   clear CP
   go_wp2_with fail
   exact ⟨rfl, HKB.out, .inl ⟨_, _, HE.out, rfl⟩⟩
 · have HD : Hid ((Q && decide (x.op = 8)) = false) := by show _ = _; exact (Bool.not_eq_true _).mp hD
   have C2 := hid (comes_any _ fs K w2 B en x h2 (HF.out.later HB2.out))
   obtain ⟨R, hR⟩ := gen (comesP (anyP fs) x)
   have HR : Hid (comesP (anyP fs) x = R) := hR
   rw [hR] at C2
   have HB22 := hid hb2
   clear hR hD hg hl hnK hK hG hB10 hsm hcap hen hb2 h2 HF hBl
   have key : ∀ (G : Prop), (Q = true → (x.op == 8) = false → G) → (Q = false → G) → G := fun G g1 g2 => by
    cases hq : Q with
    | false => exact g2 hq
    | true =>
     have := HD.out
     rw [hq, Bool.true_and] at this
     exact g1 hq (bfn (of_decide_eq_false this))
   refine key _ (fun hq yop => ?_) (fun hq => ?_)
   all_goals subst hq
   all_goals clear key CP
   all_goals go_wp2_with fail
   all_goals refine C2.out.mono ?_
   all_goals rintro e w3 ⟨rfl, hb3⟩
   all_goals as_aux_lemma =>
    have HB3 : Hid (Bl w w3) := HB2.out.trans (hb3.mono HB2.out.size)
    have h3 := HH.out.below HB3.out
    have HKB3 : Hid (Kept (fun b => b < w.heap.size ∧ b ≠ B) w w3) := kept_of (fun b h => h.1) HB3.out
    have hgR3 : w3.heap[w.heap.size]? = some (.cells #[.int .u8 0, .string ⟨#[]⟩, .int .i64 0, .int .i64 0] 160 (0, 0)) := (hb3.block _ HG2.out.2).trans HG2.out.1
    have CP := hid (place_any K w3 B en x h3)
    clear C2 c1
    cases R with
    | false =>
     have HE : Hid (takeP en (anyP fs) x = .inl (13, placeP en x)) := by
      show _ = _
      unfold takeP
      rw [HQ.out, if_neg (by rw [HD.out]; simp)]
      have hr := HR.out
      obtain ⟨ts, op⟩ := x
      cases ts with
      | nil => rfl
      | cons t ts =>
       have hr' : anyP fs t = false := hr
       show (if anyP fs t = true then _ else _) = _
       rw [if_neg (by rw [hr']; simp)]
       rfl
     clear h3 hb3 HH hgR3
     go_wp2_with fail
     refine CP.out.mono ?_
     rintro e w4 ⟨rfl, rfl⟩
     clear CP
     go_wp2_with fail
     exact ⟨rfl, HKB3.out, .inl ⟨_, _, HE.out, rfl⟩⟩
    | true =>
     clear CP
     obtain ⟨ts, op⟩ := x
     cases ts with
     | nil => exact absurd HR.out (by simp [comesP])
     | cons t ts =>
      have hlt3 := h3.lt
      obtain ⟨p, c, hg, hl, hnK, hK, hG, hB10, hsm, hcap, hen⟩ := h3
      obtain ⟨b, o, rfl, hKb, e0, e1, e2, e3, hok⟩ := tok_at hl
      have htl := tok_tail hl
      obtain ⟨s, hs⟩ := bya t.t
      have HTV : Hid (t.v = .agg #[.int .u8 t.k, .string s, .int .i64 t.n, .int .i64 t.a]) := by show _ = _; rw [← hs]; rfl
      rw [hs] at e1
      have c0 := cell_of_row (k := 0) (v := .slice (some ⟨b, o, none⟩) (ts.length + 1) c) hg rfl
      have y1 : (0 : Int) < (ts.length : Int) + 1 := by omega
      have hnb : b ≠ B := fun e => hnK (by rw [← e]; exact hKb)
      simp only [List.length_cons] at hcap
      obtain ⟨hsm1, hsm2, hsm3⟩ := hsm
      simp only [List.length_cons] at hsm1 hsm2 hsm3
      obtain ⟨V1, hV1⟩ := gen (w3.alloc (.cells #[.int .u8 t.k, .string s, .int .i64 t.n, .int .i64 t.a] 160))
      have hbV1 : Bl w3 V1 := by rw [← hV1]; exact (Below.refl _ _).alloc (Nat.le_refl _) _
      have hgT : V1.heap[w3.heap.size]? = some (.cells #[.int .u8 t.k, .string s, .int .i64 t.n, .int .i64 t.a] 160 (0, 0)) := by rw [← hV1]; exact heap_alloc_new _ _
      have hsV1 : V1.heap.size = w3.heap.size + 1 := by rw [← hV1]; simp
      have hgB1 : V1.heap[B]? = some (.cells ([.slice (some ⟨b, o, none⟩) (ts.length + 1) c, .int .i64 op, .int .i64 en] : List Value).toArray 134 (0, 0)) := (hbV1.block _ hlt3).trans hg
      have hlR : w.heap.size < w3.heap.size := (gsi hgR3).1
      have main : ∀ (q' : Option Addr) (c' : Nat), ListIs rTok 4 40 K w3 (.slice q' ts.length c') ts → ts.length ≤ c' → ∃ V2, V1.setCell ⟨B, 0, none⟩ (.slice q' ts.length c') = V2 ∧ V1.cell? ⟨B, 0, none⟩ = some (.slice (some ⟨b, o, none⟩) (ts.length + 1) c) ∧ V1.frozen? ⟨B, 0, none⟩ = false ∧ V2.cell? ⟨B, 1, none⟩ = some (.int .i64 op) ∧ V2.frozen? ⟨B, 1, none⟩ = false ∧ V2.cell? ⟨w3.heap.size, 0, none⟩ = some (.int .u8 t.k) ∧ V2.heap[B]? = some (.cells #[.slice q' ts.length c', .int .i64 op, .int .i64 en] 134 (0, 0)) ∧
       ∀ op', op' ≤ 8 → (op : Int) - 1 ≤ op' → ∃ V3, V2.setCell ⟨B, 1, none⟩ (.int .i64 op') = V3 ∧ V3.rangeAt w3.heap.size 0 [.int .u8 t.k, .string s, .int .i64 t.n, .int .i64 t.a] ∧ V3.there w.heap.size 0 4 ∧ ∃ X, V3.setCells w.heap.size 0 [.int .u8 t.k, .string s, .int .i64 t.n, .int .i64 t.a] = X ∧ (loadVar 160 ⟨w.heap.size, 0, none⟩).run prog X = .ok (.agg #[.int .u8 t.k, .string s, .int .i64 t.n, .int .i64 t.a]) X ∧ Kept (fun b => b < w.heap.size ∧ b ≠ B) w X ∧ Rdr K X B en ⟨ts, op'⟩ := fun q' c' hlq hcq => by
       obtain ⟨V2, hV2, k0, f0, hgB2, hsV2, hkV2⟩ := box_put hgB1 (k := 0) (u := .slice (some ⟨b, o, none⟩) (ts.length + 1) c) rfl (.slice q' ts.length c')
       have hgB2' : V2.heap[B]? = some (.cells ([.slice q' ts.length c', .int .i64 op, .int .i64 en] : List Value).toArray 134 (0, 0)) := hgB2
       have hgT2 : V2.heap[w3.heap.size]? = some (.cells #[.int .u8 t.k, .string s, .int .i64 t.n, .int .i64 t.a] 160 (0, 0)) := (hkV2.block _ (by show _ ≠ _; omega)).trans hgT
       refine ⟨V2, hV2, k0, f0, cell_of_row (k := 1) hgB2' rfl, frozen_zero hgB2' 1, cell_of_row (k := 0) hgT2 rfl, hgB2', fun op' ho1 ho2 => ?_⟩
       obtain ⟨V3, hV3, _, _, hgB3, hsV3, hkV3⟩ := box_put hgB2' (k := 1) (u := .int .i64 op) rfl (.int .i64 op')
       have hgB3' : V3.heap[B]? = some (.cells #[.slice q' ts.length c', .int .i64 op', .int .i64 en] 134 (0, 0)) := hgB3
       have hgT3 : V3.heap[w3.heap.size]? = some (.cells #[.int .u8 t.k, .string s, .int .i64 t.n, .int .i64 t.a] 160 (0, 0)) := (hkV3.block _ (by show _ ≠ _; omega)).trans hgT2
       have hneB : w.heap.size ≠ B := by have := HLT.out; omega
       have hgRV : V3.heap[w.heap.size]? = some (.cells #[.int .u8 0, .string ⟨#[]⟩, .int .i64 0, .int .i64 0] 160 (0, 0)) := (hkV3.block _ hneB).trans ((hkV2.block _ hneB).trans ((hbV1.block _ hlR).trans hgR3))
       obtain ⟨hth, X, hX, hld, hsX, hkX⟩ := put_row V3 w.heap.size _ 160 hgRV [.int .u8 t.k, .string s, .int .i64 t.n, .int .i64 t.a] rfl underlying160 rfl sz_tok
       have k13 : Kept (fun g => g ≠ B) V1 V3 := hkV2.trans hkV3
       have kX : Kept (fun g => g < w3.heap.size ∧ g ≠ B ∧ g ≠ w.heap.size) w3 X := ((kept_of (fun g h => h.1) hbV1).trans (k13.less fun g h => h.2.1)).trans (hkX.less fun g h => h.2.2)
       refine ⟨V3, hV3, rgz hgT3, hth, X, hX, hld, HKB3.out.trans (kX.less fun g hg => ⟨by omega, hg.2, by omega⟩), ?_⟩
       have hKn : ∀ g, K g → g < w3.heap.size ∧ g ≠ B ∧ g ≠ w.heap.size := fun g hg => ⟨hK g hg, fun e => hnK (by rw [← e]; exact hg), fun e => by
        obtain ⟨_, _, _, _, _, hK0, _⟩ := HH.out
        have := hK0 g hg
        omega⟩
       refine ⟨q', c', (hkX.block _ (Ne.symm hneB)).trans hgB3', hlq.mono mTok (fun _ h => h) (kX.less hKn), hnK, fun g hg => by have := (hKn g hg).1; omega, hG.kept (kX.less fun g hg => ?_), hB10, ⟨by show (ts.length : Int) ≤ _; omega, by show (ts.length : Int) - _ ≤ op'; omega, ho1⟩, hcq, hen⟩
       have : g < w.heap.size := by have := HLT.out; omega
       exact ⟨by omega, by omega, by omega⟩
      have HOK := hid hok
      have HPT : Hid (anyP fs t = true) := HR.out
      have HE : Hid (∀ op', (if t.k = 1 then op + 1 else if t.k = 2 then op - 1 else op) = op' → takeP en (anyP fs) ⟨t :: ts, op⟩ = .inr (t, ⟨ts, op'⟩)) := fun op' ho => by
       unfold takeP
       rw [HQ.out, if_neg (by rw [HD.out]; simp)]
       show (if anyP fs t = true then _ else _) = _
       rw [if_pos HPT.out]
       show Sum.inr (t, (⟨ts, if t.k = 1 then op + 1 else if t.k = 2 then op - 1 else op⟩ : PS)) = _
       rw [ho]
      have h8 : t.k = 1 → op ≠ 8 := fun hk1 he => by
       have h9 : (comesP opnP ⟨t :: ts, op⟩ && decide ((⟨t :: ts, op⟩ : PS).op = 8)) = false := by rw [HQ.out]; exact HD.out
       have hq : comesP opnP ⟨t :: ts, op⟩ = true := decide_eq_true hk1
       have h10 : decide ((⟨t :: ts, op⟩ : PS).op = 8) = true := decide_eq_true he
       rw [hq, h10] at h9
       cases h9
      obtain ⟨q', c', hsl, hlq, hcq⟩ : ∃ q' c', (∀ W, (Instr.slice 129 (.slice (some ⟨b, o, none⟩) (ts.length + 1) c) (some (.int .i64 1)) none none).run prog W = .ok (.slice q' ts.length c') W) ∧ ListIs rTok 4 40 K w3 (.slice q' ts.length c') ts ∧ ts.length ≤ c' := by
       by_cases hq1 : c = 1
       · obtain ⟨hl0, hl1⟩ := htl.2 hq1
         refine ⟨some ⟨b, o, none⟩, 0, fun W => ?_, by rw [hl0]; exact hl1, by omega⟩
         subst hq1
         rw [hl0]
         have e1 : ((0 : Nat) : Int) + 1 = 1 := rfl
         simp [Instr.slice, underlying129, go_sem]
       · refine ⟨some ⟨b, o + 4, none⟩, c - 1, fun W => ?_, htl.1, by omega⟩
         have z1 : 1 ≤ c := by omega
         simp [Instr.slice, underlying129, go_sem, hq1, show (1 : Int) ≤ (ts.length : Int) + 1 by omega]
      obtain ⟨V2, hV2, k0, f0, d1, f1, dk, hgB2, hop⟩ := main q' c' hlq hcq
      clear main hl hlq htl hg hK hnK hG hB10 hcap hen hgB1 hgR3 hgT hbV1 hsV1 hKb hok hb3 hs HH hnb hlt3 hlR HPT HR
      by_cases hk1 : t.k = 1
      · have yk : (t.k == 1) = true := by simp [hk1]
        have h8' := h8 hk1
        obtain ⟨V3, hV3, hrT, hth, X, hX, hld, hkX, hRX⟩ := hop (op + 1) (by omega) (by omega)
        have HEE := hid (HE.out (op + 1) (by rw [if_pos hk1]))
        have hw : IntKind.i64.wrap (op + 1) = op + 1 := by rw [IntKind.wrap_i64]; omega
        clear hop h8 h8' hk1 HE hgB2
        have HRT : Hid (V3.rangeAt w3.heap.size 0 [.int .u8 t.k, .string s, .int .i64 t.n, .int .i64 t.a]) := hrT
        have HTH : Hid (V3.there w.heap.size 0 4) := hth
        have HX : Hid (V3.setCells w.heap.size 0 (#[.int .u8 t.k, .string s, .int .i64 t.n, .int .i64 t.a] : Array Value).toList = X) := hX
        have HLD : Hid ((loadVar 160 ⟨w.heap.size, 0, none⟩).run prog X = .ok (.agg #[.int .u8 t.k, .string s, .int .i64 t.n, .int .i64 t.a]) X) := hld
        have HFI := hid (And.intro hkX hRX)
        clear hrT hth hX hld hkX hRX
        go_wp2_with (first | (refine wpList_load_mid rfl 160 _ rfl w3.heap.size 0 rfl _ _ HRT.out underlying160 rfl sz_tok ?_) | (refine wpList_store_mid rfl 160 _ _ rfl w.heap.size 0 #[.int .u8 t.k, .string s, .int .i64 t.n, .int .i64 t.a] rfl rfl HTH.out sz_tok (by simp [Value.oneCell']) ?_; rw [HX.out]))
        refine bodyPost_ret (v := .agg #[.int .u8 t.k, .string s, .int .i64 t.n, .int .i64 t.a]) (by simp only [results, results149]; simp [asAddr, Act.put, HLD.out]) rfl ?_
        exact ⟨HFI.out.1, .inr ⟨t, _, _, HEE.out, rfl, ⟨HTV.out.symm, HOK.out⟩, HFI.out.2⟩⟩
      · have yk : (t.k == 1) = false := bfn hk1
        by_cases hk2 : t.k = 2
        · have yk2 : (t.k == 2) = true := by simp [hk2]
          obtain ⟨V3, hV3, hrT, hth, X, hX, hld, hkX, hRX⟩ := hop (op - 1) (by omega) (by omega)
          have HEE := hid (HE.out (op - 1) (by rw [if_neg hk1, if_pos hk2]))
          have hw : IntKind.i64.wrap (op - 1) = op - 1 := by rw [IntKind.wrap_i64]; omega
          clear hop h8 hk1 hk2 HE hgB2
          have HRT : Hid (V3.rangeAt w3.heap.size 0 [.int .u8 t.k, .string s, .int .i64 t.n, .int .i64 t.a]) := hrT
          have HTH : Hid (V3.there w.heap.size 0 4) := hth
          have HX : Hid (V3.setCells w.heap.size 0 (#[.int .u8 t.k, .string s, .int .i64 t.n, .int .i64 t.a] : Array Value).toList = X) := hX
          have HLD : Hid ((loadVar 160 ⟨w.heap.size, 0, none⟩).run prog X = .ok (.agg #[.int .u8 t.k, .string s, .int .i64 t.n, .int .i64 t.a]) X) := hld
          have HFI := hid (And.intro hkX hRX)
          clear hrT hth hX hld hkX hRX
          go_wp2_with (first | (refine wpList_load_mid rfl 160 _ rfl w3.heap.size 0 rfl _ _ HRT.out underlying160 rfl sz_tok ?_) | (refine wpList_store_mid rfl 160 _ _ rfl w.heap.size 0 #[.int .u8 t.k, .string s, .int .i64 t.n, .int .i64 t.a] rfl rfl HTH.out sz_tok (by simp [Value.oneCell']) ?_; rw [HX.out]))
          refine bodyPost_ret (v := .agg #[.int .u8 t.k, .string s, .int .i64 t.n, .int .i64 t.a]) (by simp only [results, results149]; simp [asAddr, Act.put, HLD.out]) rfl ?_
          exact ⟨HFI.out.1, .inr ⟨t, _, _, HEE.out, rfl, ⟨HTV.out.symm, HOK.out⟩, HFI.out.2⟩⟩
        · have yk2 : (t.k == 2) = false := bfn hk2
          obtain ⟨V3, hV3, hrT, hth, X, hX, hld, hkX, hRX⟩ := hop op (by omega) (by omega)
          have HEE := hid (HE.out op (by rw [if_neg hk1, if_neg hk2]))
          have hVV : V2 = V3 := by rw [← hV3]; exact (setCell_self (W := V2) (g := B) (k := 1) (cur := #[.slice q' ts.length c', .int .i64 op, .int .i64 en]) (t := 134) (v := .int .i64 op) hgB2 rfl).symm
          clear hop h8 hk1 hk2 HE hgB2
          subst hVV
          have HRT : Hid (V2.rangeAt w3.heap.size 0 [.int .u8 t.k, .string s, .int .i64 t.n, .int .i64 t.a]) := hrT
          have HTH : Hid (V2.there w.heap.size 0 4) := hth
          have HX : Hid (V2.setCells w.heap.size 0 (#[.int .u8 t.k, .string s, .int .i64 t.n, .int .i64 t.a] : Array Value).toList = X) := hX
          have HLD : Hid ((loadVar 160 ⟨w.heap.size, 0, none⟩).run prog X = .ok (.agg #[.int .u8 t.k, .string s, .int .i64 t.n, .int .i64 t.a]) X) := hld
          have HFI := hid (And.intro hkX hRX)
          clear hrT hth hX hld hkX hRX
          go_wp2_with (first | (refine wpList_load_mid rfl 160 _ rfl w3.heap.size 0 rfl _ _ HRT.out underlying160 rfl sz_tok ?_) | (refine wpList_store_mid rfl 160 _ _ rfl w.heap.size 0 #[.int .u8 t.k, .string s, .int .i64 t.n, .int .i64 t.a] rfl rfl HTH.out sz_tok (by simp [Value.oneCell']) ?_; rw [HX.out]))
          refine bodyPost_ret (v := .agg #[.int .u8 t.k, .string s, .int .i64 t.n, .int .i64 t.a]) (by simp only [results, results149]; simp [asAddr, Act.put, HLD.out]) rfl ?_
          exact ⟨HFI.out.1, .inr ⟨t, _, _, HEE.out, rfl, ⟨HTV.out.symm, HOK.out⟩, HFI.out.2⟩⟩
end Go.Proofs.YtfifphfihdhlaaaGreatDoor

/- The reader: what comes, and where. -/
import Derived.Test.YtfifphfihdhlaaaGreatDoorQe
set_option maxRecDepth 100000
set_option maxHeartbeats 32000000
namespace Go.Proofs.YtfifphfihdhlaaaGreatDoor
open Tryz
open Go.Shelf Go.RowKit Go.Lib Go.Sort
set_option linter.unusedVariables false
set_option linter.unusedSimpArgs false
attribute [local go_sem ↓] Go.wp_at_zero Go.wp_at_succ
def rTok : Rel Tok := fun K W cs x => cs = [.int .u8 x.k, .string ⟨x.t.toArray⟩, .int .i64 x.n, .int .i64 x.a] ∧ okT x
theorem mTok : Mono rTok := fun _ _ _ _ _ _ _ _ h => h
structure PS where
 ts : List Tok
 op : Int
abbrev Res (α : Type) := Sum (Int × Int) (α × PS)
def andR {α β : Type} (r : Res α) (f : α → PS → Res β) : Res β := match r with
 | .inl e => .inl e
 | .inr (a, s) => f a s
def placeP (en : Int) (s : PS) : Int := match s.ts with
 | [] => en
 | t :: _ => t.a
def comesP (P : Tok → Bool) (s : PS) : Bool := match s.ts with
 | [] => false
 | t :: _ => P t
def Small (x : PS) : Prop := (x.ts.length : Int) ≤ 100000 ∧ (x.ts.length : Int) - 1000000 ≤ x.op ∧ x.op ≤ 8
def Rdr (K : Nat → Prop) (W : World) (B : Nat) (en : Int) (x : PS) : Prop :=
 ∃ p c, W.heap[B]? = some (.cells #[.slice p x.ts.length c, .int .i64 x.op, .int .i64 en] 134 (0, 0)) ∧ ListIs rTok 4 40 K W (.slice p x.ts.length c) x.ts ∧ ¬ K B ∧ (∀ b, K b → b < W.heap.size) ∧ GW W ∧ 10 ≤ B ∧ Small x ∧ x.ts.length ≤ c ∧ I64 en
theorem Rdr.lt {K : Nat → Prop} {W : World} {B : Nat} {en : Int} {x : PS} (h : Rdr K W B en x) : B < W.heap.size := by
 obtain ⟨p, c, hg, _⟩ := h
 exact (gsi hg).1
theorem Rdr.below {K : Nat → Prop} {W W' : World} {B : Nat} {en : Int} {x : PS} (h : Rdr K W B en x) (hb : Bl W W') : Rdr K W' B en x := by
 have hl := h.lt
 obtain ⟨p, c, hg, hli, hnK, hK, hG, r⟩ := h
 exact ⟨p, c, (hb.block _ hl).trans hg, hli.mono mTok (fun _ h => h) (kept_of hK hb), hnK, fun b h => nlt (hK b h) hb.size, hG.below hb, r⟩
theorem tok_at {K : Nat → Prop} {w : World} {q : Option Addr} {n c : Nat} {t : Tok} {ts : List Tok} (h : ListIs rTok 4 40 K w (.slice q n c) (t :: ts)) : ∃ b o, q = some ⟨b, o, none⟩ ∧ K b ∧ w.cell? ⟨b, o, none⟩ = some (.int .u8 t.k) ∧ w.cell? ⟨b, o + 1, none⟩ = some (.string ⟨t.t.toArray⟩) ∧ w.cell? ⟨b, o + 2, none⟩ = some (.int .i64 t.n) ∧ w.cell? ⟨b, o + 3, none⟩ = some (.int .i64 t.a) ∧ okT t := by
 obtain ⟨q', c', e, _, hp⟩ := h
 obtain ⟨b, o, rfl, hKb, hc⟩ := hp (by simp)
 cases e
 obtain ⟨cs, _, hcell, rfl, hk⟩ := hc 0 (by simp)
 exact ⟨b, o, rfl, hKb, by simpa using hcell 0 _ rfl, by simpa using hcell 1 _ rfl, by simpa using hcell 2 _ rfl, by simpa using hcell 3 _ rfl, hk⟩
def WantF (W : World) (f : Value) (P : Tok → Bool) : Prop := ∃ F caps, f = .func (.func F) #[] caps ∧ (∀ args w, (callFunc F args).run prog w = .ok (.enter F args) w) ∧ ∀ W', Bl W W' → ∀ t, okT t → Calls prog F (#[t.v] ++ caps) W' fun e w' => e = .returned (.bool (P t)) ∧ Bl W' w'
theorem WantF.later {W W' : World} {f : Value} {P : Tok → Bool} (h : WantF W f P) (hb : Bl W W') : WantF W' f P := by
 obtain ⟨F, caps, e, eg, hc⟩ := h
 exact ⟨F, caps, e, eg, fun V hv => hc V (hb.trans (hv.mono hb.size))⟩
def WantsAt (W : World) (vm : Value) (fs : List (Value × (Tok → Bool))) : Prop := ∃ g o c, vm = .slice (some ⟨g, o, none⟩) fs.length c ∧ g < W.heap.size ∧ fs.length ≤ 4 ∧ ∀ i (h : i < fs.length), W.cell? ⟨g, o + i, none⟩ = some (fs[i]).1 ∧ WantF W (fs[i]).1 (fs[i]).2
theorem WantsAt.later {W W' : World} {vm : Value} {fs : List (Value × (Tok → Bool))} (h : WantsAt W vm fs) (hb : Bl W W') : WantsAt W' vm fs := by
 obtain ⟨g, o, c, e, hg, hn, hc⟩ := h
 exact ⟨g, o, c, e, nlt hg hb.size, hn, fun i hi => ⟨(hb.cell (p := ⟨g, _, none⟩) hg).trans (hc i hi).1, (hc i hi).2.later hb⟩⟩
def anyP (fs : List (Value × (Tok → Bool))) (t : Tok) : Bool := fs.any fun f => f.2 t
theorem place_any (K : Nat → Prop) (w : World) (B : Nat) (en : Int) (x : PS) (h : Rdr K w B en x) : Calls prog 155 #[.pointer (some ⟨B, 0, none⟩)] w fun e w' => e = .returned (.int .i64 (placeP en x)) ∧ w' = w := by
 obtain ⟨p, c, hg, hl, _⟩ := h
 obtain ⟨ts, op⟩ := x
 cases ts with
 | nil =>
  have c0 := cell_of_row (k := 0) (v := .slice p 0 c) hg rfl
  have c2 := cell_of_row (k := 2) (v := .int .i64 en) hg rfl
  clear hg hl
  go_enter func155, ntmps155
  go_wp2_with fail
  go_ret
  exact ⟨rfl, rfl⟩
 | cons t ts =>
  obtain ⟨b, o, rfl, _, _, _, _, e3, _⟩ := tok_at hl
  have c0 := cell_of_row (k := 0) (v := .slice (some ⟨b, o, none⟩) (ts.length + 1) c) hg rfl
  have y0 : ((ts.length : Int) + 1 == 0) = false := bfn (by omega)
  have y1 : (0 : Int) < (ts.length : Int) + 1 := by omega
  clear hg hl
  go_enter func155, ntmps155
  go_wp2_with fail
  go_ret
  exact ⟨rfl, rfl⟩
theorem comes1_any (f : Value) (P : Tok → Bool) (K : Nat → Prop) (w : World) (B R : Nat) (en : Int) (t : Tok) (ts : List Tok) (op : Int) (h : Rdr K w B en ⟨t :: ts, op⟩) (hR : w.cell? ⟨R, 0, none⟩ = some (.pointer (some ⟨B, 0, none⟩))) (hf : WantF w f P) :
 Calls prog 184 #[f, .pointer (some ⟨R, 0, none⟩)] w fun e w' => e = .returned (.bool (P t)) ∧ Bl w w' := by
 obtain ⟨p, c, hg, hl, _⟩ := h
 obtain ⟨F, caps, rfl, eg, hc⟩ := hf
 obtain ⟨b, o, rfl, _, e0, e1, e2, e3, hk⟩ := tok_at hl
 have C := hid (hc w (Below.refl _ _) t hk)
 obtain ⟨s, hs⟩ := bya t.t
 rw [show t.v = .agg #[.int .u8 t.k, .string s, .int .i64 t.n, .int .i64 t.a] from by rw [← hs]; rfl] at C
 rw [hs] at e1
 have c0 := cell_of_row (k := 0) (v := .slice (some ⟨b, o, none⟩) (ts.length + 1) c) hg rfl
 have y1 : (0 : Int) < (ts.length : Int) + 1 := by omega
 clear hg hl hc hk hs
 go_enter func184, ntmps184
 go_wp2_with fail
 refine C.out.mono ?_
 rintro e w' ⟨rfl, hb⟩
 have HB := hid hb
 clear C hb
 go_wp2_with fail
 go_ret
 exact ⟨rfl, HB.out⟩
theorem enters184 : ∀ args w, (callFunc 184 args).run prog w = .ok (.enter 184 args) w := enters_of func184 (by kernel_rfl) rfl
theorem index_any (vm : Value) (fs : List (Value × (Tok → Bool))) (K : Nat → Prop) (w : World) (B R : Nat) (en : Int) (t : Tok) (ts : List Tok) (op : Int) (h : Rdr K w B en ⟨t :: ts, op⟩) (hR : w.cell? ⟨R, 0, none⟩ = some (.pointer (some ⟨B, 0, none⟩))) (hRl : R < w.heap.size) (hf : WantsAt w vm fs) :
 Calls prog 208 #[vm, .func (.func 184) #[] #[.pointer (some ⟨R, 0, none⟩)]] w fun e w' => ∃ k : Int, e = .returned (.int .i64 k) ∧ ((0 ≤ k ∧ anyP fs t = true) ∨ (k = -1 ∧ anyP fs t = false)) ∧ Bl w w' := by
 have HF := hid hf
 obtain ⟨g, o, c, rfl, _, hn4, _⟩ := hf
 have HRD := hid h
 have HRR : Hid (w.cell? ⟨R, 0, none⟩ = some (.pointer (some ⟨B, 0, none⟩)) ∧ R < w.heap.size) := ⟨hR, hRl⟩
 have eg := enters184
 clear h hR hRl
 go_enter func208, ntmps208
 go_wp2_with fail
 go_loopg [8] fs.length (fun gf s8 wx => ∃ (i : Nat), s8 = .int .i64 i ∧ i ≤ fs.length ∧ fs.length ≤ i + gf ∧ Hid (Bl w wx) ∧ Hid (anyP (fs.take i) t = false))
 case atStart => exact ⟨0, rfl, by omega, by omega, Below.refl _ _, rfl⟩
 case round =>
  obtain ⟨i, rfl, hi1, hgf, HB, HN⟩ := hrel
  by_cases hi : i < fs.length
  · obtain ⟨g', rfl⟩ : ∃ g', gk = g' + 1 := ⟨gk - 1, by omega⟩
    obtain ⟨g2, o2, c2, e, _, _, hc⟩ := HF.out.later HB.out
    cases e
    obtain ⟨hcell, hwant⟩ := hc i hi
    have htk : fs.take (i + 1) = fs.take i ++ [fs[i]] := List.take_succ_eq_append_getElem hi
    have hmem : fs[i] ∈ fs := List.getElem_mem hi
    obtain ⟨y, hy⟩ := gen (fs[i])
    rw [hy] at hcell hwant htk hmem
    obtain ⟨f, P⟩ := y
    have CC := hid (comes1_any f P K wr B R en t ts op (HRD.out.below HB.out) ((HB.out.cell (p := ⟨R, 0, none⟩) HRR.out.2).trans HRR.out.1) hwant)
    have HTK : Hid (fs.take (i + 1) = fs.take i ++ [(f, P)]) := htk
    have HM : Hid ((f, P) ∈ fs) := hmem
    have z0 : (0 : Int) ≤ (i : Int) := by omega
    have z1 : (i : Int) < (fs.length : Int) := by omega
    clear hc hwant htk hmem hy
    go_wp2_with fail
    refine CC.out.mono ?_
    rintro e w3 ⟨rfl, hb3⟩
    have HB3 : Hid (Bl w w3) := HB.out.trans (hb3.mono HB.out.size)
    clear CC hcell hb3
    cases hpy : P t with
    | true =>
     have HA : Hid (anyP fs t = true) := List.any_eq_true.2 ⟨(f, P), HM.out, hpy⟩
     clear hpy HN
     go_wp2_with fail
     go_ret
     exact ⟨_, rfl, .inl ⟨by omega, HA.out⟩, HB3.out⟩
    | false =>
     have HN2 : Hid (anyP (fs.take (i + 1)) t = false) := by
      show _ = _
      rw [HTK.out]
      have := HN.out
      unfold anyP at this ⊢
      rw [List.any_append, this]
      simp [hpy]
     clear hpy HN
     go_wp2_with fail
     go_roundg g'
     case measure => omega
     case rel => exact ⟨i + 1, by go_num, by omega, by omega, HB3, HN2⟩
  · have z1 : ¬ (i : Int) < (fs.length : Int) := by omega
    have HA : Hid (anyP fs t = false) := by
     have := HN.out
     rwa [List.take_of_length_le (by omega)] at this
    clear HN
    go_wp2_with fail
    go_ret
    exact ⟨_, rfl, .inr ⟨rfl, HA.out⟩, HB.out⟩
theorem contains_any (vm : Value) (fs : List (Value × (Tok → Bool))) (K : Nat → Prop) (w : World) (B R : Nat) (en : Int) (t : Tok) (ts : List Tok) (op : Int) (h : Rdr K w B en ⟨t :: ts, op⟩) (hR : w.cell? ⟨R, 0, none⟩ = some (.pointer (some ⟨B, 0, none⟩))) (hRl : R < w.heap.size) (hf : WantsAt w vm fs) :
 Calls prog 183 #[vm, .func (.func 184) #[] #[.pointer (some ⟨R, 0, none⟩)]] w fun e w' => e = .returned (.bool (anyP fs t)) ∧ Bl w w' := by
 have CC := hid (index_any vm fs K w B R en t ts op h hR hRl hf)
 obtain ⟨g, o, c, rfl, _⟩ := hf
 obtain ⟨r, hr⟩ := gen (anyP fs t)
 rw [hr] at CC ⊢
 clear h hR hRl hr
 go_enter func183, ntmps183
 go_wp2_with fail
 refine CC.out.mono ?_
 rintro e w1 ⟨k, rfl, hk, hb⟩
 have HB := hid hb
 rcases hk with ⟨z, hk⟩ | ⟨rfl, hk⟩
 · subst hk
   clear hb CC
   go_wp2_with fail
   go_ret
   exact ⟨by simp [z], HB.out⟩
 · subst hk
   clear hb CC
   go_wp2_with fail
   go_ret
   exact ⟨rfl, HB.out⟩
theorem comes_any (vm : Value) (fs : List (Value × (Tok → Bool))) (K : Nat → Prop) (w : World) (B : Nat) (en : Int) (x : PS) (h : Rdr K w B en x) (hf : WantsAt w vm fs) :
 Calls prog 167 #[.pointer (some ⟨B, 0, none⟩), vm] w fun e w' => e = .returned (.bool (comesP (anyP fs) x)) ∧ Bl w w' := by
 obtain ⟨W0, hW0, hb0, hg0, hs0⟩ := one_box w (.pointer (some ⟨B, 0, none⟩)) 163
 have hmf : ∀ (fn : Fn) (first cap : Array Value) (w : World), (Instr.makeFunc fn first cap).run prog w = .ok (.func fn first cap) w := fun _ _ _ _ => rfl
 have hR := cell_of_row (k := 0) (v := .pointer (some ⟨B, 0, none⟩)) hg0 rfl
 have h0 := h.below hb0
 have hf0 := hf.later hb0
 have HB0 := hid hb0
 obtain ⟨g, o, c, rfl, _, hn4, _⟩ := id hf
 obtain ⟨ts, op⟩ := x
 have H0 := hid h0
 obtain ⟨p, c3, hg, hl, _⟩ := h0
 have hBl : B < W0.heap.size := (gsi hg).1
 cases ts with
 | nil =>
  have c0 := cell_of_row (k := 0) (v := .slice p 0 c3) hg rfl
  clear hg hl H0 hf0 hf h hb0 hg0 hBl
  go_enter func167, ntmps167
  go_wp2_with fail
  go_ret
  exact ⟨rfl, HB0.out⟩
 | cons t ts =>
  have CC := hid (contains_any _ fs K W0 B w.heap.size en t ts op H0.out hR (by omega) hf0)
  have c0 := cell_of_row (k := 0) (v := .slice p (ts.length + 1) c3) hg rfl
  have y0 : ((ts.length : Int) + 1 == 0) = false := bfn (by omega)
  obtain ⟨r, hr⟩ := gen (anyP fs t)
  have HE : Hid (comesP (anyP fs) ⟨t :: ts, op⟩ = r) := hr
  rw [hr] at CC
  clear hg hl H0 hf0 hf h hb0 hg0 hr hBl
  go_enter func167, ntmps167
  go_wp2_with fail
  refine CC.out.mono ?_
  rintro e w1 ⟨rfl, hb1⟩
  have HB1 : Hid (Bl w w1) := HB0.out.trans (hb1.mono HB0.out.size)
  clear CC hb1
  go_wp2_with fail
  go_ret
  exact ⟨by rw [HE.out]; rfl, HB1.out⟩
end Go.Proofs.YtfifphfihdhlaaaGreatDoor

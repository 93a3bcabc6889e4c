/- Whether a query is right. -/
import Derived.Test.YtfifphfihdhlaaaGreatDoorQw
set_option maxRecDepth 100000
set_option maxHeartbeats 32000000
namespace Go.Proofs.YtfifphfihdhlaaaGreatDoor
open Tryz
open Go.Shelf Go.RowKit Go.Lib Go.Sort
set_option linter.unusedVariables false
set_option linter.unusedSimpArgs false
attribute [local go_sem ↓] Go.wp_at_zero Go.wp_at_succ
def itemOkP (x : Itm) : Bool := if x.g = 1 then decide (x.e = []) else decide (x.g < 5) && rightP x.e
def itemsOkP (l : List Itm) : Bool := if 8 < l.length then false else l.all itemOkP
def whereOkP (l : List Stp) : Bool := decide (l = []) || rightP l
def joinOkP (q : Qry) : Bool := if q.j = [] then decide (q.a = []) && decide (q.b = []) else isNameP q.j && (decide (q.j ≠ q.t) && (isColP q.a && isColP q.b))
def groupOkP (q : Qry) : Bool := if 8 < q.g.length then false else if q.g.all isColP = false then false else decide (q.g = []) || decide (q.i ≠ [])
def queryOkP (q : Qry) : Bool := isNameP q.t && (joinOkP q && (whereOkP q.w && (itemsOkP q.i && groupOkP q)))
def checkQ (q : Qry) : Int := if queryOkP q then 0 else 13
structure QLs (K : Nat → Prop) (w : World) (pi pw pg : Option Addr) (ci cw cg : Nat) (q : Qry) : Prop where
 li : ListIs rItm 2 32 K w (.slice pi q.i.length ci) q.i
 lw : ListIs rStp 3 32 K w (.slice pw q.w.length cw) q.w
 lg : ListIs rStr 1 16 K w (.slice pg q.g.length cg) q.g
 lt : q.t.length ≤ 100000
 lj : q.j.length ≤ 100000
 la : q.a.length ≤ 100000
 lb : q.b.length ≤ 100000
theorem QLs.kept {K : Nat → Prop} {w w' : World} {pi pw pg : Option Addr} {ci cw cg : Nat} {q : Qry} (h : QLs K w pi pw pg ci cw cg q) (hk : Kept K w w') : QLs K w' pi pw pg ci cw cg q :=
 ⟨h.li.mono mItm (fun _ h => h) hk, h.lw.mono mStp (fun _ h => h) hk, h.lg.mono mStr (fun _ h => h) hk, h.lt, h.lj, h.la, h.lb⟩
theorem QLs.below {K : Nat → Prop} {w w' : World} {pi pw pg : Option Addr} {ci cw cg : Nat} {q : Qry} (h : QLs K w pi pw pg ci cw cg q) (hK : ∀ b, K b → b < w.heap.size) (hb : Bl w w') : QLs K w' pi pw pg ci cw cg q := h.kept (kept_of hK hb)
def rStrW : Rel (List UInt8) := fun K W cs x => cs = [.string ⟨x.toArray⟩] ∧ x.length ≤ 140737488355328
theorem mStrW : Mono rStrW := fun _ _ _ _ _ _ _ _ h => h
def rItmW : Rel Itm := fun K W cs x => ∃ v, cs = [.int .u8 (x.g : Int), v] ∧ ListIs rStpW 3 32 K W v x.e ∧ x.g < 256
theorem mItmW : Mono rItmW := fun _ _ _ _ _ _ hk hW ⟨v, e, hl, hg⟩ => ⟨v, e, hl.mono mStpW hk hW, hg⟩
structure QLsW (K : Nat → Prop) (w : World) (pi pw pg : Option Addr) (ci cw cg : Nat) (q : Qry) : Prop where
 li : ListIs rItmW 2 32 K w (.slice pi q.i.length ci) q.i
 lw : ListIs rStpW 3 32 K w (.slice pw q.w.length cw) q.w
 lg : ListIs rStrW 1 16 K w (.slice pg q.g.length cg) q.g
 lt : q.t.length ≤ 140737488355328
 lj : q.j.length ≤ 140737488355328
 la : q.a.length ≤ 140737488355328
 lb : q.b.length ≤ 140737488355328
theorem QLsW.kept {K : Nat → Prop} {w w' : World} {pi pw pg : Option Addr} {ci cw cg : Nat} {q : Qry} (h : QLsW K w pi pw pg ci cw cg q) (hk : Kept K w w') : QLsW K w' pi pw pg ci cw cg q :=
 ⟨h.li.mono mItmW (fun _ h => h) hk, h.lw.mono mStpW (fun _ h => h) hk, h.lg.mono mStrW (fun _ h => h) hk, h.lt, h.lj, h.la, h.lb⟩
theorem QLsW.below {K : Nat → Prop} {w w' : World} {pi pw pg : Option Addr} {ci cw cg : Nat} {q : Qry} (h : QLsW K w pi pw pg ci cw cg q) (hK : ∀ b, K b → b < w.heap.size) (hb : Bl w w') : QLsW K w' pi pw pg ci cw cg q := h.kept (kept_of hK hb)
theorem itm_w {K : Nat → Prop} {w : World} {q : Option Addr} {n c : Nat} {l : List Itm} (h : ListIs rItmW 2 32 K w (.slice q n c) l) (hl : 0 < l.length) : ∃ b o, q = some ⟨b, o, none⟩ ∧ K b ∧ ∀ i (hi : i < l.length), ∃ p cp, w.rangeAt b (o + i * 2) [.int .u8 (l[i].g : Int), .slice p l[i].e.length cp] ∧ ListIs rStpW 3 32 K w (.slice p l[i].e.length cp) l[i].e ∧ l[i].g < 256 := by
 obtain ⟨q', c', e, _, hp⟩ := h
 obtain ⟨b, o, rfl, hKb, hc⟩ := hp hl
 cases e
 refine ⟨b, o, rfl, hKb, fun i hi => ?_⟩
 obtain ⟨cs, _, hcell, v, rfl, hli, h256⟩ := hc i hi
 obtain ⟨p, cp, rfl, h1, h2⟩ := hli
 exact ⟨p, cp, fun j u hu => hcell j u hu, ⟨p, cp, rfl, h1, h2⟩, h256⟩
theorem QLs.w {K : Nat → Prop} {w : World} {pi pw pg : Option Addr} {ci cw cg : Nat} {q : Qry} (h : QLs K w pi pw pg ci cw cg q) : QLsW K w pi pw pg ci cw cg q :=
 ⟨h.li.rel fun cs x _ ⟨v, e, hl, hg, _⟩ => ⟨v, e, hl.rel fun cs x _ h => wStp _ _ _ _ h, hg⟩, h.lw.rel fun cs x _ h => wStp _ _ _ _ h, h.lg.rel fun cs x _ h => ⟨h.1, by have := h.2; omega⟩, by have := h.lt; omega, by have := h.lj; omega, by have := h.la; omega, by have := h.lb; omega⟩
theorem str_w {K : Nat → Prop} {w : World} {q : Option Addr} {n c : Nat} {l : List (List UInt8)} (h : ListIs rStrW 1 16 K w (.slice q n c) l) (hl : 0 < l.length) : ∃ b o, q = some ⟨b, o, none⟩ ∧ K b ∧ ∀ i (hi : i < l.length), w.cell? ⟨b, o + i, none⟩ = some (.string ⟨(l[i]).toArray⟩) := by
 obtain ⟨q', c', e, _, hp⟩ := h
 obtain ⟨b, o, rfl, hKb, hc⟩ := hp hl
 cases e
 refine ⟨b, o, rfl, hKb, fun i hi => ?_⟩
 obtain ⟨cs, _, hcell, rfl, _⟩ := hc i hi
 simpa using hcell 0 _ rfl
theorem len_zero {α : Type} (l : List α) : (l.length = 0) ↔ l = [] := by cases l <;> simp
theorem rightItem_w (K : Nat → Prop) (x : Itm) (p : Option Addr) (c : Nat) (w : World) (h : ListIs rStpW 3 32 K w (.slice p x.e.length c) x.e) (h256 : x.g < 256) (hK : ∀ b, K b → b < w.heap.size) (hG : GW w) : Calls prog 105 #[.agg #[.int .u8 (x.g : Int), .slice p x.e.length c]] w fun e w' => e = .returned (.bool (itemOkP x)) ∧ Bl w w' := by
 obtain ⟨W0, hW0⟩ := gen (w.alloc (.cells #[.int .u8 (x.g : Int), .slice p x.e.length c] 42))
 have hb0 : Bl w W0 := by rw [← hW0]; exact below_alloc _ _
 have hg0 : W0.heap[w.heap.size]? = some (.cells #[.int .u8 (x.g : Int), .slice p x.e.length c] 42 (0, 0)) := by rw [← hW0]; exact heap_alloc_new w _
 have c0 := cell_of_row (k := 0) (v := .int .u8 (x.g : Int)) hg0 rfl
 have c1 := cell_of_row (k := 1) (v := .slice p x.e.length c) hg0 rfl
 have HB := hid hb0
 obtain ⟨R, hR⟩ := gen (rightP x.e)
 have C1 : Hid (Calls prog 34 #[.slice p x.e.length c] W0 fun e w' => e = .returned (.bool R) ∧ Bl W0 w') := by have := right_w K p c x.e W0 (h.mono mStpW (fun _ h => h) (kept_of hK hb0)) (fun b hb => nlt (hK b hb) hb0.size) (hG.below hb0); rw [hR] at this; exact this
 have HR : Hid (itemOkP x = if x.g = 1 then decide (x.e = []) else decide (x.g < 5) && R) := by show _ = _; rw [← hR]; rfl
 have hl0 := len_zero x.e
 obtain ⟨m, hm⟩ := gen x.e.length
 have HL0 : Hid (m = 0 ↔ x.e = []) := by rw [hm] at hl0; exact hl0
 rw [hm] at hW0 c1 C1 ⊢
 clear h hK hG hb0 hg0 hR hl0 hm
 by_cases h1 : x.g = 1
 · have y1 : ((x.g : Int) == 1) = true := by simp [h1]
   have HR1 : Hid (itemOkP x = decide (x.e = [])) := by show _ = _; rw [HR.out, if_pos h1]
   by_cases he : m = 0
   · have ye : ((m : Int) == 0) = true := by simp [he]
     have HE : Hid (itemOkP x = true) := by show _ = _; rw [HR1.out]; exact decide_eq_true (HL0.out.1 he)
     clear HR1 HR he h1 HL0 C1
     go_enter func105, ntmps105
     go_wp2_with fail
     go_ret
     exact ⟨by rw [HE.out]; rfl, HB.out⟩
   · have ye : ((m : Int) == 0) = false := bfn (by omega)
     have HE : Hid (itemOkP x = false) := by show _ = _; rw [HR1.out]; exact decide_eq_false (fun h => he (HL0.out.2 h))
     clear HR1 HR he h1 HL0 C1
     go_enter func105, ntmps105
     go_wp2_with fail
     go_ret
     exact ⟨by rw [HE.out]; rfl, HB.out⟩
 · have y1 : ((x.g : Int) == 1) = false := bfn (by omega)
   have HR1 : Hid (itemOkP x = (decide (x.g < 5) && R)) := by show _ = _; rw [HR.out, if_neg h1]
   by_cases h5 : x.g < 5
   · have y5 : (x.g : Int) < 5 := by omega
     have HE : Hid (itemOkP x = R) := by show _ = _; rw [HR1.out, decide_eq_true h5]; rfl
     clear HR1 HR h5 h1 HL0
     go_enter func105, ntmps105
     go_wp2_with fail
     refine C1.out.mono ?_
     rintro e w1 ⟨rfl, hb1⟩
     have HB1 : Hid (Bl w w1) := HB.out.trans (hb1.mono HB.out.size)
     clear C1 hb1 hW0
     go_wp2_with fail
     go_ret
     exact ⟨by rw [HE.out]; rfl, HB1.out⟩
   · have y5 : ¬ (x.g : Int) < 5 := by omega
     have HE : Hid (itemOkP x = false) := by show _ = _; rw [HR1.out, decide_eq_false h5]; rfl
     clear HR1 HR h5 h1 HL0 C1
     go_enter func105, ntmps105
     go_wp2_with fail
     go_ret
     exact ⟨by rw [HE.out]; rfl, HB.out⟩
theorem rightWhere_w (K : Nat → Prop) (pi pw pg : Option Addr) (ci cw cg : Nat) (q : Qry) (w : World) (h : QLsW K w pi pw pg ci cw cg q) (hK : ∀ b, K b → b < w.heap.size) (hG : GW w) : Calls prog 58 #[.agg (q.cl (.slice pi q.i.length ci) (.slice pw q.w.length cw) (.slice pg q.g.length cg))] w fun e w' => e = .returned (.bool (whereOkP q.w)) ∧ Bl w w' := by
 obtain ⟨s0, hs0⟩ := bya q.t
 obtain ⟨s1, hs1⟩ := bya q.j
 obtain ⟨s2, hs2⟩ := bya q.a
 obtain ⟨s3, hs3⟩ := bya q.b
 obtain ⟨ni, hni⟩ := gen q.i.length
 obtain ⟨nw, hnw⟩ := gen q.w.length
 obtain ⟨ng, hng⟩ := gen q.g.length
 have hcl : q.cl (.slice pi q.i.length ci) (.slice pw q.w.length cw) (.slice pg q.g.length cg) = #[.slice pi ni ci, .string s0, .string s1, .string s2, .string s3, .slice pw nw cw, .slice pg ng cg] := by unfold Qry.cl; rw [hs0, hs1, hs2, hs3, hni, hnw, hng]
 have HS : Hid (s0.data.toList = q.t ∧ s1.data.toList = q.j ∧ s2.data.toList = q.a ∧ s3.data.toList = q.b) := ⟨by rw [← hs0], by rw [← hs1], by rw [← hs2], by rw [← hs3]⟩
 have HN : Hid (q.i.length = ni ∧ q.w.length = nw ∧ q.g.length = ng) := ⟨hni, hnw, hng⟩
 obtain ⟨W0, hW0⟩ := gen (w.alloc (.cells #[.slice pi ni ci, .string s0, .string s1, .string s2, .string s3, .slice pw nw cw, .slice pg ng cg] 26))
 have hb0 : Bl w W0 := by rw [← hW0]; exact below_alloc _ _
 have hg0 : W0.heap[w.heap.size]? = some (.cells #[.slice pi ni ci, .string s0, .string s1, .string s2, .string s3, .slice pw nw cw, .slice pg ng cg] 26 (0, 0)) := by rw [← hW0]; exact heap_alloc_new w _
 have HQ := hid (h.below hK hb0)
 have HK0 : Hid (∀ b, K b → b < W0.heap.size) := fun b hb => nlt (hK b hb) hb0.size
 have HG := hid (hG.below hb0)
 have HB := hid hb0
 have HGC := hid hg0
 rw [hcl]
 clear h hK hG hb0 hg0 hs0 hs1 hs2 hs3 hni hnw hng hcl
 have c5 := cell_of_row (k := 5) (v := .slice pw nw cw) HGC.out rfl
 obtain ⟨R, hR⟩ := gen (rightP q.w)
 have C1 : Hid (Calls prog 34 #[.slice pw nw cw] W0 fun e w' => e = .returned (.bool R) ∧ Bl W0 w') := by have := right_w K pw cw q.w W0 HQ.out.lw HK0.out HG.out; rw [hR, HN.out.2.1] at this; exact this
 have HR : Hid (whereOkP q.w = (decide (q.w = []) || R)) := by show _ = _; rw [← hR]; rfl
 have hl0 := len_zero q.w
 rw [HN.out.2.1] at hl0
 have HL0 := hid hl0
 clear HS HN HQ HK0 HG HGC hR hl0
 by_cases he : nw = 0
 · have ye : ((nw : Int) == 0) = true := by simp [he]
   have HE : Hid (whereOkP q.w = true) := by show _ = _; rw [HR.out, decide_eq_true (HL0.out.1 he)]; rfl
   clear HR HL0 he C1
   go_enter func58, ntmps58
   go_wp2_with fail
   go_ret
   exact ⟨by rw [HE.out]; rfl, HB.out⟩
 · have ye : ((nw : Int) == 0) = false := bfn (by omega)
   have HE : Hid (whereOkP q.w = R) := by show _ = _; rw [HR.out, decide_eq_false (fun h => he (HL0.out.2 h))]; rfl
   clear HR HL0 he
   go_enter func58, ntmps58
   go_wp2_with fail
   refine C1.out.mono ?_
   rintro e w1 ⟨rfl, hb1⟩
   have HB1 : Hid (Bl w w1) := HB.out.trans (hb1.mono HB.out.size)
   clear C1 hb1 hW0
   go_wp2_with fail
   go_ret
   exact ⟨by rw [HE.out]; rfl, HB1.out⟩
theorem rightJoin_w (K : Nat → Prop) (pi pw pg : Option Addr) (ci cw cg : Nat) (q : Qry) (w : World) (h : QLsW K w pi pw pg ci cw cg q) (hK : ∀ b, K b → b < w.heap.size) (hG : GW w) : Calls prog 57 #[.agg (q.cl (.slice pi q.i.length ci) (.slice pw q.w.length cw) (.slice pg q.g.length cg))] w fun e w' => e = .returned (.bool (joinOkP q)) ∧ Bl w w' := by
 obtain ⟨s0, hs0⟩ := bya q.t
 obtain ⟨s1, hs1⟩ := bya q.j
 obtain ⟨s2, hs2⟩ := bya q.a
 obtain ⟨s3, hs3⟩ := bya q.b
 obtain ⟨ni, hni⟩ := gen q.i.length
 obtain ⟨nw, hnw⟩ := gen q.w.length
 obtain ⟨ng, hng⟩ := gen q.g.length
 have hcl : q.cl (.slice pi q.i.length ci) (.slice pw q.w.length cw) (.slice pg q.g.length cg) = #[.slice pi ni ci, .string s0, .string s1, .string s2, .string s3, .slice pw nw cw, .slice pg ng cg] := by unfold Qry.cl; rw [hs0, hs1, hs2, hs3, hni, hnw, hng]
 have HS : Hid (s0.data.toList = q.t ∧ s1.data.toList = q.j ∧ s2.data.toList = q.a ∧ s3.data.toList = q.b) := ⟨by rw [← hs0], by rw [← hs1], by rw [← hs2], by rw [← hs3]⟩
 have HN : Hid (q.i.length = ni ∧ q.w.length = nw ∧ q.g.length = ng) := ⟨hni, hnw, hng⟩
 obtain ⟨W0, hW0⟩ := gen (w.alloc (.cells #[.slice pi ni ci, .string s0, .string s1, .string s2, .string s3, .slice pw nw cw, .slice pg ng cg] 26))
 have hb0 : Bl w W0 := by rw [← hW0]; exact below_alloc _ _
 have hg0 : W0.heap[w.heap.size]? = some (.cells #[.slice pi ni ci, .string s0, .string s1, .string s2, .string s3, .slice pw nw cw, .slice pg ng cg] 26 (0, 0)) := by rw [← hW0]; exact heap_alloc_new w _
 have HQ := hid (h.below hK hb0)
 have HK0 : Hid (∀ b, K b → b < W0.heap.size) := fun b hb => nlt (hK b hb) hb0.size
 have HG := hid (hG.below hb0)
 have HB := hid hb0
 have HGC := hid hg0
 rw [hcl]
 clear h hK hG hb0 hg0 hs0 hs1 hs2 hs3 hni hnw hng hcl
 have c1 := cell_of_row (k := 1) (v := .string s0) HGC.out rfl
 have c2 := cell_of_row (k := 2) (v := .string s1) HGC.out rfl
 have c3 := cell_of_row (k := 3) (v := .string s2) HGC.out rfl
 have c4 := cell_of_row (k := 4) (v := .string s3) HGC.out rfl
 have hl0 : w.heap.size < W0.heap.size := (gsi HGC.out).1
 have HL : Hid (∀ V, Bl W0 V → V.cell? ⟨w.heap.size, 1, none⟩ = some (.string s0) ∧ V.cell? ⟨w.heap.size, 2, none⟩ = some (.string s1) ∧ V.cell? ⟨w.heap.size, 3, none⟩ = some (.string s2) ∧ V.cell? ⟨w.heap.size, 4, none⟩ = some (.string s3) ∧ Bl w V) := fun V hb => ⟨(hb.cell (p := ⟨w.heap.size, 1, none⟩) hl0).trans c1, (hb.cell (p := ⟨w.heap.size, 2, none⟩) hl0).trans c2, (hb.cell (p := ⟨w.heap.size, 3, none⟩) hl0).trans c3, (hb.cell (p := ⟨w.heap.size, 4, none⟩) hl0).trans c4, HB.out.trans (hb.mono HB.out.size)⟩
 have hsz : ∀ (s : ByteArray) (l : List UInt8), s.data.toList = l → l.length ≤ 140737488355328 → s.size ≤ 9223372036854775807 := fun s l h1 h2 => by
  have h3 : s.data.toList.length = s.size := by simp
  rw [h1] at h3
  omega
 have CN : Hid (Calls prog 56 #[.string s1] W0 fun e w' => e = .returned (.bool (isNameP q.j)) ∧ Bl W0 w') := by have := isName_any s1 W0 HG.out; rw [HS.out.2.1] at this; exact this
 have CA : Hid (∀ V, Bl W0 V → Calls prog 104 #[.string s2] V fun e w' => e = .returned (.bool (isColP q.a)) ∧ Bl V w') := fun V hb => by have := isCol_all s2 V (hsz s2 q.a HS.out.2.2.1 HQ.out.la) (HG.out.below hb); rw [HS.out.2.2.1] at this; exact this
 have CB : Hid (∀ V, Bl W0 V → Calls prog 104 #[.string s3] V fun e w' => e = .returned (.bool (isColP q.b)) ∧ Bl V w') := fun V hb => by have := isCol_all s3 V (hsz s3 q.b HS.out.2.2.2 HQ.out.lb) (HG.out.below hb); rw [HS.out.2.2.2] at this; exact this
 have HR : Hid (joinOkP q = if q.j = [] then decide (q.a = []) && decide (q.b = []) else isNameP q.j && (decide (q.j ≠ q.t) && (isColP q.a && isColP q.b))) := rfl
 clear HN HQ HK0 HG HGC hsz hl0
 by_cases hj : q.j = []
 · have HR1 : Hid (joinOkP q = (decide (q.a = []) && decide (q.b = []))) := by show _ = _; rw [HR.out, if_pos hj]
   have t1j : (s1.toList == (⟨#[]⟩ : ByteArray).toList) = true := by rw [Lib.toList_data, HS.out.2.1, hj, empty_toList]; rfl
   have t2j : (s1.toList == []) = true := by rw [Lib.toList_data, HS.out.2.1, hj]; rfl
   by_cases ha : q.a = []
   · skip
     have t1a : (s2.toList == (⟨#[]⟩ : ByteArray).toList) = true := by rw [Lib.toList_data, HS.out.2.2.1, ha, empty_toList]; rfl
     have t2a : (s2.toList == []) = true := by rw [Lib.toList_data, HS.out.2.2.1, ha]; rfl
     by_cases hbb : q.b = []
     · have HE : Hid (joinOkP q = true) := by show _ = _; rw [HR1.out, decide_eq_true ha, decide_eq_true hbb]; rfl
       have t1b : (s3.toList == (⟨#[]⟩ : ByteArray).toList) = true := by rw [Lib.toList_data, HS.out.2.2.2, hbb, empty_toList]; rfl
       have t2b : (s3.toList == []) = true := by rw [Lib.toList_data, HS.out.2.2.2, hbb]; rfl
       clear HR1 HR HS HL CN CA CB hj ha hbb
       go_enter func57, ntmps57
       go_wp2_with fail
       go_ret
       exact ⟨by rw [HE.out]; rfl, HB.out⟩
     · have HE : Hid (joinOkP q = false) := by show _ = _; rw [HR1.out, decide_eq_true ha, decide_eq_false hbb]; rfl
       have t1b : (s3.toList == (⟨#[]⟩ : ByteArray).toList) = false := by rw [Lib.toList_data, HS.out.2.2.2, empty_toList]; exact bfn hbb
       have t2b : (s3.toList == []) = false := by rw [Lib.toList_data, HS.out.2.2.2]; exact bfn hbb
       clear HR1 HR HS HL CN CA CB hj ha hbb
       go_enter func57, ntmps57
       go_wp2_with fail
       go_ret
       exact ⟨by rw [HE.out]; rfl, HB.out⟩
   · have HE : Hid (joinOkP q = false) := by show _ = _; rw [HR1.out, decide_eq_false ha]; rfl
     have t1a : (s2.toList == (⟨#[]⟩ : ByteArray).toList) = false := by rw [Lib.toList_data, HS.out.2.2.1, empty_toList]; exact bfn ha
     have t2a : (s2.toList == []) = false := by rw [Lib.toList_data, HS.out.2.2.1]; exact bfn ha
     clear HR1 HR HS HL CN CA CB hj ha
     go_enter func57, ntmps57
     go_wp2_with fail
     go_ret
     exact ⟨by rw [HE.out]; rfl, HB.out⟩
 · have HR1 : Hid (joinOkP q = (isNameP q.j && (decide (q.j ≠ q.t) && (isColP q.a && isColP q.b)))) := by show _ = _; rw [HR.out, if_neg hj]
   have t1j : (s1.toList == (⟨#[]⟩ : ByteArray).toList) = false := by rw [Lib.toList_data, HS.out.2.1, empty_toList]; exact bfn hj
   have t2j : (s1.toList == []) = false := by rw [Lib.toList_data, HS.out.2.1]; exact bfn hj
   obtain ⟨N, hN⟩ := gen (isNameP q.j)
   obtain ⟨A, hA⟩ := gen (isColP q.a)
   obtain ⟨D, hD⟩ := gen (isColP q.b)
   rw [hN] at CN
   rw [hA] at CA
   rw [hD] at CB
   have HR2 : Hid (joinOkP q = (N && (decide (q.j ≠ q.t) && (A && D)))) := by show _ = _; rw [HR1.out, hN, hA, hD]
   clear HR HR1 hj hN hA hD
   go_enter func57, ntmps57
   go_wp2_with fail
   refine CN.out.mono ?_
   rintro e w1 ⟨rfl, hb1⟩
   obtain ⟨d1, d2, d3, d4, hbw⟩ := HL.out w1 hb1
   have HB1 := hid hb1
   have HBW := hid hbw
   clear CN hb1 c1 c2 c3 c4 hbw hW0
   cases N with
   | false =>
    have HE : Hid (joinOkP q = false) := HR2.out
    clear HR2 CA CB HL HS
    go_wp2_with fail
    go_ret
    exact ⟨by rw [HE.out]; rfl, HBW.out⟩
   | true =>
    by_cases hjt : q.j = q.t
    · have yjt : (s1.toList == s0.toList) = true := by rw [Lib.toList_data, Lib.toList_data, HS.out.1, HS.out.2.1, hjt]; simp
      have yjt2 : (s1.toList != s0.toList) = false := by rw [Lib.toList_data, Lib.toList_data, HS.out.1, HS.out.2.1, hjt]; simp
      have HE : Hid (joinOkP q = false) := by show _ = _; rw [HR2.out, decide_eq_false (by simpa using hjt)]; rfl
      clear HR2 CA CB HL HS hjt
      go_wp2_with fail
      go_ret
      exact ⟨by rw [HE.out]; rfl, HBW.out⟩
    · have yjt : (s1.toList == s0.toList) = false := by rw [Lib.toList_data, Lib.toList_data, HS.out.1, HS.out.2.1]; exact bfn hjt
      have yjt2 : (s1.toList != s0.toList) = true := by rw [Lib.toList_data, Lib.toList_data, HS.out.1, HS.out.2.1]; exact bne_iff_ne.2 hjt
      have HR3 : Hid (joinOkP q = (A && D)) := by show _ = _; rw [HR2.out, decide_eq_true hjt]; simp
      have C2 := hid (CA.out w1 HB1.out)
      clear HR2 CA HS hjt
      go_wp2_with fail
      refine C2.out.mono ?_
      rintro e w2 ⟨rfl, hb2⟩
      have hb2' : Bl W0 w2 := HB1.out.trans (hb2.mono HB1.out.size)
      obtain ⟨_, _, _, e4, hbw⟩ := HL.out w2 hb2'
      have HBW2 := hid hbw
      have C3 := hid (CB.out w2 hb2')
      clear C2 hb2 d1 d2 d3 d4 hbw CB HL HB1 HBW hb2'
      cases A with
      | false =>
       have HE : Hid (joinOkP q = false) := HR3.out
       clear HR3 C3
       go_wp2_with fail
       go_ret
       exact ⟨by rw [HE.out]; rfl, HBW2.out⟩
      | true =>
       have HE : Hid (joinOkP q = D) := HR3.out
       clear HR3
       go_wp2_with fail
       refine C3.out.mono ?_
       rintro e w3 ⟨rfl, hb3⟩
       have HBW3 : Hid (Bl w w3) := HBW2.out.trans (hb3.mono HBW2.out.size)
       clear C3 hb3
       go_wp2_with fail
       go_ret
       exact ⟨by rw [HE.out]; rfl, HBW3.out⟩
theorem str_len_w {K : Nat → Prop} {w : World} {q : Option Addr} {n c : Nat} {l : List (List UInt8)} (h : ListIs rStrW 1 16 K w (.slice q n c) l) (i : Nat) (hi : i < l.length) : (l[i]).length ≤ 140737488355328 := by
 obtain ⟨_, _, _, _, hp⟩ := h
 obtain ⟨_, _, _, _, hc⟩ := hp (by omega)
 obtain ⟨_, _, _, _, hl⟩ := hc i hi
 exact hl
theorem rightItems_w (K : Nat → Prop) (pi pw pg : Option Addr) (ci cw cg : Nat) (q : Qry) (w : World) (h : QLsW K w pi pw pg ci cw cg q) (hK : ∀ b, K b → b < w.heap.size) (hG : GW w) : Calls prog 59 #[.agg (q.cl (.slice pi q.i.length ci) (.slice pw q.w.length cw) (.slice pg q.g.length cg))] w fun e w' => e = .returned (.bool (itemsOkP q.i)) ∧ Bl w w' := by
 obtain ⟨s0, hs0⟩ := bya q.t
 obtain ⟨s1, hs1⟩ := bya q.j
 obtain ⟨s2, hs2⟩ := bya q.a
 obtain ⟨s3, hs3⟩ := bya q.b
 obtain ⟨ni, hni⟩ := gen q.i.length
 obtain ⟨nw, hnw⟩ := gen q.w.length
 obtain ⟨ng, hng⟩ := gen q.g.length
 have hcl : q.cl (.slice pi q.i.length ci) (.slice pw q.w.length cw) (.slice pg q.g.length cg) = #[.slice pi ni ci, .string s0, .string s1, .string s2, .string s3, .slice pw nw cw, .slice pg ng cg] := by unfold Qry.cl; rw [hs0, hs1, hs2, hs3, hni, hnw, hng]
 have HS : Hid (s0.data.toList = q.t ∧ s1.data.toList = q.j ∧ s2.data.toList = q.a ∧ s3.data.toList = q.b) := ⟨by rw [← hs0], by rw [← hs1], by rw [← hs2], by rw [← hs3]⟩
 have HN : Hid (q.i.length = ni ∧ q.w.length = nw ∧ q.g.length = ng) := ⟨hni, hnw, hng⟩
 obtain ⟨W0, hW0⟩ := gen (w.alloc (.cells #[.slice pi ni ci, .string s0, .string s1, .string s2, .string s3, .slice pw nw cw, .slice pg ng cg] 26))
 have hb0 : Bl w W0 := by rw [← hW0]; exact below_alloc _ _
 have hg0 : W0.heap[w.heap.size]? = some (.cells #[.slice pi ni ci, .string s0, .string s1, .string s2, .string s3, .slice pw nw cw, .slice pg ng cg] 26 (0, 0)) := by rw [← hW0]; exact heap_alloc_new w _
 have HQ := hid (h.below hK hb0)
 have HK0 : Hid (∀ b, K b → b < W0.heap.size) := fun b hb => nlt (hK b hb) hb0.size
 have HG := hid (hG.below hb0)
 have HB := hid hb0
 have HGC := hid hg0
 rw [hcl]
 clear h hK hG hb0 hg0 hs0 hs1 hs2 hs3 hni hnw hng hcl
 have c0 := cell_of_row (k := 0) (v := .slice pi ni ci) HGC.out rfl
 obtain ⟨R, hR⟩ := gen (itemsOkP q.i)
 have HR : Hid ((if 8 < ni then false else q.i.all itemOkP) = R) := by show _ = _; rw [← HN.out.1]; exact hR
 rw [hR]
 clear hR HS HGC
 by_cases h8 : 8 < ni
 · have y8 : (8 : Int) < (ni : Int) := by omega
   have HE : Hid (R = false) := by have := HR.out; rw [if_pos h8] at this; exact this.symm
   clear HR h8 HN HQ HK0 HG
   go_enter func59, ntmps59
   go_wp2_with fail
   go_ret
   exact ⟨by rw [HE.out]; rfl, HB.out⟩
 · have y8 : ¬ (8 : Int) < (ni : Int) := by omega
   have HT0 : Hid ((q.i.drop 0).all itemOkP = R) := by have := HR.out; rw [if_neg h8] at this; exact this
   clear HR
   go_enter func59, ntmps59
   go_wp2_with fail
   go_loopg [12] ni (fun gf s12 wx => ∃ (i : Nat), s12 = .int .i64 i ∧ i ≤ ni ∧ ni ≤ i + gf ∧ Hid (Bl W0 wx) ∧ Hid ((q.i.drop i).all itemOkP = R))
   case atStart => exact ⟨0, rfl, by omega, by omega, Below.refl _ _, HT0⟩
   case round =>
    clear HT0 c0 hW0
    obtain ⟨i, rfl, hi1, hgf, HBX, HT⟩ := hrel
    by_cases hi : i < ni
    · obtain ⟨g', rfl⟩ : ∃ g', gk = g' + 1 := ⟨gk - 1, by omega⟩
      have hiq : i < q.i.length := by rw [HN.out.1]; exact hi
      obtain ⟨b, o, hq, _, hc⟩ := itm_w (HQ.out.li.mono mItmW (fun _ h => h) (kept_of HK0.out HBX.out)) (by omega)
      subst hq
      obtain ⟨p, cp, hrg, hli, h256⟩ := hc i hiq
      have hdr : q.i.drop i = q.i[i] :: q.i.drop (i + 1) := List.drop_eq_getElem_cons hiq
      have hT := HT.out
      rw [hdr, List.all_cons] at hT
      obtain ⟨y, hy⟩ := gen (q.i[i])
      rw [hy] at hrg hli h256 hT
      obtain ⟨gi, hgi⟩ : ∃ gi : Int, (y.g : Int) = gi := ⟨_, rfl⟩
      obtain ⟨m, hm⟩ := gen y.e.length
      rw [hgi, hm] at hrg
      have HRG := hid hrg
      obtain ⟨WA, hWA, hth, W1, hW1, hg1, hb1⟩ := box_two wr 42 (.int .u8 0) (.slice none 0 0) (.int .u8 gi) (.slice p m cp)
      have HTH := hid hth
      have HW1 := hid hW1
      have HR1 : Hid (W1.rangeAt wr.heap.size 0 [.int .u8 gi, .slice p m cp]) := rgz hg1
      have hbx := HBX.out
      have hbX : Bl W0 W1 := hbx.trans (hb1.mono hbx.size)
      have hKW : ∀ b, K b → b < wr.heap.size := fun b hb => nlt (HK0.out b hb) hbx.size
      obtain ⟨Y, hY⟩ := gen (itemOkP y)
      have C : Hid (Calls prog 105 #[.agg #[.int .u8 gi, .slice p m cp]] W1 fun e w' => e = .returned (.bool Y) ∧ Bl W1 w') := by have := rightItem_w K y p cp W1 (hli.mono mStpW (fun _ h => h) (kept_of hKW hb1)) h256 (fun b hb => nlt (hKW b hb) hb1.size) (HG.out.below hbX); rw [hgi, hm, hY] at this; exact this
      have HBX1 := hid hbX
      have HT2 : Hid ((Y && (q.i.drop (i + 1)).all itemOkP) = R) := by rw [hY] at hT; exact hT
      have z0 : (0 : Int) ≤ (i : Int) := by omega
      have z1 : (i : Int) < (ni : Int) := by omega
      clear hc hrg hli h256 hdr hT hy hgi hm hth hW1 hg1 hb1 hbx hbX hKW hY HT HBX hiq
      go_wp2_with (first | (refine wpList_load_mid rfl 42 _ rfl b (o + i * 2) rfl _ _ HRG.out underlying42 rfl sz_item ?_) | (refine wpList_store_mid rfl 42 _ _ rfl wr.heap.size 0 #[.int .u8 gi, .slice p m cp] rfl rfl HTH.out sz_item (by simp [Value.oneCell']) ?_; rw [show WA.setCells wr.heap.size 0 (#[.int .u8 gi, .slice p m cp] : Array Value).toList = W1 from HW1.out]) | (refine wpList_load_mid rfl 42 _ rfl wr.heap.size 0 rfl _ _ HR1.out underlying42 rfl sz_item ?_))
      refine C.out.mono ?_
      rintro e w2 ⟨rfl, hb2⟩
      have HBX2 : Hid (Bl W0 w2) := HBX1.out.trans (hb2.mono HBX1.out.size)
      clear C hb2 HBX1 HRG HTH HW1 HR1 hWA
      cases Y with
      | false =>
       have HE : Hid (R = false) := HT2.out.symm
       have HBW : Hid (Bl w w2) := HB.out.trans (HBX2.out.mono HB.out.size)
       clear HT2 HN HQ HK0 HG
       go_wp2_with fail
       go_ret
       exact ⟨by rw [HE.out]; rfl, HBW.out⟩
      | true =>
       have HT3 : Hid ((q.i.drop (i + 1)).all itemOkP = R) := HT2.out
       clear HT2
       go_wp2_with fail
       go_roundg g'
       case measure => omega
       case rel => exact ⟨i + 1, by go_num, by omega, by omega, HBX2, HT3⟩
    · have z1 : ¬ (i : Int) < (ni : Int) := by omega
      have HE : Hid (R = true) := by
       have := HT.out
       rw [List.drop_of_length_le (by rw [HN.out.1]; omega)] at this
       exact this.symm
      have HBW : Hid (Bl w wr) := HB.out.trans (HBX.out.mono HB.out.size)
      clear HT HN HQ HK0 HG HBX
      go_wp2_with fail
      go_ret
      exact ⟨by rw [HE.out]; rfl, HBW.out⟩
theorem rightGroup_w (K : Nat → Prop) (pi pw pg : Option Addr) (ci cw cg : Nat) (q : Qry) (w : World) (h : QLsW K w pi pw pg ci cw cg q) (hK : ∀ b, K b → b < w.heap.size) (hG : GW w) : Calls prog 60 #[.agg (q.cl (.slice pi q.i.length ci) (.slice pw q.w.length cw) (.slice pg q.g.length cg))] w fun e w' => e = .returned (.bool (groupOkP q)) ∧ Bl w w' := by
 obtain ⟨s0, hs0⟩ := bya q.t
 obtain ⟨s1, hs1⟩ := bya q.j
 obtain ⟨s2, hs2⟩ := bya q.a
 obtain ⟨s3, hs3⟩ := bya q.b
 obtain ⟨ni, hni⟩ := gen q.i.length
 obtain ⟨nw, hnw⟩ := gen q.w.length
 obtain ⟨ng, hng⟩ := gen q.g.length
 have hcl : q.cl (.slice pi q.i.length ci) (.slice pw q.w.length cw) (.slice pg q.g.length cg) = #[.slice pi ni ci, .string s0, .string s1, .string s2, .string s3, .slice pw nw cw, .slice pg ng cg] := by unfold Qry.cl; rw [hs0, hs1, hs2, hs3, hni, hnw, hng]
 have HS : Hid (s0.data.toList = q.t ∧ s1.data.toList = q.j ∧ s2.data.toList = q.a ∧ s3.data.toList = q.b) := ⟨by rw [← hs0], by rw [← hs1], by rw [← hs2], by rw [← hs3]⟩
 have HN : Hid (q.i.length = ni ∧ q.w.length = nw ∧ q.g.length = ng) := ⟨hni, hnw, hng⟩
 obtain ⟨W0, hW0⟩ := gen (w.alloc (.cells #[.slice pi ni ci, .string s0, .string s1, .string s2, .string s3, .slice pw nw cw, .slice pg ng cg] 26))
 have hb0 : Bl w W0 := by rw [← hW0]; exact below_alloc _ _
 have hg0 : W0.heap[w.heap.size]? = some (.cells #[.slice pi ni ci, .string s0, .string s1, .string s2, .string s3, .slice pw nw cw, .slice pg ng cg] 26 (0, 0)) := by rw [← hW0]; exact heap_alloc_new w _
 have HQ := hid (h.below hK hb0)
 have HK0 : Hid (∀ b, K b → b < W0.heap.size) := fun b hb => nlt (hK b hb) hb0.size
 have HG := hid (hG.below hb0)
 have HB := hid hb0
 have HGC := hid hg0
 rw [hcl]
 clear h hK hG hb0 hg0 hs0 hs1 hs2 hs3 hni hnw hng hcl
 have c0 := cell_of_row (k := 0) (v := .slice pi ni ci) HGC.out rfl
 have c6 := cell_of_row (k := 6) (v := .slice pg ng cg) HGC.out rfl
 have hl0 : w.heap.size < W0.heap.size := (gsi HGC.out).1
 have HL : Hid (∀ V, Bl W0 V → V.cell? ⟨w.heap.size, 0, none⟩ = some (.slice pi ni ci) ∧ V.cell? ⟨w.heap.size, 6, none⟩ = some (.slice pg ng cg) ∧ Bl w V) := fun V hb => ⟨(hb.cell (p := ⟨w.heap.size, 0, none⟩) hl0).trans c0, (hb.cell (p := ⟨w.heap.size, 6, none⟩) hl0).trans c6, HB.out.trans (hb.mono HB.out.size)⟩
 obtain ⟨R, hR⟩ := gen (groupOkP q)
 have HR : Hid ((if 8 < ng then false else if q.g.all isColP = false then false else decide (q.g = []) || decide (q.i ≠ [])) = R) := by show _ = _; rw [← HN.out.2.2]; exact hR
 rw [hR]
 clear hR HS HGC hl0
 by_cases h8 : 8 < ng
 · have y8 : (8 : Int) < (ng : Int) := by omega
   have HE : Hid (R = false) := by have := HR.out; rw [if_pos h8] at this; exact this.symm
   clear HR h8 HN HQ HK0 HG HL
   go_enter func60, ntmps60
   go_wp2_with fail
   go_ret
   exact ⟨by rw [HE.out]; rfl, HB.out⟩
 · have y8 : ¬ (8 : Int) < (ng : Int) := by omega
   have HT0 : Hid ((if (q.g.drop 0).all isColP = false then false else decide (q.g = []) || decide (q.i ≠ [])) = R) := by have := HR.out; rw [if_neg h8] at this; exact this
   clear HR
   go_enter func60, ntmps60
   go_wp2_with fail
   go_loopg [12] ng (fun gf s12 wx => ∃ (i : Nat), s12 = .int .i64 i ∧ i ≤ ng ∧ ng ≤ i + gf ∧ Hid (Bl W0 wx) ∧ Hid ((if (q.g.drop i).all isColP = false then false else decide (q.g = []) || decide (q.i ≠ [])) = R))
   case atStart => exact ⟨0, rfl, by omega, by omega, Below.refl _ _, HT0⟩
   case round =>
    clear HT0 c0 c6 hW0
    obtain ⟨i, rfl, hi1, hgf, HBX, HT⟩ := hrel
    by_cases hi : i < ng
    · obtain ⟨g', rfl⟩ : ∃ g', gk = g' + 1 := ⟨gk - 1, by omega⟩
      have hiq : i < q.g.length := by rw [HN.out.2.2]; exact hi
      obtain ⟨b, o, hq, _, hc⟩ := str_w (HQ.out.lg.mono mStrW (fun _ h => h) (kept_of HK0.out HBX.out)) (by omega)
      have hlen := str_len_w HQ.out.lg i hiq
      subst hq
      have hcell := hc i hiq
      have hdr : q.g.drop i = q.g[i] :: q.g.drop (i + 1) := List.drop_eq_getElem_cons hiq
      have hT := HT.out
      rw [hdr, List.all_cons] at hT
      obtain ⟨y, hy⟩ := gen (q.g[i])
      rw [hy] at hcell hlen hT
      obtain ⟨S, hS⟩ := bya y
      have hSl : S.data.toList = y := by rw [← hS]
      rw [hS] at hcell
      obtain ⟨Y, hY⟩ := gen (isColP y)
      have C : Hid (Calls prog 104 #[.string S] wr fun e w' => e = .returned (.bool Y) ∧ Bl wr w') := by
       have h3 : S.data.toList.length = S.size := by simp
       rw [hSl] at h3
       have := isCol_all S wr (by omega) (HG.out.below HBX.out)
       rw [hSl, hY] at this
       exact this
      have HT2 : Hid ((if (Y && (q.g.drop (i + 1)).all isColP) = false then false else decide (q.g = []) || decide (q.i ≠ [])) = R) := by rw [hY] at hT; exact hT
      have z0 : (0 : Int) ≤ (i : Int) := by omega
      have z1 : (i : Int) < (ng : Int) := by omega
      clear hc hdr hT hy hlen hS hSl hY HT hiq
      go_wp2_with fail
      refine C.out.mono ?_
      rintro e w2 ⟨rfl, hb2⟩
      have HBX2 : Hid (Bl W0 w2) := HBX.out.trans (hb2.mono HBX.out.size)
      clear C hb2 HBX hcell
      cases Y with
      | false =>
       have HE : Hid (R = false) := by have := HT2.out; rw [if_pos (Bool.false_and _)] at this; exact this.symm
       have HBW : Hid (Bl w w2) := HB.out.trans (HBX2.out.mono HB.out.size)
       clear HT2 HN HQ HK0 HG HL
       go_wp2_with fail
       go_ret
       exact ⟨by rw [HE.out]; rfl, HBW.out⟩
      | true =>
       have HT3 : Hid ((if (q.g.drop (i + 1)).all isColP = false then false else decide (q.g = []) || decide (q.i ≠ [])) = R) := HT2.out
       clear HT2
       go_wp2_with fail
       go_roundg g'
       case measure => omega
       case rel => exact ⟨i + 1, by go_num, by omega, by omega, HBX2, HT3⟩
    · have z1 : ¬ (i : Int) < (ng : Int) := by omega
      have HE0 : Hid ((decide (q.g = []) || decide (q.i ≠ [])) = R) := by
       have := HT.out
       rw [List.drop_of_length_le (by rw [HN.out.2.2]; omega)] at this
       exact this
      obtain ⟨d0, d6, hbw⟩ := HL.out wr HBX.out
      have HBW := hid hbw
      have hz1 := len_zero q.g
      have hz2 := len_zero q.i
      rw [HN.out.2.2] at hz1
      rw [HN.out.1] at hz2
      have HZ1 := hid hz1
      have HZ2 := hid hz2
      clear HT HN HQ HK0 HG HBX HL hbw hz1 hz2
      by_cases hg0 : ng = 0
      · have yg : ((ng : Int) == 0) = true := by simp [hg0]
        have HE : Hid (R = true) := by have := HE0.out; rw [decide_eq_true (HZ1.out.1 hg0)] at this; exact this.symm
        clear HE0 HZ1 HZ2 hg0
        go_wp2_with fail
        go_ret
        exact ⟨by rw [HE.out]; rfl, HBW.out⟩
      · have yg : ((ng : Int) == 0) = false := bfn (by omega)
        have HE1 : Hid (decide (q.i ≠ []) = R) := by have := HE0.out; rw [decide_eq_false (fun h => hg0 (HZ1.out.2 h))] at this; exact this
        by_cases hi0 : ni = 0
        · have yi : ¬ (0 : Int) < (ni : Int) := by omega
          have HE : Hid (R = false) := by have := HE1.out; rw [decide_eq_false (by rw [HZ2.out.1 hi0]; simp)] at this; exact this.symm
          clear HE0 HE1 HZ1 HZ2 hg0
          subst hi0
          go_wp2_with fail
          go_ret
          exact ⟨by rw [HE.out]; rfl, HBW.out⟩
        · have yi : (0 : Int) < (ni : Int) := by omega
          have ydi : decide (0 < ni) = true := decide_eq_true (by omega)
          have HE : Hid (R = true) := by have := HE1.out; rw [decide_eq_true (show q.i ≠ [] from fun h => hi0 (HZ2.out.2 h))] at this; exact this.symm
          clear HE0 HE1 HZ1 HZ2 hg0 hi0
          go_wp2_with fail
          go_ret
          exact ⟨by rw [HE.out]; rfl, HBW.out⟩
theorem check_w (K : Nat → Prop) (pi pw pg : Option Addr) (ci cw cg : Nat) (q : Qry) (w : World) (h : QLsW K w pi pw pg ci cw cg q) (hK : ∀ b, K b → b < w.heap.size) (hG : GW w) : Calls prog 22 #[.agg (q.cl (.slice pi q.i.length ci) (.slice pw q.w.length cw) (.slice pg q.g.length cg))] w fun e w' => e = .returned (.int .i64 (checkQ q)) ∧ Bl w w' := by
 obtain ⟨s0, hs0⟩ := bya q.t
 obtain ⟨s1, hs1⟩ := bya q.j
 obtain ⟨s2, hs2⟩ := bya q.a
 obtain ⟨s3, hs3⟩ := bya q.b
 obtain ⟨ni, hni⟩ := gen q.i.length
 obtain ⟨nw, hnw⟩ := gen q.w.length
 obtain ⟨ng, hng⟩ := gen q.g.length
 have hcl : q.cl (.slice pi q.i.length ci) (.slice pw q.w.length cw) (.slice pg q.g.length cg) = #[.slice pi ni ci, .string s0, .string s1, .string s2, .string s3, .slice pw nw cw, .slice pg ng cg] := by unfold Qry.cl; rw [hs0, hs1, hs2, hs3, hni, hnw, hng]
 have HS : Hid (s0.data.toList = q.t ∧ s1.data.toList = q.j ∧ s2.data.toList = q.a ∧ s3.data.toList = q.b) := ⟨by rw [← hs0], by rw [← hs1], by rw [← hs2], by rw [← hs3]⟩
 have HN : Hid (q.i.length = ni ∧ q.w.length = nw ∧ q.g.length = ng) := ⟨hni, hnw, hng⟩
 obtain ⟨W0, hW0⟩ := gen (w.alloc (.cells #[.slice pi ni ci, .string s0, .string s1, .string s2, .string s3, .slice pw nw cw, .slice pg ng cg] 26))
 have hb0 : Bl w W0 := by rw [← hW0]; exact below_alloc _ _
 have hg0 : W0.heap[w.heap.size]? = some (.cells #[.slice pi ni ci, .string s0, .string s1, .string s2, .string s3, .slice pw nw cw, .slice pg ng cg] 26 (0, 0)) := by rw [← hW0]; exact heap_alloc_new w _
 have HQ := hid (h.below hK hb0)
 have HK0 : Hid (∀ b, K b → b < W0.heap.size) := fun b hb => nlt (hK b hb) hb0.size
 have HG := hid (hG.below hb0)
 have HB := hid hb0
 have HGC := hid hg0
 rw [hcl]
 clear h hK hG hb0 hg0 hs0 hs1 hs2 hs3 hni hnw hng hcl
 have c1 := cell_of_row (k := 1) (v := .string s0) HGC.out rfl
 have hl0 : w.heap.size < W0.heap.size := (gsi HGC.out).1
 have HL : Hid (∀ V, Bl W0 V → V.rangeAt w.heap.size 0 [.slice pi ni ci, .string s0, .string s1, .string s2, .string s3, .slice pw nw cw, .slice pg ng cg] ∧ Bl w V) := fun V hb => ⟨rgz ((hb.block _ hl0).trans HGC.out), HB.out.trans (hb.mono HB.out.size)⟩
 have hqc : q.cl (.slice pi q.i.length ci) (.slice pw q.w.length cw) (.slice pg q.g.length cg) = #[.slice pi ni ci, .string s0, .string s1, .string s2, .string s3, .slice pw nw cw, .slice pg ng cg] := by
  have e : ∀ (s : ByteArray) (l : List UInt8), s.data.toList = l → (⟨l.toArray⟩ : ByteArray) = s := fun s l h => by subst h; rfl
  unfold Qry.cl
  rw [e s0 _ HS.out.1, e s1 _ HS.out.2.1, e s2 _ HS.out.2.2.1, e s3 _ HS.out.2.2.2, HN.out.1, HN.out.2.1, HN.out.2.2]
 have C0 : Hid (Calls prog 56 #[.string s0] W0 fun e w' => e = .returned (.bool (isNameP q.t)) ∧ Bl W0 w') := by have := isName_any s0 W0 HG.out; rw [HS.out.1] at this; exact this
 have D1 : Hid (∀ V, Bl W0 V → Calls prog 57 #[.agg #[.slice pi ni ci, .string s0, .string s1, .string s2, .string s3, .slice pw nw cw, .slice pg ng cg]] V fun e w' => e = .returned (.bool (joinOkP q)) ∧ Bl V w') := fun V hb => by have := rightJoin_w K pi pw pg ci cw cg q V (HQ.out.below HK0.out hb) (fun b h => nlt (HK0.out b h) hb.size) (HG.out.below hb); rw [hqc] at this; exact this
 have D2 : Hid (∀ V, Bl W0 V → Calls prog 58 #[.agg #[.slice pi ni ci, .string s0, .string s1, .string s2, .string s3, .slice pw nw cw, .slice pg ng cg]] V fun e w' => e = .returned (.bool (whereOkP q.w)) ∧ Bl V w') := fun V hb => by have := rightWhere_w K pi pw pg ci cw cg q V (HQ.out.below HK0.out hb) (fun b h => nlt (HK0.out b h) hb.size) (HG.out.below hb); rw [hqc] at this; exact this
 have D3 : Hid (∀ V, Bl W0 V → Calls prog 59 #[.agg #[.slice pi ni ci, .string s0, .string s1, .string s2, .string s3, .slice pw nw cw, .slice pg ng cg]] V fun e w' => e = .returned (.bool (itemsOkP q.i)) ∧ Bl V w') := fun V hb => by have := rightItems_w K pi pw pg ci cw cg q V (HQ.out.below HK0.out hb) (fun b h => nlt (HK0.out b h) hb.size) (HG.out.below hb); rw [hqc] at this; exact this
 have D4 : Hid (∀ V, Bl W0 V → Calls prog 60 #[.agg #[.slice pi ni ci, .string s0, .string s1, .string s2, .string s3, .slice pw nw cw, .slice pg ng cg]] V fun e w' => e = .returned (.bool (groupOkP q)) ∧ Bl V w') := fun V hb => by have := rightGroup_w K pi pw pg ci cw cg q V (HQ.out.below HK0.out hb) (fun b h => nlt (HK0.out b h) hb.size) (HG.out.below hb); rw [hqc] at this; exact this
 obtain ⟨b0, hb0⟩ := gen (isNameP q.t)
 obtain ⟨b1, hb1⟩ := gen (joinOkP q)
 obtain ⟨b2, hb2⟩ := gen (whereOkP q.w)
 obtain ⟨b3, hb3⟩ := gen (itemsOkP q.i)
 obtain ⟨b4, hb4⟩ := gen (groupOkP q)
 rw [hb0] at C0
 rw [hb1] at D1
 rw [hb2] at D2
 rw [hb3] at D3
 rw [hb4] at D4
 have HE0 : Hid (checkQ q = if (b0 && (b1 && (b2 && (b3 && b4)))) then 0 else 13) := by show _ = _; rw [← hb0, ← hb1, ← hb2, ← hb3, ← hb4]; rfl
 obtain ⟨R, hR⟩ := gen (checkQ q)
 rw [hR] at HE0 ⊢
 clear hqc hl0 HS HN HQ HK0 HG HGC hb0 hb1 hb2 hb3 hb4 hR
 go_enter func22, ntmps22
 go_wp2_with fail
 refine C0.out.mono ?_
 rintro e w1 ⟨rfl, hx1⟩
 have HX1 := hid hx1
 clear C0 hx1 c1 hW0
 obtain ⟨hrg, hbw⟩ := HL.out w1 HX1.out
 have HRG := hid hrg
 have HBW := hid hbw
 clear hrg hbw
 cases b0 with
 | false =>
  have HE : Hid (R = 13) := HE0.out
  clear HE0 HL D1 D2 D3 D4 HX1 HRG
  go_wp2_with fail
  go_ret
  exact ⟨by rw [HE.out]; rfl, HBW.out⟩
 | true =>
  have C := hid (D1.out w1 HX1.out)
  clear D1 HBW
  go_wp2_with (first | (refine wpList_load_midH (by rfl) 26 _ rfl w.heap.size 0 rfl _ _ HRG.out underlying26 rfl sz_qry ?_))
  refine C.out.mono ?_
  rintro e w2 ⟨rfl, hx⟩
  have HX2 : Hid (Bl W0 w2) := HX1.out.trans (hx.mono HX1.out.size)
  clear C hx HX1 HRG
  obtain ⟨hrg, hbw⟩ := HL.out w2 HX2.out
  have HRG := hid hrg
  have HBW := hid hbw
  clear hrg hbw
  cases b1 with
  | false =>
   have HE : Hid (R = 13) := HE0.out
   clear HE0 HL D2 D3 D4 HX2 HRG
   go_wp2_with fail
   go_ret
   exact ⟨by rw [HE.out]; rfl, HBW.out⟩
  | true =>
   have C := hid (D2.out w2 HX2.out)
   clear D2 HBW
   go_wp2_with (first | (refine wpList_load_midH (by rfl) 26 _ rfl w.heap.size 0 rfl _ _ HRG.out underlying26 rfl sz_qry ?_))
   refine C.out.mono ?_
   rintro e w3 ⟨rfl, hx⟩
   have HX3 : Hid (Bl W0 w3) := HX2.out.trans (hx.mono HX2.out.size)
   clear C hx HX2 HRG
   obtain ⟨hrg, hbw⟩ := HL.out w3 HX3.out
   have HRG := hid hrg
   have HBW := hid hbw
   clear hrg hbw
   cases b2 with
   | false =>
    have HE : Hid (R = 13) := HE0.out
    clear HE0 HL D3 D4 HX3 HRG
    go_wp2_with fail
    go_ret
    exact ⟨by rw [HE.out]; rfl, HBW.out⟩
   | true =>
    have C := hid (D3.out w3 HX3.out)
    clear D3 HBW
    go_wp2_with (first | (refine wpList_load_midH (by rfl) 26 _ rfl w.heap.size 0 rfl _ _ HRG.out underlying26 rfl sz_qry ?_))
    refine C.out.mono ?_
    rintro e w4 ⟨rfl, hx⟩
    have HX4 : Hid (Bl W0 w4) := HX3.out.trans (hx.mono HX3.out.size)
    clear C hx HX3 HRG
    obtain ⟨hrg, hbw⟩ := HL.out w4 HX4.out
    have HRG := hid hrg
    have HBW := hid hbw
    clear hrg hbw
    cases b3 with
    | false =>
     have HE : Hid (R = 13) := HE0.out
     clear HE0 HL D4 HX4 HRG
     go_wp2_with fail
     go_ret
     exact ⟨by rw [HE.out]; rfl, HBW.out⟩
    | true =>
     have C := hid (D4.out w4 HX4.out)
     clear D4 HBW
     go_wp2_with (first | (refine wpList_load_midH (by rfl) 26 _ rfl w.heap.size 0 rfl _ _ HRG.out underlying26 rfl sz_qry ?_))
     refine C.out.mono ?_
     rintro e w5 ⟨rfl, hx⟩
     have HX5 : Hid (Bl W0 w5) := HX4.out.trans (hx.mono HX4.out.size)
     clear C hx HX4 HRG
     obtain ⟨hrg, hbw⟩ := HL.out w5 HX5.out
     have HRG := hid hrg
     have HBW := hid hbw
     clear hrg hbw
     cases b4 with
     | false =>
      have HE : Hid (R = 13) := HE0.out
      clear HE0 HL  HX5 HRG
      go_wp2_with fail
      go_ret
      exact ⟨by rw [HE.out]; rfl, HBW.out⟩
     | true =>
      have HE : Hid (R = 0) := HE0.out
      clear HE0 HL HX5 HRG
      go_wp2_with fail
      go_ret
      exact ⟨by rw [HE.out]; rfl, HBW.out⟩
theorem check_any (K : Nat → Prop) (pi pw pg : Option Addr) (ci cw cg : Nat) (q : Qry) (w : World) (h : QLs K w pi pw pg ci cw cg q) (hK : ∀ b, K b → b < w.heap.size) (hG : GW w) : Calls prog 22 #[.agg (q.cl (.slice pi q.i.length ci) (.slice pw q.w.length cw) (.slice pg q.g.length cg))] w fun e w' => e = .returned (.int .i64 (checkQ q)) ∧ Bl w w' := check_w K pi pw pg ci cw cg q w h.w hK hG
end Go.Proofs.YtfifphfihdhlaaaGreatDoor

/- Queries in memory. -/
import Derived.Test.YtfifphfihdhlaaaGreatDoorQjQk
set_option maxRecDepth 100000
set_option maxHeartbeats 32000000
namespace Go.Proofs.YtfifphfihdhlaaaGreatDoor
open Go.Shelf Go.RowKit Go.Lib Go.Sort
set_option linter.unusedVariables false
set_option linter.unusedSimpArgs false
attribute [local go_sem ↓] Go.wp_at_zero Go.wp_at_succ
structure Itm where
 g : Nat
 e : List Stp
structure Qry where
 i : List Itm
 t : List UInt8
 j : List UInt8
 a : List UInt8
 b : List UInt8
 w : List Stp
 g : List (List UInt8)
def rStr : Rel (List UInt8) := fun K W cs x => cs = [.string ⟨x.toArray⟩] ∧ x.length ≤ 100000
theorem mStr : Mono rStr := fun _ _ _ _ _ _ _ _ h => h
def rItm : Rel Itm := fun K W cs x => ∃ v, cs = [.int .u8 (x.g : Int), v] ∧ ListIs rStp 3 32 K W v x.e ∧ x.g < 256 ∧ x.e.length ≤ 64
theorem mItm : Mono rItm := fun _ _ _ _ _ _ hk hW ⟨v, e, hl, hg⟩ => ⟨v, e, hl.mono mStp hk hW, hg⟩
theorem flatS_part : ∀ (l : List Stp) (j : Nat) (h : j < l.length), ((flatS l).drop (j * 3)).take 3 = [.int .u8 (l[j].k : Int), .string ⟨l[j].t.toArray⟩, .int .i64 l[j].n]
 | [], j, h => by simp at h
 | x :: l, 0, h => rfl
 | x :: l, j + 1, h => by
  have := flatS_part l j (by simpa using h)
  rw [show (j + 1) * 3 = j * 3 + 1 + 1 + 1 by omega]
  exact this
theorem StS.own {base : Nat} {W : World} {u : Value} {l : List Stp} (h : StS base W u l) : OwnR rStp 3 53 base W u l :=
 ⟨fun _ => False, flatS l, fun b h => h.elim, h.1, fun j hj => ⟨flatS_part l j hj, h.2.1 _ (List.getElem_mem hj)⟩⟩
theorem StS.list {base : Nat} {W : World} {u : Value} {l : List Stp} (h : StS base W u l) : ∃ p c, u = .slice p l.length c ∧ ListIs rStp 3 32 (From base W) W (.slice p l.length c) l := h.own.list mStp (by have := h.2.2; omega)
theorem StS.base {base base' : Nat} {W : World} {u : Value} {l : List Stp} (h : StS base W u l) (hb : base' ≤ base) : StS base' W u l := by
 obtain ⟨⟨h1, h2⟩, h3⟩ := h
 refine ⟨⟨h1, ?_⟩, h3⟩
 rcases h2 with h2 | ⟨g, cap, cur, e1, e2, r⟩
 · exact .inl h2
 · exact .inr ⟨g, cap, cur, e1, by omega, r⟩
theorem OwnR.base {α : Type} {rel : Rel α} {size : Nat} {te : TypeId} {base base' : Nat} {W : World} {u : Value} {xs : List α} (h : OwnR rel size te base W u xs) (hb : base' ≤ base) : OwnR rel size te base' W u xs := by
 obtain ⟨K, cells, hK, ⟨h1, h2⟩, hr⟩ := h
 refine ⟨K, cells, fun b h => ⟨by have := (hK b h).1; omega, (hK b h).2⟩, ⟨h1, ?_⟩, hr⟩
 rcases h2 with h2 | ⟨g, cap, cur, e1, e2, r⟩
 · exact .inl h2
 · exact .inr ⟨g, cap, cur, e1, by omega, r⟩
def QIn (base : Nat) (W : World) (vi vw vg : Value) (q : Qry) : Prop := (OwnR rItm 2 42 base W vi q.i ∧ q.i.length ≤ 8) ∧ StS base W vw q.w ∧ (OwnR rStr 1 9 base W vg q.g ∧ q.g.length ≤ 8) ∧ q.t.length ≤ 100000 ∧ q.j.length ≤ 100000 ∧ q.a.length ≤ 100000 ∧ q.b.length ≤ 100000
def Qry.cl (q : Qry) (vi vw vg : Value) : Array Value := #[vi, .string ⟨q.t.toArray⟩, .string ⟨q.j.toArray⟩, .string ⟨q.a.toArray⟩, .string ⟨q.b.toArray⟩, vw, vg]
theorem QIn.held {base : Nat} {W W' : World} {vi vw vg : Value} {q : Qry} (h : QIn base W vi vw vg q) (hk : Kept (fun b => base ≤ b ∧ b < W.heap.size) W W') : QIn base W' vi vw vg q :=
 ⟨⟨h.1.1.held mItm hk, h.1.2⟩, h.2.1.held fun g hg => hk.block g (h.2.1.1.lt g hg), ⟨h.2.2.1.1.held mStr hk, h.2.2.1.2⟩, h.2.2.2⟩
def QBox (base : Nat) (W : World) (Q : Nat) (q : Qry) : Prop := ∃ vi vw vg, W.heap[Q]? = some (.cells (q.cl vi vw vg) 26 (0, 0)) ∧ QIn base W vi vw vg q
theorem QBox.held {base : Nat} {W W' : World} {Q : Nat} {q : Qry} (h : QBox base W Q q) (hQ : Q < base) (hk : Kept (fun b => (b = Q ∨ base ≤ b) ∧ b < W.heap.size) W W') : QBox base W' Q q := by
 obtain ⟨vi, vw, vg, hg, hi⟩ := h
 exact ⟨vi, vw, vg, (hk.block Q ⟨.inl rfl, (gsi hg).1⟩).trans hg, hi.held (hk.less fun b hb => ⟨.inr hb.1, hb.2⟩)⟩
theorem QBox.lt {base : Nat} {W : World} {Q : Nat} {q : Qry} (h : QBox base W Q q) : Q < W.heap.size := by
 obtain ⟨vi, vw, vg, hg, _⟩ := h
 exact (gsi hg).1
def colR (en : Int) (s : PS) : Res (List UInt8) := andR (takeP en colP s) fun t s => .inr (t.t, s)
def item2 (en : Int) (h : Tok) (s : PS) : Res Itm :=
 if oprP h then andR (operR en (partR en (s.ts.length + 1)) [] h s) fun l s => .inr (⟨0, l⟩, s)
 else andR (if aggOfP h.t = 1 then .inr (([] : List Stp), s) else exprR en s) fun l s => andR (takeP en clsP s) fun _ s => .inr (⟨aggOfP h.t, l⟩, s)
def itemR (en : Int) (s : PS) : Res Itm :=
 if comesP opnP s = false then andR (exprR en s) fun l s => .inr (⟨0, l⟩, s)
 else andR (takeP en opnP s) fun _ s => andR (takeP en (fun t => oprP t || aggP t) s) fun h s => item2 en h s
def someR {α : Type} (en : Int) (read : PS → Res α) (P : Tok → Bool) : Nat → List α → PS → Res (List α)
 | 0, l, s => .inr (l, s)
 | f + 1, l, s => if comesP P s then (if l.length = 8 then .inl (3, placeP en s) else andR (read s) fun x s => someR en read P f (l ++ [x]) s) else .inr (l, s)
def manyR {α : Type} (en : Int) (read : PS → Res α) (P : Tok → Bool) (s : PS) : Res (List α) := andR (read s) fun x s => someR en read P 8 [x] s
def atomP (l : List (List UInt8)) (t : Tok) : Bool := decide (t.k = 3) && l.any fun x => decide (x = t.t)
def clausesP : List (List UInt8) := [[106, 111, 105, 110], [119, 104, 101, 114, 101], [103, 114, 111, 117, 112], [103, 101, 116]]
def clauseR (en : Int) (n : Nat) (q : Qry) (s : PS) : Res Qry := match n with
 | 0 => andR (takeP en namP s) fun x s => andR (colR en s) fun a s => andR (colR en s) fun b s => .inr (⟨q.i, q.t, x.t, a, b, q.w, q.g⟩, s)
 | 1 => andR (exprR en s) fun l s => .inr (⟨q.i, q.t, q.j, q.a, q.b, l, q.g⟩, s)
 | 2 => andR (manyR en (colR en) colP s) fun l s => .inr (⟨q.i, q.t, q.j, q.a, q.b, q.w, l⟩, s)
 | _ => andR (manyR en (itemR en) (fun t => lefP t || opnP t) s) fun l s => .inr (⟨l, q.t, q.j, q.a, q.b, q.w, q.g⟩, s)
open Tryz
theorem Rdr.gw {K : Nat → Prop} {W : World} {B : Nat} {en : Int} {x : PS} (h : Rdr K W B en x) : GW W := by obtain ⟨_, _, _, _, _, _, hG, _⟩ := h; exact hG
theorem Rdr.kb {K : Nat → Prop} {W : World} {B : Nat} {en : Int} {x : PS} (h : Rdr K W B en x) : ∀ b, K b → b < W.heap.size := by obtain ⟨_, _, _, _, _, h, _⟩ := h; exact h
theorem Rdr.b10 {K : Nat → Prop} {W : World} {B : Nat} {en : Int} {x : PS} (h : Rdr K W B en x) : 10 ≤ B := by obtain ⟨_, _, _, _, _, _, _, h, _⟩ := h; exact h
theorem want_kept {w W0 w' : World} {B : Nat} (hb : Bl w W0) (hk : Kept (fun b => b < W0.heap.size ∧ b ≠ B) W0 w') : Kept (fun b => b < w.heap.size ∧ b ≠ B) w w' :=
 (kept_of (fun b h => h.1) hb).trans (hk.less fun b h => ⟨nlt h.1 hb.size, h.2⟩)
theorem take_new (fs : List (Value × (Tok → Bool))) (vm : Value) (W0 : World) (K : Nat → Prop) (w : World) (B : Nat) (en : Int) (x : PS) (rd : Rdr K w B en x) (hb : Bl w W0) (hw : WantsAt W0 vm fs) :
 Calls prog 149 #[.pointer (some ⟨B, 0, none⟩), vm] W0 fun e w' => Out VTok K B en w (takeP en (anyP fs) x) e w' := by
 refine (take_any vm fs K W0 B en x (rd.below hb) hw).mono ?_
 rintro e w' ⟨hk, h⟩
 exact ⟨want_kept hb hk, h⟩
theorem below_alloc (w : World) (o : Obj) : Bl w (w.alloc o) := (Below.refl _ _).alloc (Nat.le_refl _) _
theorem take_one (F : Nat) (P : Tok → Bool) (eg : ∀ args w, (callFunc F args).run prog w = .ok (.enter F args) w) (hc : ∀ (x : Tok) (w : World), okT x → GW w → Calls prog F #[x.v] w fun e w' => e = .returned (.bool (P x)) ∧ Bl w w')
 (K : Nat → Prop) (w : World) (B : Nat) (en : Int) (x : PS) (rd : Rdr K w B en x) :
 Calls prog 149 #[.pointer (some ⟨B, 0, none⟩), .slice (some ⟨w.heap.size, 0, none⟩) 1 1] (w.alloc (.cells #[.func (.func F) #[] #[]] 187)) fun e w' => Out VTok K B en w (takeP en P x) e w' := by
 have h := take_new _ _ _ K w B en x rd (below_alloc w _) (wants_one w _ P (want_plain F P eg hc w rd.gw))
 rw [anyP_one] at h
 exact h
theorem take_two (F G : Nat) (P Q : Tok → Bool) (eg : ∀ args w, (callFunc F args).run prog w = .ok (.enter F args) w) (eg2 : ∀ args w, (callFunc G args).run prog w = .ok (.enter G args) w)
 (hc : ∀ (x : Tok) (w : World), okT x → GW w → Calls prog F #[x.v] w fun e w' => e = .returned (.bool (P x)) ∧ Bl w w') (hc2 : ∀ (x : Tok) (w : World), okT x → GW w → Calls prog G #[x.v] w fun e w' => e = .returned (.bool (Q x)) ∧ Bl w w')
 (K : Nat → Prop) (w : World) (B : Nat) (en : Int) (x : PS) (rd : Rdr K w B en x) :
 Calls prog 149 #[.pointer (some ⟨B, 0, none⟩), .slice (some ⟨w.heap.size, 0, none⟩) 2 2] (w.alloc (.cells #[.func (.func F) #[] #[], .func (.func G) #[] #[]] 187)) fun e w' => Out VTok K B en w (takeP en (fun t => P t || Q t) x) e w' := by
 have h := take_new _ _ _ K w B en x rd (below_alloc w _) (wants_two w _ _ P Q (want_plain F P eg hc w rd.gw) (want_plain G Q eg2 hc2 w rd.gw))
 rw [anyP_two] at h
 exact h
theorem comes_one (F : Nat) (P : Tok → Bool) (eg : ∀ args w, (callFunc F args).run prog w = .ok (.enter F args) w) (hc : ∀ (x : Tok) (w : World), okT x → GW w → Calls prog F #[x.v] w fun e w' => e = .returned (.bool (P x)) ∧ Bl w w')
 (K : Nat → Prop) (w : World) (B : Nat) (en : Int) (x : PS) (rd : Rdr K w B en x) :
 Calls prog 167 #[.pointer (some ⟨B, 0, none⟩), .slice (some ⟨w.heap.size, 0, none⟩) 1 1] (w.alloc (.cells #[.func (.func F) #[] #[]] 187)) fun e w' => e = .returned (.bool (comesP P x)) ∧ Bl w w' := by
 have hb := below_alloc w (.cells #[.func (.func F) #[] #[]] 187)
 have h := comes_any _ _ K _ B en x (rd.below hb) (wants_one w _ P (want_plain F P eg hc w rd.gw))
 rw [anyP_one] at h
 refine h.mono ?_
 rintro e w' ⟨rfl, hb'⟩
 exact ⟨rfl, hb.trans (hb'.mono hb.size)⟩
theorem enters189 : ∀ args w, (callFunc 189 args).run prog w = .ok (.enter 189 args) w := enters_of func189 (by kernel_rfl) rfl
theorem enters152 : ∀ args w, (callFunc 152 args).run prog w = .ok (.enter 152 args) w := enters_of func152 (by kernel_rfl) rfl
theorem enters211 : ∀ args w, (callFunc 211 args).run prog w = .ok (.enter 211 args) w := enters_of func211 (by kernel_rfl) rfl
theorem out_fault {α : Type} {V : World → World → Value → α → Prop} {K : Nat → Prop} {B : Nat} {en : Int} {w w' : World} {r : Res α} {y a : Int} (hk : Kept (fun b => b < w.heap.size ∧ b ≠ B) w w') (hr : r = .inl (y, a)) : Out V K B en w r (faultE y a) w' := ⟨hk, .inl ⟨y, a, hr, rfl⟩⟩
theorem Kept.step {w w1 w2 : World} {B : Nat} (h : Kept (fun b => b < w.heap.size ∧ b ≠ B) w w1) (h2 : Kept (fun b => b < w1.heap.size ∧ b ≠ B) w1 w2) : Kept (fun b => b < w.heap.size ∧ b ≠ B) w w2 :=
 h.trans (h2.less fun b hb => ⟨nlt hb.1 h.size, hb.2⟩)
theorem kept_below {w w1 : World} {B : Nat} (h : Bl w w1) : Kept (fun b => b < w.heap.size ∧ b ≠ B) w w1 := kept_of (fun b h => h.1) h
def VStr : World → World → Value → List UInt8 → Prop := fun _ _ v t => v = .string ⟨t.toArray⟩ ∧ t.length ≤ 100000
theorem text_of (s : ByteArray) (k n a : Int) : ∀ w, (Instr.field 160 (.agg #[.int .u8 k, .string s, .int .i64 n, .int .i64 a]) 1).run prog w = .ok (.string s) w := fun w => field_of (o := 1) (e := 9) (by kernel_rfl) (by kernel_rfl) Tryz.isAgg9 _ _ rfl w
theorem col_any (K : Nat → Prop) (B : Nat) (en : Int) (w : World) (x : PS) (rd : Rdr K w B en x) : Calls prog 186 #[.pointer (some ⟨B, 0, none⟩)] w fun e w' => Out VStr K B en w (colR en x) e w' := by
 obtain ⟨W0, hW0⟩ := gen (w.alloc (.cells #[.func (.func 189) #[] #[]] 187))
 have C := hid (take_one 189 colP enters189 isColT_any K w B en x rd)
 rw [hW0] at C
 have HR : Hid (colR en x = andR (takeP en colP x) fun t s => .inr (t.t, s)) := rfl
 clear rd
 go_enter func186, ntmps186
 go_wp2_with fail
 refine C.out.mono ?_
 rintro e w1 ⟨hk1, ⟨y, a, hr, rfl⟩ | ⟨t, x1, v, hr, rfl, ⟨rfl, hok⟩, hrd1⟩⟩
 · have HF : Hid (Out VStr K B en w (colR en x) (faultE y a) w1) := out_fault hk1 (by rw [HR.out, hr]; rfl)
   clear hk1 hr C
   unfold faultE at HF ⊢
   go_wp2_with fail
   exact ⟨rfl, HF.out⟩
 · obtain ⟨s, hs⟩ := bya t.t
   have hv : t.v = .agg #[.int .u8 t.k, .string s, .int .i64 t.n, .int .i64 t.a] := by rw [← hs]; rfl
   have HF : Hid (Out VStr K B en w (colR en x) (.returned (.string s)) w1) := ⟨hk1, .inr ⟨t.t, x1, _, by rw [HR.out, hr]; rfl, rfl, ⟨by rw [hs], hok.2.2.2⟩, hrd1⟩⟩
   have hfd := text_of s t.k t.n t.a
   rw [hv]
   clear hk1 hr C hok hrd1 hs hv
   go_wp2_with fail
   go_ret
   exact HF.out
end Go.Proofs.YtfifphfihdhlaaaGreatDoor

/- What otherFields does, and the table of the fields gone through. -/
import Derived.Test.YtajomnfeicfdlaaGreatDoorMaMb
import Derived.Test.YtajomnfeicfdlaaGreatDoorMc
namespace Go.Proofs.YtajomnfeicfdlaaGreatDoor
open Go.Shelf Go.RowKit Go.Lib
set_option linter.unusedVariables false
set_option linter.unusedSimpArgs false
attribute [local go_sem ↓] Go.wp_at_zero Go.wp_at_succ
theorem run_store_func {P : Program} {w : World} {a : Addr} {m : Mode} (f : Fn) (c d : Array Value) : (store a (.func f c d) m).run P w = stored P w a (.func f c d) m := run_store P w a _ m rfl
attribute [local go_sem] run_store_func
/-- The fields that a message's kind has (or has not), from i on. -/
def goP (b : Bool) : Nat → Nat → St → Mg → Mg × St
 | 0, _, st, x => (x, st)
 | n + 1, i, st, x => if (ofK.getD i []).contains x.k = b then goP b n (i + 1) (fldP i st x).2 (fldP i st x).1 else goP b n (i + 1) st x
theorem fldP_k (i : Nat) (st : St) (x : Mg) : (fldP i st x).1.k = x.k := by
 match i with
 | 0 | 1 | 2 | 3 | 4 | 5 | 6 | 7 | 8 | 9 | 10 | 11 | 12 | 13 | 14 => rfl
 | i + 15 => rfl
theorem ofK_len (i : Nat) (hi : i < 15) : (ofK.getD i []).length ≤ 100 := by
 match i, hi with
 | 0, _ | 1, _ | 2, _ | 3, _ | 4, _ | 5, _ | 6, _ | 7, _ | 8, _ | 9, _ | 10, _ | 11, _ | 12, _ | 13, _ | 14, _ => decide
/-- What the loop over the fields keeps. -/
abbrev K1 (K : Nat → Prop) (w W1 : World) : Nat → Prop := fun b => K b ∨ (w.heap.size ≤ b ∧ b < W1.heap.size)
/-- How far the loop is. -/
structure Lp (K D : Nat → Prop) (w W1 : World) (t p mb : Nat) (N : Nat → Prop) (cur : Array Value) (x : Mg) (W : World) (st : St) : Prop where
 kept : Kept (K1 K w W1) W1 W
 bm : W.heap[mb]? = some (.cells cur 63 (0, 0))
 msg : MsgIs (fun b => D b ∨ N b) W cur x
 port : PortIs (fun b => (K1 K w W1 b ∨ N b) ∨ b = mb) W t p st
 new : ∀ b, N b → W1.heap.size ≤ b
theorem KndsAt.kept {K : Nat → Prop} {W W' : World} {b : Nat} {ks : List Nat} (h : KndsAt W b ks) (hk : Kept K W W') (hb : K b) : KndsAt W' b ks := fun j u hj => by
 rw [hk.cell (p := ⟨b, _, none⟩) hb]; exact h j u hj
theorem FldsAt.kept {K : Nat → Prop} {W W' : World} {t p n : Nat} (h : FldsAt W t p n) (hk : Kept K W W') (hb : ∀ b, n < b → b ≤ n + 16 → K b) : FldsAt W' t p n := fun i hi => by
 obtain ⟨h1, h2, h3⟩ := h i hi
 refine ⟨?_, ?_, h3.kept hk (hb _ (by omega) (by omega))⟩
 ·rw [hk.cell (p := ⟨n + 16, _, none⟩) (hb (n + 16) (by omega) (by omega))]; exact h1
 ·rw [hk.cell (p := ⟨n + 16, _, none⟩) (hb (n + 16) (by omega) (by omega))]; exact h2
/-- Ahead of the loop. -/
theorem Lp.start {K D : Nat → Prop} {w W0 : World} {t p mb : Nat} {cur : Array Value} {x : Mg} {st : St} {l : List Obj} (hnk : ¬ K mb) (hbm : w.heap[mb]? = some (.cells cur 63 (0, 0))) (hDK : ∀ b, D b → K b) (hmi : MsgIs D w cur x) (h : PortIs (fun b => K b ∨ b = mb) w t p st) (hb : Below w.heap.size w W0) :
  Lp K D w (allocs W0 l) t p mb noB cur x (allocs W0 l) st := by
 have hml : mb < w.heap.size := (Array.getElem?_eq_some_iff.1 hbm).1
 have hpl := h.pos
 have hB : Below w.heap.size w (allocs W0 l) := hb.trans ((allocs_below W0 l).mono hb.size)
 have hKlt : ∀ b, K b → b < w.heap.size := fun b hb => h.lt b (.inl hb)
 have hkd : Kept D w (allocs W0 l) := Kept.of_below hB (fun b hb => hKlt b (hDK b hb))
 refine ⟨Kept.refl _ _, by rw [hB.block _ hml]; exact hbm, hmi.keep (fun b hb => .inl hb) hkd, ?_, fun b hb => hb.elim⟩
 have hP := h.below hB
 refine ⟨fun e => ?_, fun b hb => ?_, ?_⟩
 ·rcases e with (e | e) | e
  ·rcases e with e | e
   ·exact h.out (.inl e)
   ·omega
  ·exact e.elim
  ·exact h.out (.inr e)
 ·rcases hb with (hb | hb) | hb
  ·rcases hb with hb | hb
   ·have := hKlt b hb; have := hB.size; omega
   ·exact hb.2
  ·exact hb.elim
  ·have := hB.size; omega
 ·have hh := h.is
  have hi := hP.is
  cases st using St.three with
  | wr b f =>
   obtain ⟨q0, v0, q1, q2, q3⟩ := hh
   have hpp := hB.block p hpl
   refine ⟨q0, v0, by rw [hpp]; exact q1, ownsRow_of_block q2 (fun g hg => hB.block g (ownsRow_lt q2 g hg)), fun g hg => ⟨fun e => ?_, (q3 g hg).2⟩⟩
   have hgl := ownsRow_lt q2 g hg
   rcases e with (e | e) | e
   ·rcases e with e | e
    ·exact (q3 g hg).1 (.inl e)
    ·omega
   ·exact e.elim
   ·exact (q3 g hg).1 (.inr e)
  | bl f => exact hi
  | rd r f => exact hi
/-- Behind the loop. -/
theorem Lp.fin {K D N : Nat → Prop} {w W1 W : World} {t p mb : Nat} {cur : Array Value} {x : Mg} {st : St} (h : Lp K D w W1 t p mb N cur x W st) (hb : Below w.heap.size w W1) (hKlt : ∀ b, K b → b < w.heap.size) :
  (∀ b, N b → w.heap.size ≤ b) ∧ W.heap[mb]? = some (.cells cur 63 (0, 0)) ∧ MsgIs (fun b => D b ∨ N b) W cur x ∧ PortIs (fun b => (K b ∨ N b) ∨ b = mb) W t p st ∧ Kept K w W :=
 ⟨fun b hn => by have := h.new b hn; have := hb.size; omega, h.bm, h.msg, h.port.less fun b hb => hb.elim (fun h => h.elim (fun h => .inl (.inl (.inl h))) (fun h => .inl (.inr h))) .inr,
  (Kept.of_below hb hKlt).trans (h.kept.less fun b hb => .inl hb)⟩
/-- A field's function, in the loop. -/
theorem Lp.call {K D N : Nat → Prop} {w W1 W W2 : World} {t p mb i : Nat} {cur : Array Value} {x : Mg} {st : St} (h : Lp K D w W1 t p mb N cur x W st) (hi : i < 15) (htb : Tabs K w) (hnk : ¬ K mb) (hml : mb < w.heap.size) (hDK : ∀ b, D b → K b) (hB : Below w.heap.size w W1) (hKlt : ∀ b, K b → b < w.heap.size) (hb : Below W.heap.size W W2) (hl : max st.len 65536 + 11000 ≤ 990000) :
  Calls Tryz.prog (102 + i) #[wk t p, .pointer (some ⟨mb, 0, none⟩)] W2 fun e w' => e = .returned (.tuple #[]) ∧ ∃ (N' : Nat → Prop) (cur' : Array Value), Lp K D w W1 t p mb N' cur' (fldP i st x).1 w' (fldP i st x).2 := by
 have hk2 : ∀ b, K1 K w W1 b ∨ N b → b < W.heap.size := fun b hb => h.port.lt b (.inl hb)
 have hmW : mb < W.heap.size := h.port.lt mb (.inr rfl)
 have hKK : Kept (fun b => K1 K w W1 b ∨ N b) W W2 := Kept.of_below hb hk2
 have htb2 : Tabs (fun b => K1 K w W1 b ∨ N b) W2 := (htb.mono (fun b hb => .inl hb) (Kept.of_below hB hKlt) : Tabs (K1 K w W1) W1).mono (fun b hb => .inl hb) (h.kept.trans (hKK.less fun b hb => .inl hb))
 have hp2 : PortIs (fun b => (K1 K w W1 b ∨ N b) ∨ b = mb) W2 t p st := h.port.below hb
 have hnm : ¬ (K1 K w W1 mb ∨ N mb) := fun e => by
  rcases e with e | e
  ·rcases e with e | e
   ·exact hnk e
   ·omega
  ·have := h.new mb e; have := hB.size; omega
 have hD2 : ∀ b, D b ∨ N b → K1 K w W1 b ∨ N b := fun b hb => hb.elim (fun h => .inl (.inl (hDK b h))) .inr
 refine (fld_any i t p hi (fun b => K1 K w W1 b ∨ N b) (fun b => D b ∨ N b) W2 st mb cur x htb2 hnm (by rw [hb.block mb hmW]; exact h.bm) hD2 (h.msg.keep (fun _ h => h) (hKK.less hD2)) hp2 hl).mono ?_
 rintro e w' ⟨rfl, N', cur', h1, h2, h3, h4, h5⟩
 refine ⟨rfl, fun b => N b ∨ N' b, cur', h.kept.trans ((hKK.trans h5).less fun b hb => .inl hb), h2, h3.keep (fun b hb => ?_) (Kept.refl _ _), h4.less fun b hb => ?_, fun b hb => ?_⟩
 ·rcases hb with (hb | hb) | hb
  ·exact .inl hb
  ·exact .inr (.inl hb)
  ·exact .inr (.inr hb)
 ·rcases hb with (hb | hb | hb) | hb
  ·exact .inl (.inl (.inl hb))
  ·exact .inl (.inl (.inr hb))
  ·exact .inl (.inr hb)
  ·exact .inr hb
 ·rcases hb with hb | hb
  ·exact h.new b hb
  ·have e1 := h1 b hb
   have e3 := h.kept.size
   have e4 := hKK.size
   omega
theorem Lp.later {K D N : Nat → Prop} {w W1 W W2 : World} {t p mb : Nat} {cur : Array Value} {x : Mg} {st : St} (h : Lp K D w W1 t p mb N cur x W st) (hDK : ∀ b, D b → K b) (hb : Below W.heap.size W W2) : Lp K D w W1 t p mb N cur x W2 st := by
 have hk2 : ∀ b, K1 K w W1 b ∨ N b → b < W.heap.size := fun b hb => h.port.lt b (.inl hb)
 have hmW : mb < W.heap.size := h.port.lt mb (.inr rfl)
 refine ⟨h.kept.trans (Kept.of_below hb (fun b hb => hk2 b (.inl hb))), by rw [hb.block mb hmW]; exact h.bm, h.msg.keep (fun _ h => h) (Kept.of_below hb (fun b hd => ?_)), h.port.below hb, h.new⟩
 exact hk2 b (hd.elim (fun h => .inl (.inl (hDK b h))) .inr)
set_option maxRecDepth 100000 in
set_option maxHeartbeats 8000000 in
theorem other_any (t p mb : Nat) (K D : Nat → Prop) (w : World) (st : St) (cur : Array Value) (x : Mg) (htb : Tabs K w) (hnk : ¬ K mb) (hbm : w.heap[mb]? = some (.cells cur 63 (0, 0))) (hDK : ∀ b, D b → K b) (hmi : MsgIs D w cur x) (h : PortIs (fun b => K b ∨ b = mb) w t p st) (hl : max st.len 65536 + 165000 ≤ 900000) :
  Calls Tryz.prog 61 #[wk t p, .pointer (some ⟨mb, 0, none⟩)] w fun e w' => e = .returned (.tuple #[]) ∧ ∃ (N : Nat → Prop) (cur' : Array Value), (∀ b, N b → w.heap.size ≤ b) ∧ w'.heap[mb]? = some (.cells cur' 63 (0, 0)) ∧ MsgIs (fun b => D b ∨ N b) w' cur' (goP false 15 0 st x).1 ∧ PortIs (fun b => (K b ∨ N b) ∨ b = mb) w' t p (goP false 15 0 st x).2 ∧ Kept K w w' := by
 obtain ⟨W0, hW0⟩ : ∃ W0, w.alloc (wb t p) = W0 := ⟨_, rfl⟩
 have hs0 : W0.heap.size = w.heap.size + 1 := by rw [← hW0]; simp
 have hg0 : W0.heap[w.heap.size]? = some (wb t p) := by rw [← hW0]; exact heap_alloc_new w _
 have hb0 : Below w.heap.size w W0 := by rw [← hW0]; exact (Below.refl _ _).alloc (Nat.le_refl _) _
 have cw := cellR (k := 0) hg0 rfl
 have C1 : Hid (Calls Tryz.prog 90 #[wk t p] W0 fun e w' => e = .returned (.slice (some ⟨w.heap.size + 1 + 16, 0, none⟩) 15 15) ∧ FldsAt w' t p (w.heap.size + 1) ∧ w'.heap.size = w.heap.size + 18 ∧ Below w.heap.size w w' ∧ Lp K D w w' t p mb noB cur x w' st) := by
  refine (fields_any t p W0).mono ?_
  rintro e w' ⟨rfl, rfl⟩
  have h1 := fldO_at W0 t p
  rw [hs0] at h1 ⊢
  refine ⟨rfl, h1, ?_, hb0.trans ((allocs_below W0 _).mono hb0.size), Lp.start hnk hbm hDK hmi h hb0⟩
  rw [allocs_size, hs0]
  rfl
 have HTB : Hid (Tabs K w) := htb
 have HNK : Hid (¬ K mb) := hnk
 have HML : Hid (mb < w.heap.size) := (Array.getElem?_eq_some_iff.1 hbm).1
 have HDK : Hid (∀ b, D b → K b) := hDK
 have HKL : Hid (∀ b, K b → b < w.heap.size) := fun b hb => h.lt b (.inl hb)
 have HLN : Hid (max st.len 65536 + 15 * 11000 ≤ 900000) := by show _ ≤ _; omega
 unfold wk at C1 ⊢
 clear htb hnk hbm hDK hmi h hl hs0 hg0 hb0
 go_enter Tryz.func61, Tryz.ntmps61
 go_wp2_with fail
 refine C1.out.mono ?_
 rintro e w1 ⟨rfl, hft, hs1, hbb, hl0⟩
 have HFT : Hid (FldsAt w1 t p (w.heap.size + 1)) := hft
 have HS1 : Hid (w1.heap.size = w.heap.size + 18) := hs1
 have HBB : Hid (Below w.heap.size w w1) := hbb
 have HL0 : Hid (Lp K D w w1 t p mb noB cur x w1 st) := hl0
 clear C1 hft hs1 hbb hl0
 go_wp2_with fail
 go_loopg [9] 15 (fun gf s9 wx => ∃ (i : Nat) (sti : St) (N : Nat → Prop) (curi : Array Value) (xi : Mg), s9 = .int .i64 (i : Int) ∧ Hid (i + gf = 15) ∧ Hid (goP false gf i sti xi = goP false 15 0 st x) ∧ Hid (xi.k = (x).k) ∧ Hid (Lp K D w w1 t p mb N curi xi wx sti) ∧ Hid (max sti.len 65536 + gf * 11000 ≤ 900000))
 case atStart => exact ⟨0, st, noB, cur, x, rfl, rfl, rfl, rfl, HL0, HLN⟩
 case round =>
  obtain ⟨i, sti, N, curi, xi, rfl, H1, H2, H3, H4, H5⟩ := hrel
  by_cases hi : i < 15
  ·obtain ⟨g', rfl⟩ : ∃ g', gk = g' + 1 := ⟨gk - 1, by have := H1.out; omega⟩
   obtain ⟨f0, f1, f2⟩ := (HFT.out.kept H4.out.kept (fun b h1 h2 => .inr (by have := HS1.out; omega))) i hi
   have HI : Hid (i < 15) := hi
   have HKN : Hid (KndsAt wr (w.heap.size + 1 + 1 + i) (ofK.getD i [])) := f2
   have hkl := ofK_len i hi
   obtain ⟨ks, hks⟩ : ∃ ks, ofK.getD i [] = ks := ⟨_, rfl⟩
   rw [hks] at f1 hkl HKN
   have HKS : Hid (ofK.getD i [] = ks) := hks
   have eF := eFld i hi
   obtain ⟨F, hF⟩ : ∃ F, 102 + i = F := ⟨_, rfl⟩
   rw [hF] at f0 eF
   have HFF : Hid (102 + i = F) := hF
   unfold wk at f0
   have z0 : (0 : Int) ≤ (i : Int) := by omega
   have z1 : (i : Int) < 15 := by omega
   have f1' : wr.cell? ⟨w.heap.size + 1 + 16, i * 2 + 1, none⟩ = some (.slice (some ⟨w.heap.size + 1 + 1 + i, 0, none⟩) ks.length ks.length) := f1
   have cm := cellR (k := 0) H4.out.bm H4.out.msg.kc
   obtain ⟨kk, hkk⟩ : ∃ kk, xi.k = kk := ⟨_, rfl⟩
   have HKK : Hid (xi.k = kk) := hkk
   rw [hkk] at cm
   obtain ⟨W2, hW2⟩ : ∃ W2, wr.alloc (.cells #[.func (.func F) #[.agg #[.iface t (.pointer (some ⟨p, 0, none⟩))]] #[], .slice (some ⟨w.heap.size + 1 + 1 + i, 0, none⟩) ks.length ks.length] 174) = W2 := ⟨_, rfl⟩
   have hbx : W2.heap[wr.heap.size]? = some (.cells #[.func (.func F) #[.agg #[.iface t (.pointer (some ⟨p, 0, none⟩))]] #[], .slice (some ⟨w.heap.size + 1 + 1 + i, 0, none⟩) ks.length ks.length] 174 (0, 0)) := by rw [← hW2]; exact heap_alloc_new wr _
   have hB2 : Below wr.heap.size wr W2 := by rw [← hW2]; exact (Below.refl _ _).alloc (Nat.le_refl _) _
   have x0 := cellR (k := 0) hbx rfl
   have x1 := cellR (k := 1) hbx rfl
   have xm : W2.cell? ⟨mb, 0, none⟩ = some (.int .u8 (kk : Int)) := by
    have hmW : mb < wr.heap.size := (Array.getElem?_eq_some_iff.1 H4.out.bm).1
    rw [hB2.cell (p := ⟨mb, 0, none⟩) hmW]; exact cm
   have HCN : Hid (∀ n, Calls Tryz.prog 91 #[.slice (some ⟨w.heap.size + 1 + 1 + i, 0, none⟩) ks.length ks.length, .int .u8 (kk : Int)] (W2.drewN n) fun e w' => e = .returned (.bool (ks.contains kk)) ∧ w' = W2.drewN n) := fun n => contains_any _ kk ks (W2.drewN n) (fun j u hj => by
    have h1 := HKN.out j u hj
    have h2 : (w.heap.size + 1 + 1 + i) < wr.heap.size := World.block_lt_of_cell? wr ⟨w.heap.size + 1 + 1 + i, j, none⟩ h1
    have h3 : W2.cell? ⟨w.heap.size + 1 + 1 + i, j, none⟩ = some (.int .u8 (u : Int)) := by rw [hB2.cell (p := ⟨w.heap.size + 1 + 1 + i, j, none⟩) h2]; exact h1
    exact h3) hkl
   have HB2 : Hid (Below wr.heap.size wr W2) := hB2
   clear hbx hB2 cm hkk hks hF f2
   cases hct : ks.contains kk with
   | false =>
    rw [hct] at HCN
    have HEQ : Hid (goP false g' (i + 1) (fldP i sti xi).2 (fldP i sti xi).1 = goP false 15 0 st x) := by
     show _ = _
     rw [← H2.out]
     simp only [goP]
     rw [HKS.out, HKK.out, hct, if_pos rfl]
    have HCF : Hid (∀ n, Calls Tryz.prog F #[.agg #[.iface t (.pointer (some ⟨p, 0, none⟩))], .pointer (some ⟨mb, 0, none⟩)] (W2.drewN n) fun e w' => e = .returned (.tuple #[]) ∧ ∃ (N' : Nat → Prop) (cur' : Array Value), Lp K D w w1 t p mb N' cur' (fldP i sti xi).1 w' (fldP i sti xi).2) := fun n => by
     have := H4.out.call (W2 := W2.drewN n) HI.out HTB.out HNK.out HML.out HDK.out HBB.out HKL.out ⟨HB2.out.os, HB2.out.tape, HB2.out.output, HB2.out.size, HB2.out.block⟩ (by have := H5.out; omega)
     rw [HFF.out] at this
     exact this
    clear hct hi
    go_wp2_with fail
    go_quiet ((go_at_call 91; exact Calls.quiet_of_same (HCN.out _)))
    go_wp2_with (go_at_fn F; refine (HCF.out _).mono ?_; rintro e w3 ⟨rfl, N', cur', h1⟩; have H6 : Hid (Lp K D w w1 t p mb N' cur' (fldP i sti xi).1 w3 (fldP i sti xi).2) := h1; clear h1)
    go_roundg g'
    case measure => omega
    case rel =>
     refine ⟨i + 1, (fldP i sti xi).2, N', cur', (fldP i sti xi).1, by go_num, by show _ = _; have := H1.out; omega, HEQ, by show _ = _; rw [fldP_k]; exact H3.out, H6, ?_⟩
     show _ ≤ _
     have e1 := fld_len i sti xi
     have e2 := H5.out
     omega
   | true =>
    rw [hct] at HCN
    have HEQ : Hid (goP false g' (i + 1) sti xi = goP false 15 0 st x) := by
     show _ = _
     rw [← H2.out]
     simp only [goP]
     rw [HKS.out, HKK.out, hct, if_neg (by simp)]
    clear hct hi
    go_wp2_with fail
    go_quiet ((go_at_call 91; exact Calls.quiet_of_same (HCN.out _)))
    go_wp2_with fail
    go_roundg g'
    case measure => omega
    case rel =>
     refine ⟨i + 1, sti, N, curi, xi, by go_num, by show _ = _; have := H1.out; omega, HEQ, H3, ?_, by show _ ≤ _; have := H5.out; omega⟩
     exact Lp.later H4.out HDK.out ⟨HB2.out.os, HB2.out.tape, HB2.out.output, HB2.out.size, HB2.out.block⟩
  ·have z1 : ¬ (i : Int) < 15 := by omega
   have hgk : gk = 0 := by have := H1.out; omega
   have HEQ : Hid (goP false 15 0 st x = (xi, sti)) := by show _ = _; rw [← H2.out, hgk]; rfl
   clear hi hgk
   go_wp2_with fail
   go_end0
   obtain ⟨e1, e2, e3, e4, e5⟩ := H4.out.fin HBB.out HKL.out
   first | exact ⟨rfl, N, curi, e1, e2, by rw [HEQ.out]; exact e3, by rw [HEQ.out]; exact e4, e5⟩ | exact ⟨rfl, N, e1, curi, e2, by rw [HEQ.out]; exact e3, by rw [HEQ.out]; exact e4, e5⟩
end Go.Proofs.YtajomnfeicfdlaaGreatDoor
/- What message does. -/
namespace Go.Proofs.YtajomnfeicfdlaaGreatDoor
open Go.Shelf Go.RowKit Go.Lib
set_option linter.unusedVariables false
set_option linter.unusedSimpArgs false
attribute [local go_sem ↓] Go.wp_at_zero Go.wp_at_succ
attribute [local go_sem] run_store_func
/-- What becomes of a message. -/
def msgP (st : St) (x : Mg) : Mg × St :=
 let r := octP st x.k
 goP true 15 0 (if r.1 = 0 ∨ 10 ≤ r.1 then failP r.2 else r.2) { x with k := r.1 }
theorem MsgIs.setk {D : Nat → Prop} {W W' : World} {cur cur' : Array Value} {x : Mg} (h : MsgIs D W cur x) (k1 : Nat) (hk : k1 < 256) (hc : CurAt cur cur' 0 [Value.int .u8 (k1 : Int)]) (hW : Kept D W W') : MsgIs D W' cur' { x with k := k1 } := by
 have hout : ∀ k, 1 ≤ k → cur'[k]? = cur[k]? := fun k hk => hc.2 k (.inr (by simpa using hk))
 have hs : cur'.size = 47 := by
  have a1 := h.size
  have a2 := hout 47 (by omega)
  rw [Array.getElem?_eq_none (by omega : cur.size ≤ 47)] at a2
  have a3 : ¬ 47 < cur'.size := fun hh => by rw [Array.getElem?_eq_getElem hh] at a2; cases a2
  have a4 : ¬ cur'.size < 47 := fun hh => by
   have b1 := (hout 46 (by omega)).trans (Array.getElem?_eq_getElem (by omega : 46 < cur.size))
   have b2 := (Array.getElem?_eq_some_iff.1 b1).1
   omega
  omega
 exact ⟨hs, by have := hc.1 0 _ rfl; simpa using this, hk, h.bt.keep mNum (fun k a b => hout k (by omega)) (fun _ h => h) hW, h.qr.keep mVrs (fun k a b => hout k (by omega)) (fun _ h => h) hW, h.at_.keep mInt (fun k a b => hout k (by omega)) (fun _ h => h) hW, h.fr.keep mInt (fun k a b => hout k (by omega)) (fun _ h => h) hW, h.tq.keep mInt (fun k a b => hout k (by omega)) (fun _ h => h) hW, h.bd.keep mBnd (fun k a b => hout k (by omega)) (fun _ h => h) hW, h.ct.keep mTbls (fun k a b => hout k (by omega)) (fun _ h => h) hW, h.fg.keep mFrg (fun k a b => hout k (by omega)) (fun _ h => h) hW, h.nd.keep mInts (fun k a b => hout k (by omega)) (fun _ h => h) hW, h.sq.keep mNum (fun k a b => hout k (by omega)) (fun _ h => h) hW, h.ls.keep mBoo (fun k a b => hout k (by omega)) (fun _ h => h) hW, h.rw_.keep mRws (fun k a b => hout k (by omega)) (fun _ h => h) hW, h.fh.keep mFh (fun k a b => hout k (by omega)) (fun _ h => h) hW, h.fw.keep mRws (fun k a b => hout k (by omega)) (fun _ h => h) hW, h.cm.keep mClms (fun k a b => hout k (by omega)) (fun _ h => h) hW⟩
set_option maxRecDepth 100000 in
set_option maxHeartbeats 8000000 in
theorem message_any (t p mb : Nat) (K D : Nat → Prop) (w : World) (st : St) (cur : Array Value) (x : Mg) (htb : Tabs K w) (hnk : ¬ K mb) (hbm : w.heap[mb]? = some (.cells cur 63 (0, 0))) (hDK : ∀ b, D b → K b) (hmi : MsgIs D w cur x) (h : PortIs (fun b => K b ∨ b = mb) w t p st) (hl : max st.len 65536 + 166000 ≤ 900000) :
  Calls Tryz.prog 60 #[wk t p, .pointer (some ⟨mb, 0, none⟩)] w fun e w' => e = .returned (.tuple #[]) ∧ ∃ (N : Nat → Prop) (cur' : Array Value), (∀ b, N b → w.heap.size ≤ b) ∧ w'.heap[mb]? = some (.cells cur' 63 (0, 0)) ∧ MsgIs (fun b => D b ∨ N b) w' cur' (msgP st x).1 ∧ PortIs (fun b => (K b ∨ N b) ∨ b = mb) w' t p (msgP st x).2 ∧ Kept K w w' := by
 have HTB : Hid (Tabs K w) := htb
 have HNK : Hid (¬ K mb) := hnk
 have hml0 : mb < w.heap.size := (Array.getElem?_eq_some_iff.1 hbm).1
 have HML : Hid (mb < w.heap.size) := hml0
 have HDK : Hid (∀ b, D b → K b) := hDK
 have HKL : Hid (∀ b, K b → b < w.heap.size) := fun b hb => h.lt b (.inl hb)
 have HMI : Hid (MsgIs D w cur x) := hmi
 have hmf := m_fail h.isT p
 obtain ⟨W0, hW0, hF0⟩ := Fm.start (lo := 0) (cs := [Value.int .u8 (x.k : Int)]) h hnk hbm (fun i u hi => by
  match i, hi with
  | 0, hi => simp at hi; subst hi; exact hmi.kc
  | i + 1, hi => simp at hi)
 obtain ⟨⟨k1, s1⟩, r1⟩ : ∃ q, octP st x.k = q := ⟨_, rfl⟩
 have g1 := grows_oct st x.k
 rw [r1] at g1
 simp only at g1
 have n1 : k1 < 256 := by have := octP_lt st x.k hmi.kl; rw [r1] at this; exact this
 have C1 : Hid (Calls Tryz.prog 89 #[.agg #[.iface t (.pointer (some ⟨p, 0, none⟩))], .int .u8 (x.k : Int)] W0.drew fun e w' => e = .returned (.int .u8 (k1 : Int)) ∧ Fm K noB w t p mb 0 cur [Value.int .u8 (x.k : Int)] w' s1 ∧ Kept (fun b => K b ∨ noB b) W0.drew w') := by
  refine hF0.drew.call (R := fun e => e = .returned (.int .u8 (k1 : Int))) ?_
  have := kind13_any _ t p st x.k W0.drew hF0.drew.port hmi.kl (by omega)
  rw [r1] at this
  exact this
 have cw1 : W0.drew.cell? ⟨w.heap.size, 0, none⟩ = _ := hF0.drew.cell0
 have cc1_0 : W0.drew.cell? ⟨mb, 0, none⟩ = _ := hF0.drew.cell1 (k := 0) (i := 0) rfl rfl
 obtain ⟨xk, hxk⟩ : ∃ xk, x.k = xk := ⟨_, rfl⟩
 have HXK : Hid (x.k = xk) := hxk
 rw [hxk] at C1 cc1_0
 rw [hxk] at r1
 clear hF0 hxk htb hnk hbm hDK hmi
 unfold wk
 go_enter Tryz.func60, Tryz.ntmps60
 go_wp2_with fail
 refine via (A := fun WX => Fm K noB w t p mb 0 cur [Value.int .u8 (k1 : Int)] WX s1) (Q := ?Q1) (fun key => ?a1) ?b1
 case a1 =>
  go_region_with (go_at_call 89; refine C1.out.mono ?_; rintro e w1 ⟨rfl, hF1a, hKa1⟩; have x1_0 := hF1a.cell1 (k := 0) (i := 0) rfl rfl; have z1_0 := hF1a.fz1 0; obtain ⟨W1_0, hW1_0, hF1_0, hK1_0⟩ := hF1a.set1 0 0 (Value.int .u8 (k1 : Int)) rfl (by simp))
  all_goals exact key _ hF1_0
 intro W1 hF1
 have ck := hF1.cell1 (k := 0) (i := 0) rfl rfl
 have cb := hF1.cell0
 by_cases h0 : k1 = 0
 ·have HMP : Hid (msgP st x = goP true 15 0 (failP s1) { x with k := k1 }) := by
   show _ = _
   simp only [msgP, HXK.out, r1]
   rw [if_pos (.inl h0)]
  have y0 : ((k1 : Int) == 0) = true := by simp; omega
  have H0 : Hid (k1 = 0) := h0
  clear h0
  have C2 : Hid (Calls Tryz.prog 182 #[.pointer (some ⟨p, 0, none⟩)] W1 fun e w' => e = .returned (.tuple #[]) ∧ Fm K noB w t p mb 0 cur [Value.int .u8 (k1 : Int)] w' (failP s1) ∧ Kept (fun b => K b ∨ noB b) W1 w') := by
   refine hF1.call (R := fun e => e = .returned (.tuple #[])) ?_
   exact fail_any _ t p s1 W1 hF1.port
  clear hF1
  go_wp2_with fail
  refine C2.out.mono ?_
  rintro e W2 ⟨rfl, hF2, _⟩
  have cb2 := hF2.cell0
  clear C2
  obtain ⟨_, ⟨cur2, hb2, hca⟩, hp2, hk2⟩ := hF2.fin
  have HK2 : Hid (Kept K w W2) := hk2
  have hm2 : MsgIs D W2 cur2 { x with k := k1 } := HMI.out.setk k1 n1 hca (hk2.less HDK.out)
  have hp3 : PortIs (fun b => K b ∨ b = mb) W2 t p (failP s1) := hp2.less fun b hb => hb.elim (fun h => .inl (.inl h)) .inr
  have HTB2 : Hid (Tabs K W2) := HTB.out.mono (fun _ h => h) hk2
  have HML2 : Hid (mb < W2.heap.size) := (Array.getElem?_eq_some_iff.1 hb2).1
  have HKL2 : Hid (∀ b, K b → b < W2.heap.size) := fun b hb => hp3.lt b (.inl hb)
  have HLN : Hid (max ((failP s1)).len 65536 + 15 * 11000 ≤ 900000) := by show _ ≤ _; rw [failP_len]; omega
  have CX : Hid (Calls Tryz.prog 90 #[.agg #[.iface t (.pointer (some ⟨p, 0, none⟩))]] W2 fun e w' => e = .returned (.slice (some ⟨W2.heap.size + 16, 0, none⟩) 15 15) ∧ FldsAt w' t p W2.heap.size ∧ w'.heap.size = W2.heap.size + 17 ∧ Below W2.heap.size W2 w' ∧ Lp K D W2 w' t p mb noB cur2 { x with k := k1 } w' (failP s1)) := by
   refine (fields_any t p W2).mono ?_
   rintro e w' ⟨rfl, rfl⟩
   exact ⟨rfl, fldO_at W2 t p, by rw [allocs_size]; rfl, allocs_below _ _, Lp.start HNK.out hb2 HDK.out hm2 hp3 (Below.refl _ _)⟩
  clear hb2 hca hp2 hk2 hm2 hp3 hF2
  go_wp2_with fail
  refine CX.out.mono ?_
  rintro e w1 ⟨rfl, hft, hs1, hbb, hl0⟩
  have HFT : Hid (FldsAt w1 t p W2.heap.size) := hft
  have HS1 : Hid (w1.heap.size = W2.heap.size + 17) := hs1
  have HBB : Hid (Below W2.heap.size W2 w1) := hbb
  have HL0 : Hid (Lp K D W2 w1 t p mb noB cur2 { x with k := k1 } w1 (failP s1)) := hl0
  clear CX hft hs1 hbb hl0
  go_wp2_with fail
  go_loopg [33] 15 (fun gf s9 wx => ∃ (i : Nat) (sti : St) (N : Nat → Prop) (curi : Array Value) (xi : Mg), s9 = .int .i64 (i : Int) ∧ Hid (i + gf = 15) ∧ Hid (goP true gf i sti xi = goP true 15 0 ((failP s1)) { x with k := k1 }) ∧ Hid (xi.k = ({ x with k := k1 }).k) ∧ Hid (Lp K D W2 w1 t p mb N curi xi wx sti) ∧ Hid (max sti.len 65536 + gf * 11000 ≤ 900000))
  case atStart => exact ⟨0, ((failP s1)), noB, cur2, { x with k := k1 }, rfl, rfl, rfl, rfl, HL0, HLN⟩
  case round =>
   obtain ⟨i, sti, N, curi, xi, rfl, H1, H2, H3, H4, H5⟩ := hrel
   by_cases hi : i < 15
   ·obtain ⟨g', rfl⟩ : ∃ g', gk = g' + 1 := ⟨gk - 1, by have := H1.out; omega⟩
    obtain ⟨f0, f1, f2⟩ := (HFT.out.kept H4.out.kept (fun b h1 h2 => .inr (by have := HS1.out; omega))) i hi
    have HI : Hid (i < 15) := hi
    have HKN : Hid (KndsAt wr (W2.heap.size + 1 + i) (ofK.getD i [])) := f2
    have hkl := ofK_len i hi
    obtain ⟨ks, hks⟩ : ∃ ks, ofK.getD i [] = ks := ⟨_, rfl⟩
    rw [hks] at f1 hkl HKN
    have HKS : Hid (ofK.getD i [] = ks) := hks
    have eF := eFld i hi
    obtain ⟨F, hF⟩ : ∃ F, 102 + i = F := ⟨_, rfl⟩
    rw [hF] at f0 eF
    have HFF : Hid (102 + i = F) := hF
    unfold wk at f0
    have z0 : (0 : Int) ≤ (i : Int) := by omega
    have z1 : (i : Int) < 15 := by omega
    have f1' : wr.cell? ⟨W2.heap.size + 16, i * 2 + 1, none⟩ = some (.slice (some ⟨W2.heap.size + 1 + i, 0, none⟩) ks.length ks.length) := f1
    have cm := cellR (k := 0) H4.out.bm H4.out.msg.kc
    obtain ⟨kk, hkk⟩ : ∃ kk, xi.k = kk := ⟨_, rfl⟩
    have HKK : Hid (xi.k = kk) := hkk
    rw [hkk] at cm
    obtain ⟨WF, hW2⟩ : ∃ WF, wr.alloc (.cells #[.func (.func F) #[.agg #[.iface t (.pointer (some ⟨p, 0, none⟩))]] #[], .slice (some ⟨W2.heap.size + 1 + i, 0, none⟩) ks.length ks.length] 174) = WF := ⟨_, rfl⟩
    have hbx : WF.heap[wr.heap.size]? = some (.cells #[.func (.func F) #[.agg #[.iface t (.pointer (some ⟨p, 0, none⟩))]] #[], .slice (some ⟨W2.heap.size + 1 + i, 0, none⟩) ks.length ks.length] 174 (0, 0)) := by rw [← hW2]; exact heap_alloc_new wr _
    have hB2 : Below wr.heap.size wr WF := by rw [← hW2]; exact (Below.refl _ _).alloc (Nat.le_refl _) _
    have x0 := cellR (k := 0) hbx rfl
    have x1 := cellR (k := 1) hbx rfl
    have xm : WF.cell? ⟨mb, 0, none⟩ = some (.int .u8 (kk : Int)) := by
     have hmW : mb < wr.heap.size := (Array.getElem?_eq_some_iff.1 H4.out.bm).1
     rw [hB2.cell (p := ⟨mb, 0, none⟩) hmW]; exact cm
    have HCN : Hid (∀ n, Calls Tryz.prog 91 #[.slice (some ⟨W2.heap.size + 1 + i, 0, none⟩) ks.length ks.length, .int .u8 (kk : Int)] (WF.drewN n) fun e w' => e = .returned (.bool (ks.contains kk)) ∧ w' = WF.drewN n) := fun n => contains_any _ kk ks (WF.drewN n) (fun j u hj => by
     have h1 := HKN.out j u hj
     have h2 : (W2.heap.size + 1 + i) < wr.heap.size := World.block_lt_of_cell? wr ⟨W2.heap.size + 1 + i, j, none⟩ h1
     have h3 : WF.cell? ⟨W2.heap.size + 1 + i, j, none⟩ = some (.int .u8 (u : Int)) := by rw [hB2.cell (p := ⟨W2.heap.size + 1 + i, j, none⟩) h2]; exact h1
     exact h3) hkl
    have HB2 : Hid (Below wr.heap.size wr WF) := hB2
    clear hbx hB2 cm hkk hks hF f2
    cases hct : ks.contains kk with
    | true =>
     rw [hct] at HCN
     have HEQ : Hid (goP true g' (i + 1) (fldP i sti xi).2 (fldP i sti xi).1 = goP true 15 0 ((failP s1)) { x with k := k1 }) := by
      show _ = _
      rw [← H2.out]
      simp only [goP]
      rw [HKS.out, HKK.out, hct, if_pos rfl]
     have HCF : Hid (∀ n, Calls Tryz.prog F #[.agg #[.iface t (.pointer (some ⟨p, 0, none⟩))], .pointer (some ⟨mb, 0, none⟩)] (WF.drewN n) fun e w' => e = .returned (.tuple #[]) ∧ ∃ (N' : Nat → Prop) (cur' : Array Value), Lp K D W2 w1 t p mb N' cur' (fldP i sti xi).1 w' (fldP i sti xi).2) := fun n => by
      have := H4.out.call (W2 := WF.drewN n) HI.out HTB2.out HNK.out HML2.out HDK.out HBB.out HKL2.out ⟨HB2.out.os, HB2.out.tape, HB2.out.output, HB2.out.size, HB2.out.block⟩ (by have := H5.out; omega)
      rw [HFF.out] at this
      exact this
     clear hct hi
     go_wp2_with fail
     go_quiet ((go_at_call 91; exact Calls.quiet_of_same (HCN.out _)))
     go_wp2_with (go_at_fn F; refine (HCF.out _).mono ?_; rintro e w3 ⟨rfl, N', cur', h1⟩; have H6 : Hid (Lp K D W2 w1 t p mb N' cur' (fldP i sti xi).1 w3 (fldP i sti xi).2) := h1; clear h1)
     go_roundg g'
     case measure => omega
     case rel =>
      refine ⟨i + 1, (fldP i sti xi).2, N', cur', (fldP i sti xi).1, by go_num, by show _ = _; have := H1.out; omega, HEQ, by show _ = _; rw [fldP_k]; exact H3.out, H6, ?_⟩
      show _ ≤ _
      have e1 := fld_len i sti xi
      have e2 := H5.out
      omega
    | false =>
     rw [hct] at HCN
     have HEQ : Hid (goP true g' (i + 1) sti xi = goP true 15 0 ((failP s1)) { x with k := k1 }) := by
      show _ = _
      rw [← H2.out]
      simp only [goP]
      rw [HKS.out, HKK.out, hct, if_neg (by simp)]
     clear hct hi
     go_wp2_with fail
     go_quiet ((go_at_call 91; exact Calls.quiet_of_same (HCN.out _)))
     go_wp2_with fail
     go_roundg g'
     case measure => omega
     case rel =>
      refine ⟨i + 1, sti, N, curi, xi, by go_num, by show _ = _; have := H1.out; omega, HEQ, H3, ?_, by show _ ≤ _; have := H5.out; omega⟩
      exact Lp.later H4.out HDK.out ⟨HB2.out.os, HB2.out.tape, HB2.out.output, HB2.out.size, HB2.out.block⟩
   ·have z1 : ¬ (i : Int) < 15 := by omega
    have hgk : gk = 0 := by have := H1.out; omega
    have HEQ : Hid (goP true 15 0 ((failP s1)) { x with k := k1 } = (xi, sti)) := by show _ = _; rw [← H2.out, hgk]; rfl
    clear hi hgk
    go_wp2_with fail
    go_end0
    obtain ⟨e1, e2, e3, e4, e5⟩ := H4.out.fin HBB.out HKL2.out
    have hq : msgP st x = (xi, sti) := by rw [HMP.out]; exact HEQ.out
    have e1' : ∀ b, N b → w.heap.size ≤ b := fun b hb => Nat.le_trans HK2.out.size (e1 b hb)
    first | exact ⟨rfl, N, curi, e1', e2, by rw [hq]; exact e3, by rw [hq]; exact e4, HK2.out.trans e5⟩ | exact ⟨rfl, N, e1', curi, e2, by rw [hq]; exact e3, by rw [hq]; exact e4, HK2.out.trans e5⟩
 ·by_cases h10 : 10 ≤ k1
  ·have HMP : Hid (msgP st x = goP true 15 0 (failP s1) { x with k := k1 }) := by
    show _ = _
    simp only [msgP, HXK.out, r1]
    rw [if_pos (.inr h10)]
   have y0 : ((k1 : Int) == 0) = false := by simp; omega
   have y1 : (10 : Int) ≤ (k1 : Int) := by omega
   clear h0 h10
   have C2 : Hid (Calls Tryz.prog 182 #[.pointer (some ⟨p, 0, none⟩)] W1 fun e w' => e = .returned (.tuple #[]) ∧ Fm K noB w t p mb 0 cur [Value.int .u8 (k1 : Int)] w' (failP s1) ∧ Kept (fun b => K b ∨ noB b) W1 w') := by
    refine hF1.call (R := fun e => e = .returned (.tuple #[])) ?_
    exact fail_any _ t p s1 W1 hF1.port
   clear hF1
   go_wp2_with fail
   refine C2.out.mono ?_
   rintro e W2 ⟨rfl, hF2, _⟩
   have cb2 := hF2.cell0
   clear C2
   obtain ⟨_, ⟨cur2, hb2, hca⟩, hp2, hk2⟩ := hF2.fin
   have HK2 : Hid (Kept K w W2) := hk2
   have hm2 : MsgIs D W2 cur2 { x with k := k1 } := HMI.out.setk k1 n1 hca (hk2.less HDK.out)
   have hp3 : PortIs (fun b => K b ∨ b = mb) W2 t p (failP s1) := hp2.less fun b hb => hb.elim (fun h => .inl (.inl h)) .inr
   have HTB2 : Hid (Tabs K W2) := HTB.out.mono (fun _ h => h) hk2
   have HML2 : Hid (mb < W2.heap.size) := (Array.getElem?_eq_some_iff.1 hb2).1
   have HKL2 : Hid (∀ b, K b → b < W2.heap.size) := fun b hb => hp3.lt b (.inl hb)
   have HLN : Hid (max ((failP s1)).len 65536 + 15 * 11000 ≤ 900000) := by show _ ≤ _; rw [failP_len]; omega
   have CX : Hid (Calls Tryz.prog 90 #[.agg #[.iface t (.pointer (some ⟨p, 0, none⟩))]] W2 fun e w' => e = .returned (.slice (some ⟨W2.heap.size + 16, 0, none⟩) 15 15) ∧ FldsAt w' t p W2.heap.size ∧ w'.heap.size = W2.heap.size + 17 ∧ Below W2.heap.size W2 w' ∧ Lp K D W2 w' t p mb noB cur2 { x with k := k1 } w' (failP s1)) := by
    refine (fields_any t p W2).mono ?_
    rintro e w' ⟨rfl, rfl⟩
    exact ⟨rfl, fldO_at W2 t p, by rw [allocs_size]; rfl, allocs_below _ _, Lp.start HNK.out hb2 HDK.out hm2 hp3 (Below.refl _ _)⟩
   clear hb2 hca hp2 hk2 hm2 hp3 hF2
   go_wp2_with fail
   refine CX.out.mono ?_
   rintro e w1 ⟨rfl, hft, hs1, hbb, hl0⟩
   have HFT : Hid (FldsAt w1 t p W2.heap.size) := hft
   have HS1 : Hid (w1.heap.size = W2.heap.size + 17) := hs1
   have HBB : Hid (Below W2.heap.size W2 w1) := hbb
   have HL0 : Hid (Lp K D W2 w1 t p mb noB cur2 { x with k := k1 } w1 (failP s1)) := hl0
   clear CX hft hs1 hbb hl0
   go_wp2_with fail
   go_loopg [33] 15 (fun gf s9 wx => ∃ (i : Nat) (sti : St) (N : Nat → Prop) (curi : Array Value) (xi : Mg), s9 = .int .i64 (i : Int) ∧ Hid (i + gf = 15) ∧ Hid (goP true gf i sti xi = goP true 15 0 ((failP s1)) { x with k := k1 }) ∧ Hid (xi.k = ({ x with k := k1 }).k) ∧ Hid (Lp K D W2 w1 t p mb N curi xi wx sti) ∧ Hid (max sti.len 65536 + gf * 11000 ≤ 900000))
   case atStart => exact ⟨0, ((failP s1)), noB, cur2, { x with k := k1 }, rfl, rfl, rfl, rfl, HL0, HLN⟩
   case round =>
    obtain ⟨i, sti, N, curi, xi, rfl, H1, H2, H3, H4, H5⟩ := hrel
    by_cases hi : i < 15
    ·obtain ⟨g', rfl⟩ : ∃ g', gk = g' + 1 := ⟨gk - 1, by have := H1.out; omega⟩
     obtain ⟨f0, f1, f2⟩ := (HFT.out.kept H4.out.kept (fun b h1 h2 => .inr (by have := HS1.out; omega))) i hi
     have HI : Hid (i < 15) := hi
     have HKN : Hid (KndsAt wr (W2.heap.size + 1 + i) (ofK.getD i [])) := f2
     have hkl := ofK_len i hi
     obtain ⟨ks, hks⟩ : ∃ ks, ofK.getD i [] = ks := ⟨_, rfl⟩
     rw [hks] at f1 hkl HKN
     have HKS : Hid (ofK.getD i [] = ks) := hks
     have eF := eFld i hi
     obtain ⟨F, hF⟩ : ∃ F, 102 + i = F := ⟨_, rfl⟩
     rw [hF] at f0 eF
     have HFF : Hid (102 + i = F) := hF
     unfold wk at f0
     have z0 : (0 : Int) ≤ (i : Int) := by omega
     have z1 : (i : Int) < 15 := by omega
     have f1' : wr.cell? ⟨W2.heap.size + 16, i * 2 + 1, none⟩ = some (.slice (some ⟨W2.heap.size + 1 + i, 0, none⟩) ks.length ks.length) := f1
     have cm := cellR (k := 0) H4.out.bm H4.out.msg.kc
     obtain ⟨kk, hkk⟩ : ∃ kk, xi.k = kk := ⟨_, rfl⟩
     have HKK : Hid (xi.k = kk) := hkk
     rw [hkk] at cm
     obtain ⟨WF, hW2⟩ : ∃ WF, wr.alloc (.cells #[.func (.func F) #[.agg #[.iface t (.pointer (some ⟨p, 0, none⟩))]] #[], .slice (some ⟨W2.heap.size + 1 + i, 0, none⟩) ks.length ks.length] 174) = WF := ⟨_, rfl⟩
     have hbx : WF.heap[wr.heap.size]? = some (.cells #[.func (.func F) #[.agg #[.iface t (.pointer (some ⟨p, 0, none⟩))]] #[], .slice (some ⟨W2.heap.size + 1 + i, 0, none⟩) ks.length ks.length] 174 (0, 0)) := by rw [← hW2]; exact heap_alloc_new wr _
     have hB2 : Below wr.heap.size wr WF := by rw [← hW2]; exact (Below.refl _ _).alloc (Nat.le_refl _) _
     have x0 := cellR (k := 0) hbx rfl
     have x1 := cellR (k := 1) hbx rfl
     have xm : WF.cell? ⟨mb, 0, none⟩ = some (.int .u8 (kk : Int)) := by
      have hmW : mb < wr.heap.size := (Array.getElem?_eq_some_iff.1 H4.out.bm).1
      rw [hB2.cell (p := ⟨mb, 0, none⟩) hmW]; exact cm
     have HCN : Hid (∀ n, Calls Tryz.prog 91 #[.slice (some ⟨W2.heap.size + 1 + i, 0, none⟩) ks.length ks.length, .int .u8 (kk : Int)] (WF.drewN n) fun e w' => e = .returned (.bool (ks.contains kk)) ∧ w' = WF.drewN n) := fun n => contains_any _ kk ks (WF.drewN n) (fun j u hj => by
      have h1 := HKN.out j u hj
      have h2 : (W2.heap.size + 1 + i) < wr.heap.size := World.block_lt_of_cell? wr ⟨W2.heap.size + 1 + i, j, none⟩ h1
      have h3 : WF.cell? ⟨W2.heap.size + 1 + i, j, none⟩ = some (.int .u8 (u : Int)) := by rw [hB2.cell (p := ⟨W2.heap.size + 1 + i, j, none⟩) h2]; exact h1
      exact h3) hkl
     have HB2 : Hid (Below wr.heap.size wr WF) := hB2
     clear hbx hB2 cm hkk hks hF f2
     cases hct : ks.contains kk with
     | true =>
      rw [hct] at HCN
      have HEQ : Hid (goP true g' (i + 1) (fldP i sti xi).2 (fldP i sti xi).1 = goP true 15 0 ((failP s1)) { x with k := k1 }) := by
       show _ = _
       rw [← H2.out]
       simp only [goP]
       rw [HKS.out, HKK.out, hct, if_pos rfl]
      have HCF : Hid (∀ n, Calls Tryz.prog F #[.agg #[.iface t (.pointer (some ⟨p, 0, none⟩))], .pointer (some ⟨mb, 0, none⟩)] (WF.drewN n) fun e w' => e = .returned (.tuple #[]) ∧ ∃ (N' : Nat → Prop) (cur' : Array Value), Lp K D W2 w1 t p mb N' cur' (fldP i sti xi).1 w' (fldP i sti xi).2) := fun n => by
       have := H4.out.call (W2 := WF.drewN n) HI.out HTB2.out HNK.out HML2.out HDK.out HBB.out HKL2.out ⟨HB2.out.os, HB2.out.tape, HB2.out.output, HB2.out.size, HB2.out.block⟩ (by have := H5.out; omega)
       rw [HFF.out] at this
       exact this
      clear hct hi
      go_wp2_with fail
      go_quiet ((go_at_call 91; exact Calls.quiet_of_same (HCN.out _)))
      go_wp2_with (go_at_fn F; refine (HCF.out _).mono ?_; rintro e w3 ⟨rfl, N', cur', h1⟩; have H6 : Hid (Lp K D W2 w1 t p mb N' cur' (fldP i sti xi).1 w3 (fldP i sti xi).2) := h1; clear h1)
      go_roundg g'
      case measure => omega
      case rel =>
       refine ⟨i + 1, (fldP i sti xi).2, N', cur', (fldP i sti xi).1, by go_num, by show _ = _; have := H1.out; omega, HEQ, by show _ = _; rw [fldP_k]; exact H3.out, H6, ?_⟩
       show _ ≤ _
       have e1 := fld_len i sti xi
       have e2 := H5.out
       omega
     | false =>
      rw [hct] at HCN
      have HEQ : Hid (goP true g' (i + 1) sti xi = goP true 15 0 ((failP s1)) { x with k := k1 }) := by
       show _ = _
       rw [← H2.out]
       simp only [goP]
       rw [HKS.out, HKK.out, hct, if_neg (by simp)]
      clear hct hi
      go_wp2_with fail
      go_quiet ((go_at_call 91; exact Calls.quiet_of_same (HCN.out _)))
      go_wp2_with fail
      go_roundg g'
      case measure => omega
      case rel =>
       refine ⟨i + 1, sti, N, curi, xi, by go_num, by show _ = _; have := H1.out; omega, HEQ, H3, ?_, by show _ ≤ _; have := H5.out; omega⟩
       exact Lp.later H4.out HDK.out ⟨HB2.out.os, HB2.out.tape, HB2.out.output, HB2.out.size, HB2.out.block⟩
    ·have z1 : ¬ (i : Int) < 15 := by omega
     have hgk : gk = 0 := by have := H1.out; omega
     have HEQ : Hid (goP true 15 0 ((failP s1)) { x with k := k1 } = (xi, sti)) := by show _ = _; rw [← H2.out, hgk]; rfl
     clear hi hgk
     go_wp2_with fail
     go_end0
     obtain ⟨e1, e2, e3, e4, e5⟩ := H4.out.fin HBB.out HKL2.out
     have hq : msgP st x = (xi, sti) := by rw [HMP.out]; exact HEQ.out
     have e1' : ∀ b, N b → w.heap.size ≤ b := fun b hb => Nat.le_trans HK2.out.size (e1 b hb)
     first | exact ⟨rfl, N, curi, e1', e2, by rw [hq]; exact e3, by rw [hq]; exact e4, HK2.out.trans e5⟩ | exact ⟨rfl, N, e1', curi, e2, by rw [hq]; exact e3, by rw [hq]; exact e4, HK2.out.trans e5⟩
  ·have HMP : Hid (msgP st x = goP true 15 0 s1 { x with k := k1 }) := by
    show _ = _
    simp only [msgP, HXK.out, r1]
    rw [if_neg (by omega)]
   have y0 : ((k1 : Int) == 0) = false := by simp; omega
   have y1 : ¬ (10 : Int) ≤ (k1 : Int) := by omega
   clear h0 h10
   obtain ⟨_, ⟨cur2, hb2, hca⟩, hp2, hk2⟩ := hF1.fin
   have HK2 : Hid (Kept K w W1) := hk2
   have hm2 : MsgIs D W1 cur2 { x with k := k1 } := HMI.out.setk k1 n1 hca (hk2.less HDK.out)
   have hp3 : PortIs (fun b => K b ∨ b = mb) W1 t p s1 := hp2.less fun b hb => hb.elim (fun h => .inl (.inl h)) .inr
   have HTB2 : Hid (Tabs K W1) := HTB.out.mono (fun _ h => h) hk2
   have HML2 : Hid (mb < W1.heap.size) := (Array.getElem?_eq_some_iff.1 hb2).1
   have HKL2 : Hid (∀ b, K b → b < W1.heap.size) := fun b hb => hp3.lt b (.inl hb)
   have HLN : Hid (max (s1).len 65536 + 15 * 11000 ≤ 900000) := by show _ ≤ _; skip; omega
   have CX : Hid (Calls Tryz.prog 90 #[.agg #[.iface t (.pointer (some ⟨p, 0, none⟩))]] W1 fun e w' => e = .returned (.slice (some ⟨W1.heap.size + 16, 0, none⟩) 15 15) ∧ FldsAt w' t p W1.heap.size ∧ w'.heap.size = W1.heap.size + 17 ∧ Below W1.heap.size W1 w' ∧ Lp K D W1 w' t p mb noB cur2 { x with k := k1 } w' s1) := by
    refine (fields_any t p W1).mono ?_
    rintro e w' ⟨rfl, rfl⟩
    exact ⟨rfl, fldO_at W1 t p, by rw [allocs_size]; rfl, allocs_below _ _, Lp.start HNK.out hb2 HDK.out hm2 hp3 (Below.refl _ _)⟩
   clear hb2 hca hp2 hk2 hm2 hp3 hF1
   go_wp2_with fail
   refine CX.out.mono ?_
   rintro e w1 ⟨rfl, hft, hs1, hbb, hl0⟩
   have HFT : Hid (FldsAt w1 t p W1.heap.size) := hft
   have HS1 : Hid (w1.heap.size = W1.heap.size + 17) := hs1
   have HBB : Hid (Below W1.heap.size W1 w1) := hbb
   have HL0 : Hid (Lp K D W1 w1 t p mb noB cur2 { x with k := k1 } w1 s1) := hl0
   clear CX hft hs1 hbb hl0
   go_wp2_with fail
   go_loopg [33] 15 (fun gf s9 wx => ∃ (i : Nat) (sti : St) (N : Nat → Prop) (curi : Array Value) (xi : Mg), s9 = .int .i64 (i : Int) ∧ Hid (i + gf = 15) ∧ Hid (goP true gf i sti xi = goP true 15 0 s1 { x with k := k1 }) ∧ Hid (xi.k = ({ x with k := k1 }).k) ∧ Hid (Lp K D W1 w1 t p mb N curi xi wx sti) ∧ Hid (max sti.len 65536 + gf * 11000 ≤ 900000))
   case atStart => exact ⟨0, s1, noB, cur2, { x with k := k1 }, rfl, rfl, rfl, rfl, HL0, HLN⟩
   case round =>
    obtain ⟨i, sti, N, curi, xi, rfl, H1, H2, H3, H4, H5⟩ := hrel
    by_cases hi : i < 15
    ·obtain ⟨g', rfl⟩ : ∃ g', gk = g' + 1 := ⟨gk - 1, by have := H1.out; omega⟩
     obtain ⟨f0, f1, f2⟩ := (HFT.out.kept H4.out.kept (fun b h1 h2 => .inr (by have := HS1.out; omega))) i hi
     have HI : Hid (i < 15) := hi
     have HKN : Hid (KndsAt wr (W1.heap.size + 1 + i) (ofK.getD i [])) := f2
     have hkl := ofK_len i hi
     obtain ⟨ks, hks⟩ : ∃ ks, ofK.getD i [] = ks := ⟨_, rfl⟩
     rw [hks] at f1 hkl HKN
     have HKS : Hid (ofK.getD i [] = ks) := hks
     have eF := eFld i hi
     obtain ⟨F, hF⟩ : ∃ F, 102 + i = F := ⟨_, rfl⟩
     rw [hF] at f0 eF
     have HFF : Hid (102 + i = F) := hF
     unfold wk at f0
     have z0 : (0 : Int) ≤ (i : Int) := by omega
     have z1 : (i : Int) < 15 := by omega
     have f1' : wr.cell? ⟨W1.heap.size + 16, i * 2 + 1, none⟩ = some (.slice (some ⟨W1.heap.size + 1 + i, 0, none⟩) ks.length ks.length) := f1
     have cm := cellR (k := 0) H4.out.bm H4.out.msg.kc
     obtain ⟨kk, hkk⟩ : ∃ kk, xi.k = kk := ⟨_, rfl⟩
     have HKK : Hid (xi.k = kk) := hkk
     rw [hkk] at cm
     obtain ⟨W2, hW2⟩ : ∃ W2, wr.alloc (.cells #[.func (.func F) #[.agg #[.iface t (.pointer (some ⟨p, 0, none⟩))]] #[], .slice (some ⟨W1.heap.size + 1 + i, 0, none⟩) ks.length ks.length] 174) = W2 := ⟨_, rfl⟩
     have hbx : W2.heap[wr.heap.size]? = some (.cells #[.func (.func F) #[.agg #[.iface t (.pointer (some ⟨p, 0, none⟩))]] #[], .slice (some ⟨W1.heap.size + 1 + i, 0, none⟩) ks.length ks.length] 174 (0, 0)) := by rw [← hW2]; exact heap_alloc_new wr _
     have hB2 : Below wr.heap.size wr W2 := by rw [← hW2]; exact (Below.refl _ _).alloc (Nat.le_refl _) _
     have x0 := cellR (k := 0) hbx rfl
     have x1 := cellR (k := 1) hbx rfl
     have xm : W2.cell? ⟨mb, 0, none⟩ = some (.int .u8 (kk : Int)) := by
      have hmW : mb < wr.heap.size := (Array.getElem?_eq_some_iff.1 H4.out.bm).1
      rw [hB2.cell (p := ⟨mb, 0, none⟩) hmW]; exact cm
     have HCN : Hid (∀ n, Calls Tryz.prog 91 #[.slice (some ⟨W1.heap.size + 1 + i, 0, none⟩) ks.length ks.length, .int .u8 (kk : Int)] (W2.drewN n) fun e w' => e = .returned (.bool (ks.contains kk)) ∧ w' = W2.drewN n) := fun n => contains_any _ kk ks (W2.drewN n) (fun j u hj => by
      have h1 := HKN.out j u hj
      have h2 : (W1.heap.size + 1 + i) < wr.heap.size := World.block_lt_of_cell? wr ⟨W1.heap.size + 1 + i, j, none⟩ h1
      have h3 : W2.cell? ⟨W1.heap.size + 1 + i, j, none⟩ = some (.int .u8 (u : Int)) := by rw [hB2.cell (p := ⟨W1.heap.size + 1 + i, j, none⟩) h2]; exact h1
      exact h3) hkl
     have HB2 : Hid (Below wr.heap.size wr W2) := hB2
     clear hbx hB2 cm hkk hks hF f2
     cases hct : ks.contains kk with
     | true =>
      rw [hct] at HCN
      have HEQ : Hid (goP true g' (i + 1) (fldP i sti xi).2 (fldP i sti xi).1 = goP true 15 0 s1 { x with k := k1 }) := by
       show _ = _
       rw [← H2.out]
       simp only [goP]
       rw [HKS.out, HKK.out, hct, if_pos rfl]
      have HCF : Hid (∀ n, Calls Tryz.prog F #[.agg #[.iface t (.pointer (some ⟨p, 0, none⟩))], .pointer (some ⟨mb, 0, none⟩)] (W2.drewN n) fun e w' => e = .returned (.tuple #[]) ∧ ∃ (N' : Nat → Prop) (cur' : Array Value), Lp K D W1 w1 t p mb N' cur' (fldP i sti xi).1 w' (fldP i sti xi).2) := fun n => by
       have := H4.out.call (W2 := W2.drewN n) HI.out HTB2.out HNK.out HML2.out HDK.out HBB.out HKL2.out ⟨HB2.out.os, HB2.out.tape, HB2.out.output, HB2.out.size, HB2.out.block⟩ (by have := H5.out; omega)
       rw [HFF.out] at this
       exact this
      clear hct hi
      go_wp2_with fail
      go_quiet ((go_at_call 91; exact Calls.quiet_of_same (HCN.out _)))
      go_wp2_with (go_at_fn F; refine (HCF.out _).mono ?_; rintro e w3 ⟨rfl, N', cur', h1⟩; have H6 : Hid (Lp K D W1 w1 t p mb N' cur' (fldP i sti xi).1 w3 (fldP i sti xi).2) := h1; clear h1)
      go_roundg g'
      case measure => omega
      case rel =>
       refine ⟨i + 1, (fldP i sti xi).2, N', cur', (fldP i sti xi).1, by go_num, by show _ = _; have := H1.out; omega, HEQ, by show _ = _; rw [fldP_k]; exact H3.out, H6, ?_⟩
       show _ ≤ _
       have e1 := fld_len i sti xi
       have e2 := H5.out
       omega
     | false =>
      rw [hct] at HCN
      have HEQ : Hid (goP true g' (i + 1) sti xi = goP true 15 0 s1 { x with k := k1 }) := by
       show _ = _
       rw [← H2.out]
       simp only [goP]
       rw [HKS.out, HKK.out, hct, if_neg (by simp)]
      clear hct hi
      go_wp2_with fail
      go_quiet ((go_at_call 91; exact Calls.quiet_of_same (HCN.out _)))
      go_wp2_with fail
      go_roundg g'
      case measure => omega
      case rel =>
       refine ⟨i + 1, sti, N, curi, xi, by go_num, by show _ = _; have := H1.out; omega, HEQ, H3, ?_, by show _ ≤ _; have := H5.out; omega⟩
       exact Lp.later H4.out HDK.out ⟨HB2.out.os, HB2.out.tape, HB2.out.output, HB2.out.size, HB2.out.block⟩
    ·have z1 : ¬ (i : Int) < 15 := by omega
     have hgk : gk = 0 := by have := H1.out; omega
     have HEQ : Hid (goP true 15 0 s1 { x with k := k1 } = (xi, sti)) := by show _ = _; rw [← H2.out, hgk]; rfl
     clear hi hgk
     go_wp2_with fail
     go_end0
     obtain ⟨e1, e2, e3, e4, e5⟩ := H4.out.fin HBB.out HKL2.out
     have hq : msgP st x = (xi, sti) := by rw [HMP.out]; exact HEQ.out
     have e1' : ∀ b, N b → w.heap.size ≤ b := fun b hb => Nat.le_trans HK2.out.size (e1 b hb)
     first | exact ⟨rfl, N, curi, e1', e2, by rw [hq]; exact e3, by rw [hq]; exact e4, HK2.out.trans e5⟩ | exact ⟨rfl, N, e1', curi, e2, by rw [hq]; exact e3, by rw [hq]; exact e4, HK2.out.trans e5⟩
end Go.Proofs.YtajomnfeicfdlaaGreatDoor

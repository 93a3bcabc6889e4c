/- A message in new memory, field by field. -/
import Derived.Test.YtajomnfeicfdlaaGreatDoorGfGg
import Derived.Test.YtajomnfeicfdlaaGreatDoorNaNbNcNd
import Derived.Deep.RegionHeld3
namespace Go.Proofs.YtajomnfeicfdlaaGreatDoor
open Go.Shelf Go.RowKit Go.Lib
set_option linter.unusedVariables false
set_option linter.unusedSimpArgs false
/-- How far a message is copied. -/
structure Stage (n hi : Nat) (w W : World) (cl cl0 : List Value) (x : Mg) : Prop where
 two : Two 63 cl w W
 len : cl.length = 47
 same : ∀ k, k < 7 ∨ hi ≤ k ∨ k = 37 ∨ k = 38 → cl[k]? = cl0[k]?
 bd : 1 ≤ n → GI rBnd 7 11 (From (w.heap.size + 2) W) W cl.toArray x.bd
 ct : 2 ≤ n → GI rTbls 18 1 (From (w.heap.size + 2) W) W cl.toArray x.ct
 fg : 3 ≤ n → GI rFrg 19 17 (From (w.heap.size + 2) W) W cl.toArray x.fg
 nd : 4 ≤ n → GI rInts 36 1 (From (w.heap.size + 2) W) W cl.toArray x.nd
 rw_ : 5 ≤ n → GI rRws 39 1 (From (w.heap.size + 2) W) W cl.toArray x.rw
 fh : 6 ≤ n → GI rFh 40 5 (From (w.heap.size + 2) W) W cl.toArray (⟨x.fl.t, x.fl.v, x.fl.s, x.fl.c⟩ : Fh)
 fw : 6 ≤ n → GI rRws 45 1 (From (w.heap.size + 2) W) W cl.toArray x.fl.r
 cm : 7 ≤ n → GI rClms 46 1 (From (w.heap.size + 2) W) W cl.toArray x.cm
theorem GI.step {α : Type} {rel : Rel α} (hm : Mono rel) {lo sz B : Nat} {W W' : World} {cl cl' : List Value} {x : α} (h : GI rel lo sz (From B W) W cl.toArray x) (hc : ∀ k, lo ≤ k → k < lo + sz → cl'[k]? = cl[k]?) (hk : Kept (From B W) W W') : GI rel lo sz (From B W') W' cl'.toArray x :=
 h.keep hm (fun k h1 h2 => by simpa using hc k h1 h2) (fun b hb => ⟨hb.1, Nat.lt_of_lt_of_le hb.2 hk.size⟩) hk
theorem Stage.start {w W : World} {cl : List Value} {x : Mg} (h : Two 63 cl w W) (hl : cl.length = 47) : Stage 0 7 w W cl cl x :=
 ⟨h, hl, fun _ _ => rfl, fun h => by omega, fun h => by omega, fun h => by omega, fun h => by omega, fun h => by omega, fun h => by omega, fun h => by omega, fun h => by omega⟩
theorem Stage.call {n hi : Nat} {w W W' : World} {cl cl0 : List Value} {x : Mg} (h : Stage n hi w W cl cl0 x) (hb : Below W.heap.size W W') : Stage n hi w W' cl cl0 x :=
 have hk : Kept (From (w.heap.size + 2) W) W W' := kept_of (fun b h => h.2) hb
 ⟨h.two.call hb, h.len, h.same, fun e => (h.bd e).step mBnd (fun _ _ _ => rfl) hk, fun e => (h.ct e).step mTbls (fun _ _ _ => rfl) hk, fun e => (h.fg e).step mFrg (fun _ _ _ => rfl) hk, fun e => (h.nd e).step mInts (fun _ _ _ => rfl) hk, fun e => (h.rw_ e).step mRws (fun _ _ _ => rfl) hk, fun e => (h.fh e).step mFh (fun _ _ _ => rfl) hk, fun e => (h.fw e).step mRws (fun _ _ _ => rfl) hk, fun e => (h.cm e).step mClms (fun _ _ _ => rfl) hk⟩
theorem Stage.put1 {w W W' : World} {cl cl' cl0 : List Value} {x : Mg} (h : Stage 0 7 w W cl cl0 x) (h2 : Two 63 cl' w W') (hl : cl'.length = cl.length) (ho : ∀ k, k < 7 ∨ 18 ≤ k → cl'[k]? = cl[k]?) (hk' : Kept (From (w.heap.size + 2) W) W W') (hg0 : GI rBnd 7 11 (From (w.heap.size + 2) W') W' cl'.toArray x.bd) : Stage 1 18 w W' cl' cl0 x :=
 ⟨h2, by rw [hl]; exact h.len, fun k hkk => (ho k (by omega)).trans (h.same k (by omega)), fun _ => hg0, fun e => by omega, fun e => by omega, fun e => by omega, fun e => by omega, fun e => by omega, fun e => by omega, fun e => by omega⟩
theorem Stage.put2 {w W W' : World} {cl cl' cl0 : List Value} {x : Mg} (h : Stage 1 18 w W cl cl0 x) (h2 : Two 63 cl' w W') (hl : cl'.length = cl.length) (ho : ∀ k, k < 18 ∨ 19 ≤ k → cl'[k]? = cl[k]?) (hk' : Kept (From (w.heap.size + 2) W) W W') (hg0 : GI rTbls 18 1 (From (w.heap.size + 2) W') W' cl'.toArray x.ct) : Stage 2 19 w W' cl' cl0 x :=
 ⟨h2, by rw [hl]; exact h.len, fun k hkk => (ho k (by omega)).trans (h.same k (by omega)), fun e => (h.bd (by omega)).step mBnd (fun k h1 h2 => ho k (by omega)) hk', fun _ => hg0, fun e => by omega, fun e => by omega, fun e => by omega, fun e => by omega, fun e => by omega, fun e => by omega⟩
theorem Stage.put3 {w W W' : World} {cl cl' cl0 : List Value} {x : Mg} (h : Stage 2 19 w W cl cl0 x) (h2 : Two 63 cl' w W') (hl : cl'.length = cl.length) (ho : ∀ k, k < 19 ∨ 36 ≤ k → cl'[k]? = cl[k]?) (hk' : Kept (From (w.heap.size + 2) W) W W') (hg0 : GI rFrg 19 17 (From (w.heap.size + 2) W') W' cl'.toArray x.fg) : Stage 3 36 w W' cl' cl0 x :=
 ⟨h2, by rw [hl]; exact h.len, fun k hkk => (ho k (by omega)).trans (h.same k (by omega)), fun e => (h.bd (by omega)).step mBnd (fun k h1 h2 => ho k (by omega)) hk', fun e => (h.ct (by omega)).step mTbls (fun k h1 h2 => ho k (by omega)) hk', fun _ => hg0, fun e => by omega, fun e => by omega, fun e => by omega, fun e => by omega, fun e => by omega⟩
theorem Stage.put4 {w W W' : World} {cl cl' cl0 : List Value} {x : Mg} (h : Stage 3 36 w W cl cl0 x) (h2 : Two 63 cl' w W') (hl : cl'.length = cl.length) (ho : ∀ k, k < 36 ∨ 37 ≤ k → cl'[k]? = cl[k]?) (hk' : Kept (From (w.heap.size + 2) W) W W') (hg0 : GI rInts 36 1 (From (w.heap.size + 2) W') W' cl'.toArray x.nd) : Stage 4 37 w W' cl' cl0 x :=
 ⟨h2, by rw [hl]; exact h.len, fun k hkk => (ho k (by omega)).trans (h.same k (by omega)), fun e => (h.bd (by omega)).step mBnd (fun k h1 h2 => ho k (by omega)) hk', fun e => (h.ct (by omega)).step mTbls (fun k h1 h2 => ho k (by omega)) hk', fun e => (h.fg (by omega)).step mFrg (fun k h1 h2 => ho k (by omega)) hk', fun _ => hg0, fun e => by omega, fun e => by omega, fun e => by omega, fun e => by omega⟩
theorem Stage.put5 {w W W' : World} {cl cl' cl0 : List Value} {x : Mg} (h : Stage 4 37 w W cl cl0 x) (h2 : Two 63 cl' w W') (hl : cl'.length = cl.length) (ho : ∀ k, k < 39 ∨ 40 ≤ k → cl'[k]? = cl[k]?) (hk' : Kept (From (w.heap.size + 2) W) W W') (hg0 : GI rRws 39 1 (From (w.heap.size + 2) W') W' cl'.toArray x.rw) : Stage 5 40 w W' cl' cl0 x :=
 ⟨h2, by rw [hl]; exact h.len, fun k hkk => (ho k (by omega)).trans (h.same k (by omega)), fun e => (h.bd (by omega)).step mBnd (fun k h1 h2 => ho k (by omega)) hk', fun e => (h.ct (by omega)).step mTbls (fun k h1 h2 => ho k (by omega)) hk', fun e => (h.fg (by omega)).step mFrg (fun k h1 h2 => ho k (by omega)) hk', fun e => (h.nd (by omega)).step mInts (fun k h1 h2 => ho k (by omega)) hk', fun _ => hg0, fun e => by omega, fun e => by omega, fun e => by omega⟩
theorem Stage.put6 {w W W' : World} {cl cl' cl0 : List Value} {x : Mg} (h : Stage 5 40 w W cl cl0 x) (h2 : Two 63 cl' w W') (hl : cl'.length = cl.length) (ho : ∀ k, k < 40 ∨ 46 ≤ k → cl'[k]? = cl[k]?) (hk' : Kept (From (w.heap.size + 2) W) W W') (hg0 : GI rFh 40 5 (From (w.heap.size + 2) W') W' cl'.toArray (⟨x.fl.t, x.fl.v, x.fl.s, x.fl.c⟩ : Fh)) (hg1 : GI rRws 45 1 (From (w.heap.size + 2) W') W' cl'.toArray x.fl.r) : Stage 6 46 w W' cl' cl0 x :=
 ⟨h2, by rw [hl]; exact h.len, fun k hkk => (ho k (by omega)).trans (h.same k (by omega)), fun e => (h.bd (by omega)).step mBnd (fun k h1 h2 => ho k (by omega)) hk', fun e => (h.ct (by omega)).step mTbls (fun k h1 h2 => ho k (by omega)) hk', fun e => (h.fg (by omega)).step mFrg (fun k h1 h2 => ho k (by omega)) hk', fun e => (h.nd (by omega)).step mInts (fun k h1 h2 => ho k (by omega)) hk', fun e => (h.rw_ (by omega)).step mRws (fun k h1 h2 => ho k (by omega)) hk', fun _ => hg0, fun _ => hg1, fun e => by omega⟩
theorem Stage.put7 {w W W' : World} {cl cl' cl0 : List Value} {x : Mg} (h : Stage 6 46 w W cl cl0 x) (h2 : Two 63 cl' w W') (hl : cl'.length = cl.length) (ho : ∀ k, k < 46 ∨ 47 ≤ k → cl'[k]? = cl[k]?) (hk' : Kept (From (w.heap.size + 2) W) W W') (hg0 : GI rClms 46 1 (From (w.heap.size + 2) W') W' cl'.toArray x.cm) : Stage 7 47 w W' cl' cl0 x :=
 ⟨h2, by rw [hl]; exact h.len, fun k hkk => (ho k (by omega)).trans (h.same k (by omega)), fun e => (h.bd (by omega)).step mBnd (fun k h1 h2 => ho k (by omega)) hk', fun e => (h.ct (by omega)).step mTbls (fun k h1 h2 => ho k (by omega)) hk', fun e => (h.fg (by omega)).step mFrg (fun k h1 h2 => ho k (by omega)) hk', fun e => (h.nd (by omega)).step mInts (fun k h1 h2 => ho k (by omega)) hk', fun e => (h.rw_ (by omega)).step mRws (fun k h1 h2 => ho k (by omega)) hk', fun e => (h.fh (by omega)).step mFh (fun k h1 h2 => ho k (by omega)) hk', fun e => (h.fw (by omega)).step mRws (fun k h1 h2 => ho k (by omega)) hk', fun _ => hg0⟩
/-- A message that is copied is that message, in new memory. -/
theorem Stage.done {w W W' : World} {cl cl0 : List Value} {x : Mg} {K : Nat → Prop} {w0 : World} (h : Stage 7 47 w W cl cl0 x) (h0 : MsgIs K w0 cl0.toArray x) (hk : Kept (fun b => w.heap.size + 2 ≤ b) W W') : MsgIs (From w.heap.size W') W' cl.toArray x := by
 have e : ∀ k, k < 7 ∨ k = 37 ∨ k = 38 → cl.toArray[k]? = cl0.toArray[k]? := fun k hk => by simpa using h.same k (by omega)
 have D : ∀ b, From (w.heap.size + 2) W b → From w.heap.size W' b := fun b hb => ⟨by have := hb.1; omega, Nat.lt_of_lt_of_le hb.2 hk.size⟩
 have hk' : Kept (From (w.heap.size + 2) W) W W' := hk.less fun b h => h.1
 have fl : ∀ {α : Type} {rel : Rel α} {lo sz : Nat} {v : α}, (∀ K K' W W' cs x, rel K W cs x → rel K' W' cs x) → (∀ k, lo ≤ k → k < lo + sz → k < 7 ∨ k = 37 ∨ k = 38) → GI rel lo sz K w0 cl0.toArray v → GI rel lo sz (From w.heap.size W') W' cl.toArray v := fun hf hr ⟨cs, g1, g2, g3⟩ => ⟨cs, g1, fun j u hj => by rw [e _ (hr _ (by omega) (by have := (List.getElem?_eq_some_iff.1 hj).1; omega))]; exact g2 j u hj, hf _ _ _ _ _ _ g3⟩
 exact ⟨by simpa using h.len, by rw [e 0 (by omega)]; exact h0.kc, h0.kl, fl (fun _ _ _ _ _ _ h => h) (by omega) h0.bt, fl (fun _ _ _ _ _ _ h => h) (by omega) h0.qr, fl (fun _ _ _ _ _ _ h => h) (by omega) h0.at_, fl (fun _ _ _ _ _ _ h => h) (by omega) h0.fr, fl (fun _ _ _ _ _ _ h => h) (by omega) h0.tq, (h.bd (by omega)).keep mBnd (fun _ _ _ => rfl) D hk', (h.ct (by omega)).keep mTbls (fun _ _ _ => rfl) D hk', (h.fg (by omega)).keep mFrg (fun _ _ _ => rfl) D hk', (h.nd (by omega)).keep mInts (fun _ _ _ => rfl) D hk', fl (fun _ _ _ _ _ _ h => h) (by omega) h0.sq, fl (fun _ _ _ _ _ _ h => h) (by omega) h0.ls, (h.rw_ (by omega)).keep mRws (fun _ _ _ => rfl) D hk', (h.fh (by omega)).keep mFh (fun _ _ _ => rfl) D hk', (h.fw (by omega)).keep mRws (fun _ _ _ => rfl) D hk', (h.cm (by omega)).keep mClms (fun _ _ _ => rfl) D hk'⟩
end Go.Proofs.YtajomnfeicfdlaaGreatDoor
/- A message in new memory: the walk. -/
namespace Go.Proofs.YtajomnfeicfdlaaGreatDoor
open Go.Shelf Go.RowKit Go.Lib
set_option linter.unusedVariables false
set_option linter.unusedSimpArgs false
attribute [local go_sem ↓] Go.wp_at_zero Go.wp_at_succ
theorem bnd_shape {K : Nat → Prop} {W : World} {cs : List Value} {x : Bnd} (h : rBnd K W cs x) : cs.length = 11 ∧ cs.toArray.all (·.oneCell') = true ∧ asV cs = .agg cs.toArray := by
 obtain ⟨v1, v2, v3, v4, v5, rfl, _, _, _, _, _, ⟨_, _, rfl, _⟩, ⟨_, _, rfl, _⟩, ⟨_, _, rfl, _⟩, ⟨_, _, rfl, _⟩, ⟨_, _, rfl, _⟩⟩ := h
 exact ⟨rfl, by simp [Value.oneCell'], rfl⟩
theorem frg_shape {K : Nat → Prop} {W : World} {cs : List Value} {x : Frg} (h : rFrg K W cs x) : cs.length = 17 ∧ cs.toArray.all (·.oneCell') = true ∧ asV cs = .agg cs.toArray := by
 obtain ⟨d1, d2, v3, rfl, _, _, ⟨v1, rfl, _, _, _, _, ⟨_, _, rfl, _⟩⟩, ⟨v2, rfl, _, _, _, _, ⟨_, _, rfl, _⟩⟩, _, ⟨_, _, rfl, _⟩⟩ := h
 exact ⟨rfl, by simp [Value.oneCell'], rfl⟩
theorem fil_shape {K : Nat → Prop} {W : World} {cs : List Value} {x : Fl} (h : rFil K W cs x) : cs.length = 6 ∧ cs.toArray.all (·.oneCell') = true ∧ asV cs = .agg cs.toArray := by
 obtain ⟨v1, v2, rfl, _, _, _, ⟨_, _, rfl, _⟩, ⟨_, _, rfl, _⟩⟩ := h
 exact ⟨rfl, by simp [Value.oneCell'], rfl⟩
theorem mFil : Mono rFil := fun K K2 W W' cs x hk hW ⟨v, u, h1, h2, h3, h4, h5, h6⟩ => ⟨v, u, h1, h2, h3, h4, h5.mono mCl hk hW, h6.mono mRow hk hW⟩
theorem fil_parts {K : Nat → Prop} {W : World} {cs : List Value} {x : Fl} (h : rFil K W cs x) : ∃ hs v, cs = hs ++ [v] ∧ hs.length = 5 ∧ rFh K W hs (⟨x.t, x.v, x.s, x.c⟩ : Fh) ∧ ListIs rRow 1 24 K W v x.r := by
 obtain ⟨v, u, rfl, h2, h3, h4, h5, h6⟩ := h
 exact ⟨[.string x.t, .int .u64 (x.v.b : Int), .int .u64 (x.v.l : Int), .int .i64 x.s, v], u, rfl, rfl, ⟨v, rfl, h2, h3, h4, h5⟩, h6⟩
theorem parts_fil {K : Nat → Prop} {W : World} {hs : List Value} {v : Value} {x : Fl} (h : rFh K W hs (⟨x.t, x.v, x.s, x.c⟩ : Fh)) (h' : ListIs rRow 1 24 K W v x.r) : rFil K W (hs ++ [v]) x := by
 obtain ⟨v1, rfl, h2, h3, h4, h5⟩ := h
 exact ⟨v1, v, rfl, h2, h3, h4, h5, h'⟩
set_option maxRecDepth 100000 in
set_option maxHeartbeats 16000000 in
theorem fresh_any (cl : List Value) (x : Mg) (K : Nat → Prop) (w : World) (h : MsgIs K w cl.toArray x) (hK : ∀ b, K b → b < w.heap.size) :
  Calls Tryz.prog 30 #[.agg cl.toArray] w fun e w' => ∃ cl' : List Value, e = .returned (.agg cl'.toArray) ∧ cl'.length = 47 ∧ MsgIs (From w.heap.size w') w' cl'.toArray x ∧ Below w.heap.size w w' := by
 have hcl : cl.length = 47 := by simpa using h.size
 obtain ⟨W0, hW0, t0, hs0⟩ := Two.start w 63 cl.toArray zc.toArray (by rw [show cl.toArray.size = 47 by simpa using hcl]; rfl)
 have S0 : Hid (Stage 0 7 w W0 cl cl x) := Stage.start (by simpa using t0) hcl
 have HM : Hid (MsgIs K w cl.toArray x) := h
 have KW : Hid (∀ W, Below w.heap.size w W → ∀ b, K b → b < W.heap.size) := fun W hb b h => Nat.lt_of_lt_of_le (hK b h) hb.size
 have HK : Hid (∀ b, K b → b < w.heap.size) := hK
 obtain ⟨bs, lb, cb, hbd⟩ := h.bd
 obtain ⟨_, _, ct, vt, rfl, hct⟩ := h.ct
 obtain ⟨fs, lf, cf, hfg⟩ := h.fg
 obtain ⟨_, _, cn, vn, rfl, hnd⟩ := h.nd
 obtain ⟨_, _, cr, vr, rfl, hrw⟩ := h.rw_
 obtain ⟨hs, lh, ch, hfh⟩ := h.fh
 obtain ⟨_, _, cw, vw, rfl, hfw⟩ := h.fw
 obtain ⟨_, _, cc, vc, rfl, hcm⟩ := h.cm
 have hfl : rFil K w (hs ++ [vw]) x.fl := parts_fil hfh hfw
 have CB : Hid (∀ (j : Nat) (u : Value), bs[j]? = some u → cl[7 + j]? = some u) := fun j u hj => by simpa using cb j u hj
 have CT : Hid (cl[18]? = some vt) := by have := ct 0 vt rfl; show _ = _; simpa using this
 have CF : Hid (∀ (j : Nat) (u : Value), fs[j]? = some u → cl[19 + j]? = some u) := fun j u hj => by simpa using cf j u hj
 have CN : Hid (cl[36]? = some vn) := by have := cn 0 vn rfl; show _ = _; simpa using this
 have CR : Hid (cl[39]? = some vr) := by have := cr 0 vr rfl; show _ = _; simpa using this
 have CH : Hid (∀ (j : Nat) (u : Value), (hs ++ [vw])[j]? = some u → cl[40 + j]? = some u) := fun j u hj => by
  by_cases hj5 : j < 5
  ·rw [List.getElem?_append_left (by omega)] at hj
   simpa using ch j u hj
  ·have hl := (List.getElem?_eq_some_iff.1 hj).1
   simp only [List.length_append, List.length_cons, List.length_nil] at hl
   obtain rfl : j = 5 := by omega
   rw [List.getElem?_append_right (by omega), lh] at hj
   simpa using cw 0 u hj
 have CC : Hid (cl[46]? = some vc) := by have := cc 0 vc rfl; show _ = _; simpa using this
 obtain ⟨hv, hhv⟩ : ∃ hv, hs ++ [vw] = hv := ⟨_, rfl⟩
 rw [hhv] at hfl CH
 have LB : Hid (bs.length = 11) := lb
 have LF : Hid (fs.length = 17) := lf
 have LH : Hid (hv.length = 6) := (fil_shape hfl).1
 have ab := (bnd_shape hbd).2.2
 have af := (frg_shape hfg).2.2
 have ah := (fil_shape hfl).2.2
 have XB : Hid (∀ W, Below w.heap.size w W → Calls Tryz.prog 43 #[.agg bs.toArray] W fun e w' => ∃ cs', e = .returned (asV cs') ∧ rBnd (From W.heap.size w') w' cs' x.bd ∧ Below W.heap.size W w') := fun W hb => by
  have := f_bound K W bs x.bd (mBnd _ _ _ _ _ _ (fun _ h => h) (kept_of hK hb) hbd) (KW.out W hb)
  rw [ab] at this; exact this
 have XT : Hid (∀ W, Below w.heap.size w W → Calls Tryz.prog 44 #[vt, .func (.func 45) #[] #[]] W fun e w' => CpP rTbl 3 64 x.ct W e w') := fun W hb => each_tbl f_table K W vt x.ct (ListIs.later mTbl hct hK hb) (KW.out W hb)
 have XF : Hid (∀ W, Below w.heap.size w W → Calls Tryz.prog 46 #[.agg fs.toArray] W fun e w' => ∃ cs', e = .returned (asV cs') ∧ rFrg (From W.heap.size w') w' cs' x.fg ∧ Below W.heap.size W w') := fun W hb => by
  have := f_frag K W fs x.fg (mFrg _ _ _ _ _ _ (fun _ h => h) (kept_of hK hb) hfg) (KW.out W hb)
  rw [af] at this; exact this
 have XN : Hid (∀ W, Below w.heap.size w W → Calls Tryz.prog 47 #[vn] W fun e w' => CpP rInt 1 8 x.nd W e w') := fun W hb => plain_ints K W vn x.nd (ListIs.later mInt hnd hK hb) (KW.out W hb)
 have XR : Hid (∀ W, Below w.heap.size w W → Calls Tryz.prog 48 #[vr] W fun e w' => CpP rRow 1 24 x.rw W e w') := fun W hb => f_rows K W vr x.rw (ListIs.later mRow hrw hK hb) (KW.out W hb)
 have XH : Hid (∀ W, Below w.heap.size w W → Calls Tryz.prog 49 #[.agg hv.toArray] W fun e w' => ∃ cs', e = .returned (asV cs') ∧ rFil (From W.heap.size w') w' cs' x.fl ∧ Below W.heap.size W w') := fun W hb => by
  have := f_file K W hv x.fl (mFil _ _ _ _ _ _ (fun _ h => h) (kept_of hK hb) hfl) (KW.out W hb)
  rw [ah] at this; exact this
 have XC : Hid (∀ W, Below w.heap.size w W → Calls Tryz.prog 50 #[vc] W fun e w' => CpP rClm 5 80 x.cm W e w') := fun W hb => f_claims K W vc x.cm (ListIs.later mClm hcm hK hb) (KW.out W hb)
 obtain ⟨pt, qt, rfl, nn7, nn8⟩ := id hct
 obtain ⟨pn, qn, rfl, nn1, nn2⟩ := id hnd
 obtain ⟨pr, qr, rfl, nn3, nn4⟩ := id hrw
 obtain ⟨pc, qc, rfl, nn5, nn6⟩ := id hcm
 have I54 : Hid ((Tryz.prog.info? 54).map (·.size) = some bs.length) := by show _ = _; rw [lb]; exact sz_bound
 have I60 : Hid ((Tryz.prog.info? 60).map (·.size) = some fs.length) := by show _ = _; rw [lf]; exact sz_frag
 have I44 : Hid ((Tryz.prog.info? 44).map (·.size) = some hv.length) := by show _ = _; rw [LH.out]; exact sz_file
 clear nn1 nn2 nn3 nn4 nn5 nn6 nn7 nn8 h hcl t0 hs0 hK lb cb hbd ct hct lf cf hfg cn hnd cr hrw lh ch hfh cw hfw cc hcm hfl hhv ab af ah
 unfold zc at hW0
 go_enter Tryz.func30, Tryz.ntmps30
 have HR1 : Hid (W0.rangeAt w.heap.size 7 bs) := S0.out.two.range CB.out
 have X1 := hid (XB.out W0 S0.out.two.2.2)
 clear XB
 go_wp2_with (first | (refine wpList_load_mid rfl 54 _ rfl w.heap.size 7 rfl bs _ HR1.out Tryz.underlying54 rfl I54.out ?_))
 refine X1.out.mono ?_
 rintro e w1 ⟨bs1, rfl, hr1, hb1⟩
 obtain ⟨ln1, on1, as1⟩ := bnd_shape hr1
 have s1 := S0.out.call hb1
 obtain ⟨V1, cl1, hV1, t1, l1, c1, o1, z1, k1⟩ := Two.mid bs1 s1.two 7 (by rw [ln1, s1.len]; omega)
 have S1 : Hid (Stage 1 18 w V1 cl1 cl x) := s1.put1 t1 l1 (by rw [ln1] at o1; exact o1) (k1.less fun b h => h.1) ⟨bs1, ln1, fun j u hj => by simpa using c1 j u hj, rel_new mBnd hr1 S0.out.two.lt k1⟩
 have HV1 : Hid (w1.setCells w.heap.size 7 bs1.toArray.toList = V1) := by show _ = _; simpa using hV1
 have HT1 : Hid (w1.there w.heap.size 7 bs1.toArray.size) := by show w1.there _ _ _; rw [show bs1.toArray.size = 11 by simpa using ln1]; exact s1.two.there 7 11 (by rw [s1.len]; omega)
 have HI1 : Hid ((Tryz.prog.info? 54).map (·.size) = some bs1.toArray.size) := by show _ = _; rw [show bs1.toArray.size = 11 by simpa using ln1]; exact sz_bound
 have HO1 : Hid (bs1.toArray.all (·.oneCell') = true) := on1
 rw [as1]
 clear hr1 hb1 ln1 on1 as1 s1 hV1 t1 l1 c1 o1 z1 k1 HR1 X1
 have g2 : V1.cell? ⟨w.heap.size, 18, none⟩ = some (.slice pt x.ct.length qt) := S1.out.two.cell ((S1.out.same 18 (by omega)).trans CT.out)
 have X2 := hid (XT.out V1 S1.out.two.2.2)
 clear XT
 go_wp2_with (first | (refine wpList_store_mid rfl 54 _ _ rfl w.heap.size 7 bs1.toArray rfl rfl HT1.out HI1.out HO1.out ?_; rw [HV1.out]))
 clear HV1 HT1 HI1 HO1
 refine X2.out.mono ?_
 rintro e w2 ⟨p2, q2, rfl, hl2, hb2⟩
 have s2 := S1.out.call hb2
 obtain ⟨V2, cl2, hV2, t2, l2, c2, o2, z2, k2⟩ := Two.mid [.slice p2 x.ct.length q2] s2.two 18 (by rw [s2.len]; simp)
 have S2 : Hid (Stage 2 19 w V2 cl2 cl x) := s2.put2 t2 l2 o2 (k2.less fun b h => h.1) ⟨_, rfl, fun j u hj => by simpa using c2 j u hj, ⟨_, rfl, (hl2.less mTbl S1.out.two.lt).kept mTbl k2⟩⟩
 have e2 : w2.setCell ⟨w.heap.size, 18, none⟩ (.slice p2 x.ct.length q2) = V2 := hV2
 have f2 : w2.frozen? ⟨w.heap.size, 18, none⟩ = false := frozen_zero s2.two.1 _
 have d2 : w2.cell? ⟨w.heap.size, 18, none⟩ = some (.slice pt x.ct.length qt) := s2.two.cell ((s2.same 18 (by omega)).trans CT.out)
 clear hl2 hb2 s2 hV2 t2 l2 c2 o2 z2 k2 X2 g2
 have HR3 : Hid (V2.rangeAt w.heap.size 19 fs) := S2.out.two.range fun j u hj => (S2.out.same _ (by have := (List.getElem?_eq_some_iff.1 hj).1; have := LF.out; omega)).trans (CF.out j u hj)
 have X3 := hid (XF.out V2 S2.out.two.2.2)
 clear XF
 go_wp2_with (first | (refine wpList_load_mid rfl 60 _ rfl w.heap.size 19 rfl fs _ HR3.out Tryz.underlying60 rfl I60.out ?_))
 clear e2 f2 d2
 refine X3.out.mono ?_
 rintro e w3 ⟨bs3, rfl, hr3, hb3⟩
 obtain ⟨ln3, on3, as3⟩ := frg_shape hr3
 have s3 := S2.out.call hb3
 obtain ⟨V3, cl3, hV3, t3, l3, c3, o3, z3, k3⟩ := Two.mid bs3 s3.two 19 (by rw [ln3, s3.len]; omega)
 have S3 : Hid (Stage 3 36 w V3 cl3 cl x) := s3.put3 t3 l3 (by rw [ln3] at o3; exact o3) (k3.less fun b h => h.1) ⟨bs3, ln3, fun j u hj => by simpa using c3 j u hj, rel_new mFrg hr3 S2.out.two.lt k3⟩
 have HV3 : Hid (w3.setCells w.heap.size 19 bs3.toArray.toList = V3) := by show _ = _; simpa using hV3
 have HT3 : Hid (w3.there w.heap.size 19 bs3.toArray.size) := by show w3.there _ _ _; rw [show bs3.toArray.size = 17 by simpa using ln3]; exact s3.two.there 19 17 (by rw [s3.len]; omega)
 have HI3 : Hid ((Tryz.prog.info? 60).map (·.size) = some bs3.toArray.size) := by show _ = _; rw [show bs3.toArray.size = 17 by simpa using ln3]; exact sz_frag
 have HO3 : Hid (bs3.toArray.all (·.oneCell') = true) := on3
 rw [as3]
 clear hr3 hb3 ln3 on3 as3 s3 hV3 t3 l3 c3 o3 z3 k3 HR3 X3
 have g4 : V3.cell? ⟨w.heap.size, 36, none⟩ = some (.slice pn x.nd.length qn) := S3.out.two.cell ((S3.out.same 36 (by omega)).trans CN.out)
 have X4 := hid (XN.out V3 S3.out.two.2.2)
 clear XN
 go_wp2_with (first | (refine wpList_store_mid rfl 60 _ _ rfl w.heap.size 19 bs3.toArray rfl rfl HT3.out HI3.out HO3.out ?_; rw [HV3.out]))
 clear HV3 HT3 HI3 HO3
 refine X4.out.mono ?_
 rintro e w4 ⟨p4, q4, rfl, hl4, hb4⟩
 have s4 := S3.out.call hb4
 obtain ⟨V4, cl4, hV4, t4, l4, c4, o4, z4, k4⟩ := Two.mid [.slice p4 x.nd.length q4] s4.two 36 (by rw [s4.len]; simp)
 have S4 : Hid (Stage 4 37 w V4 cl4 cl x) := s4.put4 t4 l4 o4 (k4.less fun b h => h.1) ⟨_, rfl, fun j u hj => by simpa using c4 j u hj, ⟨_, rfl, (hl4.less mInt S3.out.two.lt).kept mInt k4⟩⟩
 have e4 : w4.setCell ⟨w.heap.size, 36, none⟩ (.slice p4 x.nd.length q4) = V4 := hV4
 have f4 : w4.frozen? ⟨w.heap.size, 36, none⟩ = false := frozen_zero s4.two.1 _
 have d4 : w4.cell? ⟨w.heap.size, 36, none⟩ = some (.slice pn x.nd.length qn) := s4.two.cell ((s4.same 36 (by omega)).trans CN.out)
 clear hl4 hb4 s4 hV4 t4 l4 c4 o4 z4 k4 X4 g4
 have g5 : V4.cell? ⟨w.heap.size, 39, none⟩ = some (.slice pr x.rw.length qr) := S4.out.two.cell ((S4.out.same 39 (by omega)).trans CR.out)
 have X5 := hid (XR.out V4 S4.out.two.2.2)
 clear XR
 go_wp2_with fail
 clear e4 f4 d4
 refine X5.out.mono ?_
 rintro e w5 ⟨p5, q5, rfl, hl5, hb5⟩
 have s5 := S4.out.call hb5
 obtain ⟨V5, cl5, hV5, t5, l5, c5, o5, z5, k5⟩ := Two.mid [.slice p5 x.rw.length q5] s5.two 39 (by rw [s5.len]; simp)
 have S5 : Hid (Stage 5 40 w V5 cl5 cl x) := s5.put5 t5 l5 o5 (k5.less fun b h => h.1) ⟨_, rfl, fun j u hj => by simpa using c5 j u hj, ⟨_, rfl, (hl5.less mRow S4.out.two.lt).kept mRow k5⟩⟩
 have e5 : w5.setCell ⟨w.heap.size, 39, none⟩ (.slice p5 x.rw.length q5) = V5 := hV5
 have f5 : w5.frozen? ⟨w.heap.size, 39, none⟩ = false := frozen_zero s5.two.1 _
 have d5 : w5.cell? ⟨w.heap.size, 39, none⟩ = some (.slice pr x.rw.length qr) := s5.two.cell ((s5.same 39 (by omega)).trans CR.out)
 clear hl5 hb5 s5 hV5 t5 l5 c5 o5 z5 k5 X5 g5
 have HR6 : Hid (V5.rangeAt w.heap.size 40 hv) := S5.out.two.range fun j u hj => (S5.out.same _ (by have := (List.getElem?_eq_some_iff.1 hj).1; have := LH.out; omega)).trans (CH.out j u hj)
 have X6 := hid (XH.out V5 S5.out.two.2.2)
 clear XH
 go_wp2_with (first | (refine wpList_load_mid rfl 44 _ rfl w.heap.size 40 rfl hv _ HR6.out Tryz.underlying44 rfl I44.out ?_))
 clear e5 f5 d5
 refine X6.out.mono ?_
 rintro e w6 ⟨bs6, rfl, hr6, hb6⟩
 obtain ⟨ln6, on6, as6⟩ := fil_shape hr6
 have s6 := S5.out.call hb6
 obtain ⟨V6, cl6, hV6, t6, l6, c6, o6, z6, k6⟩ := Two.mid bs6 s6.two 40 (by rw [ln6, s6.len]; omega)
 obtain ⟨hp, vp, he, lnp, hr5, hl6⟩ := fil_parts hr6
 have S6 : Hid (Stage 6 46 w V6 cl6 cl x) := s6.put6 t6 l6 (by rw [ln6] at o6; exact o6) (k6.less fun b h => h.1) ⟨hp, lnp, fun j u hj => by
   have hjl := (List.getElem?_eq_some_iff.1 hj).1
   simpa using c6 j u (by rw [he, List.getElem?_append_left hjl]; exact hj), rel_new mFh hr5 S5.out.two.lt k6⟩ ⟨[vp], rfl, fun j u hj => by
   have hj0 : j < 1 := (List.getElem?_eq_some_iff.1 hj).1
   obtain rfl : j = 0 := by omega
   have := c6 5 u (by rw [he, List.getElem?_append_right (by omega), lnp]; exact hj)
   simpa using this, ⟨_, rfl, (hl6.less mRow S5.out.two.lt).kept mRow k6⟩⟩
 have HV6 : Hid (w6.setCells w.heap.size 40 bs6.toArray.toList = V6) := by show _ = _; simpa using hV6
 have HT6 : Hid (w6.there w.heap.size 40 bs6.toArray.size) := by show w6.there _ _ _; rw [show bs6.toArray.size = 6 by simpa using ln6]; exact s6.two.there 40 6 (by rw [s6.len]; omega)
 have HI6 : Hid ((Tryz.prog.info? 44).map (·.size) = some bs6.toArray.size) := by show _ = _; rw [show bs6.toArray.size = 6 by simpa using ln6]; exact sz_file
 have HO6 : Hid (bs6.toArray.all (·.oneCell') = true) := on6
 rw [as6]
 clear hr6 hb6 ln6 on6 as6 s6 hV6 t6 l6 c6 o6 z6 k6 HR6 X6 hr5 hl6 he lnp
 have g7 : V6.cell? ⟨w.heap.size, 46, none⟩ = some (.slice pc x.cm.length qc) := S6.out.two.cell ((S6.out.same 46 (by omega)).trans CC.out)
 have X7 := hid (XC.out V6 S6.out.two.2.2)
 clear XC
 go_wp2_with (first | (refine wpList_store_mid rfl 44 _ _ rfl w.heap.size 40 bs6.toArray rfl rfl HT6.out HI6.out HO6.out ?_; rw [HV6.out]))
 clear HV6 HT6 HI6 HO6
 refine X7.out.mono ?_
 rintro e w7 ⟨p7, q7, rfl, hl7, hb7⟩
 have s7 := S6.out.call hb7
 obtain ⟨V7, cl7, hV7, t7, l7, c7, o7, z7, k7⟩ := Two.mid [.slice p7 x.cm.length q7] s7.two 46 (by rw [s7.len]; simp)
 have S7 : Hid (Stage 7 47 w V7 cl7 cl x) := s7.put7 t7 l7 o7 (k7.less fun b h => h.1) ⟨_, rfl, fun j u hj => by simpa using c7 j u hj, ⟨_, rfl, (hl7.less mClm S6.out.two.lt).kept mClm k7⟩⟩
 have e7 : w7.setCell ⟨w.heap.size, 46, none⟩ (.slice p7 x.cm.length q7) = V7 := hV7
 have f7 : w7.frozen? ⟨w.heap.size, 46, none⟩ = false := frozen_zero s7.two.1 _
 have d7 : w7.cell? ⟨w.heap.size, 46, none⟩ = some (.slice pc x.cm.length qc) := s7.two.cell ((s7.same 46 (by omega)).trans CC.out)
 clear hl7 hb7 s7 hV7 t7 l7 c7 o7 z7 k7 X7 g7
 have I63 : Hid ((Tryz.prog.info? 63).map (·.size) = some cl7.length) := by show _ = _; rw [S7.out.len]; exact size49
 obtain ⟨hra, hth, W9, hW9, hld, hb9, s9, k9⟩ := S7.out.two.ret Tryz.underlying63 rfl I63.out
 have hmm : MsgIs (From w.heap.size W9) W9 cl7.toArray x := S7.out.done HM.out k9
 have HF : Hid (cl7.length = 47 ∧ MsgIs (From w.heap.size W9) W9 cl7.toArray x ∧ Below w.heap.size w W9) := ⟨S7.out.len, hmm, hb9⟩
 have HON : Hid (cl7.toArray.all (·.oneCell') = true) := msg_one hmm
 have HRA : Hid (V7.rangeAt w.heap.size 0 cl7) := hra
 have HTH : Hid (V7.there (w.heap.size + 1) 0 cl7.toArray.size) := hth
 have HW9 : Hid (V7.setCells (w.heap.size + 1) 0 cl7.toArray.toList = W9) := hW9
 have HLD : Hid ((loadVar 63 ⟨w.heap.size + 1, 0, none⟩).run Tryz.prog W9 = .ok (.agg cl7.toArray) W9) := hld
 have I63' : Hid ((Tryz.prog.info? 63).map (·.size) = some cl7.toArray.size) := by show _ = _; rw [show cl7.toArray.size = 47 by simpa using S7.out.len]; exact size49
 clear hra hth hW9 hld hb9 s9 k9 hmm
 go_wp2_with (first | (refine wpList_load_mid rfl 63 _ rfl w.heap.size 0 rfl cl7 _ HRA.out Tryz.underlying63 rfl I63.out ?_) | (refine wpList_store_mid rfl 63 _ _ rfl (w.heap.size + 1) 0 cl7.toArray rfl rfl HTH.out I63'.out HON.out ?_; rw [HW9.out]))
 clear e7 f7 d7
 refine bodyPost_ret (v := .agg cl7.toArray) (by simp only [results, Tryz.results30]; simp [asAddr, Act.put, HLD.out]) rfl ?_
 exact ⟨cl7, rfl, HF.out⟩
end Go.Proofs.YtajomnfeicfdlaaGreatDoor
/- What answers what: the map of answers, and what is looked up in it. -/
namespace Go.Proofs.YtajomnfeicfdlaaGreatDoor
open Go.Shelf Go.RowKit Go.Lib
set_option linter.unusedVariables false
set_option linter.unusedSimpArgs false
attribute [local go_sem ↓] Go.wp_at_zero Go.wp_at_succ
theorem ck (b : Bool) (n : Nat) (k : Int) (W : World) : (Instr.checkKey b (n + 1) 45 (.int .u8 k)).run Tryz.prog W = .ok () W := by
 simp [Instr.checkKey, run_underlying Tryz.underlying45]
theorem map_ins (W : World) (r : Nat) (es : Array MapEntry) (clk : Nat) (k : Int) (v : Value) (hr : W.heap[r]? = some (.map es clk)) (hf : Instr.findNow (.int .u8) (.int .u8 k) es.toList 0 = some none) :
  ∃ W', (Instr.mapUpdate 113 (.map (some r)) (.int .u8 k) v).run Tryz.prog W = .ok () W' ∧ W'.heap[r]? = some (.map (es.push { key := .int .u8 k, val := v, born := clk }) (clk + 1)) ∧ (∀ B w0, Below B w0 W → B ≤ r → Below B w0 W') ∧ (∀ j, j ≠ r → W'.heap[j]? = W.heap[j]?) := by
 have hlt : r < W.heap.size := (Array.getElem?_eq_some_iff.1 hr).1
 have hck : (Instr.checkKey false 10000 45 (.int .u8 k)).run Tryz.prog W = .ok () W := ck false 9999 k W
 have hfk : (Instr.findKey 45 (.int .u8 k) es.toList).run Tryz.prog W = .ok none W := by
  simp [Instr.findKey, run_underlying Tryz.underlying45, hf]
 refine ⟨{ W with heap := W.heap.setIfInBounds r (.map (es.push { key := .int .u8 k, val := v, born := clk }) (clk + 1)) }, ?_, ?_, ?_, ?_⟩
 ·have hgo : (getObj r).run Tryz.prog W = .ok (.map es clk) W := by simp [getObj, Sem.run, hr]
  have hso : ∀ o, (setObj r o).run Tryz.prog W = .ok () { W with heap := W.heap.setIfInBounds r o } := fun o => by simp only [setObj, Sem.run, hr]
  simp [Instr.mapUpdate, run_underlying Tryz.underlying113, hgo, hck, hfk, hso]
 ·simp [hlt]
 ·intro B w0 hb hB
  exact ⟨hb.os, hb.tape, hb.output, by simp; exact hb.size, fun j hj => by rw [Array.getElem?_setIfInBounds_ne (by omega)]; exact hb.block j hj⟩
 ·intro j hj
  simp only [Array.getElem?_setIfInBounds_ne (Ne.symm hj)]
/-- The map of answers. -/
def anMap : Array MapEntry := #[{ key := .int .u8 2, val := .agg #[.int .u8 3, .func (.func 87) #[] #[]], born := 0 }, { key := .int .u8 7, val := .agg #[.int .u8 8, .func (.func 88) #[] #[]], born := 1 }]
theorem map_look (W : World) (r : Nat) (es : Array MapEntry) (clk : Nat) (k : Int) (hr : W.heap[r]? = some (.map es clk)) (he : es.isEmpty = false) (i : Nat) (v : Value) (hf : Instr.findNow (.int .u8) (.int .u8 k) es.toList 0 = some (some (i, v))) :
  (Instr.lookup 113 (.map (some r)) (.int .u8 k) true).run Tryz.prog W = .ok (.tuple #[v, .bool true]) W := by
 have hck : (Instr.checkKey false 10000 45 (.int .u8 k)).run Tryz.prog W = .ok () W := ck false 9999 k W
 have hfk : (Instr.findKey 45 (.int .u8 k) es.toList).run Tryz.prog W = .ok (some (i, v)) W := by
  simp [Instr.findKey, run_underlying Tryz.underlying45, hf]
 have hgo : (getObj r).run Tryz.prog W = .ok (.map es clk) W := by simp [getObj, Sem.run, hr]
 simp [Instr.lookup, run_underlying Tryz.underlying113, hgo, he, hck, hfk]
theorem map_none (W : World) (r : Nat) (es : Array MapEntry) (clk : Nat) (k : Int) (hr : W.heap[r]? = some (.map es clk)) (he : es.isEmpty = false) (hf : Instr.findNow (.int .u8) (.int .u8 k) es.toList 0 = some none) :
  (Instr.lookup 113 (.map (some r)) (.int .u8 k) true).run Tryz.prog W = .ok (.tuple #[.agg #[.int .u8 0, .nilFunc], .bool false]) W := by
 have hck : (Instr.checkKey false 10000 45 (.int .u8 k)).run Tryz.prog W = .ok () W := ck false 9999 k W
 have hfk : (Instr.findKey 45 (.int .u8 k) es.toList).run Tryz.prog W = .ok none W := by
  simp [Instr.findKey, run_underlying Tryz.underlying45, hf]
 have hgo : (getObj r).run Tryz.prog W = .ok (.map es clk) W := by simp [getObj, Sem.run, hr]
 have hz := Tryz.zeroValue111 W
 simp [Instr.lookup, run_underlying Tryz.underlying113, hgo, he, hck, hfk, hz]
/-- What is looked up. -/
def anV (k : Int) : Value := if k = 2 then .agg #[.int .u8 3, .func (.func 87) #[] #[]] else if k = 7 then .agg #[.int .u8 8, .func (.func 88) #[] #[]] else .agg #[.int .u8 0, .nilFunc]
def anP (k : Int) : Bool := k == 2 || k == 7
theorem look_of {W : World} {r : Nat} (k : Int) (hr : W.heap[r]? = some (.map anMap 2)) : (Instr.lookup 113 (.map (some r)) (.int .u8 k) true).run Tryz.prog W = .ok (.tuple #[anV k, .bool (anP k)]) W := by
 by_cases h2 : k = 2
 ·subst h2; exact map_look W r _ 2 2 hr rfl 0 _ rfl
 ·by_cases h7 : k = 7
  ·subst h7; exact map_look W r _ 2 7 hr rfl 1 _ rfl
  ·have e1 : (k == 2) = false := beq_eq_false_iff_ne.2 h2
   have e2 : (k == 7) = false := beq_eq_false_iff_ne.2 h7
   unfold anV anP
   rw [if_neg h2, if_neg h7, e1, e2]
   exact map_none W r _ 2 k hr rfl (by simp [anMap, Instr.findNow, Instr.sameNow, e1, e2])
set_option maxRecDepth 100000 in
set_option maxHeartbeats 2000000 in
theorem answers_any (w : World) : Calls Tryz.prog 57 #[] w fun e w' => e = .returned (.map (some w.heap.size)) ∧ w'.heap[w.heap.size]? = some (.map anMap 2) ∧ Below w.heap.size w w' := by
 obtain ⟨W1, hW1⟩ : ∃ W1, w.alloc (.map #[] 0) = W1 := ⟨_, rfl⟩
 have hr1 : W1.heap[w.heap.size]? = some (.map #[] 0) := by rw [← hW1]; exact heap_alloc_new w _
 have hb1 : Below w.heap.size w W1 := by rw [← hW1]; exact (Below.refl _ _).alloc (Nat.le_refl _) _
 obtain ⟨W2, r2, hr2, b2, o2⟩ := map_ins W1 w.heap.size _ _ 2 (.agg #[.int .u8 3, .func (.func 87) #[] #[]]) hr1 rfl
 obtain ⟨W3, r3, hr3, b3, o3⟩ := map_ins W2 w.heap.size _ _ 7 (.agg #[.int .u8 8, .func (.func 88) #[] #[]]) hr2 rfl
 have HB : Hid (Below w.heap.size w W3) := b3 _ _ (b2 _ _ hb1 (Nat.le_refl _)) (Nat.le_refl _)
 have HR : Hid (W3.heap[w.heap.size]? = some (.map anMap 2)) := hr3
 have hms : (Instr.makeMap 113 none).run Tryz.prog w = .ok (.map (some w.heap.size)) W1 := by
  have := @run_makeMap Tryz.prog 113 w
  rw [hW1] at this
  exact this
 clear b2 b3 o2 o3 hr1 hr2 hr3 hb1 hW1
 go_enter Tryz.func57, Tryz.ntmps57
 go_wp2_with fail
 go_ret
 exact ⟨rfl, HR.out, HB.out⟩
end Go.Proofs.YtajomnfeicfdlaaGreatDoor
/- What isAnswered answers. -/
namespace Go.Proofs.YtajomnfeicfdlaaGreatDoor
open Go.Shelf Go.RowKit Go.Lib
set_option linter.unusedVariables false
set_option linter.unusedSimpArgs false
attribute [local go_sem ↓] Go.wp_at_zero Go.wp_at_succ
theorem run_store_func' {P : Program} {w : World} {a : Addr} {m : Mode} (f : Fn) (c d : Array Value) : (store a (.func f c d) m).run P w = stored P w a (.func f c d) m := run_store P w a _ m rfl
theorem run_store_nilFunc {P : Program} {w : World} {a : Addr} {m : Mode} : (store a .nilFunc m).run P w = stored P w a .nilFunc m := run_store P w a _ m rfl
attribute [local go_sem] run_store_func' run_store_nilFunc
/-- Two cells are stored. -/
theorem two_set {W : World} {g : Nat} {c0 c1 : Value} {t : TypeId} (hg : W.heap[g]? = some (.cells #[c0, c1] t (0, 0))) (a b : Value) :
  ∃ Wa Wb, W.setCell ⟨g, 0, none⟩ a = Wa ∧ Wa.setCell ⟨g, 1, none⟩ b = Wb ∧ W.cell? ⟨g, 0, none⟩ = some c0 ∧ W.frozen? ⟨g, 0, none⟩ = false ∧ Wa.cell? ⟨g, 1, none⟩ = some c1 ∧ Wa.frozen? ⟨g, 1, none⟩ = false ∧ Kept (fun x => x ≠ g) W Wb ∧ Wb.heap.size = W.heap.size ∧ Wb.heap[g]? = some (.cells #[a, b] t (0, 0)) := by
 have e1 := setCell_eq_setRow W g 0 _ t (0, 0) a hg
 have hg1 : (W.setCell ⟨g, 0, none⟩ a).heap[g]? = some (.cells #[a, c1] t (0, 0)) := by rw [e1]; exact setRow_heap W g _ _ t _ hg
 have e2 := setCell_eq_setRow (W.setCell ⟨g, 0, none⟩ a) g 1 _ t (0, 0) b hg1
 have hg2 : ((W.setCell ⟨g, 0, none⟩ a).setCell ⟨g, 1, none⟩ b).heap[g]? = some (.cells #[a, b] t (0, 0)) := by rw [e2]; exact setRow_heap _ g _ _ t _ hg1
 obtain ⟨a1, a2, a3, a4, a5⟩ := setCell_any W g 0 a
 obtain ⟨b1, b2, b3, b4, b5⟩ := setCell_any (W.setCell ⟨g, 0, none⟩ a) g 1 b
 exact ⟨_, _, rfl, rfl, cell_of_row hg rfl, frozen_zero hg 0, cell_of_row hg1 rfl, frozen_zero hg1 1, ⟨b2.trans a2, b3.trans a3, b4.trans a4, by omega, fun x hx => (b5 x hx).trans (a5 x hx)⟩, by omega, hg2⟩
set_option maxRecDepth 100000 in
set_option maxHeartbeats 2000000 in
theorem isAnswered_none (cl : List Value) (k v1 : Int) (w : World) (hcl : cl.length = 47) (hk : cl[0]? = some (.int .u8 k)) (hl : ∀ W r, W.heap[r]? = some (.map anMap 2) → (Instr.lookup 113 (.map (some r)) (.int .u8 k) true).run Tryz.prog W = .ok (.tuple #[.agg #[.int .u8 v1, .nilFunc], .bool false]) W) :
  Calls Tryz.prog 41 #[.agg cl.toArray] w fun e w' => e = .returned (.bool false) ∧ Below w.heap.size w w' := by
 obtain ⟨W0, hW0⟩ : ∃ W0, w.alloc (.cells cl.toArray 63) = W0 := ⟨_, rfl⟩
 have hb0 : Below w.heap.size w W0 := by rw [← hW0]; exact (Below.refl _ _).alloc (Nat.le_refl _) _
 have hs0 : w.heap.size < W0.heap.size := by rw [← hW0]; simp
 have hg0 : W0.heap[w.heap.size]? = some (.cells cl.toArray 63 (0, 0)) := by rw [← hW0]; exact heap_alloc_new w _
 have c0 : W0.cell? ⟨w.heap.size, 0, none⟩ = some (.int .u8 k) := cell_of_row hg0 (by simpa using hk)
 have d0 : W0.drew.cell? ⟨w.heap.size, 0, none⟩ = some (.int .u8 k) := c0
 have HL := hid hl
 have HB0 : Hid (Below w.heap.size w W0) := hb0
 obtain ⟨X, hX⟩ : ∃ X, W0.drew.alloc (.cells #[.int .u8 0, .nilFunc] 111) = X := ⟨_, rfl⟩
 have hsX : W0.heap.size < X.heap.size := (Array.getElem?_eq_some_iff.1 (show X.heap[W0.heap.size]? = some (.cells #[.int .u8 0, .nilFunc] 111 (0, 0)) by rw [← hX]; exact heap_alloc_new W0.drew _)).1
 have hgX : X.heap[W0.heap.size]? = some (.cells #[.int .u8 0, .nilFunc] 111 (0, 0)) := by rw [← hX]; exact heap_alloc_new W0.drew _
 have hbX : Below W0.heap.size W0 X := by rw [← hX]; exact ((Below.refl _ _).drew).alloc (Nat.le_refl _) _
 have dX : X.cell? ⟨w.heap.size, 0, none⟩ = some (.int .u8 k) := by rw [hbX.cell (p := ⟨w.heap.size, 0, none⟩) hs0]; exact c0
 have hX' : (W0.alloc (.cells #[.int .u8 0, .nilFunc] 111)).drew = X := hX
 have C1 : Hid (Calls Tryz.prog 57 #[] W0.drew fun e w' => e = .returned (.map (some W0.heap.size)) ∧ w'.heap[W0.heap.size]? = some (.map anMap 2) ∧ Below W0.heap.size W0.drew w') := answers_any W0.drew
 have C2 := hid (answers_any X)
 clear hg0 hb0 hl hX
 go_enter Tryz.func41, Tryz.ntmps41
 go_wp2_with fail
 go_region_held3 (fun w' => w'.cell? ⟨w.heap.size, 0, none⟩ = some (.int .u8 k))
  (first | assumption | (rw [World.cell?_alloc_lt _ _ _ (by show w.heap.size < _; assumption)]; assumption) | go_keep)
  ((first
   | (go_at_call 57; refine C1.out.mono ?_; rintro e wa ⟨rfl, hMa, hBa⟩; have hlk := HL.out _ _ hMa; have hlk2 := HL.out (wa.alloc (.cells #[.int .u8 0, .nilFunc] 111)) _ ((hao wa _ _ (Array.getElem?_eq_some_iff.1 hMa).1).trans hMa); have hwa : w.heap.size < wa.heap.size := Nat.lt_of_lt_of_le hs0 hBa.size; have cwa : wa.cell? ⟨w.heap.size, 0, none⟩ = some (.int .u8 k) := (hBa.cell (p := ⟨w.heap.size, 0, none⟩) hs0).trans d0; have HBF : Hid (∀ o, Below w.heap.size w (wa.alloc o)) := fun o => (HB0.out.drew.trans (hBa.mono (Nat.le_of_lt hs0))).alloc (Nat.le_of_lt hwa) o)
   | (go_at_call 57; refine C2.out.mono ?_; rintro e wa ⟨rfl, hMa, hBa⟩; have hlk := HL.out _ _ hMa; have hlk2 := HL.out (wa.alloc (.cells #[.int .u8 0, .nilFunc] 111)) _ ((hao wa _ _ (Array.getElem?_eq_some_iff.1 hMa).1).trans hMa); have hwa : w.heap.size < wa.heap.size := Nat.lt_of_lt_of_le (Nat.lt_trans hs0 hsX) hBa.size; have cwa : wa.cell? ⟨w.heap.size, 0, none⟩ = some (.int .u8 k) := (hBa.cell (p := ⟨w.heap.size, 0, none⟩) (Nat.lt_trans hs0 hsX)).trans dX;  obtain ⟨Za, Zb, hZa, hZb, t1, t2, t3, t4, kZ, sZ, gZ⟩ := two_set ((hBa.block _ hsX).trans hgX) (.int .u8 v1) .nilFunc; have cZ : Zb.cell? ⟨w.heap.size, 0, none⟩ = some (.int .u8 k) := (kZ.cell (p := ⟨w.heap.size, 0, none⟩) (by show w.heap.size ≠ _; omega)).trans cwa; have HBZ : Hid (Below w.heap.size w Zb) := ((Kept.of_below (HB0.out.trans (hbX.mono (Nat.le_of_lt hs0))) (fun _ h => h)).trans ((Kept.of_below hBa (fun b (hb : b < w.heap.size) => by omega)).trans (kZ.less fun b (hb : b < w.heap.size) => by show b ≠ _; omega))).below)))
 all_goals (go_wp2_with fail)
 all_goals go_ret
 all_goals first | exact ⟨rfl, HBF.out _⟩ | exact ⟨rfl, HBZ.out⟩
set_option maxRecDepth 100000 in
set_option maxHeartbeats 2000000 in
theorem isAnswered_some (cl : List Value) (k v1 : Int) (F : Nat) (w : World) (hcl : cl.length = 47) (hk : cl[0]? = some (.int .u8 k)) (hl : ∀ W r, W.heap[r]? = some (.map anMap 2) → (Instr.lookup 113 (.map (some r)) (.int .u8 k) true).run Tryz.prog W = .ok (.tuple #[.agg #[.int .u8 v1, (.func (.func F) #[] #[])], .bool true]) W) :
  Calls Tryz.prog 41 #[.agg cl.toArray] w fun e w' => e = .returned (.bool true) ∧ Below w.heap.size w w' := by
 obtain ⟨W0, hW0⟩ : ∃ W0, w.alloc (.cells cl.toArray 63) = W0 := ⟨_, rfl⟩
 have hb0 : Below w.heap.size w W0 := by rw [← hW0]; exact (Below.refl _ _).alloc (Nat.le_refl _) _
 have hs0 : w.heap.size < W0.heap.size := by rw [← hW0]; simp
 have hg0 : W0.heap[w.heap.size]? = some (.cells cl.toArray 63 (0, 0)) := by rw [← hW0]; exact heap_alloc_new w _
 have c0 : W0.cell? ⟨w.heap.size, 0, none⟩ = some (.int .u8 k) := cell_of_row hg0 (by simpa using hk)
 have d0 : W0.drew.cell? ⟨w.heap.size, 0, none⟩ = some (.int .u8 k) := c0
 have HL := hid hl
 have HB0 : Hid (Below w.heap.size w W0) := hb0
 obtain ⟨X, hX⟩ : ∃ X, W0.drew.alloc (.cells #[.int .u8 0, .nilFunc] 111) = X := ⟨_, rfl⟩
 have hsX : W0.heap.size < X.heap.size := (Array.getElem?_eq_some_iff.1 (show X.heap[W0.heap.size]? = some (.cells #[.int .u8 0, .nilFunc] 111 (0, 0)) by rw [← hX]; exact heap_alloc_new W0.drew _)).1
 have hgX : X.heap[W0.heap.size]? = some (.cells #[.int .u8 0, .nilFunc] 111 (0, 0)) := by rw [← hX]; exact heap_alloc_new W0.drew _
 have hbX : Below W0.heap.size W0 X := by rw [← hX]; exact ((Below.refl _ _).drew).alloc (Nat.le_refl _) _
 have dX : X.cell? ⟨w.heap.size, 0, none⟩ = some (.int .u8 k) := by rw [hbX.cell (p := ⟨w.heap.size, 0, none⟩) hs0]; exact c0
 have hX' : (W0.alloc (.cells #[.int .u8 0, .nilFunc] 111)).drew = X := hX
 have C1 : Hid (Calls Tryz.prog 57 #[] W0.drew fun e w' => e = .returned (.map (some W0.heap.size)) ∧ w'.heap[W0.heap.size]? = some (.map anMap 2) ∧ Below W0.heap.size W0.drew w') := answers_any W0.drew
 have C2 := hid (answers_any X)
 clear hg0 hb0 hl hX
 go_enter Tryz.func41, Tryz.ntmps41
 go_wp2_with fail
 go_region_held3 (fun w' => w'.cell? ⟨w.heap.size, 0, none⟩ = some (.int .u8 k))
  (first | assumption | (rw [World.cell?_alloc_lt _ _ _ (by show w.heap.size < _; assumption)]; assumption) | go_keep)
  ((first
   | (go_at_call 57; refine C1.out.mono ?_; rintro e wa ⟨rfl, hMa, hBa⟩; have hlk := HL.out _ _ hMa; have hlk2 := HL.out (wa.alloc (.cells #[.int .u8 0, .nilFunc] 111)) _ ((hao wa _ _ (Array.getElem?_eq_some_iff.1 hMa).1).trans hMa); have hwa : w.heap.size < wa.heap.size := Nat.lt_of_lt_of_le hs0 hBa.size; have cwa : wa.cell? ⟨w.heap.size, 0, none⟩ = some (.int .u8 k) := (hBa.cell (p := ⟨w.heap.size, 0, none⟩) hs0).trans d0; have HBF : Hid (∀ o, Below w.heap.size w (wa.alloc o)) := fun o => (HB0.out.drew.trans (hBa.mono (Nat.le_of_lt hs0))).alloc (Nat.le_of_lt hwa) o)
   | (go_at_call 57; refine C2.out.mono ?_; rintro e wa ⟨rfl, hMa, hBa⟩; have hlk := HL.out _ _ hMa; have hlk2 := HL.out (wa.alloc (.cells #[.int .u8 0, .nilFunc] 111)) _ ((hao wa _ _ (Array.getElem?_eq_some_iff.1 hMa).1).trans hMa); have hwa : w.heap.size < wa.heap.size := Nat.lt_of_lt_of_le (Nat.lt_trans hs0 hsX) hBa.size; have cwa : wa.cell? ⟨w.heap.size, 0, none⟩ = some (.int .u8 k) := (hBa.cell (p := ⟨w.heap.size, 0, none⟩) (Nat.lt_trans hs0 hsX)).trans dX;  obtain ⟨Za, Zb, hZa, hZb, t1, t2, t3, t4, kZ, sZ, gZ⟩ := two_set ((hBa.block _ hsX).trans hgX) (.int .u8 v1) (.func (.func F) #[] #[]); have cZ : Zb.cell? ⟨w.heap.size, 0, none⟩ = some (.int .u8 k) := (kZ.cell (p := ⟨w.heap.size, 0, none⟩) (by show w.heap.size ≠ _; omega)).trans cwa; have HBZ : Hid (Below w.heap.size w Zb) := ((Kept.of_below (HB0.out.trans (hbX.mono (Nat.le_of_lt hs0))) (fun _ h => h)).trans ((Kept.of_below hBa (fun b (hb : b < w.heap.size) => by omega)).trans (kZ.less fun b (hb : b < w.heap.size) => by show b ≠ _; omega))).below)))
 all_goals (go_wp2_with fail)
 all_goals go_ret
 all_goals first | exact ⟨rfl, HBF.out _⟩ | exact ⟨rfl, HBZ.out⟩
theorem isAnswered_any (cl : List Value) (k : Int) (w : World) (hcl : cl.length = 47) (hk : cl[0]? = some (.int .u8 k)) : Calls Tryz.prog 41 #[.agg cl.toArray] w fun e w' => e = .returned (.bool (anP k)) ∧ Below w.heap.size w w' := by
 by_cases h2 : k = 2
 ·subst h2; exact isAnswered_some cl 2 3 87 w hcl hk (fun W r hr => look_of 2 hr)
 ·by_cases h7 : k = 7
  ·subst h7; exact isAnswered_some cl 7 8 88 w hcl hk (fun W r hr => look_of 7 hr)
  ·have e1 : (k == 2) = false := beq_eq_false_iff_ne.2 h2
   have e2 : (k == 7) = false := beq_eq_false_iff_ne.2 h7
   have e3 : anP k = false := by unfold anP; rw [e1, e2]; rfl
   rw [e3]
   refine isAnswered_none cl k 0 w hcl hk (fun W r hr => ?_)
   have := look_of k hr
   unfold anV at this
   rw [if_neg h2, if_neg h7, e3] at this
   exact this
end Go.Proofs.YtajomnfeicfdlaaGreatDoor

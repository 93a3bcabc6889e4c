/- A message in memory, and what each field's function does to it. -/
import Derived.Test.YtajomnfeicfdlaaGreatDoorMaMb
import Derived.Test.YtajomnfeicfdlaaGreatDoorFa
import Derived.Test.YtajomnfeicfdlaaGreatDoorFb
import Derived.Test.YtajomnfeicfdlaaGreatDoorFc
import Derived.Test.YtajomnfeicfdlaaGreatDoorFd
import Derived.Test.YtajomnfeicfdlaaGreatDoorFe
namespace Go.Proofs.YtajomnfeicfdlaaGreatDoor
open Go.Shelf Go.RowKit Go.Lib
set_option linter.unusedVariables false
set_option linter.unusedSimpArgs false
/-- A group of cells. -/
def GI {α : Type} (rel : Rel α) (lo sz : Nat) (D : Nat → Prop) (W : World) (cur : Array Value) (x : α) : Prop := ∃ cs, cs.length = sz ∧ (∀ (j : Nat) (u : Value), cs[j]? = some u → cur[lo + j]? = some u) ∧ rel D W cs x
theorem GI.keep {α : Type} {rel : Rel α} (hm : Mono rel) {lo sz : Nat} {D D' : Nat → Prop} {W W' : World} {cur cur' : Array Value} {x : α} (h : GI rel lo sz D W cur x) (hc : ∀ k, lo ≤ k → k < lo + sz → cur'[k]? = cur[k]?) (hD : ∀ b, D b → D' b) (hW : Kept D W W') : GI rel lo sz D' W' cur' x := by
 obtain ⟨cs, h1, h2, h3⟩ := h
 refine ⟨cs, h1, fun j u hj => ?_, hm _ _ _ _ _ _ hD hW h3⟩
 have hjl : j < cs.length := (List.getElem?_eq_some_iff.1 hj).1
 rw [hc _ (by omega) (by omega)]
 exact h2 j u hj
theorem mNum : Mono rNum := fun K K2 W W' cs x hk hW h => h
theorem mBoo : Mono rBoo := fun K K2 W W' cs x hk hW h => h
theorem mVrs : Mono rVrs := fun K K2 W W' cs x hk hW h => h
theorem mRws : Mono rRws := fun K K2 W W' cs x hk hW ⟨v, h1, h2⟩ => ⟨v, h1, h2.mono mRow hk hW⟩
theorem mTbls : Mono rTbls := fun K K2 W W' cs x hk hW ⟨v, h1, h2⟩ => ⟨v, h1, h2.mono mTbl hk hW⟩
theorem mClms : Mono rClms := fun K K2 W W' cs x hk hW ⟨v, h1, h2⟩ => ⟨v, h1, h2.mono mClm hk hW⟩
theorem mFh : Mono rFh := fun K K2 W W' cs x hk hW ⟨v, h1, h2, h3, h4, h5⟩ => ⟨v, h1, h2, h3, h4, h5.mono mCl hk hW⟩
theorem mBnd : Mono rBnd := fun K K2 W W' cs x hk hW ⟨v1, v2, v3, v4, v5, h1, h2, h3, h4, h5, h6, h7, h8, h9, ha, hb⟩ => ⟨v1, v2, v3, v4, v5, h1, h2, h3, h4, h5, h6, h7.mono mStp hk hW, h8.mono mInt hk hW, h9.mono mItm hk hW, ha.mono mTxt hk hW, hb.mono mKnd hk hW⟩
theorem mFrg : Mono rFrg := fun K K2 W W' cs x hk hW ⟨c1, c2, v, h1, h2, h3, h4, h5, h6, h7⟩ => ⟨c1, c2, v, h1, h2, h3, mSr _ _ _ _ _ _ hk hW h4, mSr _ _ _ _ _ _ hk hW h5, h6, h7.mono mInt hk hW⟩
/-- A message. -/
structure MsgIs (D : Nat → Prop) (W : World) (cur : Array Value) (x : Mg) : Prop where
 size : cur.size = 47
 kc : cur[0]? = some (.int .u8 (x.k : Int))
 kl : x.k < 256
 bt : GI rNum 1 1 D W cur x.bt
 qr : GI rVrs 2 2 D W cur (⟨x.st.qb, x.st.qn⟩ : Vrs)
 at_ : GI rInt 4 1 D W cur x.st.at_
 fr : GI rInt 5 1 D W cur x.st.fr
 tq : GI rInt 6 1 D W cur x.st.to
 bd : GI rBnd 7 11 D W cur x.bd
 ct : GI rTbls 18 1 D W cur x.ct
 fg : GI rFrg 19 17 D W cur x.fg
 nd : GI rInts 36 1 D W cur x.nd
 sq : GI rNum 37 1 D W cur x.sq
 ls : GI rBoo 38 1 D W cur x.ls
 rw_ : GI rRws 39 1 D W cur x.rw
 fh : GI rFh 40 5 D W cur (⟨x.fl.t, x.fl.v, x.fl.s, x.fl.c⟩ : Fh)
 fw : GI rRws 45 1 D W cur x.fl.r
 cm : GI rClms 46 1 D W cur x.cm
theorem MsgIs.keep {D D' : Nat → Prop} {W W' : World} {cur : Array Value} {x : Mg} (h : MsgIs D W cur x) (hD : ∀ b, D b → D' b) (hW : Kept D W W') : MsgIs D' W' cur x :=
 ⟨h.size, h.kc, h.kl, h.bt.keep mNum (fun _ _ _ => rfl) hD hW, h.qr.keep mVrs (fun _ _ _ => rfl) hD hW, h.at_.keep mInt (fun _ _ _ => rfl) hD hW, h.fr.keep mInt (fun _ _ _ => rfl) hD hW, h.tq.keep mInt (fun _ _ _ => rfl) hD hW, h.bd.keep mBnd (fun _ _ _ => rfl) hD hW, h.ct.keep mTbls (fun _ _ _ => rfl) hD hW, h.fg.keep mFrg (fun _ _ _ => rfl) hD hW, h.nd.keep mInts (fun _ _ _ => rfl) hD hW, h.sq.keep mNum (fun _ _ _ => rfl) hD hW, h.ls.keep mBoo (fun _ _ _ => rfl) hD hW, h.rw_.keep mRws (fun _ _ _ => rfl) hD hW, h.fh.keep mFh (fun _ _ _ => rfl) hD hW, h.fw.keep mRws (fun _ _ _ => rfl) hD hW, h.cm.keep mClms (fun _ _ _ => rfl) hD hW⟩
/-- What becomes of a field. -/
def fldP (i : Nat) (st : St) (x : Mg) : Mg × St :=
 match i with
 | 0 => (let r := (numP st x.bt).1; { x with bt := r }, (numP st x.bt).2)
 | 1 => (let r := (vrsP st (⟨x.st.qb, x.st.qn⟩ : Vrs)).1; { x with st := { x.st with qb := r.b, qn := r.l } }, (vrsP st (⟨x.st.qb, x.st.qn⟩ : Vrs)).2)
 | 2 => (let r := (longP st x.st.at_).1; { x with st := { x.st with at_ := r } }, (longP st x.st.at_).2)
 | 3 => (let r := (longP st x.st.fr).1; { x with st := { x.st with fr := r } }, (longP st x.st.fr).2)
 | 4 => (let r := (longP st x.st.to).1; { x with st := ⟨x.st.qb, x.st.qn, x.st.at_, x.st.fr, r⟩ }, (longP st x.st.to).2)
 | 5 => (let r := (bndP st x.bd).1; { x with bd := r }, (bndP st x.bd).2)
 | 6 => (let r := ((listP 64 tblP tbl0) st x.ct).1; { x with ct := r }, ((listP 64 tblP tbl0) st x.ct).2)
 | 7 => (let r := (frgP st x.fg).1; { x with fg := r }, (frgP st x.fg).2)
 | 8 => (let r := (intsP st x.nd).1; { x with nd := r }, (intsP st x.nd).2)
 | 9 => (let r := (numP st x.sq).1; { x with sq := r }, (numP st x.sq).2)
 | 10 => (let r := (flagP st x.ls).1; { x with ls := r }, (flagP st x.ls).2)
 | 11 => (let r := (rowsP st x.rw).1; { x with rw := r }, (rowsP st x.rw).2)
 | 12 => (let r := (fhP st (⟨x.fl.t, x.fl.v, x.fl.s, x.fl.c⟩ : Fh)).1; { x with fl := { x.fl with t := r.t, v := r.v, s := r.s, c := r.c } }, (fhP st (⟨x.fl.t, x.fl.v, x.fl.s, x.fl.c⟩ : Fh)).2)
 | 13 => (let r := (rowsP st x.fl.r).1; { x with fl := { x.fl with r := r } }, (rowsP st x.fl.r).2)
 | 14 => (let r := ((listP 64 clmP clm0) st x.cm).1; { x with cm := r }, ((listP 64 clmP clm0) st x.cm).2)
 | _ => (x, st)
/-- What a field's function does to a message. -/
def FldC (i t p : Nat) : Prop :=
 ∀ (K D : Nat → Prop) (W : World) (st : St) (mb : Nat) (cur : Array Value) (x : Mg), Tabs K W → ¬ K mb → W.heap[mb]? = some (.cells cur 63 (0, 0)) → (∀ b, D b → K b) → MsgIs D W cur x → PortIs (fun b => K b ∨ b = mb) W t p st → max st.len 65536 + 11000 ≤ 990000 →
  Calls Tryz.prog (102 + i) #[wk t p, .pointer (some ⟨mb, 0, none⟩)] W fun e w' => e = .returned (.tuple #[]) ∧ ∃ (N : Nat → Prop) (cur' : Array Value), (∀ b, N b → W.heap.size ≤ b) ∧ w'.heap[mb]? = some (.cells cur' 63 (0, 0)) ∧ MsgIs (fun b => D b ∨ N b) w' cur' (fldP i st x).1 ∧ PortIs (fun b => (K b ∨ N b) ∨ b = mb) w' t p (fldP i st x).2 ∧ Kept K W w'
theorem fld0 (t p : Nat) : FldC 0 t p := by
 intro K D W st mb cur x htb hnk hbm hDK h hp hl
 obtain ⟨cs, h1, h2, h3⟩ := h.bt
 refine (boot_field t p K D W st mb cur cs _ htb hnk hbm hDK h1 h2 h3 hp (by omega)).mono ?_
 rintro e w' ⟨rfl, N, cur', cs2, e1, e2, e3, e4, e5, e6, e7⟩
 have hkd : Kept D W w' := e7.less hDK
 have hout : ∀ k, k < 1 ∨ 2 ≤ k → cur'[k]? = cur[k]? := fun k hk => e4.2 k (by omega)
 have hs : cur'.size = 47 := by
  have a1 := h.size
  have a2 := hout 47 (by omega)
  rw [Array.getElem?_eq_none (by omega : cur.size ≤ 47)] at a2
  have a3 : ¬ 47 < cur'.size := fun hh => by rw [Array.getElem?_eq_getElem hh] at a2; cases a2
  have a4 : ¬ cur'.size < 47 := fun hh => by
   have b1 := (hout 46 (by omega)).trans (Array.getElem?_eq_getElem (by omega : 46 < cur.size))
   have b2 := (Array.getElem?_eq_some_iff.1 b1).1
   omega
  omega
 have ho1 : ∀ k, 2 ≤ k → k < 4 → cur'[k]? = cur[k]? := fun k a b => hout k (by omega)
 have ho2 : ∀ k, 4 ≤ k → k < 5 → cur'[k]? = cur[k]? := fun k a b => hout k (by omega)
 have ho3 : ∀ k, 5 ≤ k → k < 6 → cur'[k]? = cur[k]? := fun k a b => hout k (by omega)
 have ho4 : ∀ k, 6 ≤ k → k < 7 → cur'[k]? = cur[k]? := fun k a b => hout k (by omega)
 have ho5 : ∀ k, 7 ≤ k → k < 18 → cur'[k]? = cur[k]? := fun k a b => hout k (by omega)
 have ho6 : ∀ k, 18 ≤ k → k < 19 → cur'[k]? = cur[k]? := fun k a b => hout k (by omega)
 have ho7 : ∀ k, 19 ≤ k → k < 36 → cur'[k]? = cur[k]? := fun k a b => hout k (by omega)
 have ho8 : ∀ k, 36 ≤ k → k < 37 → cur'[k]? = cur[k]? := fun k a b => hout k (by omega)
 have ho9 : ∀ k, 37 ≤ k → k < 38 → cur'[k]? = cur[k]? := fun k a b => hout k (by omega)
 have ho10 : ∀ k, 38 ≤ k → k < 39 → cur'[k]? = cur[k]? := fun k a b => hout k (by omega)
 have ho11 : ∀ k, 39 ≤ k → k < 40 → cur'[k]? = cur[k]? := fun k a b => hout k (by omega)
 have ho12 : ∀ k, 40 ≤ k → k < 45 → cur'[k]? = cur[k]? := fun k a b => hout k (by omega)
 have ho13 : ∀ k, 45 ≤ k → k < 46 → cur'[k]? = cur[k]? := fun k a b => hout k (by omega)
 have ho14 : ∀ k, 46 ≤ k → k < 47 → cur'[k]? = cur[k]? := fun k a b => hout k (by omega)
 exact ⟨rfl, N, cur', e1, e2, ⟨hs, (hout 0 (by omega)).trans h.kc, h.kl, ⟨cs2, e3, e4.1, e5⟩, h.qr.keep mVrs ho1 (fun b hb => Or.inl hb) hkd, h.at_.keep mInt ho2 (fun b hb => Or.inl hb) hkd, h.fr.keep mInt ho3 (fun b hb => Or.inl hb) hkd, h.tq.keep mInt ho4 (fun b hb => Or.inl hb) hkd, h.bd.keep mBnd ho5 (fun b hb => Or.inl hb) hkd, h.ct.keep mTbls ho6 (fun b hb => Or.inl hb) hkd, h.fg.keep mFrg ho7 (fun b hb => Or.inl hb) hkd, h.nd.keep mInts ho8 (fun b hb => Or.inl hb) hkd, h.sq.keep mNum ho9 (fun b hb => Or.inl hb) hkd, h.ls.keep mBoo ho10 (fun b hb => Or.inl hb) hkd, h.rw_.keep mRws ho11 (fun b hb => Or.inl hb) hkd, h.fh.keep mFh ho12 (fun b hb => Or.inl hb) hkd, h.fw.keep mRws ho13 (fun b hb => Or.inl hb) hkd, h.cm.keep mClms ho14 (fun b hb => Or.inl hb) hkd⟩, e6, e7⟩
theorem fld1 (t p : Nat) : FldC 1 t p := by
 intro K D W st mb cur x htb hnk hbm hDK h hp hl
 obtain ⟨cs, h1, h2, h3⟩ := h.qr
 refine (query_field t p K D W st mb cur cs _ htb hnk hbm hDK h1 h2 h3 hp (by omega)).mono ?_
 rintro e w' ⟨rfl, N, cur', cs2, e1, e2, e3, e4, e5, e6, e7⟩
 have hkd : Kept D W w' := e7.less hDK
 have hout : ∀ k, k < 2 ∨ 4 ≤ k → cur'[k]? = cur[k]? := fun k hk => e4.2 k (by omega)
 have hs : cur'.size = 47 := by
  have a1 := h.size
  have a2 := hout 47 (by omega)
  rw [Array.getElem?_eq_none (by omega : cur.size ≤ 47)] at a2
  have a3 : ¬ 47 < cur'.size := fun hh => by rw [Array.getElem?_eq_getElem hh] at a2; cases a2
  have a4 : ¬ cur'.size < 47 := fun hh => by
   have b1 := (hout 46 (by omega)).trans (Array.getElem?_eq_getElem (by omega : 46 < cur.size))
   have b2 := (Array.getElem?_eq_some_iff.1 b1).1
   omega
  omega
 have ho0 : ∀ k, 1 ≤ k → k < 2 → cur'[k]? = cur[k]? := fun k a b => hout k (by omega)
 have ho2 : ∀ k, 4 ≤ k → k < 5 → cur'[k]? = cur[k]? := fun k a b => hout k (by omega)
 have ho3 : ∀ k, 5 ≤ k → k < 6 → cur'[k]? = cur[k]? := fun k a b => hout k (by omega)
 have ho4 : ∀ k, 6 ≤ k → k < 7 → cur'[k]? = cur[k]? := fun k a b => hout k (by omega)
 have ho5 : ∀ k, 7 ≤ k → k < 18 → cur'[k]? = cur[k]? := fun k a b => hout k (by omega)
 have ho6 : ∀ k, 18 ≤ k → k < 19 → cur'[k]? = cur[k]? := fun k a b => hout k (by omega)
 have ho7 : ∀ k, 19 ≤ k → k < 36 → cur'[k]? = cur[k]? := fun k a b => hout k (by omega)
 have ho8 : ∀ k, 36 ≤ k → k < 37 → cur'[k]? = cur[k]? := fun k a b => hout k (by omega)
 have ho9 : ∀ k, 37 ≤ k → k < 38 → cur'[k]? = cur[k]? := fun k a b => hout k (by omega)
 have ho10 : ∀ k, 38 ≤ k → k < 39 → cur'[k]? = cur[k]? := fun k a b => hout k (by omega)
 have ho11 : ∀ k, 39 ≤ k → k < 40 → cur'[k]? = cur[k]? := fun k a b => hout k (by omega)
 have ho12 : ∀ k, 40 ≤ k → k < 45 → cur'[k]? = cur[k]? := fun k a b => hout k (by omega)
 have ho13 : ∀ k, 45 ≤ k → k < 46 → cur'[k]? = cur[k]? := fun k a b => hout k (by omega)
 have ho14 : ∀ k, 46 ≤ k → k < 47 → cur'[k]? = cur[k]? := fun k a b => hout k (by omega)
 exact ⟨rfl, N, cur', e1, e2, ⟨hs, (hout 0 (by omega)).trans h.kc, h.kl, h.bt.keep mNum ho0 (fun b hb => Or.inl hb) hkd, ⟨cs2, e3, e4.1, e5⟩, h.at_.keep mInt ho2 (fun b hb => Or.inl hb) hkd, h.fr.keep mInt ho3 (fun b hb => Or.inl hb) hkd, h.tq.keep mInt ho4 (fun b hb => Or.inl hb) hkd, h.bd.keep mBnd ho5 (fun b hb => Or.inl hb) hkd, h.ct.keep mTbls ho6 (fun b hb => Or.inl hb) hkd, h.fg.keep mFrg ho7 (fun b hb => Or.inl hb) hkd, h.nd.keep mInts ho8 (fun b hb => Or.inl hb) hkd, h.sq.keep mNum ho9 (fun b hb => Or.inl hb) hkd, h.ls.keep mBoo ho10 (fun b hb => Or.inl hb) hkd, h.rw_.keep mRws ho11 (fun b hb => Or.inl hb) hkd, h.fh.keep mFh ho12 (fun b hb => Or.inl hb) hkd, h.fw.keep mRws ho13 (fun b hb => Or.inl hb) hkd, h.cm.keep mClms ho14 (fun b hb => Or.inl hb) hkd⟩, e6, e7⟩
theorem fld2 (t p : Nat) : FldC 2 t p := by
 intro K D W st mb cur x htb hnk hbm hDK h hp hl
 obtain ⟨cs, h1, h2, h3⟩ := h.at_
 refine (attempt_field t p K D W st mb cur cs _ htb hnk hbm hDK h1 h2 h3 hp (by omega)).mono ?_
 rintro e w' ⟨rfl, N, cur', cs2, e1, e2, e3, e4, e5, e6, e7⟩
 have hkd : Kept D W w' := e7.less hDK
 have hout : ∀ k, k < 4 ∨ 5 ≤ k → cur'[k]? = cur[k]? := fun k hk => e4.2 k (by omega)
 have hs : cur'.size = 47 := by
  have a1 := h.size
  have a2 := hout 47 (by omega)
  rw [Array.getElem?_eq_none (by omega : cur.size ≤ 47)] at a2
  have a3 : ¬ 47 < cur'.size := fun hh => by rw [Array.getElem?_eq_getElem hh] at a2; cases a2
  have a4 : ¬ cur'.size < 47 := fun hh => by
   have b1 := (hout 46 (by omega)).trans (Array.getElem?_eq_getElem (by omega : 46 < cur.size))
   have b2 := (Array.getElem?_eq_some_iff.1 b1).1
   omega
  omega
 have ho0 : ∀ k, 1 ≤ k → k < 2 → cur'[k]? = cur[k]? := fun k a b => hout k (by omega)
 have ho1 : ∀ k, 2 ≤ k → k < 4 → cur'[k]? = cur[k]? := fun k a b => hout k (by omega)
 have ho3 : ∀ k, 5 ≤ k → k < 6 → cur'[k]? = cur[k]? := fun k a b => hout k (by omega)
 have ho4 : ∀ k, 6 ≤ k → k < 7 → cur'[k]? = cur[k]? := fun k a b => hout k (by omega)
 have ho5 : ∀ k, 7 ≤ k → k < 18 → cur'[k]? = cur[k]? := fun k a b => hout k (by omega)
 have ho6 : ∀ k, 18 ≤ k → k < 19 → cur'[k]? = cur[k]? := fun k a b => hout k (by omega)
 have ho7 : ∀ k, 19 ≤ k → k < 36 → cur'[k]? = cur[k]? := fun k a b => hout k (by omega)
 have ho8 : ∀ k, 36 ≤ k → k < 37 → cur'[k]? = cur[k]? := fun k a b => hout k (by omega)
 have ho9 : ∀ k, 37 ≤ k → k < 38 → cur'[k]? = cur[k]? := fun k a b => hout k (by omega)
 have ho10 : ∀ k, 38 ≤ k → k < 39 → cur'[k]? = cur[k]? := fun k a b => hout k (by omega)
 have ho11 : ∀ k, 39 ≤ k → k < 40 → cur'[k]? = cur[k]? := fun k a b => hout k (by omega)
 have ho12 : ∀ k, 40 ≤ k → k < 45 → cur'[k]? = cur[k]? := fun k a b => hout k (by omega)
 have ho13 : ∀ k, 45 ≤ k → k < 46 → cur'[k]? = cur[k]? := fun k a b => hout k (by omega)
 have ho14 : ∀ k, 46 ≤ k → k < 47 → cur'[k]? = cur[k]? := fun k a b => hout k (by omega)
 exact ⟨rfl, N, cur', e1, e2, ⟨hs, (hout 0 (by omega)).trans h.kc, h.kl, h.bt.keep mNum ho0 (fun b hb => Or.inl hb) hkd, h.qr.keep mVrs ho1 (fun b hb => Or.inl hb) hkd, ⟨cs2, e3, e4.1, e5⟩, h.fr.keep mInt ho3 (fun b hb => Or.inl hb) hkd, h.tq.keep mInt ho4 (fun b hb => Or.inl hb) hkd, h.bd.keep mBnd ho5 (fun b hb => Or.inl hb) hkd, h.ct.keep mTbls ho6 (fun b hb => Or.inl hb) hkd, h.fg.keep mFrg ho7 (fun b hb => Or.inl hb) hkd, h.nd.keep mInts ho8 (fun b hb => Or.inl hb) hkd, h.sq.keep mNum ho9 (fun b hb => Or.inl hb) hkd, h.ls.keep mBoo ho10 (fun b hb => Or.inl hb) hkd, h.rw_.keep mRws ho11 (fun b hb => Or.inl hb) hkd, h.fh.keep mFh ho12 (fun b hb => Or.inl hb) hkd, h.fw.keep mRws ho13 (fun b hb => Or.inl hb) hkd, h.cm.keep mClms ho14 (fun b hb => Or.inl hb) hkd⟩, e6, e7⟩
theorem fld3 (t p : Nat) : FldC 3 t p := by
 intro K D W st mb cur x htb hnk hbm hDK h hp hl
 obtain ⟨cs, h1, h2, h3⟩ := h.fr
 refine (from_field t p K D W st mb cur cs _ htb hnk hbm hDK h1 h2 h3 hp (by omega)).mono ?_
 rintro e w' ⟨rfl, N, cur', cs2, e1, e2, e3, e4, e5, e6, e7⟩
 have hkd : Kept D W w' := e7.less hDK
 have hout : ∀ k, k < 5 ∨ 6 ≤ k → cur'[k]? = cur[k]? := fun k hk => e4.2 k (by omega)
 have hs : cur'.size = 47 := by
  have a1 := h.size
  have a2 := hout 47 (by omega)
  rw [Array.getElem?_eq_none (by omega : cur.size ≤ 47)] at a2
  have a3 : ¬ 47 < cur'.size := fun hh => by rw [Array.getElem?_eq_getElem hh] at a2; cases a2
  have a4 : ¬ cur'.size < 47 := fun hh => by
   have b1 := (hout 46 (by omega)).trans (Array.getElem?_eq_getElem (by omega : 46 < cur.size))
   have b2 := (Array.getElem?_eq_some_iff.1 b1).1
   omega
  omega
 have ho0 : ∀ k, 1 ≤ k → k < 2 → cur'[k]? = cur[k]? := fun k a b => hout k (by omega)
 have ho1 : ∀ k, 2 ≤ k → k < 4 → cur'[k]? = cur[k]? := fun k a b => hout k (by omega)
 have ho2 : ∀ k, 4 ≤ k → k < 5 → cur'[k]? = cur[k]? := fun k a b => hout k (by omega)
 have ho4 : ∀ k, 6 ≤ k → k < 7 → cur'[k]? = cur[k]? := fun k a b => hout k (by omega)
 have ho5 : ∀ k, 7 ≤ k → k < 18 → cur'[k]? = cur[k]? := fun k a b => hout k (by omega)
 have ho6 : ∀ k, 18 ≤ k → k < 19 → cur'[k]? = cur[k]? := fun k a b => hout k (by omega)
 have ho7 : ∀ k, 19 ≤ k → k < 36 → cur'[k]? = cur[k]? := fun k a b => hout k (by omega)
 have ho8 : ∀ k, 36 ≤ k → k < 37 → cur'[k]? = cur[k]? := fun k a b => hout k (by omega)
 have ho9 : ∀ k, 37 ≤ k → k < 38 → cur'[k]? = cur[k]? := fun k a b => hout k (by omega)
 have ho10 : ∀ k, 38 ≤ k → k < 39 → cur'[k]? = cur[k]? := fun k a b => hout k (by omega)
 have ho11 : ∀ k, 39 ≤ k → k < 40 → cur'[k]? = cur[k]? := fun k a b => hout k (by omega)
 have ho12 : ∀ k, 40 ≤ k → k < 45 → cur'[k]? = cur[k]? := fun k a b => hout k (by omega)
 have ho13 : ∀ k, 45 ≤ k → k < 46 → cur'[k]? = cur[k]? := fun k a b => hout k (by omega)
 have ho14 : ∀ k, 46 ≤ k → k < 47 → cur'[k]? = cur[k]? := fun k a b => hout k (by omega)
 exact ⟨rfl, N, cur', e1, e2, ⟨hs, (hout 0 (by omega)).trans h.kc, h.kl, h.bt.keep mNum ho0 (fun b hb => Or.inl hb) hkd, h.qr.keep mVrs ho1 (fun b hb => Or.inl hb) hkd, h.at_.keep mInt ho2 (fun b hb => Or.inl hb) hkd, ⟨cs2, e3, e4.1, e5⟩, h.tq.keep mInt ho4 (fun b hb => Or.inl hb) hkd, h.bd.keep mBnd ho5 (fun b hb => Or.inl hb) hkd, h.ct.keep mTbls ho6 (fun b hb => Or.inl hb) hkd, h.fg.keep mFrg ho7 (fun b hb => Or.inl hb) hkd, h.nd.keep mInts ho8 (fun b hb => Or.inl hb) hkd, h.sq.keep mNum ho9 (fun b hb => Or.inl hb) hkd, h.ls.keep mBoo ho10 (fun b hb => Or.inl hb) hkd, h.rw_.keep mRws ho11 (fun b hb => Or.inl hb) hkd, h.fh.keep mFh ho12 (fun b hb => Or.inl hb) hkd, h.fw.keep mRws ho13 (fun b hb => Or.inl hb) hkd, h.cm.keep mClms ho14 (fun b hb => Or.inl hb) hkd⟩, e6, e7⟩
theorem fld4 (t p : Nat) : FldC 4 t p := by
 intro K D W st mb cur x htb hnk hbm hDK h hp hl
 obtain ⟨cs, h1, h2, h3⟩ := h.tq
 refine (to_field t p K D W st mb cur cs _ htb hnk hbm hDK h1 h2 h3 hp (by omega)).mono ?_
 rintro e w' ⟨rfl, N, cur', cs2, e1, e2, e3, e4, e5, e6, e7⟩
 have hkd : Kept D W w' := e7.less hDK
 have hout : ∀ k, k < 6 ∨ 7 ≤ k → cur'[k]? = cur[k]? := fun k hk => e4.2 k (by omega)
 have hs : cur'.size = 47 := by
  have a1 := h.size
  have a2 := hout 47 (by omega)
  rw [Array.getElem?_eq_none (by omega : cur.size ≤ 47)] at a2
  have a3 : ¬ 47 < cur'.size := fun hh => by rw [Array.getElem?_eq_getElem hh] at a2; cases a2
  have a4 : ¬ cur'.size < 47 := fun hh => by
   have b1 := (hout 46 (by omega)).trans (Array.getElem?_eq_getElem (by omega : 46 < cur.size))
   have b2 := (Array.getElem?_eq_some_iff.1 b1).1
   omega
  omega
 have ho0 : ∀ k, 1 ≤ k → k < 2 → cur'[k]? = cur[k]? := fun k a b => hout k (by omega)
 have ho1 : ∀ k, 2 ≤ k → k < 4 → cur'[k]? = cur[k]? := fun k a b => hout k (by omega)
 have ho2 : ∀ k, 4 ≤ k → k < 5 → cur'[k]? = cur[k]? := fun k a b => hout k (by omega)
 have ho3 : ∀ k, 5 ≤ k → k < 6 → cur'[k]? = cur[k]? := fun k a b => hout k (by omega)
 have ho5 : ∀ k, 7 ≤ k → k < 18 → cur'[k]? = cur[k]? := fun k a b => hout k (by omega)
 have ho6 : ∀ k, 18 ≤ k → k < 19 → cur'[k]? = cur[k]? := fun k a b => hout k (by omega)
 have ho7 : ∀ k, 19 ≤ k → k < 36 → cur'[k]? = cur[k]? := fun k a b => hout k (by omega)
 have ho8 : ∀ k, 36 ≤ k → k < 37 → cur'[k]? = cur[k]? := fun k a b => hout k (by omega)
 have ho9 : ∀ k, 37 ≤ k → k < 38 → cur'[k]? = cur[k]? := fun k a b => hout k (by omega)
 have ho10 : ∀ k, 38 ≤ k → k < 39 → cur'[k]? = cur[k]? := fun k a b => hout k (by omega)
 have ho11 : ∀ k, 39 ≤ k → k < 40 → cur'[k]? = cur[k]? := fun k a b => hout k (by omega)
 have ho12 : ∀ k, 40 ≤ k → k < 45 → cur'[k]? = cur[k]? := fun k a b => hout k (by omega)
 have ho13 : ∀ k, 45 ≤ k → k < 46 → cur'[k]? = cur[k]? := fun k a b => hout k (by omega)
 have ho14 : ∀ k, 46 ≤ k → k < 47 → cur'[k]? = cur[k]? := fun k a b => hout k (by omega)
 exact ⟨rfl, N, cur', e1, e2, ⟨hs, (hout 0 (by omega)).trans h.kc, h.kl, h.bt.keep mNum ho0 (fun b hb => Or.inl hb) hkd, h.qr.keep mVrs ho1 (fun b hb => Or.inl hb) hkd, h.at_.keep mInt ho2 (fun b hb => Or.inl hb) hkd, h.fr.keep mInt ho3 (fun b hb => Or.inl hb) hkd, ⟨cs2, e3, e4.1, e5⟩, h.bd.keep mBnd ho5 (fun b hb => Or.inl hb) hkd, h.ct.keep mTbls ho6 (fun b hb => Or.inl hb) hkd, h.fg.keep mFrg ho7 (fun b hb => Or.inl hb) hkd, h.nd.keep mInts ho8 (fun b hb => Or.inl hb) hkd, h.sq.keep mNum ho9 (fun b hb => Or.inl hb) hkd, h.ls.keep mBoo ho10 (fun b hb => Or.inl hb) hkd, h.rw_.keep mRws ho11 (fun b hb => Or.inl hb) hkd, h.fh.keep mFh ho12 (fun b hb => Or.inl hb) hkd, h.fw.keep mRws ho13 (fun b hb => Or.inl hb) hkd, h.cm.keep mClms ho14 (fun b hb => Or.inl hb) hkd⟩, e6, e7⟩
theorem fld5 (t p : Nat) : FldC 5 t p := by
 intro K D W st mb cur x htb hnk hbm hDK h hp hl
 obtain ⟨cs, h1, h2, h3⟩ := h.bd
 refine (bound_field t p K D W st mb cur cs _ htb hnk hbm hDK h1 h2 h3 hp (by omega)).mono ?_
 rintro e w' ⟨rfl, N, cur', cs2, e1, e2, e3, e4, e5, e6, e7⟩
 have hkd : Kept D W w' := e7.less hDK
 have hout : ∀ k, k < 7 ∨ 18 ≤ k → cur'[k]? = cur[k]? := fun k hk => e4.2 k (by omega)
 have hs : cur'.size = 47 := by
  have a1 := h.size
  have a2 := hout 47 (by omega)
  rw [Array.getElem?_eq_none (by omega : cur.size ≤ 47)] at a2
  have a3 : ¬ 47 < cur'.size := fun hh => by rw [Array.getElem?_eq_getElem hh] at a2; cases a2
  have a4 : ¬ cur'.size < 47 := fun hh => by
   have b1 := (hout 46 (by omega)).trans (Array.getElem?_eq_getElem (by omega : 46 < cur.size))
   have b2 := (Array.getElem?_eq_some_iff.1 b1).1
   omega
  omega
 have ho0 : ∀ k, 1 ≤ k → k < 2 → cur'[k]? = cur[k]? := fun k a b => hout k (by omega)
 have ho1 : ∀ k, 2 ≤ k → k < 4 → cur'[k]? = cur[k]? := fun k a b => hout k (by omega)
 have ho2 : ∀ k, 4 ≤ k → k < 5 → cur'[k]? = cur[k]? := fun k a b => hout k (by omega)
 have ho3 : ∀ k, 5 ≤ k → k < 6 → cur'[k]? = cur[k]? := fun k a b => hout k (by omega)
 have ho4 : ∀ k, 6 ≤ k → k < 7 → cur'[k]? = cur[k]? := fun k a b => hout k (by omega)
 have ho6 : ∀ k, 18 ≤ k → k < 19 → cur'[k]? = cur[k]? := fun k a b => hout k (by omega)
 have ho7 : ∀ k, 19 ≤ k → k < 36 → cur'[k]? = cur[k]? := fun k a b => hout k (by omega)
 have ho8 : ∀ k, 36 ≤ k → k < 37 → cur'[k]? = cur[k]? := fun k a b => hout k (by omega)
 have ho9 : ∀ k, 37 ≤ k → k < 38 → cur'[k]? = cur[k]? := fun k a b => hout k (by omega)
 have ho10 : ∀ k, 38 ≤ k → k < 39 → cur'[k]? = cur[k]? := fun k a b => hout k (by omega)
 have ho11 : ∀ k, 39 ≤ k → k < 40 → cur'[k]? = cur[k]? := fun k a b => hout k (by omega)
 have ho12 : ∀ k, 40 ≤ k → k < 45 → cur'[k]? = cur[k]? := fun k a b => hout k (by omega)
 have ho13 : ∀ k, 45 ≤ k → k < 46 → cur'[k]? = cur[k]? := fun k a b => hout k (by omega)
 have ho14 : ∀ k, 46 ≤ k → k < 47 → cur'[k]? = cur[k]? := fun k a b => hout k (by omega)
 exact ⟨rfl, N, cur', e1, e2, ⟨hs, (hout 0 (by omega)).trans h.kc, h.kl, h.bt.keep mNum ho0 (fun b hb => Or.inl hb) hkd, h.qr.keep mVrs ho1 (fun b hb => Or.inl hb) hkd, h.at_.keep mInt ho2 (fun b hb => Or.inl hb) hkd, h.fr.keep mInt ho3 (fun b hb => Or.inl hb) hkd, h.tq.keep mInt ho4 (fun b hb => Or.inl hb) hkd, ⟨cs2, e3, e4.1, e5⟩, h.ct.keep mTbls ho6 (fun b hb => Or.inl hb) hkd, h.fg.keep mFrg ho7 (fun b hb => Or.inl hb) hkd, h.nd.keep mInts ho8 (fun b hb => Or.inl hb) hkd, h.sq.keep mNum ho9 (fun b hb => Or.inl hb) hkd, h.ls.keep mBoo ho10 (fun b hb => Or.inl hb) hkd, h.rw_.keep mRws ho11 (fun b hb => Or.inl hb) hkd, h.fh.keep mFh ho12 (fun b hb => Or.inl hb) hkd, h.fw.keep mRws ho13 (fun b hb => Or.inl hb) hkd, h.cm.keep mClms ho14 (fun b hb => Or.inl hb) hkd⟩, e6, e7⟩
theorem fld6 (t p : Nat) : FldC 6 t p := by
 intro K D W st mb cur x htb hnk hbm hDK h hp hl
 obtain ⟨cs, h1, h2, h3⟩ := h.ct
 refine (catalog_field t p K D W st mb cur cs _ htb hnk hbm hDK h1 h2 h3 hp (by omega)).mono ?_
 rintro e w' ⟨rfl, N, cur', cs2, e1, e2, e3, e4, e5, e6, e7⟩
 have hkd : Kept D W w' := e7.less hDK
 have hout : ∀ k, k < 18 ∨ 19 ≤ k → cur'[k]? = cur[k]? := fun k hk => e4.2 k (by omega)
 have hs : cur'.size = 47 := by
  have a1 := h.size
  have a2 := hout 47 (by omega)
  rw [Array.getElem?_eq_none (by omega : cur.size ≤ 47)] at a2
  have a3 : ¬ 47 < cur'.size := fun hh => by rw [Array.getElem?_eq_getElem hh] at a2; cases a2
  have a4 : ¬ cur'.size < 47 := fun hh => by
   have b1 := (hout 46 (by omega)).trans (Array.getElem?_eq_getElem (by omega : 46 < cur.size))
   have b2 := (Array.getElem?_eq_some_iff.1 b1).1
   omega
  omega
 have ho0 : ∀ k, 1 ≤ k → k < 2 → cur'[k]? = cur[k]? := fun k a b => hout k (by omega)
 have ho1 : ∀ k, 2 ≤ k → k < 4 → cur'[k]? = cur[k]? := fun k a b => hout k (by omega)
 have ho2 : ∀ k, 4 ≤ k → k < 5 → cur'[k]? = cur[k]? := fun k a b => hout k (by omega)
 have ho3 : ∀ k, 5 ≤ k → k < 6 → cur'[k]? = cur[k]? := fun k a b => hout k (by omega)
 have ho4 : ∀ k, 6 ≤ k → k < 7 → cur'[k]? = cur[k]? := fun k a b => hout k (by omega)
 have ho5 : ∀ k, 7 ≤ k → k < 18 → cur'[k]? = cur[k]? := fun k a b => hout k (by omega)
 have ho7 : ∀ k, 19 ≤ k → k < 36 → cur'[k]? = cur[k]? := fun k a b => hout k (by omega)
 have ho8 : ∀ k, 36 ≤ k → k < 37 → cur'[k]? = cur[k]? := fun k a b => hout k (by omega)
 have ho9 : ∀ k, 37 ≤ k → k < 38 → cur'[k]? = cur[k]? := fun k a b => hout k (by omega)
 have ho10 : ∀ k, 38 ≤ k → k < 39 → cur'[k]? = cur[k]? := fun k a b => hout k (by omega)
 have ho11 : ∀ k, 39 ≤ k → k < 40 → cur'[k]? = cur[k]? := fun k a b => hout k (by omega)
 have ho12 : ∀ k, 40 ≤ k → k < 45 → cur'[k]? = cur[k]? := fun k a b => hout k (by omega)
 have ho13 : ∀ k, 45 ≤ k → k < 46 → cur'[k]? = cur[k]? := fun k a b => hout k (by omega)
 have ho14 : ∀ k, 46 ≤ k → k < 47 → cur'[k]? = cur[k]? := fun k a b => hout k (by omega)
 exact ⟨rfl, N, cur', e1, e2, ⟨hs, (hout 0 (by omega)).trans h.kc, h.kl, h.bt.keep mNum ho0 (fun b hb => Or.inl hb) hkd, h.qr.keep mVrs ho1 (fun b hb => Or.inl hb) hkd, h.at_.keep mInt ho2 (fun b hb => Or.inl hb) hkd, h.fr.keep mInt ho3 (fun b hb => Or.inl hb) hkd, h.tq.keep mInt ho4 (fun b hb => Or.inl hb) hkd, h.bd.keep mBnd ho5 (fun b hb => Or.inl hb) hkd, ⟨cs2, e3, e4.1, e5⟩, h.fg.keep mFrg ho7 (fun b hb => Or.inl hb) hkd, h.nd.keep mInts ho8 (fun b hb => Or.inl hb) hkd, h.sq.keep mNum ho9 (fun b hb => Or.inl hb) hkd, h.ls.keep mBoo ho10 (fun b hb => Or.inl hb) hkd, h.rw_.keep mRws ho11 (fun b hb => Or.inl hb) hkd, h.fh.keep mFh ho12 (fun b hb => Or.inl hb) hkd, h.fw.keep mRws ho13 (fun b hb => Or.inl hb) hkd, h.cm.keep mClms ho14 (fun b hb => Or.inl hb) hkd⟩, e6, e7⟩
theorem fld7 (t p : Nat) : FldC 7 t p := by
 intro K D W st mb cur x htb hnk hbm hDK h hp hl
 obtain ⟨cs, h1, h2, h3⟩ := h.fg
 refine (frag_field t p K D W st mb cur cs _ htb hnk hbm hDK h1 h2 h3 hp (by omega)).mono ?_
 rintro e w' ⟨rfl, N, cur', cs2, e1, e2, e3, e4, e5, e6, e7⟩
 have hkd : Kept D W w' := e7.less hDK
 have hout : ∀ k, k < 19 ∨ 36 ≤ k → cur'[k]? = cur[k]? := fun k hk => e4.2 k (by omega)
 have hs : cur'.size = 47 := by
  have a1 := h.size
  have a2 := hout 47 (by omega)
  rw [Array.getElem?_eq_none (by omega : cur.size ≤ 47)] at a2
  have a3 : ¬ 47 < cur'.size := fun hh => by rw [Array.getElem?_eq_getElem hh] at a2; cases a2
  have a4 : ¬ cur'.size < 47 := fun hh => by
   have b1 := (hout 46 (by omega)).trans (Array.getElem?_eq_getElem (by omega : 46 < cur.size))
   have b2 := (Array.getElem?_eq_some_iff.1 b1).1
   omega
  omega
 have ho0 : ∀ k, 1 ≤ k → k < 2 → cur'[k]? = cur[k]? := fun k a b => hout k (by omega)
 have ho1 : ∀ k, 2 ≤ k → k < 4 → cur'[k]? = cur[k]? := fun k a b => hout k (by omega)
 have ho2 : ∀ k, 4 ≤ k → k < 5 → cur'[k]? = cur[k]? := fun k a b => hout k (by omega)
 have ho3 : ∀ k, 5 ≤ k → k < 6 → cur'[k]? = cur[k]? := fun k a b => hout k (by omega)
 have ho4 : ∀ k, 6 ≤ k → k < 7 → cur'[k]? = cur[k]? := fun k a b => hout k (by omega)
 have ho5 : ∀ k, 7 ≤ k → k < 18 → cur'[k]? = cur[k]? := fun k a b => hout k (by omega)
 have ho6 : ∀ k, 18 ≤ k → k < 19 → cur'[k]? = cur[k]? := fun k a b => hout k (by omega)
 have ho8 : ∀ k, 36 ≤ k → k < 37 → cur'[k]? = cur[k]? := fun k a b => hout k (by omega)
 have ho9 : ∀ k, 37 ≤ k → k < 38 → cur'[k]? = cur[k]? := fun k a b => hout k (by omega)
 have ho10 : ∀ k, 38 ≤ k → k < 39 → cur'[k]? = cur[k]? := fun k a b => hout k (by omega)
 have ho11 : ∀ k, 39 ≤ k → k < 40 → cur'[k]? = cur[k]? := fun k a b => hout k (by omega)
 have ho12 : ∀ k, 40 ≤ k → k < 45 → cur'[k]? = cur[k]? := fun k a b => hout k (by omega)
 have ho13 : ∀ k, 45 ≤ k → k < 46 → cur'[k]? = cur[k]? := fun k a b => hout k (by omega)
 have ho14 : ∀ k, 46 ≤ k → k < 47 → cur'[k]? = cur[k]? := fun k a b => hout k (by omega)
 exact ⟨rfl, N, cur', e1, e2, ⟨hs, (hout 0 (by omega)).trans h.kc, h.kl, h.bt.keep mNum ho0 (fun b hb => Or.inl hb) hkd, h.qr.keep mVrs ho1 (fun b hb => Or.inl hb) hkd, h.at_.keep mInt ho2 (fun b hb => Or.inl hb) hkd, h.fr.keep mInt ho3 (fun b hb => Or.inl hb) hkd, h.tq.keep mInt ho4 (fun b hb => Or.inl hb) hkd, h.bd.keep mBnd ho5 (fun b hb => Or.inl hb) hkd, h.ct.keep mTbls ho6 (fun b hb => Or.inl hb) hkd, ⟨cs2, e3, e4.1, e5⟩, h.nd.keep mInts ho8 (fun b hb => Or.inl hb) hkd, h.sq.keep mNum ho9 (fun b hb => Or.inl hb) hkd, h.ls.keep mBoo ho10 (fun b hb => Or.inl hb) hkd, h.rw_.keep mRws ho11 (fun b hb => Or.inl hb) hkd, h.fh.keep mFh ho12 (fun b hb => Or.inl hb) hkd, h.fw.keep mRws ho13 (fun b hb => Or.inl hb) hkd, h.cm.keep mClms ho14 (fun b hb => Or.inl hb) hkd⟩, e6, e7⟩
theorem fld8 (t p : Nat) : FldC 8 t p := by
 intro K D W st mb cur x htb hnk hbm hDK h hp hl
 obtain ⟨cs, h1, h2, h3⟩ := h.nd
 refine (nodes_field t p K D W st mb cur cs _ htb hnk hbm hDK h1 h2 h3 hp (by omega)).mono ?_
 rintro e w' ⟨rfl, N, cur', cs2, e1, e2, e3, e4, e5, e6, e7⟩
 have hkd : Kept D W w' := e7.less hDK
 have hout : ∀ k, k < 36 ∨ 37 ≤ k → cur'[k]? = cur[k]? := fun k hk => e4.2 k (by omega)
 have hs : cur'.size = 47 := by
  have a1 := h.size
  have a2 := hout 47 (by omega)
  rw [Array.getElem?_eq_none (by omega : cur.size ≤ 47)] at a2
  have a3 : ¬ 47 < cur'.size := fun hh => by rw [Array.getElem?_eq_getElem hh] at a2; cases a2
  have a4 : ¬ cur'.size < 47 := fun hh => by
   have b1 := (hout 46 (by omega)).trans (Array.getElem?_eq_getElem (by omega : 46 < cur.size))
   have b2 := (Array.getElem?_eq_some_iff.1 b1).1
   omega
  omega
 have ho0 : ∀ k, 1 ≤ k → k < 2 → cur'[k]? = cur[k]? := fun k a b => hout k (by omega)
 have ho1 : ∀ k, 2 ≤ k → k < 4 → cur'[k]? = cur[k]? := fun k a b => hout k (by omega)
 have ho2 : ∀ k, 4 ≤ k → k < 5 → cur'[k]? = cur[k]? := fun k a b => hout k (by omega)
 have ho3 : ∀ k, 5 ≤ k → k < 6 → cur'[k]? = cur[k]? := fun k a b => hout k (by omega)
 have ho4 : ∀ k, 6 ≤ k → k < 7 → cur'[k]? = cur[k]? := fun k a b => hout k (by omega)
 have ho5 : ∀ k, 7 ≤ k → k < 18 → cur'[k]? = cur[k]? := fun k a b => hout k (by omega)
 have ho6 : ∀ k, 18 ≤ k → k < 19 → cur'[k]? = cur[k]? := fun k a b => hout k (by omega)
 have ho7 : ∀ k, 19 ≤ k → k < 36 → cur'[k]? = cur[k]? := fun k a b => hout k (by omega)
 have ho9 : ∀ k, 37 ≤ k → k < 38 → cur'[k]? = cur[k]? := fun k a b => hout k (by omega)
 have ho10 : ∀ k, 38 ≤ k → k < 39 → cur'[k]? = cur[k]? := fun k a b => hout k (by omega)
 have ho11 : ∀ k, 39 ≤ k → k < 40 → cur'[k]? = cur[k]? := fun k a b => hout k (by omega)
 have ho12 : ∀ k, 40 ≤ k → k < 45 → cur'[k]? = cur[k]? := fun k a b => hout k (by omega)
 have ho13 : ∀ k, 45 ≤ k → k < 46 → cur'[k]? = cur[k]? := fun k a b => hout k (by omega)
 have ho14 : ∀ k, 46 ≤ k → k < 47 → cur'[k]? = cur[k]? := fun k a b => hout k (by omega)
 exact ⟨rfl, N, cur', e1, e2, ⟨hs, (hout 0 (by omega)).trans h.kc, h.kl, h.bt.keep mNum ho0 (fun b hb => Or.inl hb) hkd, h.qr.keep mVrs ho1 (fun b hb => Or.inl hb) hkd, h.at_.keep mInt ho2 (fun b hb => Or.inl hb) hkd, h.fr.keep mInt ho3 (fun b hb => Or.inl hb) hkd, h.tq.keep mInt ho4 (fun b hb => Or.inl hb) hkd, h.bd.keep mBnd ho5 (fun b hb => Or.inl hb) hkd, h.ct.keep mTbls ho6 (fun b hb => Or.inl hb) hkd, h.fg.keep mFrg ho7 (fun b hb => Or.inl hb) hkd, ⟨cs2, e3, e4.1, e5⟩, h.sq.keep mNum ho9 (fun b hb => Or.inl hb) hkd, h.ls.keep mBoo ho10 (fun b hb => Or.inl hb) hkd, h.rw_.keep mRws ho11 (fun b hb => Or.inl hb) hkd, h.fh.keep mFh ho12 (fun b hb => Or.inl hb) hkd, h.fw.keep mRws ho13 (fun b hb => Or.inl hb) hkd, h.cm.keep mClms ho14 (fun b hb => Or.inl hb) hkd⟩, e6, e7⟩
theorem fld9 (t p : Nat) : FldC 9 t p := by
 intro K D W st mb cur x htb hnk hbm hDK h hp hl
 obtain ⟨cs, h1, h2, h3⟩ := h.sq
 refine (seq_field t p K D W st mb cur cs _ htb hnk hbm hDK h1 h2 h3 hp (by omega)).mono ?_
 rintro e w' ⟨rfl, N, cur', cs2, e1, e2, e3, e4, e5, e6, e7⟩
 have hkd : Kept D W w' := e7.less hDK
 have hout : ∀ k, k < 37 ∨ 38 ≤ k → cur'[k]? = cur[k]? := fun k hk => e4.2 k (by omega)
 have hs : cur'.size = 47 := by
  have a1 := h.size
  have a2 := hout 47 (by omega)
  rw [Array.getElem?_eq_none (by omega : cur.size ≤ 47)] at a2
  have a3 : ¬ 47 < cur'.size := fun hh => by rw [Array.getElem?_eq_getElem hh] at a2; cases a2
  have a4 : ¬ cur'.size < 47 := fun hh => by
   have b1 := (hout 46 (by omega)).trans (Array.getElem?_eq_getElem (by omega : 46 < cur.size))
   have b2 := (Array.getElem?_eq_some_iff.1 b1).1
   omega
  omega
 have ho0 : ∀ k, 1 ≤ k → k < 2 → cur'[k]? = cur[k]? := fun k a b => hout k (by omega)
 have ho1 : ∀ k, 2 ≤ k → k < 4 → cur'[k]? = cur[k]? := fun k a b => hout k (by omega)
 have ho2 : ∀ k, 4 ≤ k → k < 5 → cur'[k]? = cur[k]? := fun k a b => hout k (by omega)
 have ho3 : ∀ k, 5 ≤ k → k < 6 → cur'[k]? = cur[k]? := fun k a b => hout k (by omega)
 have ho4 : ∀ k, 6 ≤ k → k < 7 → cur'[k]? = cur[k]? := fun k a b => hout k (by omega)
 have ho5 : ∀ k, 7 ≤ k → k < 18 → cur'[k]? = cur[k]? := fun k a b => hout k (by omega)
 have ho6 : ∀ k, 18 ≤ k → k < 19 → cur'[k]? = cur[k]? := fun k a b => hout k (by omega)
 have ho7 : ∀ k, 19 ≤ k → k < 36 → cur'[k]? = cur[k]? := fun k a b => hout k (by omega)
 have ho8 : ∀ k, 36 ≤ k → k < 37 → cur'[k]? = cur[k]? := fun k a b => hout k (by omega)
 have ho10 : ∀ k, 38 ≤ k → k < 39 → cur'[k]? = cur[k]? := fun k a b => hout k (by omega)
 have ho11 : ∀ k, 39 ≤ k → k < 40 → cur'[k]? = cur[k]? := fun k a b => hout k (by omega)
 have ho12 : ∀ k, 40 ≤ k → k < 45 → cur'[k]? = cur[k]? := fun k a b => hout k (by omega)
 have ho13 : ∀ k, 45 ≤ k → k < 46 → cur'[k]? = cur[k]? := fun k a b => hout k (by omega)
 have ho14 : ∀ k, 46 ≤ k → k < 47 → cur'[k]? = cur[k]? := fun k a b => hout k (by omega)
 exact ⟨rfl, N, cur', e1, e2, ⟨hs, (hout 0 (by omega)).trans h.kc, h.kl, h.bt.keep mNum ho0 (fun b hb => Or.inl hb) hkd, h.qr.keep mVrs ho1 (fun b hb => Or.inl hb) hkd, h.at_.keep mInt ho2 (fun b hb => Or.inl hb) hkd, h.fr.keep mInt ho3 (fun b hb => Or.inl hb) hkd, h.tq.keep mInt ho4 (fun b hb => Or.inl hb) hkd, h.bd.keep mBnd ho5 (fun b hb => Or.inl hb) hkd, h.ct.keep mTbls ho6 (fun b hb => Or.inl hb) hkd, h.fg.keep mFrg ho7 (fun b hb => Or.inl hb) hkd, h.nd.keep mInts ho8 (fun b hb => Or.inl hb) hkd, ⟨cs2, e3, e4.1, e5⟩, h.ls.keep mBoo ho10 (fun b hb => Or.inl hb) hkd, h.rw_.keep mRws ho11 (fun b hb => Or.inl hb) hkd, h.fh.keep mFh ho12 (fun b hb => Or.inl hb) hkd, h.fw.keep mRws ho13 (fun b hb => Or.inl hb) hkd, h.cm.keep mClms ho14 (fun b hb => Or.inl hb) hkd⟩, e6, e7⟩
theorem fld10 (t p : Nat) : FldC 10 t p := by
 intro K D W st mb cur x htb hnk hbm hDK h hp hl
 obtain ⟨cs, h1, h2, h3⟩ := h.ls
 refine (last_field t p K D W st mb cur cs _ htb hnk hbm hDK h1 h2 h3 hp (by omega)).mono ?_
 rintro e w' ⟨rfl, N, cur', cs2, e1, e2, e3, e4, e5, e6, e7⟩
 have hkd : Kept D W w' := e7.less hDK
 have hout : ∀ k, k < 38 ∨ 39 ≤ k → cur'[k]? = cur[k]? := fun k hk => e4.2 k (by omega)
 have hs : cur'.size = 47 := by
  have a1 := h.size
  have a2 := hout 47 (by omega)
  rw [Array.getElem?_eq_none (by omega : cur.size ≤ 47)] at a2
  have a3 : ¬ 47 < cur'.size := fun hh => by rw [Array.getElem?_eq_getElem hh] at a2; cases a2
  have a4 : ¬ cur'.size < 47 := fun hh => by
   have b1 := (hout 46 (by omega)).trans (Array.getElem?_eq_getElem (by omega : 46 < cur.size))
   have b2 := (Array.getElem?_eq_some_iff.1 b1).1
   omega
  omega
 have ho0 : ∀ k, 1 ≤ k → k < 2 → cur'[k]? = cur[k]? := fun k a b => hout k (by omega)
 have ho1 : ∀ k, 2 ≤ k → k < 4 → cur'[k]? = cur[k]? := fun k a b => hout k (by omega)
 have ho2 : ∀ k, 4 ≤ k → k < 5 → cur'[k]? = cur[k]? := fun k a b => hout k (by omega)
 have ho3 : ∀ k, 5 ≤ k → k < 6 → cur'[k]? = cur[k]? := fun k a b => hout k (by omega)
 have ho4 : ∀ k, 6 ≤ k → k < 7 → cur'[k]? = cur[k]? := fun k a b => hout k (by omega)
 have ho5 : ∀ k, 7 ≤ k → k < 18 → cur'[k]? = cur[k]? := fun k a b => hout k (by omega)
 have ho6 : ∀ k, 18 ≤ k → k < 19 → cur'[k]? = cur[k]? := fun k a b => hout k (by omega)
 have ho7 : ∀ k, 19 ≤ k → k < 36 → cur'[k]? = cur[k]? := fun k a b => hout k (by omega)
 have ho8 : ∀ k, 36 ≤ k → k < 37 → cur'[k]? = cur[k]? := fun k a b => hout k (by omega)
 have ho9 : ∀ k, 37 ≤ k → k < 38 → cur'[k]? = cur[k]? := fun k a b => hout k (by omega)
 have ho11 : ∀ k, 39 ≤ k → k < 40 → cur'[k]? = cur[k]? := fun k a b => hout k (by omega)
 have ho12 : ∀ k, 40 ≤ k → k < 45 → cur'[k]? = cur[k]? := fun k a b => hout k (by omega)
 have ho13 : ∀ k, 45 ≤ k → k < 46 → cur'[k]? = cur[k]? := fun k a b => hout k (by omega)
 have ho14 : ∀ k, 46 ≤ k → k < 47 → cur'[k]? = cur[k]? := fun k a b => hout k (by omega)
 exact ⟨rfl, N, cur', e1, e2, ⟨hs, (hout 0 (by omega)).trans h.kc, h.kl, h.bt.keep mNum ho0 (fun b hb => Or.inl hb) hkd, h.qr.keep mVrs ho1 (fun b hb => Or.inl hb) hkd, h.at_.keep mInt ho2 (fun b hb => Or.inl hb) hkd, h.fr.keep mInt ho3 (fun b hb => Or.inl hb) hkd, h.tq.keep mInt ho4 (fun b hb => Or.inl hb) hkd, h.bd.keep mBnd ho5 (fun b hb => Or.inl hb) hkd, h.ct.keep mTbls ho6 (fun b hb => Or.inl hb) hkd, h.fg.keep mFrg ho7 (fun b hb => Or.inl hb) hkd, h.nd.keep mInts ho8 (fun b hb => Or.inl hb) hkd, h.sq.keep mNum ho9 (fun b hb => Or.inl hb) hkd, ⟨cs2, e3, e4.1, e5⟩, h.rw_.keep mRws ho11 (fun b hb => Or.inl hb) hkd, h.fh.keep mFh ho12 (fun b hb => Or.inl hb) hkd, h.fw.keep mRws ho13 (fun b hb => Or.inl hb) hkd, h.cm.keep mClms ho14 (fun b hb => Or.inl hb) hkd⟩, e6, e7⟩
theorem fld11 (t p : Nat) : FldC 11 t p := by
 intro K D W st mb cur x htb hnk hbm hDK h hp hl
 obtain ⟨cs, h1, h2, h3⟩ := h.rw_
 refine (rows_field t p K D W st mb cur cs _ htb hnk hbm hDK h1 h2 h3 hp (by omega)).mono ?_
 rintro e w' ⟨rfl, N, cur', cs2, e1, e2, e3, e4, e5, e6, e7⟩
 have hkd : Kept D W w' := e7.less hDK
 have hout : ∀ k, k < 39 ∨ 40 ≤ k → cur'[k]? = cur[k]? := fun k hk => e4.2 k (by omega)
 have hs : cur'.size = 47 := by
  have a1 := h.size
  have a2 := hout 47 (by omega)
  rw [Array.getElem?_eq_none (by omega : cur.size ≤ 47)] at a2
  have a3 : ¬ 47 < cur'.size := fun hh => by rw [Array.getElem?_eq_getElem hh] at a2; cases a2
  have a4 : ¬ cur'.size < 47 := fun hh => by
   have b1 := (hout 46 (by omega)).trans (Array.getElem?_eq_getElem (by omega : 46 < cur.size))
   have b2 := (Array.getElem?_eq_some_iff.1 b1).1
   omega
  omega
 have ho0 : ∀ k, 1 ≤ k → k < 2 → cur'[k]? = cur[k]? := fun k a b => hout k (by omega)
 have ho1 : ∀ k, 2 ≤ k → k < 4 → cur'[k]? = cur[k]? := fun k a b => hout k (by omega)
 have ho2 : ∀ k, 4 ≤ k → k < 5 → cur'[k]? = cur[k]? := fun k a b => hout k (by omega)
 have ho3 : ∀ k, 5 ≤ k → k < 6 → cur'[k]? = cur[k]? := fun k a b => hout k (by omega)
 have ho4 : ∀ k, 6 ≤ k → k < 7 → cur'[k]? = cur[k]? := fun k a b => hout k (by omega)
 have ho5 : ∀ k, 7 ≤ k → k < 18 → cur'[k]? = cur[k]? := fun k a b => hout k (by omega)
 have ho6 : ∀ k, 18 ≤ k → k < 19 → cur'[k]? = cur[k]? := fun k a b => hout k (by omega)
 have ho7 : ∀ k, 19 ≤ k → k < 36 → cur'[k]? = cur[k]? := fun k a b => hout k (by omega)
 have ho8 : ∀ k, 36 ≤ k → k < 37 → cur'[k]? = cur[k]? := fun k a b => hout k (by omega)
 have ho9 : ∀ k, 37 ≤ k → k < 38 → cur'[k]? = cur[k]? := fun k a b => hout k (by omega)
 have ho10 : ∀ k, 38 ≤ k → k < 39 → cur'[k]? = cur[k]? := fun k a b => hout k (by omega)
 have ho12 : ∀ k, 40 ≤ k → k < 45 → cur'[k]? = cur[k]? := fun k a b => hout k (by omega)
 have ho13 : ∀ k, 45 ≤ k → k < 46 → cur'[k]? = cur[k]? := fun k a b => hout k (by omega)
 have ho14 : ∀ k, 46 ≤ k → k < 47 → cur'[k]? = cur[k]? := fun k a b => hout k (by omega)
 exact ⟨rfl, N, cur', e1, e2, ⟨hs, (hout 0 (by omega)).trans h.kc, h.kl, h.bt.keep mNum ho0 (fun b hb => Or.inl hb) hkd, h.qr.keep mVrs ho1 (fun b hb => Or.inl hb) hkd, h.at_.keep mInt ho2 (fun b hb => Or.inl hb) hkd, h.fr.keep mInt ho3 (fun b hb => Or.inl hb) hkd, h.tq.keep mInt ho4 (fun b hb => Or.inl hb) hkd, h.bd.keep mBnd ho5 (fun b hb => Or.inl hb) hkd, h.ct.keep mTbls ho6 (fun b hb => Or.inl hb) hkd, h.fg.keep mFrg ho7 (fun b hb => Or.inl hb) hkd, h.nd.keep mInts ho8 (fun b hb => Or.inl hb) hkd, h.sq.keep mNum ho9 (fun b hb => Or.inl hb) hkd, h.ls.keep mBoo ho10 (fun b hb => Or.inl hb) hkd, ⟨cs2, e3, e4.1, e5⟩, h.fh.keep mFh ho12 (fun b hb => Or.inl hb) hkd, h.fw.keep mRws ho13 (fun b hb => Or.inl hb) hkd, h.cm.keep mClms ho14 (fun b hb => Or.inl hb) hkd⟩, e6, e7⟩
theorem fld12 (t p : Nat) : FldC 12 t p := by
 intro K D W st mb cur x htb hnk hbm hDK h hp hl
 obtain ⟨cs, h1, h2, h3⟩ := h.fh
 refine (file_field t p K D W st mb cur cs _ htb hnk hbm hDK h1 h2 h3 hp (by omega)).mono ?_
 rintro e w' ⟨rfl, N, cur', cs2, e1, e2, e3, e4, e5, e6, e7⟩
 have hkd : Kept D W w' := e7.less hDK
 have hout : ∀ k, k < 40 ∨ 45 ≤ k → cur'[k]? = cur[k]? := fun k hk => e4.2 k (by omega)
 have hs : cur'.size = 47 := by
  have a1 := h.size
  have a2 := hout 47 (by omega)
  rw [Array.getElem?_eq_none (by omega : cur.size ≤ 47)] at a2
  have a3 : ¬ 47 < cur'.size := fun hh => by rw [Array.getElem?_eq_getElem hh] at a2; cases a2
  have a4 : ¬ cur'.size < 47 := fun hh => by
   have b1 := (hout 46 (by omega)).trans (Array.getElem?_eq_getElem (by omega : 46 < cur.size))
   have b2 := (Array.getElem?_eq_some_iff.1 b1).1
   omega
  omega
 have ho0 : ∀ k, 1 ≤ k → k < 2 → cur'[k]? = cur[k]? := fun k a b => hout k (by omega)
 have ho1 : ∀ k, 2 ≤ k → k < 4 → cur'[k]? = cur[k]? := fun k a b => hout k (by omega)
 have ho2 : ∀ k, 4 ≤ k → k < 5 → cur'[k]? = cur[k]? := fun k a b => hout k (by omega)
 have ho3 : ∀ k, 5 ≤ k → k < 6 → cur'[k]? = cur[k]? := fun k a b => hout k (by omega)
 have ho4 : ∀ k, 6 ≤ k → k < 7 → cur'[k]? = cur[k]? := fun k a b => hout k (by omega)
 have ho5 : ∀ k, 7 ≤ k → k < 18 → cur'[k]? = cur[k]? := fun k a b => hout k (by omega)
 have ho6 : ∀ k, 18 ≤ k → k < 19 → cur'[k]? = cur[k]? := fun k a b => hout k (by omega)
 have ho7 : ∀ k, 19 ≤ k → k < 36 → cur'[k]? = cur[k]? := fun k a b => hout k (by omega)
 have ho8 : ∀ k, 36 ≤ k → k < 37 → cur'[k]? = cur[k]? := fun k a b => hout k (by omega)
 have ho9 : ∀ k, 37 ≤ k → k < 38 → cur'[k]? = cur[k]? := fun k a b => hout k (by omega)
 have ho10 : ∀ k, 38 ≤ k → k < 39 → cur'[k]? = cur[k]? := fun k a b => hout k (by omega)
 have ho11 : ∀ k, 39 ≤ k → k < 40 → cur'[k]? = cur[k]? := fun k a b => hout k (by omega)
 have ho13 : ∀ k, 45 ≤ k → k < 46 → cur'[k]? = cur[k]? := fun k a b => hout k (by omega)
 have ho14 : ∀ k, 46 ≤ k → k < 47 → cur'[k]? = cur[k]? := fun k a b => hout k (by omega)
 exact ⟨rfl, N, cur', e1, e2, ⟨hs, (hout 0 (by omega)).trans h.kc, h.kl, h.bt.keep mNum ho0 (fun b hb => Or.inl hb) hkd, h.qr.keep mVrs ho1 (fun b hb => Or.inl hb) hkd, h.at_.keep mInt ho2 (fun b hb => Or.inl hb) hkd, h.fr.keep mInt ho3 (fun b hb => Or.inl hb) hkd, h.tq.keep mInt ho4 (fun b hb => Or.inl hb) hkd, h.bd.keep mBnd ho5 (fun b hb => Or.inl hb) hkd, h.ct.keep mTbls ho6 (fun b hb => Or.inl hb) hkd, h.fg.keep mFrg ho7 (fun b hb => Or.inl hb) hkd, h.nd.keep mInts ho8 (fun b hb => Or.inl hb) hkd, h.sq.keep mNum ho9 (fun b hb => Or.inl hb) hkd, h.ls.keep mBoo ho10 (fun b hb => Or.inl hb) hkd, h.rw_.keep mRws ho11 (fun b hb => Or.inl hb) hkd, ⟨cs2, e3, e4.1, e5⟩, h.fw.keep mRws ho13 (fun b hb => Or.inl hb) hkd, h.cm.keep mClms ho14 (fun b hb => Or.inl hb) hkd⟩, e6, e7⟩
theorem fld13 (t p : Nat) : FldC 13 t p := by
 intro K D W st mb cur x htb hnk hbm hDK h hp hl
 obtain ⟨cs, h1, h2, h3⟩ := h.fw
 refine (fileRows_field t p K D W st mb cur cs _ htb hnk hbm hDK h1 h2 h3 hp (by omega)).mono ?_
 rintro e w' ⟨rfl, N, cur', cs2, e1, e2, e3, e4, e5, e6, e7⟩
 have hkd : Kept D W w' := e7.less hDK
 have hout : ∀ k, k < 45 ∨ 46 ≤ k → cur'[k]? = cur[k]? := fun k hk => e4.2 k (by omega)
 have hs : cur'.size = 47 := by
  have a1 := h.size
  have a2 := hout 47 (by omega)
  rw [Array.getElem?_eq_none (by omega : cur.size ≤ 47)] at a2
  have a3 : ¬ 47 < cur'.size := fun hh => by rw [Array.getElem?_eq_getElem hh] at a2; cases a2
  have a4 : ¬ cur'.size < 47 := fun hh => by
   have b1 := (hout 46 (by omega)).trans (Array.getElem?_eq_getElem (by omega : 46 < cur.size))
   have b2 := (Array.getElem?_eq_some_iff.1 b1).1
   omega
  omega
 have ho0 : ∀ k, 1 ≤ k → k < 2 → cur'[k]? = cur[k]? := fun k a b => hout k (by omega)
 have ho1 : ∀ k, 2 ≤ k → k < 4 → cur'[k]? = cur[k]? := fun k a b => hout k (by omega)
 have ho2 : ∀ k, 4 ≤ k → k < 5 → cur'[k]? = cur[k]? := fun k a b => hout k (by omega)
 have ho3 : ∀ k, 5 ≤ k → k < 6 → cur'[k]? = cur[k]? := fun k a b => hout k (by omega)
 have ho4 : ∀ k, 6 ≤ k → k < 7 → cur'[k]? = cur[k]? := fun k a b => hout k (by omega)
 have ho5 : ∀ k, 7 ≤ k → k < 18 → cur'[k]? = cur[k]? := fun k a b => hout k (by omega)
 have ho6 : ∀ k, 18 ≤ k → k < 19 → cur'[k]? = cur[k]? := fun k a b => hout k (by omega)
 have ho7 : ∀ k, 19 ≤ k → k < 36 → cur'[k]? = cur[k]? := fun k a b => hout k (by omega)
 have ho8 : ∀ k, 36 ≤ k → k < 37 → cur'[k]? = cur[k]? := fun k a b => hout k (by omega)
 have ho9 : ∀ k, 37 ≤ k → k < 38 → cur'[k]? = cur[k]? := fun k a b => hout k (by omega)
 have ho10 : ∀ k, 38 ≤ k → k < 39 → cur'[k]? = cur[k]? := fun k a b => hout k (by omega)
 have ho11 : ∀ k, 39 ≤ k → k < 40 → cur'[k]? = cur[k]? := fun k a b => hout k (by omega)
 have ho12 : ∀ k, 40 ≤ k → k < 45 → cur'[k]? = cur[k]? := fun k a b => hout k (by omega)
 have ho14 : ∀ k, 46 ≤ k → k < 47 → cur'[k]? = cur[k]? := fun k a b => hout k (by omega)
 exact ⟨rfl, N, cur', e1, e2, ⟨hs, (hout 0 (by omega)).trans h.kc, h.kl, h.bt.keep mNum ho0 (fun b hb => Or.inl hb) hkd, h.qr.keep mVrs ho1 (fun b hb => Or.inl hb) hkd, h.at_.keep mInt ho2 (fun b hb => Or.inl hb) hkd, h.fr.keep mInt ho3 (fun b hb => Or.inl hb) hkd, h.tq.keep mInt ho4 (fun b hb => Or.inl hb) hkd, h.bd.keep mBnd ho5 (fun b hb => Or.inl hb) hkd, h.ct.keep mTbls ho6 (fun b hb => Or.inl hb) hkd, h.fg.keep mFrg ho7 (fun b hb => Or.inl hb) hkd, h.nd.keep mInts ho8 (fun b hb => Or.inl hb) hkd, h.sq.keep mNum ho9 (fun b hb => Or.inl hb) hkd, h.ls.keep mBoo ho10 (fun b hb => Or.inl hb) hkd, h.rw_.keep mRws ho11 (fun b hb => Or.inl hb) hkd, h.fh.keep mFh ho12 (fun b hb => Or.inl hb) hkd, ⟨cs2, e3, e4.1, e5⟩, h.cm.keep mClms ho14 (fun b hb => Or.inl hb) hkd⟩, e6, e7⟩
theorem fld14 (t p : Nat) : FldC 14 t p := by
 intro K D W st mb cur x htb hnk hbm hDK h hp hl
 obtain ⟨cs, h1, h2, h3⟩ := h.cm
 refine (claims_field t p K D W st mb cur cs _ htb hnk hbm hDK h1 h2 h3 hp (by omega)).mono ?_
 rintro e w' ⟨rfl, N, cur', cs2, e1, e2, e3, e4, e5, e6, e7⟩
 have hkd : Kept D W w' := e7.less hDK
 have hout : ∀ k, k < 46 ∨ 47 ≤ k → cur'[k]? = cur[k]? := fun k hk => e4.2 k (by omega)
 have hs : cur'.size = 47 := by
  have a1 := h.size
  have a2 := hout 47 (by omega)
  rw [Array.getElem?_eq_none (by omega : cur.size ≤ 47)] at a2
  have a3 : ¬ 47 < cur'.size := fun hh => by rw [Array.getElem?_eq_getElem hh] at a2; cases a2
  have a4 : ¬ cur'.size < 47 := fun hh => by
   have b1 := e4.1 0 _ (List.getElem?_eq_getElem (by omega : 0 < cs2.length))
   have b2 := (Array.getElem?_eq_some_iff.1 b1).1
   omega
  omega
 have ho0 : ∀ k, 1 ≤ k → k < 2 → cur'[k]? = cur[k]? := fun k a b => hout k (by omega)
 have ho1 : ∀ k, 2 ≤ k → k < 4 → cur'[k]? = cur[k]? := fun k a b => hout k (by omega)
 have ho2 : ∀ k, 4 ≤ k → k < 5 → cur'[k]? = cur[k]? := fun k a b => hout k (by omega)
 have ho3 : ∀ k, 5 ≤ k → k < 6 → cur'[k]? = cur[k]? := fun k a b => hout k (by omega)
 have ho4 : ∀ k, 6 ≤ k → k < 7 → cur'[k]? = cur[k]? := fun k a b => hout k (by omega)
 have ho5 : ∀ k, 7 ≤ k → k < 18 → cur'[k]? = cur[k]? := fun k a b => hout k (by omega)
 have ho6 : ∀ k, 18 ≤ k → k < 19 → cur'[k]? = cur[k]? := fun k a b => hout k (by omega)
 have ho7 : ∀ k, 19 ≤ k → k < 36 → cur'[k]? = cur[k]? := fun k a b => hout k (by omega)
 have ho8 : ∀ k, 36 ≤ k → k < 37 → cur'[k]? = cur[k]? := fun k a b => hout k (by omega)
 have ho9 : ∀ k, 37 ≤ k → k < 38 → cur'[k]? = cur[k]? := fun k a b => hout k (by omega)
 have ho10 : ∀ k, 38 ≤ k → k < 39 → cur'[k]? = cur[k]? := fun k a b => hout k (by omega)
 have ho11 : ∀ k, 39 ≤ k → k < 40 → cur'[k]? = cur[k]? := fun k a b => hout k (by omega)
 have ho12 : ∀ k, 40 ≤ k → k < 45 → cur'[k]? = cur[k]? := fun k a b => hout k (by omega)
 have ho13 : ∀ k, 45 ≤ k → k < 46 → cur'[k]? = cur[k]? := fun k a b => hout k (by omega)
 exact ⟨rfl, N, cur', e1, e2, ⟨hs, (hout 0 (by omega)).trans h.kc, h.kl, h.bt.keep mNum ho0 (fun b hb => Or.inl hb) hkd, h.qr.keep mVrs ho1 (fun b hb => Or.inl hb) hkd, h.at_.keep mInt ho2 (fun b hb => Or.inl hb) hkd, h.fr.keep mInt ho3 (fun b hb => Or.inl hb) hkd, h.tq.keep mInt ho4 (fun b hb => Or.inl hb) hkd, h.bd.keep mBnd ho5 (fun b hb => Or.inl hb) hkd, h.ct.keep mTbls ho6 (fun b hb => Or.inl hb) hkd, h.fg.keep mFrg ho7 (fun b hb => Or.inl hb) hkd, h.nd.keep mInts ho8 (fun b hb => Or.inl hb) hkd, h.sq.keep mNum ho9 (fun b hb => Or.inl hb) hkd, h.ls.keep mBoo ho10 (fun b hb => Or.inl hb) hkd, h.rw_.keep mRws ho11 (fun b hb => Or.inl hb) hkd, h.fh.keep mFh ho12 (fun b hb => Or.inl hb) hkd, h.fw.keep mRws ho13 (fun b hb => Or.inl hb) hkd, ⟨cs2, e3, e4.1, e5⟩⟩, e6, e7⟩
theorem fld_any (i t p : Nat) (hi : i < 15) : FldC i t p := by
 match i, hi with
 | 0, _ => exact fld0 t p
 | 1, _ => exact fld1 t p
 | 2, _ => exact fld2 t p
 | 3, _ => exact fld3 t p
 | 4, _ => exact fld4 t p
 | 5, _ => exact fld5 t p
 | 6, _ => exact fld6 t p
 | 7, _ => exact fld7 t p
 | 8, _ => exact fld8 t p
 | 9, _ => exact fld9 t p
 | 10, _ => exact fld10 t p
 | 11, _ => exact fld11 t p
 | 12, _ => exact fld12 t p
 | 13, _ => exact fld13 t p
 | 14, _ => exact fld14 t p
theorem eFld (i : Nat) (hi : i < 15) : ∀ args w, (callFunc (102 + i) args).run Tryz.prog w = .ok (.enter (102 + i) args) w := by
 match i, hi with
 | 0, _ => exact enters_of Tryz.func102 (by kernel_rfl) rfl
 | 1, _ => exact enters_of Tryz.func103 (by kernel_rfl) rfl
 | 2, _ => exact enters_of Tryz.func104 (by kernel_rfl) rfl
 | 3, _ => exact enters_of Tryz.func105 (by kernel_rfl) rfl
 | 4, _ => exact enters_of Tryz.func106 (by kernel_rfl) rfl
 | 5, _ => exact enters_of Tryz.func107 (by kernel_rfl) rfl
 | 6, _ => exact enters_of Tryz.func108 (by kernel_rfl) rfl
 | 7, _ => exact enters_of Tryz.func109 (by kernel_rfl) rfl
 | 8, _ => exact enters_of Tryz.func110 (by kernel_rfl) rfl
 | 9, _ => exact enters_of Tryz.func111 (by kernel_rfl) rfl
 | 10, _ => exact enters_of Tryz.func112 (by kernel_rfl) rfl
 | 11, _ => exact enters_of Tryz.func113 (by kernel_rfl) rfl
 | 12, _ => exact enters_of Tryz.func114 (by kernel_rfl) rfl
 | 13, _ => exact enters_of Tryz.func115 (by kernel_rfl) rfl
 | 14, _ => exact enters_of Tryz.func116 (by kernel_rfl) rfl
theorem grows_fh : Grows fhP 4157 := fun st x => by
 have h1 := grows_txt st x.t
 have h2 := grows_vrs (txtP st x.t).2 x.v
 have h3 := grows_long (vrsP (txtP st x.t).2 x.v).2 x.s
 have h4 := grows_cls (longP (vrsP (txtP st x.t).2 x.v).2 x.s).2 x.c
 simp only [fhP]
 omega
theorem grows_bnd : Grows bndP 10500 := fun st x => by
 unfold bndP
 have h1 := grows_txt st x.t
 obtain ⟨a1, e1⟩ : ∃ q, txtP st x.t = q := ⟨_, rfl⟩
 rw [e1] at h1
 have h2 := grows_txt a1.2 x.j
 obtain ⟨a2, e2⟩ : ∃ q, txtP a1.2 x.j = q := ⟨_, rfl⟩
 rw [e2] at h2
 have h3 := grows_long a2.2 x.w
 obtain ⟨a3, e3⟩ : ∃ q, longP a2.2 x.w = q := ⟨_, rfl⟩
 rw [e3] at h3
 have h4 := grows_long a3.2 x.l
 obtain ⟨a4, e4⟩ : ∃ q, longP a3.2 x.l = q := ⟨_, rfl⟩
 rw [e4] at h4
 have h5 := grows_long a4.2 x.r
 obtain ⟨a5, e5⟩ : ∃ q, longP a4.2 x.r = q := ⟨_, rfl⟩
 rw [e5] at h5
 have h6 := grows_stps a5.2 x.wh
 obtain ⟨a6, e6⟩ : ∃ q, stpsP a5.2 x.wh = q := ⟨_, rfl⟩
 rw [e6] at h6
 have h7 := grows_ints a6.2 x.g
 obtain ⟨a7, e7⟩ : ∃ q, intsP a6.2 x.g = q := ⟨_, rfl⟩
 rw [e7] at h7
 have h8 := (grows_list 64 itm0 grows_itm) a7.2 x.i
 obtain ⟨a8, e8⟩ : ∃ q, listP 64 itmP itm0 a7.2 x.i = q := ⟨_, rfl⟩
 rw [e8] at h8
 have h9 := grows_flag a8.2 x.gr
 obtain ⟨a9, e9⟩ : ∃ q, flagP a8.2 x.gr = q := ⟨_, rfl⟩
 rw [e9] at h9
 have h10 := (grows_list 64 s0 grows_txt) a9.2 x.nm
 obtain ⟨b1, f1⟩ : ∃ q, listP 64 txtP s0 a9.2 x.nm = q := ⟨_, rfl⟩
 rw [f1] at h10
 have h11 := (grows_list 64 0 grows_oct) b1.2 x.kd
 obtain ⟨b2, f2⟩ : ∃ q, listP 64 octP 0 b1.2 x.kd = q := ⟨_, rfl⟩
 rw [f2] at h11
 simp only [e1, e2, e3, e4, e5, e6, e7, e8, e9, f1, f2]
 omega
theorem fld_len (i : Nat) (st : St) (x : Mg) : (fldP i st x).2.len ≤ max st.len 65536 + 11000 := by
 match i with
 | 0 => have h := grows_num st x.bt; simp only [fldP]; omega
 | 1 => have h := grows_vrs st (⟨x.st.qb, x.st.qn⟩ : Vrs); simp only [fldP]; omega
 | 2 => have h := grows_long st x.st.at_; simp only [fldP]; omega
 | 3 => have h := grows_long st x.st.fr; simp only [fldP]; omega
 | 4 => have h := grows_long st x.st.to; simp only [fldP]; omega
 | 5 => have h := grows_bnd st x.bd; simp only [fldP]; omega
 | 6 => have h := (grows_list 64 tbl0 grows_tbl) st x.ct; simp only [fldP]; omega
 | 7 => have h := grows_frg st x.fg; simp only [fldP]; omega
 | 8 => have h := grows_ints st x.nd; simp only [fldP]; omega
 | 9 => have h := grows_num st x.sq; simp only [fldP]; omega
 | 10 => have h := grows_flag st x.ls; simp only [fldP]; omega
 | 11 => have h := grows_rows st x.rw; simp only [fldP]; omega
 | 12 => have h := grows_fh st (⟨x.fl.t, x.fl.v, x.fl.s, x.fl.c⟩ : Fh); simp only [fldP]; omega
 | 13 => have h := grows_rows st x.fl.r; simp only [fldP]; omega
 | 14 => have h := (grows_list 64 clm0 grows_clm) st x.cm; simp only [fldP]; omega
 | i + 15 => simp only [fldP]; omega
end Go.Proofs.YtajomnfeicfdlaaGreatDoor

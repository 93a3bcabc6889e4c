/- The parts of a message, and what becomes of each one at a port. -/
import Derived.Test.YtajomnfeicfdlaaGreatDoorWa
import Derived.Test.YtajomnfeicfdlaaGreatDoorUtf
namespace Go.Proofs.YtajomnfeicfdlaaGreatDoor
set_option linter.unusedVariables false
structure Stp where
 k : Nat
 t : ByteArray
 n : Int
structure Itm where
 g : Nat
 e : List Stp
structure Cl where
 n : ByteArray
 k : Nat
structure Tbl where
 n : ByteArray
 c : List Cl
 r : List (List Val)
structure Vrs where
 b : Nat
 l : Nat
structure Sr where
 k : Nat
 t : ByteArray
 v : Vrs
 s : Int
 f : List Int
structure Frg where
 id : Int
 nd : Int
 l : Sr
 r : Sr
 raw : Bool
 by_ : Int
 to : List Int
structure Bnd where
 t : ByteArray
 j : ByteArray
 w : Int
 l : Int
 r : Int
 wh : List Stp
 g : List Int
 i : List Itm
 gr : Bool
 nm : List ByteArray
 kd : List Nat
structure Fl where
 t : ByteArray
 v : Vrs
 s : Int
 c : List Cl
 r : List (List Val)
structure Clm where
 t : ByteArray
 c : List Cl
 v : Vrs
 o : List (List Int)
structure Strm where
 qb : Nat
 qn : Nat
 at_ : Int
 fr : Int
 to : Int
structure Mg where
 k : Nat
 bt : Nat
 st : Strm
 bd : Bnd
 ct : List Tbl
 fg : Frg
 nd : List Int
 sq : Nat
 ls : Bool
 rw : List (List Val)
 fl : Fl
 cm : List Clm
def s0 : ByteArray := ⟨#[]⟩
def val0 : Val := ⟨0, false, 0, s0⟩
def stp0 : Stp := ⟨0, s0, 0⟩
def itm0 : Itm := ⟨0, []⟩
def cl0 : Cl := ⟨s0, 0⟩
def tbl0 : Tbl := ⟨s0, [], []⟩
def vrs0 : Vrs := ⟨0, 0⟩
def sr0 : Sr := ⟨0, s0, vrs0, 0, []⟩
def frg0 : Frg := ⟨0, 0, sr0, sr0, false, 0, []⟩
def bnd0 : Bnd := ⟨s0, s0, 0, 0, 0, [], [], [], false, [], []⟩
def fl0 : Fl := ⟨s0, vrs0, 0, [], []⟩
def clm0 : Clm := ⟨s0, [], vrs0, []⟩
def mg0 : Mg := ⟨0, 0, ⟨0, 0, 0, 0, 0⟩, bnd0, [], frg0, [], 0, false, [], fl0, []⟩
def valP (st : St) (v : Val) : Val × St :=
 let r := octP st v.k.toNat
 let q : Val × St :=
  if r.1 = 1 then let f := flagP r.2 v.b; (⟨(r.1 : Int), f.1, v.n, v.s⟩, f.2)
  else if r.1 = 2 then let f := longP r.2 v.n; (⟨(r.1 : Int), v.b, f.1, v.s⟩, f.2)
  else if r.1 = 3 then let f := txtP r.2 v.s; (⟨(r.1 : Int), v.b, v.n, f.1⟩, f.2)
  else (⟨(r.1 : Int), v.b, v.n, v.s⟩, r.2)
 (q.1, if chkV q.1 = 0 then q.2 else failP q.2)
def rowP : St → List Val → List Val × St := listP 64 valP val0
def rowsP : St → List (List Val) → List (List Val) × St := listP 512 rowP []
def stpP (st : St) (s : Stp) : Stp × St :=
 let a := octP st s.k
 let b := txtP a.2 s.t
 let c := longP b.2 s.n
 (⟨a.1, b.1, c.1⟩, c.2)
def stpsP : St → List Stp → List Stp × St := listP 64 stpP stp0
def itmP (st : St) (x : Itm) : Itm × St :=
 let a := octP st x.g
 let b := stpsP a.2 x.e
 (⟨a.1, b.1⟩, b.2)
def intsP : St → List Int → List Int × St := listP 64 longP 0
def vrsP (st : St) (v : Vrs) : Vrs × St :=
 let a := numP st v.b
 let b := numP a.2 v.l
 (⟨a.1, b.1⟩, b.2)
def srP (st : St) (s : Sr) : Sr × St :=
 let a := octP st s.k
 let b := txtP a.2 s.t
 let c := vrsP b.2 s.v
 let d := longP c.2 s.s
 let e := intsP d.2 s.f
 (⟨a.1, b.1, c.1, d.1, e.1⟩, e.2)
def clP (st : St) (c : Cl) : Cl × St :=
 let a := txtP st c.n
 let b := octP a.2 c.k
 (⟨a.1, b.1⟩, b.2)
def clsP : St → List Cl → List Cl × St := listP 64 clP cl0
def tblP (st : St) (t : Tbl) : Tbl × St :=
 let a := txtP st t.n
 let b := clsP a.2 t.c
 (⟨a.1, b.1, t.r⟩, if 0 < t.r.length then failP b.2 else b.2)
def clmP (st : St) (c : Clm) : Clm × St :=
 let a := txtP st c.t
 let b := clsP a.2 c.c
 let d := vrsP b.2 c.v
 let e := listP 64 intsP [] d.2 c.o
 (⟨a.1, b.1, d.1, e.1⟩, e.2)
def bndP (st : St) (b : Bnd) : Bnd × St :=
 let a1 := txtP st b.t
 let a2 := txtP a1.2 b.j
 let a3 := longP a2.2 b.w
 let a4 := longP a3.2 b.l
 let a5 := longP a4.2 b.r
 let a6 := stpsP a5.2 b.wh
 let a7 := intsP a6.2 b.g
 let a8 := listP 64 itmP itm0 a7.2 b.i
 let a9 := flagP a8.2 b.gr
 let b1 := listP 64 txtP s0 a9.2 b.nm
 let b2 := listP 64 octP 0 b1.2 b.kd
 (⟨a1.1, a2.1, a3.1, a4.1, a5.1, a6.1, a7.1, a8.1, a9.1, b1.1, b2.1⟩, b2.2)
def frgP (st : St) (f : Frg) : Frg × St :=
 let a1 := longP st f.id
 let a2 := longP a1.2 f.nd
 let a3 := srP a2.2 f.l
 let a4 := srP a3.2 f.r
 let a5 := flagP a4.2 f.raw
 let a6 := longP a5.2 f.by_
 let a7 := intsP a6.2 f.to
 (⟨a1.1, a2.1, a3.1, a4.1, a5.1, a6.1, a7.1⟩, a7.2)
/-- A step makes no text longer than that. -/
def Grows {α : Type} (f : St → α → α × St) (c : Nat) : Prop := ∀ st x, (f st x).2.len ≤ max st.len 65536 + c
theorem grows_mono {α : Type} {f : St → α → α × St} {c d : Nat} (h : Grows f c) (hd : c ≤ d) : Grows f d := fun st x => by have := h st x; omega
theorem grows_oct : Grows octP 1 := fun st x => by have := octP_len st x; omega
theorem grows_num : Grows numP 10 := fun st x => by have := numP_len st x; omega
theorem grows_txt : Grows txtP 2058 := fun st x => by have := txtP_len st x; omega
theorem grows_long : Grows longP 10 := fun st x => by have := numP_len st (zig x); simp only [longP]; omega
theorem grows_flag : Grows flagP 1 := fun st x => by
 have h1 := octP_len st (if x then 1 else 0)
 simp only [flagP]
 generalize octP st (if x then 1 else 0) = r at *
 split
 ·rw [failP_len]; omega
 ·omega
theorem each_len {α : Type} {part : St → α → α × St} {c : Nat} (h : Grows part c) : ∀ l st, (eachP part st l).len ≤ max st.len (65536 + c)
 | [], st => by simp only [eachP]; omega
 | x :: xs, st => by
  simp only [eachP]
  split
  ·omega
  ·rename_i hf
   have h1 := failedP_len (by simpa using hf)
   have h2 := h st x
   have h3 := each_len h xs (part st x).2
   omega
theorem taken_len {α : Type} {part : St → α → α × St} {c : Nat} (h : Grows part c) (d : α) : ∀ n st acc, (takenP part d n st acc).2.len ≤ max st.len (65536 + c)
 | 0, st, acc => by simp only [takenP]; omega
 | n + 1, st, acc => by
  simp only [takenP]
  split
  ·simp only; omega
  ·rename_i hf
   have h1 := failedP_len (by simpa using hf)
   have h2 := h st d
   have h3 := taken_len h d n (part st d).2 (acc ++ [(part st d).1])
   omega
theorem grows_list {α : Type} {part : St → α → α × St} {c : Nat} (most : Nat) (d : α) (h : Grows part c) : Grows (listP most part d) (c + 10) := fun st l => by
 have h1 := numP_len st l.length
 have h2 : (if most < (numP st l.length).1 then failP (numP st l.length).2 else (numP st l.length).2).len ≤ st.len + 10 := by
  split
  ·rw [failP_len]; omega
  ·omega
 simp only [listP]
 generalize (if most < (numP st l.length).1 then failP (numP st l.length).2 else (numP st l.length).2) = st2 at *
 split
 ·have := taken_len h d (numP st l.length).1 st2 []
  omega
 ·have := each_len h l st2
  simp only
  omega
theorem grows_val : Grows valP 2059 := fun st x => by
 have h1 := octP_len st x.k.toNat
 have h2 := numP_len (octP st x.k.toNat).2 (zig x.n)
 have h3 := txtP_len (octP st x.k.toNat).2 x.s
 have h4 := grows_flag (octP st x.k.toNat).2 x.b
 have h5 : ∀ (q : Val × St), q.2.len ≤ max st.len 65536 + 2059 → (if chkV q.1 = 0 then q.2 else failP q.2).len ≤ max st.len 65536 + 2059 := fun q hq => by
  split
  ·exact hq
  ·rw [failP_len]; exact hq
 simp only [valP]
 apply h5
 split
 ·simp only; omega
 ·split
  ·simp only [longP]; omega
  ·split <;> simp only <;> omega
theorem grows_row : Grows rowP 2069 := grows_list _ _ grows_val
theorem grows_rows : Grows rowsP 2079 := grows_list _ _ grows_row
theorem grows_stp : Grows stpP 2069 := fun st x => by
 have h1 := grows_oct st x.k
 have h2 := grows_txt (octP st x.k).2 x.t
 have h3 := grows_long (txtP (octP st x.k).2 x.t).2 x.n
 simp only [stpP]
 omega
theorem grows_stps : Grows stpsP 2079 := grows_list _ _ grows_stp
theorem grows_itm : Grows itmP 2080 := fun st x => by
 have h1 := grows_oct st x.g
 have h2 := grows_stps (octP st x.g).2 x.e
 simp only [itmP]
 omega
theorem grows_ints : Grows intsP 20 := grows_list _ _ grows_long
theorem grows_vrs : Grows vrsP 20 := fun st x => by
 have h1 := grows_num st x.b
 have h2 := grows_num (numP st x.b).2 x.l
 simp only [vrsP]
 omega
theorem grows_sr : Grows srP 2109 := fun st x => by
 have h1 := grows_oct st x.k
 have h2 := grows_txt (octP st x.k).2 x.t
 have h3 := grows_vrs (txtP (octP st x.k).2 x.t).2 x.v
 have h4 := grows_long (vrsP (txtP (octP st x.k).2 x.t).2 x.v).2 x.s
 have h5 := grows_ints (longP (vrsP (txtP (octP st x.k).2 x.t).2 x.v).2 x.s).2 x.f
 simp only [srP]
 omega
theorem grows_cl : Grows clP 2059 := fun st x => by
 have h1 := grows_txt st x.n
 have h2 := grows_oct (txtP st x.n).2 x.k
 simp only [clP]
 omega
theorem grows_cls : Grows clsP 2069 := grows_list _ _ grows_cl
theorem grows_tbl : Grows tblP 4127 := fun st x => by
 have h1 := grows_txt st x.n
 have h2 := grows_cls (txtP st x.n).2 x.c
 simp only [tblP]
 split
 ·rw [failP_len]; omega
 ·omega
theorem grows_clm : Grows clmP 4177 := fun st x => by
 have h1 := grows_txt st x.t
 have h2 := grows_cls (txtP st x.t).2 x.c
 have h3 := grows_vrs (clsP (txtP st x.t).2 x.c).2 x.v
 have h4 := (grows_list 64 [] grows_ints) (vrsP (clsP (txtP st x.t).2 x.c).2 x.v).2 x.o
 simp only [clmP]
 omega
end Go.Proofs.YtajomnfeicfdlaaGreatDoor

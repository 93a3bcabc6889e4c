/- Lists and their parts in memory. -/
import Derived.Test.YtajomnfeicfdlaaGreatDoorWiWj
import Derived.Test.YtajomnfeicfdlaaGreatDoorWb
import Derived.Test.YtajomnfeicfdlaaGreatDoorChkB
namespace Go.Proofs.YtajomnfeicfdlaaGreatDoor
open Go.Shelf Go.RowKit Go.Lib
set_option linter.unusedVariables false
set_option linter.unusedSimpArgs false
/-- What cells are, in a world of which K is kept. -/
abbrev Rel (α : Type) := (Nat → Prop) → World → List Value → α → Prop
/-- .. which stays so as long as K does. -/
def Mono {α : Type} (rel : Rel α) : Prop := ∀ (K K2 : Nat → Prop) (W W' : World) cs x, (∀ b, K b → K2 b) → Kept K W W' → rel K W cs x → rel K2 W' cs x
/-- A list of parts. -/
def ListIs {α : Type} (rel : Rel α) (size bytes : Nat) (K : Nat → Prop) (W : World) (v : Value) (xs : List α) : Prop :=
 ∃ q c, v = .slice q xs.length c ∧ xs.length * bytes ≤ 140737488355328 ∧ (0 < xs.length → ∃ b o, q = some ⟨b, o, none⟩ ∧ K b ∧
  ∀ j (h : j < xs.length), ∃ cs, cs.length = size ∧ (∀ i u, cs[i]? = some u → W.cell? ⟨b, o + j * size + i, none⟩ = some u) ∧ rel K W cs xs[j])
theorem ListIs.mono {α : Type} {rel : Rel α} (hm : Mono rel) {size bytes : Nat} {K K2 : Nat → Prop} {W W' : World} {v : Value} {xs : List α} (hk : ∀ b, K b → K2 b) (hW : Kept K W W') (h : ListIs rel size bytes K W v xs) : ListIs rel size bytes K2 W' v xs := by
 obtain ⟨q, c, rfl, hb, h⟩ := h
 refine ⟨q, c, rfl, hb, fun h0 => ?_⟩
 obtain ⟨b, o, rfl, hK, h⟩ := h h0
 refine ⟨b, o, rfl, hk b hK, fun j hj => ?_⟩
 obtain ⟨cs, h1, h2, h3⟩ := h j hj
 exact ⟨cs, h1, fun i u hi => by rw [hW.cell (p := ⟨b, _, none⟩) hK]; exact h2 i u hi, hm _ _ _ _ _ _ hk hW h3⟩
theorem ListIs.len {α : Type} {rel : Rel α} {size bytes : Nat} {K : Nat → Prop} {W : World} {v : Value} {xs : List α} (h : ListIs rel size bytes K W v xs) : xs.length * bytes ≤ 140737488355328 := by
 obtain ⟨q, c, rfl, hb, h⟩ := h
 exact hb
theorem ListIs.nil {α : Type} (rel : Rel α) (size bytes : Nat) (K : Nat → Prop) (W : World) : ListIs rel size bytes K W (.slice none 0 0) ([] : List α) :=
 ⟨none, 0, rfl, by simp, fun h => by simp at h⟩
def small (s : ByteArray) : Prop := s.size ≤ 140737488355328
def rInt : Rel Int := fun K W cs x => cs = [.int .i64 x] ∧ I64 x
def rTxt : Rel ByteArray := fun K W cs x => cs = [.string x] ∧ small x
def rKnd : Rel Nat := fun K W cs x => cs = [.int .u8 (x : Int)] ∧ x < 256
def rVal : Rel Val := fun K W cs x => cs = [.int .u8 x.k, .bool x.b, .int .i64 x.n, .string x.s] ∧ (0 ≤ x.k ∧ x.k < 256) ∧ I64 x.n ∧ small x.s
def rRow : Rel (List Val) := fun K W cs x => ∃ v, cs = [v] ∧ ListIs rVal 4 32 K W v x
def rStp : Rel Stp := fun K W cs x => cs = [.int .u8 (x.k : Int), .string x.t, .int .i64 x.n] ∧ x.k < 256 ∧ small x.t ∧ I64 x.n
def rItm : Rel Itm := fun K W cs x => ∃ v, cs = [.int .u8 (x.g : Int), v] ∧ x.g < 256 ∧ ListIs rStp 3 32 K W v x.e
def rCl : Rel Cl := fun K W cs x => cs = [.string x.n, .int .u8 (x.k : Int)] ∧ small x.n ∧ x.k < 256
def rTbl : Rel Tbl := fun K W cs x => ∃ v u, cs = [.string x.n, v, u] ∧ small x.n ∧ ListIs rCl 2 24 K W v x.c ∧ ListIs rRow 1 24 K W u x.r
def okV (x : Vrs) : Prop := x.b < 18446744073709551616 ∧ x.l < 18446744073709551616
def rInts : Rel (List Int) := fun K W cs x => ∃ v, cs = [v] ∧ ListIs rInt 1 8 K W v x
def rSr : Rel Sr := fun K W cs x => ∃ v, cs = [.int .u8 (x.k : Int), .string x.t, .int .u64 (x.v.b : Int), .int .u64 (x.v.l : Int), .int .i64 x.s, v] ∧ x.k < 256 ∧ small x.t ∧ okV x.v ∧ I64 x.s ∧ ListIs rInt 1 8 K W v x.f
def rClm : Rel Clm := fun K W cs x => ∃ v u, cs = [.string x.t, v, .int .u64 (x.v.b : Int), .int .u64 (x.v.l : Int), u] ∧ small x.t ∧ ListIs rCl 2 24 K W v x.c ∧ okV x.v ∧ ListIs rInts 1 24 K W u x.o
theorem mInt : Mono rInt := fun K K2 W W' cs x hk hW h => h
theorem mTxt : Mono rTxt := fun K K2 W W' cs x hk hW h => h
theorem mKnd : Mono rKnd := fun K K2 W W' cs x hk hW h => h
theorem mVal : Mono rVal := fun K K2 W W' cs x hk hW h => h
theorem mStp : Mono rStp := fun K K2 W W' cs x hk hW h => h
theorem mCl : Mono rCl := fun K K2 W W' cs x hk hW h => h
theorem mRow : Mono rRow := fun K K2 W W' cs x hk hW ⟨v, h1, h2⟩ => ⟨v, h1, h2.mono mVal hk hW⟩
theorem mInts : Mono rInts := fun K K2 W W' cs x hk hW ⟨v, h1, h2⟩ => ⟨v, h1, h2.mono mInt hk hW⟩
theorem mItm : Mono rItm := fun K K2 W W' cs x hk hW ⟨v, h1, h2, h3⟩ => ⟨v, h1, h2, h3.mono mStp hk hW⟩
theorem mTbl : Mono rTbl := fun K K2 W W' cs x hk hW ⟨v, u, h1, h2, h3, h4⟩ => ⟨v, u, h1, h2, h3.mono mCl hk hW, h4.mono mRow hk hW⟩
theorem mSr : Mono rSr := fun K K2 W W' cs x hk hW ⟨v, h1, h2, h3, h4, h5, h6⟩ => ⟨v, h1, h2, h3, h4, h5, h6.mono mInt hk hW⟩
theorem mClm : Mono rClm := fun K K2 W W' cs x hk hW ⟨v, u, h1, h2, h3, h4, h5⟩ => ⟨v, u, h1, h2, h3.mono mCl hk hW, h4, h5.mono mInts hk hW⟩
/-- A part as a value. -/
def asV : List Value → Value
 | [v] => v
 | cs => .agg cs.toArray
/-- Unicode's tables are there, and kept. -/
def Tabs (K : Nat → Prop) (W : World) : Prop := K 0 ∧ K 1 ∧ Lib.Utf8Tabs 0 1 W
theorem Tabs.mono {K L : Nat → Prop} {W W' : World} (h : Tabs K W) (hk : ∀ b, K b → L b) (hW : Kept K W W') : Tabs L W' := by
 refine ⟨hk _ h.1, hk _ h.2.1, fun c hc => ?_, fun i hi => ?_⟩
 ·rw [hW.cell (p := ⟨0, _, none⟩) h.1]; exact h.2.2.1 c hc
 ·rw [hW.cell (p := ⟨1, _, none⟩) h.2.1, hW.cell (p := ⟨1, _, none⟩) h.2.1]; exact h.2.2.2 i hi
/-- What a function does to a part, at any port of a type: K is kept, D is where the part's own lists lie; what is new lies in new blocks. -/
def PartC {α : Type} (rel : Rel α) (part : St → α → α × St) (c t p F : Nat) (rv : Array Value) : Prop :=
 ∀ (K D : Nat → Prop) (W : World) (st : St) (cs : List Value) (x : α), Tabs K W → PortIs K W t p st → (∀ b, D b → K b) → rel D W cs x → max st.len 65536 + c ≤ 990000 →
  Calls Tryz.prog F (rv ++ #[asV cs]) W fun e w' => ∃ (N : Nat → Prop) (cs' : List Value), e = .returned (asV cs') ∧ (∀ b, N b → W.heap.size ≤ b) ∧ PortIs (fun b => K b ∨ N b) w' t p (part st x).2 ∧ rel (fun b => D b ∨ N b) w' cs' (part st x).1 ∧ Kept K W w'
/-- .. and to a list. -/
def ListC {α : Type} (rel : Rel α) (size bytes : Nat) (most : Nat) (part : St → α → α × St) (d : α) (c t p L : Nat) (pf : Value) : Prop :=
 ∀ (K D : Nat → Prop) (W : World) (st : St) (v : Value) (xs : List α), Tabs K W → PortIs K W t p st → (∀ b, D b → K b) → ListIs rel size bytes D W v xs → max st.len 65536 + (c + 10) ≤ 990000 →
  Calls Tryz.prog L #[wk t p, v, .int .u64 (most : Int), pf] W fun e w' => ∃ (N : Nat → Prop) (v' : Value), e = .returned v' ∧ (∀ b, N b → W.heap.size ≤ b) ∧ PortIs (fun b => K b ∨ N b) w' t p (listP most part d st xs).2 ∧ ListIs rel size bytes (fun b => D b ∨ N b) w' v' (listP most part d st xs).1 ∧ Kept K W w'
theorem PortIs.rd74 {K : Nat → Prop} {W : World} {t p : Nat} {st : St} (h : PortIs K W t p st) : st.reads = true ↔ t = 212 := by
 have := h.is
 cases st using St.three with
 | wr b f => simp [St.reads, this.1]
 | bl f => simp [St.reads, this.1]
 | rd r f => exact this.2.elim
theorem PortIs.ne {K : Nat → Prop} {W : World} {t p : Nat} {st : St} (h : PortIs K W t p st) : ¬ t = 212 := by
 have := h.is
 cases st using St.three with
 | wr b f => have := this.1; omega
 | bl f => have := this.1; omega
 | rd r f => exact this.2.elim
end Go.Proofs.YtajomnfeicfdlaaGreatDoor
/- Lists that are made part by part. -/
namespace Go.Proofs.YtajomnfeicfdlaaGreatDoor
open Go.Shelf Go.RowKit Go.Lib
set_option linter.unusedVariables false
set_option linter.unusedSimpArgs false
theorem hao (w : World) (o : Obj) (k : Nat) (h : k < w.heap.size) : (w.alloc o).heap[k]? = w.heap[k]? := Go.heap_alloc_old w o h
end Go.Proofs.YtajomnfeicfdlaaGreatDoor

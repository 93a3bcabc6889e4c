/- Lists and their parts in memory. -/
import Derived.Test.YtgdjhkcllpkiiaaGreatDoorWiWj
import Derived.Test.YtgdjhkcllpkiiaaGreatDoorWb
import Derived.Test.YtgdjhkcllpkiiaaGreatDoorChkB
namespace Go.Proofs.YtgdjhkcllpkiiaaGreatDoor
open Go.Shelf Go.RowKit Go.Lib
set_option linter.unusedVariables false
set_option linter.unusedSimpArgs false
/-- What cells are, in a world of which K is kept. -/
abbrev Rel (α : Type) := (Nat → Prop) → World → List Value → α → Prop
/-- .. which stays so as long as K does. -/
def Mono {α : Type} (rel : Rel α) : Prop := ∀ (K K2 : Nat → Prop) (W W' : World) cs x, (∀ b, K b → K2 b) → Kept K W W' → rel K W cs x → rel K2 W' cs x
/-- A list of parts. -/
def ListIs {α : Type} (rel : Rel α) (size bytes : Nat) (K : Nat → Prop) (W : World) (v : Value) (xs : List α) : Prop :=
  ∃ q c, v = .slice q xs.length c ∧ xs.length * bytes ≤ 140737488355328 ∧ (0 < xs.length → ∃ b o, q = some ⟨b, o, none⟩ ∧ K b ∧
    ∀ j (h : j < xs.length), ∃ cs, cs.length = size ∧ (∀ i u, cs[i]? = some u → W.cell? ⟨b, o + j * size + i, none⟩ = some u) ∧ rel K W cs xs[j])
theorem ListIs.mono {α : Type} {rel : Rel α} (hm : Mono rel) {size bytes : Nat} {K K2 : Nat → Prop} {W W' : World} {v : Value} {xs : List α} (hk : ∀ b, K b → K2 b) (hW : Kept K W W') (h : ListIs rel size bytes K W v xs) : ListIs rel size bytes K2 W' v xs := by
  obtain ⟨q, c, rfl, hb, h⟩ := h
  refine ⟨q, c, rfl, hb, fun h0 => ?_⟩
  obtain ⟨b, o, rfl, hK, h⟩ := h h0
  refine ⟨b, o, rfl, hk b hK, fun j hj => ?_⟩
  obtain ⟨cs, h1, h2, h3⟩ := h j hj
  exact ⟨cs, h1, fun i u hi => by rw [hW.cell (p := ⟨b, _, none⟩) hK]; exact h2 i u hi, hm _ _ _ _ _ _ hk hW h3⟩
theorem ListIs.len {α : Type} {rel : Rel α} {size bytes : Nat} {K : Nat → Prop} {W : World} {v : Value} {xs : List α} (h : ListIs rel size bytes K W v xs) : xs.length * bytes ≤ 140737488355328 := by
  obtain ⟨q, c, rfl, hb, h⟩ := h
  exact hb
theorem ListIs.nil {α : Type} (rel : Rel α) (size bytes : Nat) (K : Nat → Prop) (W : World) : ListIs rel size bytes K W (.slice none 0 0) ([] : List α) :=
  ⟨none, 0, rfl, by simp, fun h => by simp at h⟩
def small (s : ByteArray) : Prop := s.size ≤ 140737488355328
def rInt : Rel Int := fun K W cs x => cs = [.int .i64 x] ∧ I64 x
def rTxt : Rel ByteArray := fun K W cs x => cs = [.string x] ∧ small x
def rKnd : Rel Nat := fun K W cs x => cs = [.int .u8 (x : Int)] ∧ x < 256
def rVal : Rel Val := fun K W cs x => cs = [.int .u8 x.k, .bool x.b, .int .i64 x.n, .string x.s] ∧ (0 ≤ x.k ∧ x.k < 256) ∧ I64 x.n ∧ small x.s
def rRow : Rel (List Val) := fun K W cs x => ∃ v, cs = [v] ∧ ListIs rVal 4 32 K W v x
def rStp : Rel Stp := fun K W cs x => cs = [.int .u8 (x.k : Int), .string x.t, .int .i64 x.n] ∧ x.k < 256 ∧ small x.t ∧ I64 x.n
def rItm : Rel Itm := fun K W cs x => ∃ v, cs = [.int .u8 (x.g : Int), v] ∧ x.g < 256 ∧ ListIs rStp 3 32 K W v x.e
def rCl : Rel Cl := fun K W cs x => cs = [.string x.n, .int .u8 (x.k : Int)] ∧ small x.n ∧ x.k < 256
def rTbl : Rel Tbl := fun K W cs x => ∃ v u, cs = [.string x.n, v, u] ∧ small x.n ∧ ListIs rCl 2 24 K W v x.c ∧ ListIs rRow 1 24 K W u x.r
def okV (x : Vrs) : Prop := x.b < 18446744073709551616 ∧ x.l < 18446744073709551616
def rInts : Rel (List Int) := fun K W cs x => ∃ v, cs = [v] ∧ ListIs rInt 1 8 K W v x
def rSr : Rel Sr := fun K W cs x => ∃ v, cs = [.int .u8 (x.k : Int), .string x.t, .int .u64 (x.v.b : Int), .int .u64 (x.v.l : Int), .int .i64 x.s, v] ∧ x.k < 256 ∧ small x.t ∧ okV x.v ∧ I64 x.s ∧ ListIs rInt 1 8 K W v x.f
def rClm : Rel Clm := fun K W cs x => ∃ v u, cs = [.string x.t, v, .int .u64 (x.v.b : Int), .int .u64 (x.v.l : Int), u] ∧ small x.t ∧ ListIs rCl 2 24 K W v x.c ∧ okV x.v ∧ ListIs rInts 1 24 K W u x.o
theorem mInt : Mono rInt := fun K K2 W W' cs x hk hW h => h
theorem mTxt : Mono rTxt := fun K K2 W W' cs x hk hW h => h
theorem mKnd : Mono rKnd := fun K K2 W W' cs x hk hW h => h
theorem mVal : Mono rVal := fun K K2 W W' cs x hk hW h => h
theorem mStp : Mono rStp := fun K K2 W W' cs x hk hW h => h
theorem mCl : Mono rCl := fun K K2 W W' cs x hk hW h => h
theorem mRow : Mono rRow := fun K K2 W W' cs x hk hW ⟨v, h1, h2⟩ => ⟨v, h1, h2.mono mVal hk hW⟩
theorem mInts : Mono rInts := fun K K2 W W' cs x hk hW ⟨v, h1, h2⟩ => ⟨v, h1, h2.mono mInt hk hW⟩
theorem mItm : Mono rItm := fun K K2 W W' cs x hk hW ⟨v, h1, h2, h3⟩ => ⟨v, h1, h2, h3.mono mStp hk hW⟩
theorem mTbl : Mono rTbl := fun K K2 W W' cs x hk hW ⟨v, u, h1, h2, h3, h4⟩ => ⟨v, u, h1, h2, h3.mono mCl hk hW, h4.mono mRow hk hW⟩
theorem mSr : Mono rSr := fun K K2 W W' cs x hk hW ⟨v, h1, h2, h3, h4, h5, h6⟩ => ⟨v, h1, h2, h3, h4, h5, h6.mono mInt hk hW⟩
theorem mClm : Mono rClm := fun K K2 W W' cs x hk hW ⟨v, u, h1, h2, h3, h4, h5⟩ => ⟨v, u, h1, h2, h3.mono mCl hk hW, h4, h5.mono mInts hk hW⟩
/-- A part as a value. -/
def asV : List Value → Value
  | [v] => v
  | cs => .agg cs.toArray
/-- Unicode's tables are there, and kept. -/
def Tabs (K : Nat → Prop) (W : World) : Prop := K 0 ∧ K 1 ∧ Lib.Utf8Tabs 0 1 W
theorem Tabs.mono {K L : Nat → Prop} {W W' : World} (h : Tabs K W) (hk : ∀ b, K b → L b) (hW : Kept K W W') : Tabs L W' := by
  refine ⟨hk _ h.1, hk _ h.2.1, fun c hc => ?_, fun i hi => ?_⟩
  · rw [hW.cell (p := ⟨0, _, none⟩) h.1]; exact h.2.2.1 c hc
  · rw [hW.cell (p := ⟨1, _, none⟩) h.2.1, hW.cell (p := ⟨1, _, none⟩) h.2.1]; exact h.2.2.2 i hi
/-- What a function does to a part, at any port of a type: K is kept, D is where the part's own lists lie; what is new lies in new blocks. -/
def PartC {α : Type} (rel : Rel α) (part : St → α → α × St) (c t p F : Nat) (rv : Array Value) : Prop :=
  ∀ (K D : Nat → Prop) (W : World) (st : St) (cs : List Value) (x : α), Tabs K W → PortIs K W t p st → (∀ b, D b → K b) → rel D W cs x → max st.len 65536 + c ≤ 990000 →
    Calls Tryz.prog F (rv ++ #[asV cs]) W fun e w' => ∃ (N : Nat → Prop) (cs' : List Value), e = .returned (asV cs') ∧ (∀ b, N b → W.heap.size ≤ b) ∧ PortIs (fun b => K b ∨ N b) w' t p (part st x).2 ∧ rel (fun b => D b ∨ N b) w' cs' (part st x).1 ∧ Kept K W w'
/-- .. and to n of them that are read. -/
def TakenC {α : Type} (rel : Rel α) (size bytes : Nat) (part : St → α → α × St) (d : α) (c t p T : Nat) (pf : Value) : Prop :=
  ∀ (K : Nat → Prop) (W : World) (st : St) (n : Nat), Tabs K W → PortIs K W t p st → n < 18446744073709551616 → (600 < n → failedP st = true) → max st.len 65536 + c ≤ 990000 →
    Calls Tryz.prog T #[wk t p, .int .u64 (n : Int), pf] W fun e w' => ∃ (N : Nat → Prop) (v' : Value), e = .returned v' ∧ (∀ b, N b → W.heap.size ≤ b) ∧ PortIs (fun b => K b ∨ N b) w' t p (takenP part d n st []).2 ∧ ListIs rel size bytes N w' v' (takenP part d n st []).1 ∧ Kept K W w'
/-- .. and to a list. -/
def ListC {α : Type} (rel : Rel α) (size bytes : Nat) (most : Nat) (part : St → α → α × St) (d : α) (c t p L : Nat) (pf : Value) : Prop :=
  ∀ (K D : Nat → Prop) (W : World) (st : St) (v : Value) (xs : List α), Tabs K W → PortIs K W t p st → (∀ b, D b → K b) → ListIs rel size bytes D W v xs → max st.len 65536 + (c + 10) ≤ 990000 →
    Calls Tryz.prog L #[wk t p, v, .int .u64 (most : Int), pf] W fun e w' => ∃ (N : Nat → Prop) (v' : Value), e = .returned v' ∧ (∀ b, N b → W.heap.size ≤ b) ∧ PortIs (fun b => K b ∨ N b) w' t p (listP most part d st xs).2 ∧ ListIs rel size bytes (fun b => D b ∨ N b) w' v' (listP most part d st xs).1 ∧ Kept K W w'
theorem PortIs.rd74 {K : Nat → Prop} {W : World} {t p : Nat} {st : St} (h : PortIs K W t p st) : st.reads = true ↔ t = 94 := by
  have := h.is
  cases st using St.three with
  | wr b f => simp [St.reads, this.1]
  | bl f => simp [St.reads, this.1]
  | rd r f => simp [St.reads, this.1]
end Go.Proofs.YtgdjhkcllpkiiaaGreatDoor
/- Lists that are made part by part. -/
namespace Go.Proofs.YtgdjhkcllpkiiaaGreatDoor
open Go.Shelf Go.RowKit Go.Lib
set_option linter.unusedVariables false
set_option linter.unusedSimpArgs false
theorem hao (w : World) (o : Obj) (k : Nat) (h : k < w.heap.size) : (w.alloc o).heap[k]? = w.heap[k]? := Go.heap_alloc_old w o h
/-- A reader has no block but one. -/
theorem PortIs.same {K L : Nat → Prop} {W W' : World} {p : Nat} {st : St} (h : PortIs K W 94 p st) (hb : W'.heap[p]? = W.heap[p]?) (hp : ¬ L p) (hl : ∀ b, L b → b < W'.heap.size) (hu : ∀ b, L b → p < b → Unf W' b) : PortIs L W' 94 p st := by
  refine ⟨hp, hl, fun _ => hu, ?_⟩
  have := h.is
  cases st using St.three with
  | wr b f => exact absurd this.1 (by decide)
  | bl f => exact absurd this.1 (by decide)
  | rd r f => exact ⟨this.1, this.2.1, by rw [hb]; exact this.2.2⟩
theorem PortIs.wide {K L : Nat → Prop} {W : World} {p : Nat} {st : St} (h : PortIs K W 94 p st) (hp : ¬ L p) (hl : ∀ b, L b → b < W.heap.size) (hu : ∀ b, L b → p < b → Unf W b) : PortIs L W 94 p st := h.same rfl hp hl hu
/-- A row of one's own is free. -/
theorem own_unf {W : World} {base e size n : Nat} {v : Value} {xs : List Value} (h : W.ownsRow base e size v n xs) : ∀ g, v.ownBlock = some g → Unf W g := by
  intro g hg
  rcases h.2 with ⟨rfl, _⟩ | ⟨g', cap, cur, rfl, _, h2, _⟩
  · simp [Value.ownBlock] at hg
  · have e : g' = g := by simpa [Value.ownBlock] using hg
    subst e
    exact Unf.zero h2
theorem cell_list_new (w : World) (cs : List Value) (t : TypeId) : ∀ j u, cs[j]? = some u → (w.alloc (.cells cs.toArray t)).cell? ((⟨w.heap.size, 0, none⟩ : Addr).add j) = some u := by
  intro j u hj
  have hadd : (⟨w.heap.size, 0, none⟩ : Addr).add j = ⟨w.heap.size, 0 + j, none⟩ := by unfold Addr.add; split <;> simp_all
  rw [hadd, Nat.zero_add]
  exact cellR (heap_alloc_new w _) (by simpa using hj)
theorem H11z {α : Type} (part : St → α → α × St) (d : α) (st : St) (n : Nat) (acc : List α) (sti : St) (h6 : 600 < n) (hf : failedP st = true) (hl : acc.length ≤ n) (heq : takenP part d n st [] = (acc, sti)) : acc.length = 0 := by
  cases n with
  | zero => omega
  | succ n =>
    simp only [takenP] at heq
    rw [if_pos hf] at heq
    have := (Prod.mk.inj heq).1
    rw [← this]
    rfl
theorem flat_get {size : Nat} : ∀ (css : List (List Value)) (j i : Nat) (u : Value) (hj : j < css.length), (∀ cs ∈ css, cs.length = size) → css[j][i]? = some u → css.flatten[j * size + i]? = some u
  | [], j, i, u, hj, _, _ => by simp at hj
  | cs :: css, 0, i, u, hj, hs, h => by
    simp only [List.getElem_cons_zero] at h
    have hi : i < cs.length := (List.getElem?_eq_some_iff.1 h).1
    rw [Nat.zero_mul, Nat.zero_add, List.flatten_cons, List.getElem?_append_left hi]
    exact h
  | cs :: css, j + 1, i, u, hj, hs, h => by
    have hl : cs.length = size := hs cs (by simp)
    have ih := flat_get css j i u (by simpa using hj) (fun c hc => hs c (by simp [hc])) (by simpa using h)
    rw [List.flatten_cons, List.getElem?_append_right (by rw [hl, Nat.succ_mul]; omega), hl, show (j + 1) * size + i - size = j * size + i by rw [Nat.succ_mul]; omega]
    exact ih
theorem list_of_own {α : Type} {rel : Rel α} {E size bytes : Nat} {N : Nat → Prop} {W : World} {q : Option Addr} {c : Nat} {acc : List α} {css : List (List Value)}
    (h : W.ownsRow 0 E size (.slice q acc.length c) acc.length css.flatten) (hb : acc.length * bytes ≤ 140737488355328) (hl : css.length = acc.length) (hs : ∀ cs ∈ css, cs.length = size)
    (hr : ∀ j (h1 : j < css.length) (h2 : j < acc.length), rel N W css[j] acc[j]) (hN : ∀ g, (Value.slice q acc.length c).ownBlock = some g → N g) : ListIs rel size bytes N W (.slice q acc.length c) acc := by
  refine ⟨q, c, rfl, hb, fun h0 => ?_⟩
  rcases h.2 with ⟨hv, h1⟩ | ⟨g, cap, cur, hv, _, hg, hnc, _, hcs, htake⟩
  · omega
  · simp only [Value.slice.injEq] at hv
    obtain ⟨rfl, _, rfl⟩ := hv
    refine ⟨g, 0, rfl, hN g rfl, fun j hj => ⟨css[j], hs _ (List.getElem_mem _), fun i u hi => ?_, hr j (by omega) hj⟩⟩
    have hf := flat_get css j i u (by omega) hs hi
    rw [← htake] at hf
    rw [Nat.zero_add]
    refine cellR hg ?_
    have := List.getElem?_take (l := cur.toList) (i := acc.length * size) (j := j * size + i)
    rw [hf] at this
    split at this
    · simpa using this.symm
    · cases this
theorem taken_next {α : Type} {rel : Rel α} {part : St → α → α × St} {d : α} {c n p E size i g' : Nat} {st sti : St} {K K1 D K3 N : Nat → Prop} {w W0 wr w6 w8 : World} {o : Obj} {q7 q8 : Option Addr} {c7 c8 : Nat} {acc : List α} {css : List (List Value)} {x : α} {cs : List Value} {s10 : Value}
    (hm : Mono rel) (h1 : i + (g' + 1) = n) (h2 : acc.length = i) (h3 : 600 < n → failedP (part sti d).2 = true) (heq : takenP part d g' (part sti d).2 (acc ++ [(part sti d).1]) = takenP part d n st []) (hx : (part sti d).1 = x)
    (h5 : wr.ownsRow 0 E size (.slice q7 acc.length c7) acc.length css.flatten) (h6 : css.length = acc.length ∧ (∀ cs ∈ css, cs.length = size) ∧ (∀ j (h1 : j < css.length) (h2 : j < acc.length), rel D wr css[j] acc[j]))
    (h7 : (∀ b, D b → w.heap.size < b ∧ b < wr.heap.size) ∧ ∀ g, (Value.slice q7 acc.length c7).ownBlock = some g → ¬ D g ∧ w.heap.size < g) (h8 : PortIs (fun b => K1 b ∨ D b) wr 94 p sti) (h9 : Kept K1 W0 wr) (hl2 : max (part sti d).2.len 65536 + c ≤ 990000)
    (k3a : ∀ b, K1 b ∨ D b → K3 b) (k3b : ∀ b, (Value.slice q7 acc.length c7).ownBlock = some b → K3 b) (k3s : ∀ b, K3 b → (K1 b ∨ D b) ∨ (Value.slice q7 acc.length c7).ownBlock = some b)
    (hp6 : PortIs (fun b => K3 b ∨ N b) w6 94 p (part sti d).2) (hk6 : Kept K3 wr w6) (hN : ∀ b, N b → wr.heap.size ≤ b) (hrx : rel (fun b => False ∨ N b) w6 cs x) (hcl : cs.length = size)
    (hown8 : w8.ownsRow 0 E size (.slice q8 (acc.length + 1) c8) (acc.length + 1) (css.flatten ++ cs)) (hgr : (w6.alloc o).grownBy w8 (Value.slice q7 acc.length c7).ownBlock)
    (hob : (Value.slice q8 (acc.length + 1) c8).ownBlock = (Value.slice q7 acc.length c7).ownBlock ∨ (Value.slice q8 (acc.length + 1) c8).ownBlock = some (w6.heap.size + 1))
    (hk1b : K1 w.heap.size) (hk1s : ∀ b, K1 b → K b ∨ b = w.heap.size) (hs0 : W0.heap.size = w.heap.size + 1) (hlt0 : ∀ b, K b → b < w.heap.size) (hpl : p < w.heap.size) (hs10 : s10 = .int .u64 ((i + 1 : Nat) : Int)) :
    ∃ (i' : Nat) (sti' : St) (D' : Nat → Prop) (q' : Option Addr) (c' : Nat) (acc' : List α) (css' : List (List Value)), Value.slice q8 (acc.length + 1) c8 = .slice q' acc'.length c' ∧ s10 = .int .u64 (i' : Int) ∧ Hid (i' + g' = n) ∧ Hid (acc'.length = i') ∧ Hid (600 < n → failedP sti' = true) ∧ Hid (takenP part d g' sti' acc' = takenP part d n st []) ∧ Hid (w8.ownsRow 0 E size (.slice q' acc'.length c') acc'.length css'.flatten) ∧ Hid (css'.length = acc'.length ∧ (∀ cs ∈ css', cs.length = size) ∧ (∀ j (h1 : j < css'.length) (h2 : j < acc'.length), rel D' w8 css'[j] acc'[j])) ∧ Hid ((∀ b, D' b → w.heap.size < b ∧ b < w8.heap.size) ∧ ∀ g, (Value.slice q' acc'.length c').ownBlock = some g → ¬ D' g ∧ w.heap.size < g) ∧ Hid (PortIs (fun b => K1 b ∨ D' b) w8 94 p sti') ∧ Hid (Kept K1 W0 w8 ∧ max sti'.len 65536 + c ≤ 990000) := by
  subst hx
  have hown : ∀ g, (Value.slice q7 acc.length c7).ownBlock = some g → g < wr.heap.size := ownsRow_lt h5
  have hs68 : w6.heap.size + 1 ≤ w8.heap.size := by have := hgr.size; simpa using this
  have hsr6 : wr.heap.size ≤ w6.heap.size := hk6.size
  have hs0r : w.heap.size + 1 ≤ wr.heap.size := by have := h9.size; omega
  have hN6 : ∀ b, N b → b < w6.heap.size := fun b hb => hp6.lt b (.inr hb)
  have e1 : ∀ b, b < w6.heap.size → (Value.slice q7 acc.length c7).ownBlock ≠ some b → w8.heap[b]? = w6.heap[b]? := fun b hb hne => by
    rw [hgr.block b (by simp; omega) (fun e => hne e.symm), hao _ _ _ hb]
  have kD : Kept D wr w8 := ⟨hgr.os.trans hk6.os, hgr.tape.trans hk6.tape, hgr.output.trans hk6.output, by omega, fun b hb => by
    rw [e1 b (by have := (h7.1 b hb).2; omega) (fun e => (h7.2 b e).1 hb)]
    exact hk6.block b (k3a b (.inr hb))⟩
  have kN : Kept (fun b => False ∨ N b) w6 w8 := ⟨hgr.os, hgr.tape, hgr.output, by omega, fun b hb => by
    have hb : N b := hb.elim (fun h => h.elim) id
    exact e1 b (hN6 b hb) (fun e => by have h1 := hown b e; have h2 := hN b hb; omega)⟩
  have k1o : ∀ b, K1 b → (Value.slice q7 acc.length c7).ownBlock ≠ some b := fun b hb e => by
    have h1 := (h7.2 b e).2
    rcases hk1s b hb with h | h
    · have := hlt0 b h; omega
    · omega
  refine ⟨i + 1, (part sti d).2, fun b => D b ∨ N b, q8, c8, acc ++ [(part sti d).1], css ++ [cs], by simp, hs10, by show _ = _; omega, by show _ = _; simp [h2], h3, heq, ?_, ⟨by simp [h6.1], ?_, ?_⟩, ⟨?_, ?_⟩, ?_, ?_, hl2⟩
  · show w8.ownsRow _ _ _ _ _ _
    simpa using hown8
  · intro c hc
    rcases List.mem_append.1 hc with h | h
    · exact h6.2.1 c h
    · simp at h; rw [h]; exact hcl
  · intro j a1 a2
    by_cases hj : j < css.length
    · rw [List.getElem_append_left hj, List.getElem_append_left (by omega)]
      exact hm _ _ _ _ _ _ (fun b hb => .inl hb) kD (h6.2.2 j hj (by omega))
    · have hje : j = css.length := by simp at a1; omega
      subst hje
      have g1 : (css ++ [cs])[css.length] = cs := by simp
      have g2 : (acc ++ [(part sti d).1])[css.length] = (part sti d).1 := by simp [h6.1]
      rw [g1, g2]
      exact hm _ _ _ _ _ _ (fun b hb => .inr (hb.elim (fun h => h.elim) id)) kN hrx
  · intro b hb
    rcases hb with h | h
    · have := h7.1 b h; omega
    · have := hN b h; have := hN6 b h; omega
  · intro g hg
    have hg : (Value.slice q8 (acc.length + 1) c8).ownBlock = some g := by simpa using hg
    rcases hob with e | e
    · rw [e] at hg
      refine ⟨fun h => ?_, (h7.2 g hg).2⟩
      rcases h with h | h
      · exact (h7.2 g hg).1 h
      · have h1 := hown g hg; have h2 := hN g h; omega
    · rw [e] at hg
      simp only [Option.some.injEq] at hg
      refine ⟨fun h => ?_, by omega⟩
      rcases h with h | h
      · have := (h7.1 g h).2; omega
      · have := hN6 g h; omega
  · refine hp6.same (e1 p (by omega) (fun e => by have := (h7.2 p e).2; omega)) (fun e => ?_) (fun b hb => ?_) (fun b hb hpb => ?_)
    · rcases e with e | e | e
      · exact h8.out (.inl e)
      · exact h8.out (.inr e)
      · have := hN p e; omega
    · rcases hb with e | e | e
      · have := h8.lt b (.inl e); omega
      · have := h8.lt b (.inr e); omega
      · have := hN6 b e; omega
    · rcases hb with e | e | e
      · have hb6 := h8.lt b (.inl e)
        exact (hp6.unf rfl b (.inl (k3a b (.inl e))) hpb).of_block (e1 b (by omega) (k1o b e))
      · have hb6 := h8.lt b (.inr e)
        exact (hp6.unf rfl b (.inl (k3a b (.inr e))) hpb).of_block (e1 b (by omega) (fun x => (h7.2 b x).1 e))
      · exact (hp6.unf rfl b (.inr e) hpb).of_block (e1 b (hN6 b e) (fun x => by have a1 := hown b x; have a2 := hN b e; omega))
  · refine h9.trans ⟨hgr.os.trans hk6.os, hgr.tape.trans hk6.tape, hgr.output.trans hk6.output, by omega, fun b hb => ?_⟩
    rw [e1 b (by have := h8.lt b (.inl hb); omega) (k1o b hb)]
    exact hk6.block b (k3a b (.inl hb))
end Go.Proofs.YtgdjhkcllpkiiaaGreatDoor

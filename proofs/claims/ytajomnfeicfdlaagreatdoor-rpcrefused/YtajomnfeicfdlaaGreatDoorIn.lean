/- What lives answers. -/
import Derived.Test.YtajomnfeicfdlaaGreatDoorIaIbIcIdIeIfIgIhIl
import Derived.Test.YtajomnfeicfdlaaGreatDoorHo
namespace Go.Proofs.YtajomnfeicfdlaaGreatDoor
open Go.Shelf Go.RowKit Go.Lib
set_option linter.unusedVariables false
set_option linter.unusedSimpArgs false
attribute [local go_sem ↓] Go.wp_at_zero Go.wp_at_succ
def mI (k : Nat) : Mg := { mg0 with k := k, fl := ⟨⟨#[116]⟩, vrs0, 1, [], []⟩ }
def ic (k : Nat) : List Value := [.int .u8 (k : Int), .int .u64 0, .int .u64 0, .int .u64 0, .int .i64 0, .int .i64 0, .int .i64 0, .string ⟨#[]⟩, .string ⟨#[]⟩, .int .i64 0, .int .i64 0, .int .i64 0, .slice none 0 0, .slice none 0 0, .slice none 0 0, .bool false, .slice none 0 0, .slice none 0 0, .slice none 0 0, .int .i64 0, .int .i64 0, .int .u8 0, .string ⟨#[]⟩, .int .u64 0, .int .u64 0, .int .i64 0, .slice none 0 0, .int .u8 0, .string ⟨#[]⟩, .int .u64 0, .int .u64 0, .int .i64 0, .slice none 0 0, .bool false, .int .i64 0, .slice none 0 0, .slice none 0 0, .int .u64 0, .bool false, .slice none 0 0, .string ⟨#[116]⟩, .int .u64 0, .int .u64 0, .int .i64 1, .slice none 0 0, .slice none 0 0, .slice none 0 0]
/-- A file's parts. -/
structure FileIs (K : Nat → Prop) (W : World) (vc vr : Value) (f : Fl) : Prop where
 t : small f.t
 v : okV f.v
 s : I64 f.s
 c : ListIs rCl 2 24 K W vc f.c
 r : ListIs rRow 1 24 K W vr f.r
/-- A message of a kind that has a file alone. -/
def mF (k : Nat) (f : Fl) : Mg := { mg0 with k := k, fl := f }
def cF (k : Nat) (f : Fl) (vc vr : Value) : List Value := [.int .u8 (k : Int), .int .u64 0, .int .u64 0, .int .u64 0, .int .i64 0, .int .i64 0, .int .i64 0, .string ⟨#[]⟩, .string ⟨#[]⟩, .int .i64 0, .int .i64 0, .int .i64 0, .slice none 0 0, .slice none 0 0, .slice none 0 0, .bool false, .slice none 0 0, .slice none 0 0, .slice none 0 0, .int .i64 0, .int .i64 0, .int .u8 0, .string ⟨#[]⟩, .int .u64 0, .int .u64 0, .int .i64 0, .slice none 0 0, .int .u8 0, .string ⟨#[]⟩, .int .u64 0, .int .u64 0, .int .i64 0, .slice none 0 0, .bool false, .int .i64 0, .slice none 0 0, .slice none 0 0, .int .u64 0, .bool false, .slice none 0 0, .string f.t, .int .u64 (f.v.b : Int), .int .u64 (f.v.l : Int), .int .i64 f.s, vc, vr, .slice none 0 0]
theorem mF_is (k : Nat) (hk : k < 256) (f : Fl) (vc vr : Value) (K : Nat → Prop) (W : World) (hf : FileIs K W vc vr f) : MsgIs K W (cF k f vc vr).toArray (mF k f) := by
 have nl : ∀ {α : Type} (rel : Rel α) (s b : Nat), ListIs rel s b K W (.slice none 0 0) ([] : List α) := fun rel s b => ListIs.nil rel s b K W
 have sr : rSr K W [.int .u8 0, .string ⟨#[]⟩, .int .u64 0, .int .u64 0, .int .i64 0, .slice none 0 0] sr0 := ⟨_, rfl, by show (0 : Nat) < 256; omega, smz, ⟨by show (0 : Nat) < _; omega, by show (0 : Nat) < _; omega⟩, i64z, nl _ _ _⟩
 exact ⟨rfl, rfl, hk,
  gi_of [.int .u64 0] rfl rfl ⟨rfl, by show (0 : Nat) < _; omega⟩,
  gi_of [.int .u64 0, .int .u64 0] rfl rfl ⟨rfl, by show (0 : Nat) < _; omega, by show (0 : Nat) < _; omega⟩,
  gi_of [.int .i64 0] rfl rfl ⟨rfl, i64z⟩, gi_of [.int .i64 0] rfl rfl ⟨rfl, i64z⟩, gi_of [.int .i64 0] rfl rfl ⟨rfl, i64z⟩,
  gi_of [.string ⟨#[]⟩, .string ⟨#[]⟩, .int .i64 0, .int .i64 0, .int .i64 0, .slice none 0 0, .slice none 0 0, .slice none 0 0, .bool false, .slice none 0 0, .slice none 0 0] rfl rfl ⟨_, _, _, _, _, rfl, smz, smz, i64z, i64z, i64z, nl _ _ _, nl _ _ _, nl _ _ _, nl _ _ _, nl _ _ _⟩,
  gi_of [.slice none 0 0] rfl rfl ⟨_, rfl, nl _ _ _⟩,
  gi_of [.int .i64 0, .int .i64 0, .int .u8 0, .string ⟨#[]⟩, .int .u64 0, .int .u64 0, .int .i64 0, .slice none 0 0, .int .u8 0, .string ⟨#[]⟩, .int .u64 0, .int .u64 0, .int .i64 0, .slice none 0 0, .bool false, .int .i64 0, .slice none 0 0] rfl rfl ⟨[.int .u8 0, .string ⟨#[]⟩, .int .u64 0, .int .u64 0, .int .i64 0, .slice none 0 0], [.int .u8 0, .string ⟨#[]⟩, .int .u64 0, .int .u64 0, .int .i64 0, .slice none 0 0], _, rfl, i64z, i64z, sr, sr, i64z, nl _ _ _⟩,
  gi_of [.slice none 0 0] rfl rfl ⟨_, rfl, nl _ _ _⟩,
  gi_of [.int .u64 0] rfl rfl ⟨rfl, by show (0 : Nat) < _; omega⟩,
  gi_of [.bool false] rfl rfl ⟨rfl, trivial⟩,
  gi_of [.slice none 0 0] rfl rfl ⟨_, rfl, nl _ _ _⟩,
  gi_of [.string f.t, .int .u64 (f.v.b : Int), .int .u64 (f.v.l : Int), .int .i64 f.s, vc] rfl rfl ⟨_, rfl, hf.t, hf.v, hf.s, hf.c⟩,
  gi_of [vr] rfl rfl ⟨_, rfl, hf.r⟩,
  gi_of [.slice none 0 0] rfl rfl ⟨_, rfl, nl _ _ _⟩⟩
theorem mI_is (k : Nat) (hk : k < 256) (W : World) : MsgIs noB W (ic k).toArray (mI k) := mF_is k hk ⟨⟨#[116]⟩, vrs0, 1, [], []⟩ (.slice none 0 0) (.slice none 0 0) noB W ⟨by show (1 : Nat) ≤ _; omega, ⟨by show (0 : Nat) < _; omega, by show (0 : Nat) < _; omega⟩, by show I64 1; unfold I64; omega, ListIs.nil _ _ _ _ _, ListIs.nil _ _ _ _ _⟩
theorem lr1 : refP [] 2 (mI 7) = 0 := by kernel_rfl
theorem lr2 : refP [(2, mI 7)] 2 (mI 7) = 15 := by kernel_rfl
/-- Whether two are about one shard. -/
def shdP (a b : Fl) : Bool := (a.t.toList == b.t.toList) && decide (((a.v.b : Int), (a.v.l : Int)) = ((b.v.b : Int), (b.v.l : Int))) && (a.s == b.s)
set_option maxRecDepth 10000 in
theorem eql_ver (a b a' b' : Int) (w : World) : (binOp .eql 40 (.agg #[.int .u64 a, .int .u64 b]) (.agg #[.int .u64 a', .int .u64 b'])).run Tryz.prog w = .ok (.bool (decide ((a, b) = (a', b')))) w := by
 have hS : Tryz.prog.underlying 40 = some (.struct (Tryz.prog.fieldsOf 40)) := by kernel_rfl
 have hp : Tryz.prog.stoodInHeld 40 = false := by kernel_rfl
 have u9 := Tryz.underlying25; have a9 := Tryz.isAgg25; have z9 := Tryz.sizeOf25
 rw [run_eql_struct, show (10000 : Nat) = 9999 + 1 from rfl, run_equalIn_struct w 9999 40 _ _ hS hp]
 simp only [Program.fieldsOf, Tryz.underlying40]
 clear hS hp
 by_cases h1 : a = a' <;> by_cases h2 : b = b'
 ·subst h1 h2
  go_simp
 ·go_simp
 ·go_simp
 ·go_simp
theorem file_cells {K : Nat → Prop} {W : World} {cl : List Value} {m : Mg} (h : MsgIs K W cl.toArray m) : ∃ p1 n1 c1 p2 n2 c2, ∀ (j : Nat) (u : Value), ([.string m.fl.t, .int .u64 (m.fl.v.b : Int), .int .u64 (m.fl.v.l : Int), .int .i64 m.fl.s, .slice p1 n1 c1, .slice p2 n2 c2] : List Value)[j]? = some u → cl[40 + j]? = some u := by
 obtain ⟨cs, _, h1, v, rfl, _, _, _, q1, c1, rfl, _, _⟩ := h.fh
 obtain ⟨ds, _, h2, u, rfl, q2, c2, rfl, _, _⟩ := h.fw
 refine ⟨q1, m.fl.c.length, c1, q2, m.fl.r.length, c2, fun j u hj => ?_⟩
 have hj6 : j < 6 := (List.getElem?_eq_some_iff.1 hj).1
 match j, hj6, hj with
 | 0, _, hj => simpa using h1 0 u hj
 | 1, _, hj => simpa using h1 1 u hj
 | 2, _, hj => simpa using h1 2 u hj
 | 3, _, hj => simpa using h1 3 u hj
 | 4, _, hj => simpa using h1 4 u hj
 | 5, _, hj => simpa using h2 0 u hj
theorem isShard_any {K K' : Nat → Prop} {W : World} {ca cm : List Value} {a b : Mg} (ha : MsgIs K W ca.toArray a) (hb : MsgIs K' W cm.toArray b) (V : World) :
  Calls Tryz.prog 88 #[.agg ca.toArray, .agg cm.toArray] V fun e w' => e = .returned (.bool (shdP a.fl b.fl)) ∧ Below V.heap.size V w' := by
 obtain ⟨p1, n1, c1, p2, n2, c2, h1⟩ := file_cells ha
 obtain ⟨p3, n3, c3, p4, n4, c4, h2⟩ := file_cells hb
 exact isShard_of _ _ _ ca cm a.fl b.fl p1 p2 p3 p4 n1 n2 n3 n4 c1 c2 c3 c4 V (by simpa using ha.size) (by simpa using hb.size) h1 h2 rfl (fun w => eql_ver _ _ _ _ w) rfl
/-- Whether an Installed answers an Install. -/
theorem fits_file {K K' : Nat → Prop} {W : World} {ca cm : List Value} {a b : Mg} (ha : MsgIs K W ca.toArray a) (hb : MsgIs K' W cm.toArray b) (h7 : a.k = 7) (h8 : b.k = 8) :
  Calls Tryz.prog 33 #[.agg cm.toArray, .agg ca.toArray] W fun e w' => e = .returned (.bool (shdP a.fl b.fl)) ∧ Below W.heap.size W w' := by
 refine fits_shard _ cm ca W (by simpa using hb.size) (by simpa using ha.size) ?_ ?_ (fun V hV => isShard_any ha hb V)
 ·have := hb.kc; rw [h8] at this; simpa using this
 ·have := ha.kc; rw [h7] at this; simpa using this
theorem ls1 : shdP (mI 7).fl (mI 8).fl = true := by kernel_rfl
/-- The box of the file that lives has. -/
def FileBox (W : World) (b : Nat) : Prop := W.heap[b]? = some (.cells #[.string ⟨#[116]⟩, .int .u64 0, .int .u64 0, .int .i64 1, .slice none 0 0, .slice none 0 0] 44 (0, 0))
theorem FileBox.cells {W : World} {b : Nat} (h : FileBox W b) : W.cell? ⟨b, 0, none⟩ = some (.string ⟨#[116]⟩) ∧ W.cell? ⟨b, 1, none⟩ = some (.int .u64 0) ∧ W.cell? ⟨b, 2, none⟩ = some (.int .u64 0) ∧ W.cell? ⟨b, 3, none⟩ = some (.int .i64 1) ∧ W.cell? ⟨b, 4, none⟩ = some (.slice none 0 0) ∧ W.cell? ⟨b, 5, none⟩ = some (.slice none 0 0) :=
 ⟨cell_of_row (k := 0) h rfl, cell_of_row (k := 1) h rfl, cell_of_row (k := 2) h rfl, cell_of_row (k := 3) h rfl, cell_of_row (k := 4) h rfl, cell_of_row (k := 5) h rfl⟩
theorem FileBox.later {W W' : World} {b n : Nat} (h : FileBox W b) (hb : Below n W W') (hn : b < n) : FileBox W' b := (hb.block b hn).trans h
theorem one_box (w : World) (v : Value) (t : TypeId) : ∃ W1, w.alloc (.cells #[v] t) = W1 ∧ Below w.heap.size w W1 ∧ W1.heap[w.heap.size]? = some (.cells #[v] t (0, 0)) ∧ W1.heap.size = w.heap.size + 1 := ⟨_, rfl, (Below.refl _ _).alloc (Nat.le_refl _) _, heap_alloc_new w _, by simp⟩
set_option maxRecDepth 100000 in
set_option maxHeartbeats 8000000 in
theorem lives_any (w : World) (hT : Lib.Utf8Tabs 0 1 w) (h2 : 1 < w.heap.size) : Calls Tryz.prog 11 #[] w fun e w' => e = .returned (.bool true) ∧ Below w.heap.size w w' := by
 have HTT : Hid (∀ V, Below w.heap.size w V → Lib.Utf8Tabs 0 1 V ∧ 1 < V.heap.size) := fun V hb => ⟨Utf8Tabs.later hT h2 hb, Nat.lt_of_lt_of_le h2 hb.size⟩
 have CA1 : Hid (∀ V, Below w.heap.size w V → Calls Tryz.prog 17 #[.agg #[.slice none 0 0], .int .i64 2, .agg (ic 7).toArray] V fun e w' => ∃ q c, e = .returned (.tuple #[.agg #[.slice q 1 c], .int .i64 0]) ∧ ListIs rAsk 48 648 (From V.heap.size w') w' (.slice q 1 c) [(2, mI 7)] ∧ Below V.heap.size V w') := fun V hb => by
  obtain ⟨t1, t2⟩ := HTT.out V hb
  have := ask_any (.slice none 0 0) 2 (ic 7) (mI 7) [] noB V (ListIs.nil _ _ _ _ _) (mI_is 7 (by omega) V) (by unfold I64; omega) (fun b h => h.elim) t1 t2
  rw [show askL [] 2 (mI 7) = [(2, mI 7)] by unfold askL; rw [lr1]; rfl, lr1] at this
  exact this
 have CA2 : Hid (∀ V q c (K : Nat → Prop), Below w.heap.size w V → ListIs rAsk 48 648 K V (.slice q 1 c) [(2, mI 7)] → (∀ b, K b → b < V.heap.size) → Calls Tryz.prog 17 #[.agg #[.slice q 1 c], .int .i64 2, .agg (ic 7).toArray] V fun e w' => ∃ q c, e = .returned (.tuple #[.agg #[.slice q 1 c], .int .i64 15]) ∧ Below V.heap.size V w') := fun V q c K hb hl hK => by
  obtain ⟨t1, t2⟩ := HTT.out V hb
  have := ask_any (.slice q 1 c) 2 (ic 7) (mI 7) [(2, mI 7)] K V hl ((mI_is 7 (by omega) V).keep (fun b h => h.elim) (Kept.refl _ _)) (by unfold I64; omega) hK t1 t2
  rw [show askL [(2, mI 7)] 2 (mI 7) = [(2, mI 7)] by unfold askL; rw [lr2]; rfl, lr2] at this
  exact this.mono fun e w' ⟨q, c, h1, _, h3⟩ => ⟨q, c, h1, h3⟩
 have CB1 : Hid (∀ V q c (K : Nat → Prop), ListIs rAsk 48 648 K V (.slice q 1 c) [(2, mI 7)] → (∀ b, K b → b < V.heap.size) → Calls Tryz.prog 19 #[.agg #[.slice q 1 c], .int .i64 2, .agg (ic 8).toArray] V fun e w' => ∃ q c, e = .returned (.tuple #[.agg #[.slice q 0 c], .bool true]) ∧ Below V.heap.size V w') := fun V q c K hl hK => by
  have := answer_any (.slice q 1 c) 2 (fun _ => true) (ic 8) [(2, mI 7)] K V hl rfl hK (fun W hW x hx h2 cl hcl hm => by
   rw [List.mem_singleton.1 hx] at hm
   rw [← ls1]
   exact fits_file hm (mI_is 8 (by omega) W) rfl rfl)
  rw [show [((2 : Int), mI 7)].filter (fun x => !ansP 2 (fun _ => true) x) = [] by rfl] at this
  exact this.mono fun e w' ⟨q, c, h1, _, h3⟩ => ⟨q, c, h1, h3⟩
 have CB2 : Hid (∀ V q c (K : Nat → Prop), ListIs rAsk 48 648 K V (.slice q 1 c) [(2, mI 7)] → (∀ b, K b → b < V.heap.size) → Calls Tryz.prog 19 #[.agg #[.slice q 1 c], .int .i64 1, .agg (ic 8).toArray] V fun e w' => ∃ q c, e = .returned (.tuple #[.agg #[.slice q 1 c], .bool false]) ∧ Below V.heap.size V w') := fun V q c K hl hK => by
  have := answer_any (.slice q 1 c) 1 (fun _ => true) (ic 8) [(2, mI 7)] K V hl rfl hK (fun W hW x hx h2 cl hcl hm => by
   rw [List.mem_singleton.1 hx] at h2
   exact absurd h2 (by decide))
  rw [show [((2 : Int), mI 7)].filter (fun x => !ansP 1 (fun _ => true) x) = [(2, mI 7)] by rfl] at this
  exact this.mono fun e w' ⟨q, c, h1, _, h3⟩ => ⟨q, c, h1, h3⟩
 have CP : Hid (∀ V : World, Calls Tryz.prog 9 #[.agg #[.slice none 0 0], .agg #[.int .u64 0, .int .u64 1]] V fun e w' => ∃ q n c, e = .returned (.tuple #[.agg #[.slice q n c], .int .i64 0]) ∧ n ≤ c ∧ ListIs rQid 2 16 (From V.heap.size w') w' (.slice q n c) [(0, 1)] ∧ Below V.heap.size V w') := fun V => by
  have := put_any (0, 1) (.slice none 0 0) [] noB V (ListIs.nil _ _ _ _ _) (fun b h => h.elim) (fun q n c e => by cases e; exact Nat.le_refl _)
  exact this
 have CH : Hid (∀ V v (K : Nat → Prop), ListIs rQid 2 16 K V v [(0, 1)] → (∀ b, K b → b < V.heap.size) → Calls Tryz.prog 13 #[.agg #[v], .agg #[.int .u64 0, .int .u64 1]] V fun e w' => e = .returned (.bool true) ∧ Below V.heap.size V w') := fun V v K hl hK => by
  have := has_any (0, 1) v [(0, 1)] K V hl hK
  rw [show decide (((0 : Int), (1 : Int)) ∈ [((0 : Int), (1 : Int))]) = true by decide] at this
  exact this
 clear hT h2
 unfold ic at CA1 CA2 CB1 CB2
 rw [show ((7 : Nat) : Int) = 7 from rfl] at CA1 CA2
 rw [show ((8 : Nat) : Int) = 8 from rfl] at CB1 CB2
 go_enter Tryz.func11, Tryz.ntmps11
 go_wp2_with fail
 obtain ⟨WF, hWF⟩ : ∃ WF, w.alloc (.cells #[.string ⟨#[116]⟩, .int .u64 0, .int .u64 0, .int .i64 1, .slice none 0 0, .slice none 0 0] 44) = WF := ⟨_, rfl⟩
 have hfb : FileBox WF w.heap.size := by rw [← hWF]; exact heap_alloc_new w _
 have hb0 : Below w.heap.size w WF := by rw [← hWF]; exact (Below.refl _ _).alloc (Nat.le_refl _) _
 have hlF : w.heap.size < WF.heap.size := by rw [← hWF]; simp
 have HFB : Hid (∀ V, Below WF.heap.size WF V → FileBox V w.heap.size ∧ Below w.heap.size w V) := fun V hb => ⟨hfb.later hb hlF, hb0.trans (hb.mono hb0.size)⟩
 obtain ⟨c0, c1, c2, c3, c4, c5⟩ := hfb.cells
 clear hfb hb0 hlF
 rw [hWF]
 refine (CA1.out _ (HFB.out WF (Below.refl _ _)).2).mono ?_
 rintro e w1 ⟨q1, p1, rfl, hl1, hb1⟩
 obtain ⟨w2, hw2, hb2, hg2, hs2⟩ := one_box w1 (.slice q1 1 p1) 38
 have hB2 : Below WF.heap.size WF w2 := hb1.trans (hb2.mono hb1.size)
 have HB2 : Hid (Below WF.heap.size WF w2) := hB2
 have HL2 : Hid (ListIs rAsk 48 648 (From WF.heap.size w1) w2 (.slice q1 1 p1) [(2, mI 7)]) := hl1.mono mAsk (fun _ h => h) (kept_of (fun b h => h.2) hb2)
 have HK2 : Hid (∀ V, Below w2.heap.size w2 V → V.cell? ⟨w1.heap.size, 0, none⟩ = some (.slice q1 1 p1) ∧ ListIs rAsk 48 648 (From WF.heap.size w1) V (.slice q1 1 p1) [(2, mI 7)] ∧ (∀ b, From WF.heap.size w1 b → b < V.heap.size) ∧ FileBox V w.heap.size ∧ Below WF.heap.size WF V) := fun V hb => by
  have h3 : Below WF.heap.size WF V := hB2.trans (hb.mono hB2.size)
  exact ⟨(hb.cell (p := ⟨w1.heap.size, 0, none⟩) (by show w1.heap.size < _; omega)).trans (cell_of_row hg2 rfl), HL2.out.mono mAsk (fun _ h => h) (kept_of (fun b h => by have := h.2; omega) hb), fun b h => by have := h.2; have := hb.size; omega, (HFB.out V h3).1, h3⟩
 obtain ⟨d0, t2, t3, t4, -⟩ := HK2.out w2 (Below.refl _ _)
 obtain ⟨e0, e1, e2, e3, e4, e5⟩ := t4.cells
 clear hl1 hb1 hb2 hg2 hB2 c0 c1 c2 c3 c4 c5 hs2
 go_wp2_with fail
 refine (CA2.out w2 q1 p1 _ (HFB.out w2 HB2.out).2 t2 t3).mono ?_
 rintro e w3 ⟨q3, p3, rfl, hb3⟩
 obtain ⟨w4, hw4, hb4, hg4, hs4⟩ := one_box w3 (.slice q3 1 p3) 38
 have HB4 : Hid (Below w2.heap.size w2 w4) := hb3.trans (hb4.mono hb3.size)
 clear d0 e0 e1 e2 e3 e4 e5 t2 t3 t4
 obtain ⟨d0, t2, t3, t4, -⟩ := HK2.out w4 HB4.out
 obtain ⟨e0, e1, e2, e3, e4, e5⟩ := t4.cells
 clear hb3 hb4 hg4 hs4
 go_wp2_with fail
 refine (CB1.out w4 q1 p1 _ t2 t3).mono ?_
 rintro e w5 ⟨q5, p5, rfl, hb5⟩
 obtain ⟨w6, hw6, hb6, hg6, hs6⟩ := one_box w5 (.slice q5 0 p5) 38
 have hB6 : Below w2.heap.size w2 w6 := HB4.out.trans ((hb5.trans (hb6.mono hb5.size)).mono HB4.out.size)
 have HB6 : Hid (Below w2.heap.size w2 w6) := hB6
 have HC6 : Hid (∀ V, Below w6.heap.size w6 V → V.cell? ⟨w5.heap.size, 0, none⟩ = some (.slice q5 0 p5) ∧ Below w2.heap.size w2 V) := fun V hb => ⟨(hb.cell (p := ⟨w5.heap.size, 0, none⟩) (by show w5.heap.size < _; omega)).trans (cell_of_row hg6 rfl), hB6.trans (hb.mono hB6.size)⟩
 clear d0 e0 e1 e2 e3 e4 e5 t2 t3 t4
 obtain ⟨d0, t2, t3, t4, -⟩ := HK2.out w6 hB6
 obtain ⟨e0, e1, e2, e3, e4, e5⟩ := t4.cells
 clear hb5 hb6 hg6 hs6 hB6 HB4
 go_wp2_with fail
 refine (CB2.out w6 q1 p1 _ t2 t3).mono ?_
 rintro e w7 ⟨q7, p7, rfl, hb7⟩
 obtain ⟨w8, hw8, hb8, hg8, hs8⟩ := one_box w7 (.slice q7 1 p7) 38
 have HB8 : Hid (Below w6.heap.size w6 w8) := hb7.trans (hb8.mono hb7.size)
 clear d0 e0 e1 e2 e3 e4 e5 t2 t3 t4 hb7 hb8 hg8 hs8
 go_wp2_with fail
 refine (CP.out w8).mono ?_
 rintro e w9 ⟨q9, n9, p9, rfl, hn9, hl9, hb9⟩
 obtain ⟨w10, hw10, hb10, hg10, hs10⟩ := one_box w9 (.slice q9 n9 p9) 24
 have hB10 : Below w6.heap.size w6 w10 := HB8.out.trans ((hb9.trans (hb10.mono hb9.size)).mono HB8.out.size)
 obtain ⟨f0, hB2'⟩ := HC6.out w10 hB10
 have HL9 : Hid (ListIs rQid 2 16 (From w8.heap.size w9) w10 (.slice q9 n9 p9) [(0, 1)] ∧ ∀ b, From w8.heap.size w9 b → b < w10.heap.size) := ⟨hl9.mono mQid (fun _ h => h) (kept_of (fun b h => h.2) hb10), fun b h => by have := h.2; omega⟩
 have HBF : Hid (Below w.heap.size w w10) := (HFB.out w10 (HB2.out.trans (hB2'.mono HB2.out.size))).2
 have g0 := cell_of_row (k := 0) hg10 rfl
 clear hb9 hl9 hb10 hg10 hs10 hB10 hB2' hn9
 go_wp2_with fail
 refine (CH.out w10 _ _ HL9.out.1 HL9.out.2).mono ?_
 rintro e w11 ⟨rfl, hb11⟩
 have HB11 : Hid (Below w.heap.size w w11) := HBF.out.trans (hb11.mono HBF.out.size)
 clear hb11
 go_wp2_with fail
 go_ret
 exact ⟨rfl, HB11.out⟩
end Go.Proofs.YtajomnfeicfdlaaGreatDoor

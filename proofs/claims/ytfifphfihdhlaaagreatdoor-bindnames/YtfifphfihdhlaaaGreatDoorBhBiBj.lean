/- Whether a step is a column outside: what the closure, IndexFunc and ContainsFunc answer. -/
import Derived.Test.YtfifphfihdhlaaaGreatDoorBfBg
import Derived.Laws.MakeOwn
set_option maxRecDepth 100000
set_option maxHeartbeats 32000000
namespace Go.Proofs.YtfifphfihdhlaaaGreatDoor.Bd
open Tryz
open Go.Shelf Go.RowKit Go.Lib Go.Sort
set_option linter.unusedVariables false
set_option linter.unusedSimpArgs false
attribute [local go_sem ↓] Go.wp_at_zero Go.wp_at_succ
theorem enters37 : ∀ args w, (callFunc 37 args).run prog w = .ok (.enter 37 args) w := enters_of func37 (by kernel_rfl) rfl
theorem kind1_any (x : Stp) (n b : Nat) (q : Option Addr) (c : Nat) (w : World) (hb : w.cell? ⟨b, 0, none⟩ = some (.slice q n c)) (hbl : b < w.heap.size) :
 Calls prog 37 #[x.v, .pointer (some ⟨b, 0, none⟩)] w fun e w' => e = .returned (.bool (outP n x)) ∧ Bl w w' := by
 obtain ⟨s, hse⟩ := bya x.t
 have hv : x.v = .agg #[.int .u8 (x.k : Int), .string s, .int .i64 x.n] := by rw [← hse]; rfl
 obtain ⟨W0, hW0⟩ := gen (w.alloc (.cells #[.int .u8 (x.k : Int), .string s, .int .i64 x.n] 53))
 have hb0 : Bl w W0 := by rw [← hW0]; exact below_alloc _ _
 have g0 : W0.heap[w.heap.size]? = some (.cells #[.int .u8 (x.k : Int), .string s, .int .i64 x.n] 53 (0, 0)) := by rw [← hW0]; exact heap_alloc_new w _
 have HR0 : Hid (W0.rangeAt w.heap.size 0 [.int .u8 (x.k : Int), .string s, .int .i64 x.n]) := rgz g0
 have cb : W0.cell? ⟨b, 0, none⟩ = some (.slice q n c) := (hb0.cell (p := ⟨b, 0, none⟩) hbl).trans hb
 have C := hid (outside_any x n W0)
 rw [hv] at C
 rw [hv]
 have HB := hid hb0
 clear hb hbl g0 hb0 hse hv
 go_enter func37, ntmps37
 go_wp2_with (refine wpList_load_mid rfl 53 _ rfl w.heap.size 0 rfl _ _ HR0.out underlying53 rfl sz_step ?_)
 refine C.out.mono ?_
 rintro e w1 ⟨rfl, hb1⟩
 have HB1 : Hid (Bl w w1) := HB.out.trans (hb1.mono HB.out.size)
 clear C hb1 HB HR0
 go_wp2_with fail
 go_ret
 exact ⟨rfl, HB1.out⟩
theorem index_out (K : Nat → Prop) (p q : Option Addr) (d c : Nat) (l : List Stp) (n b : Nat) (w : World) (h : ListIs rStpW 3 32 K w (.slice p l.length d) l) (hK : ∀ b, K b → b < w.heap.size) (hb : w.cell? ⟨b, 0, none⟩ = some (.slice q n c)) (hbl : b < w.heap.size) :
 Calls prog 80 #[.slice p l.length d, .func (.func 37) #[] #[.pointer (some ⟨b, 0, none⟩)]] w fun e w' => ∃ k : Int, e = .returned (.int .i64 k) ∧ ((0 ≤ k ∧ l.any (outP n) = true) ∨ (k = -1 ∧ l.any (outP n) = false)) ∧ Bl w w' := by
 have hbig : l.length ≤ 140737488355328 := by
  obtain ⟨q', c', -, ⟨hb, -⟩, -⟩ := h
  omega
 have HL := hid h
 have HK := hid hK
 have HC : Hid (w.cell? ⟨b, 0, none⟩ = some (.slice q n c) ∧ b < w.heap.size) := ⟨hb, hbl⟩
 have eg := enters37
 obtain ⟨N, hN⟩ := gen l.length
 have HN := hid hN
 rw [hN]
 rw [hN] at hbig
 clear h hK hN hb hbl
 go_enter func80, ntmps80
 go_wp2_with fail
 go_loopg [8] N (fun gf s8 wx => ∃ (i : Nat), s8 = .int .i64 i ∧ i ≤ N ∧ N ≤ i + gf ∧ Hid (Bl w wx) ∧ Hid ((l.take i).any (outP n) = false))
 case atStart => exact ⟨0, rfl, by omega, by omega, Below.refl _ _, rfl⟩
 case round =>
  obtain ⟨i, rfl, hi1, hgf, HB, HA⟩ := hrel
  by_cases hi : i < N
  · obtain ⟨g', rfl⟩ : ∃ g', gk = g' + 1 := ⟨gk - 1, by omega⟩
    have hil : i < l.length := by rw [HN.out]; exact hi
    obtain ⟨b2, o, hq, _, hc⟩ := stp_w (HL.out.mono mStpW (fun _ h => h) (kept_of HK.out HB.out)) (by omega)
    subst hq
    obtain ⟨hrg, -⟩ := hc i hil
    have htk : l.take (i + 1) = l.take i ++ [l[i]] := List.take_succ_eq_append_getElem hil
    have hmem : l[i] ∈ l := List.getElem_mem hil
    obtain ⟨y, hy⟩ := gen (l[i])
    rw [hy] at hrg htk hmem
    have CC := hid (kind1_any y n b q c wr ((HB.out.cell (p := ⟨b, 0, none⟩) HC.out.2).trans HC.out.1) (by have := HB.out.size; have := HC.out.2; omega))
    obtain ⟨s, hse⟩ := bya y.t
    rw [show y.v = .agg #[.int .u8 (y.k : Int), .string s, .int .i64 y.n] by rw [← hse]; rfl] at CC
    rw [hse] at hrg
    have HRG := hid hrg
    have HTK : Hid (l.take (i + 1) = l.take i ++ [y]) := htk
    have HM : Hid (y ∈ l) := hmem
    have z0 : (0 : Int) ≤ (i : Int) := by omega
    have z1 : (i : Int) < (N : Int) := by omega
    clear hc htk hmem hy hil hse hrg
    go_wp2_with (refine wpList_load_mid rfl 53 _ rfl b2 (o + i * 3) rfl _ _ HRG.out underlying53 rfl sz_step ?_)
    refine CC.out.mono ?_
    rintro e w3 ⟨rfl, hb3⟩
    have HB3 : Hid (Bl w w3) := HB.out.trans (hb3.mono HB.out.size)
    clear CC hb3 HRG
    cases hpy : outP n y with
    | true =>
     have HF : Hid (l.any (outP n) = true) := List.any_eq_true.2 ⟨y, HM.out, hpy⟩
     clear hpy HA
     go_wp2_with fail
     go_ret
     exact ⟨_, rfl, .inl ⟨by omega, by first | exact HF.out | exact List.any_eq_true.1 HF.out⟩, HB3.out⟩
    | false =>
     have HA2 : Hid ((l.take (i + 1)).any (outP n) = false) := by
      show _ = _
      rw [HTK.out, List.any_append, HA.out]
      simp [hpy]
     clear hpy HA
     go_wp2_with fail
     go_roundg g'
     case measure => omega
     case rel => exact ⟨i + 1, by go_num, by omega, by omega, HB3, HA2⟩
  · have z1 : ¬ (i : Int) < (N : Int) := by omega
    have HF : Hid (l.any (outP n) = false) := by
     have := HA.out
     rwa [List.take_of_length_le (by rw [HN.out]; omega)] at this
    clear HA
    go_wp2_with fail
    go_ret
    exact ⟨_, rfl, .inr ⟨rfl, by first | exact HF.out | exact List.any_eq_false.1 HF.out | (have := HF.out; simpa using this)⟩, HB.out⟩
theorem contains_out (K : Nat → Prop) (p q : Option Addr) (d c : Nat) (l : List Stp) (n b : Nat) (w : World) (h : ListIs rStpW 3 32 K w (.slice p l.length d) l) (hK : ∀ b, K b → b < w.heap.size) (hb : w.cell? ⟨b, 0, none⟩ = some (.slice q n c)) (hbl : b < w.heap.size) :
 Calls prog 36 #[.slice p l.length d, .func (.func 37) #[] #[.pointer (some ⟨b, 0, none⟩)]] w fun e w' => e = .returned (.bool (l.any (outP n))) ∧ Bl w w' := by
 have CC := hid (index_out K p q d c l n b w h hK hb hbl)
 obtain ⟨r, hr⟩ := gen (l.any (outP n))
 obtain ⟨N, hN⟩ := gen l.length
 rw [hr, hN] at CC
 rw [hr, hN]
 clear h hK hb hbl hr hN
 go_enter func36, ntmps36
 go_wp2_with fail
 refine CC.out.mono ?_
 rintro e w1 ⟨k, rfl, hk, hb⟩
 have HB := hid hb
 rcases hk with ⟨z, hk⟩ | ⟨rfl, hk⟩
 · subst hk
   clear hb CC
   go_wp2_with fail
   go_ret
   exact ⟨by simp [z], HB.out⟩
 · subst hk
   clear hb CC
   go_wp2_with fail
   go_ret
   exact ⟨rfl, HB.out⟩
theorem take_put (l : List Value) (o : Nat) (v : Value) (h : o < l.length) : (l.set o v).take (o + 1) = l.take o ++ [v] := by
 rw [List.take_succ_eq_append_getElem (by simpa using h), List.getElem_set_self, List.take_set_of_le (Nat.le_refl _)]
theorem setCells_blk (g : Nat) (te : TypeId) : ∀ (vs : List Value) (o : Nat) (W : World) (cur : Array Value), W.heap[g]? = some (.cells cur te (0, 0)) → o + vs.length ≤ cur.size →
 ∃ cur', (W.setCells g o vs).heap[g]? = some (.cells cur' te (0, 0)) ∧ cur'.size = cur.size ∧ cur'.toList.take (o + vs.length) = cur.toList.take o ++ vs
 | [], o, W, cur, hg, h => ⟨cur, hg, rfl, by simp⟩
 | v :: vs, o, W, cur, hg, h => by
  simp only [List.length_cons] at h
  have h1 := heap_setCell_same W g o cur te v hg
  obtain ⟨c2, hg2, hs2, ht2⟩ := setCells_blk g te vs (o + 1) (W.setCell ⟨g, o, none⟩ v) (cur.setIfInBounds o v) h1 (by simp; omega)
  refine ⟨c2, hg2, by simpa using hs2, ?_⟩
  rw [show o + (v :: vs).length = o + 1 + vs.length by simp; omega, ht2, Array.toList_setIfInBounds, take_put _ _ _ (by simp; omega), List.append_assoc]
  rfl
def Fil (te : TypeId) (size n base : Nat) (w : World) (g : Nat) (cs : List Value) (W : World) : Prop :=
 (∃ cur : Array Value, W.heap[g]? = some (.cells cur te (0, 0)) ∧ cur.size = n * size ∧ cur.toList.take cs.length = cs) ∧ Below base w W ∧ base ≤ g
theorem Fil.start (te : TypeId) (size n : Nat) (w : World) (Z : Array Value) (hZ : Z.size = n * size) : Fil te size n w.heap.size w w.heap.size [] (w.alloc (.cells Z te)) :=
 ⟨⟨Z, heap_alloc_new w _, hZ, rfl⟩, below_alloc _ _, Nat.le_refl _⟩
theorem Fil.below {te : TypeId} {size n base : Nat} {w W : World} {g : Nat} {cs : List Value} (h : Fil te size n base w g cs W) : Below base w W := h.2.1
theorem Fil.lt {te : TypeId} {size n base : Nat} {w W : World} {g : Nat} {cs : List Value} (h : Fil te size n base w g cs W) : g < W.heap.size := by
 obtain ⟨⟨cur, hg, _⟩, _⟩ := h
 exact (gsi hg).1
theorem Fil.later {te : TypeId} {size n base : Nat} {w W W' : World} {g : Nat} {cs : List Value} (h : Fil te size n base w g cs W) (hb : Bl W W') : Fil te size n base w g cs W' := by
 have hl := h.lt
 obtain ⟨⟨cur, hg, h1, h2⟩, hB, hbg⟩ := h
 exact ⟨⟨cur, (hb.block _ hl).trans hg, h1, h2⟩, hB.trans (hb.mono (by omega)), hbg⟩
theorem Fil.kept {te : TypeId} {size n base : Nat} {w W W' : World} {g : Nat} {cs : List Value} (h : Fil te size n base w g cs W) (hk : W'.heap[g]? = W.heap[g]?) (hB : Below base w W') : Fil te size n base w g cs W' := by
 obtain ⟨⟨cur, hg, h1, h2⟩, _, hbg⟩ := h
 exact ⟨⟨cur, hk.trans hg, h1, h2⟩, hB, hbg⟩
theorem Fil.less {te : TypeId} {size n base : Nat} {w W : World} {g : Nat} {cs vs : List Value} (h : Fil te size n base w g (cs ++ vs) W) : Fil te size n base w g cs W := by
 obtain ⟨⟨cur, hg, h1, h2⟩, hB, hbg⟩ := h
 refine ⟨⟨cur, hg, h1, ?_⟩, hB, hbg⟩
 have := congrArg (List.take cs.length) h2
 rw [List.take_take, List.length_append, Nat.min_eq_left (by omega), List.take_left] at this
 exact this
theorem Fil.put {te : TypeId} {size n base : Nat} {w W : World} {g : Nat} {cs : List Value} (h : Fil te size n base w g cs W) (vs : List Value) (hv : cs.length + vs.length ≤ n * size) :
 W.there g cs.length vs.length ∧ ∃ X, W.setCells g cs.length vs = X ∧ Fil te size n base w g (cs ++ vs) X ∧ X.heap.size = W.heap.size ∧ Kept (fun b => b ≠ g) W X := by
 obtain ⟨⟨cur, hg, h1, h2⟩, hB, hbg⟩ := h
 have ht : W.there g cs.length vs.length := fun j hj => by
  refine ⟨?_, frozen_zero hg _⟩
  rw [cellR hg (Array.getElem?_eq_getElem (by omega : cs.length + j < cur.size))]
  rfl
 obtain ⟨c2, hg2, hs2, ht2⟩ := setCells_blk g te vs cs.length W cur hg (by omega)
 obtain ⟨a1, a2, a3, a4, a5⟩ := setCells_any g vs cs.length W
 exact ⟨ht, _, rfl, ⟨⟨c2, hg2, by omega, by rw [List.length_append, ht2, h2]⟩, ⟨a2.trans hB.os, a3.trans hB.tape, a4.trans hB.output, by have := hB.size; omega, fun j hj => (a5 j (by omega)).trans (hB.block j hj)⟩, hbg⟩, a1, ⟨a2, a3, a4, by omega, fun b hb => a5 b hb⟩⟩
theorem Fil.put1 {te : TypeId} {size n base : Nat} {w W : World} {g : Nat} {cs : List Value} (h : Fil te size n base w g cs W) (v : Value) (hv : cs.length + 1 ≤ n * size) :
 (∃ u, W.cell? ⟨g, cs.length, none⟩ = some u) ∧ W.frozen? ⟨g, cs.length, none⟩ = false ∧ ∃ X, W.setCell ⟨g, cs.length, none⟩ v = X ∧ Fil te size n base w g (cs ++ [v]) X ∧ X.heap.size = W.heap.size ∧ Kept (fun b => b ≠ g) W X := by
 obtain ⟨ht, X, hX, hF, hs, hk⟩ := h.put [v] hv
 refine ⟨?_, ?_, X, hX, hF, hs, hk⟩
 · have := (ht 0 (by simp)).1
   rw [Nat.add_zero] at this
   exact Option.isSome_iff_exists.1 this
 · have := (ht 0 (by simp)).2
   rwa [Nat.add_zero] at this
theorem Fil.cell {te : TypeId} {size n base : Nat} {w W : World} {g : Nat} {cs : List Value} (h : Fil te size n base w g cs W) {j : Nat} {u : Value} (hj : cs[j]? = some u) : W.cell? ⟨g, j, none⟩ = some u := by
 obtain ⟨⟨cur, hg, h1, h2⟩, hB, hbg⟩ := h
 have hl := (List.getElem?_eq_some_iff.1 hj).1
 rw [← h2, List.getElem?_take_of_lt hl] at hj
 exact cell_of_row hg (by simpa using hj)
theorem Fil.owns {te : TypeId} {size n base : Nat} {w W : World} {g : Nat} {cs : List Value} (h : Fil te size n base w g cs W) (hl : cs.length = n * size) (hm : n ≤ maxLen) : W.ownsRow base te size (.slice (some ⟨g, 0, none⟩) n n) n cs := by
 obtain ⟨⟨cur, hg, h1, h2⟩, hB, hbg⟩ := h
 exact ⟨hl, .inr ⟨g, n, cur, rfl, hbg, hg, Nat.le_refl _, hm, h1, by rw [← hl]; exact h2⟩⟩
theorem flat_len {α : Type} (f : α → List Value) (size : Nat) (hf : ∀ x, (f x).length = size) (l : List α) : (l.flatMap f).length = l.length * size := by
 induction l with
 | nil => simp
 | cons x l ih => rw [List.flatMap_cons, List.length_append, hf, ih, List.length_cons, Nat.add_mul, Nat.one_mul, Nat.add_comm]
theorem flat_part {α : Type} (f : α → List Value) (size : Nat) (hf : ∀ x, (f x).length = size) : ∀ (l : List α) (j : Nat) (h : j < l.length), ((l.flatMap f).drop (j * size)).take size = f l[j]
 | x :: l, 0, h => by
  rw [Nat.zero_mul, List.drop_zero, List.flatMap_cons, List.take_left' (hf x)]
  rfl
 | x :: l, j + 1, h => by
  rw [List.flatMap_cons, Nat.add_mul, Nat.one_mul, Nat.add_comm, ← List.drop_drop, List.drop_left' (hf x), flat_part f size hf l j (by simpa using h)]
  rfl
theorem Fil.own {α : Type} {rel : Rel α} {te : TypeId} {size n base : Nat} {w W : World} {g : Nat} (f : α → List Value) (hf : ∀ x, (f x).length = size) {l : List α} (h : Fil te size n base w g (l.flatMap f) W) (hn : l.length = n) (hm : n ≤ maxLen) (hr : ∀ x ∈ l, rel (fun _ => False) W (f x) x) : OwnR rel size te base W (.slice (some ⟨g, 0, none⟩) n n) l := by
 subst hn
 refine ⟨fun _ => False, l.flatMap f, fun b h => h.elim, h.owns (flat_len f size hf l) hm, fun j hj => ?_⟩
 rw [flat_part f size hf l j hj]
 exact hr _ (List.getElem_mem hj)
def cellsS (x : Stp) : List Value := [.int .u8 (x.k : Int), .string ⟨x.t.toArray⟩, .int .i64 x.n]
theorem cellsS_len (x : Stp) : (cellsS x).length = 3 := rfl
theorem okW_withN {x : Stp} (h : okW x) : okW (withN x) := by
 unfold withN
 split
 · exact ⟨by show (6 : Nat) < 256; omega, by show I64 0; unfold I64; omega, by show (5 : Nat) ≤ _; omega⟩
 · exact h
theorem make_stp (n : Nat) (hn : n * 32 ≤ 140737488355328) (w : World) : ∃ Z : Array Value, Z.size = n * 3 ∧ (Instr.makeSlice 23 (.int .i64 (n : Int)) (.int .i64 (n : Int))).run prog w = .ok (.slice (some ⟨w.heap.size, 0, none⟩) n n) (w.alloc (.cells Z 53)) := by
 obtain ⟨i0, hi, hz, hs, hb⟩ := inE_stp
 have := run_make (P := prog) (w := w) 23 53 i0 _ underlying23 hi hz .i64 .i64 (n : Int) (n : Int) (by omega) (by omega) (by rw [hb]; omega) (by omega)
 rw [hs] at this
 refine ⟨madeCells (Value.agg #[.int .u8 0, .string ⟨#[]⟩, .int .i64 0]).cells (n * 3), by rw [size_madeCells], ?_⟩
 simpa using this
theorem stp_ok {K : Nat → Prop} {w : World} {v : Value} {l : List Stp} (h : ListIs rStpW 3 32 K w v l) : ∀ x ∈ l, okW x := fun x hx => by
 obtain ⟨j, hj, rfl⟩ := List.getElem_of_mem hx
 obtain ⟨q, c, rfl, _, hp⟩ := h
 obtain ⟨b, o, rfl, _, hc⟩ := hp (by omega)
 obtain ⟨cs, _, _, _, hk⟩ := hc j hj
 exact hk
theorem withNames_any (K : Nat → Prop) (q : Option Addr) (c : Nat) (l : List Stp) (w : World) (h : ListIs rStpW 3 32 K w (.slice q l.length c) l) (hK : ∀ b, K b → b < w.heap.size) :
 Calls prog 35 #[.slice q l.length c] w fun e w' => (e = .returned (.slice (some ⟨w.heap.size, 0, none⟩) l.length l.length) ∧ ListIs rStpW 3 32 (From w.heap.size w') w' (.slice (some ⟨w.heap.size, 0, none⟩) l.length l.length) (l.map withN)) ∧ Below w.heap.size w w' := by
 have hbig : l.length * 32 ≤ 140737488355328 := by
  obtain ⟨q', c', -, ⟨hb, -⟩, -⟩ := h
  exact hb
 obtain ⟨Z, hZ, hmk⟩ := make_stp l.length hbig w
 have HOK : Hid (∀ x ∈ l, okW x) := stp_ok h
 have HL := hid h
 have HK := hid hK
 obtain ⟨N, hN⟩ := gen l.length
 have HN := hid hN
 rw [hN] at hZ hmk hbig ⊢
 have HF : Hid (Fil 53 3 N w.heap.size w w.heap.size (((l.take 0).map withN).flatMap cellsS) (w.alloc (.cells Z 53))) := Fil.start 53 3 N w Z hZ
 obtain ⟨W1, hW1⟩ := gen (w.alloc (.cells Z 53))
 rw [hW1] at hmk HF
 obtain ⟨G, hG⟩ := gen w.heap.size
 rw [hG] at hmk HF ⊢
 have HG := hid hG
 clear h hK hN hZ hW1 hG
 go_enter func35, ntmps35
 go_wp2_with fail
 go_loopg [11] N (fun gf s wx => ∃ i : Nat, s = .int .i64 i ∧ i ≤ N ∧ N ≤ i + gf ∧ Hid (Fil 53 3 N G w G (((l.take i).map withN).flatMap cellsS) wx))
 case atStart => exact ⟨0, rfl, by omega, by omega, HF⟩
 case round =>
  clear HF hmk
  obtain ⟨i, rfl, hi1, hgf, HF⟩ := hrel
  by_cases hi : i < N
  · obtain ⟨g', rfl⟩ : ∃ g', gk = g' + 1 := ⟨gk - 1, by omega⟩
    have hil : i < l.length := by rw [HN.out]; exact hi
    have hbw : Below w.heap.size w wr := by rw [HG.out]; exact HF.out.below
    obtain ⟨b, o, hq, _, hc⟩ := stp_w (HL.out.mono mStpW (fun _ h => h) (kept_of HK.out hbw)) (by omega)
    subst hq
    obtain ⟨hrg, -⟩ := hc i hil
    have htk : l.take (i + 1) = l.take i ++ [l[i]] := List.take_succ_eq_append_getElem hil
    obtain ⟨y, hy⟩ := gen (l[i])
    rw [hy] at hrg htk
    obtain ⟨s, hse⟩ := bya y.t
    have hyv : y.v = .agg #[.int .u8 (y.k : Int), .string s, .int .i64 y.n] := by rw [← hse]; rfl
    rw [hse] at hrg
    obtain ⟨k, hk⟩ : ∃ k : Int, (y.k : Int) = k := ⟨_, rfl⟩
    obtain ⟨m, hm⟩ : ∃ m : Int, y.n = m := ⟨_, rfl⟩
    rw [hk, hm] at hrg hyv
    have HRG := hid hrg
    obtain ⟨WA, hWA, hth, V1, hV1, hg1, hb1⟩ := box_three wr 53 (.int .u8 0) (.string ⟨#[]⟩) (.int .i64 0) (.int .u8 k) (.string s) (.int .i64 m)
    have HTH := hid hth
    have HV1 := hid hV1
    have HR0 : Hid (V1.rangeAt wr.heap.size 0 [.int .u8 k, .string s, .int .i64 m]) := rgz hg1
    have HF1 : Hid (Fil 53 3 N G w G (((l.take i).map withN).flatMap cellsS) V1) := HF.out.later hb1
    have C := hid (withName_any y V1)
    rw [hyv] at C
    have hlen : (((l.take i).map withN).flatMap cellsS).length = i * 3 := by
     rw [flat_len cellsS 3 cellsS_len, List.length_map, List.length_take, Nat.min_eq_left (by omega)]
    obtain ⟨z, hz⟩ := gen (withN y)
    obtain ⟨zs, hzs⟩ := bya z.t
    obtain ⟨zk, hzk⟩ : ∃ k : Int, (z.k : Int) = k := ⟨_, rfl⟩
    obtain ⟨zn, hzn⟩ : ∃ k : Int, z.n = k := ⟨_, rfl⟩
    have hzv : z.v = .agg #[.int .u8 zk, .string zs, .int .i64 zn] := by rw [← hzs, ← hzk, ← hzn]; rfl
    rw [hz, hzv] at C
    have HZC : Hid (cellsS z = [.int .u8 zk, .string zs, .int .i64 zn]) := by show _ = _; unfold cellsS; rw [hzs, hzk, hzn]
    have HNX : Hid (((l.take (i + 1)).map withN).flatMap cellsS = ((l.take i).map withN).flatMap cellsS ++ cellsS z) := by
     show _ = _
     rw [htk, List.map_append, List.flatMap_append, ← hz]; simp
    have HLEN := hid hlen
    have z0 : (0 : Int) ≤ (i : Int) := by omega
    have z1 : (i : Int) < (N : Int) := by omega
    clear hc hrg htk hy hil hyv hse hk hm hth hV1 hg1 hlen hz hzs hzk hzn hzv hbw HF
    go_wp2_with (first | (refine wpList_load_mid rfl 53 _ rfl b (o + i * 3) rfl _ _ HRG.out underlying53 rfl sz_step ?_) | (refine wpList_load_mid rfl 53 _ rfl wr.heap.size 0 rfl _ _ HR0.out underlying53 rfl sz_step ?_) | (refine wpList_store_mid rfl 53 _ _ rfl wr.heap.size 0 #[.int .u8 k, .string s, .int .i64 m] rfl rfl HTH.out sz_step (by simp [Value.oneCell']) ?_; rw [show WA.setCells wr.heap.size 0 (#[.int .u8 k, .string s, .int .i64 m] : Array Value).toList = V1 from HV1.out]))
    refine C.out.mono ?_
    rintro e w3 ⟨rfl, hb3⟩
    have hF3 := HF1.out.later hb3
    obtain ⟨hth3, X, hX, hFX, _, _⟩ := hF3.put (cellsS z) (by rw [HLEN.out, cellsS_len]; omega)
    rw [HLEN.out, HZC.out] at hth3 hX
    have HTH3 : Hid (w3.there G (i * 3) 3) := hth3
    have HX : Hid (w3.setCells G (i * 3) (#[.int .u8 zk, .string zs, .int .i64 zn] : Array Value).toList = X) := hX
    have HF2 : Hid (Fil 53 3 N G w G (((l.take (i + 1)).map withN).flatMap cellsS) X) := by show Fil _ _ _ _ _ _ _ _; rw [HNX.out]; exact hFX
    clear C HTH HV1 HR0 HF1 HZC HNX HLEN hb3 hF3 hth3 hX hFX HRG hb1 hWA
    go_wp2_with (refine wpList_store_mid rfl 53 _ _ rfl G (i * 3) #[.int .u8 zk, .string zs, .int .i64 zn] rfl rfl HTH3.out sz_step (by simp [Value.oneCell']) ?_; rw [HX.out])
    go_roundg g'
    case measure => omega
    case rel => exact ⟨i + 1, by go_num, by omega, by omega, HF2⟩
  · have z1 : ¬ (i : Int) < (N : Int) := by omega
    have hiN : i = l.length := by rw [HN.out]; omega
    have HE : Hid (ListIs rStpW 3 32 (From w.heap.size wr) wr (.slice (some ⟨G, 0, none⟩) N N) (l.map withN) ∧ Below w.heap.size w wr) := by
     have hF := HF.out
     rw [hiN, List.take_length] at hF
     have hO : OwnR rStpW 3 53 G wr (.slice (some ⟨G, 0, none⟩) N N) (l.map withN) := hF.own cellsS cellsS_len (by rw [List.length_map, HN.out]) (by unfold maxLen; omega) (fun x hx => by
      obtain ⟨y, hy, rfl⟩ := List.mem_map.1 hx
      exact ⟨rfl, okW_withN (HOK.out y hy)⟩)
     obtain ⟨p, c', e, hli⟩ := hO.list (bytes := 32) mStpW (by rw [List.length_map, HN.out]; exact hbig)
     cases e
     rw [List.length_map, HN.out] at hli
     rw [HG.out]
     exact ⟨hli, hF.below⟩
    clear HF hiN
    go_wp2_with fail
    go_ret
    rw [HG.out] at HE
    exact ⟨⟨rfl, HE.out.1⟩, HE.out.2⟩
end Go.Proofs.YtfifphfihdhlaaaGreatDoor.Bd

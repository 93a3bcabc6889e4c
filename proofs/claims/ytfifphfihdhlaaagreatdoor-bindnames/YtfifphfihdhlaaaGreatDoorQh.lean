/- Steps, one behind the other. -/
import Derived.Test.YtfifphfihdhlaaaGreatDoorQg
set_option maxRecDepth 100000
set_option maxHeartbeats 32000000
namespace Go.Proofs.YtfifphfihdhlaaaGreatDoor
open Tryz
open Go.Shelf Go.RowKit Go.Lib Go.Sort
set_option linter.unusedVariables false
set_option linter.unusedSimpArgs false
attribute [local go_sem ↓] Go.wp_at_zero Go.wp_at_succ
def okP (x : Stp) : Prop := x.k < 256 ∧ I64 x.n ∧ x.t.length ≤ 100000
def rStp : Rel Stp := fun K W cs x => cs = [.int .u8 (x.k : Int), .string ⟨x.t.toArray⟩, .int .i64 x.n] ∧ okP x
theorem mStp : Mono rStp := fun _ _ _ _ _ _ _ _ h => h
theorem inE_stp : ∃ i0, prog.info? 53 = some i0 ∧ i0.zero = some (.agg #[.int .u8 0, .string ⟨#[]⟩, .int .i64 0]) ∧ i0.size = 3 ∧ i0.bytes = 32 := by
 have h1 : (prog.info? 53).bind (·.zero) = some (.agg #[.int .u8 0, .string ⟨#[]⟩, .int .i64 0]) := by kernel_rfl
 have h2 : (prog.info? 53).map (fun i => (i.size, i.bytes)) = some (3, 32) := by kernel_rfl
 cases h : prog.info? 53 with
 | none => rw [h] at h2; cases h2
 | some i0 =>
  rw [h] at h1 h2
  have h3 := Option.some.inj h2
  exact ⟨i0, rfl, h1, (Prod.mk.inj h3).1, (Prod.mk.inj h3).2⟩
theorem OwnR.held {α : Type} {rel : Rel α} (hm : Mono rel) {size : Nat} {te : TypeId} {base : Nat} {W W' : World} {u : Value} {xs : List α} (h : OwnR rel size te base W u xs) (hk : Kept (fun b => base ≤ b ∧ b < W.heap.size) W W') : OwnR rel size te base W' u xs := by
 obtain ⟨K, cells, hK, ho, hr⟩ := h
 exact ⟨K, cells, fun b hb => ⟨(hK b hb).1, nlt (hK b hb).2.1 hk.size, (hK b hb).2.2⟩, owns_kept ho (fun g hg => hk.block g (ho.lt g hg)), fun j hj => hm _ _ _ _ _ _ (fun _ h => h) (hk.less fun b hb => ⟨(hK b hb).1, (hK b hb).2.1⟩) (hr j hj)⟩
def flatS (l : List Stp) : List Value := l.flatMap fun x => [.int .u8 (x.k : Int), .string ⟨x.t.toArray⟩, .int .i64 x.n]
theorem flatS_app (a b : List Stp) : flatS (a ++ b) = flatS a ++ flatS b := by simp [flatS]
def StS (base : Nat) (W : World) (u : Value) (l : List Stp) : Prop := W.ownsRow base 53 3 u l.length (flatS l) ∧ (∀ y ∈ l, okP y) ∧ l.length ≤ 64
theorem StS.slice {base : Nat} {W : World} {u : Value} {l : List Stp} (h : StS base W u l) : ∃ p c, u = .slice p l.length c := owns_slice h.1
theorem StS.held {base : Nat} {W W' : World} {u : Value} {l : List Stp} (h : StS base W u l) (hk : ∀ g, u.ownBlock = some g → W'.heap[g]? = W.heap[g]?) : StS base W' u l := ⟨owns_kept h.1 hk, h.2⟩
def OwnTo (w : World) (u v : Value) : Prop := ∀ g, v.ownBlock = some g → u.ownBlock = some g ∨ w.heap.size ≤ g
def KeptS (B : Nat) (u : Value) (w w' : World) : Prop := Kept (fun b => b < w.heap.size ∧ b ≠ B ∧ u.ownBlock ≠ some b) w w'
theorem OwnTo.refl (w : World) (u : Value) : OwnTo w u u := fun g h => .inl h
theorem OwnTo.trans {w w' : World} {u v z : Value} (h : OwnTo w u v) (h' : OwnTo w' v z) (hs : w.heap.size ≤ w'.heap.size) : OwnTo w u z := fun g hg => by
 rcases h' g hg with h1 | h1
 · exact h g h1
 · exact .inr (by omega)
theorem KeptS.trans {B : Nat} {u v : Value} {w w1 w2 : World} (h : KeptS B u w w1) (ho : OwnTo w u v) (h' : KeptS B v w1 w2) : KeptS B u w w2 :=
 Kept.trans h (h'.less fun b hb => ⟨nlt hb.1 h.size, hb.2.1, fun e => by rcases ho b e with h1 | h1; exact hb.2.2 h1; omega⟩)
theorem KeptS.of_below {B : Nat} {u : Value} {w w' : World} (h : Bl w w') : KeptS B u w w' := kept_of (fun b hb => hb.1) h
theorem KeptS.of_take {B : Nat} {u : Value} {w w' : World} (h : Kept (fun b => b < w.heap.size ∧ b ≠ B) w w') : KeptS B u w w' := h.less fun b hb => ⟨hb.1, hb.2.1⟩
theorem Rdr.kept {K : Nat → Prop} {W W' : World} {B : Nat} {en : Int} {x : PS} (h : Rdr K W B en x) (hk : Kept (fun b => b < 10 ∨ K b ∨ b = B) W W') : Rdr K W' B en x := by
 obtain ⟨p, c, hg, hli, hnK, hK, hG, r⟩ := h
 exact ⟨p, c, (hk.block _ (.inr (.inr rfl))).trans hg, hli.mono mTok (fun _ h => h) (hk.less fun _ h => .inr (.inl h)), hnK, fun b h => nlt (hK b h) hk.size, hG.kept (hk.less fun _ h => .inl h), r⟩
theorem put_any (u : Value) (l : List Stp) (y : Stp) (a : Int) (base : Nat) (w : World) (ho : StS base w u l) (hbase : base ≤ w.heap.size) (hy : okP y) :
 Calls prog 225 #[u, y.v, .int .i64 a] w fun e w' => Kept (fun b => b < w.heap.size ∧ u.ownBlock ≠ some b) w w' ∧ ((l.length = 64 ∧ e = faultE 3 a) ∨ (l.length < 64 ∧ ∃ v, e = .returned v ∧ StS base w' v (l ++ [y]) ∧ OwnTo w u v)) := by
 obtain ⟨s, hs⟩ := bya y.t
 have hv : y.v = .agg #[.int .u8 (y.k : Int), .string s, .int .i64 y.n] := by rw [← hs]; rfl
 obtain ⟨W0, hW0⟩ := gen (w.alloc (.cells #[.int .u8 (y.k : Int), .string s, .int .i64 y.n] 53))
 have hb0 : Bl w W0 := by rw [← hW0]; exact (Below.refl _ _).alloc (Nat.le_refl _) _
 have hg0 : W0.heap[w.heap.size]? = some (.cells #[.int .u8 (y.k : Int), .string s, .int .i64 y.n] 53 (0, 0)) := by rw [← hW0]; exact heap_alloc_new w _
 obtain ⟨p, c, rfl⟩ := ho.slice
 have HK0 : Hid (Kept (fun b => b < w.heap.size ∧ (Value.slice p l.length c).ownBlock ≠ some b) w W0) := kept_of (fun b h => h.1) hb0
 rw [hv]
 by_cases h64 : l.length = 64
 · have y64 : ((l.length : Int) == 64) = true := by simp [h64]
   have H64 : Hid (l.length = 64) := h64
   clear h64 hb0 hg0 ho hbase hy hs hv
   go_enter func225, ntmps225
   go_wp2_with fail
   exact ⟨rfl, HK0.out, .inl ⟨H64.out, rfl⟩⟩
 · have hl64 := ho.2.2
   have y64 : ((l.length : Int) == 64) = false := bfn (by omega)
   have H64 : Hid (l.length < 64) := by show _ < _; omega
   obtain ⟨i0, hi0, hz0, hz1, hz2⟩ := inE_stp
   obtain ⟨W1, hW1⟩ := gen (W0.alloc (.cells #[.int .u8 (y.k : Int), .string s, .int .i64 y.n] 53))
   have hb1 : Bl W0 W1 := by rw [← hW1]; exact (Below.refl _ _).alloc (Nat.le_refl _) _
   have hg1 : W1.heap[W0.heap.size]? = some (.cells #[.int .u8 (y.k : Int), .string s, .int .i64 y.n] 53 (0, 0)) := by rw [← hW1]; exact heap_alloc_new _ _
   have hbw1 : Bl w W1 := hb0.trans (hb1.mono hb0.size)
   have ho1 : W1.ownsRow base 53 3 (.slice p l.length c) l.length (flatS l) := owns_kept ho.1 (fun g hg => hbw1.block g (ho.1.lt g hg).2)
   obtain ⟨v', X2, e2, ho2, h5, _, h6⟩ := run_append_own_at (P := prog) W1 base 23 23 53 i0 _ 3 32 underlying23 hi0 hz0 hz1 hz2 rfl (by omega) _ l.length (flatS l) ho1 ⟨W0.heap.size, 0, none⟩ 1 1 [.int .u8 (y.k : Int), .string s, .int .i64 y.n] rfl (fun j v hv => by rw [addr_add, Nat.zero_add]; exact cell_of_row hg1 (by simpa using hv)) (fun c hc => by simp at hc; rcases hc with rfl | rfl | rfl <;> rfl) (by unfold maxLen; omega) (by omega) (by have := hbw1.size; omega)
   have hsw := hbw1.size
   have HFI : Hid (Kept (fun b => b < w.heap.size ∧ (Value.slice p l.length c).ownBlock ≠ some b) w X2 ∧ StS base X2 v' (l ++ [y]) ∧ OwnTo w (.slice p l.length c) v') := by
    refine ⟨⟨h5.os.trans hbw1.os, h5.tape.trans hbw1.tape, h5.output.trans hbw1.output, by have := h5.size; omega, fun b hb => (h5.block b (by omega) (fun e => hb.2 e.symm)).trans (hbw1.block b hb.1)⟩, ⟨?_, ?_, by simp; omega⟩, fun g hg => ?_⟩
    · rw [List.length_append, flatS_app]
      have : flatS [y] = [.int .u8 (y.k : Int), .string s, .int .i64 y.n] := by rw [← hs]; rfl
      rw [this]
      exact ho2
    · intro z hz
      rcases List.mem_append.1 hz with h1 | h1
      · exact ho.2.1 z h1
      · have := List.mem_singleton.1 h1; subst this; exact hy
    · rcases h6 with h6 | h6
      · rw [h6] at hg; exact .inl hg
      · rw [h6] at hg; simp only [Option.some.injEq] at hg; exact .inr (by omega)
   have c0 := cell_of_row (k := 0) (v := .int .u8 (y.k : Int)) hg0 rfl
   have c1 := cell_of_row (k := 1) (v := .string s) hg0 rfl
   have c2 := cell_of_row (k := 2) (v := .int .i64 y.n) hg0 rfl
   clear h64 hl64 hb0 hg0 hg1 hb1 hbw1 ho ho1 ho2 h5 h6 hbase hy hs hv HK0 hsw
   go_enter func225, ntmps225
   go_wp2_with (at_builtin; refine Lib.wpList_append_run _ rfl _ _ _ _ rfl (.slice p l.length c) (.slice (some ⟨W0.heap.size, 0, none⟩) 1 1) rfl rfl _ _ e2 ?_)
   go_ret
   exact ⟨HFI.out.1, .inr ⟨H64.out, _, rfl, HFI.out.2⟩⟩
def takesN (k : Nat) : Nat := if k ≤ 6 then 0 else if k ≤ 10 then 1 else 2
theorem right_word (k : Nat) (w : World) (h7 : 7 ≤ k) (h21 : k ≤ 21) : Calls prog 117 #[(⟨k, [], 0⟩ : Stp).v] w fun e w' => e = .returned (.bool true) ∧ Bl w w' := by
 rw [show (⟨k, [], 0⟩ : Stp).v = .agg #[.int .u8 (k : Int), .string ⟨#[]⟩, .int .i64 0] from rfl]
 obtain ⟨W0, hW0⟩ := gen (w.alloc (.cells #[.int .u8 (k : Int), .string ⟨#[]⟩, .int .i64 0] 53))
 have hb0 : Bl w W0 := by rw [← hW0]; exact (Below.refl _ _).alloc (Nat.le_refl _) _
 have hg0 : W0.heap[w.heap.size]? = some (.cells #[.int .u8 (k : Int), .string ⟨#[]⟩, .int .i64 0] 53 (0, 0)) := by rw [← hW0]; exact heap_alloc_new w _
 have c0 := cell_of_row (k := 0) (v := .int .u8 (k : Int)) hg0 rfl
 have c1 := cell_of_row (k := 1) (v := .string ⟨#[]⟩) hg0 rfl
 have c2 := cell_of_row (k := 2) (v := .int .i64 0) hg0 rfl
 have HB0 := hid hb0
 have y0 : ((k : Int) == 0) = false := bfn (by omega)
 have y22 : ¬ (22 : Int) ≤ (k : Int) := by omega
 have y4 : ((k : Int) == 4) = false := bfn (by omega)
 have y5 : ((k : Int) == 5) = false := bfn (by omega)
 have y6 : ((k : Int) == 6) = false := bfn (by omega)
 clear hb0 hg0 h7 h21
 go_enter func117, ntmps117
 go_wp2_with fail
 go_ret
 exact ⟨rfl, HB0.out⟩
theorem takes_word (k : Nat) (w : World) (h7 : 7 ≤ k) (h21 : k ≤ 21) : Calls prog 78 #[(⟨k, [], 0⟩ : Stp).v] w fun e w' => e = .returned (.tuple #[.int .i64 (takesN k : Int), .bool true]) ∧ Bl w w' := by
 rw [show (⟨k, [], 0⟩ : Stp).v = .agg #[.int .u8 (k : Int), .string ⟨#[]⟩, .int .i64 0] from rfl]
 obtain ⟨W0, hW0⟩ := gen (w.alloc (.cells #[.int .u8 (k : Int), .string ⟨#[]⟩, .int .i64 0] 53))
 have hb0 : Bl w W0 := by rw [← hW0]; exact (Below.refl _ _).alloc (Nat.le_refl _) _
 have hg0 : W0.heap[w.heap.size]? = some (.cells #[.int .u8 (k : Int), .string ⟨#[]⟩, .int .i64 0] 53 (0, 0)) := by rw [← hW0]; exact heap_alloc_new w _
 have hl0 : w.heap.size < W0.heap.size := (gsi hg0).1
 have C : Hid (Calls prog 117 #[.agg #[.int .u8 (k : Int), .string ⟨#[]⟩, .int .i64 0]] W0 fun e w' => e = .returned (.bool true) ∧ Bl W0 w') := right_word k W0 h7 h21
 have HR0 : Hid (W0.rangeAt w.heap.size 0 [.int .u8 (k : Int), .string ⟨#[]⟩, .int .i64 0]) := rgz hg0
 have c0 := cell_of_row (k := 0) (v := .int .u8 (k : Int)) hg0 rfl
 have HL : Hid (∀ V, Bl W0 V → V.cell? ⟨w.heap.size, 0, none⟩ = some (.int .u8 (k : Int)) ∧ Bl w V) := fun V hb => ⟨(hb.cell (p := ⟨w.heap.size, 0, none⟩) hl0).trans c0, hb0.trans (hb.mono hb0.size)⟩
 have y6 : ¬ (k : Int) ≤ 6 := by omega
 have y6n : ¬ k ≤ 6 := by omega
 clear hb0 hg0 hl0 c0
 go_enter func78, ntmps78
 go_wp2_with (refine wpList_load_mid rfl 53 _ rfl w.heap.size 0 rfl _ _ HR0.out underlying53 rfl sz_step ?_)
 refine C.out.mono ?_
 rintro e w1 ⟨rfl, hb1⟩
 obtain ⟨c0, hbw⟩ := HL.out w1 hb1
 have HB := hid hbw
 clear C hb1 HR0 HL hW0 hbw
 by_cases h10 : k ≤ 10
 · have y10 : (k : Int) ≤ 10 := by omega
   have HE : Hid (takesN k = 1) := by show _ = _; unfold takesN; rw [if_neg y6n, if_pos h10]
   go_wp2_with fail
   go_ret2
   exact ⟨by rw [HE.out]; rfl, HB.out⟩
 · have y10 : ¬ (k : Int) ≤ 10 := by omega
   have HE : Hid (takesN k = 2) := by show _ = _; unfold takesN; rw [if_neg y6n, if_neg h10]
   go_wp2_with fail
   go_ret2
   exact ⟨by rw [HE.out]; rfl, HB.out⟩
end Go.Proofs.YtfifphfihdhlaaaGreatDoor

/- Messages held against each other: batches and words of what came. -/
import Derived.Test.YtcmiphgeakdonaaCh
namespace Go.Proofs.Ytcmiphgeakdonaa
open Go.Shelf Go.RowKit Go.Lib Go.Sort
set_option linter.unusedVariables false
set_option linter.unusedSimpArgs false
attribute [local go_sem ↓] Go.wp_at_zero Go.wp_at_succ
theorem sz_Bnd : (Try.prog.info? 48).map (·.size) = some 11 := by kernel_rfl
theorem sz_Frg : (Try.prog.info? 56).map (·.size) = some 17 := by kernel_rfl
theorem sz_Fil : (Try.prog.info? 59).map (·.size) = some 6 := by kernel_rfl
/-- The parts of a message that holds nothing else. -/
structure MgP (k : Int) (m : Strm) (n : Nat) (l : Bool) (r : Value) (cl : List Value) (g : Nat) (V : World) : Prop where
  c0 : V.cell? ⟨g, 0, none⟩ = some (.int .u8 k)
  c1 : V.cell? ⟨g, 1, none⟩ = some (.int .u64 0)
  c2 : V.cell? ⟨g, 2, none⟩ = some (.int .u64 (m.qb : Int))
  c3 : V.cell? ⟨g, 3, none⟩ = some (.int .u64 (m.qn : Int))
  c4 : V.cell? ⟨g, 4, none⟩ = some (.int .i64 m.at_)
  c5 : V.cell? ⟨g, 5, none⟩ = some (.int .i64 m.fr)
  c6 : V.cell? ⟨g, 6, none⟩ = some (.int .i64 m.tq)
  c18 : V.cell? ⟨g, 18, none⟩ = some (.slice none 0 0)
  c36 : V.cell? ⟨g, 36, none⟩ = some (.slice none 0 0)
  c37 : V.cell? ⟨g, 37, none⟩ = some (.int .u64 (n : Int))
  c38 : V.cell? ⟨g, 38, none⟩ = some (.bool l)
  c39 : V.cell? ⟨g, 39, none⟩ = some r
  c46 : V.cell? ⟨g, 46, none⟩ = some (.slice none 0 0)
  bnd : V.rangeAt g 7 [.string { data := #[] }, .string { data := #[] }, .int .i64 0, .int .i64 0, .int .i64 0, .slice none 0 0, .slice none 0 0, .slice none 0 0, .bool false, .slice none 0 0, .slice none 0 0]
  frg : V.rangeAt g 19 [.int .i64 0, .int .i64 0, .int .u8 0, .string { data := #[] }, .int .u64 0, .int .u64 0, .int .i64 0, .slice none 0 0, .int .u8 0, .string { data := #[] }, .int .u64 0, .int .u64 0, .int .i64 0, .slice none 0 0, .bool false, .int .i64 0, .slice none 0 0]
  fil : V.rangeAt g 40 [.string { data := #[] }, .int .u64 0, .int .u64 0, .int .i64 0, .slice none 0 0, .slice none 0 0]
theorem MgP.of {k : Int} {m : Strm} {n : Nat} {l : Bool} {r : Value} {cl : List Value} {g : Nat} {V : World} (hc : mgC k m n l r = cl) (hg : V.heap[g]? = some (.cells cl.toArray 62 (0, 0))) : MgP k m n l r cl g V := by
  have f : ∀ j v, (mgC k m n l r)[j]? = some v → V.cell? ⟨g, j, none⟩ = some v := fun j v hv => cell_of_row hg (by rw [← hc]; simpa using hv)
  refine ⟨f 0 _ rfl, f 1 _ rfl, f 2 _ rfl, f 3 _ rfl, f 4 _ rfl, f 5 _ rfl, f 6 _ rfl, f 18 _ rfl, f 36 _ rfl, f 37 _ rfl, f 38 _ rfl, f 39 _ rfl, f 46 _ rfl, fun j u hu => f (7 + j) u ?_, fun j u hu => f (19 + j) u ?_, fun j u hu => f (40 + j) u ?_⟩
  · have : [.string { data := #[] }, .string { data := #[] }, .int .i64 0, .int .i64 0, .int .i64 0, .slice none 0 0, .slice none 0 0, .slice none 0 0, .bool false, .slice none 0 0, .slice none 0 0] = ((mgC k m n l r).drop 7).take 11 := rfl
    rw [this, List.getElem?_take] at hu
    split at hu
    · rwa [List.getElem?_drop] at hu
    · cases hu
  · have : [.int .i64 0, .int .i64 0, .int .u8 0, .string { data := #[] }, .int .u64 0, .int .u64 0, .int .i64 0, .slice none 0 0, .int .u8 0, .string { data := #[] }, .int .u64 0, .int .u64 0, .int .i64 0, .slice none 0 0, .bool false, .int .i64 0, .slice none 0 0] = ((mgC k m n l r).drop 19).take 17 := rfl
    rw [this, List.getElem?_take] at hu
    split at hu
    · rwa [List.getElem?_drop] at hu
    · cases hu
  · have : [.string { data := #[] }, .int .u64 0, .int .u64 0, .int .i64 0, .slice none 0 0, .slice none 0 0] = ((mgC k m n l r).drop 40).take 6 := rfl
    rw [this, List.getElem?_take] at hu
    split at hu
    · rwa [List.getElem?_drop] at hu
    · cases hu
set_option maxRecDepth 100000 in
set_option maxHeartbeats 8000000 in
theorem same_msg (k : Int) (m : Strm) (n : Nat) (l : Bool) (q q' : Option Addr) (c c' : Nat) (rw_ : List (List Val)) (K L : Nat → Prop) (w : World) (h : ListIs rRow 1 24 K w (.slice q rw_.length c) rw_) (h' : ListIs rRow 1 24 L w (.slice q' rw_.length c') rw_) (hK : ∀ b, K b → b < w.heap.size) (hL : ∀ b, L b → b < w.heap.size) :
    Calls Try.prog 12 #[.agg (mgC k m n l (.slice q rw_.length c)).toArray, .agg (mgC k m n l (.slice q' rw_.length c')).toArray] w fun e w' => e = .returned (.bool true) ∧ Below w.heap.size w w' := by
  obtain ⟨cl, hcl⟩ : ∃ cl, mgC k m n l (.slice q rw_.length c) = cl := ⟨_, rfl⟩
  obtain ⟨cl', hcl'⟩ : ∃ cl', mgC k m n l (.slice q' rw_.length c') = cl' := ⟨_, rfl⟩
  rw [hcl, hcl']
  obtain ⟨W0, hW0, hb0, hs0, g0, g1⟩ := two_boxes2 w cl.toArray cl'.toArray 62 62
  have HV : Hid (∀ V, Below W0.heap.size W0 V → MgP k m n l (.slice q rw_.length c) cl w.heap.size V ∧ MgP k m n l (.slice q' rw_.length c') cl' (w.heap.size + 1) V ∧ Below w.heap.size w V ∧ ListIs rRow 1 24 K V (.slice q rw_.length c) rw_ ∧ ListIs rRow 1 24 L V (.slice q' rw_.length c') rw_ ∧ (∀ b, K b → b < V.heap.size) ∧ (∀ b, L b → b < V.heap.size)) := fun V hb => by
    have hbw := hb0.trans (hb.mono hb0.size)
    exact ⟨MgP.of hcl (by rw [hb.block _ (by omega)]; exact g0), MgP.of hcl' (by rw [hb.block _ (by omega)]; exact g1), hbw, h.mono mRow (fun _ h => h) (kept_of hK hbw), h'.mono mRow (fun _ h => h) (kept_of hL hbw), fun b hb' => Nat.lt_of_lt_of_le (hK b hb') hbw.size, fun b hb' => Nat.lt_of_lt_of_le (hL b hb') hbw.size⟩
  have NE := neq_strm (m.qb : Int) (m.qn : Int) m.at_ m.fr m.tq
  have t0 : (k != k) = false := by simp
  have t1 : ((n : Int) != (n : Int)) = false := by simp
  have t2 : (l != l) = false := by simp
  have HB : Hid (Below W0.heap.size W0 W0) := Below.refl _ _
  obtain ⟨P0, P1, _⟩ := HV.out W0 (Below.refl _ _)
  have a0 := P0.c0
  have b0 := P1.c0
  have a1 := P0.c1
  have b1 := P1.c1
  have a2 := P0.c2
  have b2 := P1.c2
  have a3 := P0.c3
  have b3 := P1.c3
  have a4 := P0.c4
  have b4 := P1.c4
  have a5 := P0.c5
  have b5 := P1.c5
  have a6 := P0.c6
  have b6 := P1.c6
  have a18 := P0.c18
  have b18 := P1.c18
  have a36 := P0.c36
  have b36 := P1.c36
  have a37 := P0.c37
  have b37 := P1.c37
  have a38 := P0.c38
  have b38 := P1.c38
  have P0bnd : Hid (W0.rangeAt w.heap.size 7 [.string { data := #[] }, .string { data := #[] }, .int .i64 0, .int .i64 0, .int .i64 0, .slice none 0 0, .slice none 0 0, .slice none 0 0, .bool false, .slice none 0 0, .slice none 0 0]) := P0.bnd
  have P1bnd : Hid (W0.rangeAt (w.heap.size + 1) 7 [.string { data := #[] }, .string { data := #[] }, .int .i64 0, .int .i64 0, .int .i64 0, .slice none 0 0, .slice none 0 0, .slice none 0 0, .bool false, .slice none 0 0, .slice none 0 0]) := P1.bnd
  clear h h' hK hL hb0 hs0 g0 g1 P0 P1 hcl hcl'
  have C0 := hid (zero_bnd W0)
  go_enter Try.func12, Try.ntmps12
  go_wp2_with fail
  go_loopg [63] 0 (fun gf s wx => s = .int .i64 0 ∧ wx = W0)
  case atStart => exact ⟨rfl, rfl⟩
  case round =>
  obtain ⟨rfl, hw⟩ := hrel
  have hw2 := hw.symm
  subst hw2
  clear hw
  go_wp2_with fail
  go_loopg [101] 0 (fun gf s wx => s = .int .i64 0 ∧ wx = W0)
  case atStart => exact ⟨rfl, rfl⟩
  case round =>
  obtain ⟨rfl, hw⟩ := hrel
  have hw2 := hw.symm
  subst hw2
  clear hw
  go_wp2_with (first | (refine wpList_load_midH (by rfl) 48 _ rfl w.heap.size 7 rfl _ _ P0bnd.out Try.underlying48 rfl sz_Bnd ?_) | (refine wpList_load_midH (by rfl) 48 _ rfl (w.heap.size + 1) 7 rfl _ _ P1bnd.out Try.underlying48 rfl sz_Bnd ?_))
  refine C0.out.mono ?_
  rintro e w1 ⟨rfl, hb1⟩
  have HBn : Hid (Below W0.heap.size W0 w1) := HB.out.trans (hb1.mono HB.out.size)
  clear a0 b0 a1 b1 a2 b2 a3 b3 a4 b4 a5 b5 a6 b6 a18 b18 a36 b36 a37 b37 a38 b38
  clear HB hb1 C0 NE t0 t1 t2 hW0 P0bnd P1bnd
  have HB := HBn
  clear HBn
  obtain ⟨P0, P1, _⟩ := HV.out w1 HB.out
  have P0frg : Hid (w1.rangeAt w.heap.size 19 [.int .i64 0, .int .i64 0, .int .u8 0, .string { data := #[] }, .int .u64 0, .int .u64 0, .int .i64 0, .slice none 0 0, .int .u8 0, .string { data := #[] }, .int .u64 0, .int .u64 0, .int .i64 0, .slice none 0 0, .bool false, .int .i64 0, .slice none 0 0]) := P0.frg
  have P1frg : Hid (w1.rangeAt (w.heap.size + 1) 19 [.int .i64 0, .int .i64 0, .int .u8 0, .string { data := #[] }, .int .u64 0, .int .u64 0, .int .i64 0, .slice none 0 0, .int .u8 0, .string { data := #[] }, .int .u64 0, .int .u64 0, .int .i64 0, .slice none 0 0, .bool false, .int .i64 0, .slice none 0 0]) := P1.frg
  clear P0 P1
  have C0 := hid (zero_frag w1)
  go_wp2_with (first | (refine wpList_load_midH (by rfl) 56 _ rfl w.heap.size 19 rfl _ _ P0frg.out Try.underlying56 rfl sz_Frg ?_) | (refine wpList_load_midH (by rfl) 56 _ rfl (w.heap.size + 1) 19 rfl _ _ P1frg.out Try.underlying56 rfl sz_Frg ?_))
  refine C0.out.mono ?_
  rintro e w2 ⟨rfl, hb1⟩
  have HBn : Hid (Below W0.heap.size W0 w2) := HB.out.trans (hb1.mono HB.out.size)
  clear HB hb1 C0 P0frg P1frg
  have HB := HBn
  clear HBn
  obtain ⟨P0, P1, _, L0, L1, K0, K1⟩ := HV.out w2 HB.out
  have a39 := P0.c39
  have b39 := P1.c39
  clear P0 P1
  have C0 := hid (rows_eq _ _ rw_ K L w2 L0 L1 K0 K1)
  clear L0 L1 K0 K1
  go_wp2_with fail
  refine C0.out.mono ?_
  rintro e w3 ⟨rfl, hb1⟩
  have HBn : Hid (Below W0.heap.size W0 w3) := HB.out.trans (hb1.mono HB.out.size)
  clear HB hb1 C0 a39 b39
  have HB := HBn
  clear HBn
  obtain ⟨P0, P1, _⟩ := HV.out w3 HB.out
  have P0fil : Hid (w3.rangeAt w.heap.size 40 [.string { data := #[] }, .int .u64 0, .int .u64 0, .int .i64 0, .slice none 0 0, .slice none 0 0]) := P0.fil
  have P1fil : Hid (w3.rangeAt (w.heap.size + 1) 40 [.string { data := #[] }, .int .u64 0, .int .u64 0, .int .i64 0, .slice none 0 0, .slice none 0 0]) := P1.fil
  clear P0 P1
  have C0 := hid (zero_file w3)
  go_wp2_with (first | (refine wpList_load_midH (by rfl) 59 _ rfl w.heap.size 40 rfl _ _ P0fil.out Try.underlying59 rfl sz_Fil ?_) | (refine wpList_load_midH (by rfl) 59 _ rfl (w.heap.size + 1) 40 rfl _ _ P1fil.out Try.underlying59 rfl sz_Fil ?_))
  refine C0.out.mono ?_
  rintro e w4 ⟨rfl, hb1⟩
  have HBn : Hid (Below W0.heap.size W0 w4) := HB.out.trans (hb1.mono HB.out.size)
  clear HB hb1 C0 P0fil P1fil
  have HB := HBn
  clear HBn
  obtain ⟨P0, P1, hbf, _⟩ := HV.out w4 HB.out
  have a46 := P0.c46
  have b46 := P1.c46
  have HF : Hid (Below w.heap.size w w4) := hbf
  clear P0 P1 hbf
  have C0 := hid (nil_33 w4)
  go_wp2_with fail
  refine C0.out.mono ?_
  rintro e w5 ⟨rfl, hw⟩
  have hw2 := hw.symm
  subst hw2
  clear hw
  go_wp2_with fail
  go_ret
  exact ⟨rfl, HF.out⟩
end Go.Proofs.Ytcmiphgeakdonaa

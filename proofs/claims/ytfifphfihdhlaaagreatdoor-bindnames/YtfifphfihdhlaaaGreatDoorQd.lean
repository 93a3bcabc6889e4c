/- Columns, and what tokens are. -/
import Derived.Test.YtfifphfihdhlaaaGreatDoorQc
set_option maxRecDepth 100000
set_option maxHeartbeats 32000000
namespace Go.Proofs.YtfifphfihdhlaaaGreatDoor
open Tryz
open Go.Shelf Go.RowKit Go.Lib Go.Sort
set_option linter.unusedVariables false
set_option linter.unusedSimpArgs false
attribute [local go_sem ↓] Go.wp_at_zero Go.wp_at_succ
def isColP (l : List UInt8) : Bool := isNameP (Lib.cut l [46]).1 && (!(Lib.cut l [46]).2.2 || isNameP (Lib.cut l [46]).2.1)
theorem cut_one (s : ByteArray) (w : World) (hs : s.size ≤ 9223372036854775807) : Calls prog 136 #[.string s, .string ⟨#[46]⟩] w fun e w' => e = .returned (.tuple #[.string ⟨(Lib.cut s.data.toList [46]).1.toArray⟩, .string ⟨(Lib.cut s.data.toList [46]).2.1.toArray⟩, .bool (Lib.cut s.data.toList [46]).2.2]) ∧ ∃ n, w' = w.drewN n := by
 have C : Hid (∀ W, Calls prog 175 #[.string s, .string ⟨#[46]⟩] W fun e w' => e = .returned (.int .i64 (Lib.index s.data.toList [46])) ∧ w' = W) := fun W => by
  have := Any.stringslite_Index_one { Tryz.laysCut with } s 46 W
  rw [← Lib.index_one] at this
  exact this
 have CC : Hid (Calls prog 156 #[.string s, .string ⟨#[46]⟩] w fun e w' => e = .returned (.tuple #[.string ⟨(Lib.cut s.data.toList [46]).1.toArray⟩, .string ⟨(Lib.cut s.data.toList [46]).2.1.toArray⟩, .bool (Lib.cut s.data.toList [46]).2.2]) ∧ ∃ n, w' = w.drewN n) := by
  show Calls _ _ _ _ _
  rcases Lib.indexB_cases s ⟨#[46]⟩ with hix | ⟨i, hix, hroom⟩
  · obtain ⟨e1, e2, e3⟩ := Lib.cutB_miss s ⟨#[46]⟩ hix
    rw [show Lib.cut s.data.toList [46] = Lib.cut s.data.toList (⟨#[46]⟩ : ByteArray).data.toList from rfl, e1, e2, e3]
    have HI : Hid (Lib.index s.data.toList [46] = -1) := hix
    rw [HI.out] at C
    clear hix e1 e2 e3 HI
    go_enter func156, ntmps156
    go_wp2_with fail
    refine (C.out _).mono ?_
    rintro e w' ⟨rfl, rfl⟩
    go_wp2_with fail
    go_ret3
    exact ⟨rfl, 0, rfl⟩
  · obtain ⟨e1, e2, e3⟩ := Lib.cutB_hit s ⟨#[46]⟩ i hix
    rw [show Lib.cut s.data.toList [46] = Lib.cut s.data.toList (⟨#[46]⟩ : ByteArray).data.toList from rfl, e1, e2, e3]
    have HI : Hid (Lib.index s.data.toList [46] = (i : Int)) := hix
    rw [HI.out] at C
    have hsz : (⟨#[46]⟩ : ByteArray).size = 1 := rfl
    rw [hsz] at hroom ⊢
    have c1 : (0 : Int) ≤ ↑i := by omega
    have c2 : (↑i : Int) ≤ ↑s.size := by omega
    have c3 : (0 : Int) ≤ ↑i + 1 := by omega
    have c4 : (↑i + 1 : Int) ≤ ↑s.size := by omega
    have e63 : (↑i + 1 : Int) ≤ 9223372036854775807 := by omega
    have mixed : prog.follows .mixedOrders = true := by kernel_rfl
    clear hix e1 e2 e3 HI hsz hs
    go_enter func156, ntmps156
    go_wp2_with fail
    refine (C.out _).mono ?_
    rintro e w' ⟨rfl, rfl⟩
    go_wp2_with fail
    go_region_o
    go_wp2
    go_ret3
    exact ⟨rfl, 1, rfl⟩
 clear C
 go_enter func136, ntmps136
 go_wp2_with fail
 refine CC.out.mono ?_
 rintro e w' ⟨rfl, n, rfl⟩
 go_wp2_with fail
 go_ret3
 exact ⟨rfl, n, rfl⟩
theorem isCol_all (s : ByteArray) (w : World) (hs : s.size ≤ 9223372036854775807) (hG : GW w) : Calls prog 104 #[.string s] w fun e w' => e = .returned (.bool (isColP s.data.toList)) ∧ Bl w w' := by
 have C1 := hid (cut_one s w hs)
 have HG : Hid (GW w) := hG
 obtain ⟨R, hR⟩ := gen (isColP s.data.toList)
 have HR : Hid (isColP s.data.toList = R) := hR
 rw [hR]
 clear hG hR hs
 go_enter func104, ntmps104
 go_wp2_with fail
 refine C1.out.mono ?_
 rintro e w1 ⟨rfl, n, hw1⟩
 have hb1 : Bl w w1 := by rw [hw1]; exact below_drewN (Below.refl _ _) n
 have HR2 : Hid ((isNameP (Lib.cut s.data.toList [46]).1 && (!(Lib.cut s.data.toList [46]).2.2 || isNameP (Lib.cut s.data.toList [46]).2.1)) = R) := HR.out
 obtain ⟨a, ha⟩ := gen ((Lib.cut s.data.toList [46]).1)
 obtain ⟨b, hb⟩ := gen ((Lib.cut s.data.toList [46]).2.1)
 obtain ⟨f, hf⟩ := gen ((Lib.cut s.data.toList [46]).2.2)
 rw [ha, hb, hf] at HR2 ⊢
 obtain ⟨A, hA⟩ := bya a
 obtain ⟨B, hB⟩ := bya b
 rw [hA, hB]
 obtain ⟨P, hP⟩ := gen (isNameP a)
 obtain ⟨Q, hQ⟩ := gen (isNameP b)
 have C2 : Hid (Calls prog 56 #[.string A] w1 fun e w' => e = .returned (.bool P) ∧ Bl w1 w') := by have := isName_any A w1 (HG.out.below hb1); rw [← hA, show (⟨a.toArray⟩ : ByteArray).data.toList = a from by simp, hP] at this; rw [← hA]; exact this
 have C3 : Hid (∀ V, Bl w1 V → Calls prog 56 #[.string B] V fun e w' => e = .returned (.bool Q) ∧ Bl V w') := fun V hv => by have := isName_any B V ((HG.out.below hb1).below hv); rw [← hB, show (⟨b.toArray⟩ : ByteArray).data.toList = b from by simp, hQ] at this; rw [← hB]; exact this
 have HR3 : Hid ((P && (!f || Q)) = R) := by have := HR2.out; rw [hP, hQ] at this; exact this
 have HB1 := hid hb1
 clear C1 HR HR2 ha hb hf hA hB hP hQ hw1 hb1
 go_wp2_with fail
 refine C2.out.mono ?_
 rintro e w2 ⟨rfl, hb2⟩
 have HB2 : Hid (Bl w w2) := HB1.out.trans (hb2.mono HB1.out.size)
 have C4 := hid (C3.out w2 hb2)
 clear C2 C3 hb2
 cases P with
 | false =>
  have HE : Hid (R = false) := HR3.out.symm
  clear HR3 C4
  go_wp2_with fail
  go_ret
  exact ⟨by rw [HE.out]; rfl, HB2.out⟩
 | true =>
  cases f with
  | false =>
   have HE : Hid (R = true) := HR3.out.symm
   clear HR3 C4
   go_wp2_with fail
   go_ret
   exact ⟨by rw [HE.out]; rfl, HB2.out⟩
  | true =>
   have HE : Hid (R = Q) := HR3.out.symm
   clear HR3
   go_wp2_with fail
   refine C4.out.mono ?_
   rintro e w3 ⟨rfl, hb3⟩
   have HB3 : Hid (Bl w w3) := HB2.out.trans (hb3.mono HB2.out.size)
   clear C4 hb3
   go_wp2_with fail
   go_ret
   exact ⟨by rw [HE.out]; rfl, HB3.out⟩
theorem isCol_any (s : ByteArray) (w : World) (hs : s.size < 4294967281) (hG : GW w) : Calls prog 104 #[.string s] w fun e w' => e = .returned (.bool (isColP s.data.toList)) ∧ Bl w w' := isCol_all s w (by omega) hG
def okT (x : Tok) : Prop := (0 ≤ x.k ∧ x.k < 256) ∧ I64 x.n ∧ I64 x.a ∧ x.t.length ≤ 100000
def opnP (t : Tok) : Bool := decide (t.k = 1)
def clsP (t : Tok) : Bool := decide (t.k = 2)
def namP (t : Tok) : Bool := decide (t.k = 3) && isNameP t.t
def colP (t : Tok) : Bool := decide (t.k = 3) && isColP t.t
def oprP (t : Tok) : Bool := decide (t.k = 3) && (decide (stepOfP t.t ≠ 0) && !isConstP t.t)
def aggP (t : Tok) : Bool := decide (t.k = 3) && decide (aggOfP t.t ≠ 0)
theorem tok_str (x : Tok) : ∃ s : ByteArray, x.v = .agg #[.int .u8 x.k, .string s, .int .i64 x.n, .int .i64 x.a] ∧ s.data.toList = x.t := ⟨⟨x.t.toArray⟩, rfl, by simp⟩
theorem isOpen_any (x : Tok) (w : World) (hk : okT x) (hG : GW w) : Calls prog 150 #[x.v] w fun e w' => e = .returned (.bool (opnP x)) ∧ Bl w w' := by
 obtain ⟨s, hv, hst⟩ := tok_str x
 rw [hv]
 obtain ⟨W0, hW0⟩ := gen (w.alloc (.cells #[.int .u8 x.k, .string s, .int .i64 x.n, .int .i64 x.a] 160))
 have hb0 : Bl w W0 := by rw [← hW0]; exact (Below.refl _ _).alloc (Nat.le_refl _) _
 have hg0 : W0.heap[w.heap.size]? = some (.cells #[.int .u8 x.k, .string s, .int .i64 x.n, .int .i64 x.a] 160 (0, 0)) := by rw [← hW0]; exact heap_alloc_new w _
 have hl0 : w.heap.size < W0.heap.size := (gsi hg0).1
 have c0 := cell_of_row (k := 0) (v := .int .u8 x.k) hg0 rfl
 have c1 := cell_of_row (k := 1) (v := .string s) hg0 rfl
 have HB0 : Hid (Bl w W0) := hb0
 have HL : Hid (∀ V, Bl W0 V → V.cell? ⟨w.heap.size, 0, none⟩ = some (.int .u8 x.k) ∧ V.cell? ⟨w.heap.size, 1, none⟩ = some (.string s) ∧ Bl w V) := fun V hb => ⟨(hb.cell (p := ⟨w.heap.size, 0, none⟩) hl0).trans c0, (hb.cell (p := ⟨w.heap.size, 1, none⟩) hl0).trans c1, hb0.trans (hb.mono hb0.size)⟩
 have HG0 : Hid (GW W0) := hG.below hb0
 have HST : Hid (s.data.toList = x.t) := hst
 clear hG hb0 hg0 hl0 hv hst HL HG0 HST
 by_cases h : x.k = 1
 · have y : (x.k == 1) = true := by simp [h]
   have HE : Hid (opnP x = true) := decide_eq_true h
   clear h hk
   go_enter func150, ntmps150
   go_wp2_with fail
   go_ret
   exact ⟨by rw [HE.out]; rfl, HB0.out⟩
 · have y : (x.k == 1) = false := bfn h
   have HE : Hid (opnP x = false) := decide_eq_false h
   clear h hk
   go_enter func150, ntmps150
   go_wp2_with fail
   go_ret
   exact ⟨by rw [HE.out]; rfl, HB0.out⟩
theorem isClose_any (x : Tok) (w : World) (hk : okT x) (hG : GW w) : Calls prog 154 #[x.v] w fun e w' => e = .returned (.bool (clsP x)) ∧ Bl w w' := by
 obtain ⟨s, hv, hst⟩ := tok_str x
 rw [hv]
 obtain ⟨W0, hW0⟩ := gen (w.alloc (.cells #[.int .u8 x.k, .string s, .int .i64 x.n, .int .i64 x.a] 160))
 have hb0 : Bl w W0 := by rw [← hW0]; exact (Below.refl _ _).alloc (Nat.le_refl _) _
 have hg0 : W0.heap[w.heap.size]? = some (.cells #[.int .u8 x.k, .string s, .int .i64 x.n, .int .i64 x.a] 160 (0, 0)) := by rw [← hW0]; exact heap_alloc_new w _
 have hl0 : w.heap.size < W0.heap.size := (gsi hg0).1
 have c0 := cell_of_row (k := 0) (v := .int .u8 x.k) hg0 rfl
 have c1 := cell_of_row (k := 1) (v := .string s) hg0 rfl
 have HB0 : Hid (Bl w W0) := hb0
 have HL : Hid (∀ V, Bl W0 V → V.cell? ⟨w.heap.size, 0, none⟩ = some (.int .u8 x.k) ∧ V.cell? ⟨w.heap.size, 1, none⟩ = some (.string s) ∧ Bl w V) := fun V hb => ⟨(hb.cell (p := ⟨w.heap.size, 0, none⟩) hl0).trans c0, (hb.cell (p := ⟨w.heap.size, 1, none⟩) hl0).trans c1, hb0.trans (hb.mono hb0.size)⟩
 have HG0 : Hid (GW W0) := hG.below hb0
 have HST : Hid (s.data.toList = x.t) := hst
 clear hG hb0 hg0 hl0 hv hst HL HG0 HST
 by_cases h : x.k = 2
 · have y : (x.k == 2) = true := by simp [h]
   have HE : Hid (clsP x = true) := decide_eq_true h
   clear h hk
   go_enter func154, ntmps154
   go_wp2_with fail
   go_ret
   exact ⟨by rw [HE.out]; rfl, HB0.out⟩
 · have y : (x.k == 2) = false := bfn h
   have HE : Hid (clsP x = false) := decide_eq_false h
   clear h hk
   go_enter func154, ntmps154
   go_wp2_with fail
   go_ret
   exact ⟨by rw [HE.out]; rfl, HB0.out⟩
theorem isNameT_any (x : Tok) (w : World) (hk : okT x) (hG : GW w) : Calls prog 152 #[x.v] w fun e w' => e = .returned (.bool (namP x)) ∧ Bl w w' := by
 obtain ⟨s, hv, hst⟩ := tok_str x
 rw [hv]
 obtain ⟨W0, hW0⟩ := gen (w.alloc (.cells #[.int .u8 x.k, .string s, .int .i64 x.n, .int .i64 x.a] 160))
 have hb0 : Bl w W0 := by rw [← hW0]; exact (Below.refl _ _).alloc (Nat.le_refl _) _
 have hg0 : W0.heap[w.heap.size]? = some (.cells #[.int .u8 x.k, .string s, .int .i64 x.n, .int .i64 x.a] 160 (0, 0)) := by rw [← hW0]; exact heap_alloc_new w _
 have hl0 : w.heap.size < W0.heap.size := (gsi hg0).1
 have c0 := cell_of_row (k := 0) (v := .int .u8 x.k) hg0 rfl
 have c1 := cell_of_row (k := 1) (v := .string s) hg0 rfl
 have HB0 : Hid (Bl w W0) := hb0
 have HL : Hid (∀ V, Bl W0 V → V.cell? ⟨w.heap.size, 0, none⟩ = some (.int .u8 x.k) ∧ V.cell? ⟨w.heap.size, 1, none⟩ = some (.string s) ∧ Bl w V) := fun V hb => ⟨(hb.cell (p := ⟨w.heap.size, 0, none⟩) hl0).trans c0, (hb.cell (p := ⟨w.heap.size, 1, none⟩) hl0).trans c1, hb0.trans (hb.mono hb0.size)⟩
 have HG0 : Hid (GW W0) := hG.below hb0
 have HST : Hid (s.data.toList = x.t) := hst
 have hsl : s.size < 4294967281 := by have := hk.2.2.2; rw [← hst] at this; simp at this; omega
 have C := hid (isName_any s W0 HG0.out)
 rw [hst] at C
 clear hG hb0 hg0 hl0 hv hst hsl hk
 by_cases h : x.k = 3
 · have y : (x.k == 3) = true := by simp [h]
   obtain ⟨N, hN⟩ := gen (isNameP x.t)
   have HE : Hid (namP x = N) := by show _ = _; unfold namP; rw [decide_eq_true h, hN]; rfl
   rw [hN] at C
   clear h hN HG0 HST
   go_enter func152, ntmps152
   go_wp2_with fail
   refine C.out.mono ?_
   rintro e w1 ⟨rfl, hb1⟩
   have HB1 := hid (HL.out w1 hb1).2.2
   clear C hb1 HL c0 c1
   go_wp2_with fail
   go_ret
   exact ⟨by rw [HE.out]; rfl, HB1.out⟩
 · have y : (x.k == 3) = false := bfn h
   have HE : Hid (namP x = false) := by show _ = _; unfold namP; rw [decide_eq_false h]; rfl
   clear h HL HG0 HST
   go_enter func152, ntmps152
   go_wp2_with fail
   go_ret
   exact ⟨by rw [HE.out]; rfl, HB0.out⟩
theorem isColT_any (x : Tok) (w : World) (hk : okT x) (hG : GW w) : Calls prog 189 #[x.v] w fun e w' => e = .returned (.bool (colP x)) ∧ Bl w w' := by
 obtain ⟨s, hv, hst⟩ := tok_str x
 rw [hv]
 obtain ⟨W0, hW0⟩ := gen (w.alloc (.cells #[.int .u8 x.k, .string s, .int .i64 x.n, .int .i64 x.a] 160))
 have hb0 : Bl w W0 := by rw [← hW0]; exact (Below.refl _ _).alloc (Nat.le_refl _) _
 have hg0 : W0.heap[w.heap.size]? = some (.cells #[.int .u8 x.k, .string s, .int .i64 x.n, .int .i64 x.a] 160 (0, 0)) := by rw [← hW0]; exact heap_alloc_new w _
 have hl0 : w.heap.size < W0.heap.size := (gsi hg0).1
 have c0 := cell_of_row (k := 0) (v := .int .u8 x.k) hg0 rfl
 have c1 := cell_of_row (k := 1) (v := .string s) hg0 rfl
 have HB0 : Hid (Bl w W0) := hb0
 have HL : Hid (∀ V, Bl W0 V → V.cell? ⟨w.heap.size, 0, none⟩ = some (.int .u8 x.k) ∧ V.cell? ⟨w.heap.size, 1, none⟩ = some (.string s) ∧ Bl w V) := fun V hb => ⟨(hb.cell (p := ⟨w.heap.size, 0, none⟩) hl0).trans c0, (hb.cell (p := ⟨w.heap.size, 1, none⟩) hl0).trans c1, hb0.trans (hb.mono hb0.size)⟩
 have HG0 : Hid (GW W0) := hG.below hb0
 have HST : Hid (s.data.toList = x.t) := hst
 have hsl : s.size < 4294967281 := by have := hk.2.2.2; rw [← hst] at this; simp at this; omega
 have C := hid (isCol_any s W0 hsl HG0.out)
 rw [hst] at C
 clear hG hb0 hg0 hl0 hv hst hsl hk
 by_cases h : x.k = 3
 · have y : (x.k == 3) = true := by simp [h]
   obtain ⟨N, hN⟩ := gen (isColP x.t)
   have HE : Hid (colP x = N) := by show _ = _; unfold colP; rw [decide_eq_true h, hN]; rfl
   rw [hN] at C
   clear h hN HG0 HST
   go_enter func189, ntmps189
   go_wp2_with fail
   refine C.out.mono ?_
   rintro e w1 ⟨rfl, hb1⟩
   have HB1 := hid (HL.out w1 hb1).2.2
   clear C hb1 HL c0 c1
   go_wp2_with fail
   go_ret
   exact ⟨by rw [HE.out]; rfl, HB1.out⟩
 · have y : (x.k == 3) = false := bfn h
   have HE : Hid (colP x = false) := by show _ = _; unfold colP; rw [decide_eq_false h]; rfl
   clear h HL HG0 HST
   go_enter func189, ntmps189
   go_wp2_with fail
   go_ret
   exact ⟨by rw [HE.out]; rfl, HB0.out⟩
theorem isAgg_any (x : Tok) (w : World) (hk : okT x) (hG : GW w) : Calls prog 211 #[x.v] w fun e w' => e = .returned (.bool (aggP x)) ∧ Bl w w' := by
 obtain ⟨s, hv, hst⟩ := tok_str x
 rw [hv]
 obtain ⟨W0, hW0⟩ := gen (w.alloc (.cells #[.int .u8 x.k, .string s, .int .i64 x.n, .int .i64 x.a] 160))
 have hb0 : Bl w W0 := by rw [← hW0]; exact (Below.refl _ _).alloc (Nat.le_refl _) _
 have hg0 : W0.heap[w.heap.size]? = some (.cells #[.int .u8 x.k, .string s, .int .i64 x.n, .int .i64 x.a] 160 (0, 0)) := by rw [← hW0]; exact heap_alloc_new w _
 have hl0 : w.heap.size < W0.heap.size := (gsi hg0).1
 have c0 := cell_of_row (k := 0) (v := .int .u8 x.k) hg0 rfl
 have c1 := cell_of_row (k := 1) (v := .string s) hg0 rfl
 have HB0 : Hid (Bl w W0) := hb0
 have HL : Hid (∀ V, Bl W0 V → V.cell? ⟨w.heap.size, 0, none⟩ = some (.int .u8 x.k) ∧ V.cell? ⟨w.heap.size, 1, none⟩ = some (.string s) ∧ Bl w V) := fun V hb => ⟨(hb.cell (p := ⟨w.heap.size, 0, none⟩) hl0).trans c0, (hb.cell (p := ⟨w.heap.size, 1, none⟩) hl0).trans c1, hb0.trans (hb.mono hb0.size)⟩
 have HG0 : Hid (GW W0) := hG.below hb0
 have HST : Hid (s.data.toList = x.t) := hst
 have C := hid (aggOf_any s W0 HG0.out.1)
 rw [hst] at C
 have h4 := aggOfP_le x.t
 clear hG hb0 hg0 hl0 hv hst hk
 by_cases h : x.k = 3
 · have y : (x.k == 3) = true := by simp [h]
   obtain ⟨N, hN⟩ := gen (aggOfP x.t)
   have HE : Hid (aggP x = decide (N ≠ 0)) := by show _ = _; unfold aggP; rw [decide_eq_true h, hN]; rfl
   rw [hN] at C h4
   clear h hN HG0 HST
   go_enter func211, ntmps211
   go_wp2_with fail
   refine C.out.mono ?_
   rintro e w1 ⟨rfl, hb1⟩
   have HB1 := hid (HL.out w1 hb1).2.2
   clear C hb1 HL c0 c1
   by_cases h0 : N = 0
   · subst h0
     go_wp2_with fail
     go_ret
     exact ⟨by rw [HE.out]; rfl, HB1.out⟩
   · have yn : ((N : Int) != 0) = true := bne_iff_ne.2 (by omega)
     have HE2 : Hid (aggP x = true) := by show _ = _; rw [HE.out]; exact decide_eq_true h0
     clear h0
     go_wp2_with fail
     go_ret
     exact ⟨by rw [HE2.out]; rfl, HB1.out⟩
 · have y : (x.k == 3) = false := bfn h
   have HE : Hid (aggP x = false) := by show _ = _; unfold aggP; rw [decide_eq_false h]; rfl
   clear h HL HG0 HST
   go_enter func211, ntmps211
   go_wp2_with fail
   go_ret
   exact ⟨by rw [HE.out]; rfl, HB0.out⟩
theorem isOpr_any (x : Tok) (w : World) (hk : okT x) (hG : GW w) : Calls prog 210 #[x.v] w fun e w' => e = .returned (.bool (oprP x)) ∧ Bl w w' := by
 obtain ⟨s, hv, hst⟩ := tok_str x
 rw [hv]
 obtain ⟨W0, hW0⟩ := gen (w.alloc (.cells #[.int .u8 x.k, .string s, .int .i64 x.n, .int .i64 x.a] 160))
 have hb0 : Bl w W0 := by rw [← hW0]; exact (Below.refl _ _).alloc (Nat.le_refl _) _
 have hg0 : W0.heap[w.heap.size]? = some (.cells #[.int .u8 x.k, .string s, .int .i64 x.n, .int .i64 x.a] 160 (0, 0)) := by rw [← hW0]; exact heap_alloc_new w _
 have hl0 : w.heap.size < W0.heap.size := (gsi hg0).1
 have c0 := cell_of_row (k := 0) (v := .int .u8 x.k) hg0 rfl
 have c1 := cell_of_row (k := 1) (v := .string s) hg0 rfl
 have HB0 : Hid (Bl w W0) := hb0
 have HL : Hid (∀ V, Bl W0 V → V.cell? ⟨w.heap.size, 0, none⟩ = some (.int .u8 x.k) ∧ V.cell? ⟨w.heap.size, 1, none⟩ = some (.string s) ∧ Bl w V) := fun V hb => ⟨(hb.cell (p := ⟨w.heap.size, 0, none⟩) hl0).trans c0, (hb.cell (p := ⟨w.heap.size, 1, none⟩) hl0).trans c1, hb0.trans (hb.mono hb0.size)⟩
 have HG0 : Hid (GW W0) := hG.below hb0
 have HST : Hid (s.data.toList = x.t) := hst
 have C := hid (stepOf_any s W0 HG0.out.1)
 have C2 : Hid (∀ V, Bl W0 V → Calls prog 101 #[.string s] V fun e w' => e = .returned (.bool (isConstP x.t)) ∧ Bl V w') := fun V hb => by have := isConst_any s V (HG0.out.below hb).1; rw [hst] at this; exact this
 rw [hst] at C
 have h4 := stepOfP_le x.t
 clear hG hb0 hg0 hl0 hv hst hk
 by_cases h : x.k = 3
 · have y : (x.k == 3) = true := by simp [h]
   obtain ⟨N, hN⟩ := gen (stepOfP x.t)
   obtain ⟨Q, hQ⟩ := gen (isConstP x.t)
   have HE : Hid (oprP x = (decide (N ≠ 0) && !Q)) := by show _ = _; unfold oprP; rw [decide_eq_true h, hN, hQ]; rfl
   rw [hN] at C h4
   rw [hQ] at C2
   clear h hN hQ HG0 HST
   go_enter func210, ntmps210
   go_wp2_with fail
   refine C.out.mono ?_
   rintro e w1 ⟨rfl, hb1⟩
   obtain ⟨d0, d1, hbw⟩ := HL.out w1 hb1
   have HB1 := hid hbw
   have C3 := hid (C2.out w1 hb1)
   clear C C2 hb1 HL c0 c1 hbw
   by_cases h0 : N = 0
   · subst h0
     clear C3
     go_wp2_with fail
     go_ret
     exact ⟨by rw [HE.out]; rfl, HB1.out⟩
   · have yn : ((N : Int) != 0) = true := bne_iff_ne.2 (by omega)
     have HE2 : Hid (oprP x = !Q) := by show _ = _; rw [HE.out, decide_eq_true h0]; rfl
     clear h0
     go_wp2_with fail
     refine C3.out.mono ?_
     rintro e w2 ⟨rfl, hb2⟩
     have HB2 : Hid (Bl w w2) := HB1.out.trans (hb2.mono HB1.out.size)
     clear C3 hb2
     go_wp2_with fail
     go_ret
     exact ⟨by rw [HE2.out]; rfl, HB2.out⟩
 · have y : (x.k == 3) = false := bfn h
   have HE : Hid (oprP x = false) := by show _ = _; unfold oprP; rw [decide_eq_false h]; rfl
   clear h HL HG0 HST
   go_enter func210, ntmps210
   go_wp2_with fail
   go_ret
   exact ⟨by rw [HE.out]; rfl, HB0.out⟩
end Go.Proofs.YtfifphfihdhlaaaGreatDoor

/- A change of a right disk that is not down: what do answers. -/
import Derived.Test.YtedjfbkpebmggaaDo
namespace Go.Proofs.Ytedjfbkpebmggaa
open Go.Shelf Go.RowKit Go.Lib Go.Sort
set_option linter.unusedVariables false
set_option linter.unusedSimpArgs false
attribute [local go_sem ↓] Go.wp_at_zero Go.wp_at_succ
set_option maxRecDepth 100000 in
set_option maxHeartbeats 2000000 in
/-- A change that is refused. -/
theorem do_fail (F : Nat) (v : Value) (fu kk : Int) (nm tt dt : ByteArray) (fs : List DF) (w : World) (h : FsL w v fs)
    (hl : ∀ W r c, W.heap[r]? = some (.map (chMap c) 4) → (Instr.lookup 60 (.map (some r)) (.int .u8 kk) true).run Try.prog W = .ok (.tuple #[.func (.func F) #[c] #[], .bool true]) W)
    (eg : ∀ args w, (callFunc F args).run Try.prog w = .ok (.enter F args) w) (er : Int) (gs : List DF)
    (hc : ∀ W, Below w.heap.size w W → Calls Try.prog F #[.agg #[v, .int .u8 kk, .string nm, .string tt, .string dt]] W fun e w' => ∃ u, e = .returned (.tuple #[u, .int .i64 er]) ∧ (er = 0 → FsL w' u gs) ∧ Below W.heap.size W w') (hne : er ≠ 0) :
    Calls Try.prog 22 #[.agg #[v, .bool false, .int .i64 fu], .agg #[.int .u8 kk, .string nm, .string tt, .string dt]] w fun e w' => e = .returned (.tuple #[.agg #[v, .bool false, .int .i64 fu], .int .i64 er]) ∧ Below w.heap.size w w' := by
  have hne1 : (er != 0) = true := bne_iff_ne.2 hne
  obtain ⟨W0, hW0, hb0, hs0, hx⟩ := dobox w v false fu kk nm tt dt
  obtain ⟨p, c, rfl, _⟩ := h
  have HX : Hid _ := hx
  have HL : Hid _ := hl
  have C1 : Hid (Calls Try.prog 33 #[.slice p fs.length c, .agg #[.int .u8 kk, .string nm, .string tt, .string dt]] W0.drew fun e w' => e = .returned (.map (some (w.heap.size + 5))) ∧ w'.heap[w.heap.size + 5]? = some (.map (chMap (.agg #[.slice p fs.length c, .int .u8 kk, .string nm, .string tt, .string dt])) 4) ∧ Below W0.heap.size W0 w') := by
    have := changesOf_any p fs.length c kk nm tt dt W0.drew
    rw [show W0.drew.heap.size = w.heap.size + 3 from hs0] at this
    exact this.mono fun e w' ⟨h1, h2, h3⟩ => ⟨h1, h2, by rw [hs0]; exact (hs0 ▸ (Below.refl W0.heap.size W0).drew).trans h3⟩
  obtain ⟨⟨x0, x1, x2⟩, ⟨y0, y1, y2, y3⟩, _⟩ := hx W0 (Below.refl _ _)
  have HB0 : Hid (Below w.heap.size w W0) := hb0
  have n0 : w.heap.size < W0.heap.size := by omega
  have n1 : w.heap.size + 1 < W0.heap.size := by omega
  have HC : Hid _ := hc
  clear hx hs0 hb0 hl hc
  go_enter Try.func22, Try.ntmps22
  go_wp2_with fail
  have e0 : W0.drew.cell? ⟨w.heap.size, 0, none⟩ = some (.slice p fs.length c) := x0
  have e1 : W0.drew.cell? ⟨w.heap.size + 1, 0, none⟩ = some (.int .u8 kk) := y0
  have e2 : W0.drew.cell? ⟨w.heap.size + 1, 1, none⟩ = some (.string nm) := y1
  have e3 : W0.drew.cell? ⟨w.heap.size + 1, 2, none⟩ = some (.string tt) := y2
  have e4 : W0.drew.cell? ⟨w.heap.size + 1, 3, none⟩ = some (.string dt) := y3
  go_region_held3 (fun w' => w'.cell? ⟨w.heap.size, 0, none⟩ = some (.slice p fs.length c) ∧ w'.cell? ⟨w.heap.size + 1, 0, none⟩ = some (.int .u8 kk) ∧ w'.cell? ⟨w.heap.size + 1, 1, none⟩ = some (.string nm) ∧ w'.cell? ⟨w.heap.size + 1, 2, none⟩ = some (.string tt) ∧ w'.cell? ⟨w.heap.size + 1, 3, none⟩ = some (.string dt))
    (first | (go_split_ands; refine ⟨?_, ?_, ?_, ?_, ?_⟩ <;> (first | (rw [hBa.cell (p := ⟨w.heap.size, _, none⟩) n0]; assumption) | (rw [hBa.cell (p := ⟨w.heap.size + 1, _, none⟩) n1]; assumption))) | go_keep)
    ((first
      | (go_at_call 33; refine C1.out.mono ?_; rintro e wa ⟨rfl, hMa, hBa⟩; have hlk := HL.out _ _ _ hMa)))
  have hBa' : Below W0.heap.size W0 wa := hBa
  obtain ⟨⟨a0, a1, a2⟩, _, _⟩ := HX.out wa hBa'
  have CA := HC.out wa (HB0.out.trans (hBa'.mono HB0.out.size))
  have HBA : Hid (Below W0.heap.size W0 wa) := hBa'
  clear hBa hBa' hMa hlk C1 e0 e1 e2 e3 e4 x0 x1 x2 y0 y1 y2 y3 HC HL
  go_wp2_with (go_at_fn F; refine CA.mono ?_; rintro e w2 ⟨u2, rfl, hL2, hB2⟩; have hB3 : Below W0.heap.size W0 w2 := HBA.out.trans (hB2.mono HBA.out.size); obtain ⟨⟨b0, b1, b2⟩, _, hg⟩ := HX.out w2 hB3; obtain ⟨Wa, Wb, Wc, hWa, hWb, hWc, ⟨oa, ca⟩, fa, ⟨ob, cb⟩, fb, ⟨oc, cc⟩, fc, hbl, _, d0, d1, d2⟩ := set_disk hg (.slice p fs.length c) (.bool false) (.int .i64 fu); have HB : Hid (Below w.heap.size w Wc) := hbl _ _ (HB0.out.trans (hB3.mono HB0.out.size)) (by omega); clear hB2 hB3 hL2 hg hbl a0 a1 a2 CA)
  exact bodyPost_ret (v := .tuple #[.agg #[.slice p fs.length c, .bool false, .int .i64 fu], .int .i64 er]) (by simp [results, Try.results22, go_sem, d0, d1, d2]) rfl ⟨rfl, HB.out⟩
/-- What burn leaves. -/
def Burnt (fu kk : Int) (v : Value) (gs : List DF) (w : World) (e : Ending) (w' : World) : Prop :=
  ∃ u, e = .returned (.tuple #[.agg #[if fu = 0 ∧ kk ≠ 1 then v else u, .bool (if fu = 0 then true else false), .int .i64 (if 0 < fu then fu - 1 else fu)], .int .i64 (if fu = 0 then 12 else 0)]) ∧ FsL w' u gs ∧ Below w.heap.size w w'
set_option maxRecDepth 100000 in
set_option maxHeartbeats 2000000 in
/-- A change that is not refused. -/
theorem do_done (F : Nat) (v : Value) (fu kk : Int) (nm tt dt : ByteArray) (fs : List DF) (w : World) (h : FsL w v fs)
    (hl : ∀ W r c, W.heap[r]? = some (.map (chMap c) 4) → (Instr.lookup 60 (.map (some r)) (.int .u8 kk) true).run Try.prog W = .ok (.tuple #[.func (.func F) #[c] #[], .bool true]) W)
    (eg : ∀ args w, (callFunc F args).run Try.prog w = .ok (.enter F args) w) (gs : List DF) (hr : -9223372036854775808 ≤ fu ∧ fu ≤ 9223372036854775807)
    (hc : ∀ W, Below w.heap.size w W → Calls Try.prog F #[.agg #[v, .int .u8 kk, .string nm, .string tt, .string dt]] W fun e w' => ∃ q m dd, e = .returned (.tuple #[.slice q m dd, .int .i64 0]) ∧ FsL w' (.slice q m dd) gs ∧ Below W.heap.size W w') :
    Calls Try.prog 22 #[.agg #[v, .bool false, .int .i64 fu], .agg #[.int .u8 kk, .string nm, .string tt, .string dt]] w fun e w' => Burnt fu kk v gs w e w' := by
  obtain ⟨W0, hW0, hb0, hs0, hx⟩ := dobox w v false fu kk nm tt dt
  obtain ⟨p, c, rfl, _⟩ := h
  have HX : Hid _ := hx
  have HL : Hid _ := hl
  have C1 : Hid (Calls Try.prog 33 #[.slice p fs.length c, .agg #[.int .u8 kk, .string nm, .string tt, .string dt]] W0.drew fun e w' => e = .returned (.map (some (w.heap.size + 5))) ∧ w'.heap[w.heap.size + 5]? = some (.map (chMap (.agg #[.slice p fs.length c, .int .u8 kk, .string nm, .string tt, .string dt])) 4) ∧ Below W0.heap.size W0 w') := by
    have := changesOf_any p fs.length c kk nm tt dt W0.drew
    rw [show W0.drew.heap.size = w.heap.size + 3 from hs0] at this
    exact this.mono fun e w' ⟨h1, h2, h3⟩ => ⟨h1, h2, by rw [hs0]; exact (hs0 ▸ (Below.refl W0.heap.size W0).drew).trans h3⟩
  obtain ⟨⟨x0, x1, x2⟩, ⟨y0, y1, y2, y3⟩, _⟩ := hx W0 (Below.refl _ _)
  have HB0 : Hid (Below w.heap.size w W0) := hb0
  have n0 : w.heap.size < W0.heap.size := by omega
  have n1 : w.heap.size + 1 < W0.heap.size := by omega
  have HC : Hid _ := hc
  have HRR : Hid (-9223372036854775808 ≤ fu ∧ fu ≤ 9223372036854775807) := hr
  clear hr
  clear hx hs0 hb0 hl hc
  go_enter Try.func22, Try.ntmps22
  go_wp2_with fail
  have e0 : W0.drew.cell? ⟨w.heap.size, 0, none⟩ = some (.slice p fs.length c) := x0
  have e1 : W0.drew.cell? ⟨w.heap.size + 1, 0, none⟩ = some (.int .u8 kk) := y0
  have e2 : W0.drew.cell? ⟨w.heap.size + 1, 1, none⟩ = some (.string nm) := y1
  have e3 : W0.drew.cell? ⟨w.heap.size + 1, 2, none⟩ = some (.string tt) := y2
  have e4 : W0.drew.cell? ⟨w.heap.size + 1, 3, none⟩ = some (.string dt) := y3
  go_region_held3 (fun w' => w'.cell? ⟨w.heap.size, 0, none⟩ = some (.slice p fs.length c) ∧ w'.cell? ⟨w.heap.size + 1, 0, none⟩ = some (.int .u8 kk) ∧ w'.cell? ⟨w.heap.size + 1, 1, none⟩ = some (.string nm) ∧ w'.cell? ⟨w.heap.size + 1, 2, none⟩ = some (.string tt) ∧ w'.cell? ⟨w.heap.size + 1, 3, none⟩ = some (.string dt))
    (first | (go_split_ands; refine ⟨?_, ?_, ?_, ?_, ?_⟩ <;> (first | (rw [hBa.cell (p := ⟨w.heap.size, _, none⟩) n0]; assumption) | (rw [hBa.cell (p := ⟨w.heap.size + 1, _, none⟩) n1]; assumption))) | go_keep)
    ((first
      | (go_at_call 33; refine C1.out.mono ?_; rintro e wa ⟨rfl, hMa, hBa⟩; have hlk := HL.out _ _ _ hMa)))
  have hBa' : Below W0.heap.size W0 wa := hBa
  obtain ⟨⟨a0, a1, a2⟩, _, _⟩ := HX.out wa hBa'
  have CA := HC.out wa (HB0.out.trans (hBa'.mono HB0.out.size))
  have HBA : Hid (Below W0.heap.size W0 wa) := hBa'
  clear hBa hBa' hMa hlk C1 e0 e1 e2 e3 e4 x0 x1 x2 y0 y1 y2 y3 HC HL
  go_wp2_with (go_at_fn F; refine CA.mono ?_; rintro e w2 ⟨q, m, dd, rfl, hL2, hB2⟩; have hB3 : Below W0.heap.size W0 w2 := HBA.out.trans (hB2.mono HBA.out.size); obtain ⟨⟨b0, b1, b2⟩, hb3x, _⟩ := HX.out w2 hB3; have b3 := hb3x.1; clear hb3x; have HL2 : Hid (FsL w2 (.slice q m dd) gs) := hL2; have HB3 : Hid (Below W0.heap.size W0 w2) := hB3; clear hB2 hB3 hL2 a0 a1 a2 CA)
  have CBu := burn_any p q fs.length c m dd false fu kk w2 HRR.out
  obtain ⟨pf, nf, cf, hvf⟩ : ∃ pf nf cf, (if fu = 0 ∧ kk ≠ 1 then Value.slice p fs.length c else .slice q m dd) = .slice pf nf cf := by split <;> exact ⟨_, _, _, rfl⟩
  obtain ⟨vd, hvd⟩ : ∃ vd, (if fu = 0 then true else false) = vd := ⟨_, rfl⟩
  obtain ⟨vu, hvu⟩ : ∃ vu, (if 0 < fu then fu - 1 else fu) = vu := ⟨_, rfl⟩
  obtain ⟨ve, hve⟩ : ∃ ve, (if fu = 0 then (12 : Int) else 0) = ve := ⟨_, rfl⟩
  rw [hvf, hvd, hvu, hve] at CBu
  have HV : Hid ((if fu = 0 ∧ kk ≠ 1 then Value.slice p fs.length c else .slice q m dd) = .slice pf nf cf ∧ (if fu = 0 then true else false) = vd ∧ (if 0 < fu then fu - 1 else fu) = vu ∧ (if fu = 0 then (12 : Int) else 0) = ve) := ⟨hvf, hvd, hvu, hve⟩
  clear hvf hvd hvu hve
  refine CBu.mono ?_
  rintro e w3 ⟨rfl, hb3⟩
  have hB4 : Below W0.heap.size W0 w3 := HB3.out.trans (hb3.mono HB3.out.size)
  obtain ⟨_, _, hg⟩ := HX.out w3 hB4
  obtain ⟨Wa, Wb, Wc, hWa, hWb, hWc, ⟨oa, ca⟩, fa, ⟨ob, cb⟩, fb, ⟨oc, cc⟩, fc, hbl, _, d0, d1, d2⟩ := set_disk hg (.slice pf nf cf) (.bool vd) (.int .i64 vu)
  have HB : Hid (Below w.heap.size w Wc) := hbl _ _ (HB0.out.trans (hB4.mono HB0.out.size)) (by omega)
  have HFL : Hid (FsL Wc (.slice q m dd) gs) := by
    obtain ⟨o1, o2⟩ := set3_other hWa hWb hWc
    exact (HL2.out.below hb3).but hg o1 o2
  clear hb3 hB4 hg hbl b0 b1 b2 b3 CBu
  go_wp2_with fail
  exact bodyPost_ret (v := .tuple #[.agg #[.slice pf nf cf, .bool vd, .int .i64 vu], .int .i64 ve]) (by simp [results, Try.results22, go_sem, d0, d1, d2]) rfl (show Burnt fu kk _ gs w _ Wc from ⟨.slice q m dd, by rw [HV.out.1, HV.out.2.1, HV.out.2.2.1, HV.out.2.2.2], HFL.out, HB.out⟩)
end Go.Proofs.Ytedjfbkpebmggaa

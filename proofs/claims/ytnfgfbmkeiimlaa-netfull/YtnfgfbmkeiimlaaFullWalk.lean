/- The law NetFull returns true, of any nodes and text. -/
import Derived.Test.YtnfgfbmkeiimlaaNv
import Derived.Deep.RegionLaw
namespace Go.Proofs.Ytnfgfbmkeiimlaa
open Go.Shelf Go.RowKit Go.Lib Go.Sort
set_option linter.unusedVariables false
set_option linter.unusedSimpArgs false
attribute [local go_sem ↓] Go.wp_at_zero Go.wp_at_succ
theorem chk_ok {f t : Int} {x : ByteArray} (h : refE [] f t x = 0) {n : Nat} (hn : n ≤ 4096) : okN (List.replicate n (⟨f, t, x⟩ : PK)) = true := by
  obtain ⟨_, h1, h2, h3, _⟩ := refE_zero h
  unfold okN
  rw [Bool.and_eq_true]
  refine ⟨by simp; omega, ?_⟩
  rw [Bool.not_eq_true', List.any_eq_false]
  intro k hk
  rw [List.eq_of_mem_replicate hk]
  simp [wrongP, h1, h2]; omega
theorem refE_n {f t : Int} {x : ByteArray} (h : refE [] f t x = 0) {n : Nat} (hn : n ≤ 4096) : refE (List.replicate n ⟨f, t, x⟩) f t x = if 4096 ≤ n then 8 else 0 := by
  obtain ⟨_, h1, h2, h3, _⟩ := refE_zero h
  have k1 := chk_ok h hn
  unfold refE
  rw [if_neg (by rw [k1]; simp), if_neg (by rw [h1, h2]; simp), if_neg (by omega), List.length_replicate]
theorem misE_n {f t : Int} {x : ByteArray} (h : refE [] f t x = 0) {n : Nat} (hn : n ≤ 4096) (h0 : 0 < n) : misE (List.replicate n ⟨f, t, x⟩) 0 = 0 := by
  have k1 := chk_ok h hn
  unfold misE
  rw [if_neg (by rw [k1]; simp), List.length_replicate, if_neg (by omega)]
theorem dlvP_n {f t : Int} {x : ByteArray} (h : refE [] f t x = 0) {n : Nat} (hn : n + 1 ≤ 4096) : dlvP (List.replicate (n + 1) (⟨f, t, x⟩ : PK)) 0 = List.replicate n ⟨f, t, x⟩ := by
  unfold dlvP; rw [if_pos (misE_n h hn (by omega))]; simp
theorem refE_full {f t : Int} {x : ByteArray} (h : refE [] f t x = 0) : refE (List.replicate 4096 ⟨f, t, x⟩) f t x = 8 ∧ cpyE (List.replicate 4096 (⟨f, t, x⟩ : PK)) 0 = 8 ∧ misE (List.replicate 4096 (⟨f, t, x⟩ : PK)) 0 = 0 ∧ dlvP (List.replicate 4096 (⟨f, t, x⟩ : PK)) 0 = List.replicate 4095 ⟨f, t, x⟩ ∧ refE (List.replicate 4095 ⟨f, t, x⟩) f t x = 0 ∧ (sndP (List.replicate 4095 ⟨f, t, x⟩) f t x).length = 4096 := by
  have a1 := refE_n h (n := 4096) (Nat.le_refl _)
  have a2 := refE_n h (n := 4095) (by omega)
  have a3 := misE_n h (n := 4096) (Nat.le_refl _) (by omega)
  rw [if_pos (Nat.le_refl _)] at a1
  rw [if_neg (by omega)] at a2
  refine ⟨a1, ?_, a3, dlvP_n h (n := 4095) (Nat.le_refl _), a2, ?_⟩
  · unfold cpyE; rw [if_pos ⟨a3, by rw [List.length_replicate]; exact Nat.le_refl _⟩]
  · unfold sndP; rw [if_pos a2, List.length_append, List.length_replicate]; rfl
/-- A net that is being filled. -/
def FulJ (W0 : World) (g : Nat) (f t : Int) (x : ByteArray) (i : Nat) (W : World) : Prop :=
  Below W0.heap.size W0 W ∧ ∃ cur : Array Value, W.heap[g]? = some (.cells cur 30 (0, 0)) ∧ cur.size = 12288 ∧ ∀ j, j < i → cur[j * 3]? = some (.int .i64 f) ∧ cur[j * 3 + 1]? = some (.int .i64 t) ∧ cur[j * 3 + 2]? = some (.string x)
theorem FulJ.drewN {W0 W : World} {g : Nat} {f t : Int} {x : ByteArray} {i : Nat} (h : FulJ W0 g f t x i W) (n : Nat) : FulJ W0 g f t x i (W.drewN n) := ⟨below_drewN h.1 n, h.2⟩
theorem FulJ.put {W0 W : World} {g : Nat} {f t : Int} {x : ByteArray} {i : Nat} (h : FulJ W0 g f t x i W) (hi : i < 4096) (hg : W0.heap.size ≤ g) :
    ∃ Wa Wb Wc, W.setCell ⟨g, i * 3, none⟩ (.int .i64 f) = Wa ∧ Wa.setCell ⟨g, i * 3 + 1, none⟩ (.int .i64 t) = Wb ∧ Wb.setCell ⟨g, i * 3 + 2, none⟩ (.string x) = Wc ∧ (∃ o, W.cell? ⟨g, i * 3, none⟩ = some o) ∧ W.frozen? ⟨g, i * 3, none⟩ = false ∧ (∃ o, Wa.cell? ⟨g, i * 3 + 1, none⟩ = some o) ∧ Wa.frozen? ⟨g, i * 3 + 1, none⟩ = false ∧ (∃ o, Wb.cell? ⟨g, i * 3 + 2, none⟩ = some o) ∧ Wb.frozen? ⟨g, i * 3 + 2, none⟩ = false ∧ Hid (FulJ W0 g f t x (i + 1) Wc) := by
  obtain ⟨hb, cur, hg0, hc, hr⟩ := h
  obtain ⟨Wa, Wb, Wc, e1, e2, e3, x1, x2, x3, x4, x5, x6, hbl, _, _, cur', hg', hs', hk', k0, k1, k2⟩ := set_three (k := i * 3) hg0 (by omega) (.int .i64 f) (.int .i64 t) (.string x)
  refine ⟨Wa, Wb, Wc, e1, e2, e3, x1, x2, x3, x4, x5, x6, hbl _ _ hb hg, cur', hg', by rw [hs', hc], fun j hj => ?_⟩
  by_cases e : j = i
  · subst e; exact ⟨k0, k1, k2⟩
  · have := hr j (by omega)
    rw [hk' _ (by omega), hk' _ (by omega), hk' _ (by omega)]
    exact this
theorem FulJ.full {W0 W : World} {g : Nat} {f t : Int} {x : ByteArray} (h : FulJ W0 g f t x 4096 W) (hx : x.size ≤ 65536) : PsL W (.slice (some ⟨g, 0, none⟩) (List.replicate 4096 (⟨f, t, x⟩ : PK)).length 4096) (List.replicate 4096 ⟨f, t, x⟩) := by
  obtain ⟨hb, cur, hg0, hc, hr⟩ := h
  have hlen : (List.replicate 4096 (⟨f, t, x⟩ : PK)).length = 4096 := List.length_replicate
  refine ⟨_, 4096, rfl, by rw [hlen]; exact Nat.le_refl _, by omega, by rw [hlen]; omega, fun k hk => ?_, (fun h => by cases h), fun _ => ⟨g, 0, rfl, (Array.getElem?_eq_some_iff.1 hg0).1, fun j hj => ?_⟩⟩
  · rw [List.eq_of_mem_replicate hk]; show x.size ≤ _; omega
  · rw [hlen] at hj
    obtain ⟨c0, c1, c2⟩ := hr j hj
    rw [List.getElem_replicate]
    simp only [Nat.zero_add]
    exact ⟨cell_of_row hg0 c0, cell_of_row hg0 c1, cell_of_row hg0 c2⟩
set_option maxRecDepth 100000 in
set_option maxHeartbeats 4000000 in
theorem full_core (f t : Int) (x : ByteArray) (w : World) (hxs : x.size ≤ 140737488355328) :
    Calls Try.prog 6 #[.int .i64 f, .int .i64 t, .string x] w fun e w' => e = .returned (.bool true) ∧ Below w.heap.size w w' := by
  have CL : Hid (∀ W, Calls Try.prog 16 #[] W fun e w' => e = .returned (.bool true) ∧ Below W.heap.size W w') := lives_any
  have C0 : Hid (∀ W, Calls Try.prog 8 #[.agg #[.slice none 0 0], .int .i64 f, .int .i64 t, .string x] W fun e w' => NetE (sndP [] f t x) (refE [] f t x) W e w') := fun W => Send_any (.slice none 0 0) f t x [] W (PsL.nil W)
  by_cases h0 : refE [] f t x = 0
  · have hP : sndP [] f t x = [⟨f, t, x⟩] := by unfold sndP; rw [if_pos h0]; rfl
    rw [hP, h0] at C0
    obtain ⟨r1, r2, r3, r4, r5, r6⟩ := refE_full h0
    have hx6 := (refE_zero h0).2.2.2.1
    obtain ⟨FS, hFS⟩ : ∃ FS, List.replicate 4096 (⟨f, t, x⟩ : PK) = FS := ⟨_, rfl⟩
    obtain ⟨GS, hGS⟩ : ∃ GS, List.replicate 4095 (⟨f, t, x⟩ : PK) = GS := ⟨_, rfl⟩
    obtain ⟨MS, hMS⟩ : ∃ MS, sndP GS f t x = MS := ⟨_, rfl⟩
    have hFL : FS.length = 4096 := by rw [← hFS]; exact List.length_replicate
    rw [hGS] at r4 r5 r6
    rw [hMS] at r6
    rw [hFS] at r1 r2 r3 r4
    have C1 : Hid (∀ p c W, PsL W (.slice p FS.length c) FS → Calls Try.prog 8 #[.agg #[.slice p FS.length c], .int .i64 f, .int .i64 t, .string x] W fun e w' => NetE (sndP FS f t x) 8 W e w') := fun p c W hl => by have := Send_any _ f t x FS W hl; rwa [r1] at this
    have C2 : Hid (∀ p c W, PsL W (.slice p FS.length c) FS → Calls Try.prog 14 #[.agg #[.slice p FS.length c], .int .i64 0] W fun e w' => NetE (cpyP FS 0) 8 W e w') := fun p c W hl => by have := Copy_any _ 0 FS W hl; rwa [r2] at this
    have C3 : Hid (∀ p c W, PsL W (.slice p FS.length c) FS → Calls Try.prog 12 #[.agg #[.slice p FS.length c], .int .i64 0] W fun e w' => NetE GS 0 W e w') := fun p c W hl => by have := Drop_any _ 0 FS W hl; rwa [r3, r4] at this
    have C4 : Hid (∀ p c W, PsL W (.slice p GS.length c) GS → Calls Try.prog 8 #[.agg #[.slice p GS.length c], .int .i64 f, .int .i64 t, .string x] W fun e w' => NetE MS 0 W e w') := fun p c W hl => by have := Send_any _ f t x GS W hl; rwa [r5, hMS] at this
    obtain ⟨AS, hAS⟩ : ∃ AS, sndP FS f t x = AS := ⟨_, rfl⟩
    obtain ⟨BS, hBS⟩ : ∃ BS, cpyP FS 0 = BS := ⟨_, rfl⟩
    rw [hAS] at C1
    rw [hBS] at C2
    rw [hFL] at C1 C2 C3
    have HFF : Hid (∀ W0 W g, FulJ W0 g f t x 4096 W → PsL W (.slice (some ⟨g, 0, none⟩) 4096 4096) FS) := fun W0 W g hj => by
      have := hj.full hx6
      rwa [hFS, hFL] at this
    have HML : Hid (MS.length = 4096) := r6
    have hml : (((MS.length : Nat) : Int) == 4096) = true := by rw [r6]; rfl
    clear r1 r2 r3 r4 r5 r6 hFS hGS hMS hAS hBS hFL hP h0
    go_enter Try.func6, Try.ntmps6
    go_wp2_with fail
    refine (CL.out _).mono ?_
    rintro e w1 ⟨rfl, hb1⟩
    have HB1 : Hid (Below w.heap.size w w1) := hb1
    clear hb1
    go_wp2_with fail
    refine (C0.out _).mono ?_
    rintro e w2 ⟨p2, c2, rfl, hl2, hn2, hb2⟩
    obtain ⟨b2, o2, hp2, m0, m1, m2⟩ : ∃ b o, p2 = some ⟨b, o, none⟩ ∧ w2.cell? ⟨b, o, none⟩ = some (.int .i64 f) ∧ w2.cell? ⟨b, o + 1, none⟩ = some (.int .i64 t) ∧ w2.cell? ⟨b, o + 2, none⟩ = some (.string x) := by
      obtain ⟨_, _, e', _, _, _, _, _, hp⟩ := hl2
      simp only [Value.slice.injEq] at e'
      obtain ⟨rfl, _, _⟩ := e'
      obtain ⟨b, o, rfl, _, hi⟩ := hp (by simp)
      have := hi 0 (by simp)
      simp at this
      exact ⟨b, o, rfl, this⟩
    subst hp2
    obtain ⟨V2, hV2⟩ : ∃ V2, w2.alloc (.cells #[.slice (some ⟨b2, o2, none⟩) 1 c2] 24) = V2 := ⟨_, rfl⟩
    obtain ⟨hI2, hbV2⟩ := BoxI.new (ps := [(⟨f, t, x⟩ : PK)]) hl2 hV2
    have hB2 : Below w.heap.size w V2 := HB1.out.trans ((hb2.trans (hbV2.mono hb2.size)).mono HB1.out.size)
    have HB2 : Hid (Below w.heap.size w V2) := hB2
    have hlb : b2 < w2.heap.size := by
      by_cases hb : b2 < w2.heap.size
      · exact hb
      · have : w2.heap[b2]? = none := Array.getElem?_eq_none (by omega)
        simp [World.cell?, this] at m0
    obtain ⟨Z, hZ, hmk⟩ : ∃ Z : Array Value, Z.size = 12288 ∧ ∀ W, (Instr.makeSlice 22 (.int .i64 4096) (.int .i64 4096)).run Try.prog W = .ok (.slice (some ⟨W.heap.size, 0, none⟩) 4096 4096) (W.alloc (.cells Z 30)) := by
      obtain ⟨i0, hi0, hz0, hz1, hz2⟩ := info30
      refine ⟨madeCells (Value.agg #[.int .i64 0, .int .i64 0, .string ⟨#[]⟩]).cells (4096 * 3), size_madeCells _ _, fun W => ?_⟩
      have := run_make (P := Try.prog) W 22 30 i0 _ Try.underlying22 hi0 hz0 .i64 .i64 4096 4096 (by omega) (by omega) (by rw [hz2]; omega) (by omega)
      rw [hz1] at this
      exact this
    obtain ⟨V3, hV3⟩ : ∃ V3, (V2.alloc (.cells Z 30)).alloc (.cells #[.slice (some ⟨V2.heap.size, 0, none⟩) 4096 4096] 24) = V3 := ⟨_, rfl⟩
    have hb23 : Below V2.heap.size V2 V3 := by rw [← hV3]; exact two_below _ _ _
    have gZ : V3.heap[V2.heap.size]? = some (.cells Z 30 (0, 0)) := by rw [← hV3, heap_alloc_old _ _ (by simp)]; exact heap_alloc_new V2 _
    have gF : V3.heap[V2.heap.size + 1]? = some (.cells #[.slice (some ⟨V2.heap.size, 0, none⟩) 4096 4096] 24 (0, 0)) := by
      rw [← hV3]
      have := heap_alloc_new (V2.alloc (.cells Z 30)) (.cells #[.slice (some ⟨V2.heap.size, 0, none⟩) 4096 4096] 24)
      simpa using this
    have HJ0 : Hid (FulJ V2 V2.heap.size f t x 0 V3) := ⟨hb23, Z, gZ, hZ, fun j hj => by omega⟩
    have HN : Hid (∀ W, Below V2.heap.size V2 W → W.cell? ⟨w2.heap.size, 0, none⟩ = some (.slice (some ⟨b2, o2, none⟩) 1 c2) ∧ W.cell? ⟨b2, o2, none⟩ = some (.int .i64 f) ∧ W.cell? ⟨b2, o2 + 1, none⟩ = some (.int .i64 t) ∧ W.cell? ⟨b2, o2 + 2, none⟩ = some (.string x)) := fun W hb => by
      have hlV : b2 < V2.heap.size := Nat.lt_of_lt_of_le hlb hbV2.size
      have c := (hI2.below hb).cell
      refine ⟨by simpa using c, ?_, ?_, ?_⟩
      · rw [hb.cell (p := ⟨b2, _, none⟩) hlV, hbV2.cell (p := ⟨b2, _, none⟩) hlb]; exact m0
      · rw [hb.cell (p := ⟨b2, _, none⟩) hlV, hbV2.cell (p := ⟨b2, _, none⟩) hlb]; exact m1
      · rw [hb.cell (p := ⟨b2, _, none⟩) hlV, hbV2.cell (p := ⟨b2, _, none⟩) hlb]; exact m2
    have vF := cell_of_row (k := 0) gF rfl
    have HGF : Hid (V3.heap[V2.heap.size + 1]? = some (.cells #[.slice (some ⟨V2.heap.size, 0, none⟩) 4096 4096] 24 (0, 0))) := gF
    clear hl2 hn2 hb2 hI2 hbV2 hB2 hlb hb23 gZ gF hZ m0 m1 m2
    go_wp2_with fail
    go_loopg [40] 4096 (fun gf s5 wx => ∃ j : Nat, s5 = .int .i64 j ∧ j ≤ 4096 ∧ 4096 ≤ j + gf ∧ Hid (FulJ V2 V2.heap.size f t x j wx) ∧ Hid (wx.heap[V2.heap.size + 1]? = some (.cells #[.slice (some ⟨V2.heap.size, 0, none⟩) 4096 4096] 24 (0, 0))))
    case atStart => exact ⟨0, rfl, by omega, by omega, HJ0, HGF⟩
    case round =>
      clear HJ0 HGF vF
      obtain ⟨j, rfl, hj1, hgf, HJ, HG⟩ := hrel
      by_cases hj : j < 4096
      · obtain ⟨g', rfl⟩ : ∃ g', gk = g' + 1 := ⟨gk - 1, by omega⟩
        obtain ⟨n0, n1, n2, n3⟩ := HN.out wr HJ.out.1
        have vF := cell_of_row (k := 0) HG.out rfl
        obtain ⟨Wa, Wb, Wc, hWa, hWb, hWc, ⟨oa, ca⟩, fa, ⟨ob, cb⟩, fb, ⟨oc, cc⟩, fc, HJ2⟩ := (show FulJ V2 V2.heap.size f t x j wr.drew from ⟨HJ.out.1.drew, HJ.out.2⟩).put hj (Nat.le_refl _)
        have HG2 : Hid (Wc.heap[V2.heap.size + 1]? = some (.cells #[.slice (some ⟨V2.heap.size, 0, none⟩) 4096 4096] 24 (0, 0))) := by
          rw [← hWc, ← hWb, ← hWa, heap_setCell_other _ _ _ _ (by show V2.heap.size + 1 ≠ V2.heap.size; omega), heap_setCell_other _ _ _ _ (by show V2.heap.size + 1 ≠ V2.heap.size; omega), heap_setCell_other _ _ _ _ (by show V2.heap.size + 1 ≠ V2.heap.size; omega)]
          exact HG.out
        have z0 : (0 : Int) ≤ (j : Int) := by omega
        have z1 : (j : Int) < 4096 := by omega
        have n0' : wr.drew.cell? ⟨w2.heap.size, 0, none⟩ = some (.slice (some ⟨b2, o2, none⟩) 1 c2) := n0
        have n1' : wr.drew.cell? ⟨b2, o2, none⟩ = some (.int .i64 f) := n1
        have n2' : wr.drew.cell? ⟨b2, o2 + 1, none⟩ = some (.int .i64 t) := n2
        have n3' : wr.drew.cell? ⟨b2, o2 + 2, none⟩ = some (.string x) := n3
        have vF' : wr.drew.cell? ⟨V2.heap.size + 1, 0, none⟩ = some (.slice (some ⟨V2.heap.size, 0, none⟩) 4096 4096) := vF
        clear HJ HG
        go_wp2_with fail
        go_region_law (fail)
        all_goals
          go_wp2_with fail
          go_roundg g'
          case measure => omega
          case rel => exact ⟨j + 1, by go_num, by omega, by omega, HJ2, HG2⟩
      · have hj4 : j = 4096 := by omega
        subst hj4
        have HL := HFF.out _ _ _ HJ.out
        have K1 := C1.out _ 4096 wr HL
        have vF := cell_of_row (k := 0) HG.out rfl
        have HGr : Hid (∀ W, Below wr.heap.size wr W → W.cell? ⟨V2.heap.size + 1, 0, none⟩ = some (.slice (some ⟨V2.heap.size, 0, none⟩) 4096 4096) ∧ PsL W (.slice (some ⟨V2.heap.size, 0, none⟩) 4096 4096) FS) := fun W hb => ⟨cell_of_row (k := 0) (by rw [hb.block _ (Array.getElem?_eq_some_iff.1 HG.out).1]; exact HG.out) rfl, HL.below hb⟩
        have HBr : Hid (Below w.heap.size w wr) := HB2.out.trans (HJ.out.1.mono HB2.out.size)
        clear HJ HG HL HFF HN
        go_wp2_with fail
        refine K1.mono ?_
        rintro e w5 ⟨p5, c5, rfl, hl5, hn5, hb5⟩
        have hbV5 := one_below w5 (.cells #[.slice p5 AS.length c5] 24)
        have hB5 : Below wr.heap.size wr (w5.alloc (.cells #[.slice p5 AS.length c5] 24)) := hb5.trans (hbV5.mono hb5.size)
        obtain ⟨V5, hV5⟩ : ∃ V5, w5.alloc (.cells #[.slice p5 AS.length c5] 24) = V5 := ⟨_, rfl⟩
        rw [hV5] at hB5
        have HB5 : Hid (Below wr.heap.size wr V5) := hB5
        obtain ⟨y5, l5⟩ := HGr.out V5 hB5
        have K2 := C2.out _ _ V5 l5
        clear K1 hl5 hn5 hb5 hbV5 hB5 l5 vF
        go_wp2_with fail
        refine K2.mono ?_
        rintro e w6 ⟨p6, c6, rfl, hl6, hn6, hb6⟩
        have hbV6 := one_below w6 (.cells #[.slice p6 BS.length c6] 24)
        have hB6 : Below wr.heap.size wr (w6.alloc (.cells #[.slice p6 BS.length c6] 24)) := HB5.out.trans ((hb6.trans (hbV6.mono hb6.size)).mono HB5.out.size)
        obtain ⟨V6, hV6⟩ : ∃ V6, w6.alloc (.cells #[.slice p6 BS.length c6] 24) = V6 := ⟨_, rfl⟩
        rw [hV6] at hB6
        have HB6 : Hid (Below wr.heap.size wr V6) := hB6
        obtain ⟨y6, l6⟩ := HGr.out V6 hB6
        have K3 := C3.out _ _ V6 l6
        clear K2 hl6 hn6 hb6 hbV6 hB6 l6 y5
        go_wp2_with fail
        refine K3.mono ?_
        rintro e w7 ⟨p7, c7, rfl, hl7, hn7, hb7⟩
        obtain ⟨V7, hV7⟩ : ∃ V7, w7.alloc (.cells #[.slice p7 GS.length c7] 24) = V7 := ⟨_, rfl⟩
        obtain ⟨hI7, hbV7⟩ := BoxI.new hl7 hV7
        have HB7 : Hid (Below wr.heap.size wr V7) := HB6.out.trans ((hb7.trans (hbV7.mono hb7.size)).mono HB6.out.size)
        have y7 := hI7.cell
        have K4 := C4.out _ _ V7 hI7.2
        clear K3 hl7 hn7 hb7 hbV7 hI7 y6
        go_wp2_with fail
        refine K4.mono ?_
        rintro e w8 ⟨p8, c8, rfl, hl8, hn8, hb8⟩
        have HB8 : Hid (Below w.heap.size w (w8.alloc (.cells #[.slice p8 MS.length c8] 24))) := by
          have h1 : Below wr.heap.size wr w8 := HB7.out.trans (hb8.mono HB7.out.size)
          have h2 : Below w.heap.size w w8 := HBr.out.trans (h1.mono HBr.out.size)
          exact h2.alloc h2.size _
        clear K4 hl8 hn8 hb8 y7
        go_wp2_with fail
        go_ret
        exact ⟨rfl, HB8.out⟩
  · have hP : sndP [] f t x = [] := by unfold sndP; rw [if_neg h0]; unfold besP; split <;> rfl
    rw [hP] at C0
    obtain ⟨E, hE⟩ : ∃ E, refE [] f t x = E := ⟨_, rfl⟩
    rw [hE] at C0 h0
    have n0 : (E != 0) = true := by simpa using h0
    clear hP hE h0
    go_enter Try.func6, Try.ntmps6
    go_wp2_with fail
    refine (CL.out _).mono ?_
    rintro e w1 ⟨rfl, hb1⟩
    have HB1 : Hid (Below w.heap.size w w1) := hb1
    clear hb1
    go_wp2_with fail
    refine (C0.out _).mono ?_
    rintro e w2 ⟨p2, c2, rfl, hl2, hn2, hb2⟩
    have HB2 : Hid (Below w.heap.size w (w2.alloc (.cells #[.slice p2 0 c2] 24))) := (HB1.out.trans (hb2.mono HB1.out.size)).alloc (Nat.le_trans HB1.out.size hb2.size) _
    clear hl2 hn2 hb2
    go_wp2_with fail
    go_ret
    exact ⟨rfl, HB2.out⟩
end Go.Proofs.Ytnfgfbmkeiimlaa

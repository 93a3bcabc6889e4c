/- The law NetApart returns true, of any net and place. -/
import Derived.Test.YtnfgfbmkeiimlaaNm
namespace Go.Proofs.Ytnfgfbmkeiimlaa
open Go.Shelf Go.RowKit Go.Lib Go.Sort
set_option linter.unusedVariables false
set_option linter.unusedSimpArgs false
attribute [local go_sem ↓] Go.wp_at_zero Go.wp_at_succ
/-- A packet's own box. -/
def BoxK (g : Nat) (k : PK) (W : World) : Prop := W.heap[g]? = some (.cells #[.int .i64 k.f, .int .i64 k.t, .string k.x] 30 (0, 0))
theorem BoxK.below {g : Nat} {k : PK} {W W' : World} (h : BoxK g k W) (hb : Below W.heap.size W W') : BoxK g k W' := by
  unfold BoxK at h ⊢
  rw [hb.block _ (Array.getElem?_eq_some_iff.1 h).1]; exact h
theorem BoxK.cells {g : Nat} {k : PK} {W : World} (h : BoxK g k W) : W.cell? ⟨g, 0, none⟩ = some (.int .i64 k.f) ∧ W.cell? ⟨g, 1, none⟩ = some (.int .i64 k.t) ∧ W.cell? ⟨g, 2, none⟩ = some (.string k.x) := ⟨cell_of_row h rfl, cell_of_row h rfl, cell_of_row h rfl⟩
theorem box_two {W V : World} {p : Option Addr} {c : Nat} {ps : List PK} {k : PK} (h : PsL W (.slice p ps.length c) ps) (e : (W.alloc (.cells #[.slice p ps.length c] 24)).alloc (.cells #[.int .i64 k.f, .int .i64 k.t, .string k.x] 30) = V) : BoxI W.heap.size p c ps V ∧ BoxK (W.heap.size + 1) k V ∧ Below W.heap.size W V := by
  subst e
  refine ⟨⟨?_, h.below (two_below _ _ _)⟩, ?_, two_below _ _ _⟩
  · rw [heap_alloc_old _ _ (by simp)]; exact heap_alloc_new W _
  · have := heap_alloc_new (W.alloc (.cells #[.slice p ps.length c] 24)) (.cells #[.int .i64 k.f, .int .i64 k.t, .string k.x] 30)
    simpa [BoxK] using this
theorem without_low {ps : List PK} {k j : Nat} (h : j < k) (hk : k < ps.length) (ha : j < (ps.take k ++ ps.drop (k + 1)).length) (hj : j < ps.length) : (ps.take k ++ ps.drop (k + 1))[j] = ps[j] := by
  rw [List.getElem_append_left (by simp; omega)]; simp
theorem without_high {ps : List PK} {k m : Nat} (h : k ≤ m) (hk : k < ps.length) (ha : m < (ps.take k ++ ps.drop (k + 1)).length) (hj : m + 1 < ps.length) : (ps.take k ++ ps.drop (k + 1))[m] = ps[m + 1] := by
  rw [List.getElem_append_right (by simp; omega)]
  simp only [List.getElem_drop, List.length_take]
  congr 1; omega
/-- The cells of one packet of a list. -/
theorem PsL.at {W : World} {p : Option Addr} {n c : Nat} {fs : List PK} (h : PsL W (.slice p n c) fs) {j : Nat} (hj : j < fs.length) {k : PK} (e : fs[j] = k) : ∃ b o, p = some ⟨b, o, none⟩ ∧ W.cell? ⟨b, o + j * 3, none⟩ = some (.int .i64 k.f) ∧ W.cell? ⟨b, o + j * 3 + 1, none⟩ = some (.int .i64 k.t) ∧ W.cell? ⟨b, o + j * 3 + 2, none⟩ = some (.string k.x) := by
  obtain ⟨_, _, e', _, _, _, _, _, hp⟩ := h
  simp only [Value.slice.injEq] at e'
  obtain ⟨rfl, _, _⟩ := e'
  obtain ⟨b, o, rfl, _, hi⟩ := hp (by omega)
  have := hi j hj
  rw [e] at this
  exact ⟨b, o, rfl, this⟩
set_option maxRecDepth 100000 in
set_option maxHeartbeats 4000000 in
theorem apart_core (v : Value) (i : Int) (ps : List PK) (w : World) (h : PsL w v ps) :
    Calls Try.prog 5 #[.agg #[v], .int .i64 i] w fun e w' => e = .returned (.bool true) ∧ Below w.heap.size w w' := by
  obtain ⟨W0, hW0, hb0, hs0, hx⟩ := box24 w v
  have CL : Hid (∀ W, Calls Try.prog 16 #[] W fun e w' => e = .returned (.bool true) ∧ Below W.heap.size W w') := lives_any
  have CD : Hid (∀ W, Below w.heap.size w W → Calls Try.prog 10 #[.agg #[v], .int .i64 i] W fun e w' => NetP (dlvP ps i) (dlvK ps i) (misE ps i) W e w') := fun W hb => Deliver_any v i ps W (h.below hb)
  have CR : Hid (∀ W, Below w.heap.size w W → Calls Try.prog 12 #[.agg #[v], .int .i64 i] W fun e w' => NetE (dlvP ps i) (misE ps i) W e w') := fun W hb => Drop_any v i ps W (h.below hb)
  have CC : Hid (∀ W, Below w.heap.size w W → Calls Try.prog 14 #[.agg #[v], .int .i64 i] W fun e w' => NetE (cpyP ps i) (cpyE ps i) W e w') := fun W hb => Copy_any v i ps W (h.below hb)
  have CS : Hid (∀ (fs : List PK) p q c c' W, PsL W (.slice p fs.length c) fs → PsL W (.slice q fs.length c') fs → Calls Try.prog 17 #[.agg #[.slice p fs.length c], .agg #[.slice q fs.length c']] W fun e w' => e = .returned (.bool true) ∧ Below W.heap.size W w') := fun fs p q c c' W h1 h2 => Same_eq p q c c' fs W h1 h2
  obtain ⟨aa, ha⟩ : ∃ aa, dlvP ps i = aa := ⟨_, rfl⟩
  obtain ⟨⟨kf, kt, kx⟩, hk⟩ : ∃ k, dlvK ps i = k := ⟨_, rfl⟩
  obtain ⟨E, hE⟩ : ∃ E, misE ps i = E := ⟨_, rfl⟩
  obtain ⟨cs, hcs⟩ : ∃ cs, cpyP ps i = cs := ⟨_, rfl⟩
  obtain ⟨F, hF⟩ : ∃ F, cpyE ps i = F := ⟨_, rfl⟩
  rw [ha, hk, hE] at CD
  rw [ha, hE] at CR
  rw [hcs, hF] at CC
  have HX : Hid (∀ W, Below W0.heap.size W0 W → W.cell? ⟨w.heap.size, 0, none⟩ = some v) := hx
  have HB0 : Hid (Below w.heap.size w W0) := hb0
  have HS0 : Hid (W0.heap.size = w.heap.size + 1) := hs0
  have HL : Hid (PsL w v ps) := h
  have HFA : Hid (E ≠ 0 → F ≠ 0 ∧ (⟨kf, kt, kx⟩ : PK) = zeroP) := fun h0 => by
    rw [← hE] at h0
    rw [← hF, ← hk]
    refine ⟨by unfold cpyE; rw [if_neg (by omega)]; exact h0, by unfold dlvK; rw [if_neg h0]⟩
  have HFB : Hid (E = 0 → ∃ k : Nat, ∃ hk : k < ps.length, i = (k : Int) ∧ ps[k] = ⟨kf, kt, kx⟩ ∧ aa = ps.take k ++ ps.drop (k + 1) ∧ ps.length ≤ 4096 ∧ (F = 0 → cs = ps ++ [⟨kf, kt, kx⟩])) := fun h0 => by
    rw [← hE] at h0
    obtain ⟨hok, hi0, hi1⟩ := misE_zero h0
    refine ⟨i.toNat, by omega, by omega, ?_, ?_, okN_len hok, fun hF0 => ?_⟩
    · rw [← hk]; unfold dlvK; rw [if_pos h0, List.getElem?_eq_getElem (by omega)]; rfl
    · rw [← ha]; unfold dlvP; rw [if_pos h0]
    · rw [← hcs, ← hk]; rw [← hF] at hF0; unfold cpyP; rw [if_pos hF0]
  obtain ⟨p, c, rfl, _⟩ := h
  clear ha hk hE hcs hF hx hb0 hs0
  go_enter Try.func5, Try.ntmps5
  go_wp2_with fail
  refine (CL.out _).mono ?_
  rintro e w1 ⟨rfl, hb1⟩
  have x1 := HX.out w1 hb1
  have HB1 : Hid (Below W0.heap.size W0 w1) := hb1
  have K1 := CD.out w1 (HB0.out.trans (hb1.mono HB0.out.size))
  clear hb1
  go_wp2_with fail
  refine K1.mono ?_
  rintro e w2 ⟨p2, c2, rfl, hl2, hn2, hb2⟩
  obtain ⟨V2, hV2⟩ : ∃ V2, (w2.alloc (.cells #[.slice p2 aa.length c2] 24)).alloc (.cells #[.int .i64 kf, .int .i64 kt, .string kx] 30) = V2 := ⟨_, rfl⟩
  obtain ⟨hA2, hK2, hbV2⟩ := box_two (k := ⟨kf, kt, kx⟩) hl2 hV2
  have HB2 : Hid (Below W0.heap.size W0 V2) := HB1.out.trans ((hb2.trans (hbV2.mono hb2.size)).mono HB1.out.size)
  have HA2 : Hid (BoxI w2.heap.size p2 c2 aa V2) := hA2
  have HK2 : Hid (BoxK (w2.heap.size + 1) ⟨kf, kt, kx⟩ V2) := hK2
  have x2 := HX.out V2 HB2.out
  have K2 := CR.out V2 (HB0.out.trans (HB2.out.mono HB0.out.size))
  clear K1 hb2 hl2 hn2 hA2 hK2 hbV2 x1 HB1
  go_wp2_with fail
  refine K2.mono ?_
  rintro e w3 ⟨p3, c3, rfl, hl3, hn3, hb3⟩
  obtain ⟨V3, hV3⟩ : ∃ V3, w3.alloc (.cells #[.slice p3 aa.length c3] 24) = V3 := ⟨_, rfl⟩
  obtain ⟨hA3, hbV3⟩ := BoxI.new hl3 hV3
  have hb23 : Below V2.heap.size V2 V3 := hb3.trans (hbV3.mono hb3.size)
  have HB3 : Hid (Below W0.heap.size W0 V3) := HB2.out.trans (hb23.mono HB2.out.size)
  have HA3 : Hid (BoxI w2.heap.size p2 c2 aa V3) := HA2.out.below hb23
  have HK3 : Hid (BoxK (w2.heap.size + 1) ⟨kf, kt, kx⟩ V3) := HK2.out.below hb23
  have HC3 : Hid (BoxI w3.heap.size p3 c3 aa V3) := hA3
  have x3 := HX.out V3 HB3.out
  have K3 := CC.out V3 (HB0.out.trans (HB3.out.mono HB0.out.size))
  clear K2 hb3 hl3 hn3 hA3 hbV3 hb23 HA2 HK2 x2 HB2
  go_wp2_with fail
  refine K3.mono ?_
  rintro e w4 ⟨p4, c4, rfl, hl4, hn4, hb4⟩
  obtain ⟨V4, hV4⟩ : ∃ V4, w4.alloc (.cells #[.slice p4 cs.length c4] 24) = V4 := ⟨_, rfl⟩
  obtain ⟨hA4, hbV4⟩ := BoxI.new hl4 hV4
  have hb34 : Below V3.heap.size V3 V4 := hb4.trans (hbV4.mono hb4.size)
  have HB4 : Hid (Below W0.heap.size W0 V4) := HB3.out.trans (hb34.mono HB3.out.size)
  have HA4 : Hid (BoxI w2.heap.size p2 c2 aa V4) := HA3.out.below hb34
  have HK4 : Hid (BoxK (w2.heap.size + 1) ⟨kf, kt, kx⟩ V4) := HK3.out.below hb34
  have HC4 : Hid (BoxI w3.heap.size p3 c3 aa V4) := HC3.out.below hb34
  have HD4 : Hid (BoxI w4.heap.size p4 c4 cs V4) := hA4
  have x4 := HX.out V4 HB4.out
  have a4 := HA4.out.cell
  have b4 := HC4.out.cell
  have d4 := HD4.out.cell
  obtain ⟨m0, m1, m2⟩ := HK4.out.cells
  simp only at m0 m1 m2
  clear K3 hb4 hl4 hn4 hA4 hbV4 hb34 HA3 HK3 HC3 x3 HB3 CL CD CR CC
  by_cases e0 : E = 0
  · subst e0
    obtain ⟨k, hk, rfl, hpk, has, hle, hcs⟩ := HFB.out rfl
    have z0 : (0 : Int) ≤ (k : Int) := by omega
    have z1 : (k : Int) < (ps.length : Int) := by omega
    have z2 : ¬ (k : Int) < 0 := by omega
    have z3 : ¬ (ps.length : Int) ≤ (k : Int) := by omega
    have z4 : decide ((k : Int) < 0) = false := decide_eq_false z2
    have z5 : decide ((ps.length : Int) ≤ (k : Int)) = false := decide_eq_false z3
    have z6 : ¬ ps.length ≤ k := by omega
    have z7 : decide (ps.length ≤ k) = false := decide_eq_false z6
    have hla : aa.length + 1 = ps.length := by rw [has]; simp; omega
    have q1 : IntKind.i64.wrap ((aa.length : Int) + 1) = (ps.length : Int) := by rw [IntKind.wrap_i64]; omega
    have q2 : IntKind.i64.wrap ((ps.length : Int) + 1) = (ps.length : Int) + 1 := by rw [IntKind.wrap_i64]; omega
    have t0 : ((ps.length : Int) != (ps.length : Int)) = false := by simp
    have t1 : (((ps.length : Int) + 1) != ((ps.length : Int) + 1)) = false := by simp
    have hPV : PsL V4 (.slice p ps.length c) ps := HL.out.below (HB0.out.trans (HB4.out.mono HB0.out.size))
    obtain ⟨_, _, e, _, _, _, _, _, hp⟩ := hPV
    simp only [Value.slice.injEq, true_and] at e
    obtain ⟨rfl, rfl⟩ := e
    obtain ⟨b, o, rfl, hblt, hbi⟩ := hp (by omega)
    have HPI : Hid (∀ W, Below V4.heap.size V4 W → PsIs W b o ps) := fun W hb => hbi.below hblt hb
    have HPA : Hid (∀ W, Below V4.heap.size V4 W → BoxI w2.heap.size p2 c2 aa W) := fun W hb => HA4.out.below hb
    have HPD : Hid (∀ W, Below V4.heap.size V4 W → BoxI w4.heap.size p4 c4 cs W) := fun W hb => HD4.out.below hb
    have HPK : Hid (∀ W, Below V4.heap.size V4 W → BoxK (w2.heap.size + 1) ⟨kf, kt, kx⟩ W) := fun W hb => HK4.out.below hb
    have HPX : Hid (∀ W, Below V4.heap.size V4 W → W.cell? ⟨w.heap.size, 0, none⟩ = some (.slice (some ⟨b, o, none⟩) ps.length c)) := fun W hb => HX.out W (HB4.out.trans (hb.mono HB4.out.size))
    have HBV : Hid (Below w.heap.size w V4) := HB0.out.trans (HB4.out.mono HB0.out.size)
    have HPK0 : Hid (ps[k] = ⟨kf, kt, kx⟩) := hpk
    have HAS : Hid (aa = ps.take k ++ ps.drop (k + 1)) := has
    have HCS : Hid (F = 0 → cs = ps ++ [⟨kf, kt, kx⟩]) := hcs
    have HLA : Hid (aa.length + 1 = ps.length) := hla
    have pa := fun l : LaterS V4.heap.size V4 => (HPA.out l.w l.h).cell
    have pd := fun l : LaterS V4.heap.size V4 => (HPD.out l.w l.h).cell
    have pb := fun l : LaterS V4.heap.size V4 => (HC4.out.below l.h).cell
    have px := fun l : LaterS V4.heap.size V4 => HPX.out l.w l.h
    have pk0 := fun l : LaterS V4.heap.size V4 => (HPK.out l.w l.h).cells.1
    have pk1 := fun l : LaterS V4.heap.size V4 => (HPK.out l.w l.h).cells.2.1
    have pk2 := fun l : LaterS V4.heap.size V4 => (HPK.out l.w l.h).cells.2.2
    have pn0 := fun l : LaterS V4.heap.size V4 => (HPI.out l.w l.h k hk).1
    have pn1 := fun l : LaterS V4.heap.size V4 => (HPI.out l.w l.h k hk).2.1
    have pn2 := fun l : LaterS V4.heap.size V4 => (HPI.out l.w l.h k hk).2.2
    rw [hpk] at pn0 pn1 pn2
    simp only at pk0 pk1 pk2 pn0 pn1 pn2
    have hne := fun W => neq_core kf kf kt kt kx kx W
    simp only [eqP_self, Bool.not_true] at hne
    have heq := fun W => eql_core kf kf kt kt kx kx W
    simp only [eqP_self] at heq
    have S1 : Hid (∀ l : LaterS V4.heap.size V4, Calls Try.prog 17 #[.agg #[.slice p2 aa.length c2], .agg #[.slice p3 aa.length c3]] l.w fun e w' => e = .returned (.bool true) ∧ Below l.w.heap.size l.w w') := fun l => CS.out aa p2 p3 c2 c3 l.w (HPA.out l.w l.h).2 (HC4.out.below l.h).2
    have n0 : ((0 : Int) != 0) = false := rfl
    clear hpk has hcs hla hp hblt hbi HFA HFB CS HL
    by_cases f0 : F = 0
    · subst f0
      have HCT : Hid (cs = ps ++ [⟨kf, kt, kx⟩]) := HCS.out rfl
      clear HCS
      have hlc : cs.length = ps.length + 1 := by rw [HCT.out]; simp
      have q3 : ((cs.length : Int) != (ps.length : Int) + 1) = false := by rw [hlc]; simp
      have HLC : Hid (cs.length = ps.length + 1) := hlc
      clear hlc
      go_wp2_with fail
      have inhL := laterInh
      refine wp_region_laterS mixedOnS (by kernel_rfl) ?_
      repeat (go_big_quiet_step (first
        | (go_at_call 17; exact calls_laterS (S1.out _))))
      refine wpQuiet_nil ?_
      intro w8 hw'
      obtain ⟨⟨wq, hwq⟩, hw''⟩ := hw'
      subst hw''
      have HB8 : Hid (Below V4.heap.size V4 w8) := hwq
      have y8 := HPX.out w8 hwq
      clear hwq S1 pa pb px pk0 pk1 pk2 pn0 pn1 pn2 pd x4 a4 b4 d4 m0 m1 m2
      go_wp2_with fail
      go_loopg [105] ps.length (fun gf s5 wx => ∃ j : Nat, s5 = .int .i64 j ∧ j ≤ ps.length ∧ ps.length ≤ j + gf ∧ Hid (Below V4.heap.size V4 wx))
      case atStart => exact ⟨0, rfl, by omega, by omega, HB8⟩
      case round =>
        clear HB8 y8
        obtain ⟨j, rfl, hj1, hgf, HB⟩ := hrel
        by_cases hj : j < ps.length
        · obtain ⟨g', rfl⟩ : ∃ g', gk = g' + 1 := ⟨gk - 1, by omega⟩
          obtain ⟨c0, c1, cx⟩ := HPI.out wr HB.out j hj
          obtain ⟨⟨nf, nt, nx⟩, hf⟩ : ∃ f, ps[j] = f := ⟨_, rfl⟩
          rw [hf] at c0 c1 cx
          simp only at c0 c1 cx
          have HNJ : Hid (ps[j] = ⟨nf, nt, nx⟩) := hf
          obtain ⟨U, hU⟩ : ∃ U, wr.alloc (.cells #[.int .i64 nf, .int .i64 nt, .string nx] 30) = U := ⟨_, rfl⟩
          have HBU : Hid (Below V4.heap.size V4 U) := by rw [← hU]; exact HB.out.alloc HB.out.size _
          have gU : U.heap[wr.heap.size]? = some (.cells #[.int .i64 nf, .int .i64 nt, .string nx] 30 (0, 0)) := by rw [← hU]; exact heap_alloc_new wr _
          have u0 := cell_of_row (k := 0) gU rfl
          have u1 := cell_of_row (k := 1) gU rfl
          have u2 := cell_of_row (k := 2) gU rfl
          have y0 : (0 : Int) ≤ (j : Int) := by omega
          have y1 : (j : Int) < (ps.length : Int) := by omega
          have ha := (HPA.out U HBU.out).cell
          have hd := (HPD.out U HBU.out).cell
          have hne := fun W => neq_core nf nf nt nt nx nx W
          simp only [eqP_self, Bool.not_true] at hne
          clear hf gU HB
          obtain ⟨b4, o4, rfl, k0, k1, k2⟩ := (HPD.out U HBU.out).2.at (j := j) (by have := HLC.out; omega) (k := ⟨nf, nt, nx⟩) (by
            have h2 : ∀ (l : List PK) (hl : j < l.length), l = ps ++ [⟨kf, kt, kx⟩] → l[j] = ⟨nf, nt, nx⟩ := fun l hl e => by subst e; rw [List.getElem_append_left hj]; exact HNJ.out
            exact h2 cs _ HCT.out)
          simp only at k0 k1 k2
          have zc : (j : Int) < (cs.length : Int) := by have := HLC.out; omega
          have HFIN : Hid (∀ n, Below V4.heap.size V4 (U.drewN n)) := fun n => below_drewN HBU.out n
          by_cases hjk : j < k
          · have s1 : (j : Int) < (k : Int) := by omega
            have s2 : ¬ (k : Int) < (j : Int) := by omega
            have s3 : decide ((k : Int) < (j : Int)) = false := decide_eq_false s2
            have s4 : decide ((j : Int) < (k : Int)) = true := decide_eq_true s1
            obtain ⟨b2, o2, rfl, r0, r1, r2⟩ := (HPA.out U HBU.out).2.at (j := j) (by have := HLA.out; omega) (k := ⟨nf, nt, nx⟩) (by
              have h2 : ∀ (l : List PK) (hl : j < l.length), l = ps.take k ++ ps.drop (k + 1) → l[j] = ⟨nf, nt, nx⟩ := fun l hl e => by subst e; rw [without_low hjk hk hl hj]; exact HNJ.out
              exact h2 aa _ HAS.out)
            simp only at r0 r1 r2
            have za : (j : Int) < (aa.length : Int) := by have := HLA.out; omega
            have s5 : ¬ k < j := by omega
            have s6 : decide (k < j) = false := decide_eq_false s5
            have s7 : decide (j < k) = true := decide_eq_true hjk
            go_wp2_with fail
            go_quiet (fail)
            go_wp2_with fail
            go_roundg g'
            case measure => omega
            case rel => exact ⟨j + 1, by go_num, by omega, by omega, HFIN.out _⟩
          · by_cases hjk2 : k < j
            · have s1 : (k : Int) < (j : Int) := by omega
              have s2 : ¬ (j : Int) < (k : Int) := by omega
              have s3 : decide ((j : Int) < (k : Int)) = false := decide_eq_false s2
              have s4 : decide ((k : Int) < (j : Int)) = true := decide_eq_true s1
              obtain ⟨m, hm⟩ : ∃ m, m + 1 = j := ⟨j - 1, by omega⟩
              have q5 : IntKind.i64.wrap ((j : Int) - 1) = (m : Int) := by rw [IntKind.wrap_i64]; omega
              obtain ⟨b2, o2, rfl, r0, r1, r2⟩ := (HPA.out U HBU.out).2.at (j := m) (by have := HLA.out; omega) (k := ⟨nf, nt, nx⟩) (by
                have h2 : ∀ (l : List PK) (hl : m < l.length), l = ps.take k ++ ps.drop (k + 1) → l[m] = ⟨nf, nt, nx⟩ := fun l hl e => by
                  subst e
                  rw [without_high (by omega) hk hl (by omega)]
                  have := HNJ.out
                  subst hm
                  exact this
                exact h2 aa _ HAS.out)
              simp only at r0 r1 r2
              have za : (m : Int) < (aa.length : Int) := by have := HLA.out; omega
              have zm : (0 : Int) ≤ (m : Int) := by omega
              have s6 : decide (j < k) = false := decide_eq_false hjk
              have s7 : decide (k < j) = true := decide_eq_true hjk2
              clear hm
              go_wp2_with fail
              go_quiet (fail)
              go_wp2_with fail
              go_roundg g'
              case measure => omega
              case rel => exact ⟨j + 1, by go_num, by omega, by omega, HFIN.out _⟩
            · have s1 : ¬ (k : Int) < (j : Int) := by omega
              have s2 : ¬ (j : Int) < (k : Int) := by omega
              have s3 : decide ((j : Int) < (k : Int)) = false := decide_eq_false s2
              have s4 : decide ((k : Int) < (j : Int)) = false := decide_eq_false s1
              have s6 : decide (j < k) = false := decide_eq_false hjk
              have s7 : decide (k < j) = false := decide_eq_false hjk2
              go_wp2_with fail
              go_quiet (fail)
              go_wp2_with fail
              go_roundg g'
              case measure => omega
              case rel => exact ⟨j + 1, by go_num, by omega, by omega, HFIN.out _⟩
        · have y1 : ¬ (j : Int) < (ps.length : Int) := by omega
          have HBE : Hid (∀ n, Below w.heap.size w (wr.drewN n)) := fun n => below_drewN (HBV.out.trans (HB.out.mono HBV.out.size)) n
          have HBE2 : Hid (Below w.heap.size w wr) := HBV.out.trans (HB.out.mono HBV.out.size)
          have e1 := HPX.out wr HB.out
          have e2 := (HPD.out wr HB.out).cell
          obtain ⟨e3, e4, e5⟩ := (HPK.out wr HB.out).cells
          simp only at e3 e4 e5
          obtain ⟨b4, o4, rfl, k0, k1, k2⟩ := (HPD.out wr HB.out).2.at (j := ps.length) (by have := HLC.out; omega) (k := ⟨kf, kt, kx⟩) (by
            have h2 : ∀ (l : List PK) (hl : ps.length < l.length), l = ps ++ [⟨kf, kt, kx⟩] → l[ps.length] = ⟨kf, kt, kx⟩ := fun l hl e => by subst e; simp
            exact h2 cs _ HCT.out)
          simp only at k0 k1 k2
          have zc : (ps.length : Int) < (cs.length : Int) := by have := HLC.out; omega
          have zl : (0 : Int) ≤ (ps.length : Int) := by omega

          clear HB
          go_wp2_with fail
          go_quiet (fail)
          go_wp2_with fail
          go_ret
          exact ⟨rfl, HBE.out _⟩
    · have f1 : (F == 0) = false := beq_eq_false_iff_ne.2 f0
      have f2 : (F != 0) = true := by simpa using f0
      clear f0
      go_wp2_with fail
      have inhL := laterInh
      refine wp_region_laterS mixedOnS (by kernel_rfl) ?_
      repeat (go_big_quiet_step (first
        | (go_at_call 17; exact calls_laterS (S1.out _))))
      refine wpQuiet_nil ?_
      intro w8 hw'
      obtain ⟨⟨wq, hwq⟩, hw''⟩ := hw'
      subst hw''
      have HB8 : Hid (Below V4.heap.size V4 w8) := hwq
      have y8 := HPX.out w8 hwq
      clear hwq S1 pa pb px pk0 pk1 pk2 pn0 pn1 pn2 pd x4 a4 b4 d4 m0 m1 m2
      go_wp2_with fail
      go_loopg [105] ps.length (fun gf s5 wx => ∃ j : Nat, s5 = .int .i64 j ∧ j ≤ ps.length ∧ ps.length ≤ j + gf ∧ Hid (Below V4.heap.size V4 wx))
      case atStart => exact ⟨0, rfl, by omega, by omega, HB8⟩
      case round =>
        clear HB8 y8
        obtain ⟨j, rfl, hj1, hgf, HB⟩ := hrel
        by_cases hj : j < ps.length
        · obtain ⟨g', rfl⟩ : ∃ g', gk = g' + 1 := ⟨gk - 1, by omega⟩
          obtain ⟨c0, c1, cx⟩ := HPI.out wr HB.out j hj
          obtain ⟨⟨nf, nt, nx⟩, hf⟩ : ∃ f, ps[j] = f := ⟨_, rfl⟩
          rw [hf] at c0 c1 cx
          simp only at c0 c1 cx
          have HNJ : Hid (ps[j] = ⟨nf, nt, nx⟩) := hf
          obtain ⟨U, hU⟩ : ∃ U, wr.alloc (.cells #[.int .i64 nf, .int .i64 nt, .string nx] 30) = U := ⟨_, rfl⟩
          have HBU : Hid (Below V4.heap.size V4 U) := by rw [← hU]; exact HB.out.alloc HB.out.size _
          have gU : U.heap[wr.heap.size]? = some (.cells #[.int .i64 nf, .int .i64 nt, .string nx] 30 (0, 0)) := by rw [← hU]; exact heap_alloc_new wr _
          have u0 := cell_of_row (k := 0) gU rfl
          have u1 := cell_of_row (k := 1) gU rfl
          have u2 := cell_of_row (k := 2) gU rfl
          have y0 : (0 : Int) ≤ (j : Int) := by omega
          have y1 : (j : Int) < (ps.length : Int) := by omega
          have ha := (HPA.out U HBU.out).cell
          have hd := (HPD.out U HBU.out).cell
          have hne := fun W => neq_core nf nf nt nt nx nx W
          simp only [eqP_self, Bool.not_true] at hne
          clear hf gU HB
          have HFIN : Hid (∀ n, Below V4.heap.size V4 (U.drewN n)) := fun n => below_drewN HBU.out n
          by_cases hjk : j < k
          · have s1 : (j : Int) < (k : Int) := by omega
            have s2 : ¬ (k : Int) < (j : Int) := by omega
            have s3 : decide ((k : Int) < (j : Int)) = false := decide_eq_false s2
            have s4 : decide ((j : Int) < (k : Int)) = true := decide_eq_true s1
            obtain ⟨b2, o2, rfl, r0, r1, r2⟩ := (HPA.out U HBU.out).2.at (j := j) (by have := HLA.out; omega) (k := ⟨nf, nt, nx⟩) (by
              have h2 : ∀ (l : List PK) (hl : j < l.length), l = ps.take k ++ ps.drop (k + 1) → l[j] = ⟨nf, nt, nx⟩ := fun l hl e => by subst e; rw [without_low hjk hk hl hj]; exact HNJ.out
              exact h2 aa _ HAS.out)
            simp only at r0 r1 r2
            have za : (j : Int) < (aa.length : Int) := by have := HLA.out; omega
            have s5 : ¬ k < j := by omega
            have s6 : decide (k < j) = false := decide_eq_false s5
            have s7 : decide (j < k) = true := decide_eq_true hjk
            go_wp2_with fail
            go_quiet (fail)
            go_wp2_with fail
            go_roundg g'
            case measure => omega
            case rel => exact ⟨j + 1, by go_num, by omega, by omega, HFIN.out _⟩
          · by_cases hjk2 : k < j
            · have s1 : (k : Int) < (j : Int) := by omega
              have s2 : ¬ (j : Int) < (k : Int) := by omega
              have s3 : decide ((j : Int) < (k : Int)) = false := decide_eq_false s2
              have s4 : decide ((k : Int) < (j : Int)) = true := decide_eq_true s1
              obtain ⟨m, hm⟩ : ∃ m, m + 1 = j := ⟨j - 1, by omega⟩
              have q5 : IntKind.i64.wrap ((j : Int) - 1) = (m : Int) := by rw [IntKind.wrap_i64]; omega
              obtain ⟨b2, o2, rfl, r0, r1, r2⟩ := (HPA.out U HBU.out).2.at (j := m) (by have := HLA.out; omega) (k := ⟨nf, nt, nx⟩) (by
                have h2 : ∀ (l : List PK) (hl : m < l.length), l = ps.take k ++ ps.drop (k + 1) → l[m] = ⟨nf, nt, nx⟩ := fun l hl e => by
                  subst e
                  rw [without_high (by omega) hk hl (by omega)]
                  have := HNJ.out
                  subst hm
                  exact this
                exact h2 aa _ HAS.out)
              simp only at r0 r1 r2
              have za : (m : Int) < (aa.length : Int) := by have := HLA.out; omega
              have zm : (0 : Int) ≤ (m : Int) := by omega
              have s6 : decide (j < k) = false := decide_eq_false hjk
              have s7 : decide (k < j) = true := decide_eq_true hjk2
              clear hm
              go_wp2_with fail
              go_quiet (fail)
              go_wp2_with fail
              go_roundg g'
              case measure => omega
              case rel => exact ⟨j + 1, by go_num, by omega, by omega, HFIN.out _⟩
            · have s1 : ¬ (k : Int) < (j : Int) := by omega
              have s2 : ¬ (j : Int) < (k : Int) := by omega
              have s3 : decide ((j : Int) < (k : Int)) = false := decide_eq_false s2
              have s4 : decide ((k : Int) < (j : Int)) = false := decide_eq_false s1
              have s6 : decide (j < k) = false := decide_eq_false hjk
              have s7 : decide (k < j) = false := decide_eq_false hjk2
              go_wp2_with fail
              go_quiet (fail)
              go_wp2_with fail
              go_roundg g'
              case measure => omega
              case rel => exact ⟨j + 1, by go_num, by omega, by omega, HFIN.out _⟩
        · have y1 : ¬ (j : Int) < (ps.length : Int) := by omega
          have HBE : Hid (∀ n, Below w.heap.size w (wr.drewN n)) := fun n => below_drewN (HBV.out.trans (HB.out.mono HBV.out.size)) n
          have HBE2 : Hid (Below w.heap.size w wr) := HBV.out.trans (HB.out.mono HBV.out.size)
          have e1 := HPX.out wr HB.out
          have e2 := (HPD.out wr HB.out).cell
          obtain ⟨e3, e4, e5⟩ := (HPK.out wr HB.out).cells
          simp only at e3 e4 e5
  
          clear HB
          go_wp2_with fail
          go_quiet (fail)
          go_wp2_with fail
          go_ret
          exact ⟨rfl, HBE.out _⟩
  · obtain ⟨f0, fz⟩ := HFA.out e0
    have n1 : (E != 0) = true := by simpa using e0
    have n2 : (E != E) = false := by simp
    have n3 : (E == E) = true := by simp
    have n4 : (F != 0) = true := by simpa using f0
    simp only [zeroP, PK.mk.injEq] at fz
    obtain ⟨rfl, rfl, rfl⟩ := fz
    have heq : ∀ W, (binOp .eql 30 (.agg #[.int .i64 0, .int .i64 0, .string ⟨#[]⟩]) (.agg #[.int .i64 0, .int .i64 0, .string ⟨#[]⟩])).run Try.prog W = .ok (.bool true) W := fun W => by rw [eql_core, eqP_self]
    have HBW : Hid (Below w.heap.size w V4) := HB0.out.trans (HB4.out.mono HB0.out.size)
    clear f0 e0
    go_wp2_with fail
    go_ret
    exact ⟨rfl, HBW.out⟩
end Go.Proofs.Ytnfgfbmkeiimlaa

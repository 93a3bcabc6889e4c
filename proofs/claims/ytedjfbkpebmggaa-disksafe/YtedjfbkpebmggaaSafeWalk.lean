/- The law DiskSafe returns true, of any fuse, steps and number. -/
import Derived.Test.YtedjfbkpebmggaaDx
namespace Go.Proofs.Ytedjfbkpebmggaa
open Go.Shelf Go.RowKit Go.Lib Go.Sort
set_option linter.unusedVariables false
set_option linter.unusedSimpArgs false
attribute [local go_sem ↓] Go.wp_at_zero Go.wp_at_succ
/-- Steps that lie in memory. -/
def StL (w : World) (v : Value) (ss : List SP) : Prop :=
  ∃ p c, v = .slice p ss.length c ∧ (ss.length + 1) * 40 ≤ 140737488355328 ∧ (∀ s ∈ ss, s.n.size ≤ 140737488355328 ∧ s.t.size ≤ 140737488355328 ∧ s.d.size ≤ 140737488355328) ∧ (0 < ss.length → ∃ b o, p = some ⟨b, o, none⟩ ∧ b < w.heap.size ∧ StsIs w b o ss)
/-- A right disk that is being changed. -/
def SafeJ (w : World) (g i : Nat) (wx : World) : Prop :=
  ∃ fs dn fu, DJ w g fs dn fu wx ∧ OkF fs ∧ fs.length ≤ i ∧ (-9223372036854775808 ≤ fu ∧ fu ≤ 9223372036854775807)
set_option maxRecDepth 100000 in
set_option maxHeartbeats 4000000 in
theorem safe_core (fu0 keep : Int) (v : Value) (ss : List SP) (w : World) (h : StL w v ss) (hr0 : -9223372036854775808 ≤ fu0 ∧ fu0 ≤ 9223372036854775807) :
    Calls Try.prog 4 #[.int .i64 fu0, v, .int .i64 keep] w fun e w' => e = .returned (.bool true) ∧ Below w.heap.size w w' := by
  obtain ⟨p, c, rfl, hmany, hsml, hp⟩ := h
  have HP : Hid (0 < ss.length → ∃ b o, p = some ⟨b, o, none⟩ ∧ b < w.heap.size ∧ StsIs w b o ss) := hp
  have HSM : Hid (∀ s ∈ ss, s.n.size ≤ 140737488355328 ∧ s.t.size ≤ 140737488355328 ∧ s.d.size ≤ 140737488355328) := hsml
  have CL : Hid (∀ W, Calls Try.prog 16 #[] W fun e w' => e = .returned (.bool true) ∧ Below W.heap.size W w') := lives_any
  have HR0 : Hid (-9223372036854775808 ≤ fu0 ∧ fu0 ≤ 9223372036854775807) := hr0
  clear hp hsml hr0
  go_enter Try.func4, Try.ntmps4
  go_wp2_with fail
  refine (CL.out _).mono ?_
  rintro e w1 ⟨rfl, hb1⟩
  obtain ⟨W2, hW2⟩ : ∃ W2, w1.alloc (.cells #[.slice none 0 0, .bool false, .int .i64 fu0] 24) = W2 := ⟨_, rfl⟩
  have HJ0 : Hid (SafeJ w w1.heap.size 0 W2) := by
    refine ⟨[], false, fu0, ⟨none, 0, 0, by rw [← hW2]; exact heap_alloc_new w1 _, ⟨none, 0, rfl, by simp, fun f hf => by simp at hf, fun h => by simp at h⟩, by rw [← hW2]; exact hb1.alloc hb1.size _⟩, ⟨by simp, by simp, by simp, by simp [szs]⟩, by simp, HR0.out⟩
  have HW1 : Hid (w.heap.size ≤ w1.heap.size) := hb1.size
  clear hb1
  go_wp2_with fail
  go_loopg [23] ss.length (fun gf s23 wx => ∃ i : Nat, s23 = .int .i64 i ∧ i ≤ ss.length ∧ ss.length ≤ i + gf ∧ Hid (SafeJ w w1.heap.size i wx))
  case atStart => exact ⟨0, rfl, by omega, by omega, HJ0⟩
  case round =>
    clear HJ0
    obtain ⟨i, rfl, hi1, hgf, HJ⟩ := hrel
    by_cases hi : i < ss.length
    · obtain ⟨g', rfl⟩ : ∃ g', gk = g' + 1 := ⟨gk - 1, by omega⟩
      obtain ⟨b, o, rfl, hlt, hc⟩ := HP.out (by omega)
      obtain ⟨fs, dn, fu, hdj, hok, hlen, hr⟩ := HJ.out
      have hbw : Below w.heap.size w wr := by obtain ⟨_, _, _, _, _, hb⟩ := hdj; exact hb
      obtain ⟨c0, c1, c2, c3⟩ := (hc.below hlt hbw) i hi
      obtain ⟨m1, m2, m3⟩ := HSM.out _ (List.getElem_mem hi)
      obtain ⟨⟨kk, nm, tt, dt⟩, hss⟩ : ∃ s, ss[i] = s := ⟨_, rfl⟩
      rw [hss] at c0 c1 c2 c3 m1 m2 m3
      simp only at c0 c1 c2 c3 m1 m2 m3
      obtain ⟨W6, hW6⟩ : ∃ W6, wr.alloc (.cells #[.int .u8 kk, .string nm, .string tt, .string dt] 27) = W6 := ⟨_, rfl⟩
      have hb6 : Below wr.heap.size wr W6 := by rw [← hW6]; exact one_below _ _
      obtain ⟨pd, nd, cd, hg6, hl6, hb06⟩ := hdj.below hb6
      have a0 : W6.cell? ⟨w1.heap.size, 0, none⟩ = some (.slice pd nd cd) := cell_of_row (k := 0) hg6 rfl
      have a1 : W6.cell? ⟨w1.heap.size, 1, none⟩ = some (.bool dn) := cell_of_row (k := 1) hg6 rfl
      have a2 : W6.cell? ⟨w1.heap.size, 2, none⟩ = some (.int .i64 fu) := cell_of_row (k := 2) hg6 rfl
      have hgx : W6.heap[wr.heap.size]? = some (.cells #[.int .u8 kk, .string nm, .string tt, .string dt] 27 (0, 0)) := by rw [← hW6]; exact heap_alloc_new wr _
      have b0 : W6.cell? ⟨wr.heap.size, 0, none⟩ = some (.int .u8 kk) := cell_of_row (k := 0) hgx rfl
      have b1 : W6.cell? ⟨wr.heap.size, 1, none⟩ = some (.string nm) := cell_of_row (k := 1) hgx rfl
      have b2 : W6.cell? ⟨wr.heap.size, 2, none⟩ = some (.string tt) := cell_of_row (k := 2) hgx rfl
      have b3 : W6.cell? ⟨wr.heap.size, 3, none⟩ = some (.string dt) := cell_of_row (k := 3) hgx rfl
      have CD := Do_any (.slice pd nd cd) dn fu kk nm tt dt fs W6 hl6 (by omega) hr m1 m2 m3
      have hR : DoR fs dn fu kk nm tt dt = doR fs dn fu kk nm tt dt := by unfold DoR; rw [if_pos (okF_iff.2 hok)]
      have hways := doR_ways hok dn fu kk nm tt dt
      have hOR := hok.doR dn fu kk nm tt dt
      have hLR := doR_length fs dn fu kk nm tt dt
      have hRR := doR_range fs dn fu kk nm tt dt hr
      rw [hR] at CD
      obtain ⟨R, hRe⟩ : ∃ R, doR fs dn fu kk nm tt dt = R := ⟨_, rfl⟩
      rw [hRe] at CD hways hOR hLR hRR
      obtain ⟨rfs, rdn, rfu, re⟩ := R
      simp only at hways hOR hLR hRR
      have HC : Hid (Calls Try.prog 10 #[.agg #[.slice pd nd cd, .bool dn, .int .i64 fu], .agg #[.int .u8 kk, .string nm, .string tt, .string dt]] W6 fun e w' => Did ⟨rfs, rdn, rfu, re⟩ W6 e w') := CD
      have HT : Hid ((re = 0 ∧ dn = false ∧ rdn = false) ∨ (re ≠ 0 ∧ re ≠ 12) ∨ (re = 12 ∧ rdn = true)) := by
        rcases hways with ⟨h1, h2, h3, _⟩ | ⟨h1, h2, _⟩ | ⟨h1, h2, _, h3, _⟩ | ⟨h1, _, h3⟩
        · exact .inl ⟨h1, h2, h3⟩
        · exact .inr (.inl ⟨h1, h2⟩)
        · exact .inr (.inr ⟨h1, by rw [h3, h2]⟩)
        · exact .inr (.inr ⟨h1, h3⟩)
      have HO : Hid (OkF rfs ∧ rfs.length ≤ i + 1 ∧ (-9223372036854775808 ≤ rfu ∧ rfu ≤ 9223372036854775807)) := ⟨hOR, by omega, hRR⟩
      have HK : Hid (W6.heap[w1.heap.size]? = some (.cells #[.slice pd nd cd, .bool dn, .int .i64 fu] 24 (0, 0)) ∧ Below w.heap.size w W6) := ⟨hg6, hb06⟩
      have z0 : (0 : Int) ≤ (i : Int) := by omega
      have z1 : (i : Int) < (ss.length : Int) := by omega
      clear hways hOR hLR hRR hRe CD hR hg6 hl6 hb06 hgx hb6 hss hdj hok hlen hr hbw hc m1 m2 m3 HJ
      go_wp2_with fail
      refine HC.out.mono ?_
      rintro e w7 ⟨p7, n7, c7, rfl, hl7, hb7⟩
      simp only at hl7
      obtain ⟨k4, k5⟩ := HK.out
      have hg7 : w7.heap[w1.heap.size]? = some (.cells #[.slice pd nd cd, .bool dn, .int .i64 fu] 24 (0, 0)) := by rw [hb7.block _ (Array.getElem?_eq_some_iff.1 k4).1]; exact k4
      obtain ⟨W8, hW8⟩ : ∃ W8, w7.alloc (.cells #[.slice p7 n7 c7, .bool rdn, .int .i64 rfu] 24) = W8 := ⟨_, rfl⟩
      have hb8 : Below w7.heap.size w7 W8 := by rw [← hW8]; exact one_below _ _
      have hg8 : W8.heap[w7.heap.size]? = some (.cells #[.slice p7 n7 c7, .bool rdn, .int .i64 rfu] 24 (0, 0)) := by rw [← hW8]; exact heap_alloc_new w7 _
      have hg8' : W8.heap[w1.heap.size]? = some (.cells #[.slice pd nd cd, .bool dn, .int .i64 fu] 24 (0, 0)) := by rw [hb8.block _ (Array.getElem?_eq_some_iff.1 hg7).1]; exact hg7
      have hl8 := hl7.below hb8
      have d0 : W8.cell? ⟨w7.heap.size, 0, none⟩ = some (.slice p7 n7 c7) := cell_of_row (k := 0) hg8 rfl
      have d1 : W8.cell? ⟨w7.heap.size, 1, none⟩ = some (.bool rdn) := cell_of_row (k := 1) hg8 rfl
      have d2 : W8.cell? ⟨w7.heap.size, 2, none⟩ = some (.int .i64 rfu) := cell_of_row (k := 2) hg8 rfl
      have hB8 : Below w.heap.size w W8 := k5.trans ((hb7.trans (hb8.mono hb7.size)).mono k5.size)
      have CK0 := check_any (.slice p7 n7 c7) rdn rfu rfs W8 hl8
      have hch : chE rfs = 0 := by unfold chE; rw [if_pos (okF_iff.2 HO.out.1)]
      rw [hch] at CK0
      have CK : Hid (Calls Try.prog 18 #[.agg #[.slice p7 n7 c7, .bool rdn, .int .i64 rfu]] W8 fun e w' => e = .returned (.int .i64 0) ∧ Below W8.heap.size W8 w') := CK0
      have HJ8 : Hid (W8.heap[w7.heap.size]? = some (.cells #[.slice p7 n7 c7, .bool rdn, .int .i64 rfu] 24 (0, 0)) ∧ W8.heap[w1.heap.size]? = some (.cells #[.slice pd nd cd, .bool dn, .int .i64 fu] 24 (0, 0)) ∧ FsL W8 (.slice p7 n7 c7) rfs ∧ Below w.heap.size w W8) := ⟨hg8, hg8', hl8, hB8⟩
      clear k4 k5 hl7 hb7 hg7 hb8 hg8 hg8' hl8 hB8 CK0 hch HC HK a0 a1 a2 b0 b1 b2 b3 c0 c1 c2 c3
      go_wp2_with fail
      refine CK.out.mono ?_
      rintro e w9 ⟨rfl, hb9⟩
      obtain ⟨j1, j2, j3, j4⟩ := HJ8.out
      have hg9 : w9.heap[w7.heap.size]? = some (.cells #[.slice p7 n7 c7, .bool rdn, .int .i64 rfu] 24 (0, 0)) := by rw [hb9.block _ (Array.getElem?_eq_some_iff.1 j1).1]; exact j1
      have hg9' : w9.heap[w1.heap.size]? = some (.cells #[.slice pd nd cd, .bool dn, .int .i64 fu] 24 (0, 0)) := by rw [hb9.block _ (Array.getElem?_eq_some_iff.1 j2).1]; exact j2
      have hl9 := j3.below hb9
      have f0 : w9.cell? ⟨w7.heap.size, 0, none⟩ = some (.slice p7 n7 c7) := cell_of_row (k := 0) hg9 rfl
      have f1 : w9.cell? ⟨w7.heap.size, 1, none⟩ = some (.bool rdn) := cell_of_row (k := 1) hg9 rfl
      have f2 : w9.cell? ⟨w7.heap.size, 2, none⟩ = some (.int .i64 rfu) := cell_of_row (k := 2) hg9 rfl
      have e1 : w9.cell? ⟨w1.heap.size, 1, none⟩ = some (.bool dn) := cell_of_row (k := 1) hg9' rfl
      obtain ⟨Va, Vb, Vc, hVa, hVb, hVc, ⟨pa, ka⟩, ga, ⟨pb, kb⟩, gb, ⟨pc, kc⟩, gc, hbv, hgv, r0, r1, r2⟩ := set_disk hg9' (.slice p7 n7 c7) (.bool rdn) (.int .i64 rfu)
      obtain ⟨o5, o6⟩ := set3_other hVa hVb hVc
      have HJ2 : Hid (SafeJ w w1.heap.size (i + 1) Vc) := ⟨rfs, rdn, rfu, ⟨p7, n7, c7, hgv, hl9.but hg9' o5 o6, hbv _ _ (j4.trans (hb9.mono j4.size)) HW1.out⟩, HO.out⟩
      clear j1 j2 j3 j4 hb9 hg9 hg9' hl9 hbv hgv o5 o6 CK HJ8 HO d0 d1 d2
      rcases HT.out with ⟨t1, t2, t3⟩ | ⟨t1, t2⟩ | ⟨t1, t2⟩
      · subst t1 t2 t3
        clear HT
        go_wp2_with fail
        go_roundg g'
        case measure => omega
        case rel => exact ⟨i + 1, by go_num, by omega, by omega, HJ2⟩
      · have q1 : (re == 0) = false := beq_eq_false_iff_ne.2 t1
        have q2 : (re == 12) = false := beq_eq_false_iff_ne.2 t2
        clear t1 t2
        clear HT
        go_wp2_with fail
        go_roundg g'
        case measure => omega
        case rel => exact ⟨i + 1, by go_num, by omega, by omega, HJ2⟩
      · subst t1 t2
        clear HT
        go_wp2_with fail
        go_roundg g'
        case measure => omega
        case rel => exact ⟨i + 1, by go_num, by omega, by omega, HJ2⟩
    · have z1 : ¬ (i : Int) < (ss.length : Int) := by omega
      obtain ⟨fs, dn, fu, ⟨pd, nd, cd, hg, hl, hb⟩, hok, hlen, hr⟩ := HJ.out
      obtain rfl := hl.len
      have a0 : wr.cell? ⟨w1.heap.size, 0, none⟩ = some (.slice pd fs.length cd) := cell_of_row (k := 0) hg rfl
      have a1 : wr.cell? ⟨w1.heap.size, 1, none⟩ = some (.bool dn) := cell_of_row (k := 1) hg rfl
      have a2 : wr.cell? ⟨w1.heap.size, 2, none⟩ = some (.int .i64 fu) := cell_of_row (k := 2) hg rfl
      have CC := Crash_any (.slice pd fs.length cd) dn fu keep fs wr hl
      have hR : CrR fs keep = ⟨fs.map (crF keep), false, -1, 0⟩ := by unfold CrR; rw [if_pos (okF_iff.2 hok)]
      rw [hR] at CC
      obtain ⟨gs, hgs⟩ : ∃ gs, fs.map (crF keep) = gs := ⟨_, rfl⟩
      rw [hgs] at CC
      have hgl : gs.length = fs.length := by rw [← hgs, List.length_map]
      have hgo : OkF gs := by rw [← hgs]; exact hok.crash keep
      have HGE : Hid (∀ j (h : j < fs.length) (h' : j < gs.length), gs[j] = crF keep fs[j]) := fun j h h' => by simp only [← hgs, List.getElem_map]
      have HC : Hid (Calls Try.prog 14 #[.agg #[.slice pd fs.length cd, .bool dn, .int .i64 fu], .int .i64 keep] wr fun e w' => Did ⟨gs, false, -1, 0⟩ wr e w') := CC
      have HD : Hid (wr.heap[w1.heap.size]? = some (.cells #[.slice pd fs.length cd, .bool dn, .int .i64 fu] 24 (0, 0)) ∧ FsL wr (.slice pd fs.length cd) fs ∧ Below w.heap.size w wr) := ⟨hg, hl, hb⟩
      have HOK : Hid (OkF fs ∧ OkF gs) := ⟨hok, hgo⟩
      have HGL : Hid (gs.length = fs.length) := hgl
      clear hg hl hb hok hlen hr CC hR hgs hgo HJ HP HSM
      go_wp2_with fail
      refine HC.out.mono ?_
      rintro e w7 ⟨p7, n7, c7, rfl, hl7, hb7⟩
      simp only at hl7
      have hn7 := hl7.len
      rw [HGL.out] at hn7
      subst hn7
      obtain ⟨W8, hW8⟩ : ∃ W8, w7.alloc (.cells #[.slice p7 fs.length c7, .bool false, .int .i64 (-1)] 24) = W8 := ⟨_, rfl⟩
      have hb8 : Below w7.heap.size w7 W8 := by rw [← hW8]; exact one_below _ _
      have hg8 : W8.heap[w7.heap.size]? = some (.cells #[.slice p7 fs.length c7, .bool false, .int .i64 (-1)] 24 (0, 0)) := by rw [← hW8]; exact heap_alloc_new w7 _
      obtain ⟨j1, j2, j3⟩ := HD.out
      have hb78 : Below wr.heap.size wr W8 := hb7.trans (hb8.mono hb7.size)
      have hl8 := hl7.below hb8
      have CK0 := check_any (.slice p7 fs.length c7) false (-1) gs W8 hl8
      have hch : chE gs = 0 := by unfold chE; rw [if_pos (okF_iff.2 HOK.out.2)]
      rw [hch] at CK0
      have CK : Hid (Calls Try.prog 18 #[.agg #[.slice p7 fs.length c7, .bool false, .int .i64 (-1)]] W8 fun e w' => e = .returned (.int .i64 0) ∧ Below W8.heap.size W8 w') := CK0
      have hg8' : W8.heap[w1.heap.size]? = some (.cells #[.slice pd fs.length cd, .bool dn, .int .i64 fu] 24 (0, 0)) := by rw [hb78.block _ (Array.getElem?_eq_some_iff.1 j1).1]; exact j1
      have HJ8 : Hid (W8.heap[w7.heap.size]? = some (.cells #[.slice p7 fs.length c7, .bool false, .int .i64 (-1)] 24 (0, 0)) ∧ W8.heap[w1.heap.size]? = some (.cells #[.slice pd fs.length cd, .bool dn, .int .i64 fu] 24 (0, 0)) ∧ FsL W8 (.slice p7 fs.length c7) gs ∧ FsL W8 (.slice pd fs.length cd) fs ∧ Below w.heap.size w W8) := ⟨hg8, hg8', hl8, j2.below hb78, j3.trans (hb78.mono j3.size)⟩
      have d0 : W8.cell? ⟨w7.heap.size, 0, none⟩ = some (.slice p7 fs.length c7) := cell_of_row (k := 0) hg8 rfl
      have d1 : W8.cell? ⟨w7.heap.size, 1, none⟩ = some (.bool false) := cell_of_row (k := 1) hg8 rfl
      have d2 : W8.cell? ⟨w7.heap.size, 2, none⟩ = some (.int .i64 (-1)) := cell_of_row (k := 2) hg8 rfl
      clear j1 j2 j3 hl7 hb7 hb8 hg8 hg8' hb78 hl8 CK0 hch HC a0 a1 a2 HD
      go_wp2_with fail
      refine CK.out.mono ?_
      rintro e w9 ⟨rfl, hb9⟩
      obtain ⟨j1, j2, j3, j4, j5⟩ := HJ8.out
      have hg9 : w9.heap[w7.heap.size]? = some (.cells #[.slice p7 fs.length c7, .bool false, .int .i64 (-1)] 24 (0, 0)) := by rw [hb9.block _ (Array.getElem?_eq_some_iff.1 j1).1]; exact j1
      have hg9' : w9.heap[w1.heap.size]? = some (.cells #[.slice pd fs.length cd, .bool dn, .int .i64 fu] 24 (0, 0)) := by rw [hb9.block _ (Array.getElem?_eq_some_iff.1 j2).1]; exact j2
      have f0 : w9.cell? ⟨w7.heap.size, 0, none⟩ = some (.slice p7 fs.length c7) := cell_of_row (k := 0) hg9 rfl
      have f1 : w9.cell? ⟨w7.heap.size, 1, none⟩ = some (.bool false) := cell_of_row (k := 1) hg9 rfl
      have e0 : w9.cell? ⟨w1.heap.size, 0, none⟩ = some (.slice pd fs.length cd) := cell_of_row (k := 0) hg9' rfl
      have HJ9 : Hid (w9.heap[w7.heap.size]? = some (.cells #[.slice p7 fs.length c7, .bool false, .int .i64 (-1)] 24 (0, 0)) ∧ FsL w9 (.slice p7 fs.length c7) gs ∧ FsL w9 (.slice pd fs.length cd) fs ∧ Below w.heap.size w w9) := ⟨hg9, j3.below hb9, j4.below hb9, j5.trans (hb9.mono j5.size)⟩
      have t3 : ((fs.length : Int) != (fs.length : Int)) = false := by simp
      clear j1 j2 j3 j4 j5 hb9 hg9 hg9' CK HJ8 d0 d1 d2 hgl
      have hfm : fs.length * 40 ≤ 140737488355328 := HJ9.out.2.1.many |> (fun h => by rw [HGL.out] at h; exact h)
      go_wp2_with fail
      go_loopg [84] fs.length (fun gf s84 wx => ∃ i : Nat, s84 = .int .i64 i ∧ i ≤ fs.length ∧ fs.length ≤ i + gf ∧ Hid (Below w9.heap.size w9 wx))
      case atStart => exact ⟨0, rfl, by omega, by omega, Below.refl _ _⟩
      case round =>
        obtain ⟨i, rfl, hi1, hgf, HB⟩ := hrel
        obtain ⟨j1, j3, j4, j5⟩ := HJ9.out
        by_cases hi : i < fs.length
        · obtain ⟨g', rfl⟩ : ∃ g', gk = g' + 1 := ⟨gk - 1, by omega⟩
          obtain ⟨_, _, q1, _, _, q2⟩ := j3.below HB.out
          obtain ⟨_, _, q3, _, _, q4⟩ := j4.below HB.out
          simp only [Value.slice.injEq, true_and] at q1 q3
          obtain ⟨rfl, hqx, rfl⟩ := q1
          clear hqx
          obtain ⟨rfl, rfl⟩ := q3
          have hig : i < gs.length := by rw [HGL.out]; exact hi
          obtain ⟨b, o, rfl, hlt, hc⟩ := q2 (by omega)
          obtain ⟨b', o', rfl, hlt', hc'⟩ := q4 (by omega)
          have hW1 : Below wr.heap.size wr (wr.alloc (.cells #[.string fs[i].n, .string fs[i].d, .int .i64 fs[i].y] 41)) := one_below _ _
          obtain ⟨k0, k1, k2⟩ := hc' i hi
          obtain ⟨c0, c1, c2⟩ := (hc.below hlt hW1) i hig
          have hgi := HGE.out i hi hig
          rw [hgi] at c0 c1 c2
          have hfy := HOK.out.1.2.2.1 _ (List.getElem_mem hi)
          have hsz := crF_size (keep := keep) hfy
          have hlf := lft_in (keep := keep) hfy
          have hed : (crF keep fs[i]).d = fs[i].d.extract 0 (lft keep fs[i]).toNat := rfl
          have hey : (crF keep fs[i]).y = lft keep fs[i] := rfl
          have hen : (crF keep fs[i]).n = fs[i].n := rfl
          rw [hey] at c2
          rw [hen] at c0
          obtain ⟨gd, hgd⟩ : ∃ gd, (crF keep fs[i]).d = gd := ⟨_, rfl⟩
          rw [hgd] at c1 hsz hed
          obtain ⟨L, hL⟩ : ∃ L, lft keep fs[i] = L := ⟨_, rfl⟩
          rw [hL] at c2 hsz hed hlf
          obtain ⟨⟨n, d, y⟩, hf⟩ : ∃ f, fs[i] = f := ⟨_, rfl⟩
          rw [hf] at k0 k1 k2 c0 c1 c2 hlf hed
          simp only at k0 k1 k2 c0 c1 c2 hlf hed
          obtain ⟨k, hk⟩ : ∃ k : Nat, gd.size = k := ⟨_, rfl⟩
          rw [hk] at hsz
          have ex : d.extract 0 k = gd := by rw [hed]; congr 1; omega
          have m0 : wr.cell? ⟨w7.heap.size, 0, none⟩ = some (.slice (some ⟨b, o, none⟩) fs.length c7) := cell_of_row (k := 0) (by rw [HB.out.block _ (Array.getElem?_eq_some_iff.1 j1).1]; exact j1) rfl
          have hlt7 : w7.heap.size < wr.heap.size := Nat.lt_of_lt_of_le (Array.getElem?_eq_some_iff.1 j1).1 HB.out.size
          obtain ⟨W1, hW1e⟩ : ∃ W1, wr.alloc (.cells #[.string n, .string d, .int .i64 y] 41) = W1 := ⟨_, rfl⟩
          rw [hf] at hW1
          simp only at hW1
          rw [hW1e] at hW1 c0 c1 c2
          have m1 : W1.cell? ⟨w7.heap.size, 0, none⟩ = some (.slice (some ⟨b, o, none⟩) fs.length c7) := by rw [hW1.cell (p := ⟨w7.heap.size, _, none⟩) hlt7]; exact m0
          have hx1 : W1.heap[wr.heap.size]? = some (.cells #[.string n, .string d, .int .i64 y] 41 (0, 0)) := by rw [← hW1e]; exact heap_alloc_new wr _
          obtain ⟨W2', hW2e⟩ : ∃ W2', W1.alloc (.cells #[.string n, .string gd, .int .i64 L] 41) = W2' := ⟨_, rfl⟩
          have hb12 : Below W1.heap.size W1 W2' := by rw [← hW2e]; exact one_below _ _
          have hx2 : W2'.heap[W1.heap.size]? = some (.cells #[.string n, .string gd, .int .i64 L] 41 (0, 0)) := by rw [← hW2e]; exact heap_alloc_new W1 _
          have hx1' : W2'.heap[wr.heap.size]? = some (.cells #[.string n, .string d, .int .i64 y] 41 (0, 0)) := by rw [hb12.block _ (Array.getElem?_eq_some_iff.1 hx1).1]; exact hx1
          have y0 : W2'.cell? ⟨W1.heap.size, 0, none⟩ = some (.string n) := cell_of_row (k := 0) hx2 rfl
          have y1 : W2'.cell? ⟨W1.heap.size, 1, none⟩ = some (.string gd) := cell_of_row (k := 1) hx2 rfl
          have y2 : W2'.cell? ⟨W1.heap.size, 2, none⟩ = some (.int .i64 L) := cell_of_row (k := 2) hx2 rfl
          have x0 : W2'.cell? ⟨wr.heap.size, 0, none⟩ = some (.string n) := cell_of_row (k := 0) hx1' rfl
          have x1 : W2'.cell? ⟨wr.heap.size, 1, none⟩ = some (.string d) := cell_of_row (k := 1) hx1' rfl
          have x2 : W2'.cell? ⟨wr.heap.size, 2, none⟩ = some (.int .i64 y) := cell_of_row (k := 2) hx1' rfl
          have hB2 : Below w9.heap.size w9 W2' := HB.out.trans ((hW1.trans (hb12.mono hW1.size)).mono HB.out.size)
          have v0 : (n.toList == n.toList) = true := eq_self n
          have v1 : ¬ (k : Int) < y := by omega
          have v2 : ¬ (d.size : Int) < (k : Int) := by omega
          have v2' : ¬ d.size < k := by omega
          have v6' : k ≤ d.size := by omega
          have v3 : (gd.toList == gd.toList) = true := eq_self gd
          have v4 : (L != (k : Int)) = false := by simp; omega
          have v5 : (0 : Int) ≤ (k : Int) := by omega
          have v6 : (k : Int) ≤ (d.size : Int) := by omega
          have z0 : (0 : Int) ≤ (i : Int) := by omega
          have z2 : (i : Int) < (fs.length : Int) := by omega
          have HSZ : Hid ((k : Int) = L) := hsz
          clear j1 j3 j4 j5 q2 q4 hc hc' hgi hfy hsz hlf hed hey hen hgd hL hf hb12 hx2 hx1 hx1' hW1 HB m0 hlt7
          go_wp2_with fail
          go_quiet (fail)
          go_wp2_with fail
          go_roundg g'
          case measure => omega
          case rel => exact ⟨i + 1, by go_num, by omega, by omega, below_drewN hB2 _⟩
        · have z2 : ¬ (i : Int) < (fs.length : Int) := by omega
          have HB2 : Hid (Below w.heap.size w wr) := j5.trans (HB.out.mono j5.size)
          clear j1 j3 j4 j5 HB
          go_wp2_with fail
          go_ret
          exact ⟨rfl, HB2.out⟩
end Go.Proofs.Ytedjfbkpebmggaa

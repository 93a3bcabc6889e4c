/- The law NetOnly returns true, of any moves. -/
import Derived.Test.YtnfgfbmkeiimlaaNx
namespace Go.Proofs.Ytnfgfbmkeiimlaa
open Go.Shelf Go.RowKit Go.Lib Go.Sort
set_option linter.unusedVariables false
set_option linter.unusedSimpArgs false
attribute [local go_sem ↓] Go.wp_at_zero Go.wp_at_succ
set_option maxRecDepth 100000 in
set_option maxHeartbeats 16000000 in
theorem only_core (v : Value) (ms : List MV) (w : World) (h : MsL w v ms) :
    Calls Try.prog 4 #[v] w fun e w' => e = .returned (.bool true) ∧ Below w.heap.size w w' := by
  have CL : Hid (∀ W, Calls Try.prog 16 #[] W fun e w' => e = .returned (.bool true) ∧ Below W.heap.size W w') := lives_any
  have CS : Hid (∀ (fs : List PK) p q c c' W, PsL W (.slice p fs.length c) fs → PsL W (.slice q fs.length c') fs → Calls Try.prog 17 #[.agg #[.slice p fs.length c], .agg #[.slice q fs.length c']] W fun e w' => e = .returned (.bool true) ∧ Below W.heap.size W w') := fun fs p q c c' W h1 h2 => Same_eq p q c c' fs W h1 h2
  have CK : Hid (∀ (fs : List PK) p c W, okN fs = true → PsL W (.slice p fs.length c) fs → Calls Try.prog 18 #[.agg #[.slice p fs.length c]] W fun e w' => e = .returned (.int .i64 0) ∧ Below W.heap.size W w') := fun fs p c W hok h => by have := check_any _ fs W h; rwa [chN_ok hok] at this
  obtain ⟨p, c, rfl, hm40, hms, hp⟩ := h
  have HMS : Hid (∀ m ∈ ms, (0 ≤ m.k ∧ m.k ≤ 255) ∧ m.x.size ≤ 140737488355328) := hms
  have HP : Hid (0 < ms.length → ∃ b o, p = some ⟨b, o, none⟩ ∧ b < w.heap.size ∧ MsIs w b o ms) := hp
  clear hms hp
  go_enter Try.func4, Try.ntmps4
  go_wp2_with fail
  refine (CL.out _).mono ?_
  rintro e w1 ⟨rfl, hb1⟩
  obtain ⟨V1, hV1⟩ : ∃ V1, w1.alloc (.cells #[.slice none 0 0] 24) = V1 := ⟨_, rfl⟩
  have HJ0 : Hid (OnlyJ w w1.heap.size none 0 [] (.slice none 0 0) [] V1) := by
    rw [← hV1]
    exact ⟨hb1.alloc hb1.size _, hb1.size, heap_alloc_new w1 _, PsL.nil _, World.ownsRow_nil _ _ _ _, fun h => by simp at h⟩
  have gV1 : V1.heap[w1.heap.size]? = some (.cells #[.slice none 0 0] 24 (0, 0)) := by rw [← hV1]; exact heap_alloc_new w1 _
  have i1 : V1.setCell ⟨w1.heap.size, 0, none⟩ (.slice none 0 0) = V1 := setCell_self gV1 rfl
  have i2 := frozen_zero gV1 0
  have i3 := cell_of_row (k := 0) gV1 rfl
  have HK0 : Hid (Kept 0 [] [] 0 0) := ⟨by kernel_rfl, by simp, by simp, by simp, by omega, by omega, fun p hp => by simp at hp⟩
  have hgN : w.heap.size ≤ w1.heap.size := hb1.size
  clear hb1 gV1
  go_wp2_with fail
  go_loopg [4, 5, 6, 19] ms.length (fun gf s4 s5 s6 sI wx => ∃ (j : Nat) (e g : Int) (ns ss : List PK) (pn : Option Addr) (cn : Nat) (u : Value), u = s4 ∧ s5 = .int .i64 e ∧ s6 = .int .i64 g ∧ sI = .int .i64 j ∧ j ≤ ms.length ∧ ms.length ≤ j + gf ∧ j ≤ 301 ∧ Hid (Kept j ns ss e g) ∧ Hid (OnlyJ w w1.heap.size pn cn ns u ss wx))
  case atStart => exact ⟨0, 0, 0, [], [], none, 0, _, rfl, rfl, rfl, rfl, by omega, by omega, by omega, HK0, HJ0⟩
  case round =>
    clear HJ0 HK0 i1 i2 i3
    obtain ⟨j, e, g, ns, ss, pn, cn, u, rfl, rfl, rfl, rfl, hj1, hgf, hj3, HK, HJ⟩ := hrel
    obtain ⟨pu, cu, rfl, _⟩ := HJ.out.2.2.2.2.1.shape
    have hns := (okN_iff.1 HK.out.ok).1
    have hss := HK.out.few
    obtain ⟨ge1, ge2⟩ := HK.out.eb
    obtain ⟨gb1, gb2⟩ := HK.out.gb
    by_cases hj : j < ms.length
    · by_cases hj4 : 300 < j
      · have z0 : (0 : Int) ≤ (j : Int) := by omega
        have z1 : (j : Int) < (ms.length : Int) := by omega
        have z2 : (300 : Int) < (j : Int) := by omega
        obtain ⟨b, o, rfl, hlt, hc⟩ := HP.out (by omega)
        obtain ⟨c0, c1, c2, c3⟩ := (hc.below hlt HJ.out.1) j hj
        obtain ⟨⟨mk, mf, mt, mx⟩, hf⟩ : ∃ m, ms[j] = m := ⟨_, rfl⟩
        rw [hf] at c0 c1 c2 c3
        simp only at c0 c1 c2 c3
        obtain ⟨U, hU⟩ : ∃ U, wr.alloc (.cells #[.int .u8 mk, .int .i64 mf, .int .i64 mt, .string mx] 40) = U := ⟨_, rfl⟩
        have hbU : Below wr.heap.size wr U := by rw [← hU]; exact one_below _ _
        have HJb : Hid (OnlyJ w w1.heap.size pn cn ns (.slice pu ss.length cu) ss U) := HJ.out.below hbU
        have nU := HJb.out.cell
        clear hc hf hbU HJ
        obtain ⟨X, hX⟩ : ∃ X, X = U := ⟨_, rfl⟩
        subst hX
        obtain ⟨Y, hY⟩ : ∃ Y, Y = wr := ⟨_, rfl⟩
        subst hY
        have q1 : IntKind.i64.wrap ((ns.length : Int) + g) = (ns.length : Int) + g := by rw [IntKind.wrap_i64]; omega
        have q2 : IntKind.i64.wrap ((ss.length : Int) + e) = (ss.length : Int) + e := by rw [IntKind.wrap_i64]; omega
        have q3 : ((ns.length : Int) + g == (ss.length : Int) + e) = true := by rw [HK.out.cnt]; simp
        have CH : Hid (∀ W pk, Below X.heap.size X W → pk ∈ ns → Calls Try.prog 20 #[.slice pu ss.length cu, .agg #[.int .i64 pk.f, .int .i64 pk.t, .string pk.x]] W fun e w' => e = .returned (.bool true) ∧ Below W.heap.size W w') := fun W pk hb hm => by
          have := has_any _ ss pk W ((HJb.out.below hb).2.2.2.2.1.packs (by omega) HK.out.small)
          rwa [hasP_mem (HK.out.sub pk hm)] at this
        have HXX : Hid (∀ W, Below X.heap.size X W → OnlyJ w w1.heap.size pn cn ns (.slice pu ss.length cu) ss W) := fun W hb => HJb.out.below hb
        clear HJb HK ge1 ge2
        go_wp2_with fail
        go_loopg [116] ns.length (fun gf sI wx => ∃ i : Nat, sI = .int .i64 i ∧ i ≤ ns.length ∧ ns.length ≤ i + gf ∧ Hid (Below X.heap.size X wx))
        case atStart => exact ⟨0, rfl, by omega, by omega, Below.refl _ _⟩
        case round =>
          obtain ⟨i, rfl, hi1, hgf2, HB⟩ := hrel
          by_cases hi : i < ns.length
          · obtain ⟨g', rfl⟩ : ∃ g', gk = g' + 1 := ⟨gk - 1, by omega⟩
            obtain ⟨⟨nf, nt, nx⟩, hf⟩ : ∃ m, ns[i] = m := ⟨_, rfl⟩
            obtain ⟨b3, o3, rfl, m0, m1, m2⟩ := (HXX.out wr HB.out).2.2.2.1.at hi hf
            simp only at m0 m1 m2
            have y0 : (0 : Int) ≤ (i : Int) := by omega
            have y1 : (i : Int) < (ns.length : Int) := by omega
            have HBU : Hid (Below X.heap.size X (wr.alloc (.cells #[.int .i64 nf, .int .i64 nt, .string nx] 30))) := HB.out.alloc HB.out.size _
            have K := CH.out _ ⟨nf, nt, nx⟩ HBU.out (by rw [← hf]; exact List.getElem_mem hi)
            simp only at K
            clear hf HB
            go_wp2_with fail
            refine K.mono ?_
            rintro er w9 ⟨rfl, hb9⟩
            have HB9 : Hid (Below X.heap.size X w9) := HBU.out.trans (hb9.mono HBU.out.size)
            clear hb9 HBU K
            go_wp2_with fail
            go_roundg g'
            case measure => omega
            case rel => exact ⟨i + 1, by go_num, by omega, by omega, HB9⟩
          · have y1 : ¬ (i : Int) < (ns.length : Int) := by omega
            have hO := HXX.out wr HB.out
            have nn := hO.cell
            have HBW : Hid (Below w.heap.size w wr) := hO.1
            clear hO HB
            go_wp2_with fail
            go_ret
            exact ⟨rfl, HBW.out⟩
      · obtain ⟨g', rfl⟩ : ∃ g', gk = g' + 1 := ⟨gk - 1, by omega⟩
        obtain ⟨b, o, rfl, hlt, hc⟩ := HP.out (by omega)
        obtain ⟨c0, c1, c2, c3⟩ := (hc.below hlt HJ.out.1) j hj
        obtain ⟨⟨k0, k1⟩, hxs⟩ := HMS.out _ (List.getElem_mem hj)
        obtain ⟨⟨mk, mf, mt, mx⟩, hf⟩ : ∃ m, ms[j] = m := ⟨_, rfl⟩
        rw [hf] at c0 c1 c2 c3 k0 k1 hxs
        simp only at c0 c1 c2 c3 k0 k1 hxs
        have z0 : (0 : Int) ≤ (j : Int) := by omega
        have z1 : (j : Int) < (ms.length : Int) := by omega
        have z2 : ¬ (300 : Int) < (j : Int) := by omega
        obtain ⟨U, hU⟩ : ∃ U, wr.alloc (.cells #[.int .u8 mk, .int .i64 mf, .int .i64 mt, .string mx] 40) = U := ⟨_, rfl⟩
        have hbU : Below wr.heap.size wr U := by rw [← hU]; exact one_below _ _
        have gU : BoxM wr.heap.size ⟨mk, mf, mt, mx⟩ U := by rw [← hU]; exact heap_alloc_new wr _
        have HJU : Hid (OnlyJ w w1.heap.size pn cn ns (.slice pu ss.length cu) ss U) := HJ.out.below hbU
        have nU := HJU.out.cell
        obtain ⟨V, hV⟩ : ∃ V, U.alloc (.cells #[.slice pn ns.length cn] 24) = V := ⟨_, rfl⟩
        have hbV : Below U.heap.size U V := by rw [← hV]; exact one_below _ _
        have HX : Hid (OnlyX w w1.heap.size U.heap.size pn cn ns pn cn ns (.slice pu ss.length cu) ss V) := HJU.out.new hV
        have HM : Hid (BoxM wr.heap.size ⟨mk, mf, mt, mx⟩ V) := gU.below hbV
        have hml : wr.heap.size < U.heap.size := (Array.getElem?_eq_some_iff.1 gU).1
        obtain ⟨u0, u1, u2, u3⟩ := HM.out.cells
        simp only at u0 u1 u2 u3
        obtain ⟨nV, xV⟩ := HX.out.cells
        have hr : mk % 4 = 0 ∨ mk % 4 = 1 ∨ mk % 4 = 2 ∨ mk % 4 = 3 := by omega
        have hk4 : mk.tmod 4 = mk % 4 := Int.tmod_eq_emod_of_nonneg k0
        clear hc hf HJ gU hbU hbV
        rcases hr with hr | hr | hr | hr
        · have r4 : mk.tmod 4 = 0 := by omega
          clear hk4 hr
          have K := Send_any (.slice pn ns.length cn) mf mt mx ns V HX.out.2.2.2.2.2.1
          by_cases hE : refE ns mf mt mx = 0
          · obtain ⟨hq, hkept⟩ := HK.out.sent hE
            have hx6 := (refE_zero hE).2.2.2.1
            rw [hE, hq] at K
            obtain ⟨qs, hqs⟩ : ∃ qs, ns ++ [(⟨mf, mt, mx⟩ : PK)] = qs := ⟨_, rfl⟩
            obtain ⟨ts, hts⟩ : ∃ ts, ss ++ [(⟨mf, mt, mx⟩ : PK)] = ts := ⟨_, rfl⟩
            rw [hqs] at K
            rw [hqs, hts] at hkept
            have HK2 : Hid (Kept (j + 1) qs ts e g) := hkept
            have HTS : Hid (ss ++ [(⟨mf, mt, mx⟩ : PK)] = ts) := hts
            clear hq hkept hE hqs hts
            go_wp2_with fail
            refine K.mono ?_
            rintro er w2 ⟨p2, c2, rfl, hl2, hn2, hb2⟩
            obtain ⟨Wz, hWz, y1, y2, HX2, hsz, hoth⟩ := HX.out.call hb2 hl2 hn2
            have HM2 : Hid (BoxM wr.heap.size ⟨mk, mf, mt, mx⟩ Wz) := by
              show Wz.heap[wr.heap.size]? = _
              rw [hoth _ (by omega)]; exact HM.out.below hb2
            obtain ⟨v0, v1, v2, v3⟩ := HM2.out.cells
            simp only at v0 v1 v2 v3
            obtain ⟨U2, hU2⟩ : ∃ U2, Wz.alloc (.cells #[.int .i64 mf, .int .i64 mt, .string mx] 30) = U2 := ⟨_, rfl⟩
            obtain ⟨u', W3, ea, HX3, _, _⟩ := HX2.out.sent hxs (by omega) hU2 22
            rw [HTS.out] at HX3
            obtain ⟨pw, cw, rfl, _⟩ := HX3.out.2.2.2.2.2.2.2.1.shape
            clear K hl2 hn2 hb2 hsz hoth u0 u1 u2 u3 nV xV HX HM HM2 HX2
            obtain ⟨dn, dx⟩ := HX3.out.cells
            have S2 : Hid (∀ W, Below W3.heap.size W3 W → Calls Try.prog 18 #[.agg #[.slice p2 qs.length c2]] W fun e w' => e = .returned (.int .i64 0) ∧ Below W.heap.size W w') := fun W hb => CK.out qs p2 c2 W HK2.out.ok (HX3.out.below hb).2.2.2.2.2.2.1
            go_wp2_with (at_builtin; refine Lib.wpList_append_run _ rfl _ _ _ _ rfl _ _ rfl rfl _ _ ea ?_)
            refine (S2.out _ (Below.refl _ _)).mono ?_
            rintro er w8 ⟨rfl, hwq⟩
            have HX8 : Hid (OnlyX w w1.heap.size U.heap.size pn cn ns p2 c2 qs (.slice pw ts.length cw) ts w8) := HX3.out.below hwq
            clear S2 hwq dn dx
            obtain ⟨f1, f2⟩ := HX8.out.cells
            obtain ⟨Wn, hWn, n1, n2, HJn⟩ := HX8.out.done
            clear HX8
            go_wp2_with fail
            go_roundg g'
            case measure => omega
            case rel => exact ⟨j + 1, e, g, qs, ts, p2, c2, _, rfl, by go_num, by go_num, by go_num, by omega, by omega, by omega, HK2, HJn⟩
          · have hq := HK.out.refused hE
            rw [hq] at K
            obtain ⟨E, hEE⟩ : ∃ E, refE ns mf mt mx = E := ⟨_, rfl⟩
            rw [hEE] at K hE
            have n0 : (E != 0) = true := by simpa using hE
            have n1 : (E == 0) = false := beq_eq_false_iff_ne.2 hE
            have HK2 : Hid (Kept (j + 1) ns ss e g) := HK.out.next
            clear hq hE hEE
            go_wp2_with fail
            refine K.mono ?_
            rintro er w2 ⟨p2, c2, rfl, hl2, hn2, hb2⟩
            obtain ⟨Wz, hWz, y1, y2, HX2, hsz, hoth⟩ := HX.out.call hb2 hl2 hn2
            clear K hl2 hn2 hb2 hsz hoth u0 u1 u2 u3 nV xV HX HM
            obtain ⟨dn, dx⟩ := HX2.out.cells
            have S2 : Hid (∀ W, Below Wz.heap.size Wz W → Calls Try.prog 18 #[.agg #[.slice p2 ns.length c2]] W fun e w' => e = .returned (.int .i64 0) ∧ Below W.heap.size W w') := fun W hb => CK.out ns p2 c2 W HK2.out.ok (HX2.out.below hb).2.2.2.2.2.2.1
            have S1 : Hid (Calls Try.prog 17 #[.agg #[.slice p2 ns.length c2], .agg #[.slice pn ns.length cn]] Wz fun e w' => e = .returned (.bool true) ∧ Below Wz.heap.size Wz w') := CS.out ns p2 pn c2 cn Wz HX2.out.2.2.2.2.2.2.1 HX2.out.2.2.2.2.2.1
            go_wp2_with fail
            refine S1.out.mono ?_
            rintro er w7 ⟨rfl, hb7⟩
            have HX7 : Hid (OnlyX w w1.heap.size U.heap.size pn cn ns p2 c2 ns (.slice pu ss.length cu) ss w7) := HX2.out.below hb7
            obtain ⟨d7, e7⟩ := HX7.out.cells
            have S3 := S2.out w7 hb7
            clear S1 S2 hb7 dn dx
            go_wp2_with fail
            refine S3.mono ?_
            rintro er w8 ⟨rfl, hwq⟩
            have HX8 : Hid (OnlyX w w1.heap.size U.heap.size pn cn ns p2 c2 ns (.slice pu ss.length cu) ss w8) := HX7.out.below hwq
            clear S3 HX7 d7 e7 hwq
            obtain ⟨f1, f2⟩ := HX8.out.cells
            obtain ⟨Wn, hWn, n1, n2, HJn⟩ := HX8.out.done
            clear HX8
            go_wp2_with fail
            go_roundg g'
            case measure => omega
            case rel => exact ⟨j + 1, e, g, ns, ss, p2, c2, _, rfl, by go_num, by go_num, by go_num, by omega, by omega, by omega, HK2, HJn⟩
        · have r4 : mk.tmod 4 = 1 := by omega
          clear hk4 hr
          obtain ⟨P0, hP0⟩ : ∃ P0, V.alloc (.cells #[.int .i64 0, .int .i64 0, .string ⟨#[]⟩] 30) = P0 := ⟨_, rfl⟩
          have hbP : Below V.heap.size V P0 := by rw [← hP0]; exact one_below _ _
          have gP : P0.heap[V.heap.size]? = some (.cells #[.int .i64 0, .int .i64 0, .string ⟨#[]⟩] 30 (0, 0)) := by rw [← hP0]; exact heap_alloc_new V _
          have hlP : V.heap.size < P0.heap.size := (Array.getElem?_eq_some_iff.1 gP).1
          have s0 : P0.setCell ⟨V.heap.size, 0, none⟩ (.int .i64 0) = P0 := setCell_self gP rfl
          have s1 : P0.setCell ⟨V.heap.size, 1, none⟩ (.int .i64 0) = P0 := setCell_self gP rfl
          have s2 : P0.setCell ⟨V.heap.size, 2, none⟩ (.string ⟨#[]⟩) = P0 := setCell_self gP rfl
          have b0 := cell_of_row (k := 0) gP rfl
          have b1 := cell_of_row (k := 1) gP rfl
          have b2 := cell_of_row (k := 2) gP rfl
          have d0 := frozen_zero gP 0
          have d1 := frozen_zero gP 1
          have d2 := frozen_zero gP 2
          have HXP : Hid (OnlyX w w1.heap.size U.heap.size pn cn ns pn cn ns (.slice pu ss.length cu) ss P0) := HX.out.below hbP
          have hxg : U.heap.size < V.heap.size := (Array.getElem?_eq_some_iff.1 HX.out.2.2.2.2.1).1
          obtain ⟨nP, xP⟩ := HXP.out.cells
          have HMP : Hid (BoxM wr.heap.size ⟨mk, mf, mt, mx⟩ P0) := HM.out.below hbP
          obtain ⟨v0, v1, v2, v3⟩ := HMP.out.cells
          simp only at v0 v1 v2 v3
          have HGP : Hid (P0.heap[V.heap.size]? = some (.cells #[.int .i64 0, .int .i64 0, .string ⟨#[]⟩] 30 (0, 0))) := gP
          have HA : Hid ((0 < ns.length → ∀ a, pn = some a → a.block ≠ V.heap.size) ∧ (Value.slice pu ss.length cu).ownBlock ≠ some V.heap.size) := ⟨fun h0 a ha => by have := HX.out.2.2.2.2.2.1.lt h0 ha; omega, fun ee => by have := (own_lt HX.out.2.2.2.2.2.2.2.1 ee).2.1; omega⟩
          have K := Deliver_any (.slice pn ns.length cn) mf ns P0 HXP.out.2.2.2.2.2.1
          have CH : Hid (∀ W pk, OwnP (w1.heap.size + 1) W (.slice pu ss.length cu) ss → hasP ss pk = true → Calls Try.prog 20 #[.slice pu ss.length cu, .agg #[.int .i64 pk.f, .int .i64 pk.t, .string pk.x]] W fun e w' => e = .returned (.bool true) ∧ Below W.heap.size W w') := fun W pk ho hh => by
            have := has_any _ ss pk W (ho.packs (by omega) HK.out.small)
            rwa [hh] at this
          have hhas := fun hE : misE ns mf = 0 => (HK.out.gone hE).1
          obtain ⟨⟨kf, kt, kx⟩, hkk⟩ : ∃ k, dlvK ns mf = k := ⟨_, rfl⟩
          rw [hkk] at K hhas
          clear hbP gP hkk
          by_cases hE : misE ns mf = 0
          · have HK2 : Hid (Kept (j + 1) (dlvP ns mf) ss e (g + 1)) := HK.out.came hE
            have hh := hhas hE
            rw [hE] at K
            obtain ⟨qs, hqs⟩ : ∃ qs, dlvP ns mf = qs := ⟨_, rfl⟩
            rw [hqs] at K HK2
            have qq : IntKind.i64.wrap (g + 1) = g + 1 := by rw [IntKind.wrap_i64]; omega
            have HHH : Hid (hasP ss ⟨kf, kt, kx⟩ = true) := hh
            clear hE hqs hhas hh
            go_wp2_with fail
            refine K.mono ?_
            rintro er w2 ⟨p2, c2, rfl, hl2, hn2, hb2⟩
            obtain ⟨Wz, hWz, y1, y2, HX2, hsz, hoth⟩ := HXP.out.call hb2 hl2 hn2
            have gz : Wz.heap[V.heap.size]? = some (.cells #[.int .i64 0, .int .i64 0, .string ⟨#[]⟩] 30 (0, 0)) := by rw [hoth _ (by omega), hb2.block _ hlP]; exact HGP.out
            obtain ⟨Wa, Wb, Wc, hWa, hWb, hWc, ⟨oa, ca⟩, fa, ⟨ob, cb⟩, fb, ⟨oc, cc⟩, fc, hbl, hszc, hothc, cur', hg', _, _, r0, r1, r2⟩ := set_three (k := 0) gz (by simp) (.int .i64 kf) (.int .i64 kt) (.string kx)
            have HX3 : Hid (OnlyX w w1.heap.size U.heap.size pn cn ns p2 c2 qs (.slice pu ss.length cu) ss Wc) := HX2.out.other hxg hothc hszc hbl HA.out.1 (fun _ a ha => by have := hn2 a ha; omega) HA.out.2
            have k0' := cell_of_row hg' r0
            have k1' := cell_of_row hg' r1
            have k2' := cell_of_row hg' r2
            simp only [Nat.zero_add] at hWa hWb hWc ca fa cb fb cc fc k0' k1' k2'
            clear gz hbl hszc hothc hg' r0 r1 r2
            have CH2 := CH.out Wc ⟨kf, kt, kx⟩ HX3.out.2.2.2.2.2.2.2.1 HHH.out
            simp only at CH2
            clear K hl2 hn2 hb2 hsz hoth u0 u1 u2 u3 nV xV v0 v1 v2 v3 nP xP HX HM HMP HXP HX2 b0 b1 b2 d0 d1 d2 s0 s1 s2 CH HA HGP
            go_wp2_with fail
            refine CH2.mono ?_
            rintro er w6 ⟨rfl, hb6⟩
            have HX6 : Hid (OnlyX w w1.heap.size U.heap.size pn cn ns p2 c2 qs (.slice pu ss.length cu) ss w6) := HX3.out.below hb6
            clear CH2 hb6 HX3 k0' k1' k2'
            obtain ⟨dn, dx⟩ := HX6.out.cells
            have S2 : Hid (∀ W, Below w6.heap.size w6 W → Calls Try.prog 18 #[.agg #[.slice p2 qs.length c2]] W fun e w' => e = .returned (.int .i64 0) ∧ Below W.heap.size W w') := fun W hb => CK.out qs p2 c2 W HK2.out.ok (HX6.out.below hb).2.2.2.2.2.2.1
            go_wp2_with fail
            refine (S2.out _ (Below.refl _ _)).mono ?_
            rintro er w8 ⟨rfl, hwq⟩
            have HX8 : Hid (OnlyX w w1.heap.size U.heap.size pn cn ns p2 c2 qs (.slice pu ss.length cu) ss w8) := HX6.out.below hwq
            clear S2 hwq dn dx
            obtain ⟨f1, f2⟩ := HX8.out.cells
            obtain ⟨Wn, hWn, n1, n2, HJn⟩ := HX8.out.done
            clear HX8
            go_wp2_with fail
            go_roundg g'
            case measure => omega
            case rel => exact ⟨j + 1, e, (g + 1), qs, ss, p2, c2, _, rfl, by go_num, by go_num, by go_num, by omega, by omega, by omega, HK2, HJn⟩
          · have hq := (HK.out.miss hE).1
            rw [hq] at K
            obtain ⟨E, hEE⟩ : ∃ E, misE ns mf = E := ⟨_, rfl⟩
            rw [hEE] at K hE
            have n0 : (E != 0) = true := by simpa using hE
            have n1 : (E == 0) = false := beq_eq_false_iff_ne.2 hE
            have HK2 : Hid (Kept (j + 1) ns ss e g) := HK.out.next
            clear hq hE hEE hhas CH
            go_wp2_with fail
            refine K.mono ?_
            rintro er w2 ⟨p2, c2, rfl, hl2, hn2, hb2⟩
            obtain ⟨Wz, hWz, y1, y2, HX2, hsz, hoth⟩ := HXP.out.call hb2 hl2 hn2
            have gz : Wz.heap[V.heap.size]? = some (.cells #[.int .i64 0, .int .i64 0, .string ⟨#[]⟩] 30 (0, 0)) := by rw [hoth _ (by omega), hb2.block _ hlP]; exact HGP.out
            obtain ⟨Wa, Wb, Wc, hWa, hWb, hWc, ⟨oa, ca⟩, fa, ⟨ob, cb⟩, fb, ⟨oc, cc⟩, fc, hbl, hszc, hothc, cur', hg', _, _, r0, r1, r2⟩ := set_three (k := 0) gz (by simp) (.int .i64 kf) (.int .i64 kt) (.string kx)
            have HX3 : Hid (OnlyX w w1.heap.size U.heap.size pn cn ns p2 c2 ns (.slice pu ss.length cu) ss Wc) := HX2.out.other hxg hothc hszc hbl HA.out.1 (fun _ a ha => by have := hn2 a ha; omega) HA.out.2
            have k0' := cell_of_row hg' r0
            have k1' := cell_of_row hg' r1
            have k2' := cell_of_row hg' r2
            simp only [Nat.zero_add] at hWa hWb hWc ca fa cb fb cc fc k0' k1' k2'
            clear gz hbl hszc hothc hg' r0 r1 r2
            clear K hl2 hn2 hb2 hsz hoth u0 u1 u2 u3 nV xV v0 v1 v2 v3 nP xP HX HM HMP HXP HX2 b0 b1 b2 d0 d1 d2 s0 s1 s2 HA HGP
            obtain ⟨dn, dx⟩ := HX3.out.cells
            have S2 : Hid (∀ W, Below Wc.heap.size Wc W → Calls Try.prog 18 #[.agg #[.slice p2 ns.length c2]] W fun e w' => e = .returned (.int .i64 0) ∧ Below W.heap.size W w') := fun W hb => CK.out ns p2 c2 W HK2.out.ok (HX3.out.below hb).2.2.2.2.2.2.1
            have S1 : Hid (Calls Try.prog 17 #[.agg #[.slice p2 ns.length c2], .agg #[.slice pn ns.length cn]] Wc fun e w' => e = .returned (.bool true) ∧ Below Wc.heap.size Wc w') := CS.out ns p2 pn c2 cn Wc HX3.out.2.2.2.2.2.2.1 HX3.out.2.2.2.2.2.1
            go_wp2_with fail
            refine S1.out.mono ?_
            rintro er w7 ⟨rfl, hb7⟩
            have HX7 : Hid (OnlyX w w1.heap.size U.heap.size pn cn ns p2 c2 ns (.slice pu ss.length cu) ss w7) := HX3.out.below hb7
            obtain ⟨d7, e7⟩ := HX7.out.cells
            have S3 := S2.out w7 hb7
            clear S1 S2 hb7 dn dx
            go_wp2_with fail
            refine S3.mono ?_
            rintro er w8 ⟨rfl, hwq⟩
            have HX8 : Hid (OnlyX w w1.heap.size U.heap.size pn cn ns p2 c2 ns (.slice pu ss.length cu) ss w8) := HX7.out.below hwq
            clear S3 HX7 d7 e7 hwq
            obtain ⟨f1, f2⟩ := HX8.out.cells
            obtain ⟨Wn, hWn, n1, n2, HJn⟩ := HX8.out.done
            clear HX8
            go_wp2_with fail
            go_roundg g'
            case measure => omega
            case rel => exact ⟨j + 1, e, g, ns, ss, p2, c2, _, rfl, by go_num, by go_num, by go_num, by omega, by omega, by omega, HK2, HJn⟩
        · have r4 : mk.tmod 4 = 2 := by omega
          clear hk4 hr
          have K := Drop_any (.slice pn ns.length cn) mf ns V HX.out.2.2.2.2.2.1
          by_cases hE : misE ns mf = 0
          · have HK2 : Hid (Kept (j + 1) (dlvP ns mf) ss (e - 1) g) := HK.out.lost hE
            rw [hE] at K
            obtain ⟨qs, hqs⟩ : ∃ qs, dlvP ns mf = qs := ⟨_, rfl⟩
            rw [hqs] at K HK2
            have qq : IntKind.i64.wrap (e - 1) = (e - 1) := by rw [IntKind.wrap_i64]; omega
            clear hE hqs
            go_wp2_with fail
            refine K.mono ?_
            rintro er w2 ⟨p2, c2, rfl, hl2, hn2, hb2⟩
            obtain ⟨Wz, hWz, y1, y2, HX2, hsz, hoth⟩ := HX.out.call hb2 hl2 hn2
            clear K hl2 hn2 hb2 hsz hoth u0 u1 u2 u3 nV xV HX HM
            obtain ⟨dn, dx⟩ := HX2.out.cells
            have S2 : Hid (∀ W, Below Wz.heap.size Wz W → Calls Try.prog 18 #[.agg #[.slice p2 qs.length c2]] W fun e w' => e = .returned (.int .i64 0) ∧ Below W.heap.size W w') := fun W hb => CK.out qs p2 c2 W HK2.out.ok (HX2.out.below hb).2.2.2.2.2.2.1
            go_wp2_with fail
            refine (S2.out _ (Below.refl _ _)).mono ?_
            rintro er w8 ⟨rfl, hwq⟩
            have HX8 : Hid (OnlyX w w1.heap.size U.heap.size pn cn ns p2 c2 qs (.slice pu ss.length cu) ss w8) := HX2.out.below hwq
            clear S2 hwq dn dx
            obtain ⟨f1, f2⟩ := HX8.out.cells
            obtain ⟨Wn, hWn, n1, n2, HJn⟩ := HX8.out.done
            clear HX8
            go_wp2_with fail
            go_roundg g'
            case measure => omega
            case rel => exact ⟨j + 1, (e - 1), g, qs, ss, p2, c2, _, rfl, by go_num, by go_num, by go_num, by omega, by omega, by omega, HK2, HJn⟩
          · have hq := (HK.out.miss hE).1
            rw [hq] at K
            obtain ⟨E, hEE⟩ : ∃ E, misE ns mf = E := ⟨_, rfl⟩
            rw [hEE] at K hE
            have n0 : (E != 0) = true := by simpa using hE
            have n1 : (E == 0) = false := beq_eq_false_iff_ne.2 hE
            have HK2 : Hid (Kept (j + 1) ns ss e g) := HK.out.next
            clear hq hE hEE
            go_wp2_with fail
            refine K.mono ?_
            rintro er w2 ⟨p2, c2, rfl, hl2, hn2, hb2⟩
            obtain ⟨Wz, hWz, y1, y2, HX2, hsz, hoth⟩ := HX.out.call hb2 hl2 hn2
            clear K hl2 hn2 hb2 hsz hoth u0 u1 u2 u3 nV xV HX HM
            obtain ⟨dn, dx⟩ := HX2.out.cells
            have S2 : Hid (∀ W, Below Wz.heap.size Wz W → Calls Try.prog 18 #[.agg #[.slice p2 ns.length c2]] W fun e w' => e = .returned (.int .i64 0) ∧ Below W.heap.size W w') := fun W hb => CK.out ns p2 c2 W HK2.out.ok (HX2.out.below hb).2.2.2.2.2.2.1
            have S1 : Hid (Calls Try.prog 17 #[.agg #[.slice p2 ns.length c2], .agg #[.slice pn ns.length cn]] Wz fun e w' => e = .returned (.bool true) ∧ Below Wz.heap.size Wz w') := CS.out ns p2 pn c2 cn Wz HX2.out.2.2.2.2.2.2.1 HX2.out.2.2.2.2.2.1
            go_wp2_with fail
            refine S1.out.mono ?_
            rintro er w7 ⟨rfl, hb7⟩
            have HX7 : Hid (OnlyX w w1.heap.size U.heap.size pn cn ns p2 c2 ns (.slice pu ss.length cu) ss w7) := HX2.out.below hb7
            obtain ⟨d7, e7⟩ := HX7.out.cells
            have S3 := S2.out w7 hb7
            clear S1 S2 hb7 dn dx
            go_wp2_with fail
            refine S3.mono ?_
            rintro er w8 ⟨rfl, hwq⟩
            have HX8 : Hid (OnlyX w w1.heap.size U.heap.size pn cn ns p2 c2 ns (.slice pu ss.length cu) ss w8) := HX7.out.below hwq
            clear S3 HX7 d7 e7 hwq
            obtain ⟨f1, f2⟩ := HX8.out.cells
            obtain ⟨Wn, hWn, n1, n2, HJn⟩ := HX8.out.done
            clear HX8
            go_wp2_with fail
            go_roundg g'
            case measure => omega
            case rel => exact ⟨j + 1, e, g, ns, ss, p2, c2, _, rfl, by go_num, by go_num, by go_num, by omega, by omega, by omega, HK2, HJn⟩
        · have r4 : mk.tmod 4 = 3 := by omega
          clear hk4 hr
          have K := Copy_any (.slice pn ns.length cn) mf ns V HX.out.2.2.2.2.2.1
          by_cases hE : cpyE ns mf = 0
          · have HK2 : Hid (Kept (j + 1) (cpyP ns mf) ss (e + 1) g) := HK.out.copied hE
            rw [hE] at K
            obtain ⟨qs, hqs⟩ : ∃ qs, cpyP ns mf = qs := ⟨_, rfl⟩
            rw [hqs] at K HK2
            have qq : IntKind.i64.wrap (e + 1) = (e + 1) := by rw [IntKind.wrap_i64]; omega
            clear hE hqs
            go_wp2_with fail
            refine K.mono ?_
            rintro er w2 ⟨p2, c2, rfl, hl2, hn2, hb2⟩
            obtain ⟨Wz, hWz, y1, y2, HX2, hsz, hoth⟩ := HX.out.call hb2 hl2 hn2
            clear K hl2 hn2 hb2 hsz hoth u0 u1 u2 u3 nV xV HX HM
            obtain ⟨dn, dx⟩ := HX2.out.cells
            have S2 : Hid (∀ W, Below Wz.heap.size Wz W → Calls Try.prog 18 #[.agg #[.slice p2 qs.length c2]] W fun e w' => e = .returned (.int .i64 0) ∧ Below W.heap.size W w') := fun W hb => CK.out qs p2 c2 W HK2.out.ok (HX2.out.below hb).2.2.2.2.2.2.1
            go_wp2_with fail
            refine (S2.out _ (Below.refl _ _)).mono ?_
            rintro er w8 ⟨rfl, hwq⟩
            have HX8 : Hid (OnlyX w w1.heap.size U.heap.size pn cn ns p2 c2 qs (.slice pu ss.length cu) ss w8) := HX2.out.below hwq
            clear S2 hwq dn dx
            obtain ⟨f1, f2⟩ := HX8.out.cells
            obtain ⟨Wn, hWn, n1, n2, HJn⟩ := HX8.out.done
            clear HX8
            go_wp2_with fail
            go_roundg g'
            case measure => omega
            case rel => exact ⟨j + 1, (e + 1), g, qs, ss, p2, c2, _, rfl, by go_num, by go_num, by go_num, by omega, by omega, by omega, HK2, HJn⟩
          · have hq := HK.out.full hE
            rw [hq] at K
            obtain ⟨E, hEE⟩ : ∃ E, cpyE ns mf = E := ⟨_, rfl⟩
            rw [hEE] at K hE
            have n0 : (E != 0) = true := by simpa using hE
            have n1 : (E == 0) = false := beq_eq_false_iff_ne.2 hE
            have HK2 : Hid (Kept (j + 1) ns ss e g) := HK.out.next
            clear hq hE hEE
            go_wp2_with fail
            refine K.mono ?_
            rintro er w2 ⟨p2, c2, rfl, hl2, hn2, hb2⟩
            obtain ⟨Wz, hWz, y1, y2, HX2, hsz, hoth⟩ := HX.out.call hb2 hl2 hn2
            clear K hl2 hn2 hb2 hsz hoth u0 u1 u2 u3 nV xV HX HM
            obtain ⟨dn, dx⟩ := HX2.out.cells
            have S2 : Hid (∀ W, Below Wz.heap.size Wz W → Calls Try.prog 18 #[.agg #[.slice p2 ns.length c2]] W fun e w' => e = .returned (.int .i64 0) ∧ Below W.heap.size W w') := fun W hb => CK.out ns p2 c2 W HK2.out.ok (HX2.out.below hb).2.2.2.2.2.2.1
            have S1 : Hid (Calls Try.prog 17 #[.agg #[.slice p2 ns.length c2], .agg #[.slice pn ns.length cn]] Wz fun e w' => e = .returned (.bool true) ∧ Below Wz.heap.size Wz w') := CS.out ns p2 pn c2 cn Wz HX2.out.2.2.2.2.2.2.1 HX2.out.2.2.2.2.2.1
            go_wp2_with fail
            refine S1.out.mono ?_
            rintro er w7 ⟨rfl, hb7⟩
            have HX7 : Hid (OnlyX w w1.heap.size U.heap.size pn cn ns p2 c2 ns (.slice pu ss.length cu) ss w7) := HX2.out.below hb7
            obtain ⟨d7, e7⟩ := HX7.out.cells
            have S3 := S2.out w7 hb7
            clear S1 S2 hb7 dn dx
            go_wp2_with fail
            refine S3.mono ?_
            rintro er w8 ⟨rfl, hwq⟩
            have HX8 : Hid (OnlyX w w1.heap.size U.heap.size pn cn ns p2 c2 ns (.slice pu ss.length cu) ss w8) := HX7.out.below hwq
            clear S3 HX7 d7 e7 hwq
            obtain ⟨f1, f2⟩ := HX8.out.cells
            obtain ⟨Wn, hWn, n1, n2, HJn⟩ := HX8.out.done
            clear HX8
            go_wp2_with fail
            go_roundg g'
            case measure => omega
            case rel => exact ⟨j + 1, e, g, ns, ss, p2, c2, _, rfl, by go_num, by go_num, by go_num, by omega, by omega, by omega, HK2, HJn⟩
    · have z1 : ¬ (j : Int) < (ms.length : Int) := by omega
      have nU := HJ.out.cell
      obtain ⟨X, hX⟩ : ∃ X, X = wr := ⟨_, rfl⟩
      subst hX
      have q1 : IntKind.i64.wrap ((ns.length : Int) + g) = (ns.length : Int) + g := by rw [IntKind.wrap_i64]; omega
      have q2 : IntKind.i64.wrap ((ss.length : Int) + e) = (ss.length : Int) + e := by rw [IntKind.wrap_i64]; omega
      have q3 : ((ns.length : Int) + g == (ss.length : Int) + e) = true := by rw [HK.out.cnt]; simp
      have CH : Hid (∀ W pk, Below X.heap.size X W → pk ∈ ns → Calls Try.prog 20 #[.slice pu ss.length cu, .agg #[.int .i64 pk.f, .int .i64 pk.t, .string pk.x]] W fun e w' => e = .returned (.bool true) ∧ Below W.heap.size W w') := fun W pk hb hm => by
        have := has_any _ ss pk W ((HJ.out.below hb).2.2.2.2.1.packs (by omega) HK.out.small)
        rwa [hasP_mem (HK.out.sub pk hm)] at this
      have HXX : Hid (∀ W, Below X.heap.size X W → OnlyJ w w1.heap.size pn cn ns (.slice pu ss.length cu) ss W) := fun W hb => HJ.out.below hb
      clear HJ HK ge1 ge2
      go_wp2_with fail
      go_loopg [116] ns.length (fun gf sI wx => ∃ i : Nat, sI = .int .i64 i ∧ i ≤ ns.length ∧ ns.length ≤ i + gf ∧ Hid (Below X.heap.size X wx))
      case atStart => exact ⟨0, rfl, by omega, by omega, Below.refl _ _⟩
      case round =>
        obtain ⟨i, rfl, hi1, hgf2, HB⟩ := hrel
        by_cases hi : i < ns.length
        · obtain ⟨g', rfl⟩ : ∃ g', gk = g' + 1 := ⟨gk - 1, by omega⟩
          obtain ⟨⟨nf, nt, nx⟩, hf⟩ : ∃ m, ns[i] = m := ⟨_, rfl⟩
          obtain ⟨b3, o3, rfl, m0, m1, m2⟩ := (HXX.out wr HB.out).2.2.2.1.at hi hf
          simp only at m0 m1 m2
          have y0 : (0 : Int) ≤ (i : Int) := by omega
          have y1 : (i : Int) < (ns.length : Int) := by omega
          have HBU : Hid (Below X.heap.size X (wr.alloc (.cells #[.int .i64 nf, .int .i64 nt, .string nx] 30))) := HB.out.alloc HB.out.size _
          have K := CH.out _ ⟨nf, nt, nx⟩ HBU.out (by rw [← hf]; exact List.getElem_mem hi)
          simp only at K
          clear hf HB
          go_wp2_with fail
          refine K.mono ?_
          rintro er w9 ⟨rfl, hb9⟩
          have HB9 : Hid (Below X.heap.size X w9) := HBU.out.trans (hb9.mono HBU.out.size)
          clear hb9 HBU K
          go_wp2_with fail
          go_roundg g'
          case measure => omega
          case rel => exact ⟨i + 1, by go_num, by omega, by omega, HB9⟩
        · have y1 : ¬ (i : Int) < (ns.length : Int) := by omega
          have hO := HXX.out wr HB.out
          have nn := hO.cell
          have HBW : Hid (Below w.heap.size w wr) := hO.1
          clear hO HB
          go_wp2_with fail
          go_ret
          exact ⟨rfl, HBW.out⟩
end Go.Proofs.Ytnfgfbmkeiimlaa

/- The reference: who is alive. -/
import Derived.Test.YtdcgppdljcokpaaLk
namespace Go.Proofs.Ytdcgppdljcokpaa
open Go.Shelf Go.RowKit Go.Lib Go.Sort
set_option linter.unusedVariables false
set_option linter.unusedSimpArgs false
attribute [local go_sem ↓] Go.wp_at_zero Go.wp_at_succ
theorem cell_one_at (w : World) (a : Value) (t : TypeId) (g : Nat) (hg : g = w.heap.size) : ∀ j u, [a][j]? = some u → (w.alloc (.cells #[a] t)).cell? ((⟨g, 0, none⟩ : Addr).add j) = some u := by
  subst hg
  exact cell_one_new w a t
/-- Truths in memory of their own. -/
def OwnB (w : World) (u : Value) (bs : List Bool) (W : World) : Prop := W.ownsRow w.heap.size 4 1 u bs.length (bs.map fun b => .bool b) ∧ Below w.heap.size w W
theorem OwnB.bools {w W : World} {u : Value} {bs : List Bool} (h : OwnB w u bs W) (h8 : bs.length ≤ 8) : ∃ p c, u = .slice p bs.length c ∧ BoolsL W (.slice p bs.length c) bs := by
  obtain ⟨⟨hl, ⟨rfl, hn⟩ | ⟨g, cap, cur, rfl, hb, hg, hnc, hcm, hcs, htake⟩⟩, _⟩ := h
  · exact ⟨none, 0, by rw [hn], none, 0, rfl, h8, fun h => by omega⟩
  · refine ⟨_, cap, rfl, _, cap, rfl, h8, fun _ => ⟨g, 0, rfl, (Array.getElem?_eq_some_iff.1 hg).1, fun j hj => ?_⟩⟩
    rw [Nat.zero_add]
    refine cell_of_row hg ?_
    have h1 : (cur.toList.take (bs.length * 1))[j]? = some (.bool bs[j]) := by rw [htake]; simp [hj]
    rw [List.getElem?_take_of_lt (by omega)] at h1
    simpa using h1
set_option maxRecDepth 100000 in
set_option maxHeartbeats 8000000 in
theorem refAlive_any (u v : Value) (bs ss : List Int) (now : Int) (w : World) (h : NumsL w u bs) (h' : NumsL w v ss) (hno : 0 ≤ now ∧ now < 18446744073709551616) :
    Calls Try.prog 13 #[.agg #[u, v], .int .u64 now] w fun e w' => AlvP (alvL bs ss now) (chL bs ss) w e w' := by
  obtain ⟨W0, hW0, hb0, hs0, hx⟩ := box2 w u v
  obtain ⟨x0, x1⟩ := hx W0 (Below.refl _ _)
  have HX : Hid _ := hx
  have HB0 : Hid (Below w.heap.size w W0) := hb0
  have CK : Hid (Calls Try.prog 17 #[.agg #[u, v]] W0 fun e w' => e = .returned (.int .i64 (chL bs ss)) ∧ Below W0.heap.size W0 w') := refCheck_any u v bs ss W0 (h.below hb0) (h'.below hb0)
  have HU : Hid (InU ss) := h'.inU
  unfold alvL
  by_cases hc : chL bs ss = 0
  · have hok := chL_zero.1 hc
    rw [hc] at CK
    rw [if_pos hc, hc]
    have hl8 := hok.2.2
    have hl2 := hok.2.1
    obtain ⟨al, hal⟩ : ∃ al : Nat → List Bool, al = fun i => (List.range i).map (aliveB bs ss now) := ⟨_, rfl⟩
    have hlal : ∀ i, (al i).length = i := fun i => by rw [hal]; simp
    have hst : ∀ i, al (i + 1) = al i ++ [aliveB bs ss now i] := fun i => by rw [hal]; simp [List.range_succ]
    have HL : Hid (bs.length ≤ 8) := hl8
    have HLA : Hid (∀ i, (al i).length = i) := hlal
    have HST : Hid (∀ i, al (i + 1) = al i ++ [aliveB bs ss now i]) := hst
    have HA0 : Hid (al 0 = []) := by show _ = _; rw [hal]; rfl
    rw [show (List.range bs.length).map (aliveB bs ss now) = al bs.length by rw [hal]]
    have HEQ : Hid (bs.length = ss.length) := hok.1
    obtain ⟨p, c, rfl, _, _, _, _, _, hp⟩ := h
    obtain ⟨q, d, rfl, _, _, _, _, _, hq⟩ := h'
    obtain ⟨b, o, rfl, hlt, hci⟩ := hp (by omega)
    obtain ⟨b', o', rfl, hlt', hci'⟩ := hq (by have := hok.1; omega)
    have HC : Hid (NIs w b o bs) := hci
    have HC' : Hid (NIs w b' o' ss) := hci'
    obtain ⟨i0, hi0, hz0', hz1', hz2'⟩ := info4
    clear hal hlal hst hc hok hx hb0 hs0 hp hq hci hci'
    go_enter Try.func13, Try.ntmps13
    go_wp2_with fail
    refine CK.out.mono ?_
    rintro e w1 ⟨rfl, hb1⟩
    obtain ⟨y0, y1⟩ := HX.out w1 hb1
    have HB1 : Hid (Below W0.heap.size W0 w1) := hb1
    have HJ : Hid (OwnB w1 (.slice none 0 0) (al 0) w1) := by rw [HA0.out]; exact ⟨World.ownsRow_nil _ _ _ _, Below.refl _ _⟩
    clear CK hb1 x0 x1
    go_wp2_with fail
    go_loopg [6, 14] bs.length (fun gf s6 s14 wx => ∃ (u : Value) (i : Nat), u = s6 ∧ s14 = .int .i64 i ∧ i ≤ bs.length ∧ bs.length ≤ i + gf ∧ Hid (OwnB w1 u (al i) wx))
    case atStart => exact ⟨_, 0, rfl, rfl, by omega, by omega, HJ⟩
    case round =>
      clear HJ
      obtain ⟨u, i, rfl, rfl, hi1, hgf, HJ⟩ := hrel
      by_cases hi : i < bs.length
      · obtain ⟨g', rfl⟩ : ∃ g', gk = g' + 1 := ⟨gk - 1, by omega⟩
        have hi' : i < ss.length := by have := HEQ.out; omega
        obtain ⟨hown, hbw⟩ := HJ.out
        have hbr : Below W0.heap.size W0 wr := HB1.out.trans (hbw.mono HB1.out.size)
        have hbrw : Below w.heap.size w wr := HB0.out.trans (hbr.mono HB0.out.size)
        obtain ⟨a0, a1⟩ := HX.out wr hbr
        have c0 := (HC.out.below hlt hbrw) i hi
        have c1 := (HC'.out.below hlt' hbrw) i hi'
        have hy2 := HU.out _ (List.getElem_mem hi')
        have hz0 : (0 : Int) ≤ (i : Int) := by omega
        have hz1 : (i : Int) < (bs.length : Int) := by omega
        have hz2 : (i : Int) < (ss.length : Int) := by have := HEQ.out; omega
        have HBB : Hid (aliveB bs ss now i = (decide (i = 0) || (!(bs[i] == 0) && (decide (ss[i] ≤ now) && decide (now - ss[i] < 8))))) := by
          show _ = _
          unfold aliveB
          simp [hi, hi']
          rfl
        obtain ⟨x, hxi⟩ : ∃ x, bs[i] = x := ⟨_, rfl⟩
        obtain ⟨y, hyi⟩ : ∃ y, ss[i] = y := ⟨_, rfl⟩
        rw [hxi] at c0 HBB
        rw [hyi] at c1 HBB hy2
        rw [HLA.out i] at hown
        have hs8 : i < 8 := by have := HL.out; omega
        have fin : ∀ bb : Bool, aliveB bs ss now i = bb → ∀ (v' : Value) (w3 : World), w3.ownsRow w1.heap.size 4 1 v' (i + 1) ((al i).map (fun b => Value.bool b) ++ [.bool bb]) → Below w1.heap.size w1 w3 → Hid (OwnB w1 v' (al (i + 1)) w3) := fun bb hbb v' w3 ho hb => by
          have e1 : (al i ++ [bb]).length = i + 1 := by rw [List.length_append, HLA.out i]; rfl
          rw [HST.out i, hbb]
          refine ⟨?_, hb⟩
          rw [e1, List.map_append]
          exact ho
        have HFIN : Hid _ := fin
        clear hxi hyi HJ hbr hbrw fin
        by_cases q0 : i = 0
        · have HD : Hid (aliveB bs ss now i = true) := by show _ = _; rw [HBB.out]; simp [q0]
          have t0 : ((i : Int) == 0) = true := by simp [q0]
          clear HBB q0
          go_wp2_with (at_builtin; refine wpList_append_own _ rfl _ _ 32 rfl w1.heap.size 4 i0 (.bool false) 1 1 Try.underlying32 hi0 hz0' hz1' hz2' rfl (by decide) _ i _ rfl (hown.alloc _) ⟨_, 0, none⟩ 1 1 [.bool true] rfl rfl (cell_one_at _ _ _ _ (by simp)) (fun x hx => by simp at hx; subst hx; rfl) (by unfold maxLen; omega) (by omega) (by have := hbw.size; simp; omega) ?_; intro v' w3 hown' hgrow3 hnil3)
          go_roundg g'
          case measure => omega
          case rel =>
            refine ⟨_, i + 1, rfl, by go_num, by omega, by omega, HFIN.out true HD.out v' w3 hown' ?_⟩
            exact Below.grown (hbw.alloc hbw.size _) hgrow3 (by have := hbw.size; simp; omega) (fun j hj => by have := (hown.lt _ hj).1; omega)
        · have t0 : ((i : Int) == 0) = false := by simp; omega
          by_cases q1 : x = 0
          · have HD : Hid (aliveB bs ss now i = false) := by show _ = _; rw [HBB.out]; simp [q0, q1]
            have t1 : (x != 0) = false := by simp [q1]
            clear HBB q0 q1
            go_wp2_with (at_builtin; refine wpList_append_own _ rfl _ _ 32 rfl w1.heap.size 4 i0 (.bool false) 1 1 Try.underlying32 hi0 hz0' hz1' hz2' rfl (by decide) _ i _ rfl (hown.alloc _) ⟨_, 0, none⟩ 1 1 [.bool false] rfl rfl (cell_one_at _ _ _ _ (by simp)) (fun x hx => by simp at hx; subst hx; rfl) (by unfold maxLen; omega) (by omega) (by have := hbw.size; simp; omega) ?_; intro v' w3 hown' hgrow3 hnil3)
            go_roundg g'
            case measure => omega
            case rel =>
              refine ⟨_, i + 1, rfl, by go_num, by omega, by omega, HFIN.out false HD.out v' w3 hown' ?_⟩
              exact Below.grown (hbw.alloc hbw.size _) hgrow3 (by have := hbw.size; simp; omega) (fun j hj => by have := (hown.lt _ hj).1; omega)
          · have t1 : (x != 0) = true := by simp [q1]
            by_cases q2 : y ≤ now
            · have hw : IntKind.u64.wrap (now - y) = now - y := by rw [IntKind.wrap_u64]; omega
              by_cases q3 : now - y < 8
              · have HD : Hid (aliveB bs ss now i = true) := by show _ = _; rw [HBB.out]; simp [q0, q1, q2, q3]
                clear HBB q0 q1
                go_wp2_with (at_builtin; refine wpList_append_own _ rfl _ _ 32 rfl w1.heap.size 4 i0 (.bool false) 1 1 Try.underlying32 hi0 hz0' hz1' hz2' rfl (by decide) _ i _ rfl (hown.alloc _) ⟨_, 0, none⟩ 1 1 [.bool true] rfl rfl (cell_one_at _ _ _ _ (by simp)) (fun x hx => by simp at hx; subst hx; rfl) (by unfold maxLen; omega) (by omega) (by have := hbw.size; simp; omega) ?_; intro v' w3 hown' hgrow3 hnil3)
                go_roundg g'
                case measure => omega
                case rel =>
                  refine ⟨_, i + 1, rfl, by go_num, by omega, by omega, HFIN.out true HD.out v' w3 hown' ?_⟩
                  exact Below.grown (hbw.alloc hbw.size _) hgrow3 (by have := hbw.size; simp; omega) (fun j hj => by have := (hown.lt _ hj).1; omega)
              · have HD : Hid (aliveB bs ss now i = false) := by show _ = _; rw [HBB.out]; simp [q0, q1, q2, q3]
                have q4 : decide (now - y < 8) = false := by simp; omega
                clear HBB q0 q1
                go_wp2_with (at_builtin; refine wpList_append_own _ rfl _ _ 32 rfl w1.heap.size 4 i0 (.bool false) 1 1 Try.underlying32 hi0 hz0' hz1' hz2' rfl (by decide) _ i _ rfl (hown.alloc _) ⟨_, 0, none⟩ 1 1 [.bool false] rfl rfl (cell_one_at _ _ _ _ (by simp)) (fun x hx => by simp at hx; subst hx; rfl) (by unfold maxLen; omega) (by omega) (by have := hbw.size; simp; omega) ?_; intro v' w3 hown' hgrow3 hnil3)
                go_roundg g'
                case measure => omega
                case rel =>
                  refine ⟨_, i + 1, rfl, by go_num, by omega, by omega, HFIN.out false HD.out v' w3 hown' ?_⟩
                  exact Below.grown (hbw.alloc hbw.size _) hgrow3 (by have := hbw.size; simp; omega) (fun j hj => by have := (hown.lt _ hj).1; omega)
            · have HD : Hid (aliveB bs ss now i = false) := by show _ = _; rw [HBB.out]; simp [q0, q1, q2]
              clear HBB q0 q1
              go_wp2_with (at_builtin; refine wpList_append_own _ rfl _ _ 32 rfl w1.heap.size 4 i0 (.bool false) 1 1 Try.underlying32 hi0 hz0' hz1' hz2' rfl (by decide) _ i _ rfl (hown.alloc _) ⟨_, 0, none⟩ 1 1 [.bool false] rfl rfl (cell_one_at _ _ _ _ (by simp)) (fun x hx => by simp at hx; subst hx; rfl) (by unfold maxLen; omega) (by omega) (by have := hbw.size; simp; omega) ?_; intro v' w3 hown' hgrow3 hnil3)
              go_roundg g'
              case measure => omega
              case rel =>
                refine ⟨_, i + 1, rfl, by go_num, by omega, by omega, HFIN.out false HD.out v' w3 hown' ?_⟩
                exact Below.grown (hbw.alloc hbw.size _) hgrow3 (by have := hbw.size; simp; omega) (fun j hj => by have := (hown.lt _ hj).1; omega)
      · have hz1 : ¬ (i : Int) < (bs.length : Int) := by omega
        have hend : i = bs.length := by omega
        obtain ⟨pf, cf, huf, hbf⟩ := HJ.out.bools (by rw [HLA.out i]; have := HL.out; omega)
        have HF : Hid (BoolsL wr (.slice pf (al i).length cf) (al i) ∧ Below w.heap.size w wr) := ⟨hbf, HB0.out.trans ((HB1.out.trans (HJ.out.2.mono HB1.out.size)).mono HB0.out.size)⟩
        have HEND : Hid (i = bs.length) := hend
        subst huf
        clear HJ hend hbf
        go_wp2_with fail
        go_ret2
        rw [← HEND.out]
        exact ⟨_, _, rfl, HF.out⟩
  · have hno' := chL_no (fun x => hc (chL_zero.2 x))
    rw [if_neg hc, hno']
    rw [hno'] at CK
    obtain ⟨p, c, rfl, _⟩ := h
    obtain ⟨q, d, rfl, _⟩ := h'
    clear hc hx hb0 hs0 hno'
    go_enter Try.func13, Try.ntmps13
    go_wp2_with fail
    refine CK.out.mono ?_
    rintro e w1 ⟨rfl, hb1⟩
    have HB1 : Hid (Below w.heap.size w w1) := HB0.out.trans (hb1.mono HB0.out.size)
    clear CK hb1 x0 x1
    go_wp2_with fail
    go_ret2
    exact ⟨none, 0, rfl, ⟨none, 0, rfl, by simp, fun h => by simp at h⟩, HB1.out⟩
end Go.Proofs.Ytdcgppdljcokpaa

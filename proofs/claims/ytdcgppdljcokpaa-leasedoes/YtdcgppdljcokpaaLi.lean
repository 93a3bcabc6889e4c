/- Who is alive. -/
import Derived.Test.YtdcgppdljcokpaaLh
namespace Go.Proofs.Ytdcgppdljcokpaa
open Go.Shelf Go.RowKit Go.Lib Go.Sort
set_option linter.unusedVariables false
set_option linter.unusedSimpArgs false
attribute [local go_sem ↓] Go.wp_at_zero Go.wp_at_succ
def alvL (bs ss : List Int) (now : Int) : List Bool := if chL bs ss = 0 then (List.range bs.length).map (aliveB bs ss now) else []
def AlvP (al : List Bool) (er : Int) (w : World) (e : Ending) (w' : World) : Prop :=
  ∃ p c, e = .returned (.tuple #[.slice p al.length c, .int .i64 er]) ∧ BoolsL w' (.slice p al.length c) al ∧ Below w.heap.size w w'
/-- Truths that are being told. -/
def AlvJ (w1 : World) (al : List Bool) (i : Nat) (wx : World) : Prop :=
  ∃ cur : Array Value, wx.heap[w1.heap.size]? = some (.cells cur 4 (0, 0)) ∧ cur.size = al.length ∧ Below w1.heap.size w1 wx ∧ ∀ j (h : j < al.length), j < i → cur[j]? = some (.bool al[j])
theorem alv_step {w1 wr : World} {al : List Bool} {i : Nat} (hJ : AlvJ w1 al i wr) (hi : i < al.length) : AlvJ w1 al (i + 1) (wr.setCell ⟨w1.heap.size, i, none⟩ (.bool al[i])) := by
  obtain ⟨cur, hg, hc, hb, hr⟩ := hJ
  have g2 := heap_setCell_same wr w1.heap.size i cur 4 (.bool al[i]) hg
  refine ⟨_, g2, by simpa using hc, ⟨hb.os, hb.tape, hb.output, by simp [World.setCell]; exact hb.size, fun k hk => ?_⟩, fun j hj hji => ?_⟩
  · rw [heap_setCell_other _ ⟨w1.heap.size, i, none⟩ k _ (by show k ≠ w1.heap.size; omega)]; exact hb.block k hk
  · by_cases e : j = i
    · subst e; rw [Array.getElem?_setIfInBounds_self_of_lt (by omega)]
    · rw [Array.getElem?_setIfInBounds_ne (by omega)]; exact hr j hj (by omega)
theorem AlvJ.later {w1 wr w' : World} {al : List Bool} {i : Nat} (hJ : AlvJ w1 al i wr) (hb : Below wr.heap.size wr w') : AlvJ w1 al i w' := by
  obtain ⟨cur, hg, hc, hb1, hr⟩ := hJ
  exact ⟨cur, by rw [hb.block _ (Array.getElem?_eq_some_iff.1 hg).1]; exact hg, hc, hb1.trans (hb.mono hb1.size), hr⟩
theorem AlvJ.bools {w1 wr : World} {al : List Bool} (hJ : AlvJ w1 al al.length wr) (h8 : al.length ≤ 8) : BoolsL wr (.slice (some ⟨w1.heap.size, 0, none⟩) al.length al.length) al := by
  obtain ⟨cur, hg, hc, hb1, hr⟩ := hJ
  exact ⟨_, _, rfl, h8, fun _ => ⟨w1.heap.size, 0, rfl, (Array.getElem?_eq_some_iff.1 hg).1, fun j hj => by rw [Nat.zero_add]; exact cell_of_row hg (hr j hj hj)⟩⟩
theorem make_bools (k : Nat) (hk : k ≤ 8) : ∃ Z : Array Value, Z.size = k ∧ ∀ W, (Instr.makeSlice 32 (.int .i64 (k : Int)) (.int .i64 (k : Int))).run Try.prog W = .ok (.slice (some ⟨W.heap.size, 0, none⟩) k k) (W.alloc (.cells Z 4)) := by
  obtain ⟨i0, hi, hz0, hz1, hz2⟩ := info4
  refine ⟨madeCells (Value.bool false).cells (k * 1), by rw [size_madeCells]; omega, fun W => ?_⟩
  have := run_make (P := Try.prog) (w := W) 32 4 i0 _ Try.underlying32 hi hz0 .i64 .i64 (k : Int) (k : Int) (by omega) (by omega) (by rw [hz2]; omega) (by omega)
  rw [hz1] at this
  simpa using this
set_option maxRecDepth 100000 in
set_option maxHeartbeats 4000000 in
theorem Alive_any (u v : Value) (bs ss : List Int) (now : Int) (w : World) (h : NumsL w u bs) (h' : NumsL w v ss) (hno : 0 ≤ now ∧ now < 18446744073709551616) :
    Calls Try.prog 12 #[.agg #[u, v], .int .u64 now] w fun e w' => AlvP (alvL bs ss now) (chL bs ss) w e w' := by
  obtain ⟨W0, hW0, hb0, hs0, hx⟩ := box2 w u v
  obtain ⟨x0, x1⟩ := hx W0 (Below.refl _ _)
  have HX : Hid _ := hx
  have HB0 : Hid (Below w.heap.size w W0) := hb0
  have CK : Hid (Calls Try.prog 16 #[.agg #[u, v]] W0 fun e w' => e = .returned (.int .i64 (chL bs ss)) ∧ Below W0.heap.size W0 w') := check_any u v bs ss W0 (h.below hb0) (h'.below hb0)
  have CI : Hid (∀ (k : Nat) W, Below w.heap.size w W → okL bs ss → k < bs.length → Calls Try.prog 21 #[.agg #[u, v], .int .i64 (k : Int), .int .u64 now] W fun e w' => e = .returned (.bool (aliveB bs ss now k)) ∧ Below W.heap.size W w') := fun k W hb hok hk => isAlive_any u v bs ss k now W (h.below hb) (h'.below hb) hok hk hno
  unfold alvL
  by_cases hc : chL bs ss = 0
  · have hok := chL_zero.1 hc
    rw [hc] at CK
    rw [if_pos hc, hc]
    have hl8 := hok.2.2
    obtain ⟨Z, hZ, hmk⟩ := make_bools bs.length hl8
    obtain ⟨al, hal⟩ : ∃ al, (List.range bs.length).map (aliveB bs ss now) = al := ⟨_, rfl⟩
    have hlal : al.length = bs.length := by rw [← hal]; simp
    have hat : ∀ k (h : k < al.length), aliveB bs ss now k = al[k] := fun k hk => by simp [← hal]
    rw [hal]
    have CI2 : Hid (∀ (k : Nat) W, Below w.heap.size w W → (hk : k < al.length) → Calls Try.prog 21 #[.agg #[u, v], .int .i64 (k : Int), .int .u64 now] W fun e w' => e = .returned (.bool al[k]) ∧ Below W.heap.size W w') := fun k W hb hk => by
      have := CI.out k W hb hok (by omega)
      rwa [hat k hk] at this
    rw [← hlal] at hmk hZ hl8
    obtain ⟨p, c, rfl, _⟩ := h
    obtain ⟨q, d, rfl, _⟩ := h'
    rw [← hlal] at CK CI2 HX x0 hW0 ⊢
    have HL : Hid (al.length ≤ 8) := hl8
    clear CI hat hal hc hok hx hb0 hs0 hlal
    go_enter Try.func12, Try.ntmps12
    go_wp2_with fail
    refine CK.out.mono ?_
    rintro e w1 ⟨rfl, hb1⟩
    obtain ⟨y0, y1⟩ := HX.out w1 hb1
    have HB1 : Hid (Below W0.heap.size W0 w1) := hb1
    have HJ : Hid (AlvJ w1 al 0 (w1.alloc (.cells Z 4))) := ⟨Z, heap_alloc_new w1 _, hZ, one_below _ _, fun j hj h0 => by omega⟩
    obtain ⟨W3, hW3⟩ : ∃ W3, w1.alloc (.cells Z 4) = W3 := ⟨_, rfl⟩
    have hmk1 := hmk w1
    rw [hW3] at HJ hmk1
    clear CK hb1 x0 x1 hZ hmk hW3
    go_wp2_with fail
    go_loopg [21] al.length (fun gf s25 wx => ∃ i : Nat, s25 = .int .i64 i ∧ i ≤ al.length ∧ al.length ≤ i + gf ∧ Hid (AlvJ w1 al i wx))
    case atStart => exact ⟨0, rfl, by omega, by omega, HJ⟩
    case round =>
      clear HJ
      obtain ⟨i, rfl, hi1, hgf, HJ⟩ := hrel
      by_cases hi : i < al.length
      · obtain ⟨g', rfl⟩ : ∃ g', gk = g' + 1 := ⟨gk - 1, by omega⟩
        have hbr : Below W0.heap.size W0 wr := by obtain ⟨_, _, _, hbw, _⟩ := HJ.out; exact HB1.out.trans (hbw.mono HB1.out.size)
        obtain ⟨a0, a1⟩ := HX.out wr hbr
        have K1 := CI2.out i wr (HB0.out.trans (hbr.mono HB0.out.size)) hi
        have hz0 : (0 : Int) ≤ (i : Int) := by omega
        have hz1 : (i : Int) < (al.length : Int) := by omega
        have HP : Hid (∀ w', Below wr.heap.size wr w' → (∃ o, w'.cell? ⟨w1.heap.size, i, none⟩ = some o) ∧ w'.frozen? ⟨w1.heap.size, i, none⟩ = false ∧ AlvJ w1 al (i + 1) (w'.setCell ⟨w1.heap.size, i, none⟩ (.bool al[i]))) := fun w' hb => by
          have hJ2 := HJ.out.later hb
          have hst := alv_step hJ2 hi
          obtain ⟨cur, hg, hcs, _, _⟩ := hJ2
          exact ⟨⟨cur[i]'(by omega), by simp [World.cell?, hg, hcs, hi]⟩, frozen_zero hg i, hst⟩
        obtain ⟨bi, hbi⟩ : ∃ bi, al[i] = bi := ⟨_, rfl⟩
        rw [hbi] at K1 HP
        clear HJ hbr hbi
        go_wp2_with fail
        refine K1.mono ?_
        rintro e w2 ⟨rfl, hb2⟩
        obtain ⟨⟨oo, ho⟩, hf, hJ3⟩ := HP.out w2 hb2
        have HJ3 : Hid (AlvJ w1 al (i + 1) (w2.setCell ⟨w1.heap.size, i, none⟩ (.bool bi))) := hJ3
        clear K1 hb2 hJ3 HP a0 a1
        go_wp2_with fail
        go_roundg g'
        case measure => omega
        case rel => exact ⟨i + 1, by go_num, by omega, by omega, HJ3⟩
      · have hz1 : ¬ (i : Int) < (al.length : Int) := by omega
        have HF : Hid (BoolsL wr (.slice (some ⟨w1.heap.size, 0, none⟩) al.length al.length) al ∧ Below w.heap.size w wr) := by
          have hJ := HJ.out
          rw [show i = al.length by omega] at hJ
          have hbr : Below W0.heap.size W0 wr := by obtain ⟨_, _, _, hbw, _⟩ := hJ; exact HB1.out.trans (hbw.mono HB1.out.size)
          exact ⟨hJ.bools HL.out, HB0.out.trans (hbr.mono HB0.out.size)⟩
        clear HJ
        go_wp2_with fail
        go_ret2
        exact ⟨_, _, rfl, HF.out⟩
  · have hno' := chL_no (fun x => hc (chL_zero.2 x))
    rw [if_neg hc, hno']
    rw [hno'] at CK
    obtain ⟨p, c, rfl, _⟩ := h
    obtain ⟨q, d, rfl, _⟩ := h'
    clear CI hc hx hb0 hs0 hno'
    go_enter Try.func12, Try.ntmps12
    go_wp2_with fail
    refine CK.out.mono ?_
    rintro e w1 ⟨rfl, hb1⟩
    have HB1 : Hid (Below w.heap.size w w1) := HB0.out.trans (hb1.mono HB0.out.size)
    clear CK hb1 x0 x1
    go_wp2_with fail
    go_ret2
    exact ⟨none, 0, rfl, ⟨none, 0, rfl, by simp, fun h => by simp at h⟩, HB1.out⟩
end Go.Proofs.Ytdcgppdljcokpaa

/- What CheckCols answers, in the program and in the reference. -/
import Derived.Test.YthfoijnjgdeaaaaDoorTaTb
import Derived.Test.YthfoijnjgdeaaaaDoorOrderWalk
namespace Go.Proofs.YthfoijnjgdeaaaaDoor
open Go.RowKit Go.Lib
set_option linter.unusedVariables false
attribute [local go_sem ↓] Go.wp_at_zero Go.wp_at_succ
/-- Why columns are none: from a place on. -/
def colsGo : List Col → List Col → Int
  | _, [] => 0
  | bs, c :: r => if colV c bs = 0 then colsGo (bs ++ [c]) r else colV c bs
theorem colsGo_at (cs : List Col) (i : Nat) (h : i < cs.length) : colsGo (cs.take i) (cs.drop i) = if colV cs[i] (cs.take i) = 0 then colsGo (cs.take (i + 1)) (cs.drop (i + 1)) else colV cs[i] (cs.take i) := by
  rw [List.drop_eq_getElem_cons h, List.take_succ_eq_append_getElem h]
  rfl
def colsV (cs : List Col) : Int := if cs.length = 0 ∨ 8 < cs.length then 3 else colsGo [] cs
theorem ColsIs.take {w : World} {b o : Nat} {cs : List Col} (h : ColsIs w b o cs) (i : Nat) : ColsIs w b o (cs.take i) := by
  intro j hj
  rw [List.length_take] at hj
  have := h j (by omega)
  rw [List.getElem_take]
  exact this
theorem ColsIs.below {w w' : World} {b o n : Nat} {cs : List Col} (h : ColsIs w b o cs) (hb : Below n w w') (hn : b < n) : ColsIs w' b o cs := by
  intro j hj
  rw [hb.cell hn, hb.cell hn]
  exact h j hj
set_option maxHeartbeats 1000000 in
theorem checkCols_none (p : Option Addr) (c : Nat) (w : World) :
    Calls Tryd.prog 49 #[.slice p 0 c] w fun e w' => e = .returned (.int .i64 3) ∧ w' = w := by
  go_enter Tryd.func49, Tryd.ntmps49
  go_wp2
  go_ret
  exact ⟨rfl, rfl⟩
set_option maxHeartbeats 1000000 in
theorem checkCols_many (p : Option Addr) (n c : Nat) (w : World) (h : 8 < n) (hn : n ≤ 9223372036854775807) :
    Calls Tryd.prog 49 #[.slice p n c] w fun e w' => e = .returned (.int .i64 3) ∧ w' = w := by
  have t0 : ((n : Int) == 0) = false := beq_eq_false_iff_ne.2 (by omega)
  have t1 : (8 : Int) < (n : Int) := by omega
  go_enter Tryd.func49, Tryd.ntmps49
  go_wp2
  go_ret
  exact ⟨rfl, rfl⟩
set_option maxRecDepth 100000 in
set_option maxHeartbeats 4000000 in
theorem checkCols_core (b o cap : Nat) (cs : List Col) (w : World) (h : ColsIs w b o cs) (hb : b < w.heap.size) (h0 : cs.length ≠ 0) (h8 : ¬ 8 < cs.length) (hc : cs.length ≤ cap) (hs : ∀ c ∈ cs, c.name.size ≤ 9223372036854775807) (hT : Lib.Utf8Tabs 0 1 w)
    (R : Int) (HR : Hid (colsGo [] cs = R)) :
    Calls Tryd.prog 49 #[.slice (some ⟨b, o, none⟩) cs.length cap] w fun e w' => e = .returned (.int .i64 R) ∧ Below w.heap.size w w' := by
  have HC : Hid (ColsIs w b o cs) := h
  have HT : Hid (Lib.Utf8Tabs 0 1 w) := hT
  have HS : Hid (∀ c ∈ cs, c.name.size ≤ 9223372036854775807) := hs
  have t0 : ((cs.length : Int) == 0) = false := beq_eq_false_iff_ne.2 (by omega)
  have t1 : ¬ (8 : Int) < (cs.length : Int) := by omega
  clear h hT hs
  go_enter Tryd.func49, Tryd.ntmps49
  go_wp2
  go_loopg [16] cs.length (fun gf s16 wx => ∃ i : Nat, s16 = .int .i64 i ∧ i ≤ cs.length ∧ Below w.heap.size w wx ∧ Hid (colsGo (cs.take i) (cs.drop i) = R) ∧ cs.length ≤ i + gf)
  case atStart => exact ⟨0, rfl, by omega, Below.refl _ _, HR, by omega⟩
  case round =>
    obtain ⟨i, rfl, hil, hbw, HG, hgf⟩ := hrel
    by_cases hlt : i < cs.length
    · obtain ⟨g', rfl⟩ : ∃ g', gk = g' + 1 := ⟨gk - 1, by omega⟩
      have hz0 : (0 : Int) ≤ (i : Int) := by omega
      have hz1 : (i : Int) < (cs.length : Int) := by omega
      have hz2 : (i : Int) ≤ (cap : Int) := by omega
      obtain ⟨y0, y1⟩ := HC.out i hlt
      rw [← hbw.cell (p := ⟨b, _, none⟩) hb] at y0 y1
      have hbr : b < wr.heap.size := Nat.lt_of_lt_of_le hb hbw.size
      have hg := HG.out
      rw [colsGo_at cs i hlt] at hg
      have hsz := HS.out _ (List.getElem_mem hlt)
      have hlen : (cs.take i).length = i := by rw [List.length_take]; omega
      have kc := fun (W : World) (hW : Below w.heap.size w W) => checkCol_any b o cap (cs.take i) cs[i].name cs[i].k W ((HC.out.take i).below hW hb) (Nat.lt_of_lt_of_le hb hW.size) (by omega) hsz (Utf8Tabs_below HT.out hW)
      obtain ⟨⟨cn, ck⟩, hci⟩ : ∃ x, cs[i] = x := ⟨_, rfl⟩
      rw [hci] at y0 y1 hg kc
      simp only at y0 y1 hg kc
      rw [hlen] at kc
      obtain ⟨v, hv⟩ : ∃ v, colV ⟨cn, ck⟩ (cs.take i) = v := ⟨_, rfl⟩
      rw [hv] at hg kc
      have HG2 : Hid ((if v = 0 then colsGo (cs.take (i + 1)) (cs.drop (i + 1)) else v) = R) := hg
      have KC : Hid (∀ W, Below w.heap.size w W → Calls Tryd.prog 77 #[.agg #[.string cn, .int .u8 ck], .slice (some ⟨b, o, none⟩) i cap] W fun e w' => e = .returned (.int .i64 v) ∧ Below W.heap.size W w') := kc
      clear hg kc hv hci hsz HG hlen
      go_upto_region 6 with fail
      obtain ⟨W1, hW1⟩ : ∃ W1, wr.alloc (.cells #[.string cn, .int .u8 ck] 110) = W1 := ⟨_, rfl⟩
      have b1 : Below w.heap.size w W1 := by rw [← hW1]; exact hbw.alloc hbw.size _
      have x0 : W1.cell? ⟨wr.heap.size, 0, none⟩ = some (.string cn) := by rw [← hW1]; simp
      have x1 : W1.cell? ⟨wr.heap.size, 1, none⟩ = some (.int .u8 ck) := by rw [← hW1]; simp
      have hz3 : wr.heap.size < W1.heap.size := by rw [← hW1, size_at]; omega
      rw [hW1]
      clear hW1 y0 y1
      have px0 : ∀ p : Later W1.heap.size W1, p.w.cell? ⟨wr.heap.size, 0, none⟩ = some (.string cn) := fun p => by rw [p.h.cell hz3]; exact x0
      have px1 : ∀ p : Later W1.heap.size W1, p.w.cell? ⟨wr.heap.size, 1, none⟩ = some (.int .u8 ck) := fun p => by rw [p.h.cell hz3]; exact x1
      have KL : Hid (∀ p : Later W1.heap.size W1, Calls Tryd.prog 77 #[.agg #[.string cn, .int .u8 ck], .slice (some ⟨b, o, none⟩) i cap] p.w fun e w' => e = .returned (.int .i64 v) ∧ Below p.w.heap.size p.w w') := fun p => KC.out p.w (b1.trans (p.h.mono b1.size))
      haveI : Inhabited (Later W1.heap.size W1) := ⟨⟨W1, Below.refl _ _⟩⟩
      have HB : Hid (Below w.heap.size w W1) := b1
      clear x0 x1 b1 KC
      refine wp_region_later mixedOn (by kernel_rfl) ?_
      repeat (go_big_quiet_step ((go_at_call 77; exact calls_later (KL.out _))))
      refine wpQuiet_nil ?_
      intro _ hw'
      obtain ⟨⟨wq, hwq⟩, hw''⟩ := hw'
      subst hw''
      have HF : Hid (Below w.heap.size w _) := HB.out.trans (hwq.mono HB.out.size)
      by_cases hv0 : v = 0
      · subst hv0
        have HG3 : Hid (colsGo (cs.take (i + 1)) (cs.drop (i + 1)) = R) := by have := HG2.out; rwa [if_pos rfl] at this
        go_wp2
        go_roundg g'
        case measure => omega
        case rel => exact ⟨i + 1, by go_num, by omega, HF.out, HG3, by omega⟩
      · have t2 : (v != 0) = true := bne_iff_ne.2 hv0
        have hR : v = R := by have := HG2.out; rwa [if_neg hv0] at this
        subst hR
        clear HG2 hv0
        go_wp2
        go_ret
        exact ⟨rfl, HF.out⟩
    · have hlt' : ¬ (i : Int) < (cs.length : Int) := by omega
      have hR : 0 = R := by have := HG.out; rw [List.drop_of_length_le (by omega)] at this; exact this
      subst hR
      clear HG HR
      go_wp2
      go_ret
      exact ⟨rfl, hbw⟩
end Go.Proofs.YthfoijnjgdeaaaaDoor

/- What a name's checks answer, in the program and in the reference; the reference's Check of any value. -/
import Derived.Test.YthfoijnjgdeaaaaDoorRa
import Derived.Test.YthfoijnjgdeaaaaDoorChkB
namespace Go.Proofs.YthfoijnjgdeaaaaDoor
open Go.RowKit Go.Lib
set_option linter.unusedVariables false
attribute [local go_sem ↓] Go.wp_at_zero Go.wp_at_succ

/-- Why a name is none. -/
def nameV (s : ByteArray) : Int := if s.size = 0 ∨ 64 < s.size then 4 else if Lib.validD s.data.toList then 0 else 9
set_option maxHeartbeats 1000000 in
theorem checkName_any (s : ByteArray) (w : World) (hs : s.size ≤ 9223372036854775807) (hT : Lib.Utf8Tabs 0 1 w) :
    Calls Tryd.prog 48 #[.string s] w fun e w' => e = .returned (.int .i64 (nameV s)) ∧ Below w.heap.size w w' := by
  unfold nameV
  by_cases h0 : s.size = 0
  · rw [if_pos (.inl h0)]
    have t5 : s.toList.isEmpty = true := (empty_iff s).2 h0
    clear h0
    go_enter Tryd.func48, Tryd.ntmps48
    go_wp2
    go_ret
    exact ⟨rfl, Below.refl _ _⟩
  have t5 : s.toList.isEmpty = false := full_of s h0
  by_cases h1 : 64 < s.size
  · rw [if_pos (.inr h1)]
    have hl : (64 : Int) < (s.size : Int) := by omega
    clear h0
    go_enter Tryd.func48, Tryd.ntmps48
    go_wp2
    go_ret
    exact ⟨rfl, Below.refl _ _⟩
  rw [if_neg (by omega)]
  have hl : ¬ (64 : Int) < (s.size : Int) := by omega
  have cU := checkUtf_any s w hs hT
  obtain ⟨R, hR⟩ : ∃ R, (if Lib.validD s.data.toList then (0 : Int) else 9) = R := ⟨_, rfl⟩
  rw [hR] at cU ⊢
  have CU : Hid (Calls Tryd.prog 76 #[.string s] w fun e w' => e = .returned (.int .i64 R) ∧ Below w.heap.size w w') := cU
  clear cU hR h0 h1 hT
  go_enter Tryd.func48, Tryd.ntmps48
  go_wp2_with fail
  refine CU.out.mono ?_
  rintro e w1 ⟨rfl, hb⟩
  go_wp2
  go_ret
  exact ⟨rfl, hb⟩
set_option maxHeartbeats 1000000 in
theorem nameRef_any (s : ByteArray) (w : World) :
    Calls Tryd.prog 52 #[.string s] w fun e w' => e = .returned (.int .i64 (nameV s)) ∧ Below w.heap.size w w' := by
  unfold nameV
  by_cases h0 : s.size = 0
  · rw [if_pos (.inl h0)]
    have t5 : s.toList.isEmpty = true := (empty_iff s).2 h0
    clear h0
    go_enter Tryd.func52, Tryd.ntmps52
    go_wp2
    go_ret
    exact ⟨rfl, Below.refl _ _⟩
  have t5 : s.toList.isEmpty = false := full_of s h0
  by_cases h1 : 64 < s.size
  · rw [if_pos (.inr h1)]
    have hl : (64 : Int) < (s.size : Int) := by omega
    clear h0
    go_enter Tryd.func52, Tryd.ntmps52
    go_wp2
    go_ret
    exact ⟨rfl, Below.refl _ _⟩
  rw [if_neg (by omega)]
  have hl : ¬ (64 : Int) < (s.size : Int) := by omega
  have cU := utf_any s w (by omega)
  obtain ⟨T, hR⟩ : ∃ R, Lib.validD s.data.toList = R := ⟨_, rfl⟩
  rw [hR] at cU ⊢
  have CU : Hid (Calls Tryd.prog 80 #[.string s] w fun e w' => e = .returned (.bool T) ∧ Below w.heap.size w w') := cU
  clear cU hR h0 h1
  cases T
  all_goals
    go_enter Tryd.func52, Tryd.ntmps52
    go_wp2_with fail
    refine CU.out.mono ?_
    rintro e w1 ⟨rfl, hb⟩
    go_wp2
    go_ret
    exact ⟨rfl, hb⟩
set_option maxHeartbeats 1000000 in
theorem checkRef_long (s : ByteArray) (w : World) (hl : 256 < s.size) :
    Calls Tryd.prog 81 #[.agg #[.int .u8 3, .bool false, .int .i64 0, .string s]] w fun e w' => e = .returned (.int .i64 4) ∧ Below w.heap.size w w' := by
  have hl' : (256 : Int) < (s.size : Int) := by omega
  clear hl
  go_enter Tryd.func81, Tryd.ntmps81
  go_wp2
  go_ret
  exact ⟨rfl, (Below.refl _ _).alloc (Nat.le_refl _) _⟩
/-- The reference's Check, of any value. -/
theorem checkRef_all (v : Val) (w : World) :
    Calls Tryd.prog 81 #[v.agg] w fun e w' => e = .returned (.int .i64 (chkV v)) ∧ Below w.heap.size w w' := by
  obtain ⟨k, b, n, s⟩ := v
  by_cases hs : s.size ≤ 1048576
  · exact checkRef_any k b n s w hs
  by_cases h : 4 ≤ k ∨ (k ≠ 1 ∧ b = true) ∨ (k ≠ 2 ∧ n ≠ 0) ∨ (k ≠ 3 ∧ s.size ≠ 0)
  · rw [chk_typ k b n s h]
    exact checkRef_typ k b n s w h
  · have e3 : k = 3 := by
      by_cases e : k = 3
      · exact e
      · exact absurd (.inr (.inr (.inr ⟨e, by omega⟩))) h
    subst e3
    have hb : b = false := by
      cases b with
      | false => rfl
      | true => exact absurd (.inr (.inl ⟨by decide, rfl⟩)) h
    have hn : n = 0 := by
      by_cases e : n = 0
      · exact e
      · exact absurd (.inr (.inr (.inl ⟨by decide, e⟩))) h
    subst hb hn
    rw [chk_fit 3 false 0 s (by decide) (.inr rfl) (.inr rfl) (.inl rfl), if_pos (by omega)]
    exact checkRef_long s w (by omega)
end Go.Proofs.YthfoijnjgdeaaaaDoor
/- What the columns' checks answer, in the program and in the reference. -/
namespace Go.Proofs.YthfoijnjgdeaaaaDoor
open Go.RowKit Go.Lib
set_option linter.unusedVariables false
attribute [local go_sem ↓] Go.wp_at_zero Go.wp_at_succ
/-- A column's name and kind. -/
structure Col where
  name : ByteArray
  k : Int
/-- The cells of columns. -/
def ColsIs (w : World) (blk off : Nat) (cs : List Col) : Prop :=
  ∀ (j : Nat) (h : j < cs.length), w.cell? ⟨blk, off + j * 2, none⟩ = some (.string cs[j].name) ∧ w.cell? ⟨blk, off + j * 2 + 1, none⟩ = some (.int .u8 cs[j].k)
/-- Whether a name is there. -/
def twice (s : ByteArray) (bs : List Col) : Bool := bs.any fun b => b.name.toList == s.toList
/-- Why a column is none, behind others. -/
def colV (c : Col) (bs : List Col) : Int := if nameV c.name = 0 then (if twice c.name bs then 15 else if 1 ≤ c.k ∧ c.k ≤ 3 then 0 else 5) else nameV c.name
theorem twice_drop (s : ByteArray) (bs : List Col) (j : Nat) (h : j < bs.length) : twice s (bs.drop j) = (bs[j].name.toList == s.toList || twice s (bs.drop (j + 1))) := by
  rw [List.drop_eq_getElem_cons h]
  rfl
set_option maxRecDepth 100000 in
set_option maxHeartbeats 4000000 in
theorem checkCol_core (b o cap : Nat) (bs : List Col) (s : ByteArray) (k : Int) (w : World) (h : ColsIs w b o bs) (hb : b < w.heap.size) (hl : bs.length ≤ 9223372036854775807) (hs : s.size ≤ 9223372036854775807) (hT : Lib.Utf8Tabs 0 1 w)
    (R : Int) (HR : Hid (colV ⟨s, k⟩ bs = R)) :
    Calls Tryd.prog 77 #[.agg #[.string s, .int .u8 k], .slice (some ⟨b, o, none⟩) bs.length cap] w fun e w' => e = .returned (.int .i64 R) ∧ Below w.heap.size w w' := by
  have CN : Hid (∀ W, Below w.heap.size w W → Calls Tryd.prog 48 #[.string s] W fun e w' => e = .returned (.int .i64 (nameV s)) ∧ Below W.heap.size W w') := fun W h => checkName_any s W hs (Utf8Tabs_below hT h)
  have HC : Hid (ColsIs w b o bs) := h
  clear h hT hs
  go_enter Tryd.func77, Tryd.ntmps77
  go_wp2_with fail
  refine (CN.out _ ((Below.refl _ _).alloc (Nat.le_refl _) _)).mono ?_
  rintro e w1 ⟨rfl, hb1⟩
  have z0 : w1.cell? ⟨w.heap.size, 0, none⟩ = some (.string s) := by rw [hb1.cell (by simp)]; simp
  have z1 : w1.cell? ⟨w.heap.size, 1, none⟩ = some (.int .u8 k) := by rw [hb1.cell (by simp)]; simp
  have hs1 : w.heap.size + 1 ≤ w1.heap.size := by have := hb1.size; simpa using this
  have hbw1 : Below w.heap.size w w1 := ((Below.refl _ _).alloc (Nat.le_refl _) _).trans (hb1.mono (by simp))
  have HB1 : Hid (Below w.heap.size w w1) := hbw1
  clear hb1 CN hbw1
  obtain ⟨nv, hnv⟩ : ∃ x, nameV s = x := ⟨_, rfl⟩
  have hR0 := HR.out
  unfold colV at hR0
  simp only [hnv] at hR0
  rw [hnv]
  clear hnv HR
  by_cases hn : nv = 0
  · subst hn
    rw [if_pos rfl] at hR0
    have HR2 : Hid ((if twice s bs = true then 15 else if 1 ≤ k ∧ k ≤ 3 then 0 else 5) = R) := hR0
    clear hR0
    go_wp2
    go_loopg [16] bs.length (fun gf s16 wx => ∃ j : Nat, s16 = .int .i64 j ∧ j ≤ bs.length ∧ Below w1.heap.size w1 wx ∧ Hid (twice s (bs.drop j) = twice s bs) ∧ bs.length ≤ j + gf)
    case atStart => exact ⟨0, rfl, by omega, Below.refl _ _, (by show _ = _; rfl), by omega⟩
    case round =>
      obtain ⟨j, rfl, hjl, hbw, HD, hgf⟩ := hrel
      have hsr := hbw.size
      by_cases hlt : j < bs.length
      · obtain ⟨g', rfl⟩ : ∃ g', gk = g' + 1 := ⟨gk - 1, by omega⟩
        have hz0 : (0 : Int) ≤ (j : Int) := by omega
        have hz1 : (j : Int) < (bs.length : Int) := by omega
        obtain ⟨y0, y1⟩ := HC.out j hlt
        have hww : Below w.heap.size w wr := HB1.out.trans (hbw.mono HB1.out.size)
        rw [← hww.cell (p := ⟨b, _, none⟩) hb] at y0 y1
        have hbr : b < wr.heap.size := Nat.lt_of_lt_of_le hb hww.size
        have hd := HD.out
        rw [twice_drop s bs j hlt] at hd
        obtain ⟨⟨bn, bk⟩, hbj⟩ : ∃ x, bs[j] = x := ⟨_, rfl⟩
        rw [hbj] at y0 y1 hd
        simp only at y0 y1 hd
        have x0 : wr.cell? ⟨w.heap.size, 0, none⟩ = some (.string s) := by rw [hbw.cell (by simp; omega)]; exact z0
        have x1 : wr.cell? ⟨w.heap.size, 1, none⟩ = some (.int .u8 k) := by rw [hbw.cell (by simp; omega)]; exact z1
        have hlt2 : w.heap.size < wr.heap.size := by omega
        clear hbj HD hww
        cases hq : bn.toList == s.toList with
        | true =>
          rw [hq, Bool.true_or] at hd
          have hR : R = 15 := by rw [← HR2.out, ← hd]; rfl
          subst hR
          clear HR2 hd HC
          go_wp2
          go_ret
          exact ⟨rfl, (HB1.out.trans (hbw.mono HB1.out.size)).alloc (by omega) _⟩
        | false =>
          rw [hq, Bool.false_or] at hd
          have HD2 : Hid (twice s (bs.drop (j + 1)) = twice s bs) := hd
          clear hd
          go_wp2
          go_roundg g'
          case measure => omega
          case rel => exact ⟨j + 1, by go_num, by omega, hbw.alloc hsr _, HD2, by omega⟩
      · have hlt' : ¬ (j : Int) < (bs.length : Int) := by omega
        have hf : twice s bs = false := by rw [← HD.out, List.drop_of_length_le (by omega)]; rfl
        have hR1 := HR2.out
        rw [hf, if_neg (by simp)] at hR1
        have x1 : wr.cell? ⟨w.heap.size, 1, none⟩ = some (.int .u8 k) := by rw [hbw.cell (by simp; omega)]; exact z1
        have hlt2 : w.heap.size < wr.heap.size := by omega
        have HF : Hid (Below w.heap.size w wr) := HB1.out.trans (hbw.mono HB1.out.size)
        clear HD hf HR2 HC
        by_cases k1 : k = 1
        · subst k1
          rw [if_pos (by omega)] at hR1
          subst hR1
          go_wp2
          go_ret
          exact ⟨rfl, HF.out⟩
        have t1 : (k == 1) = false := beq_eq_false_iff_ne.2 k1
        by_cases k2 : k = 2
        · subst k2
          rw [if_pos (by omega)] at hR1
          subst hR1
          go_wp2
          go_ret
          exact ⟨rfl, HF.out⟩
        have t2 : (k == 2) = false := beq_eq_false_iff_ne.2 k2
        by_cases k3 : k = 3
        · subst k3
          rw [if_pos (by omega)] at hR1
          subst hR1
          go_wp2
          go_ret
          exact ⟨rfl, HF.out⟩
        have t3 : (k == 3) = false := beq_eq_false_iff_ne.2 k3
        rw [if_neg (by omega)] at hR1
        subst hR1
        clear k1 k2 k3
        go_wp2
        go_ret
        exact ⟨rfl, HF.out⟩
  · rw [if_neg hn] at hR0
    subst hR0
    have t0 : (nv != 0) = true := bne_iff_ne.2 hn
    clear hn HC
    go_wp2
    go_ret
    exact ⟨rfl, HB1.out⟩
theorem checkCol_any (b o cap : Nat) (bs : List Col) (s : ByteArray) (k : Int) (w : World) (h : ColsIs w b o bs) (hb : b < w.heap.size) (hl : bs.length ≤ 9223372036854775807) (hs : s.size ≤ 9223372036854775807) (hT : Lib.Utf8Tabs 0 1 w) :
    Calls Tryd.prog 77 #[.agg #[.string s, .int .u8 k], .slice (some ⟨b, o, none⟩) bs.length cap] w fun e w' => e = .returned (.int .i64 (colV ⟨s, k⟩ bs)) ∧ Below w.heap.size w w' :=
  checkCol_core b o cap bs s k w h hb hl hs hT _ (by show _ = _; rfl)
end Go.Proofs.YthfoijnjgdeaaaaDoor

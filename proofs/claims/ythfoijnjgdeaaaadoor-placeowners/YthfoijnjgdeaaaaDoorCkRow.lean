/- What CheckRow answers of a row and its columns. -/
import Derived.Test.YthfoijnjgdeaaaaDoorRow
import Derived.Test.YthfoijnjgdeaaaaDoorChkB
import Derived.Test.YthfoijnjgdeaaaaDoorLives
import Derived.Shelf.RegionOpenPlain
namespace Go.Proofs.YthfoijnjgdeaaaaDoor
open Go.RowKit Go.Lib Go.Sort
set_option linter.unusedVariables false
attribute [local go_sem ↓] Go.wp_at_zero Go.wp_at_succ

/-- The cells of columns' kinds. -/
def ColIs (w : World) (blk off : Nat) (ks : List Int) : Prop :=
  ∀ (j : Nat) (h : j < ks.length), w.cell? ⟨blk, off + j * 2 + 1, none⟩ = some (.int .u8 ks[j])
/-- Why a row is not one of columns of these kinds. -/
def chkRow : List Val → List Int → Int
  | x :: xs, k :: ks => if chkV x = 0 then (if x.k ≠ 0 ∧ x.k ≠ k then 5 else chkRow xs ks) else chkV x
  | _, _ => 0
theorem chkRow_at (xs : List Val) (ks : List Int) (k : Nat) (hx : k < xs.length) (hy : k < ks.length) :
    chkRow (xs.drop k) (ks.drop k) = if chkV xs[k] = 0 then (if xs[k].k ≠ 0 ∧ xs[k].k ≠ ks[k] then 5 else chkRow (xs.drop (k + 1)) (ks.drop (k + 1))) else chkV xs[k] := by
  rw [List.drop_eq_getElem_cons hx, List.drop_eq_getElem_cons hy]; rfl

theorem cell_own (W : World) (vs : Array Value) (t : TypeId) (i : Nat) (v : Value) (h : vs[i]? = some v) : (W.alloc (.cells vs t)).cell? ⟨W.heap.size, i, none⟩ = some v := by
  have : (W.alloc (.cells vs t)).heap[W.heap.size]? = some (.cells vs t) := by simp only [push_at]; simp
  unfold World.cell?
  rw [this]
  exact h
theorem checkRow_many (p q : Option Addr) (n m c1 c2 : Nat) (w : World) (h : n ≠ m) (hn : n ≤ 9223372036854775807) (hm : m ≤ 9223372036854775807) :
    Calls Tryd.prog 50 #[.slice p n c1, .slice q m c2] w fun e w' => e = .returned (.int .i64 3) ∧ w' = w := by
  have hz : ((n : Int) != (m : Int)) = true := bne_iff_ne.2 (by omega)
  clear h
  go_enter Tryd.func50, Tryd.ntmps50
  go_wp2
  go_ret
  exact ⟨rfl, rfl⟩
theorem checkRow_zero (p q : Option Addr) (c1 c2 : Nat) (w : World) :
    Calls Tryd.prog 50 #[.slice p 0 c1, .slice q 0 c2] w fun e w' => e = .returned (.int .i64 0) ∧ w' = w := by
  go_enter Tryd.func50, Tryd.ntmps50
  go_wp2
  refine wp_loop_rounds 1 ?_
  rw [rounds_succ]
  go_wp2
  go_ret
  exact ⟨rfl, rfl⟩
set_option maxHeartbeats 4000000 in
theorem checkRow_some (b1 o1 c1 b2 o2 c2 : Nat) (xs : List Val) (ks : List Int) (w : World) (hl : ks.length = xs.length) (hx : RowIs w b1 o1 xs) (hy : ColIs w b2 o2 ks) (hlx : xs.length ≤ 9223372036854775807)
    (hb1 : b1 < w.heap.size) (hb2 : b2 < w.heap.size) (hs : ∀ x ∈ xs, x.s.size ≤ 9223372036854775807) (hT : Lib.Utf8Tabs 0 1 w) :
    Calls Tryd.prog 50 #[.slice (some ⟨b1, o1, none⟩) xs.length c1, .slice (some ⟨b2, o2, none⟩) xs.length c2] w fun e w' => e = .returned (.int .i64 (chkRow xs ks)) ∧ Below w.heap.size w w' := by
  have HT : Hid (Lib.Utf8Tabs 0 1 w) := hT
  have HL : Hid (ks.length = xs.length) := hl
  clear hT hl
  go_enter Tryd.func50, Tryd.ntmps50
  go_wp2
  go_loopg [15] xs.length (fun gf s15 wx => ∃ k : Nat, s15 = .int .i64 k ∧ k ≤ xs.length ∧ Below w.heap.size w wx ∧ chkRow (xs.drop k) (ks.drop k) = chkRow xs ks ∧ xs.length ≤ k + gf)
  case atStart => exact ⟨0, rfl, Nat.zero_le _, Below.refl _ _, rfl, by omega⟩
  case round =>
    obtain ⟨k, rfl, hkx, hqw, hleft, hfu⟩ := hrel
    by_cases hlt : k < xs.length
    · obtain ⟨g', rfl⟩ : ∃ g', gk = g' + 1 := ⟨gk - 1, by omega⟩
      have hz0 : (0 : Int) ≤ (k : Int) := by omega
      have hz1 : (k : Int) < (xs.length : Int) := by omega
      obtain ⟨x0, x1, x2, x3⟩ := hx k hlt
      have y0 := hy k (by rw [HL.out]; exact hlt)
      rw [← hqw.cell (p := ⟨b1, _, none⟩) hb1] at x0 x1 x2 x3
      rw [← hqw.cell (p := ⟨b2, _, none⟩) hb2] at y0
      have hB1 : b1 < wr.heap.size := Nat.lt_of_lt_of_le hb1 hqw.size
      have hB2 : b2 < wr.heap.size := Nat.lt_of_lt_of_le hb2 hqw.size
      have hat := chkRow_at xs ks k hlt (by rw [HL.out]; exact hlt)
      rw [hleft] at hat
      have cG := fun W h => check_any xs[k] W (hs _ (List.getElem_mem hlt)) (Utf8Tabs_below HT.out h)
      obtain ⟨⟨xk, xb, xn, xsx⟩, hxv⟩ : ∃ v, xs[k] = v := ⟨_, rfl⟩
      obtain ⟨ck, hck⟩ : ∃ v, ks[k]'(by rw [HL.out]; exact hlt) = v := ⟨_, rfl⟩
      rw [hxv] at cG hat x0 x1 x2 x3
      rw [hck] at hat y0
      simp only [Val.agg] at cG x0 x1 x2 x3
      obtain ⟨c, hc⟩ : ∃ c, chkV ⟨xk, xb, xn, xsx⟩ = c := ⟨_, rfl⟩
      rw [hc] at cG hat
      have CG : Hid (∀ W, Below w.heap.size w W → Calls Tryd.prog 78 #[.agg #[.int .u8 xk, .bool xb, .int .i64 xn, .string xsx]] W fun e w' => e = .returned (.int .i64 c) ∧ Below W.heap.size W w') := cG
      have HA : Hid (chkRow xs ks = if c = 0 then (if xk ≠ 0 ∧ xk ≠ ck then 5 else chkRow (xs.drop (k + 1)) (ks.drop (k + 1))) else c) := hat
      have HW : Hid (Below w.heap.size w wr) := hqw
      clear cG hc hxv hck hat hleft hqw hx hy hs
      go_wp2_with fail
      refine (CG.out _ (HW.out.alloc HW.out.size _)).mono ?_
      rintro e w1 ⟨rfl, hb⟩
      have z0 : w1.cell? ⟨wr.heap.size, 0, none⟩ = some (.int .u8 xk) := by rw [hb.cell (by simp)]; exact cell_own wr _ _ _ _ rfl
      have y1 : w1.cell? ⟨b2, o2 + k * 2 + 1, none⟩ = some (.int .u8 ck) := by
        rw [hb.cell (by simp; omega), ((Below.refl _ wr).alloc (Nat.le_refl _) _).cell (by simpa using hB2)]; exact y0
      have HK : Hid (Below w.heap.size w w1) := (HW.out.alloc HW.out.size _).trans (hb.mono (by have := HW.out.size; simp; omega))
      clear hb HW x0 x1 x2 x3 y0
      by_cases h0 : c = 0
      · subst h0
        by_cases hk0 : xk = 0
        · subst hk0
          go_wp2
          go_quiet (fail)
          go_wp2
          go_roundg g'
          case measure => omega
          case rel => exact ⟨k + 1, by go_num, hlt, below_drewN HK.out _, by have := HA.out; simpa using this.symm, by omega⟩
        · have hne : (xk != 0) = true := bne_iff_ne.2 hk0
          by_cases hkc : xk = ck
          · subst hkc
            have hnn : (xk != xk) = false := by simp
            go_wp2
            go_quiet (fail)
            go_wp2
            go_roundg g'
            case measure => omega
            case rel => exact ⟨k + 1, by go_num, hlt, below_drewN HK.out _, by have := HA.out; simpa using this.symm, by omega⟩
          · have hnn : (xk != ck) = true := bne_iff_ne.2 hkc
            go_wp2
            go_quiet (fail)
            go_wp2
            go_ret
            exact ⟨retI (by have := HA.out; simp [hk0, hkc] at this; exact this.symm), below_drewN HK.out _⟩
      · have hb' : (c != 0) = true := bne_iff_ne.2 h0
        go_wp2
        go_ret
        exact ⟨retI (by have := HA.out; rw [if_neg h0] at this; exact this.symm), HK.out⟩
    · have hm : ¬ (k : Int) < (xs.length : Int) := by omega
      have hz : chkRow xs ks = 0 := by
        rw [← hleft, List.drop_of_length_le (by omega)]; rfl
      have HZ : Hid (chkRow xs ks = 0) := hz
      clear hx hy hleft hz
      go_wp2
      go_ret
      exact ⟨retI HZ.out.symm, hqw⟩
end Go.Proofs.YthfoijnjgdeaaaaDoor

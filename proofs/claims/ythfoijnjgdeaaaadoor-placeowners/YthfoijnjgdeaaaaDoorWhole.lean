/- What cmp.Or and compareWhole answer: values told apart by all of their fields. -/
import Derived.Test.YthfoijnjgdeaaaaDoorChk
import Derived.Sort.Grow
namespace Go.Proofs.YthfoijnjgdeaaaaDoor
open Go.RowKit Go.Lib
set_option linter.unusedVariables false
attribute [local go_sem ↓] Go.wp_at_zero Go.wp_at_succ

/-- The first number that is not nought. -/
def firstNZ : List Int → Int
  | [] => 0
  | x :: xs => if x = 0 then firstNZ xs else x
theorem firstNZ_drop (zs : List Int) (k : Nat) (h : k < zs.length) : firstNZ (zs.drop k) = if zs.getD k 0 = 0 then firstNZ (zs.drop (k + 1)) else zs.getD k 0 := by
  rw [List.drop_eq_getElem_cons h]
  simp [firstNZ, h]

set_option maxHeartbeats 400000 in
theorem or_any (blk off cap : Nat) (zs : List Int) (w : World) (hl : zs.length ≤ 1000) (hc : ∀ j, j < zs.length → w.cell? ⟨blk, off + j, none⟩ = some (.int .i64 (zs.getD j 0))) :
    Calls Tryd.prog 90 #[.slice (some ⟨blk, off, none⟩) zs.length cap] w fun e w' => e = .returned (.int .i64 (firstNZ zs)) ∧ w' = w := by
  go_enter Tryd.func90, Tryd.ntmps90
  go_wp2
  go_loop [8] (fun i => ∃ k : Nat, k ≤ zs.length ∧ i = .int .i64 k ∧ firstNZ (zs.drop k) = firstNZ zs) (fun i => zs.length - (RowKit.intOf i).toNat)
  case atStart => exact ⟨0, Nat.zero_le _, rfl, rfl⟩
  case round =>
    obtain ⟨k, hk, rfl, hz⟩ := hrel
    by_cases hlt : k < zs.length
    · have hcell := hc k hlt
      have hd := firstNZ_drop zs k hlt
      rw [hz] at hd
      obtain ⟨x, hx⟩ : ∃ x, zs.getD k 0 = x := ⟨_, rfl⟩
      rw [hx] at hcell hd
      clear hx hc hz
      by_cases h0 : x = 0
      · subst h0
        have hd' : firstNZ zs = firstNZ (zs.drop (k + 1)) := by simpa using hd
        have HD : Hid (firstNZ zs = firstNZ (zs.drop (k + 1))) := hd'
        clear hd hd'
        go_wp2
        go_round
        case rel => exact ⟨k + 1, by omega, by go_num, HD.out.symm⟩
        case measure => simp [RowKit.intOf]; omega
      · have hb : (x != 0) = true := bne_iff_ne.2 h0
        have hd' : firstNZ zs = x := by simpa [h0] using hd
        have HD : Hid (firstNZ zs = x) := hd'
        clear hd hd'
        go_wp2
        go_ret
        exact ⟨retI HD.out.symm, rfl⟩
    · have HD : Hid (firstNZ zs = 0) := by
        rw [List.drop_of_length_le (by omega)] at hz
        exact hz.symm
      clear hz hc
      go_wp2
      go_ret
      exact ⟨retI HD.out.symm, rfl⟩

theorem two_grow (w : World) (o1 o2 : Obj) : (w.alloc o1).alloc o2 = Go.Sort.grow (w.drewN 0) #[o1, o2] := by
  rw [Go.Sort.alloc_eq_grow, Go.Sort.alloc_eq_grow, Go.Sort.grow_grow]
  rfl
theorem three_grow (w : World) (o1 o2 o3 : Obj) : (((w.alloc o1).alloc o2).alloc o3).drew = Go.Sort.grow (w.drewN 1) #[o1, o2, o3] := by
  rw [Go.Sort.alloc_eq_grow, Go.Sort.alloc_eq_grow, Go.Sort.alloc_eq_grow, Go.Sort.grow_grow, Go.Sort.grow_grow]
  rfl
theorem or_cells (X : World) (t : TypeId) (B : Nat) (hB : X.heap.size = B) (x0 x1 x2 x3 : Int) : ∀ j, j < [x0, x1, x2, x3].length → (X.alloc (.cells #[.int .i64 x0, .int .i64 x1, .int .i64 x2, .int .i64 x3] t)).drew.cell? ⟨B, 0 + j, none⟩ = some (.int .i64 ([x0, x1, x2, x3].getD j 0)) := by
  subst hB
  intro j hj
  match j, hj with
  | 0, _ => simp
  | 1, _ => simp
  | 2, _ => simp
  | 3, _ => simp

/-- The order by all fields. -/
def cmpW (x y : Val) : Int := if sameV x y then 0 else firstNZ [cmpI x.k y.k, cmpB x.b y.b, cmpI x.n y.n, Lib.compareBytes x.s.data.toList y.s.data.toList]

set_option maxHeartbeats 1000000 in
theorem whole_core (k k' : Int) (b b' : Bool) (n n' : Int) (s s' : ByteArray) (w : World) :
    Calls Tryd.prog 59 #[.agg #[.int .u8 k, .bool b, .int .i64 n, .string s], .agg #[.int .u8 k', .bool b', .int .i64 n', .string s']] w
      fun e w' => e = .returned (.int .i64 (cmpW ⟨k, b, n, s⟩ ⟨k', b', n', s'⟩)) ∧ ∃ q os, w' = Go.Sort.grow (w.drewN q) os := by
  have hq := eql_core k k' b b' n n' s s'
  cases ht : sameV ⟨k, b, n, s⟩ ⟨k', b', n', s'⟩
  · rw [ht] at hq
    have hv : cmpW ⟨k, b, n, s⟩ ⟨k', b', n', s'⟩ = firstNZ [cmpI k k', cmpB b b', cmpI n n', Lib.compareBytes s.data.toList s'.data.toList] := by simp [cmpW, ht]
    rw [hv]
    clear hv ht
    have hor := fun blk cap W hc => or_any blk 0 cap [cmpI k k', cmpB b b', cmpI n n', Lib.compareBytes s.data.toList s'.data.toList] W (by simp) hc
    obtain ⟨x0, hx0⟩ : ∃ x, cmpI k k' = x := ⟨_, rfl⟩
    obtain ⟨x1, hx1⟩ : ∃ x, cmpB b b' = x := ⟨_, rfl⟩
    obtain ⟨x2, hx2⟩ : ∃ x, cmpI n n' = x := ⟨_, rfl⟩
    obtain ⟨x3, hx3⟩ : ∃ x, Lib.compareBytes s.data.toList s'.data.toList = x := ⟨_, rfl⟩
    have c0 := cmpKind_any k k'
    have c1 := cmpBool_any b b'
    have c2 := cmpInt64_any n n'
    have c3 := Tryd.strings_Compare s s'
    rw [hx0] at c0 hor; rw [hx1] at c1 hor; rw [hx2] at c2 hor; rw [hx3] at c3 hor
    rw [hx0, hx1, hx2, hx3]
    clear hx0 hx1 hx2 hx3
    obtain ⟨R, hR⟩ : ∃ R, firstNZ [x0, x1, x2, x3] = R := ⟨_, rfl⟩
    rw [hR] at hor ⊢
    have C0 : Hid (∀ w, Calls Tryd.prog 91 #[.int .u8 k, .int .u8 k'] w fun e w' => e = .returned (.int .i64 x0) ∧ w' = w) := c0
    have C1 : Hid (∀ w, Calls Tryd.prog 92 #[.bool b, .bool b'] w fun e w' => e = .returned (.int .i64 x1) ∧ w' = w) := c1
    have C2 : Hid (∀ w, Calls Tryd.prog 93 #[.int .i64 n, .int .i64 n'] w fun e w' => e = .returned (.int .i64 x2) ∧ w' = w) := c2
    have C3 : Hid (∀ w, Calls Tryd.prog 94 #[.string s, .string s'] w fun e w' => e = .returned (.int .i64 x3) ∧ w' = w) := c3
    have HO : Hid (∀ blk cap W, (∀ j, j < [x0, x1, x2, x3].length → World.cell? W ⟨blk, 0 + j, none⟩ = some (.int .i64 ([x0, x1, x2, x3].getD j 0))) → Calls Tryd.prog 90 #[.slice (some ⟨blk, 0, none⟩) [x0, x1, x2, x3].length cap] W fun e w' => e = .returned (.int .i64 R) ∧ w' = W) := hor
    clear c0 c1 c2 c3 hor hR
    go_enter Tryd.func59, Tryd.ntmps59
    go_wp2
    go_region_held3 (fun w' => w'.cell? ⟨w.heap.size, 0, none⟩ = some (.int .u8 k) ∧ w'.cell? ⟨w.heap.size, 1, none⟩ = some (.bool b) ∧ w'.cell? ⟨w.heap.size, 2, none⟩ = some (.int .i64 n) ∧ w'.cell? ⟨w.heap.size, 3, none⟩ = some (.string s)
        ∧ w'.cell? ⟨w.heap.size + 1, 0, none⟩ = some (.int .u8 k') ∧ w'.cell? ⟨w.heap.size + 1, 1, none⟩ = some (.bool b') ∧ w'.cell? ⟨w.heap.size + 1, 2, none⟩ = some (.int .i64 n') ∧ w'.cell? ⟨w.heap.size + 1, 3, none⟩ = some (.string s')) (go_keep)
      ((first
        | (go_at_call 91; refine (C0.out _).mono ?_; rintro e w1 ⟨rfl, rfl⟩)
        | (go_at_call 92; refine (C1.out _).mono ?_; rintro e w1 ⟨rfl, rfl⟩)
        | (go_at_call 93; refine (C2.out _).mono ?_; rintro e w1 ⟨rfl, rfl⟩)
        | (go_at_call 94; refine (C3.out _).mono ?_; rintro e w1 ⟨rfl, rfl⟩)
        | (go_at_call 90; refine (HO.out _ _ _ (or_cells _ _ _ (by simp) x0 x1 x2 x3)).mono ?_; rintro e w1 ⟨rfl, rfl⟩)))
    go_wp2
    go_ret
    exact ⟨rfl, 1, _, three_grow _ _ _ _⟩
  · rw [ht] at hq
    have hv : cmpW ⟨k, b, n, s⟩ ⟨k', b', n', s'⟩ = 0 := by simp [cmpW, ht]
    rw [hv]
    clear hv ht
    go_enter Tryd.func59, Tryd.ntmps59
    go_wp2
    go_ret
    exact ⟨rfl, 0, _, two_grow _ _ _⟩
theorem whole_cmp (x y : Val) (w : World) :
    Calls Tryd.prog 59 #[x.agg, y.agg] w fun e w' => e = .returned (.int .i64 (cmpW x y)) ∧ ∃ q os, w' = Go.Sort.grow (w.drewN q) os :=
  whole_core _ _ _ _ _ _ _ _ _
end Go.Proofs.YthfoijnjgdeaaaaDoor

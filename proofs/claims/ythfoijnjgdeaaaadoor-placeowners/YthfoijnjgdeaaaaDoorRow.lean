/- What compareLists answers of two rows: value by value, the first two that are unlike tell, else the shorter one is below. -/
import Derived.Test.YthfoijnjgdeaaaaDoorWhole
import Derived.Shelf.RegionOpenPlain
namespace Go.Proofs.YthfoijnjgdeaaaaDoor
open Go.RowKit Go.Lib
set_option linter.unusedVariables false
attribute [local go_sem ↓] Go.wp_at_zero Go.wp_at_succ

/-- Two lists in order, by an order of their items. -/
def lexBy {α : Type} (cf : α → α → Int) : List α → List α → Int
  | [], [] => 0
  | [], _ :: _ => -1
  | _ :: _, [] => 1
  | x :: xs, y :: ys => if cf x y = 0 then lexBy cf xs ys else cf x y

/-- The cells of a row's values. -/
def RowIs (w : World) (blk off : Nat) (vs : List Val) : Prop :=
  ∀ (j : Nat) (h : j < vs.length), w.cell? ⟨blk, off + j * 4, none⟩ = some (.int .u8 vs[j].k) ∧ w.cell? ⟨blk, off + j * 4 + 1, none⟩ = some (.bool vs[j].b) ∧ w.cell? ⟨blk, off + j * 4 + 2, none⟩ = some (.int .i64 vs[j].n) ∧ w.cell? ⟨blk, off + j * 4 + 3, none⟩ = some (.string vs[j].s)

/-- What a callee may do to the world. -/
structure Mild (Q : World → World → Prop) : Prop where
  refl : ∀ w, Q w w
  trans : ∀ a b c, Q a b → Q b c → Q a c
  drewN : ∀ w n, Q w (w.drewN n)
  below : ∀ a b, Q a b → Below a.heap.size a b

theorem lexBy_at {α : Type} (cf : α → α → Int) (xs ys : List α) (k : Nat) (hx : k < xs.length) (hy : k < ys.length) :
    lexBy cf (xs.drop k) (ys.drop k) = if cf xs[k] ys[k] = 0 then lexBy cf (xs.drop (k + 1)) (ys.drop (k + 1)) else cf xs[k] ys[k] := by
  rw [List.drop_eq_getElem_cons hx, List.drop_eq_getElem_cons hy]; rfl
theorem lexBy_end {α : Type} (cf : α → α → Int) (xs ys : List α) (k : Nat) (h : ¬ (k < xs.length ∧ k < ys.length)) (h1 : k ≤ xs.length) (h2 : k ≤ ys.length) :
    lexBy cf (xs.drop k) (ys.drop k) = cmpI (xs.length : Int) (ys.length : Int) := by
  unfold cmpI
  rcases Nat.lt_trichotomy xs.length ys.length with h3 | h3 | h3
  · have e : xs.drop k = [] := List.drop_of_length_le (by omega)
    rw [e, List.drop_eq_getElem_cons (by omega), if_pos (by omega)]; rfl
  · have e : xs.drop k = [] := List.drop_of_length_le (by omega)
    have e' : ys.drop k = [] := List.drop_of_length_le (by omega)
    rw [e, e', if_neg (by omega), if_neg (by omega)]; rfl
  · have e : ys.drop k = [] := List.drop_of_length_le (by omega)
    rw [e, List.drop_eq_getElem_cons (by omega), if_neg (by omega), if_pos (by omega)]; rfl

set_option maxHeartbeats 1000000 in
theorem lists_some (g : Nat) (cf : Val → Val → Int) (Q : World → World → Prop) (hQ : Mild Q) (b1 o1 c1 b2 o2 c2 : Nat) (xs ys : List Val) (w : World)
    (eg : ∀ args w, (callFunc g args).run Tryd.prog w = .ok (.enter g args) w)
    (hg : ∀ x y W, Q w W → Calls Tryd.prog g #[Val.agg x, Val.agg y] W fun e w' => e = .returned (.int .i64 (cf x y)) ∧ Q W w')
    (hx : RowIs w b1 o1 xs) (hy : RowIs w b2 o2 ys) (hlx : xs.length ≤ 9223372036854775807) (hly : ys.length ≤ 9223372036854775807) (hb1 : b1 < w.heap.size) (hb2 : b2 < w.heap.size) :
    Calls Tryd.prog 58 #[.slice (some ⟨b1, o1, none⟩) xs.length c1, .slice (some ⟨b2, o2, none⟩) ys.length c2, .func (.func g) #[] #[]] w fun e w' => e = .returned (.int .i64 (lexBy cf xs ys)) ∧ Q w w' := by
  have HG : Hid (∀ x y W, Q w W → Calls Tryd.prog g #[Val.agg x, Val.agg y] W fun e w' => e = .returned (.int .i64 (cf x y)) ∧ Q W w') := hg
  clear hg
  go_enter Tryd.func58, Tryd.ntmps58
  go_wp2
  go_loopg [14] xs.length (fun gf s14 wx => ∃ k : Nat, s14 = .int .i64 k ∧ k ≤ xs.length ∧ k ≤ ys.length ∧ Q w wx ∧ lexBy cf (xs.drop k) (ys.drop k) = lexBy cf xs ys ∧ xs.length ≤ k + gf)
  case atStart => exact ⟨0, rfl, Nat.zero_le _, Nat.zero_le _, hQ.refl w, rfl, by omega⟩
  case round =>
    obtain ⟨k, rfl, hkx, hky, hqw, hleft, hfu⟩ := hrel
    by_cases hlt : k < xs.length ∧ k < ys.length
    · obtain ⟨g', rfl⟩ : ∃ g', gk = g' + 1 := ⟨gk - 1, by omega⟩
      have hm : (k : Int) < min (xs.length : Int) (ys.length : Int) := by omega
      have hz0 : (0 : Int) ≤ (k : Int) := by omega
      have hz1 : (k : Int) < (xs.length : Int) := by omega
      have hz2 : (k : Int) < (ys.length : Int) := by omega
      have hbw := hQ.below _ _ hqw
      obtain ⟨x0, x1, x2, x3⟩ := hx k hlt.1
      obtain ⟨y0, y1, y2, y3⟩ := hy k hlt.2
      rw [← hbw.cell (p := ⟨b1, _, none⟩) hb1] at x0 x1 x2 x3
      rw [← hbw.cell (p := ⟨b2, _, none⟩) hb2] at y0 y1 y2 y3
      have hB1 : b1 < wr.heap.size := Nat.lt_of_lt_of_le hb1 hbw.size
      have hB2 : b2 < wr.heap.size := Nat.lt_of_lt_of_le hb2 hbw.size
      have hat := lexBy_at cf xs ys k hlt.1 hlt.2
      rw [hleft] at hat
      have cG := fun W h => HG.out xs[k] ys[k] W h
      obtain ⟨⟨xk, xb, xn, xsx⟩, hxv⟩ : ∃ v, xs[k] = v := ⟨_, rfl⟩
      obtain ⟨⟨yk, yb, yn, ysx⟩, hyv⟩ : ∃ v, ys[k] = v := ⟨_, rfl⟩
      rw [hxv, hyv] at cG hat
      rw [hxv] at x0 x1 x2 x3
      rw [hyv] at y0 y1 y2 y3
      simp only [Val.agg] at cG x0 x1 x2 x3 y0 y1 y2 y3
      obtain ⟨c, hc⟩ : ∃ c, cf ⟨xk, xb, xn, xsx⟩ ⟨yk, yb, yn, ysx⟩ = c := ⟨_, rfl⟩
      rw [hc] at cG hat
      have CG : Hid (∀ W, Q w W → Calls Tryd.prog g #[.agg #[.int .u8 xk, .bool xb, .int .i64 xn, .string xsx], .agg #[.int .u8 yk, .bool yb, .int .i64 yn, .string ysx]] W fun e w' => e = .returned (.int .i64 c) ∧ Q W w') := cG
      have HA : Hid (lexBy cf xs ys = if c = 0 then lexBy cf (xs.drop (k + 1)) (ys.drop (k + 1)) else c) := hat
      have HW : Hid (Q w wr) := hqw
      clear cG hc hxv hyv hat hleft hqw hx hy hbw
      by_cases h0 : c = 0
      · subst h0
        go_wp2
        go_region_held3 (fun w' => w'.cell? ⟨b1, o1 + k * 4, none⟩ = some (.int .u8 xk) ∧ w'.cell? ⟨b1, o1 + k * 4 + 1, none⟩ = some (.bool xb) ∧ w'.cell? ⟨b1, o1 + k * 4 + 2, none⟩ = some (.int .i64 xn) ∧ w'.cell? ⟨b1, o1 + k * 4 + 3, none⟩ = some (.string xsx)
            ∧ w'.cell? ⟨b2, o2 + k * 4, none⟩ = some (.int .u8 yk) ∧ w'.cell? ⟨b2, o2 + k * 4 + 1, none⟩ = some (.bool yb) ∧ w'.cell? ⟨b2, o2 + k * 4 + 2, none⟩ = some (.int .i64 yn) ∧ w'.cell? ⟨b2, o2 + k * 4 + 3, none⟩ = some (.string ysx))
          (first | (go_split_ands; refine ⟨?_, ?_, ?_, ?_, ?_, ?_, ?_, ?_⟩ <;> (rw [(hQ.below _ _ hq1).cell (by first | exact hB1 | exact hB2)]; assumption)) | go_keep)
          ((go_at_fn g; refine (CG.out _ (by exact hQ.trans _ _ _ HW.out (hQ.drewN wr 1))).mono ?_; rintro e w1 ⟨rfl, hq1⟩))
        go_wp2
        go_roundg g'
        case measure => omega
        case rel => exact ⟨k + 1, by go_num, hlt.1, hlt.2, hQ.trans _ _ _ (hQ.trans _ _ _ HW.out (hQ.drewN wr 1)) hq1, by have := HA.out; simpa using this.symm, by omega⟩
      · have hb : (c != 0) = true := bne_iff_ne.2 h0
        go_wp2
        go_region_held3 (fun w' => w'.cell? ⟨b1, o1 + k * 4, none⟩ = some (.int .u8 xk) ∧ w'.cell? ⟨b1, o1 + k * 4 + 1, none⟩ = some (.bool xb) ∧ w'.cell? ⟨b1, o1 + k * 4 + 2, none⟩ = some (.int .i64 xn) ∧ w'.cell? ⟨b1, o1 + k * 4 + 3, none⟩ = some (.string xsx)
            ∧ w'.cell? ⟨b2, o2 + k * 4, none⟩ = some (.int .u8 yk) ∧ w'.cell? ⟨b2, o2 + k * 4 + 1, none⟩ = some (.bool yb) ∧ w'.cell? ⟨b2, o2 + k * 4 + 2, none⟩ = some (.int .i64 yn) ∧ w'.cell? ⟨b2, o2 + k * 4 + 3, none⟩ = some (.string ysx))
          (first | (go_split_ands; refine ⟨?_, ?_, ?_, ?_, ?_, ?_, ?_, ?_⟩ <;> (rw [(hQ.below _ _ hq1).cell (by first | exact hB1 | exact hB2)]; assumption)) | go_keep)
          ((go_at_fn g; refine (CG.out _ (by exact hQ.trans _ _ _ HW.out (hQ.drewN wr 1))).mono ?_; rintro e w1 ⟨rfl, hq1⟩))
        go_wp2
        go_ret
        exact ⟨retI (by have := HA.out; rw [if_neg h0] at this; exact this.symm), hQ.trans _ _ _ (hQ.trans _ _ _ HW.out (hQ.drewN wr 1)) hq1⟩
    · have hm : ¬ (k : Int) < min (xs.length : Int) (ys.length : Int) := by omega
      rw [lexBy_end cf xs ys k hlt hkx hky] at hleft
      have cC := cmpInt_any (xs.length : Int) (ys.length : Int)
      rw [hleft] at cC
      clear hx hy hleft
      go_wp2_with (go_at_call 60; refine (cC _).mono ?_; rintro e w' ⟨rfl, rfl⟩)
      go_ret
      exact ⟨rfl, hqw⟩

set_option maxHeartbeats 1000000 in
theorem lists_zero (g : Nat) (p q : Option Addr) (n m c1 c2 : Nat) (w : World) (h0 : n = 0 ∨ m = 0) (hn : n ≤ 9223372036854775807) (hm : m ≤ 9223372036854775807) :
    Calls Tryd.prog 58 #[.slice p n c1, .slice q m c2, .func (.func g) #[] #[]] w fun e w' => e = .returned (.int .i64 (cmpI n m)) ∧ w' = w := by
  have hz : ¬ (0 : Int) < min (n : Int) (m : Int) := by omega
  have cC := cmpInt_any (n : Int) (m : Int)
  go_enter Tryd.func58, Tryd.ntmps58
  go_wp2
  refine wp_loop_rounds 1 ?_
  rw [rounds_succ]
  go_wp2_with (go_at_call 60; refine (cC _).mono ?_; rintro e w' ⟨rfl, rfl⟩)
  go_ret
  exact ⟨rfl, rfl⟩

/-- A row in memory: no values, wherever; or its values' cells. -/
def RowV (w : World) (v : Value) (vs : List Val) : Prop :=
  vs.length ≤ 9223372036854775807 ∧ ((∃ p cap, v = .slice p 0 cap ∧ vs = []) ∨ ∃ blk off cap, v = .slice (some ⟨blk, off, none⟩) vs.length cap ∧ RowIs w blk off vs ∧ blk < w.heap.size)
theorem RowIs.below {w W : World} {blk off : Nat} {vs : List Val} (h : RowIs w blk off vs) (hb : blk < w.heap.size) (hw : Below w.heap.size w W) : RowIs W blk off vs := by
  intro j hj
  obtain ⟨a, b, c, d⟩ := h j hj
  exact ⟨by rw [hw.cell (p := ⟨blk, _, none⟩) hb]; exact a, by rw [hw.cell (p := ⟨blk, _, none⟩) hb]; exact b, by rw [hw.cell (p := ⟨blk, _, none⟩) hb]; exact c, by rw [hw.cell (p := ⟨blk, _, none⟩) hb]; exact d⟩
theorem RowV.below {w W : World} {v : Value} {vs : List Val} (h : RowV w v vs) (hw : Below w.heap.size w W) : RowV W v vs := by
  obtain ⟨hl, h | ⟨blk, off, cap, rfl, hr, hb⟩⟩ := h
  · exact ⟨hl, .inl h⟩
  · exact ⟨hl, .inr ⟨blk, off, cap, rfl, hr.below hb hw, Nat.lt_of_lt_of_le hb hw.size⟩⟩
theorem lexBy_nil_left {α : Type} (cf : α → α → Int) (ys : List α) : lexBy cf [] ys = cmpI ((([] : List α).length : Nat) : Int) (ys.length : Int) := by
  have := lexBy_end cf [] ys 0 (by simp) (Nat.zero_le _) (Nat.zero_le _)
  simpa using this
theorem lexBy_nil_right {α : Type} (cf : α → α → Int) (xs : List α) : lexBy cf xs [] = cmpI (xs.length : Int) ((([] : List α).length : Nat) : Int) := by
  have := lexBy_end cf xs [] 0 (by simp) (Nat.zero_le _) (Nat.zero_le _)
  simpa using this
theorem lists_any (g : Nat) (cf : Val → Val → Int) (Q : World → World → Prop) (hQ : Mild Q) (v1 v2 : Value) (xs ys : List Val) (w : World)
    (eg : ∀ args w, (callFunc g args).run Tryd.prog w = .ok (.enter g args) w)
    (hg : ∀ x y W, Q w W → Calls Tryd.prog g #[Val.agg x, Val.agg y] W fun e w' => e = .returned (.int .i64 (cf x y)) ∧ Q W w')
    (hx : RowV w v1 xs) (hy : RowV w v2 ys) :
    Calls Tryd.prog 58 #[v1, v2, .func (.func g) #[] #[]] w fun e w' => e = .returned (.int .i64 (lexBy cf xs ys)) ∧ Q w w' := by
  obtain ⟨hlx, ⟨p, cp, rfl, rfl⟩ | ⟨b1, o1, c1, rfl, hx, hb1⟩⟩ := hx
  · obtain ⟨hly, ⟨q, cq, rfl, rfl⟩ | ⟨b2, o2, c2, rfl, hy, hb2⟩⟩ := hy
    · refine (lists_zero g p q 0 0 cp cq w (.inl rfl) (by omega) (by omega)).mono ?_
      rintro e w' ⟨rfl, rfl⟩
      exact ⟨rfl, hQ.refl _⟩
    · refine (lists_zero g p _ 0 ys.length cp c2 w (.inl rfl) (by omega) hly).mono ?_
      rintro e w' ⟨rfl, rfl⟩
      exact ⟨by rw [lexBy_nil_left]; rfl, hQ.refl _⟩
  · obtain ⟨hly, ⟨q, cq, rfl, rfl⟩ | ⟨b2, o2, c2, rfl, hy, hb2⟩⟩ := hy
    · refine (lists_zero g _ q xs.length 0 c1 cq w (.inr rfl) hlx (by omega)).mono ?_
      rintro e w' ⟨rfl, rfl⟩
      exact ⟨by rw [lexBy_nil_right]; rfl, hQ.refl _⟩
    · exact lists_some g cf Q hQ b1 o1 c1 b2 o2 c2 xs ys w eg hg hx hy hlx hly hb1 hb2

/-- What compareWhole may do: draws, and new blocks. -/
def Grew (w w' : World) : Prop := ∃ q os, w' = Go.Sort.grow (w.drewN q) os
theorem Grew.mild : Mild Grew where
  refl w := ⟨0, #[], by simp [Go.Sort.grow, World.drewN]⟩
  trans a b c := by
    rintro ⟨q, os, rfl⟩ ⟨q', os', rfl⟩
    exact ⟨q + q', os ++ os', by
      show Go.Sort.grow ((Go.Sort.grow (a.drewN q) os).drewN q') os' = _
      rw [show (Go.Sort.grow (a.drewN q) os).drewN q' = Go.Sort.grow (a.drewN (q + q')) os by simp only [Go.Sort.grow, World.drewN, Nat.add_assoc], Go.Sort.grow_grow]⟩
  drewN w n := ⟨n, #[], (Go.Sort.grow_empty _).symm⟩
  below a b := by
    rintro ⟨q, os, rfl⟩
    refine ⟨rfl, rfl, rfl, by simp, fun k hk => ?_⟩
    exact Go.Sort.heap_grow_old (a.drewN q) os hk

set_option maxHeartbeats 1000000 in
theorem wholeRows_any (v1 v2 : Value) (xs ys : List Val) (w : World) (hx : RowV w v1 xs) (hy : RowV w v2 ys) :
    Calls Tryd.prog 42 #[v1, v2] w fun e w' => e = .returned (.int .i64 (lexBy cmpW xs ys)) ∧ Grew w w' := by
  have eg : ∀ args w, (callFunc 59 args).run Tryd.prog w = .ok (.enter 59 args) w := enters_of Tryd.func59 (by kernel_rfl) rfl
  have hcon := lists_any 59 cmpW Grew Grew.mild v1 v2 xs ys w eg (fun x y W _ => whole_cmp x y W) hx hy
  clear hx hy eg
  go_enter Tryd.func42, Tryd.ntmps42
  go_wp2_with (go_at_call 58; refine hcon.mono ?_; rintro e w' ⟨rfl, hq⟩)
  go_ret
  exact ⟨rfl, hq⟩
end Go.Proofs.YthfoijnjgdeaaaaDoor

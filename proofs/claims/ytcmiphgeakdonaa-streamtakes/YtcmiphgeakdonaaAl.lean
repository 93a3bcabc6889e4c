/- Batches that are looked for: what IndexFunc and ContainsFunc answer. -/
import Derived.Test.YtcmiphgeakdonaaAk
namespace Go.Proofs.Ytcmiphgeakdonaa
open Go.Shelf Go.RowKit Go.Lib
set_option linter.unusedVariables false
set_option linter.unusedSimpArgs false
attribute [local go_sem ↓] Go.wp_at_zero Go.wp_at_succ
theorem enters58 : ∀ args w, (callFunc 58 args).run Try.prog w = .ok (.enter 58 args) w := enters_of Try.func58 (by kernel_rfl) rfl
theorem enters59 : ∀ args w, (callFunc 59 args).run Try.prog w = .ok (.enter 59 args) w := enters_of Try.func59 (by kernel_rfl) rfl
theorem enters62 : ∀ args w, (callFunc 62 args).run Try.prog w = .ok (.enter 62 args) w := enters_of Try.func62 (by kernel_rfl) rfl
/-- What IndexFunc tells. -/
def IdxP (P : Bat → Bool) (bs : List Bat) (k : Int) : Prop := (∃ i : Nat, k = (i : Int) ∧ i < bs.length ∧ bs.findIdx P = i ∧ bs.any P = true) ∨ (k = -1 ∧ bs.any P = false)
theorem idx_hit {P : Bat → Bool} {bs : List Bat} {i : Nat} (hi : i < bs.length) (hn : (bs.take i).any P = false) (hy : P bs[i] = true) : bs.findIdx P = i ∧ bs.any P = true := by
  refine ⟨?_, List.any_eq_true.2 ⟨_, List.getElem_mem hi, hy⟩⟩
  rw [List.findIdx_eq hi]
  refine ⟨hy, fun j hj => ?_⟩
  have := List.any_eq_false.1 hn (bs[j]'(by omega)) (by rw [List.mem_take_iff_getElem]; exact ⟨j, by omega, rfl⟩)
  simpa using this
set_option maxRecDepth 100000 in
set_option maxHeartbeats 4000000 in
theorem index_any (F : Nat) (cap : Value) (eg : ∀ args w, (callFunc F args).run Try.prog w = .ok (.enter F args) w) (P : Bat → Bool) (v : Value) (bs : List Bat) (K : Nat → Prop) (w : World) (h : ListIs rBat 3 40 K w v bs) (hK : ∀ b, K b → b < w.heap.size)
    (hF : ∀ W, Below w.heap.size w W → ∀ y : Bat, y ∈ bs → ∀ p c, y.s < 18446744073709551616 → Calls Try.prog F #[.agg #[.int .u64 (y.s : Int), .bool y.l, .slice p y.r.length c], cap] W fun e w' => e = .returned (.bool (P y)) ∧ Below W.heap.size W w') :
    Calls Try.prog 61 #[v, .func (.func F) #[] #[cap]] w fun e w' => ∃ k : Int, e = .returned (.int .i64 k) ∧ IdxP P bs k ∧ Below w.heap.size w w' := by
  obtain ⟨q0, c0, rfl, hby, -⟩ := id h
  have H1 : Hid (ListIs rBat 3 40 K w (.slice q0 bs.length c0) bs) := h
  have HKK : Hid (∀ b, K b → b < w.heap.size) := hK
  have HFF := hid hF
  have hx63 : bs.length ≤ 3518437208883 := by omega
  clear h hK hby hF
  go_enter Try.func61, Try.ntmps61
  go_wp2_with fail
  go_loopg [8] bs.length (fun gf s8 wx => ∃ (i : Nat), s8 = .int .i64 i ∧ i ≤ bs.length ∧ bs.length ≤ i + gf ∧ Hid (Below w.heap.size w wx) ∧ Hid ((bs.take i).any P = false))
  case atStart => exact ⟨0, rfl, by omega, by omega, Below.refl _ _, rfl⟩
  case round =>
    obtain ⟨i, rfl, hi1, hgf, HB, HN⟩ := hrel
    by_cases hi : i < bs.length
    · obtain ⟨g', rfl⟩ : ∃ g', gk = g' + 1 := ⟨gk - 1, by omega⟩
      obtain ⟨b, o, p, c, rfl, hKb, e0, e1, e2, hsz, hrr⟩ := bat_at (H1.out.later mBat HKK.out HB.out) i hi
      have hm : bs[i] ∈ bs := List.getElem_mem hi
      have htk : bs.take (i + 1) = bs.take i ++ [bs[i]] := List.take_succ_eq_append_getElem hi
      obtain ⟨y, hy⟩ : ∃ y, bs[i] = y := ⟨_, rfl⟩
      have HY : Hid (bs[i] = y) := hy
      rw [hy] at e0 e1 e2 hm htk hsz hrr
      have CC := hid (HFF.out wr HB.out y hm p c hsz)
      have z0 : (0 : Int) ≤ (i : Int) := by omega
      have z1 : (i : Int) < (bs.length : Int) := by omega
      have HTK : Hid (bs.take (i + 1) = bs.take i ++ [y]) := htk
      clear hy hrr hKb htk hm
      go_wp2_with fail
      refine CC.out.mono ?_
      rintro e w3 ⟨rfl, hb3⟩
      clear CC e0 e1 e2
      have HB3 : Hid (Below w.heap.size w w3) := HB.out.trans (hb3.mono HB.out.size)
      clear hb3
      cases hpy : P y with
      | true =>
        have HA : Hid (bs.findIdx P = i ∧ bs.any P = true) := idx_hit hi HN.out (by rw [HY.out]; exact hpy)
        clear hpy HN
        go_wp2_with fail
        go_ret
        exact ⟨_, rfl, .inl ⟨i, rfl, hi, HA.out⟩, HB3.out⟩
      | false =>
        have HN2 : Hid ((bs.take (i + 1)).any P = false) := by
          show _ = _
          rw [HTK.out, List.any_append, HN.out]
          simp [hpy]
        clear hpy HN
        go_wp2_with fail
        go_roundg g'
        case measure => omega
        case rel => exact ⟨i + 1, by go_num, by omega, by omega, HB3, HN2⟩
    · have z1 : ¬ (i : Int) < (bs.length : Int) := by omega
      have HA : Hid (bs.any P = false) := by
        have := HN.out
        rwa [List.take_of_length_le (by omega)] at this
      clear HN
      go_wp2_with fail
      go_ret
      exact ⟨_, rfl, .inr ⟨rfl, HA.out⟩, HB.out⟩
set_option maxRecDepth 100000 in
set_option maxHeartbeats 4000000 in
theorem contains_any (F : Nat) (cap : Value) (eg : ∀ args w, (callFunc F args).run Try.prog w = .ok (.enter F args) w) (P : Bat → Bool) (v : Value) (bs : List Bat) (K : Nat → Prop) (w : World) (h : ListIs rBat 3 40 K w v bs) (hK : ∀ b, K b → b < w.heap.size)
    (hF : ∀ W, Below w.heap.size w W → ∀ y : Bat, y ∈ bs → ∀ p c, y.s < 18446744073709551616 → Calls Try.prog F #[.agg #[.int .u64 (y.s : Int), .bool y.l, .slice p y.r.length c], cap] W fun e w' => e = .returned (.bool (P y)) ∧ Below W.heap.size W w') :
    Calls Try.prog 60 #[v, .func (.func F) #[] #[cap]] w fun e w' => e = .returned (.bool (bs.any P)) ∧ Below w.heap.size w w' := by
  have CC := hid (index_any F cap eg P v bs K w h hK hF)
  obtain ⟨q0, c0, rfl, -, -⟩ := h
  obtain ⟨r, hr⟩ : ∃ r, bs.any P = r := ⟨_, rfl⟩
  have HR : Hid (bs.any P = r) := hr
  rw [hr]
  clear hK hr hF
  go_enter Try.func60, Try.ntmps60
  go_wp2_with fail
  refine CC.out.mono ?_
  rintro e w1 ⟨k, rfl, hk, hb⟩
  have HB : Hid (Below w.heap.size w w1) := hb
  rcases hk with ⟨i, rfl, _, _, hk⟩ | ⟨rfl, hk⟩
  · have hr : r = true := by rw [← HR.out]; exact hk
    subst hr
    have z : (0 : Int) ≤ (i : Int) := by omega
    clear hb CC hk
    go_wp2_with fail
    go_ret
    exact ⟨by simp [z], HB.out⟩
  · have hr : r = false := by rw [← HR.out]; exact hk
    subst hr
    clear hb CC hk
    go_wp2_with fail
    go_ret
    exact ⟨rfl, HB.out⟩
def isS (n : Nat) (y : Bat) : Bool := decide (y.s = n)
def overS (n : Nat) (l : Bool) (y : Bat) : Bool := (y.l && decide (y.s < n)) || (l && decide (n < y.s))
def gtS (n : Nat) (y : Bat) : Bool := decide (n < y.s)
theorem isIt_any (y : Bat) (p : Option Addr) (c mb n : Nat) (W : World) (hn : W.cell? ⟨mb, 37, none⟩ = some (.int .u64 (n : Int))) (hlt : mb < W.heap.size) (h64 : n < 18446744073709551616) (hy : y.s < 18446744073709551616) :
    Calls Try.prog 58 #[.agg #[.int .u64 (y.s : Int), .bool y.l, .slice p y.r.length c], .pointer (some ⟨mb, 0, none⟩)] W fun e w' => e = .returned (.bool (isS n y)) ∧ Below W.heap.size W w' := by
  obtain ⟨V, hV⟩ : ∃ V, W.alloc (.cells #[.int .u64 (y.s : Int), .bool y.l, .slice p y.r.length c] 91) = V := ⟨_, rfl⟩
  have hB : Below W.heap.size W V := by rw [← hV]; exact (Below.refl _ _).alloc (Nat.le_refl _) _
  have hg : V.heap[W.heap.size]? = some (.cells #[.int .u64 (y.s : Int), .bool y.l, .slice p y.r.length c] 91 (0, 0)) := by rw [← hV]; exact heap_alloc_new W _
  have c0 := cell_of_row (k := 0) (v := .int .u64 (y.s : Int)) hg rfl
  have cn : V.cell? ⟨mb, 37, none⟩ = some (.int .u64 (n : Int)) := (hB.cell (p := ⟨mb, 37, none⟩) hlt).trans hn
  have HB : Hid (Below W.heap.size W V) := hB
  have he : ((y.s : Int) == (n : Int)) = isS n y := by
    unfold isS
    by_cases e : y.s = n
    · rw [decide_eq_true e, e]; simp
    · rw [decide_eq_false e]; exact beq_eq_false_iff_ne.2 (by omega)
  obtain ⟨r, hr⟩ : ∃ r, isS n y = r := ⟨_, rfl⟩
  rw [hr] at he ⊢
  clear hB hg hr hn hlt
  go_enter Try.func58, Try.ntmps58
  go_wp2_with fail
  go_ret
  exact ⟨by first | rfl | simp [he], HB.out⟩
theorem gtS_any (y : Bat) (p : Option Addr) (c mb n : Nat) (W : World) (hn : W.cell? ⟨mb, 0, none⟩ = some (.int .u64 (n : Int))) (hlt : mb < W.heap.size) (h64 : n < 18446744073709551616) (hy : y.s < 18446744073709551616) :
    Calls Try.prog 62 #[.agg #[.int .u64 (y.s : Int), .bool y.l, .slice p y.r.length c], .pointer (some ⟨mb, 0, none⟩)] W fun e w' => e = .returned (.bool (gtS n y)) ∧ Below W.heap.size W w' := by
  obtain ⟨V, hV⟩ : ∃ V, W.alloc (.cells #[.int .u64 (y.s : Int), .bool y.l, .slice p y.r.length c] 91) = V := ⟨_, rfl⟩
  have hB : Below W.heap.size W V := by rw [← hV]; exact (Below.refl _ _).alloc (Nat.le_refl _) _
  have hg : V.heap[W.heap.size]? = some (.cells #[.int .u64 (y.s : Int), .bool y.l, .slice p y.r.length c] 91 (0, 0)) := by rw [← hV]; exact heap_alloc_new W _
  have c0 := cell_of_row (k := 0) (v := .int .u64 (y.s : Int)) hg rfl
  have cn : V.cell? ⟨mb, 0, none⟩ = some (.int .u64 (n : Int)) := (hB.cell (p := ⟨mb, 0, none⟩) hlt).trans hn
  have HB : Hid (Below W.heap.size W V) := hB
  clear hB hg hn hlt
  by_cases e : n < y.s
  · have z : (n : Int) < (y.s : Int) := by omega
    have hr : gtS n y = true := decide_eq_true e
    rw [hr]
    clear hr
    go_enter Try.func62, Try.ntmps62
    go_wp2_with fail
    go_ret
    exact ⟨by first | rfl | simp [z], HB.out⟩
  · have z : ¬ (n : Int) < (y.s : Int) := by omega
    have hr : gtS n y = false := decide_eq_false e
    rw [hr]
    clear hr
    go_enter Try.func62, Try.ntmps62
    go_wp2_with fail
    go_ret
    exact ⟨by first | rfl | simp [z], HB.out⟩
theorem isOver_any (y : Bat) (p : Option Addr) (c mb n : Nat) (l : Bool) (W : World) (hn : W.cell? ⟨mb, 37, none⟩ = some (.int .u64 (n : Int))) (hl : W.cell? ⟨mb, 38, none⟩ = some (.bool l)) (hlt : mb < W.heap.size) (h64 : n < 18446744073709551616) (hy : y.s < 18446744073709551616) :
    Calls Try.prog 59 #[.agg #[.int .u64 (y.s : Int), .bool y.l, .slice p y.r.length c], .pointer (some ⟨mb, 0, none⟩)] W fun e w' => e = .returned (.bool (overS n l y)) ∧ Below W.heap.size W w' := by
  obtain ⟨V, hV⟩ : ∃ V, W.alloc (.cells #[.int .u64 (y.s : Int), .bool y.l, .slice p y.r.length c] 91) = V := ⟨_, rfl⟩
  have hB : Below W.heap.size W V := by rw [← hV]; exact (Below.refl _ _).alloc (Nat.le_refl _) _
  have hg : V.heap[W.heap.size]? = some (.cells #[.int .u64 (y.s : Int), .bool y.l, .slice p y.r.length c] 91 (0, 0)) := by rw [← hV]; exact heap_alloc_new W _
  have c0 := cell_of_row (k := 0) (v := .int .u64 (y.s : Int)) hg rfl
  have c1 := cell_of_row (k := 1) (v := .bool y.l) hg rfl
  have cn : V.cell? ⟨mb, 37, none⟩ = some (.int .u64 (n : Int)) := (hB.cell (p := ⟨mb, 37, none⟩) hlt).trans hn
  have cl : V.cell? ⟨mb, 38, none⟩ = some (.bool l) := (hB.cell (p := ⟨mb, 38, none⟩) hlt).trans hl
  have HB : Hid (Below W.heap.size W V) := hB
  clear hB hg hn hlt hl
  obtain ⟨s, yl, rr⟩ := y
  simp only at *
  by_cases e1 : s < n
  · have z1 : (s : Int) < (n : Int) := by omega
    have z2 : ¬ (n : Int) < (s : Int) := by omega
    cases yl <;> cases l <;> (
      simp only [overS, Bool.false_and, Bool.true_and, Bool.false_or, Bool.or_false, decide_eq_true e1, decide_eq_false (show ¬ n < s by omega)]
      go_enter Try.func59, Try.ntmps59
      go_wp2_with fail
      go_ret
      exact ⟨by first | rfl | simp [z1, z2], HB.out⟩)
  · have z1 : ¬ (s : Int) < (n : Int) := by omega
    by_cases e2 : n < s
    · have z2 : (n : Int) < (s : Int) := by omega
      cases yl <;> cases l <;> (
        simp only [overS, Bool.false_and, Bool.true_and, Bool.false_or, Bool.or_false, decide_eq_false e1, decide_eq_true e2]
        go_enter Try.func59, Try.ntmps59
        go_wp2_with fail
        go_ret
        exact ⟨by first | rfl | simp [z1, z2], HB.out⟩)
    · have z2 : ¬ (n : Int) < (s : Int) := by omega
      cases yl <;> cases l <;> (
        simp only [overS, Bool.false_and, Bool.true_and, Bool.false_or, Bool.or_false, decide_eq_false e1, decide_eq_false e2]
        go_enter Try.func59, Try.ntmps59
        go_wp2_with fail
        go_ret
        exact ⟨by first | rfl | simp [z1, z2], HB.out⟩)
end Go.Proofs.Ytcmiphgeakdonaa

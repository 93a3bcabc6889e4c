/- What isLast, areFull and CheckOut answer. -/
import Derived.Test.YtcmiphgeakdonaaAd
namespace Go.Proofs.Ytcmiphgeakdonaa
open Go.Shelf Go.RowKit Go.Lib
set_option linter.unusedVariables false
set_option linter.unusedSimpArgs false
attribute [local go_sem ↓] Go.wp_at_zero Go.wp_at_succ
/-- The cell of one of a list of lists. -/
theorem bch_at {K : Nat → Prop} {w : World} {q : Option Addr} {n c : Nat} {bs : List (List (List Val))} (h : ListIs rBch 1 24 K w (.slice q n c) bs) (i : Nat) (hi : i < bs.length) : ∃ b o p c', q = some ⟨b, o, none⟩ ∧ K b ∧ w.cell? ⟨b, o + i, none⟩ = some (.slice p bs[i].length c') ∧ ListIs rRow 1 24 K w (.slice p bs[i].length c') bs[i] := by
  obtain ⟨q', c', e, _, hp⟩ := h
  obtain ⟨b, o, rfl, hKb, hc⟩ := hp (by omega)
  cases e
  obtain ⟨cs, _, hcell, v, rfl, hl⟩ := hc i hi
  obtain ⟨p, cc, rfl, _⟩ := id hl
  exact ⟨b, o, p, cc, rfl, hKb, by simpa using hcell 0 _ rfl, hl⟩
/-- Whether rows of some length may be the last of n batches. -/
def lastP (l n : Nat) : Bool := decide (l ≤ 8) && (decide (0 < l) || decide (n = 1))
theorem isLast_any (p : Option Addr) (l c n : Nat) (w : World) (hl : l ≤ 140737488355328) (hn : n ≤ 140737488355328) :
    Calls Try.prog 36 #[.slice p l c, .int .i64 (n : Int)] w fun e w' => e = .returned (.bool (lastP l n)) ∧ w' = w := by
  by_cases h8 : l ≤ 8
  · have z8 : (l : Int) ≤ 8 := by omega
    by_cases h0 : 0 < l
    · have z0 : (0 : Int) < (l : Int) := by omega
      have hr : lastP l n = true := by unfold lastP; simp [h8, h0]
      rw [hr]
      clear hr h8 h0
      go_enter Try.func36, Try.ntmps36
      go_wp2_with fail
      go_ret
      exact ⟨rfl, rfl⟩
    · have z0 : ¬ (0 : Int) < (l : Int) := by omega
      by_cases h1 : n = 1
      · have z1 : ((n : Int) == 1) = true := by simp; omega
        have hr : lastP l n = true := by unfold lastP; simp [h8, h1]
        rw [hr]
        clear hr h8 h0 h1
        go_enter Try.func36, Try.ntmps36
        go_wp2_with fail
        go_ret
        exact ⟨rfl, rfl⟩
      · have z1 : ((n : Int) == 1) = false := beq_eq_false_iff_ne.2 (by omega)
        have hr : lastP l n = false := by unfold lastP; simp [h0, h1]
        rw [hr]
        clear hr h8 h0 h1
        go_enter Try.func36, Try.ntmps36
        go_wp2_with fail
        go_ret
        exact ⟨rfl, rfl⟩
  · have z8 : ¬ (l : Int) ≤ 8 := by omega
    have hr : lastP l n = false := by unfold lastP; simp [h8]
    rw [hr]
    clear hr h8
    go_enter Try.func36, Try.ntmps36
    go_wp2_with fail
    go_ret
    exact ⟨rfl, rfl⟩
def notFull (b : List (List Val)) : Bool := decide (b.length ≠ 8)
theorem notFull_any (p : Option Addr) (l c : Nat) (w : World) : Calls Try.prog 55 #[.slice p l c] w fun e w' => e = .returned (.bool (decide (l ≠ 8))) ∧ w' = w := by
  by_cases h : l = 8
  · have z : ((l : Int) != 8) = false := by simp; omega
    have hr : decide (l ≠ 8) = false := by simp [h]
    rw [hr]
    clear h hr
    go_enter Try.func55, Try.ntmps55
    go_wp2_with fail
    go_ret
    exact ⟨rfl, rfl⟩
  · have z : ((l : Int) != 8) = true := by simp; omega
    have hr : decide (l ≠ 8) = true := by simp [h]
    rw [hr]
    clear h hr
    go_enter Try.func55, Try.ntmps55
    go_wp2_with fail
    go_ret
    exact ⟨rfl, rfl⟩
theorem enters55 : ∀ args w, (callFunc 55 args).run Try.prog w = .ok (.enter 55 args) w := enters_of Try.func55 (by kernel_rfl) rfl
set_option maxRecDepth 100000 in
set_option maxHeartbeats 4000000 in
theorem index41_any (v : Value) (bs : List (List (List Val))) (K : Nat → Prop) (w : World) (h : ListIs rBch 1 24 K w v bs) (hK : ∀ b, K b → b < w.heap.size) :
    Calls Try.prog 68 #[v, .func (.func 55) #[] #[]] w fun e w' => ∃ k : Int, e = .returned (.int .i64 k) ∧ ((0 ≤ k ∧ bs.any notFull = true) ∨ (k = -1 ∧ bs.any notFull = false)) ∧ Below w.heap.size w w' := by
  obtain ⟨q0, c0, rfl, hby, -⟩ := id h
  have H1 : Hid (ListIs rBch 1 24 K w (.slice q0 bs.length c0) bs) := h
  have HKK : Hid (∀ b, K b → b < w.heap.size) := hK
  have hx63 : bs.length ≤ 140737488355328 := by omega
  have eg := enters55
  clear h hK hby
  go_enter Try.func68, Try.ntmps68
  go_wp2_with fail
  go_loopg [8] bs.length (fun gf s8 wx => ∃ (i : Nat), s8 = .int .i64 i ∧ i ≤ bs.length ∧ bs.length ≤ i + gf ∧ Hid (Below w.heap.size w wx) ∧ Hid ((bs.take i).any notFull = false))
  case atStart => exact ⟨0, rfl, by omega, by omega, Below.refl _ _, rfl⟩
  case round =>
    obtain ⟨i, rfl, hi1, hgf, HB, HN⟩ := hrel
    by_cases hi : i < bs.length
    · obtain ⟨g', rfl⟩ : ∃ g', gk = g' + 1 := ⟨gk - 1, by omega⟩
      obtain ⟨b, o, p, c, rfl, hKb, hcell, hl⟩ := bch_at H1.out i hi
      have hm : bs[i] ∈ bs := List.getElem_mem hi
      have htk : bs.take (i + 1) = bs.take i ++ [bs[i]] := List.take_succ_eq_append_getElem hi
      obtain ⟨y, hy⟩ : ∃ y, bs[i] = y := ⟨_, rfl⟩
      rw [hy] at hcell hm htk
      have k0 : wr.cell? ⟨b, o + i, none⟩ = some (.slice p y.length c) := (HB.out.cell (p := ⟨b, _, none⟩) (HKK.out _ hKb)).trans hcell
      have CC := hid (notFull_any p y.length c wr)
      have z0 : (0 : Int) ≤ (i : Int) := by omega
      have z1 : (i : Int) < (bs.length : Int) := by omega
      have HTK : Hid (bs.take (i + 1) = bs.take i ++ [y]) := htk
      have HM : Hid (y ∈ bs) := hm
      clear hy hcell hl hKb htk hm
      go_wp2_with fail
      refine CC.out.mono ?_
      rintro e w3 ⟨rfl, rfl⟩
      clear CC
      cases hpy : decide (y.length ≠ 8) with
      | true =>
        have HA : Hid (bs.any notFull = true) := List.any_eq_true.2 ⟨y, HM.out, hpy⟩
        clear hpy
        go_wp2_with fail
        go_ret
        exact ⟨_, rfl, .inl ⟨by omega, HA.out⟩, HB.out⟩
      | false =>
        have HN2 : Hid ((bs.take (i + 1)).any notFull = false) := by
          show _ = _
          rw [HTK.out, List.any_append, HN.out]
          simp [notFull]
          simpa using hpy
        clear hpy
        go_wp2_with fail
        go_roundg g'
        case measure => omega
        case rel => exact ⟨i + 1, by go_num, by omega, by omega, HB, HN2⟩
    · have z1 : ¬ (i : Int) < (bs.length : Int) := by omega
      have HA : Hid (bs.any notFull = false) := by
        have := HN.out
        rwa [List.take_of_length_le (by omega)] at this
      clear HN
      go_wp2_with fail
      go_ret
      exact ⟨_, rfl, .inr ⟨rfl, by first | exact HA.out | simpa using HA.out⟩, HB.out⟩
set_option maxRecDepth 100000 in
set_option maxHeartbeats 4000000 in
theorem contains41_any (v : Value) (bs : List (List (List Val))) (K : Nat → Prop) (w : World) (h : ListIs rBch 1 24 K w v bs) (hK : ∀ b, K b → b < w.heap.size) :
    Calls Try.prog 54 #[v, .func (.func 55) #[] #[]] w fun e w' => e = .returned (.bool (bs.any notFull)) ∧ Below w.heap.size w w' := by
  have CC := hid (index41_any v bs K w h hK)
  obtain ⟨q0, c0, rfl, -, -⟩ := h
  obtain ⟨r, hr⟩ : ∃ r, bs.any notFull = r := ⟨_, rfl⟩
  rw [hr] at CC ⊢
  clear hK hr
  go_enter Try.func54, Try.ntmps54
  go_wp2_with fail
  refine CC.out.mono ?_
  rintro e w1 ⟨k, rfl, hk, hb⟩
  have HB : Hid (Below w.heap.size w w1) := hb
  rcases hk with ⟨hk, rfl⟩ | ⟨rfl, rfl⟩
  · have z : (0 : Int) ≤ k := hk
    clear hb CC
    go_wp2_with fail
    go_ret
    exact ⟨by simp [z], HB.out⟩
  · clear hb CC
    go_wp2_with fail
    go_ret
    exact ⟨rfl, HB.out⟩
set_option maxRecDepth 100000 in
set_option maxHeartbeats 4000000 in
theorem areFull_any (v : Value) (bs : List (List (List Val))) (K : Nat → Prop) (w : World) (h : ListIs rBch 1 24 K w v bs) (hK : ∀ b, K b → b < w.heap.size) :
    Calls Try.prog 35 #[v] w fun e w' => e = .returned (.bool (!bs.any notFull)) ∧ Below w.heap.size w w' := by
  have CC := hid (contains41_any v bs K w h hK)
  obtain ⟨q0, c0, rfl, -, -⟩ := h
  obtain ⟨r, hr⟩ : ∃ r, bs.any notFull = r := ⟨_, rfl⟩
  rw [hr] at CC ⊢
  clear hK hr
  go_enter Try.func35, Try.ntmps35
  go_wp2_with fail
  refine CC.out.mono ?_
  rintro e w1 ⟨rfl, hb⟩
  have HB : Hid (Below w.heap.size w w1) := hb
  clear hb CC
  cases r <;> (go_wp2_with fail; go_ret; exact ⟨rfl, HB.out⟩)
end Go.Proofs.Ytcmiphgeakdonaa

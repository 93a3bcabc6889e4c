/- Two lists, two leases that are held against each other; new leases. -/
import Derived.Test.YtdcgppdljcokpaaLc
namespace Go.Proofs.Ytdcgppdljcokpaa
open Go.Shelf Go.RowKit Go.Lib Go.Sort
set_option linter.unusedVariables false
set_option linter.unusedSimpArgs false
attribute [local go_sem ↓] Go.wp_at_zero Go.wp_at_succ
def sameN : List Int → List Int → Bool
  | [], [] => true
  | x :: xs, y :: ys => x == y && sameN xs ys
  | _, _ => false
theorem sameN_iff : ∀ xs ys : List Int, sameN xs ys = true ↔ xs = ys
  | [], [] => by simp [sameN]
  | [], _ :: _ => by simp [sameN]
  | _ :: _, [] => by simp [sameN]
  | x :: xs, y :: ys => by simp [sameN, sameN_iff xs ys]
theorem sameN_self (xs : List Int) : sameN xs xs = true := (sameN_iff _ _).2 rfl
theorem sameN_len (xs ys : List Int) (h : xs.length ≠ ys.length) : sameN xs ys = false := by
  cases hs : sameN xs ys
  · rfl
  · rw [(sameN_iff _ _).1 hs] at h; exact absurd rfl h
theorem sameN_at (xs ys : List Int) (i : Nat) (hx : i < xs.length) (hy : i < ys.length) : sameN (xs.drop i) (ys.drop i) = (xs[i] == ys[i] && sameN (xs.drop (i + 1)) (ys.drop (i + 1))) := by
  rw [List.drop_eq_getElem_cons hx, List.drop_eq_getElem_cons hy]
  rfl
set_option maxRecDepth 100000 in
set_option maxHeartbeats 4000000 in
theorem numbers_any (v1 v2 : Value) (xs ys : List Int) (w : World) (h1 : NumsL w v1 xs) (h2 : NumsL w v2 ys) :
    Calls Try.prog 22 #[v1, v2] w fun e w' => e = .returned (.bool (sameN xs ys)) ∧ Below w.heap.size w w' := by
  obtain ⟨p, c, rfl, _, _, hm1, _, _, hp⟩ := h1
  obtain ⟨q, d, rfl, _, _, hm2, _, _, hq⟩ := h2
  by_cases hl : xs.length = ys.length
  · have t1 : ((xs.length : Int) != (ys.length : Int)) = false := by simp; omega
    have HL : Hid (xs.length = ys.length) := hl
    have HP : Hid _ := hp
    have HQ : Hid _ := hq
    clear hl hp hq
    go_enter Try.func22, Try.ntmps22
    go_wp2_with fail
    go_loopg [13] xs.length (fun gf sA wx => ∃ i : Nat, sA = .int .i64 i ∧ i ≤ xs.length ∧ xs.length ≤ i + gf ∧ Hid (Below w.heap.size w wx) ∧ Hid (sameN xs ys = sameN (xs.drop i) (ys.drop i)))
    case atStart => exact ⟨0, rfl, by omega, by omega, Below.refl _ _, (show _ = _ from rfl)⟩
    case round =>
      obtain ⟨i, rfl, hi1, hgf, HB, HT⟩ := hrel
      by_cases hi : i < xs.length
      · obtain ⟨g', rfl⟩ : ∃ g', gk = g' + 1 := ⟨gk - 1, by omega⟩
        have hlen := HL.out
        have hiy : i < ys.length := by omega
        obtain ⟨b, o, rfl, hlt, hc⟩ := HP.out (by omega)
        obtain ⟨b', o', rfl, hlt', hc'⟩ := HQ.out (by omega)
        have c0 := (hc.below hlt HB.out) i hi
        have c1 := (hc'.below hlt' HB.out) i hiy
        have hst := sameN_at xs ys i hi hiy
        have z0 : (0 : Int) ≤ (i : Int) := by omega
        have z1 : (i : Int) < (xs.length : Int) := by omega
        have z2 : (i : Int) < (ys.length : Int) := by omega
        obtain ⟨x, hx⟩ : ∃ x, xs[i] = x := ⟨_, rfl⟩
        obtain ⟨y, hy⟩ : ∃ y, ys[i] = y := ⟨_, rfl⟩
        rw [hx] at c0 hst
        rw [hy] at c1 hst
        have HBN : Hid (∀ n, Below w.heap.size w (wr.drewN n)) := fun n => below_drewN HB.out n
        clear hc hc' hx hy hlen
        by_cases he : x = y
        · have t2 : (x != y) = false := by simp [he]
          have HT2 : Hid (sameN xs ys = sameN (xs.drop (i + 1)) (ys.drop (i + 1))) := by show _ = _; rw [HT.out, hst]; simp [he]
          clear HT hst he
          go_wp2_with fail
          try go_quiet (fail)
          try go_wp2_with fail
          go_roundg g'
          case measure => omega
          case rel => exact ⟨i + 1, by go_num, by omega, by omega, by first | exact HB | exact HBN.out _, HT2⟩
        · have t2 : (x != y) = true := by simp [he]
          have HF : Hid (sameN xs ys = false) := by show _ = _; rw [HT.out, hst]; simp [he]
          clear HT hst he
          go_wp2_with fail
          try go_quiet (fail)
          try go_wp2_with fail
          go_ret
          exact ⟨by rw [HF.out]; rfl, by first | exact HB.out | exact HBN.out _⟩
      · have z1 : ¬ (i : Int) < (xs.length : Int) := by omega
        have HF : Hid (sameN xs ys = true) := by
          show _ = _
          have h1 := HL.out
          rw [HT.out, List.drop_eq_nil_of_le (by omega), List.drop_eq_nil_of_le (by omega)]; rfl
        clear HT
        go_wp2_with fail
        go_ret
        exact ⟨by rw [HF.out]; rfl, HB.out⟩
  · have t1 : ((xs.length : Int) != (ys.length : Int)) = true := by simp; omega
    have HF : Hid (sameN xs ys = false) := sameN_len _ _ hl
    clear hl hp hq
    go_enter Try.func22, Try.ntmps22
    go_wp2_with fail
    go_ret
    exact ⟨by rw [HF.out]; rfl, Below.refl _ _⟩
end Go.Proofs.Ytdcgppdljcokpaa

/- Leases: what refuse, isAlive, and two lists that are held against each other answer. -/
import Derived.Test.YtdcgppdljcokpaaLb
namespace Go.Proofs.Ytdcgppdljcokpaa
open Go.Shelf Go.RowKit Go.Lib Go.Sort
set_option linter.unusedVariables false
set_option linter.unusedSimpArgs false
attribute [local go_sem ↓] Go.wp_at_zero Go.wp_at_succ
set_option maxRecDepth 100000 in
set_option maxHeartbeats 4000000 in
theorem refuse_any (u v : Value) (bs ss : List Int) (node boot now : Int) (w : World) (h : NumsL w u bs) (h' : NumsL w v ss) (hok : okL bs ss) :
    Calls Try.prog 20 #[.agg #[u, v], .int .i64 node, .int .u64 boot, .int .u64 now] w fun e w' => e = .returned (.int .i64 (refE bs ss node boot now)) ∧ Below w.heap.size w w' := by
  obtain ⟨hl1, hl2, hl3⟩ := hok
  obtain ⟨p, c, rfl, _, _, _, _, _, hp⟩ := h
  obtain ⟨q, d, rfl, _, _, _, _, _, hq⟩ := h'
  obtain ⟨W0, hW0, hb0, hs0, hx⟩ := box2 w (.slice p bs.length c) (.slice q ss.length d)
  obtain ⟨x0, x1⟩ := hx W0 (Below.refl _ _)
  have HB0 : Hid (Below w.heap.size w W0) := hb0
  have HBN : Hid (∀ n, Below w.heap.size w (W0.drewN n)) := fun n => below_drewN hb0 n
  obtain ⟨b, o, rfl, hlt, hc⟩ := hp (by omega)
  obtain ⟨b', o', rfl, hlt', hc'⟩ := hq (by omega)
  by_cases h1 : node ≤ 0
  · have HC : Hid (refE bs ss node boot now = 2) := if_pos (.inl h1)
    clear hx hb0 hs0 hl1 hl2 hl3 hp hq hc hc'
    go_enter Try.func20, Try.ntmps20
    go_wp2_with fail
    go_ret
    exact ⟨by rw [HC.out]; rfl, HB0.out⟩
  · by_cases h2 : (bs.length : Int) ≤ node
    · have HC : Hid (refE bs ss node boot now = 2) := if_pos (.inr (.inl h2))
      clear hx hb0 hs0 hl1 hl2 hl3 hp hq hc hc'
      go_enter Try.func20, Try.ntmps20
      go_wp2_with fail
      go_ret
      exact ⟨by rw [HC.out]; rfl, HB0.out⟩
    · by_cases h3 : boot = 0
      · have HC : Hid (refE bs ss node boot now = 2) := if_pos (.inr (.inr h3))
        have t3 : (boot == 0) = true := by simp [h3]
        clear hx hb0 hs0 hl1 hl2 hl3 hp hq hc hc' h3
        go_enter Try.func20, Try.ntmps20
        go_wp2_with fail
        go_ret
        exact ⟨by rw [HC.out]; rfl, HB0.out⟩
      · have t3 : (boot == 0) = false := by simp [h3]
        obtain ⟨k, rfl⟩ : ∃ k : Nat, node = (k : Int) := ⟨node.toNat, by omega⟩
        have hk : k < bs.length := by omega
        have hk' : k < ss.length := by omega
        have c0 := (hc.below hlt hb0) k hk
        have c1 := (hc'.below hlt' hb0) k hk'
        have e0 : bs.getD ((k : Int).toNat) 0 = bs[k] := by simp [hk]
        have e1 : ss.getD ((k : Int).toNat) 0 = ss[k] := by simp [hk']
        have HC : Hid (refE bs ss (k : Int) boot now = if stale bs[k] ss[k] boot now = true then 17 else 0) := by
          show _ = _
          unfold refE
          rw [if_neg (by omega), e0, e1]
        obtain ⟨x, hx'⟩ : ∃ x, bs[k] = x := ⟨_, rfl⟩
        obtain ⟨y, hy'⟩ : ∃ y, ss[k] = y := ⟨_, rfl⟩
        rw [hx'] at c0 HC
        rw [hy'] at c1 HC
        have z0 : (0 : Int) ≤ (k : Int) := by omega
        have z1 : (k : Int) < (bs.length : Int) := by omega
        have z2 : (k : Int) < (ss.length : Int) := by omega
        clear hx hb0 hs0 hl1 hl2 hl3 hp hq hc hc' h3 hx' hy' e0 e1
        unfold stale at HC
        by_cases s1 : boot < x
        · have HD : Hid (refE bs ss (k : Int) boot now = 17) := by show _ = _; have := HC.out; simpa [s1] using this
          clear HC
          go_enter Try.func20, Try.ntmps20
          go_wp2_with fail
          try go_quiet (fail)
          try go_wp2_with fail
          go_ret
          exact ⟨by rw [HD.out]; rfl, by first | exact HB0.out | exact HBN.out _⟩
        · by_cases s2 : boot = x
          · subst s2
            by_cases s3 : now < y
            · have HD : Hid (refE bs ss (k : Int) boot now = 17) := by show _ = _; have := HC.out; simpa [s1, s3] using this
              clear HC
              go_enter Try.func20, Try.ntmps20
              go_wp2_with fail
              try go_quiet (fail)
              try go_wp2_with fail
              go_ret
              exact ⟨by rw [HD.out]; rfl, by first | exact HB0.out | exact HBN.out _⟩
            · have HD : Hid (refE bs ss (k : Int) boot now = 0) := by show _ = _; have := HC.out; simpa [s1, s3] using this
              clear HC
              go_enter Try.func20, Try.ntmps20
              go_wp2_with fail
              try go_quiet (fail)
              try go_wp2_with fail
              go_ret
              exact ⟨by rw [HD.out]; rfl, by first | exact HB0.out | exact HBN.out _⟩
          · have HD : Hid (refE bs ss (k : Int) boot now = 0) := by show _ = _; have := HC.out; simpa [s1, s2] using this
            clear HC
            have t4 : (boot == x) = false := by simp [s2]
            go_enter Try.func20, Try.ntmps20
            go_wp2_with fail
            try go_quiet (fail)
            try go_wp2_with fail
            go_ret
            exact ⟨by rw [HD.out]; rfl, by first | exact HB0.out | exact HBN.out _⟩
/-- Whether a node is believed to be there. -/
def aliveB (bs ss : List Int) (now : Int) (k : Nat) : Bool := k == 0 || (!(bs.getD k 0 == 0) && (decide (ss.getD k 0 ≤ now) && decide (now - ss.getD k 0 < 8)))
set_option maxRecDepth 100000 in
set_option maxHeartbeats 4000000 in
theorem isAlive_any (u v : Value) (bs ss : List Int) (k : Nat) (now : Int) (w : World) (h : NumsL w u bs) (h' : NumsL w v ss) (hok : okL bs ss) (hk : k < bs.length) (hnow : 0 ≤ now ∧ now < 18446744073709551616) :
    Calls Try.prog 21 #[.agg #[u, v], .int .i64 (k : Int), .int .u64 now] w fun e w' => e = .returned (.bool (aliveB bs ss now k)) ∧ Below w.heap.size w w' := by
  obtain ⟨hl1, hl2, hl3⟩ := hok
  have hU := h'.inU
  obtain ⟨p, c, rfl, _, _, _, _, _, hp⟩ := h
  obtain ⟨q, d, rfl, _, _, _, _, _, hq⟩ := h'
  obtain ⟨W0, hW0, hb0, hs0, hx⟩ := box2 w (.slice p bs.length c) (.slice q ss.length d)
  obtain ⟨x0, x1⟩ := hx W0 (Below.refl _ _)
  have HB0 : Hid (Below w.heap.size w W0) := hb0
  have HBN : Hid (∀ n, Below w.heap.size w (W0.drewN n)) := fun n => below_drewN hb0 n
  obtain ⟨b, o, rfl, hlt, hc⟩ := hp (by omega)
  obtain ⟨b', o', rfl, hlt', hc'⟩ := hq (by omega)
  have hk' : k < ss.length := by omega
  have c0 := (hc.below hlt hb0) k hk
  have c1 := (hc'.below hlt' hb0) k hk'
  have e0 : bs.getD k 0 = bs[k] := by simp [hk]
  have e1 : ss.getD k 0 = ss[k] := by simp [hk']
  have hy2 := hU _ (List.getElem_mem hk')
  by_cases hz : k = 0
  · have HC : Hid (aliveB bs ss now k = true) := by show _ = _; unfold aliveB; simp [hz]
    have t1 : ((k : Int) == 0) = true := by simp [hz]
    clear hx hb0 hs0 hl1 hl2 hl3 hp hq hc hc' e0 e1 hz
    go_enter Try.func21, Try.ntmps21
    go_wp2_with fail
    go_ret
    exact ⟨by rw [HC.out]; rfl, HB0.out⟩
  · have HC : Hid (aliveB bs ss now k = (!(bs[k] == 0) && (decide (ss[k] ≤ now) && decide (now - ss[k] < 8)))) := by show _ = _; unfold aliveB; simp only [e0, e1]; simp [hz]
    have t1 : ((k : Int) == 0) = false := by simp; omega
    obtain ⟨x, hx'⟩ : ∃ x, bs[k] = x := ⟨_, rfl⟩
    obtain ⟨y, hy'⟩ : ∃ y, ss[k] = y := ⟨_, rfl⟩
    rw [hx'] at c0 HC
    rw [hy'] at c1 HC hy2
    have z0 : (0 : Int) ≤ (k : Int) := by omega
    have z1 : (k : Int) < (bs.length : Int) := by omega
    have z2 : (k : Int) < (ss.length : Int) := by omega
    clear hx hb0 hs0 hl1 hl2 hl3 hp hq hc hc' hx' hy' e0 e1 hz
    by_cases s1 : x = 0
    · have HD : Hid (aliveB bs ss now k = false) := by show _ = _; have := HC.out; simpa [s1] using this
      have t2 : (x != 0) = false := by simp [s1]
      clear HC s1
      go_enter Try.func21, Try.ntmps21
      go_wp2_with fail
      go_quiet (fail)
      go_wp2_with fail
      go_ret
      exact ⟨by rw [HD.out]; rfl, by first | exact HB0.out | exact HBN.out _⟩
    · have t2 : (x != 0) = true := by simp [s1]
      by_cases s2 : y ≤ now
      · have hw : IntKind.u64.wrap (now - y) = now - y := by rw [IntKind.wrap_u64]; omega
        by_cases s3 : now - y < 8
        · have HD : Hid (aliveB bs ss now k = true) := by show _ = _; have := HC.out; simpa [s1, s2, s3, show (x == 0) = false from by simp [s1]] using this
          clear HC s1
          go_enter Try.func21, Try.ntmps21
          go_wp2_with fail
          go_quiet (fail)
          go_wp2_with fail
          go_ret
          exact ⟨by rw [HD.out]; rfl, by first | exact HB0.out | exact HBN.out _⟩
        · have HD : Hid (aliveB bs ss now k = false) := by show _ = _; have := HC.out; simpa [s1, s2, s3, show (x == 0) = false from by simp [s1]] using this
          clear HC s1
          go_enter Try.func21, Try.ntmps21
          go_wp2_with fail
          go_quiet (fail)
          go_wp2_with fail
          go_ret
          have s4 : decide (now - y < 8) = false := by simp; omega
          exact ⟨by rw [HD.out, ← s4]; rfl, by first | exact HB0.out | exact HBN.out _⟩
      · have HD : Hid (aliveB bs ss now k = false) := by show _ = _; have := HC.out; simpa [s1, s2] using this
        clear HC s1
        go_enter Try.func21, Try.ntmps21
        go_wp2_with fail
        go_quiet (fail)
        go_wp2_with fail
        go_ret
        exact ⟨by rw [HD.out]; rfl, by first | exact HB0.out | exact HBN.out _⟩
end Go.Proofs.Ytdcgppdljcokpaa

/- What slices.insertionSortCmpFunc does to rows. -/
import Derived.Test.YtmagfjlpjjmknaaDoorSc
namespace Go.Proofs.YtmagfjlpjjmknaaDoor
open Go.Shelf Go.RowKit Go.Lib Go.Sort
set_option linter.unusedVariables false
set_option linter.unusedSimpArgs false
variable {α : Type} [Inhabited α]
theorem insInner_stop (lt : α → α → Bool) (a j : Nat) (d : Array α) (h : ¬ (a < j ∧ lt d[j]! d[j - 1]! = true)) : insInner lt a j d = d := by
  cases j with
  | zero => rfl
  | succ j =>
    unfold insInner
    rw [if_neg]
    intro hc
    simp only [Bool.and_eq_true, decide_eq_true_eq] at hc
    exact h ⟨hc.1, by simpa using hc.2⟩
theorem insInner_step (lt : α → α → Bool) (a j : Nat) (d : Array α) (h1 : a < j) (h2 : lt d[j]! d[j - 1]! = true) : insInner lt a j d = insInner lt a (j - 1) (swp d j (j - 1)) := by
  cases j with
  | zero => omega
  | succ j =>
    have h2' : lt d[j + 1]! d[j]! = true := by simpa using h2
    conv => lhs; unfold insInner
    rw [if_pos (by simp only [Bool.and_eq_true, decide_eq_true_eq]; exact ⟨h1, h2'⟩)]
    rfl
theorem insOuter_step (lt : α → α → Bool) (a b i : Nat) (d : Array α) (h : i < b) : insOuter lt a b i d = insOuter lt a b (i + 1) (insInner lt a i d) := by
  conv => lhs; unfold insOuter
  rw [if_pos h]
theorem insOuter_end (lt : α → α → Bool) (a b i : Nat) (d : Array α) (h : ¬ i < b) : insOuter lt a b i d = d := by
  unfold insOuter
  rw [if_neg h]
set_option maxHeartbeats 8000000 in
set_option maxRecDepth 1000000 in
theorem insertion_any (enc : α → Value) (cf : α → α → Int) (g : Nat) (cb : Array Value) (blk off cap a b : Nat) (d0 d : Array α) (w0 w : World)
    (eg : ∀ args w, (callFunc g args).run Tryd.prog w = .ok (.enter g args) w) (hcmp : CmpB Tryd.prog g cb enc cf blk off d0.size w0) (R : Row1 enc w0 blk off d0) (hs : d0.size = d.size) (S : SB enc w0 blk off d w) (hab : a ≤ b) (hb : b ≤ d.size) (hsz : d.size < 4611686018427387904) :
    Calls Tryd.prog 48 #[.slice (some ⟨blk, off, none⟩) d.size cap, .int .i64 a, .int .i64 b, .func (.func g) #[] cb] w fun e w' => e = .returned (.tuple #[]) ∧ SB enc w0 blk off (insertionSort (ltOf cf) d a b) w' := by
  have mixed : Tryd.prog.follows .mixedOrders = true := by kernel_rfl
  have hcl0 := R.hO.cells
  simp only [Value.cells] at hcl0
  have hst := R.hO.store Tryd.prog
  have S0 : Aside (SB enc w0 blk off d w) := S
  have HC : Aside _ := hcmp
  obtain ⟨T, hT⟩ : ∃ T, insertionSort (ltOf cf) d a b = T := ⟨_, rfl⟩
  have HT : Hid (insOuter (ltOf cf) a b (a + 1) d = T) := hT
  rw [hT]
  clear S hcmp hT
  go_enter Tryd.func48, Tryd.ntmps48
  go_wp2
  go_loopg [8] (b - a) (fun kx s8 wr => ∃ (i : Nat) (dk : Array α), s8 = .int .i64 i ∧ a + 1 ≤ i ∧ i ≤ b + 1 ∧ b - i ≤ kx ∧ dk.size = d.size ∧ Aside (SB enc w0 blk off dk wr) ∧ Hid (insOuter (ltOf cf) a b i dk = T))
  case atStart => exact ⟨a + 1, d, by go_num, by omega, by omega, by omega, rfl, S0, HT⟩
  case round =>
    clear S0 HT
    obtain ⟨i, dk, rfl, hai, hib, hkx, hds, S1, HD⟩ := hrel
    by_cases hlt : i < b
    · have hltz : (i : Int) < (b : Int) := by omega
      obtain ⟨D1, hD1⟩ : ∃ D1, insInner (ltOf cf) a i dk = D1 := ⟨_, rfl⟩
      have HD1 : Hid (insInner (ltOf cf) a i dk = D1) := hD1
      have HO : Hid (insOuter (ltOf cf) a b (i + 1) D1 = T) := by show _ = _; rw [← hD1, ← insOuter_step _ _ _ _ _ hlt]; exact HD.out
      clear hD1 HD
      obtain ⟨V0, hV0⟩ : ∃ V0 : World, V0 = wr := ⟨_, rfl⟩
      subst hV0
      go_wp2_with fail
      go_loopg [9] i (fun kx s9 wr => ∃ (j : Nat) (dk : Array α), s9 = .int .i64 j ∧ a ≤ j ∧ j ≤ i ∧ j ≤ kx ∧ dk.size = d.size ∧ Aside (SB enc w0 blk off dk wr) ∧ Hid (insInner (ltOf cf) a j dk = D1))
      case atStart => exact ⟨i, dk, rfl, by omega, by omega, by omega, hds, S1, HD1⟩
      case round =>
        clear S1 HD1 hds dk
        obtain ⟨j, dk, rfl, haj, hji, hkx2, hds, S1, HI⟩ := hrel
        by_cases hj : a < j
        · have hjz : (a : Int) < (j : Int) := by omega
          cases hlv : ltOf cf dk[j]! dk[j - 1]! with
          | true =>
            have HI2 : Hid (insInner (ltOf cf) a (j - 1) (swp dk j (j - 1)) = D1) := by show _ = _; rw [← insInner_step _ _ _ _ hj hlv]; exact HI.out
            obtain ⟨iN1, hiN1⟩ : ∃ q, q = j := ⟨_, rfl⟩
            obtain ⟨jN1, hjN1⟩ : ∃ q, q = j - 1 := ⟨_, rfl⟩
            have ea1 : ((j : Int)).toNat = iN1 := by omega
            have pa1 : (0 : Int) ≤ (j : Int) := by omega
            have ba1 : (j : Int) < (d.size : Int) := by omega
            have ra1 : IntKind.i64.wrap ((j : Int)) = (j : Int) := by rw [IntKind.wrap_i64]; omega
            have ec1 : ((j : Int) - 1).toNat = jN1 := by omega
            have pc1 : (0 : Int) ≤ (j : Int) - 1 := by omega
            have bc1 : (j : Int) - 1 < (d.size : Int) := by omega
            have rc1 : IntKind.i64.wrap ((j : Int) - 1) = (j : Int) - 1 := by rw [IntKind.wrap_i64]; omega
            obtain ⟨x1, hx1⟩ : ∃ x, x = dk[j]! := ⟨_, rfl⟩
            obtain ⟨y1, hy1⟩ : ∃ x, x = dk[j - 1]! := ⟨_, rfl⟩
            have l1a := S1.out.cl R (by omega) (j) (by omega)
            have l1b := S1.out.cl R (by omega) (j - 1) (by omega)
            rw [← hx1, ← hiN1] at l1a
            rw [← hy1, ← hjN1] at l1b
            have hc1 := S1.out.cmp HC.out (by omega) x1 y1
            have hv1 : cf x1 y1 < 0 := by rw [hx1, hy1]; exact of_decide_eq_true hlv
            have hd1 : decide (cf x1 y1 < 0) = true := decide_eq_true hv1
            have HiN : Hid (iN1 = j) := hiN1
            have HjN : Hid (jN1 = j - 1) := hjN1
            have Hx : Hid (x1 = dk[j]!) := hx1
            have Hy : Hid (y1 = dk[j - 1]!) := hy1
            clear hiN1 hjN1 hx1 hy1 hlv
            go_wp2_with fail
            have inhL := laterInh
            refine wp_region_laterS mixedOnS (by kernel_rfl) ?_
            repeat (go_big_quiet_step (first | (go_at_fn g; exact calls_laterS (hc1 _))))
            refine wpQuiet_nil ?_
            intro w2 hw'
            obtain ⟨⟨wq, hwq⟩, hw''⟩ := hw'
            subst hw''
            have S2 : Aside (SB enc w0 blk off dk w2) := S1.out.below hwq
            clear l1a l1b hc1 S1 hwq
            have S3 : Aside (SB enc w0 blk off (swp dk j (j - 1)) ((w2.setCell ⟨blk, off + iN1, none⟩ (enc y1)).setCell ⟨blk, off + jN1, none⟩ (enc x1)).drew) := by rw [HiN.out, HjN.out, Hx.out, Hy.out]; exact S2.out.swapped R j (j - 1) (by omega) (by omega)
            have c1a := S2.out.c1 R (by omega) (j) (by omega)
            have c1b := S2.out.c1 R (by omega) (j - 1) (by omega)
            have f1a := S2.out.f1 R (by omega) (j) (by omega)
            have f1b := S2.out.f1 R (by omega) (j - 1) (by omega)
            obtain ⟨u1, c1c⟩ := S2.out.c2 R (by omega) (j) (j - 1) (by omega) (by omega) (enc y1)
            rw [← HjN.out, ← HiN.out] at c1c
            rw [← Hx.out, ← HiN.out] at c1a
            rw [← Hy.out, ← HjN.out] at c1b
            rw [← HiN.out] at f1a
            rw [← HjN.out] at f1b
            clear S2 Hx Hy HiN HjN hv1
            go_wp2_with fail
            go_big_region_o
            clear c1a c1b c1c f1a f1b
            generalize ((w2.setCell ⟨blk, off + iN1, none⟩ (enc y1)).setCell ⟨blk, off + jN1, none⟩ (enc x1)).drew = w3 at S3 ⊢
            clear ea1 ec1
            go_wp2
            go_roundg (j - 1)
            case measure => omega
            case rel => exact ⟨j - 1, swp dk j (j - 1), by congr 1; omega, by omega, by omega, by omega, by rw [size_swp]; exact hds, S3, HI2⟩
          | false =>
            have e1 : dk = D1 := by rw [← HI.out, insInner_stop _ _ _ _ (by rintro ⟨_, h⟩; rw [hlv] at h; cases h)]
            obtain ⟨iN1, hiN1⟩ : ∃ q, q = j := ⟨_, rfl⟩
            obtain ⟨jN1, hjN1⟩ : ∃ q, q = j - 1 := ⟨_, rfl⟩
            have ea1 : ((j : Int)).toNat = iN1 := by omega
            have pa1 : (0 : Int) ≤ (j : Int) := by omega
            have ba1 : (j : Int) < (d.size : Int) := by omega
            have ra1 : IntKind.i64.wrap ((j : Int)) = (j : Int) := by rw [IntKind.wrap_i64]; omega
            have ec1 : ((j : Int) - 1).toNat = jN1 := by omega
            have pc1 : (0 : Int) ≤ (j : Int) - 1 := by omega
            have bc1 : (j : Int) - 1 < (d.size : Int) := by omega
            have rc1 : IntKind.i64.wrap ((j : Int) - 1) = (j : Int) - 1 := by rw [IntKind.wrap_i64]; omega
            obtain ⟨x1, hx1⟩ : ∃ x, x = dk[j]! := ⟨_, rfl⟩
            obtain ⟨y1, hy1⟩ : ∃ x, x = dk[j - 1]! := ⟨_, rfl⟩
            have l1a := S1.out.cl R (by omega) (j) (by omega)
            have l1b := S1.out.cl R (by omega) (j - 1) (by omega)
            rw [← hx1, ← hiN1] at l1a
            rw [← hy1, ← hjN1] at l1b
            have hc1 := S1.out.cmp HC.out (by omega) x1 y1
            have hv1 : ¬ cf x1 y1 < 0 := by rw [hx1, hy1]; exact of_decide_eq_false hlv
            have hd1 : decide (cf x1 y1 < 0) = false := decide_eq_false hv1
            rw [e1] at S1 hds
            clear hx1 hy1 hlv HI e1 hiN1 hjN1
            go_wp2_with fail
            have inhL := laterInh
            refine wp_region_laterS mixedOnS (by kernel_rfl) ?_
            repeat (go_big_quiet_step (first | (go_at_fn g; exact calls_laterS (hc1 _))))
            refine wpQuiet_nil ?_
            intro w2 hw'
            obtain ⟨⟨wq, hwq⟩, hw''⟩ := hw'
            subst hw''
            have S2 : Aside (SB enc w0 blk off D1 w2) := S1.out.below hwq
            clear l1a l1b hc1 S1 hwq
            go_wp2_with fail
            go_roundg (b - (i + 1))
            case measure => omega
            case rel => exact ⟨i + 1, D1, by go_num, by omega, by omega, by omega, hds, S2, HO⟩
        · have hjz : ¬ (a : Int) < (j : Int) := by omega
          have e1 : dk = D1 := by rw [← HI.out, insInner_stop _ _ _ _ (by rintro ⟨h, _⟩; exact hj h)]
          rw [e1] at S1 hds
          clear HI e1
          go_wp2_with fail
          have inhL := laterInh
          refine wp_region_laterS mixedOnS (by kernel_rfl) ?_
          repeat (go_big_quiet_step (fail))
          refine wpQuiet_nil ?_
          intro w2 hw'
          obtain ⟨⟨wq, hwq⟩, hw''⟩ := hw'
          subst hw''
          have S2 : Aside (SB enc w0 blk off D1 w2) := S1.out.below hwq
          clear S1 hwq
          go_wp2_with fail
          go_roundg (b - (i + 1))
          case measure => omega
          case rel => exact ⟨i + 1, D1, by go_num, by omega, by omega, by omega, hds, S2, HO⟩
    · have hltz : ¬ (i : Int) < (b : Int) := by omega
      have e1 : dk = T := by rw [← HD.out, insOuter_end _ _ _ _ _ hlt]
      rw [e1] at S1
      go_wp2
      go_end0
      exact ⟨rfl, S1.out⟩
end Go.Proofs.YtmagfjlpjjmknaaDoor

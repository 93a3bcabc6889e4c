/- What slices.swapRangeCmpFunc and slices.rotateCmpFunc do to rows. -/
import Derived.Test.YtmagfjlpjjmknaaDoorSk
import Derived.Test.YtmagfjlpjjmknaaDoorChecked
import Derived.Shelf.SlSortCmp.Kit1
import Derived.Sort.WalkA
import Derived.Sort.WalkB2
import Derived.Sort.WalkB12
import Derived.Deep.LoopGhost
namespace Go.Proofs.YtmagfjlpjjmknaaDoor
open Go.Shelf Go.RowKit Go.Lib Go.Sort
set_option linter.unusedVariables false
variable {α : Type} [Inhabited α]
set_option maxHeartbeats 4000000 in
set_option maxRecDepth 1000000 in
theorem swapRange_any (enc : α → Value) (fv : Value) (blk off cap a b n : Nat) (d0 d : Array α) (w0 w : World) (R : Row1 enc w0 blk off d0) (hs : d0.size = d.size) (S : SB enc w0 blk off d w) (hab : a + n ≤ b) (hb : b + n ≤ d.size) (hsz : d.size < 4611686018427387904) :
    Calls Tryd.prog 69 #[.slice (some ⟨blk, off, none⟩) d.size cap, .int .i64 a, .int .i64 b, .int .i64 n, fv] w fun e w' => e = .returned (.tuple #[]) ∧ SB enc w0 blk off (swapRange d a b n) w' := by
  have mixed : Tryd.prog.follows .mixedOrders = true := by kernel_rfl
  have hcl0 := R.hO.cells
  simp only [Value.cells] at hcl0
  have hst := R.hO.store Tryd.prog
  have S0 : Aside (SB enc w0 blk off d w) := S
  clear S
  go_enter Tryd.func69, Tryd.ntmps69
  go_wp2
  go_loopg [10] n (fun kx s10 wr => ∃ (i : Nat) (dk : Array α), s10 = .int .i64 i ∧ i ≤ n ∧ n - i ≤ kx ∧ dk.size = d.size ∧ Aside (SB enc w0 blk off dk wr) ∧ Hid (dk = swapRange d a b i))
  case atStart => exact ⟨0, d, rfl, by omega, by omega, rfl, S0, (by show _ = _; rfl)⟩
  case round =>
    clear S0
    obtain ⟨i, dk, rfl, hin, hkx, hds, S1, HD⟩ := hrel
    by_cases hlt : i < n
    · have hltz : (i : Int) < (n : Int) := by omega
      go_wp2_with fail
      obtain ⟨iN1, hiN1⟩ : ∃ q, q = a + i := ⟨_, rfl⟩
      obtain ⟨jN1, hjN1⟩ : ∃ q, q = b + i := ⟨_, rfl⟩
      have ea1 : ((a : Int) + (i : Int)).toNat = iN1 := by omega
      have pa1 : (0 : Int) ≤ (a : Int) + (i : Int) := by omega
      have ba1 : (a : Int) + (i : Int) < (d.size : Int) := by omega
      have ra1 : IntKind.i64.wrap ((a : Int) + (i : Int)) = (a : Int) + (i : Int) := by rw [IntKind.wrap_i64]; omega
      have ec1 : ((b : Int) + (i : Int)).toNat = jN1 := by omega
      have pc1 : (0 : Int) ≤ (b : Int) + (i : Int) := by omega
      have bc1 : (b : Int) + (i : Int) < (d.size : Int) := by omega
      have rc1 : IntKind.i64.wrap ((b : Int) + (i : Int)) = (b : Int) + (i : Int) := by rw [IntKind.wrap_i64]; omega
      obtain ⟨x1, hx1⟩ : ∃ x, x = dk[a + i]! := ⟨_, rfl⟩
      obtain ⟨y1, hy1⟩ : ∃ x, x = dk[b + i]! := ⟨_, rfl⟩
      have S2 : Aside (SB enc w0 blk off (swp dk (a + i) (b + i)) ((wr.setCell ⟨blk, off + iN1, none⟩ (enc y1)).setCell ⟨blk, off + jN1, none⟩ (enc x1)).drew) := by rw [hiN1, hjN1, hx1, hy1]; exact S1.out.swapped R (a + i) (b + i) (by omega) (by omega)
      have c1a := S1.out.c1 R (by omega) (a + i) (by omega)
      have c1b := S1.out.c1 R (by omega) (b + i) (by omega)
      have f1a := S1.out.f1 R (by omega) (a + i) (by omega)
      have f1b := S1.out.f1 R (by omega) (b + i) (by omega)
      obtain ⟨u1, c1c⟩ := S1.out.c2 R (by omega) (a + i) (b + i) (by omega) (by omega) (enc y1)
      rw [← hjN1, ← hiN1] at c1c
      rw [← hx1, ← hiN1] at c1a
      rw [← hy1, ← hjN1] at c1b
      rw [← hiN1] at f1a
      rw [← hjN1] at f1b
      clear S1 hx1 hy1 hiN1 hjN1
      go_wp2_with fail
      go_big_region_o
      clear c1a c1b c1c f1a f1b
      generalize ((wr.setCell ⟨blk, off + iN1, none⟩ (enc y1)).setCell ⟨blk, off + jN1, none⟩ (enc x1)).drew = w2 at S2 ⊢
      clear ea1 ec1
      go_wp2
      go_roundg (n - (i + 1))
      case measure => omega
      case rel => exact ⟨i + 1, swp dk (a + i) (b + i), by go_num, by omega, by omega, by rw [size_swp]; exact hds, S2, (by show _ = _; rw [HD.out]; rfl)⟩
    · have hltz : ¬ (i : Int) < (n : Int) := by omega
      obtain rfl : i = n := by omega
      go_wp2
      go_end0
      exact ⟨rfl, by rw [← HD.out]; exact S1.out⟩
theorem rot_eq (m f i : Nat) (d : Array α) : rotLoop m (f + 1) i i d = swapRange d (m - i) m i := by rw [rotLoop, if_pos rfl]
theorem rot_gt (m f i j : Nat) (d : Array α) (h : j < i) : rotLoop m (f + 1) i j d = rotLoop m f (i - j) j (swapRange d (m - i) m j) := by rw [rotLoop, if_neg (by omega), if_pos h]
theorem rot_lt (m f i j : Nat) (d : Array α) (h : i < j) : rotLoop m (f + 1) i j d = rotLoop m f i (j - i) (swapRange d (m - i) (m + j - i) i) := by rw [rotLoop, if_neg (by omega), if_neg (by omega)]
set_option maxHeartbeats 4000000 in
set_option maxRecDepth 1000000 in
theorem rotate_any (enc : α → Value) (fv : Value) (blk off cap a m b : Nat) (d0 d : Array α) (w0 w : World) (R : Row1 enc w0 blk off d0) (hs : d0.size = d.size) (S : SB enc w0 blk off d w) (ham : a < m) (hmb : m < b) (hb : b ≤ d.size) (hsz : d.size < 4611686018427387904) :
    Calls Tryd.prog 62 #[.slice (some ⟨blk, off, none⟩) d.size cap, .int .i64 a, .int .i64 m, .int .i64 b, fv] w fun e w' => e = .returned (.tuple #[]) ∧ SB enc w0 blk off (rotLoop m (b - a) (m - a) (b - m) d) w' := by
  have S0 : Aside (SB enc w0 blk off d w) := S
  obtain ⟨T, hT⟩ : ∃ T, rotLoop m (b - a) (m - a) (b - m) d = T := ⟨_, rfl⟩
  have HT : Hid (rotLoop m (b - a) (m - a) (b - m) d = T) := hT
  rw [hT]
  have CW : Aside (∀ (p q k : Nat) (zp zq zk : Int) (dk : Array α) W, dk.size = d.size → SB enc w0 blk off dk W → p + k ≤ q → q + k ≤ d.size → (p : Int) = zp → (q : Int) = zq → (k : Int) = zk → Calls Tryd.prog 69 #[.slice (some ⟨blk, off, none⟩) d.size cap, .int .i64 zp, .int .i64 zq, .int .i64 zk, fv] W fun e w' => e = .returned (.tuple #[]) ∧ SB enc w0 blk off (swapRange dk p q k) w') := fun p q k zp zq zk dk W h1 h2 h3 h4 e1 e2 e3 => by
    subst e1 e2 e3
    have := swapRange_any enc fv blk off cap p q k d0 dk w0 W R (by omega) h2 h3 (by omega) (by omega)
    rwa [h1] at this
  clear S hT
  go_enter Tryd.func62, Tryd.ntmps62
  go_wp2
  go_loopg [10, 11] (b - a) (fun kx s10 s11 wr => ∃ (i j f : Nat) (dk : Array α), s10 = .int .i64 i ∧ s11 = .int .i64 j ∧ 1 ≤ i ∧ 1 ≤ j ∧ i ≤ m ∧ m + j ≤ d.size ∧ i + j ≤ f + 1 ∧ i + j ≤ kx ∧ dk.size = d.size ∧ Aside (SB enc w0 blk off dk wr) ∧ Hid (rotLoop m (f + 1) i j dk = T))
  case atStart => exact ⟨m - a, b - m, b - a - 1, d, by congr 1; omega, by congr 1; omega, by omega, by omega, by omega, by omega, by omega, by omega, rfl, S0, (by show _ = _; rw [← HT.out, show b - a - 1 + 1 = b - a by omega])⟩
  case round =>
    clear S0 HT
    obtain ⟨i, j, f, dk, rfl, rfl, hi1, hj1, him, hmj, hf, hkx, hds, S1, HD⟩ := hrel
    rcases Nat.lt_trichotomy i j with hij | hij | hij
    · obtain ⟨f', rfl⟩ : ∃ f', f = f' + 1 := ⟨f - 1, by omega⟩
      have t1 : ((i : Int) != (j : Int)) = true := bne_iff_ne.2 (by omega)
      have t2 : ¬ (j : Int) < (i : Int) := by omega
      have HD2 : Hid (rotLoop m (f' + 1) i (j - i) (swapRange dk (m - i) (m + j - i) i) = T) := by show _ = _; rw [← HD.out, rot_lt m _ i j dk hij]
      have hz2 := swapRange_size dk (m - i) (m + j - i) i
      have C : Aside (Calls Tryd.prog 69 #[.slice (some ⟨blk, off, none⟩) d.size cap, .int .i64 ((m : Int) - (i : Int)), .int .i64 ((m : Int) + (j : Int) - (i : Int)), .int .i64 (i : Int), fv] wr fun e w' => e = .returned (.tuple #[]) ∧ SB enc w0 blk off (swapRange dk (m - i) (m + j - i) i) w') := CW.out (m - i) (m + j - i) i _ _ _ dk wr hds S1.out (by omega) (by omega) (by omega) (by omega) rfl
      clear S1 HD CW
      go_wp2_with fail
      refine C.out.mono ?_
      rintro e w2 ⟨rfl, h2⟩
      have S2 : Aside (SB enc w0 blk off (swapRange dk (m - i) (m + j - i) i) w2) := h2
      clear h2 C
      go_wp2_with fail
      go_roundg j
      case measure => omega
      case rel => exact ⟨i, j - i, f', _, rfl, by congr 1; omega, hi1, by omega, him, by omega, by omega, by omega, by rw [hz2]; exact hds, S2, HD2⟩
    · subst hij
      have t1 : ((i : Int) != (i : Int)) = false := by simp
      have HD2 : Hid (swapRange dk (m - i) m i = T) := by show _ = _; rw [← HD.out, rot_eq]
      have C : Aside (Calls Tryd.prog 69 #[.slice (some ⟨blk, off, none⟩) d.size cap, .int .i64 ((m : Int) - (i : Int)), .int .i64 (m : Int), .int .i64 (i : Int), fv] wr fun e w' => e = .returned (.tuple #[]) ∧ SB enc w0 blk off (swapRange dk (m - i) m i) w') := CW.out (m - i) m i _ _ _ dk wr hds S1.out (by omega) (by omega) (by omega) rfl rfl
      clear S1 HD CW
      go_wp2_with fail
      refine C.out.mono ?_
      rintro e w2 ⟨rfl, h2⟩
      rw [HD2.out] at h2
      have S2 : Aside (SB enc w0 blk off T w2) := h2
      clear h2 C
      go_wp2
      go_end0
      exact ⟨rfl, S2.out⟩
    · obtain ⟨f', rfl⟩ : ∃ f', f = f' + 1 := ⟨f - 1, by omega⟩
      have t1 : ((i : Int) != (j : Int)) = true := bne_iff_ne.2 (by omega)
      have t2 : (j : Int) < (i : Int) := by omega
      have HD2 : Hid (rotLoop m (f' + 1) (i - j) j (swapRange dk (m - i) m j) = T) := by show _ = _; rw [← HD.out, rot_gt m _ i j dk hij]
      have hz2 := swapRange_size dk (m - i) m j
      have C : Aside (Calls Tryd.prog 69 #[.slice (some ⟨blk, off, none⟩) d.size cap, .int .i64 ((m : Int) - (i : Int)), .int .i64 (m : Int), .int .i64 (j : Int), fv] wr fun e w' => e = .returned (.tuple #[]) ∧ SB enc w0 blk off (swapRange dk (m - i) m j) w') := CW.out (m - i) m j _ _ _ dk wr hds S1.out (by omega) (by omega) (by omega) rfl rfl
      clear S1 HD CW
      go_wp2_with fail
      refine C.out.mono ?_
      rintro e w2 ⟨rfl, h2⟩
      have S2 : Aside (SB enc w0 blk off (swapRange dk (m - i) m j) w2) := h2
      clear h2 C
      go_wp2_with fail
      go_roundg i
      case measure => omega
      case rel => exact ⟨i - j, j, f', _, by congr 1; omega, rfl, by omega, hj1, by omega, hmj, by omega, by omega, by rw [hz2]; exact hds, S2, HD2⟩
end Go.Proofs.YtmagfjlpjjmknaaDoor

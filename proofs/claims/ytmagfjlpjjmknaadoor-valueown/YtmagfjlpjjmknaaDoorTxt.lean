/- What compareTexts answers: texts rune by rune, the first two that are unlike tell, else the shorter one is below. -/
import Derived.Test.YtmagfjlpjjmknaaDoorOrd
import Derived.Test.YtmagfjlpjjmknaaDoorShelf
import Derived.Lib.RuneCountTail
import Derived.Lib.TrimU
import Derived.Lib.QuoteLoop
import Derived.Lib.OthersKept
import Derived.Deep.LoopGhost
import Derived.Deep.DeepFit
import Derived.WalkSmall
namespace Go.Proofs.YtmagfjlpjjmknaaDoor
open Go.RowKit Go.Lib
set_option linter.unusedVariables false

/-! ### The runes from a place on -/
theorem runesFrom_fuel (s : ByteArray) : ∀ (f f' pos : Nat), s.size ≤ pos + f → s.size ≤ pos + f' → runesFrom s f pos = runesFrom s f' pos
  | 0, f', pos, h, _ => by
    have hp : ¬ pos < s.size := by omega
    cases f' with
    | zero => rfl
    | succ f' => unfold runesFrom; rw [if_neg hp]
  | f + 1, 0, pos, _, h' => by
    have hp : ¬ pos < s.size := by omega
    unfold runesFrom; rw [if_neg hp]
  | f + 1, f' + 1, pos, h, h' => by
    have hw := Lib.width_pos s pos
    unfold runesFrom
    rw [runesFrom_fuel s f f' _ (by omega) (by omega)]
def rsAt (s : ByteArray) (pos : Nat) : List Int := runesFrom s (s.size - pos) pos
theorem rsAt_zero (s : ByteArray) : rsAt s 0 = runesOf s := rfl
theorem rsAt_cons (s : ByteArray) (pos : Nat) (h : pos < s.size) : rsAt s pos = ((Utf8.decode s pos).1 : Int) :: rsAt s (pos + (Utf8.decode s pos).2) := by
  have hw := Lib.width_pos s pos
  unfold rsAt
  obtain ⟨f, hf⟩ : ∃ f, s.size - pos = f + 1 := ⟨s.size - pos - 1, by omega⟩
  rw [hf]
  conv => lhs; unfold runesFrom
  rw [if_pos h, runesFrom_fuel s f (s.size - (pos + (Utf8.decode s pos).2)) _ (by omega) (by omega)]
theorem rsAt_nil (s : ByteArray) (pos : Nat) (h : ¬ pos < s.size) : rsAt s pos = [] := by
  unfold rsAt
  rw [show s.size - pos = 0 by omega]; rfl

/-- Texts in order: rune by rune. -/
def cmpL : List Int → List Int → Int
  | [], [] => 0
  | [], _ :: _ => -1
  | _ :: _, [] => 1
  | x :: xs, y :: ys => if x = y then cmpL xs ys else cmpI x y
def cmpS (a b : ByteArray) : Int := cmpL (runesOf a) (runesOf b)

theorem decodeGo_at (s : ByteArray) (pos : Nat) (h : pos < s.size) : Lib.decodeGo (s.extract pos s.size) = Utf8.decode s pos := by
  unfold Lib.decodeGo
  rw [if_neg (by rw [Lib.tail_size]; omega), Lib.tail_decode, Nat.add_zero]
theorem width_at (s : ByteArray) (pos : Nat) (h : pos < s.size) : pos + (Utf8.decode s pos).2 ≤ s.size := by
  have := Lib.width_le (s.extract pos s.size) (by rw [Lib.tail_size]; omega)
  rw [Lib.tail_decode, Lib.tail_size, Nat.add_zero] at this
  omega
theorem extract_twice (s : ByteArray) (p k : Nat) (h : p + k ≤ s.size) : (s.extract p s.size).extract k (s.extract p s.size).size = s.extract (p + k) s.size := by
  rw [Lib.tail_size]
  apply ByteArray.ext
  rw [ByteArray.data_extract, ByteArray.data_extract, ByteArray.data_extract, Array.extract_extract, Nat.min_eq_left (by omega)]
  congr 1
  omega
theorem tail_toList_empty (s : ByteArray) (p : Nat) : (s.extract p s.size).toList.isEmpty = decide (¬ p < s.size) := by
  have hs := Lib.tail_size s p
  rw [Lib.toList_data]
  rw [Lib.size_eq] at hs
  cases h : (s.extract p s.size).data.toList with
  | nil => rw [h] at hs; simp at hs; simp; omega
  | cons x l => rw [h] at hs; simp at hs; simp; omega

set_option maxHeartbeats 1000000 in
set_option maxRecDepth 100000 in
theorem compareTexts_any (a b : ByteArray) (w : World) (hT : Lib.Utf8Tabs 0 1 w) :
    Calls Tryd.prog 25 #[.string a, .string b] w fun e w' => e = .returned (.int .i64 (cmpS a b)) ∧ Below w.heap.size w w' := by
  go_enter Tryd.func25, Tryd.ntmps25
  go_wp2
  go_loopg [5] a.size (fun gf s5 wx => ∃ pos p : Nat, s5 = .string (b.extract p b.size) ∧ p ≤ b.size ∧ wx.heap[w.heap.size]? = some (.stringIter a pos) ∧ Below w.heap.size w wx ∧ cmpL (rsAt a pos) (rsAt b p) = cmpS a b ∧ a.size ≤ pos + gf)
  case atStart => exact ⟨0, 0, by simp, by omega, World.iter_heap w a 0, (Below.refl _ w).alloc (Nat.le_refl _) _, by rw [rsAt_zero, rsAt_zero]; rfl, by omega⟩
  case round =>
    obtain ⟨pos, p, rfl, hp, hit, hbw, hleft, hfu⟩ := hrel
    by_cases hps : pos < a.size
    · obtain ⟨g', rfl⟩ : ∃ g', gk = g' + 1 := ⟨gk - 1, by omega⟩
      have hnx : ∀ ty, (Instr.next (.pointer (some ⟨w.heap.size, 0, none⟩)) true ty).run Tryd.prog wr = _ := fun ty => Lib.run_next_any_at wr w.heap.size a pos ty hit hps
      have hwd := Lib.width_pos a pos
      rw [rsAt_cons a pos hps] at hleft
      obtain ⟨R, hR⟩ : ∃ R, (Utf8.decode a pos).1 = R := ⟨_, rfl⟩
      obtain ⟨K, hK⟩ : ∃ K, (Utf8.decode a pos).2 = K := ⟨_, rfl⟩
      rw [hR, hK] at hnx hleft
      rw [hK] at hwd
      clear hR hK
      have hit2 := Lib.iterAt_heap wr w.heap.size a pos (pos + K) hit
      have hbw2 := Lib.below_iterAt hbw (k := w.heap.size) (Nat.le_refl _) a (pos + K)
      obtain ⟨W, hWd⟩ : ∃ W, wr.iterAt w.heap.size a (pos + K) = W := ⟨_, rfl⟩
      rw [hWd] at hnx hit2 hbw2
      clear hWd hit hbw
      have he := tail_toList_empty b p
      by_cases hq : p < b.size
      · have hx : (b.extract p b.size).toList.isEmpty = false := by rw [he]; simp [hq]
        clear he
        have cD := Tryd.utf8_DecodeRuneInString (b.extract p b.size) W (Utf8Tabs_below hT hbw2)
        rw [decodeGo_at b p hq] at cD
        have hw2 := width_at b p hq
        have hw3 := Lib.width_pos b p
        rw [rsAt_cons b p hq] at hleft
        obtain ⟨R2, hR2⟩ : ∃ R2, (Utf8.decode b p).1 = R2 := ⟨_, rfl⟩
        obtain ⟨K2, hK2⟩ : ∃ K2, (Utf8.decode b p).2 = K2 := ⟨_, rfl⟩
        rw [hR2, hK2] at cD hleft
        rw [hK2] at hw2 hw3
        clear hR2 hK2
        have hsl : ∀ W, (Instr.slice 9 (.string (b.extract p b.size)) (some (.int .i64 (K2 : Int))) none none).run Tryd.prog W = .ok (.string (b.extract (p + K2) b.size)) W := fun W => by
          have hz : ((K2 : Int)) ≤ ((b.extract p b.size).size : Int) := by rw [Lib.tail_size]; omega
          rw [run_slice_string_l (P := Tryd.prog) W 9 (b.extract p b.size) Tryd.underlying9 .i64 (K2 : Int) (by omega) hz]
          rw [Int.toNat_natCast, extract_twice b p K2 hw2]
        have cR := cmpRune_any (R : Int) (R2 : Int)
        by_cases hr : R = R2
        · subst hr
          have ht : ((R : Int) != (R : Int)) = false := by simp
          rw [show cmpL ((R : Int) :: rsAt a (pos + K)) ((R : Int) :: rsAt b (p + K2)) = cmpL (rsAt a (pos + K)) (rsAt b (p + K2)) by simp [cmpL]] at hleft
          go_wp2_with (go_at_call 37; go_fit cD; rintro e W1 ⟨rfl, hb1⟩)
          go_roundg g'
          case measure => omega
          case rel =>
            have hW1 : w.heap.size < W.heap.size := (Array.getElem?_eq_some_iff.1 hit2).1
            exact ⟨pos + K, p + K2, rfl, hw2, by rw [hb1.block _ hW1]; exact hit2, hbw2.trans (hb1.mono hbw2.size), hleft, by omega⟩
        · have ht : ((R : Int) != (R2 : Int)) = true := by rw [bne_iff_ne]; omega
          rw [show cmpL ((R : Int) :: rsAt a (pos + K)) ((R2 : Int) :: rsAt b (p + K2)) = cmpI R R2 by simp [cmpL]; omega] at hleft
          go_wp2_with (first | (go_at_call 37; go_fit cD; rintro e W1 ⟨rfl, hb1⟩) | (go_at_call 38; refine (cR _).mono ?_; rintro e W2 ⟨rfl, rfl⟩))
          go_ret
          exact ⟨rfl, hbw2.trans (hb1.mono hbw2.size)⟩
      · have hx : (b.extract p b.size).toList.isEmpty = true := by rw [he]; simp [hq]
        clear he
        rw [rsAt_nil b p hq] at hleft
        go_wp2
        go_ret
        exact ⟨retI hleft, hbw2⟩
    · have hnx : ∀ ty, (Instr.next (.pointer (some ⟨w.heap.size, 0, none⟩)) true ty).run Tryd.prog wr = _ := fun ty => Lib.run_next_end_at wr w.heap.size a pos ty hit hps
      have he := tail_toList_empty b p
      by_cases hq : p < b.size
      · have hx : (b.extract p b.size).toList.isEmpty = false := by rw [he]; simp [hq]
        clear he
        go_wp2
        go_ret
        refine ⟨retI ?_, hbw⟩
        rw [← hleft, rsAt_nil a pos hps, rsAt_cons b p hq]; rfl
      · have hx : (b.extract p b.size).toList.isEmpty = true := by rw [he]; simp [hq]
        clear he
        go_wp2
        go_ret
        refine ⟨retI ?_, hbw⟩
        rw [← hleft, rsAt_nil a pos hps, rsAt_nil b p hq]; rfl
end Go.Proofs.YtmagfjlpjjmknaaDoor

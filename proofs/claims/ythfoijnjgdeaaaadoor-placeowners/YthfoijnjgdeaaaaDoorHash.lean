/- What Hash answers: the bytes of a value, put one behind the other. -/
import Derived.Test.YthfoijnjgdeaaaaDoorCmp
import Derived.Deep.LoopGhost
namespace Go.Proofs.YthfoijnjgdeaaaaDoor
open Go.RowKit
set_option linter.unusedVariables false

/-- A byte is put. -/
def putB (h b : Int) : Int := IntKind.u64.wrap (bits BinOp.xor IntKind.u64 h b * 1099511628211)
def putL (h : Int) (l : List Int) : Int := l.foldl putB h
/-- The bytes of a number, the lowest one first. -/
def bytesI : Nat → Int → List Int
  | 0, _ => []
  | n + 1, r => r % 256 :: bytesI n (r / 256)
def bytesS (s : ByteArray) : List Int := s.data.toList.map fun b => (b.toNat : Int)
def hashV (v : Val) : Int :=
  putL (putB 14695981039346656037 v.k) (if v.k = 1 then [if v.b then 1 else 0] else if v.k = 2 then bytesI 8 (IntKind.u64.wrap v.n) else if v.k = 3 then bytesS v.s else [])

theorem retU {a b : Int} (h : a = b) : Ending.returned (.int .u64 a) = .returned (.int .u64 b) := by rw [h]
set_option maxHeartbeats 400000 in
theorem putByte_any (h b : Int) (w : World) (h1 : 0 ≤ b) (h2 : b ≤ 255) :
    Calls Tryd.prog 72 #[.int .u64 h, .int .u8 b] w fun e w' => e = .returned (.int .u64 (putB h b)) ∧ w' = w := by
  go_enter Tryd.func72, Tryd.ntmps72
  go_wp2
  go_ret
  exact ⟨rfl, rfl⟩
set_option maxHeartbeats 400000 in
theorem putBool_any (h : Int) (b : Bool) (w : World) :
    Calls Tryd.prog 73 #[.int .u64 h, .bool b] w fun e w' => e = .returned (.int .u64 (putB h (if b then 1 else 0))) ∧ w' = w := by
  cases b
  · have c := fun W => putByte_any h 0 W (by omega) (by omega)
    go_enter Tryd.func73, Tryd.ntmps73
    go_wp2_with (go_at_call 72; refine (c _).mono ?_; rintro e w' ⟨rfl, rfl⟩)
    go_ret
    exact ⟨retU (by simp), rfl⟩
  · have c := fun W => putByte_any h 1 W (by omega) (by omega)
    go_enter Tryd.func73, Tryd.ntmps73
    go_wp2_with (go_at_call 72; refine (c _).mono ?_; rintro e w' ⟨rfl, rfl⟩)
    go_ret
    exact ⟨retU (by simp), rfl⟩
theorem wrap_u64_bd (n : Int) : 0 ≤ IntKind.u64.wrap n ∧ IntKind.u64.wrap n ≤ 18446744073709551615 := by
  rw [show IntKind.u64.wrap n = n % 18446744073709551616 from rfl]
  omega
set_option maxHeartbeats 1000000 in
theorem putInt_core (h n r : Int) (w : World) (hr : IntKind.u64.wrap n = r) (hb0 : 0 ≤ r) (hb1 : r ≤ 18446744073709551615) :
    Calls Tryd.prog 74 #[.int .u64 h, .int .i64 n] w fun e w' => e = .returned (.int .u64 (putL h (bytesI 8 r))) ∧ w' = w := by
  go_enter Tryd.func74, Tryd.ntmps74
  go_wp2
  clear hr
  go_loop [0, 5, 8] (fun s0 s5 s8 => ∃ (k : Nat) (hk rk : Int), k ≤ 8 ∧ s0 = .int .u64 hk ∧ s5 = .int .u64 rk ∧ s8 = .int .i64 k ∧ 0 ≤ rk ∧ rk ≤ 18446744073709551615 ∧ putL hk (bytesI (8 - k) rk) = putL h (bytesI 8 r)) (fun _ _ s8 => 8 - (intOf s8).toNat)
  case atStart => exact ⟨0, h, r, by omega, rfl, rfl, rfl, hb0, hb1, rfl⟩
  case round =>
    obtain ⟨k, hk, rk, hk8, rfl, rfl, rfl, r0, r1, hp⟩ := hrel
    by_cases hlt : k < 8
    · have c := fun W => putByte_any hk (rk % 256) W (by omega) (by omega)
      have HP : Hid (putL (putB hk (rk % 256)) (bytesI (8 - (k + 1)) (rk / 256)) = putL h (bytesI 8 r)) := by
        rw [show 8 - k = (8 - (k + 1)) + 1 by omega] at hp
        exact hp
      clear hp hb0 hb1
      obtain ⟨x, hx⟩ : ∃ x, putB hk (rk % 256) = x := ⟨_, rfl⟩
      rw [hx] at c HP
      clear hx
      go_wp2_with (go_at_call 72; refine (c _).mono ?_; rintro e w' ⟨rfl, rfl⟩)
      exact ⟨⟨k + 1, x, rk / 256, by omega, rfl, rfl, by go_num, by omega, by omega, HP.out⟩, by simp [intOf]; omega⟩
    · obtain rfl : k = 8 := by omega
      have HP : Hid (hk = putL h (bytesI 8 r)) := hp
      clear hp hb0 hb1
      go_wp2
      go_ret
      exact ⟨retU HP.out, rfl⟩
theorem putInt_any (h n : Int) (w : World) :
    Calls Tryd.prog 74 #[.int .u64 h, .int .i64 n] w fun e w' => e = .returned (.int .u64 (putL h (bytesI 8 (IntKind.u64.wrap n)))) ∧ w' = w :=
  putInt_core h n _ w rfl (wrap_u64_bd n).1 (wrap_u64_bd n).2

theorem bytesS_drop (s : ByteArray) (k : Nat) (h : k < s.size) : (bytesS s).drop k = (s[k].toNat : Int) :: (bytesS s).drop (k + 1) := by
  have hl : k < (bytesS s).length := by simpa [bytesS] using h
  rw [List.drop_eq_getElem_cons hl]
  congr 1
  simp [bytesS]
  rfl
set_option maxHeartbeats 1000000 in
theorem putText_any (h : Int) (s : ByteArray) (w : World) (hs : s.size ≤ 9223372036854775807) :
    Calls Tryd.prog 75 #[.int .u64 h, .string s] w fun e w' => e = .returned (.int .u64 (putL h (bytesS s))) ∧ w' = w := by
  go_enter Tryd.func75, Tryd.ntmps75
  go_wp2
  go_loop [0, 8] (fun s0 s8 => ∃ (k : Nat) (hk : Int), k ≤ s.size ∧ s0 = .int .u64 hk ∧ s8 = .int .i64 k ∧ putL hk ((bytesS s).drop k) = putL h (bytesS s)) (fun _ s8 => s.size - (intOf s8).toNat)
  case atStart => exact ⟨0, h, by omega, rfl, rfl, rfl⟩
  case round =>
    obtain ⟨k, hk, hks, rfl, rfl, hp⟩ := hrel
    by_cases hlt : k < s.size
    · rw [bytesS_drop s k hlt] at hp
      have hby : (s[k].toNat : Int) ≤ 255 := by have := UInt8.toNat_lt s[k]; omega
      have c := fun W => putByte_any hk (s[k].toNat : Int) W (by omega) hby
      have HP : Hid (putL (putB hk (s[k].toNat : Int)) ((bytesS s).drop (k + 1)) = putL h (bytesS s)) := hp
      clear hp hby
      obtain ⟨x, hx⟩ : ∃ x, putB hk (s[k].toNat : Int) = x := ⟨_, rfl⟩
      rw [hx] at c HP
      clear hx
      go_wp2_with (go_at_call 72; refine (c _).mono ?_; rintro e w' ⟨rfl, rfl⟩)
      exact ⟨⟨k + 1, x, by omega, rfl, by go_num, HP.out⟩, by simp [intOf]; omega⟩
    · obtain rfl : k = s.size := by omega
      have HP : Hid (hk = putL h (bytesS s)) := by
        rw [List.drop_of_length_le (by simp [bytesS])] at hp
        exact hp
      clear hp
      go_wp2
      go_ret
      exact ⟨retU HP.out, rfl⟩

set_option maxHeartbeats 1000000 in
theorem hash_core (k : Int) (b : Bool) (n : Int) (s : ByteArray) (w : World) (k0 : 0 ≤ k) (k1 : k ≤ 255) (hs : s.size ≤ 9223372036854775807) :
    Calls Tryd.prog 46 #[.agg #[.int .u8 k, .bool b, .int .i64 n, .string s]] w fun e w' => e = .returned (.int .u64 (hashV ⟨k, b, n, s⟩)) ∧ Below w.heap.size w w' := by
  have c0 := fun W => putByte_any 14695981039346656037 k W k0 k1
  have bel : ∀ o, Below w.heap.size w (w.alloc o) := fun o => (Below.refl _ _).alloc (Nat.le_refl _) o
  by_cases h1 : k = 1
  · subst h1
    have hv : hashV ⟨1, b, n, s⟩ = putB (putB 14695981039346656037 1) (if b then 1 else 0) := by simp [hashV, putL]
    rw [hv]
    have c1 := fun W => putBool_any (putB 14695981039346656037 1) b W
    generalize putB (putB 14695981039346656037 1) (if b then 1 else 0) = R at c1 ⊢
    generalize putB 14695981039346656037 1 = x at c0 c1
    clear hv
    go_enter Tryd.func46, Tryd.ntmps46
    go_wp2_with (first | (go_at_call 72; refine (c0 _).mono ?_; rintro e w' ⟨rfl, rfl⟩) | (go_at_call 73; refine (c1 _).mono ?_; rintro e w' ⟨rfl, rfl⟩))
    go_ret
    exact ⟨rfl, bel _⟩
  have h1' : (k == 1) = false := beq_eq_false_iff_ne.2 h1
  by_cases h2 : k = 2
  · subst h2
    have hv : hashV ⟨2, b, n, s⟩ = putL (putB 14695981039346656037 2) (bytesI 8 (IntKind.u64.wrap n)) := by simp [hashV]
    rw [hv]
    have c1 := fun W => putInt_any (putB 14695981039346656037 2) n W
    generalize putL (putB 14695981039346656037 2) (bytesI 8 (IntKind.u64.wrap n)) = R at c1 ⊢
    generalize putB 14695981039346656037 2 = x at c0 c1
    clear hv
    go_enter Tryd.func46, Tryd.ntmps46
    go_wp2_with (first | (go_at_call 72; refine (c0 _).mono ?_; rintro e w' ⟨rfl, rfl⟩) | (go_at_call 74; refine (c1 _).mono ?_; rintro e w' ⟨rfl, rfl⟩))
    go_ret
    exact ⟨rfl, bel _⟩
  have h2' : (k == 2) = false := beq_eq_false_iff_ne.2 h2
  by_cases h3 : k = 3
  · subst h3
    have hv : hashV ⟨3, b, n, s⟩ = putL (putB 14695981039346656037 3) (bytesS s) := by simp [hashV]
    rw [hv]
    have c1 := fun W => putText_any (putB 14695981039346656037 3) s W hs
    generalize putL (putB 14695981039346656037 3) (bytesS s) = R at c1 ⊢
    generalize putB 14695981039346656037 3 = x at c0 c1
    clear hv
    go_enter Tryd.func46, Tryd.ntmps46
    go_wp2_with (first | (go_at_call 72; refine (c0 _).mono ?_; rintro e w' ⟨rfl, rfl⟩) | (go_at_call 75; refine (c1 _).mono ?_; rintro e w' ⟨rfl, rfl⟩))
    go_ret
    exact ⟨rfl, bel _⟩
  · have h3' : (k == 3) = false := beq_eq_false_iff_ne.2 h3
    have hv : hashV ⟨k, b, n, s⟩ = putB 14695981039346656037 k := by simp [hashV, putL, h1, h2, h3]
    rw [hv]
    generalize putB 14695981039346656037 k = R at c0 ⊢
    clear hv h1 h2 h3
    go_enter Tryd.func46, Tryd.ntmps46
    go_wp2_with (go_at_call 72; refine (c0 _).mono ?_; rintro e w' ⟨rfl, rfl⟩)
    go_ret
    exact ⟨rfl, bel _⟩
end Go.Proofs.YthfoijnjgdeaaaaDoor

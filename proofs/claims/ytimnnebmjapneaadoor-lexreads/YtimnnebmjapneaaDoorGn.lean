/- What the reference's Number writes. -/
import Derived.Test.YtimnnebmjapneaaDoorGe
import Derived.Lib.ItoaMem
namespace Go.Proofs.YtimnnebmjapneaaDoor
open Go.RowKit Go.Lib
set_option linter.unusedVariables false
theorem dec_step (u : Nat) (acc : List UInt8) : (if u / 10 = 0 then [] else Lib.decDigits (u / 10)) ++ UInt8.ofNat (48 + u % 10) :: acc = Lib.decDigits u ++ acc := by
  by_cases h10 : u < 10
  · rw [if_pos (by omega), Lib.decDigits_one h10, Nat.mod_eq_of_lt h10]
    rfl
  · rw [if_neg (by omega)]
    conv => rhs; rw [Lib.decDigits, dif_neg h10]
    simp
theorem digit_at (d : Nat) (h : d < 10) : (⟨#[48, 49, 50, 51, 52, 53, 54, 55, 56, 57]⟩ : ByteArray).extract d (d + 1) = ⟨#[UInt8.ofNat (48 + d)]⟩ := by
  match d, h with
  | 0, _ => rfl
  | 1, _ => rfl
  | 2, _ => rfl
  | 3, _ => rfl
  | 4, _ => rfl
  | 5, _ => rfl
  | 6, _ => rfl
  | 7, _ => rfl
  | 8, _ => rfl
  | 9, _ => rfl
theorem cat_str (a b : List UInt8) : (⟨a.toArray⟩ : ByteArray) ++ ⟨b.toArray⟩ = ⟨(a ++ b).toArray⟩ := by
  apply ByteArray.ext
  apply Array.toList_inj.1
  simp
theorem nDig_le {n : Int} (h0 : -9223372036854775808 ≤ n) (h1 : n ≤ 9223372036854775807) : Lib.nDigits n.natAbs ≤ 21 := by
  have h := Lib.itoa_length_le n h0 h1
  unfold Lib.itoa at h
  split at h
  · rw [List.length_cons, Lib.decDigits_length] at h; omega
  · rw [Lib.decDigits_length] at h
    have : n.natAbs = n.toNat := by omega
    rw [this]; exact h
/-- How many digits are still to be written. -/
def digLeft (u : Nat) (acc : List UInt8) : Nat := if u = 0 ∧ acc ≠ [] then 0 else Lib.nDigits u
def digRest (u : Nat) (acc : List UInt8) : List UInt8 := if u = 0 ∧ acc ≠ [] then [] else Lib.decDigits u
theorem rest_step (v : Nat) (acc : List UInt8) (h : ¬ (v = 0 ∧ acc ≠ [])) : digRest (v / 10) (UInt8.ofNat (48 + v % 10) :: acc) ++ UInt8.ofNat (48 + v % 10) :: acc = digRest v acc ++ acc := by
  unfold digRest
  rw [if_neg h, ← dec_step v acc]
  by_cases h0 : v / 10 = 0
  · rw [if_pos ⟨h0, by simp⟩, if_pos h0]
  · rw [if_neg (fun x => h0 x.1), if_neg h0]
theorem left_step (v g : Nat) (acc : List UInt8) (h : ¬ (v = 0 ∧ acc ≠ [])) (hg : digLeft v acc ≤ g + 1) : digLeft (v / 10) (UInt8.ofNat (48 + v % 10) :: acc) ≤ g := by
  unfold digLeft at hg ⊢
  rw [if_neg h] at hg
  by_cases h0 : v / 10 = 0
  · rw [if_pos ⟨h0, by simp⟩]; omega
  · rw [if_neg (fun x => h0 x.1)]
    rw [Lib.nDigits_big (by omega)] at hg
    omega
theorem size_mk' (d : List UInt8) : (⟨d.toArray⟩ : ByteArray).size = d.length := by show d.toArray.size = _; simp
theorem wrap_neg (u : Nat) (h1 : 1 ≤ u) (h2 : u ≤ 9223372036854775808) : IntKind.u64.wrap (-IntKind.u64.wrap (-(u : Int))) = (u : Int) := by
  have h3 : IntKind.u64.wrap (-(u : Int)) = 18446744073709551616 - (u : Int) := by
    have h : (-(u : Int)) % 18446744073709551616 = 18446744073709551616 - (u : Int) := by omega
    exact h
  rw [h3]
  have h : (-(18446744073709551616 - (u : Int))) % 18446744073709551616 = (u : Int) := by omega
  exact h
set_option maxRecDepth 100000 in
set_option maxHeartbeats 4000000 in
theorem numberT_any (n : Int) (w : World) (h0 : -9223372036854775808 ≤ n) (h1 : n ≤ 9223372036854775807) :
    Calls Tryd.prog 18 #[.int .i64 n] w fun e w' => e = .returned (.string ⟨(Lib.itoa n).toArray⟩) ∧ w' = w := by
  have hnd := nDig_le h0 h1
  by_cases hneg : n < 0
  · obtain ⟨u, rfl⟩ : ∃ u : Nat, n = -(u : Int) := ⟨n.natAbs, by omega⟩
    have hu1 : 1 ≤ u := by omega
    have hu2 : u ≤ 9223372036854775808 := by omega
    have hni : (-(u : Int)).natAbs = u := by omega
    rw [hni] at hnd
    rw [Lib.itoa_neg u hu1]
    have WN : Hid (IntKind.u64.wrap (-IntKind.u64.wrap (-(u : Int))) = (u : Int)) := wrap_neg u hu1 hu2
    have tn : (-(u : Int)) < 0 := by omega
    clear hni h0 h1 hneg
    go_enter Tryd.func18, Tryd.ntmps18
    go_wp2_with fail
    go_loopg [3, 4] 22 (fun gf s3 s4 wx => ∃ (v : Nat) (acc : List UInt8), s3 = .int .u64 v ∧ s4 = .string ⟨acc.toArray⟩ ∧ wx = w ∧ v ≤ 9223372036854775808 ∧ acc.length ≤ 21 ∧ Hid (digRest v acc ++ acc = Lib.decDigits u) ∧ digLeft v acc ≤ gf)
    case atStart => exact ⟨u, [], by rw [WN.out], rfl, rfl, by omega, by simp, (by show _ = _; simp [digRest]), by simp [digLeft]; omega⟩
    case round =>
      obtain ⟨v, acc, rfl, rfl, rfl, hv, hal, HR, hlf⟩ := hrel
      by_cases hb : v = 0 ∧ acc ≠ []
      · obtain ⟨rfl, hne⟩ := hb
        have hA : acc = Lib.decDigits u := by have := HR.out; unfold digRest at this; rwa [if_pos ⟨rfl, hne⟩] at this
        obtain ⟨c0, m, rfl⟩ : ∃ c m, acc = c :: m := by cases acc with
          | nil => exact absurd rfl hne
          | cons c m => exact ⟨c, m, rfl⟩
        have HA : Hid (c0 :: m = Lib.decDigits u) := hA
        have tne : ((⟨(c0 :: m).toArray⟩ : ByteArray).toList == []) = false := by
          have := ByteArray.toList_eq (⟨(c0 :: m).toArray⟩ : ByteArray)
          rw [this]
          rfl
        have hsz := size_mk' (c0 :: m)
        have z1 : ¬ 9223372036854775807 < (⟨#[45]⟩ : ByteArray).size + (⟨(c0 :: m).toArray⟩ : ByteArray).size := by rw [hsz]; show ¬ _ < 1 + _; omega
        obtain ⟨S, hS⟩ : ∃ S, (⟨(c0 :: m).toArray⟩ : ByteArray) = S := ⟨_, rfl⟩
        rw [hS] at tne z1 ⊢
        have HS : Hid ((⟨(c0 :: m).toArray⟩ : ByteArray) = S) := hS
        clear HR hlf hA hne hsz hS hal
        go_wp2_with fail
        go_ret
        refine ⟨?_, rfl⟩
        rw [← HS.out, HA.out]
        exact congrArg (fun x => Ending.returned (.string x)) (cat_str [45] (Lib.decDigits u))
      · obtain ⟨g', rfl⟩ : ∃ g', gk = g' + 1 := ⟨gk - 1, by
          unfold digLeft at hlf
          rw [if_neg hb] at hlf
          have := Lib.nDigits_pos v
          omega⟩
        have HR2 : Hid (digRest (v / 10) (UInt8.ofNat (48 + v % 10) :: acc) ++ UInt8.ofNat (48 + v % 10) :: acc = Lib.decDigits u) := by
          show _ = _
          rw [rest_step v acc hb]; exact HR.out
        have hlf2 := left_step v g' acc hb hlf
        have hal2 : (UInt8.ofNat (48 + v % 10) :: acc).length ≤ 21 := by
          have := congrArg List.length HR2.out
          rw [List.length_append, Lib.decDigits_length] at this
          omega
        have hd := digit_at (v % 10) (by omega)
        have hsl : ∀ W, (Instr.slice 9 (.string ⟨#[48, 49, 50, 51, 52, 53, 54, 55, 56, 57]⟩) (some (.int .u64 ((v : Int) % 10))) (some (.int .u64 ((v : Int) % 10 + 1))) none).run Tryd.prog W = .ok (.string ⟨#[UInt8.ofNat (48 + v % 10)]⟩) W := fun W => by
          rw [run_slice_string (P := Tryd.prog) W 9 _ .u64 .u64 ((v : Int) % 10) ((v : Int) % 10 + 1) Tryd.underlying9 (by omega) (by omega) (by show _ ≤ (10 : Int); omega)]
          rw [show ((v : Int) % 10).toNat = v % 10 by omega, show ((v : Int) % 10 + 1).toNat = v % 10 + 1 by omega, hd]
        have hcat := cat_str [UInt8.ofNat (48 + v % 10)] acc
        have hsz := size_mk' acc
        have z1 : ¬ 9223372036854775807 < (⟨#[UInt8.ofNat (48 + v % 10)]⟩ : ByteArray).size + (⟨acc.toArray⟩ : ByteArray).size := by rw [hsz]; show ¬ _ < 1 + _; omega
        have te : ((⟨acc.toArray⟩ : ByteArray).toList == []) = decide (acc = []) := by
          have := ByteArray.toList_eq (⟨acc.toArray⟩ : ByteArray)
          rw [this]
          cases acc <;> rfl
        have tor : decide (acc = []) = true ∨ (decide (acc = []) = false ∧ (0 : Int) < (v : Int)) := by
          by_cases h : acc = []
          · exact .inl (by simp [h])
          · refine .inr ⟨by simp [h], ?_⟩
            by_cases h0 : v = 0
            · exact absurd ⟨h0, h⟩ hb
            · omega
        obtain ⟨S, hS⟩ : ∃ S, (⟨acc.toArray⟩ : ByteArray) = S := ⟨_, rfl⟩
        rw [hS] at hcat z1 te ⊢
        obtain ⟨Q, hQ⟩ : ∃ Q, (⟨#[UInt8.ofNat (48 + v % 10)]⟩ : ByteArray) = Q := ⟨_, rfl⟩
        rw [show (⟨[UInt8.ofNat (48 + v % 10)].toArray⟩ : ByteArray) = Q from hQ] at hcat
        rw [hQ] at z1 hsl
        have HC : Hid (Q ++ S = ⟨([UInt8.ofNat (48 + v % 10)] ++ acc).toArray⟩) := hcat
        clear HR hlf hd hsz hS hQ hcat hb
        rcases tor with t1 | ⟨t1, t2⟩
        all_goals
          rw [t1] at te
          clear t1
          go_wp2_with fail
          go_roundg g'
          case measure => omega
          case rel => exact ⟨v / 10, UInt8.ofNat (48 + v % 10) :: acc, by go_num, by rw [HC.out]; rfl, rfl, by omega, hal2, HR2, hlf2⟩
  · obtain ⟨u, rfl⟩ : ∃ u : Nat, n = (u : Int) := ⟨n.natAbs, by omega⟩
    have hu2 : u ≤ 9223372036854775807 := by omega
    have hni : ((u : Int)).natAbs = u := by omega
    rw [hni] at hnd
    rw [Lib.itoa_nonneg u]
    have WN : Hid (IntKind.u64.wrap (u : Int) = (u : Int)) := by
      have h : (u : Int) % 18446744073709551616 = (u : Int) := by omega
      exact h
    have tn : ¬ ((u : Int)) < 0 := by omega
    clear hni h0 h1 hneg
    go_enter Tryd.func18, Tryd.ntmps18
    go_wp2_with fail
    go_loopg [3, 4] 22 (fun gf s3 s4 wx => ∃ (v : Nat) (acc : List UInt8), s3 = .int .u64 v ∧ s4 = .string ⟨acc.toArray⟩ ∧ wx = w ∧ v ≤ 9223372036854775808 ∧ acc.length ≤ 21 ∧ Hid (digRest v acc ++ acc = Lib.decDigits u) ∧ digLeft v acc ≤ gf)
    case atStart => exact ⟨u, [], by first | rfl | rw [WN.out], rfl, rfl, by omega, by simp, (by show _ = _; simp [digRest]), by simp [digLeft]; omega⟩
    case round =>
      obtain ⟨v, acc, rfl, rfl, rfl, hv, hal, HR, hlf⟩ := hrel
      by_cases hb : v = 0 ∧ acc ≠ []
      · obtain ⟨rfl, hne⟩ := hb
        have hA : acc = Lib.decDigits u := by have := HR.out; unfold digRest at this; rwa [if_pos ⟨rfl, hne⟩] at this
        obtain ⟨c0, m, rfl⟩ : ∃ c m, acc = c :: m := by cases acc with
          | nil => exact absurd rfl hne
          | cons c m => exact ⟨c, m, rfl⟩
        have HA : Hid (c0 :: m = Lib.decDigits u) := hA
        have tne : ((⟨(c0 :: m).toArray⟩ : ByteArray).toList == []) = false := by
          have := ByteArray.toList_eq (⟨(c0 :: m).toArray⟩ : ByteArray)
          rw [this]
          rfl
        have hsz := size_mk' (c0 :: m)
        have z1 : ¬ 9223372036854775807 < (⟨#[45]⟩ : ByteArray).size + (⟨(c0 :: m).toArray⟩ : ByteArray).size := by rw [hsz]; show ¬ _ < 1 + _; omega
        obtain ⟨S, hS⟩ : ∃ S, (⟨(c0 :: m).toArray⟩ : ByteArray) = S := ⟨_, rfl⟩
        rw [hS] at tne z1 ⊢
        have HS : Hid ((⟨(c0 :: m).toArray⟩ : ByteArray) = S) := hS
        clear HR hlf hA hne hsz hS hal
        go_wp2_with fail
        go_ret
        refine ⟨?_, rfl⟩
        rw [← HS.out, HA.out]
        rfl
      · obtain ⟨g', rfl⟩ : ∃ g', gk = g' + 1 := ⟨gk - 1, by
          unfold digLeft at hlf
          rw [if_neg hb] at hlf
          have := Lib.nDigits_pos v
          omega⟩
        have HR2 : Hid (digRest (v / 10) (UInt8.ofNat (48 + v % 10) :: acc) ++ UInt8.ofNat (48 + v % 10) :: acc = Lib.decDigits u) := by
          show _ = _
          rw [rest_step v acc hb]; exact HR.out
        have hlf2 := left_step v g' acc hb hlf
        have hal2 : (UInt8.ofNat (48 + v % 10) :: acc).length ≤ 21 := by
          have := congrArg List.length HR2.out
          rw [List.length_append, Lib.decDigits_length] at this
          omega
        have hd := digit_at (v % 10) (by omega)
        have hsl : ∀ W, (Instr.slice 9 (.string ⟨#[48, 49, 50, 51, 52, 53, 54, 55, 56, 57]⟩) (some (.int .u64 ((v : Int) % 10))) (some (.int .u64 ((v : Int) % 10 + 1))) none).run Tryd.prog W = .ok (.string ⟨#[UInt8.ofNat (48 + v % 10)]⟩) W := fun W => by
          rw [run_slice_string (P := Tryd.prog) W 9 _ .u64 .u64 ((v : Int) % 10) ((v : Int) % 10 + 1) Tryd.underlying9 (by omega) (by omega) (by show _ ≤ (10 : Int); omega)]
          rw [show ((v : Int) % 10).toNat = v % 10 by omega, show ((v : Int) % 10 + 1).toNat = v % 10 + 1 by omega, hd]
        have hcat := cat_str [UInt8.ofNat (48 + v % 10)] acc
        have hsz := size_mk' acc
        have z1 : ¬ 9223372036854775807 < (⟨#[UInt8.ofNat (48 + v % 10)]⟩ : ByteArray).size + (⟨acc.toArray⟩ : ByteArray).size := by rw [hsz]; show ¬ _ < 1 + _; omega
        have te : ((⟨acc.toArray⟩ : ByteArray).toList == []) = decide (acc = []) := by
          have := ByteArray.toList_eq (⟨acc.toArray⟩ : ByteArray)
          rw [this]
          cases acc <;> rfl
        have tor : decide (acc = []) = true ∨ (decide (acc = []) = false ∧ (0 : Int) < (v : Int)) := by
          by_cases h : acc = []
          · exact .inl (by simp [h])
          · refine .inr ⟨by simp [h], ?_⟩
            by_cases h0 : v = 0
            · exact absurd ⟨h0, h⟩ hb
            · omega
        obtain ⟨S, hS⟩ : ∃ S, (⟨acc.toArray⟩ : ByteArray) = S := ⟨_, rfl⟩
        rw [hS] at hcat z1 te ⊢
        obtain ⟨Q, hQ⟩ : ∃ Q, (⟨#[UInt8.ofNat (48 + v % 10)]⟩ : ByteArray) = Q := ⟨_, rfl⟩
        rw [show (⟨[UInt8.ofNat (48 + v % 10)].toArray⟩ : ByteArray) = Q from hQ] at hcat
        rw [hQ] at z1 hsl
        have HC : Hid (Q ++ S = ⟨([UInt8.ofNat (48 + v % 10)] ++ acc).toArray⟩) := hcat
        clear HR hlf hd hsz hS hQ hcat hb
        rcases tor with t1 | ⟨t1, t2⟩
        all_goals
          rw [t1] at te
          clear t1
          go_wp2_with fail
          go_roundg g'
          case measure => omega
          case rel => exact ⟨v / 10, UInt8.ofNat (48 + v % 10) :: acc, by go_num, by rw [HC.out]; rfl, rfl, by omega, hal2, HR2, hlf2⟩
end Go.Proofs.YtimnnebmjapneaaDoor

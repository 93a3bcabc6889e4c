/- The law LexNumbers returns true. -/
import Derived.Test.YtfpcelbpgmoadaaDoorPb
namespace Go.Proofs.YtfpcelbpgmoadaaDoor
open Go.RowKit Go.Lib Go.Sort
set_option linter.unusedVariables false
set_option linter.unusedSimpArgs false
attribute [local go_sem ↓] Go.wp_at_zero Go.wp_at_succ

theorem ba_list (l : List UInt8) : (ByteArray.mk l.toArray).data.toList = l := by simp
set_option maxRecDepth 100000 in
set_option maxHeartbeats 4000000 in
theorem numbers_any (a b : Int) (ha0 : -9223372036854775808 ≤ a) (ha1 : a ≤ 9223372036854775807) (hb0 : -9223372036854775808 ≤ b) (hb1 : b ≤ 9223372036854775807) (w : World) (hG : Glob2 w) :
    Calls Tryd.prog 3 #[.int .i64 a, .int .i64 b] w fun e w' => e = .returned (.bool true) ∧ Below w.heap.size w w' := by
  have CV : Hid (Calls Tryd.prog 9 #[] w fun e w' => e = .returned (.bool true) ∧ Below w.heap.size w w') := lives_any w hG
  have CS : Hid (∀ n W, -9223372036854775808 ≤ n → n ≤ 9223372036854775807 → Below w.heap.size w W → Calls Tryd.prog 10 #[.agg #[.int .u8 4, .string ⟨#[]⟩, .int .i64 n, .int .i64 0]] W fun e w' => e = .returned (.tuple #[.string ⟨(itoa n).toArray⟩, .int .i64 0]) ∧ Below W.heap.size W w') := fun n W h0 h1 h => by
    have := show_any ⟨4, [], n, 0⟩ W (by simp) h0 h1 (hG.below h)
    rw [show_num n h0 h1] at this
    exact this
  have hla := Lib.itoa_length_le a ha0 ha1
  have hlb := Lib.itoa_length_le b hb0 hb1
  have hcat : ((⟨(itoa a).toArray⟩ : ByteArray) ++ ⟨#[32]⟩) ++ ⟨(itoa b).toArray⟩ = ⟨(itoa a ++ [32] ++ itoa b).toArray⟩ := by
    apply ByteArray.ext
    simp
  have CL : Hid (∀ W, Below w.heap.size w W → Calls Tryd.prog 11 #[.string (((⟨(itoa a).toArray⟩ : ByteArray) ++ ⟨#[32]⟩) ++ ⟨(itoa b).toArray⟩)] W fun e w' => ∃ v, e = .returned (.tuple #[v, .int .i64 0, .int .i64 0]) ∧ LexOut W w' v [⟨4, [], a, 0⟩, ⟨4, [], b, (((itoa a).length + 1 : Nat) : Int)⟩] ∧ Below W.heap.size W w') := fun W h => by
    rw [hcat]
    have := lex_any ⟨(itoa a ++ [32] ++ itoa b).toArray⟩ W (by show (itoa a ++ [32] ++ itoa b).toArray.size ≤ _; simp; omega) (hG.below h).1
    rw [ba_list, lex_nums a b ha0 ha1 hb0 hb1] at this
    exact this
  have hij := itoa_inj a b ha0 ha1 hb0 hb1
  have HT : Hid ((itoa a == itoa b) = (a == b)) := by
    show _ = _
    rw [Bool.eq_iff_iff]
    simpa using hij
  have t1 : ¬ 9223372036854775807 < (itoa a).length + 1 := by omega
  have t2 : ¬ 9223372036854775807 < (itoa a).length + 1 + (itoa b).length := by omega
  clear hcat hG hij
  obtain ⟨m, hm⟩ : ∃ m, (itoa a).length = m := ⟨_, rfl⟩
  go_enter Tryd.func3, Tryd.ntmps3
  go_wp2_with fail
  refine CV.out.mono ?_
  rintro e w1 ⟨rfl, hb1'⟩
  have HB1 : Hid (Below w.heap.size w w1) := hb1'
  clear hb1' CV
  go_wp2_with fail
  refine (CS.out a _ ha0 ha1 HB1.out).mono ?_
  rintro e w2 ⟨rfl, hb2⟩
  have HB2 : Hid (Below w.heap.size w w2) := HB1.out.trans (hb2.mono HB1.out.size)
  clear hb2 HB1
  go_wp2_with fail
  refine (CS.out b _ hb0 hb1 HB2.out).mono ?_
  rintro e w3 ⟨rfl, hb3⟩
  have HB3 : Hid (Below w.heap.size w w3) := HB2.out.trans (hb3.mono HB2.out.size)
  clear hb3 HB2
  go_wp2_with fail
  refine (CL.out _ HB3.out).mono ?_
  rintro e w4 ⟨v, rfl, ho, hb4⟩
  obtain ⟨g, cap, rfl, hg, _, hc⟩ := own_cells ho (by simp)
  have HB4 : Hid (Below w.heap.size w w4) := HB3.out.trans (hb4.mono HB3.out.size)
  have k2 : w4.cell? ⟨g, 2, none⟩ = some (.int .i64 a) := hc 2 (by simp)
  have k6 : w4.cell? ⟨g, 6, none⟩ = some (.int .i64 b) := hc 6 (by simp)
  have k7 : w4.cell? ⟨g, 7, none⟩ = some (.int .i64 (((itoa a).length + 1 : Nat) : Int)) := hc 7 (by simp)
  clear ho hb4 hc HB3 CL CS
  simp only [List.length_cons, List.length_nil]
  have hT := HT.out
  by_cases hab : a = b
  · have q1 : (a == b) = true := by simpa using hab
    rw [q1] at hT
    clear HT hab
    go_wp2_with fail
    go_ret
    exact ⟨rfl, HB4.out⟩
  · have q1 : (a == b) = false := by simpa using hab
    rw [q1] at hT
    clear HT hab
    go_wp2_with fail
    go_ret
    exact ⟨rfl, HB4.out⟩
end Go.Proofs.YtfpcelbpgmoadaaDoor

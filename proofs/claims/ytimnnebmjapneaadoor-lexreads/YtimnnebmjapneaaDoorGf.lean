/- What the reference's number reads. -/
import Derived.Test.YtimnnebmjapneaaDoorGe
namespace Go.Proofs.YtimnnebmjapneaaDoor
open Go.RowKit Go.Lib
set_option linter.unusedVariables false
theorem size_mk (d : List UInt8) : (⟨d.toArray⟩ : ByteArray).size = d.length := by show d.toArray.size = _; simp
theorem idx_str (d : List UInt8) (i : Nat) (h : i < d.length) (W : World) : (Instr.index 9 (.string ⟨d.toArray⟩) (.int .i64 (i : Int))).run Tryd.prog W = .ok (.int .u8 ((d[i].toNat : Nat) : Int)) W := by
  have hs : i < (⟨d.toArray⟩ : ByteArray).size := by rw [size_mk]; exact h
  rw [run_index_string W 9 _ .i64 (i : Int) Tryd.underlying9]
  have h1 : (0 : Int) ≤ (i : Int) ∧ (i : Int) < ((⟨d.toArray⟩ : ByteArray).size : Int) := ⟨by omega, by omega⟩
  simp only [h1, and_self, dite_true, Int.toNat_natCast]
  rfl
theorem tail_str (c : UInt8) (d : List UInt8) (W : World) : (Instr.slice 9 (.string ⟨(c :: d).toArray⟩) (some (.int .i64 1)) none none).run Tryd.prog W = .ok (.string ⟨d.toArray⟩) W := by
  have hs : (⟨(c :: d).toArray⟩ : ByteArray).size = d.length + 1 := by rw [size_mk]; simp
  rw [run_slice_string_l (P := Tryd.prog) W 9 _ Tryd.underlying9 .i64 1 (by omega) (by rw [hs]; omega)]
  congr 2
  apply ByteArray.ext
  apply Array.toList_inj.1
  rw [tail_list]
  simp
theorem refDig_odd (neg : Bool) (d : List UInt8) (i : Nat) (h : i < d.length) (hc : ¬ (48 ≤ d[i].toNat ∧ d[i].toNat ≤ 57)) : refDig neg d = none := by
  unfold refDig
  rw [if_neg]
  rintro ⟨h', _⟩
  exact hc (h' _ (List.getElem_mem h))
theorem refDig_at (neg : Bool) (d : List UInt8) (n : Nat) (h : digVal 0 d = n) (ha : allDig d) (hn : n ≤ 9223372036854775808) (c0 : UInt8) (hh : d.head? = some c0) : refDig neg d = if (1 < d.length ∧ c0.toNat = 48) ∨ (neg = true ∧ n = 0) ∨ (neg = false ∧ 9223372036854775807 < n) then none else some (if neg then -(n : Int) else n) := by
  have h48 : d.head? = some (48 : UInt8) ↔ c0.toNat = 48 := by
    rw [hh, Option.some.injEq, ← UInt8.toNat_inj]; rfl
  unfold refDig
  rw [h]
  by_cases hc : (1 < d.length ∧ c0.toNat = 48) ∨ (neg = true ∧ n = 0) ∨ (neg = false ∧ 9223372036854775807 < n)
  · rw [if_pos hc, if_neg]
    rintro ⟨_, _, h3, h4, h5⟩
    rcases hc with hc | hc | hc
    · exact h3 ⟨hc.1, h48.2 hc.2⟩
    · exact h4 hc
    · exact h5 hc
  · rw [if_neg hc, if_pos]
    exact ⟨ha, hn, fun h => hc (.inl ⟨h.1, h48.1 h.2⟩), fun h => hc (.inr (.inl h)), fun h => hc (.inr (.inr h))⟩
theorem refDig_big (neg : Bool) (d : List UInt8) (h : 9223372036854775808 < digVal 0 d) : refDig neg d = none := by
  unfold refDig
  rw [if_neg]
  rintro ⟨_, h', _⟩
  omega
theorem wrap_low (c : Nat) (h : c < 48) : IntKind.u64.wrap ((c : Int) - 48) = (c : Int) + 18446744073709551568 := by
  have h1 : ((c : Int) - 48) % 18446744073709551616 = (c : Int) + 18446744073709551568 := by omega
  exact h1
def numV (o : Option Int) : Value := match o with
  | none => .tuple #[noTok.v, .bool false]
  | some v => .tuple #[(⟨4, [], v, 0⟩ : Tok).v, .bool true]
theorem digVal_take (d : List UInt8) (i : Nat) (h : i < d.length) : digVal 0 (d.take (i + 1)) = digVal 0 (d.take i) * 10 + (d[i].toNat - 48) := by
  rw [List.take_succ_eq_append_getElem h, digVal_app]
theorem digVal_mono (d : List UInt8) (i : Nat) : digVal 0 (d.take i) ≤ digVal 0 d := by
  suffices ∀ (l m : List UInt8) (a : Nat), digVal a l ≤ digVal a (l ++ m) by
    have := this (d.take i) (d.drop i) 0
    rwa [List.take_append_drop] at this
  intro l
  induction l with
  | nil => intro m a; exact digVal_ge m a
  | cons c l ih => intro m a; exact ih m _
set_option maxRecDepth 100000 in
set_option maxHeartbeats 4000000 in
theorem number_neg (d : List UInt8) (w : World) (hd : d ≠ []) (hl : d.length ≤ 100000) (T : Option Int) (HT : Hid (refDig true d = T)) :
    Calls Tryd.prog 41 #[.string ⟨(45 :: d).toArray⟩] w fun e w' => e = .returned (numV T) ∧ Below w.heap.size w w' := by
  obtain ⟨c0, d0, hd0⟩ : ∃ c0 d0, d = c0 :: d0 := by cases d with
    | nil => exact absurd rfl hd
    | cons c r => exact ⟨c, r, rfl⟩
  have HI : Hid (∀ (i : Nat) (h : i < d.length) (W : World), (Instr.index 9 (.string ⟨d.toArray⟩) (.int .i64 (i : Int))).run Tryd.prog W = .ok (.int .u8 ((d[i].toNat : Nat) : Int)) W) := fun i h W => idx_str d i h W
  have hsz := size_mk d
  have hix : ∀ W, (Instr.index 9 (.string ⟨(45 :: d).toArray⟩) (.int .i64 0)).run Tryd.prog W = .ok (.int .u8 45) W := fun W => idx_str (45 :: d) 0 (by simp) W
  have hsl : ∀ W, (Instr.slice 9 (.string ⟨(45 :: d).toArray⟩) (some (.int .i64 1)) none none).run Tryd.prog W = .ok (.string ⟨d.toArray⟩) W := tail_str 45 d
  generalize (⟨(45 :: d).toArray⟩ : ByteArray) = SS at hix hsl ⊢
  have hlp : 0 < d.length := List.length_pos_iff.2 hd
  have hi0 : ∀ W, (Instr.index 9 (.string ⟨d.toArray⟩) (.int .i64 0)).run Tryd.prog W = .ok (.int .u8 ((c0.toNat : Nat) : Int)) W := fun W => by
    have := HI.out 0 hlp W
    simpa [hd0] using this
  generalize (⟨d.toArray⟩ : ByteArray) = S at HI hi0 hsz hsl
  obtain ⟨hsz1, hsz2⟩ : S.size ≤ d.length ∧ d.length ≤ S.size := by omega
  clear hsz
  have HD : Hid (d = c0 :: d0) := hd0
  clear hd0 hd
  have hbW : Below w.heap.size w (w.alloc (tokO 0 ⟨#[]⟩ 0 0)) := (Below.refl _ w).alloc (Nat.le_refl _) _
  have HBL : Hid ((w.alloc (tokO 0 ⟨#[]⟩ 0 0)).heap[w.heap.size]? = some (tokO 0 ⟨#[]⟩ 0 0)) := own_new w _
  go_enter Tryd.func41, Tryd.ntmps41
  go_wp2
  go_loopg [6, 7] d.length (fun gf s6 s7 wx => ∃ (i n : Nat), s6 = .int .u64 (n : Int) ∧ s7 = .int .i64 (i : Int) ∧ i ≤ d.length ∧ Hid (wx.heap[w.heap.size]? = some (tokO 0 ⟨#[]⟩ 0 0)) ∧ Hid (Below w.heap.size w wx) ∧ Hid (n = digVal 0 (d.take i)) ∧ n ≤ 9223372036854775808 ∧ Hid (allDig (d.take i)) ∧ d.length ≤ i + gf)
  case atStart => exact ⟨0, 0, rfl, rfl, by omega, HBL, hbW, (by show _ = _; rfl), by omega, (by intro c hc; simp at hc), by omega⟩
  case round =>
    obtain ⟨i, n, rfl, rfl, hi, HBL, HB, HN, hn, HA, hgf⟩ := hrel
    obtain ⟨k0, k1, k2, k3, f0, f1, f2, f3⟩ := tok_cells HBL.out
    clear hbW
    by_cases hlt : i < d.length
    · have hlt' : (i : Int) < (S.size : Int) := by omega
      have hix2 := HI.out i hlt
      have hdm : digVal 0 (d.take (i + 1)) ≤ digVal 0 d := digVal_mono d (i + 1)
      rw [digVal_take d i hlt, ← HN.out] at hdm
      have HS : Hid (digVal 0 (d.take (i + 1)) = n * 10 + (d[i].toNat - 48)) := by show _ = _; rw [digVal_take d i hlt, ← HN.out]
      have HA2 : Hid (48 ≤ d[i].toNat ∧ d[i].toNat ≤ 57 → allDig (d.take (i + 1))) := by
        intro hc c hc2
        rw [List.take_succ_eq_append_getElem hlt] at hc2
        rcases List.mem_append.1 hc2 with h | h
        · exact HA.out c h
        · rw [List.mem_singleton.1 h]; exact hc
      have HTN : Hid (¬ (48 ≤ d[i].toNat ∧ d[i].toNat ≤ 57) → none = T) := fun hc => by
        rw [← HT.out]; exact (refDig_odd _ d i hlt hc).symm
      have HTB : Hid (9223372036854775808 < n * 10 + (d[i].toNat - 48) → none = T) := fun hc => by
        rw [← HT.out]; exact (refDig_big _ d (Nat.lt_of_lt_of_le hc hdm)).symm
      have hcb : d[i].toNat < 256 := d[i].toNat_lt
      obtain ⟨c, hc⟩ : ∃ c, d[i].toNat = c := ⟨_, rfl⟩
      rw [hc] at hix2 HS HA2 HTN HTB hcb
      clear hc hdm
      by_cases h48 : 48 ≤ c
      · by_cases h57 : c ≤ 57
        · by_cases hbig : 9223372036854775808 < n * 10 + (c - 48)
          · obtain rfl := HTB.out hbig
            have q1 : (9223372036854775808 - ((c : Int) - 48)) / 10 < (n : Int) := by omega
            clear HS HA2 HTN HTB
            go_wp2_with fail
            obtain ⟨d0', d1, d2, d3, _⟩ := tok_cells (setTok_at HBL.out 0 ⟨#[]⟩ 0 0)
            have HBt : Hid (Below w.heap.size w (setTok wr w.heap.size 0 ⟨#[]⟩ 0 0)) := setTok_below HB.out (Nat.le_refl _) _ _ _ _
            generalize hW : setTok wr w.heap.size 0 ⟨#[]⟩ 0 0 = W4 at d0' d1 d2 d3 HBt
            unfold setTok at hW
            rw [hW]
            exact bodyPost_ret (v := .tuple #[.agg #[.int .u8 0, .string ⟨#[]⟩, .int .i64 0, .int .i64 0], .bool false]) (by simp [results, Tryd.results41, go_sem, d0', d1, d2, d3]) rfl
              ⟨rfl, HBt.out⟩
          · obtain ⟨g', rfl⟩ : ∃ g', gk = g' + 1 := ⟨gk - 1, by omega⟩
            have q1 : ¬ (9223372036854775808 - ((c : Int) - 48)) / 10 < (n : Int) := by omega
            have HA3 : Hid (allDig (d.take (i + 1))) := HA2.out ⟨h48, h57⟩
            clear HTN HTB HA2
            go_wp2_with fail
            go_roundg g'
            case measure => omega
            case rel => exact ⟨i + 1, n * 10 + (c - 48), by go_num, by go_num, by omega, HBL, HB, (by show _ = _; exact HS.out.symm), by omega, HA3, by omega⟩
        · obtain rfl := HTN.out (by omega)
          clear HS HA2 HTN HTB
          go_wp2_with fail
          obtain ⟨d0', d1, d2, d3, _⟩ := tok_cells (setTok_at HBL.out 0 ⟨#[]⟩ 0 0)
          have HBt : Hid (Below w.heap.size w (setTok wr w.heap.size 0 ⟨#[]⟩ 0 0)) := setTok_below HB.out (Nat.le_refl _) _ _ _ _
          generalize hW : setTok wr w.heap.size 0 ⟨#[]⟩ 0 0 = W4 at d0' d1 d2 d3 HBt
          unfold setTok at hW
          rw [hW]
          exact bodyPost_ret (v := .tuple #[.agg #[.int .u8 0, .string ⟨#[]⟩, .int .i64 0, .int .i64 0], .bool false]) (by simp [results, Tryd.results41, go_sem, d0', d1, d2, d3]) rfl
            ⟨rfl, HBt.out⟩
      · obtain rfl := HTN.out (by omega)
        obtain ⟨X, hw, hX0, hX1⟩ : ∃ X : Int, IntKind.u64.wrap ((c : Int) - 48) = X ∧ 9 < X ∧ X < 18446744073709551616 := ⟨_, wrap_low c (by omega), by omega, by omega⟩
        clear HS HA2 HTN HTB
        go_wp2_with fail
        obtain ⟨d0', d1, d2, d3, _⟩ := tok_cells (setTok_at HBL.out 0 ⟨#[]⟩ 0 0)
        have HBt : Hid (Below w.heap.size w (setTok wr w.heap.size 0 ⟨#[]⟩ 0 0)) := setTok_below HB.out (Nat.le_refl _) _ _ _ _
        generalize hW : setTok wr w.heap.size 0 ⟨#[]⟩ 0 0 = W4 at d0' d1 d2 d3 HBt
        unfold setTok at hW
        rw [hW]
        exact bodyPost_ret (v := .tuple #[.agg #[.int .u8 0, .string ⟨#[]⟩, .int .i64 0, .int .i64 0], .bool false]) (by simp [results, Tryd.results41, go_sem, d0', d1, d2, d3]) rfl
          ⟨rfl, HBt.out⟩
    · have hlt' : ¬ (i : Int) < (S.size : Int) := by omega
      obtain rfl : i = d.length := by omega
      have hN := HN.out
      have hA := HA.out
      rw [List.take_length] at hN hA
      have hT := HT.out
      rw [refDig_at _ d n hN.symm hA hn c0 (by rw [HD.out]; rfl)] at hT
      clear HN HA HT HI hN hA
      obtain ⟨z, hz⟩ : ∃ z : Nat, c0.toNat = z := ⟨_, rfl⟩
      rw [hz] at hT hi0
      clear hz
      by_cases g1 : 1 < d.length
      · have g1' : (1 : Int) < (S.size : Int) := by omega
        by_cases hz : z = 48
        · subst hz
          obtain rfl : none = T := by rw [← hT, if_pos (Or.inl ⟨g1, rfl⟩)]
          clear hT
          go_wp2_with fail
          obtain ⟨d0', d1, d2, d3, _⟩ := tok_cells (setTok_at HBL.out 0 ⟨#[]⟩ 0 0)
          have HBt : Hid (Below w.heap.size w (setTok wr w.heap.size 0 ⟨#[]⟩ 0 0)) := setTok_below HB.out (Nat.le_refl _) _ _ _ _
          generalize hW : setTok wr w.heap.size 0 ⟨#[]⟩ 0 0 = W4 at d0' d1 d2 d3 HBt
          unfold setTok at hW
          rw [hW]
          exact bodyPost_ret (v := .tuple #[.agg #[.int .u8 0, .string ⟨#[]⟩, .int .i64 0, .int .i64 0], .bool false]) (by simp [results, Tryd.results41, go_sem, d0', d1, d2, d3]) rfl
            ⟨rfl, HBt.out⟩
        · have hz' : ((z : Int) == 48) = false := beq_eq_false_iff_ne.2 (by omega)
          by_cases hn0 : n = 0
          · subst hn0
            obtain rfl : none = T := by rw [← hT, if_pos (Or.inr (Or.inl ⟨rfl, rfl⟩))]
            clear hT
            go_wp2_with fail
            obtain ⟨d0', d1, d2, d3, _⟩ := tok_cells (setTok_at HBL.out 0 ⟨#[]⟩ 0 0)
            have HBt : Hid (Below w.heap.size w (setTok wr w.heap.size 0 ⟨#[]⟩ 0 0)) := setTok_below HB.out (Nat.le_refl _) _ _ _ _
            generalize hW : setTok wr w.heap.size 0 ⟨#[]⟩ 0 0 = W4 at d0' d1 d2 d3 HBt
            unfold setTok at hW
            rw [hW]
            exact bodyPost_ret (v := .tuple #[.agg #[.int .u8 0, .string ⟨#[]⟩, .int .i64 0, .int .i64 0], .bool false]) (by simp [results, Tryd.results41, go_sem, d0', d1, d2, d3]) rfl
              ⟨rfl, HBt.out⟩
          · have hn0' : ((n : Int) == 0) = false := beq_eq_false_iff_ne.2 (by omega)
            obtain ⟨m, rfl⟩ : ∃ m, n = m + 1 := ⟨n - 1, by omega⟩
            obtain rfl : some (-(m : Int) - 1) = T := by rw [← hT, if_neg (by skip; simp; omega)]; simp; omega
            clear hT
            go_wp2_with fail
            obtain ⟨d0', d1, d2, d3, _⟩ := tok_cells (setTok_at HBL.out 4 ⟨#[]⟩ (-(m : Int) - 1) 0)
            have HBt : Hid (Below w.heap.size w (setTok wr w.heap.size 4 ⟨#[]⟩ (-(m : Int) - 1) 0)) := setTok_below HB.out (Nat.le_refl _) _ _ _ _
            generalize hW : setTok wr w.heap.size 4 ⟨#[]⟩ (-(m : Int) - 1) 0 = W4 at d0' d1 d2 d3 HBt
            unfold setTok at hW
            rw [hW]
            exact bodyPost_ret (v := .tuple #[.agg #[.int .u8 4, .string ⟨#[]⟩, .int .i64 (-(m : Int) - 1), .int .i64 0], .bool true]) (by simp [results, Tryd.results41, go_sem, d0', d1, d2, d3]) rfl
              ⟨rfl, HBt.out⟩
      · have g1' : ¬ (1 : Int) < (S.size : Int) := by omega
        by_cases hn0 : n = 0
        · subst hn0
          obtain rfl : none = T := by rw [← hT, if_pos (Or.inr (Or.inl ⟨rfl, rfl⟩))]
          clear hT
          go_wp2_with fail
          obtain ⟨d0', d1, d2, d3, _⟩ := tok_cells (setTok_at HBL.out 0 ⟨#[]⟩ 0 0)
          have HBt : Hid (Below w.heap.size w (setTok wr w.heap.size 0 ⟨#[]⟩ 0 0)) := setTok_below HB.out (Nat.le_refl _) _ _ _ _
          generalize hW : setTok wr w.heap.size 0 ⟨#[]⟩ 0 0 = W4 at d0' d1 d2 d3 HBt
          unfold setTok at hW
          rw [hW]
          exact bodyPost_ret (v := .tuple #[.agg #[.int .u8 0, .string ⟨#[]⟩, .int .i64 0, .int .i64 0], .bool false]) (by simp [results, Tryd.results41, go_sem, d0', d1, d2, d3]) rfl
            ⟨rfl, HBt.out⟩
        · have hn0' : ((n : Int) == 0) = false := beq_eq_false_iff_ne.2 (by omega)
          obtain ⟨m, rfl⟩ : ∃ m, n = m + 1 := ⟨n - 1, by omega⟩
          obtain rfl : some (-(m : Int) - 1) = T := by rw [← hT, if_neg (by skip; simp; omega)]; simp; omega
          clear hT
          go_wp2_with fail
          obtain ⟨d0', d1, d2, d3, _⟩ := tok_cells (setTok_at HBL.out 4 ⟨#[]⟩ (-(m : Int) - 1) 0)
          have HBt : Hid (Below w.heap.size w (setTok wr w.heap.size 4 ⟨#[]⟩ (-(m : Int) - 1) 0)) := setTok_below HB.out (Nat.le_refl _) _ _ _ _
          generalize hW : setTok wr w.heap.size 4 ⟨#[]⟩ (-(m : Int) - 1) 0 = W4 at d0' d1 d2 d3 HBt
          unfold setTok at hW
          rw [hW]
          exact bodyPost_ret (v := .tuple #[.agg #[.int .u8 4, .string ⟨#[]⟩, .int .i64 (-(m : Int) - 1), .int .i64 0], .bool true]) (by simp [results, Tryd.results41, go_sem, d0', d1, d2, d3]) rfl
            ⟨rfl, HBt.out⟩
set_option maxRecDepth 100000 in
set_option maxHeartbeats 4000000 in
theorem number_pos (d : List UInt8) (w : World) (hd : d ≠ []) (hl : d.length ≤ 100000) (h45 : ∀ c r, d = c :: r → c ≠ 45) (T : Option Int) (HT : Hid (refDig false d = T)) :
    Calls Tryd.prog 41 #[.string ⟨(d).toArray⟩] w fun e w' => e = .returned (numV T) ∧ Below w.heap.size w w' := by
  obtain ⟨c0, d0, hd0⟩ : ∃ c0 d0, d = c0 :: d0 := by cases d with
    | nil => exact absurd rfl hd
    | cons c r => exact ⟨c, r, rfl⟩
  have HI : Hid (∀ (i : Nat) (h : i < d.length) (W : World), (Instr.index 9 (.string ⟨d.toArray⟩) (.int .i64 (i : Int))).run Tryd.prog W = .ok (.int .u8 ((d[i].toNat : Nat) : Int)) W) := fun i h W => idx_str d i h W
  have hsz := size_mk d
  have hlp : 0 < d.length := List.length_pos_iff.2 hd
  have hi0 : ∀ W, (Instr.index 9 (.string ⟨d.toArray⟩) (.int .i64 0)).run Tryd.prog W = .ok (.int .u8 ((c0.toNat : Nat) : Int)) W := fun W => by
    have := HI.out 0 hlp W
    simpa [hd0] using this
  have n45 : (((c0.toNat : Nat) : Int) == 45) = false := beq_eq_false_iff_ne.2 fun h => h45 c0 d0 hd0 (by apply UInt8.toNat_inj.1; show c0.toNat = 45; omega)
  generalize (⟨d.toArray⟩ : ByteArray) = S at HI hi0 hsz ⊢
  obtain ⟨hsz1, hsz2⟩ : S.size ≤ d.length ∧ d.length ≤ S.size := by omega
  clear hsz
  have HD : Hid (d = c0 :: d0) := hd0
  clear hd0 hd
  have hbW : Below w.heap.size w (w.alloc (tokO 0 ⟨#[]⟩ 0 0)) := (Below.refl _ w).alloc (Nat.le_refl _) _
  have HBL : Hid ((w.alloc (tokO 0 ⟨#[]⟩ 0 0)).heap[w.heap.size]? = some (tokO 0 ⟨#[]⟩ 0 0)) := own_new w _
  go_enter Tryd.func41, Tryd.ntmps41
  go_wp2
  go_loopg [6, 7] d.length (fun gf s6 s7 wx => ∃ (i n : Nat), s6 = .int .u64 (n : Int) ∧ s7 = .int .i64 (i : Int) ∧ i ≤ d.length ∧ Hid (wx.heap[w.heap.size]? = some (tokO 0 ⟨#[]⟩ 0 0)) ∧ Hid (Below w.heap.size w wx) ∧ Hid (n = digVal 0 (d.take i)) ∧ n ≤ 9223372036854775808 ∧ Hid (allDig (d.take i)) ∧ d.length ≤ i + gf)
  case atStart => exact ⟨0, 0, rfl, rfl, by omega, HBL, hbW, (by show _ = _; rfl), by omega, (by intro c hc; simp at hc), by omega⟩
  case round =>
    obtain ⟨i, n, rfl, rfl, hi, HBL, HB, HN, hn, HA, hgf⟩ := hrel
    obtain ⟨k0, k1, k2, k3, f0, f1, f2, f3⟩ := tok_cells HBL.out
    clear hbW
    by_cases hlt : i < d.length
    · have hlt' : (i : Int) < (S.size : Int) := by omega
      have hix2 := HI.out i hlt
      have hdm : digVal 0 (d.take (i + 1)) ≤ digVal 0 d := digVal_mono d (i + 1)
      rw [digVal_take d i hlt, ← HN.out] at hdm
      have HS : Hid (digVal 0 (d.take (i + 1)) = n * 10 + (d[i].toNat - 48)) := by show _ = _; rw [digVal_take d i hlt, ← HN.out]
      have HA2 : Hid (48 ≤ d[i].toNat ∧ d[i].toNat ≤ 57 → allDig (d.take (i + 1))) := by
        intro hc c hc2
        rw [List.take_succ_eq_append_getElem hlt] at hc2
        rcases List.mem_append.1 hc2 with h | h
        · exact HA.out c h
        · rw [List.mem_singleton.1 h]; exact hc
      have HTN : Hid (¬ (48 ≤ d[i].toNat ∧ d[i].toNat ≤ 57) → none = T) := fun hc => by
        rw [← HT.out]; exact (refDig_odd _ d i hlt hc).symm
      have HTB : Hid (9223372036854775808 < n * 10 + (d[i].toNat - 48) → none = T) := fun hc => by
        rw [← HT.out]; exact (refDig_big _ d (Nat.lt_of_lt_of_le hc hdm)).symm
      have hcb : d[i].toNat < 256 := d[i].toNat_lt
      obtain ⟨c, hc⟩ : ∃ c, d[i].toNat = c := ⟨_, rfl⟩
      rw [hc] at hix2 HS HA2 HTN HTB hcb
      clear hc hdm
      by_cases h48 : 48 ≤ c
      · by_cases h57 : c ≤ 57
        · by_cases hbig : 9223372036854775808 < n * 10 + (c - 48)
          · obtain rfl := HTB.out hbig
            have q1 : (9223372036854775808 - ((c : Int) - 48)) / 10 < (n : Int) := by omega
            clear HS HA2 HTN HTB
            go_wp2_with fail
            obtain ⟨d0', d1, d2, d3, _⟩ := tok_cells (setTok_at HBL.out 0 ⟨#[]⟩ 0 0)
            have HBt : Hid (Below w.heap.size w (setTok wr w.heap.size 0 ⟨#[]⟩ 0 0)) := setTok_below HB.out (Nat.le_refl _) _ _ _ _
            generalize hW : setTok wr w.heap.size 0 ⟨#[]⟩ 0 0 = W4 at d0' d1 d2 d3 HBt
            unfold setTok at hW
            rw [hW]
            exact bodyPost_ret (v := .tuple #[.agg #[.int .u8 0, .string ⟨#[]⟩, .int .i64 0, .int .i64 0], .bool false]) (by simp [results, Tryd.results41, go_sem, d0', d1, d2, d3]) rfl
              ⟨rfl, HBt.out⟩
          · obtain ⟨g', rfl⟩ : ∃ g', gk = g' + 1 := ⟨gk - 1, by omega⟩
            have q1 : ¬ (9223372036854775808 - ((c : Int) - 48)) / 10 < (n : Int) := by omega
            have HA3 : Hid (allDig (d.take (i + 1))) := HA2.out ⟨h48, h57⟩
            clear HTN HTB HA2
            go_wp2_with fail
            go_roundg g'
            case measure => omega
            case rel => exact ⟨i + 1, n * 10 + (c - 48), by go_num, by go_num, by omega, HBL, HB, (by show _ = _; exact HS.out.symm), by omega, HA3, by omega⟩
        · obtain rfl := HTN.out (by omega)
          clear HS HA2 HTN HTB
          go_wp2_with fail
          obtain ⟨d0', d1, d2, d3, _⟩ := tok_cells (setTok_at HBL.out 0 ⟨#[]⟩ 0 0)
          have HBt : Hid (Below w.heap.size w (setTok wr w.heap.size 0 ⟨#[]⟩ 0 0)) := setTok_below HB.out (Nat.le_refl _) _ _ _ _
          generalize hW : setTok wr w.heap.size 0 ⟨#[]⟩ 0 0 = W4 at d0' d1 d2 d3 HBt
          unfold setTok at hW
          rw [hW]
          exact bodyPost_ret (v := .tuple #[.agg #[.int .u8 0, .string ⟨#[]⟩, .int .i64 0, .int .i64 0], .bool false]) (by simp [results, Tryd.results41, go_sem, d0', d1, d2, d3]) rfl
            ⟨rfl, HBt.out⟩
      · obtain rfl := HTN.out (by omega)
        obtain ⟨X, hw, hX0, hX1⟩ : ∃ X : Int, IntKind.u64.wrap ((c : Int) - 48) = X ∧ 9 < X ∧ X < 18446744073709551616 := ⟨_, wrap_low c (by omega), by omega, by omega⟩
        clear HS HA2 HTN HTB
        go_wp2_with fail
        obtain ⟨d0', d1, d2, d3, _⟩ := tok_cells (setTok_at HBL.out 0 ⟨#[]⟩ 0 0)
        have HBt : Hid (Below w.heap.size w (setTok wr w.heap.size 0 ⟨#[]⟩ 0 0)) := setTok_below HB.out (Nat.le_refl _) _ _ _ _
        generalize hW : setTok wr w.heap.size 0 ⟨#[]⟩ 0 0 = W4 at d0' d1 d2 d3 HBt
        unfold setTok at hW
        rw [hW]
        exact bodyPost_ret (v := .tuple #[.agg #[.int .u8 0, .string ⟨#[]⟩, .int .i64 0, .int .i64 0], .bool false]) (by simp [results, Tryd.results41, go_sem, d0', d1, d2, d3]) rfl
          ⟨rfl, HBt.out⟩
    · have hlt' : ¬ (i : Int) < (S.size : Int) := by omega
      obtain rfl : i = d.length := by omega
      have hN := HN.out
      have hA := HA.out
      rw [List.take_length] at hN hA
      have hT := HT.out
      rw [refDig_at _ d n hN.symm hA hn c0 (by rw [HD.out]; rfl)] at hT
      clear HN HA HT HI hN hA
      obtain ⟨z, hz⟩ : ∃ z : Nat, c0.toNat = z := ⟨_, rfl⟩
      rw [hz] at hT hi0 n45
      clear hz
      by_cases g1 : 1 < d.length
      · have g1' : (1 : Int) < (S.size : Int) := by omega
        by_cases hz : z = 48
        · subst hz
          obtain rfl : none = T := by rw [← hT, if_pos (Or.inl ⟨g1, rfl⟩)]
          clear hT
          go_wp2_with fail
          obtain ⟨d0', d1, d2, d3, _⟩ := tok_cells (setTok_at HBL.out 0 ⟨#[]⟩ 0 0)
          have HBt : Hid (Below w.heap.size w (setTok wr w.heap.size 0 ⟨#[]⟩ 0 0)) := setTok_below HB.out (Nat.le_refl _) _ _ _ _
          generalize hW : setTok wr w.heap.size 0 ⟨#[]⟩ 0 0 = W4 at d0' d1 d2 d3 HBt
          unfold setTok at hW
          rw [hW]
          exact bodyPost_ret (v := .tuple #[.agg #[.int .u8 0, .string ⟨#[]⟩, .int .i64 0, .int .i64 0], .bool false]) (by simp [results, Tryd.results41, go_sem, d0', d1, d2, d3]) rfl
            ⟨rfl, HBt.out⟩
        · have hz' : ((z : Int) == 48) = false := beq_eq_false_iff_ne.2 (by omega)
          by_cases hn0 : 9223372036854775807 < n
          · have hn0' : (9223372036854775807 : Int) < (n : Int) := by omega
            obtain rfl : none = T := by rw [← hT, if_pos (Or.inr (Or.inr ⟨rfl, hn0⟩))]
            clear hT
            go_wp2_with fail
            obtain ⟨d0', d1, d2, d3, _⟩ := tok_cells (setTok_at HBL.out 0 ⟨#[]⟩ 0 0)
            have HBt : Hid (Below w.heap.size w (setTok wr w.heap.size 0 ⟨#[]⟩ 0 0)) := setTok_below HB.out (Nat.le_refl _) _ _ _ _
            generalize hW : setTok wr w.heap.size 0 ⟨#[]⟩ 0 0 = W4 at d0' d1 d2 d3 HBt
            unfold setTok at hW
            rw [hW]
            exact bodyPost_ret (v := .tuple #[.agg #[.int .u8 0, .string ⟨#[]⟩, .int .i64 0, .int .i64 0], .bool false]) (by simp [results, Tryd.results41, go_sem, d0', d1, d2, d3]) rfl
              ⟨rfl, HBt.out⟩
          · have hn0' : ¬ (9223372036854775807 : Int) < (n : Int) := by omega
            obtain rfl : some (n : Int) = T := by rw [← hT, if_neg (by skip; simp; omega)]; rfl
            clear hT
            go_wp2_with fail
            obtain ⟨d0', d1, d2, d3, _⟩ := tok_cells (setTok_at HBL.out 4 ⟨#[]⟩ (n : Int) 0)
            have HBt : Hid (Below w.heap.size w (setTok wr w.heap.size 4 ⟨#[]⟩ (n : Int) 0)) := setTok_below HB.out (Nat.le_refl _) _ _ _ _
            generalize hW : setTok wr w.heap.size 4 ⟨#[]⟩ (n : Int) 0 = W4 at d0' d1 d2 d3 HBt
            unfold setTok at hW
            rw [hW]
            exact bodyPost_ret (v := .tuple #[.agg #[.int .u8 4, .string ⟨#[]⟩, .int .i64 (n : Int), .int .i64 0], .bool true]) (by simp [results, Tryd.results41, go_sem, d0', d1, d2, d3]) rfl
              ⟨rfl, HBt.out⟩
      · have g1' : ¬ (1 : Int) < (S.size : Int) := by omega
        by_cases hn0 : 9223372036854775807 < n
        · have hn0' : (9223372036854775807 : Int) < (n : Int) := by omega
          obtain rfl : none = T := by rw [← hT, if_pos (Or.inr (Or.inr ⟨rfl, hn0⟩))]
          clear hT
          go_wp2_with fail
          obtain ⟨d0', d1, d2, d3, _⟩ := tok_cells (setTok_at HBL.out 0 ⟨#[]⟩ 0 0)
          have HBt : Hid (Below w.heap.size w (setTok wr w.heap.size 0 ⟨#[]⟩ 0 0)) := setTok_below HB.out (Nat.le_refl _) _ _ _ _
          generalize hW : setTok wr w.heap.size 0 ⟨#[]⟩ 0 0 = W4 at d0' d1 d2 d3 HBt
          unfold setTok at hW
          rw [hW]
          exact bodyPost_ret (v := .tuple #[.agg #[.int .u8 0, .string ⟨#[]⟩, .int .i64 0, .int .i64 0], .bool false]) (by simp [results, Tryd.results41, go_sem, d0', d1, d2, d3]) rfl
            ⟨rfl, HBt.out⟩
        · have hn0' : ¬ (9223372036854775807 : Int) < (n : Int) := by omega
          obtain rfl : some (n : Int) = T := by rw [← hT, if_neg (by skip; simp; omega)]; rfl
          clear hT
          go_wp2_with fail
          obtain ⟨d0', d1, d2, d3, _⟩ := tok_cells (setTok_at HBL.out 4 ⟨#[]⟩ (n : Int) 0)
          have HBt : Hid (Below w.heap.size w (setTok wr w.heap.size 4 ⟨#[]⟩ (n : Int) 0)) := setTok_below HB.out (Nat.le_refl _) _ _ _ _
          generalize hW : setTok wr w.heap.size 4 ⟨#[]⟩ (n : Int) 0 = W4 at d0' d1 d2 d3 HBt
          unfold setTok at hW
          rw [hW]
          exact bodyPost_ret (v := .tuple #[.agg #[.int .u8 4, .string ⟨#[]⟩, .int .i64 (n : Int), .int .i64 0], .bool true]) (by simp [results, Tryd.results41, go_sem, d0', d1, d2, d3]) rfl
            ⟨rfl, HBt.out⟩
end Go.Proofs.YtimnnebmjapneaaDoor

/- What the reference's Hash answers: what Hash answers. -/
import Derived.Test.YthfoijnjgdeaaaaDoorHash
import Derived.Test.YthfoijnjgdeaaaaDoorRb
import Derived.Laws.OwnMore
import Derived.Lib.AppendStr
import Derived.Deep.AppendLies
namespace Go.Proofs.YthfoijnjgdeaaaaDoor
open Go.RowKit Go.Lib
set_option linter.unusedVariables false

/-- Bytes' cells. -/
def flatB (ls : List Int) : List Value := ls.map fun x => .int .u8 x
theorem flatB_get (ls : List Int) (j : Nat) (h : j < ls.length) : (flatB ls)[j]? = some (.int .u8 ls[j]) := by
  simp [flatB, h]
theorem info5 : (Tryd.prog.info? 5).map (fun i => (i.zero, i.size, i.bytes)) = some (some (.int .u8 0), 1, 1) := by kernel_rfl
def inB (l : List Int) : Prop := ∀ x ∈ l, 0 ≤ x ∧ x ≤ 255

theorem cell_one_at (w : World) (a : Value) (t : TypeId) (g : Nat) (hg : g = w.heap.size) : ∀ j u, [a][j]? = some u → (w.alloc (.cells #[a] t)).cell? ((⟨g, 0, none⟩ : Addr).add j) = some u := by
  subst hg
  exact cell_one_new w a t
theorem lit_own (w : World) (o1 : Obj) (k : Int) : ((w.alloc o1).alloc (.cells #[.int .u8 k] 5)).ownsRow (w.heap.size + 1) 5 1 (.slice (some ⟨w.heap.size + 1, 0, none⟩) 1 1) 1 (flatB [k]) := by
  have h := World.ownsRow_lit (base := w.heap.size + 1) (e := 5) (size := 1) (w.alloc o1) #[.int .u8 k] 1 (by simp) (by unfold maxLen; omega) rfl
  simpa [flatB] using h
theorem cells_own {w : World} {base g m cap : Nat} {l : List Int} (h : w.ownsRow base 5 1 (.slice (some ⟨g, 0, none⟩) m cap) m (flatB l)) (hl : l.length = m) : ∀ j (h : j < l.length), w.cell? ⟨g, j, none⟩ = some (.int .u8 l[j]) := by
  intro j hj
  rw [h.cellAt j (by omega)]
  exact flatB_get l j hj
set_option maxRecDepth 100000 in
set_option maxHeartbeats 2000000 in
theorem hashRef_none (k : Int) (b : Bool) (n : Int) (s : ByteArray) (w : World) (k0 : 0 ≤ k) (k1 : k ≤ 255) (h1 : k ≠ 1) (h2 : k ≠ 2) (h3 : k ≠ 3) (R : Int) (HR : Hid (hashV ⟨k, b, n, s⟩ = R)) :
    Calls Tryd.prog 47 #[.agg #[.int .u8 k, .bool b, .int .i64 n, .string s]] w fun e w' => e = .returned (.int .u64 R) ∧ Below w.heap.size w w' := by
  obtain ⟨l, hl⟩ : ∃ l : List Int, l = [k] := ⟨_, rfl⟩
  have HL : Hid (putL 14695981039346656037 l = R) := by
    show _ = _
    rw [← HR.out, hl]
    simp [hashV, putL, h1, h2, h3]
  have HI : Hid (inB l) := by
    show inB l
    rw [hl]
    intro x hx
    simp at hx
    omega
  have HN : Hid (l.length = 1) := by show _ = _; rw [hl]; rfl
  have h1' : (k == 1) = false := beq_eq_false_iff_ne.2 h1
  have h2' : (k == 2) = false := beq_eq_false_iff_ne.2 h2
  have h3' : (k == 3) = false := beq_eq_false_iff_ne.2 h3
  have HC0 : Hid (∀ o1 : Obj, ∀ j (h : j < l.length), ((w.alloc o1).alloc (.cells #[.int .u8 k] 5)).cell? ⟨w.heap.size + 1, j, none⟩ = some (.int .u8 l[j])) := by
    intro o1 j hj
    subst hl
    have hj0 : j = 0 := by simpa using hj
    subst hj0
    simp
  clear h1 h2 h3 HR hl
  go_enter Tryd.func47, Tryd.ntmps47
  go_wp2
  have HC := HC0.out (.cells #[.int .u8 k, .bool b, .int .i64 n, .string s] 64)
  have HB : Hid (Below w.heap.size w ((w.alloc (.cells #[.int .u8 k, .bool b, .int .i64 n, .string s] 64)).alloc (.cells #[.int .u8 k] 5))) := below_two _ _
  generalize (w.alloc (.cells #[.int .u8 k, .bool b, .int .i64 n, .string s] 64)).alloc (.cells #[.int .u8 k] 5) = W at HC HB ⊢
  have HC : Hid (∀ j (h : j < l.length), W.cell? ⟨w.heap.size + 1, j, none⟩ = some (.int .u8 l[j])) := HC
  go_loop [7, 48] (fun s7 s48 => ∃ (j : Nat) (hj : Int), j ≤ 1 ∧ s7 = .int .u64 hj ∧ s48 = .int .i64 j ∧ Hid (putL hj (l.drop j) = R)) (fun _ s48 => 1 - (RowKit.intOf s48).toNat)
  case atStart => exact ⟨0, _, by omega, rfl, rfl, HL⟩
  case round =>
    obtain ⟨j, hj, hle, rfl, rfl, hp⟩ := hrel
    by_cases hlt : j < 1
    · have hj' : j < l.length := by have := HN.out; omega
      have hr := HC.out j hj'
      have hd := List.drop_eq_getElem_cons hj'
      have hin := HI.out _ (List.getElem_mem hj')
      obtain ⟨x, hx⟩ : ∃ x, l[j] = x := ⟨_, rfl⟩
      rw [hx] at hr hd hin
      have HP : Hid (putL (putB hj x) (l.drop (j + 1)) = R) := by
        have := hp.out
        rw [hd] at this
        exact this
      obtain ⟨q1, q2⟩ := hin
      clear hx hd hp hj'
      go_wp2
      exact ⟨⟨j + 1, putB hj x, by omega, rfl, by go_num, HP⟩, by simp [RowKit.intOf]; omega⟩
    · obtain rfl : j = 1 := by omega
      have HP : Hid (hj = R) := by
        have := hp.out
        rw [List.drop_of_length_le (by have := HN.out; omega)] at this
        exact this
      clear hp
      go_wp2
      go_ret
      exact ⟨retU HP.out, HB.out⟩
set_option maxRecDepth 100000 in
set_option maxHeartbeats 2000000 in
theorem hashRef_bool (b : Bool) (n : Int) (s : ByteArray) (w : World) (R : Int) (HR : Hid (hashV ⟨1, b, n, s⟩ = R)) :
    Calls Tryd.prog 47 #[.agg #[.int .u8 1, .bool b, .int .i64 n, .string s]] w fun e w' => e = .returned (.int .u64 R) ∧ Below w.heap.size w w' := by
  obtain ⟨i0, hi, hz0, hz1, hz2⟩ := info_parts info5
  obtain ⟨l, hl⟩ : ∃ l : List Int, l = [1, if b then 1 else 0] := ⟨_, rfl⟩
  have HL : Hid (putL 14695981039346656037 l = R) := by
    show _ = _
    rw [← HR.out, hl]
    simp [hashV, putL]
  have HI : Hid (inB l) := by
    show inB l
    rw [hl]
    intro x hx
    cases b <;> simp at hx <;> omega
  have HN : Hid (l.length = 2) := by show _ = _; rw [hl]; rfl
  have HF : Hid (flatB l = flatB [1] ++ [.int .u8 (if b then 1 else 0)]) := by show _ = _; rw [hl]; rfl
  have OW : Hid (∀ o1 : Obj, ((w.alloc o1).alloc (.cells #[.int .u8 1] 5)).ownsRow (w.heap.size + 1) 5 1 (.slice (some ⟨w.heap.size + 1, 0, none⟩) 1 1) 1 (flatB [1])) := fun o1 => lit_own w o1 1
  have B0 : Hid (∀ o1 o2 o3 : Obj, Below w.heap.size w (((w.alloc o1).alloc o2).alloc o3)) := fun o1 o2 o3 => (below_two o1 o2).alloc (by simp; omega) o3
  clear HR hl
  cases b
  · go_enter Tryd.func47, Tryd.ntmps47
    go_wp2_with (at_builtin; refine wpList_append_own _ rfl _ _ 108 rfl (w.heap.size + 1) 5 i0 (.int .u8 0) 1 1 Tryd.underlying108 hi hz0 hz1 hz2 rfl (by decide) _ 1 (flatB [1]) rfl ((OW.out _).alloc _) ⟨_, 0, none⟩ 1 1 [.int .u8 0] rfl rfl (cell_one_at _ _ _ _ (by simp)) (fun x hx => by simp at hx; subst hx; rfl) (by unfold maxLen; omega) (by omega) (by simp <;> omega) ?_; intro v' W hown' hgrow3 hnil3; obtain ⟨g, cap, rfl, hg1, hg2⟩ := hown'.form (by omega))
    have HB : Hid (Below w.heap.size w W) := Below.grown (B0.out _ _ _) hgrow3 (by simp <;> omega) (fun j hj => by have := ((OW.out (.cells #[] 0)).lt j hj).1; omega)
    have HC : Hid (∀ j (h : j < l.length), W.cell? ⟨g, j, none⟩ = some (.int .u8 l[j])) := cells_own (by rw [HF.out]; exact hown') HN.out
    clear hown' hgrow3 hnil3
    go_loop [7, 48] (fun s7 s48 => ∃ (j : Nat) (hj : Int), j ≤ 2 ∧ s7 = .int .u64 hj ∧ s48 = .int .i64 j ∧ Hid (putL hj (l.drop j) = R)) (fun _ s48 => 2 - (RowKit.intOf s48).toNat)
    case atStart => exact ⟨0, _, by omega, rfl, rfl, HL⟩
    case round =>
      obtain ⟨j, hj, hle, rfl, rfl, hp⟩ := hrel
      by_cases hlt : j < 2
      · have hj' : j < l.length := by have := HN.out; omega
        have hr := HC.out j hj'
        have hd := List.drop_eq_getElem_cons hj'
        have hin := HI.out _ (List.getElem_mem hj')
        obtain ⟨x, hx⟩ : ∃ x, l[j] = x := ⟨_, rfl⟩
        rw [hx] at hr hd hin
        have HP : Hid (putL (putB hj x) (l.drop (j + 1)) = R) := by
          have := hp.out
          rw [hd] at this
          exact this
        obtain ⟨q1, q2⟩ := hin
        clear hx hd hp hj'
        go_wp2
        exact ⟨⟨j + 1, putB hj x, by omega, rfl, by go_num, HP⟩, by simp [RowKit.intOf]; omega⟩
      · obtain rfl : j = 2 := by omega
        have HP : Hid (hj = R) := by
          have := hp.out
          rw [List.drop_of_length_le (by have := HN.out; omega)] at this
          exact this
        clear hp
        go_wp2
        go_ret
        exact ⟨retU HP.out, HB.out⟩
  · go_enter Tryd.func47, Tryd.ntmps47
    go_wp2_with (at_builtin; refine wpList_append_own _ rfl _ _ 108 rfl (w.heap.size + 1) 5 i0 (.int .u8 0) 1 1 Tryd.underlying108 hi hz0 hz1 hz2 rfl (by decide) _ 1 (flatB [1]) rfl ((OW.out _).alloc _) ⟨_, 0, none⟩ 1 1 [.int .u8 1] rfl rfl (cell_one_at _ _ _ _ (by simp)) (fun x hx => by simp at hx; subst hx; rfl) (by unfold maxLen; omega) (by omega) (by simp <;> omega) ?_; intro v' W hown' hgrow3 hnil3; obtain ⟨g, cap, rfl, hg1, hg2⟩ := hown'.form (by omega))
    have HB : Hid (Below w.heap.size w W) := Below.grown (B0.out _ _ _) hgrow3 (by simp <;> omega) (fun j hj => by have := ((OW.out (.cells #[] 0)).lt j hj).1; omega)
    have HC : Hid (∀ j (h : j < l.length), W.cell? ⟨g, j, none⟩ = some (.int .u8 l[j])) := cells_own (by rw [HF.out]; exact hown') HN.out
    clear hown' hgrow3 hnil3
    go_loop [7, 48] (fun s7 s48 => ∃ (j : Nat) (hj : Int), j ≤ 2 ∧ s7 = .int .u64 hj ∧ s48 = .int .i64 j ∧ Hid (putL hj (l.drop j) = R)) (fun _ s48 => 2 - (RowKit.intOf s48).toNat)
    case atStart => exact ⟨0, _, by omega, rfl, rfl, HL⟩
    case round =>
      obtain ⟨j, hj, hle, rfl, rfl, hp⟩ := hrel
      by_cases hlt : j < 2
      · have hj' : j < l.length := by have := HN.out; omega
        have hr := HC.out j hj'
        have hd := List.drop_eq_getElem_cons hj'
        have hin := HI.out _ (List.getElem_mem hj')
        obtain ⟨x, hx⟩ : ∃ x, l[j] = x := ⟨_, rfl⟩
        rw [hx] at hr hd hin
        have HP : Hid (putL (putB hj x) (l.drop (j + 1)) = R) := by
          have := hp.out
          rw [hd] at this
          exact this
        obtain ⟨q1, q2⟩ := hin
        clear hx hd hp hj'
        go_wp2
        exact ⟨⟨j + 1, putB hj x, by omega, rfl, by go_num, HP⟩, by simp [RowKit.intOf]; omega⟩
      · obtain rfl : j = 2 := by omega
        have HP : Hid (hj = R) := by
          have := hp.out
          rw [List.drop_of_length_le (by have := HN.out; omega)] at this
          exact this
        clear hp
        go_wp2
        go_ret
        exact ⟨retU HP.out, HB.out⟩
set_option maxRecDepth 100000 in
set_option maxHeartbeats 2000000 in
theorem hashRef_text (b : Bool) (n : Int) (s : ByteArray) (w : World) (hs : s.size ≤ 140737488351232) (R : Int) (HR : Hid (hashV ⟨3, b, n, s⟩ = R)) :
    Calls Tryd.prog 47 #[.agg #[.int .u8 3, .bool b, .int .i64 n, .string s]] w fun e w' => e = .returned (.int .u64 R) ∧ Below w.heap.size w w' := by
  obtain ⟨i0, hi, hz0, hz1, hz2⟩ := info_parts info5
  obtain ⟨l, hl⟩ : ∃ l : List Int, l = 3 :: bytesS s := ⟨_, rfl⟩
  have HL : Hid (putL 14695981039346656037 l = R) := by
    show _ = _
    rw [← HR.out, hl]
    simp [hashV, putL]
  have HI : Hid (inB l) := by
    show inB l
    rw [hl]
    intro x hx
    rcases List.mem_cons.1 hx with hx | hx
    · omega
    · simp only [bytesS, List.mem_map] at hx
      obtain ⟨y, _, rfl⟩ := hx
      have := UInt8.toNat_lt y
      omega
  have HN : Hid (l.length = 1 + s.size) := by show _ = _; rw [hl]; simp [bytesS]; rw [Lib.size_eq]; simp; omega
  have HF : Hid (flatB l = flatB [3] ++ strCells s) := by show _ = _; rw [hl]; simp [flatB, bytesS, strCells, Function.comp_def]
  have OW : Hid (∀ o1 : Obj, ((w.alloc o1).alloc (.cells #[.int .u8 3] 5)).ownsRow (w.heap.size + 1) 5 1 (.slice (some ⟨w.heap.size + 1, 0, none⟩) 1 1) 1 (flatB [3])) := fun o1 => lit_own w o1 3
  have B0 : Hid (∀ o1 o2 : Obj, Below w.heap.size w ((w.alloc o1).alloc o2)) := fun o1 o2 => below_two o1 o2
  clear HR hl
  go_enter Tryd.func47, Tryd.ntmps47
  go_wp2_with (at_builtin; refine wpList_append_own_string _ rfl _ _ 108 9 rfl (w.heap.size + 1) 5 i0 Tryd.underlying108 Tryd.underlying9 hi hz0 hz1 hz2 _ 1 (flatB [3]) rfl (OW.out _) s rfl (by unfold maxLen; omega) (by omega) (by simp <;> omega) ?_; intro v' W hown' hgrow3 hnil3; obtain ⟨g, cap, rfl, hg1, hg2⟩ := hown'.form (by omega))
  have HB : Hid (Below w.heap.size w W) := Below.grown (B0.out _ _) hgrow3 (by simp <;> omega) (fun j hj => by have := ((OW.out (.cells #[] 0)).lt j hj).1; omega)
  have HC : Hid (∀ j (h : j < l.length), W.cell? ⟨g, j, none⟩ = some (.int .u8 l[j])) := cells_own (by rw [HF.out]; exact hown') HN.out
  clear hown' hgrow3 hnil3
  go_loop [7, 48] (fun s7 s48 => ∃ (j : Nat) (hj : Int), j ≤ (1 + s.size) ∧ s7 = .int .u64 hj ∧ s48 = .int .i64 j ∧ Hid (putL hj (l.drop j) = R)) (fun _ s48 => (1 + s.size) - (RowKit.intOf s48).toNat)
  case atStart => exact ⟨0, _, by omega, rfl, rfl, HL⟩
  case round =>
    obtain ⟨j, hj, hle, rfl, rfl, hp⟩ := hrel
    by_cases hlt : j < (1 + s.size)
    · have hj' : j < l.length := by have := HN.out; omega
      have hr := HC.out j hj'
      have hd := List.drop_eq_getElem_cons hj'
      have hin := HI.out _ (List.getElem_mem hj')
      obtain ⟨x, hx⟩ : ∃ x, l[j] = x := ⟨_, rfl⟩
      rw [hx] at hr hd hin
      have HP : Hid (putL (putB hj x) (l.drop (j + 1)) = R) := by
        have := hp.out
        rw [hd] at this
        exact this
      obtain ⟨q1, q2⟩ := hin
      clear hx hd hp hj'
      go_wp2
      exact ⟨⟨j + 1, putB hj x, by omega, rfl, by go_num, HP⟩, by simp [RowKit.intOf]; omega⟩
    · obtain rfl : j = (1 + s.size) := by omega
      have HP : Hid (hj = R) := by
        have := hp.out
        rw [List.drop_of_length_le (by have := HN.out; omega)] at this
        exact this
      clear hp
      go_wp2
      go_ret
      exact ⟨retU HP.out, HB.out⟩
set_option maxRecDepth 100000 in
set_option maxHeartbeats 2000000 in
theorem hashRef_int (b : Bool) (n : Int) (s : ByteArray) (w : World) (r : Int) (hr : IntKind.u64.wrap n = r) (hb0 : 0 ≤ r) (hb1 : r ≤ 18446744073709551615) (R : Int) (HR : Hid (hashV ⟨2, b, n, s⟩ = R)) :
    Calls Tryd.prog 47 #[.agg #[.int .u8 2, .bool b, .int .i64 n, .string s]] w fun e w' => e = .returned (.int .u64 R) ∧ Below w.heap.size w w' := by
  obtain ⟨i0, hi, hz0, hz1, hz2⟩ := info_parts info5
  have HL0 : Hid (putL 14695981039346656037 (2 :: bytesI 8 r) = R) := by
    show _ = _
    rw [← HR.out, ← hr]
    simp [hashV, putL]
  have OW : Hid (∀ o1 : Obj, ((w.alloc o1).alloc (.cells #[.int .u8 2] 5)).ownsRow (w.heap.size + 1) 5 1 (.slice (some ⟨w.heap.size + 1, 0, none⟩) 1 1) 1 (flatB [2])) := fun o1 => lit_own w o1 2
  have B0 : Hid (∀ o1 o2 : Obj, Below w.heap.size w ((w.alloc o1).alloc o2)) := fun o1 o2 => below_two o1 o2
  clear HR
  go_enter Tryd.func47, Tryd.ntmps47
  go_wp2
  clear hr
  go_loopg [3, 5, 6] 8 (fun gf s3 s5 s6 wx => ∃ (j : Nat) (rk : Int) (l : List Int), j ≤ 8 ∧ s5 = .int .u64 rk ∧ s6 = .int .i64 j ∧ 0 ≤ rk ∧ rk ≤ 18446744073709551615 ∧ Hid (l.length = j + 1) ∧ wx.ownsRow (w.heap.size + 1) 5 1 s3 (j + 1) (flatB l) ∧ Below w.heap.size w wx ∧ w.heap.size + 1 ≤ wx.heap.size ∧ Hid (l ++ bytesI (8 - j) rk = 2 :: bytesI 8 r) ∧ Hid (inB l) ∧ 8 ≤ j + gf)
  case atStart => exact ⟨0, r, [2], by omega, rfl, rfl, hb0, hb1, (by show _ = _; rfl), OW.out _, B0.out _ _, by simp <;> omega, (by show _ = _; rfl), (by intro x hx; simp at hx; omega), by omega⟩
  case round =>
    obtain ⟨j, rk, l, hj8, rfl, rfl, r0, r1, HN0, hown, hbw, hsz, HS, HI0, hgf⟩ := hrel
    clear hb0 hb1 OW B0
    by_cases hlt : j < 8
    · obtain ⟨g', rfl⟩ : ∃ g', gk = g' + 1 := ⟨gk - 1, by omega⟩
      have q0 : 0 ≤ rk % 256 := by omega
      have q1 : rk % 256 ≤ 255 := by omega
      go_wp2_with (at_builtin; refine wpList_append_own _ rfl _ _ 108 rfl (w.heap.size + 1) 5 i0 (.int .u8 0) 1 1 Tryd.underlying108 hi hz0 hz1 hz2 rfl (by decide) _ (j + 1) (flatB l) rfl (hown.alloc _) ⟨_, 0, none⟩ 1 1 [.int .u8 (rk % 256)] rfl rfl (cell_one_at _ _ _ _ (by simp)) (fun x hx => by simp at hx; subst hx; rfl) (by unfold maxLen; omega) (by omega) (by simp <;> omega) ?_; intro v' w3 hown' hgrow3 hnil3)
      go_roundg g'
      case measure => omega
      case rel =>
        refine ⟨j + 1, rk / 256, l ++ [rk % 256], by omega, rfl, by go_num, by omega, by omega, ?_, ?_, ?_, ?_, ?_, ?_, by omega⟩
        · show _ = _
          rw [List.length_append, HN0.out]; rfl
        · rw [show flatB (l ++ [rk % 256]) = flatB l ++ [.int .u8 (rk % 256)] by simp [flatB]]; exact hown'
        · exact Below.grown (hbw.alloc (by omega) _) hgrow3 (by simp; omega) (fun k hk => by have := (hown.lt _ hk).1; omega)
        · have := hgrow3.size; simp at this; omega
        · show _ = _
          rw [← HS.out, show 8 - j = (8 - (j + 1)) + 1 by omega, List.append_assoc]
          rfl
        · intro x hx
          rcases List.mem_append.1 hx with hx | hx
          · exact HI0.out x hx
          · simp at hx; omega
    · obtain rfl : j = 8 := by omega
      obtain ⟨g, cap, rfl, hg1, hg2⟩ := hown.form (by omega)
      have HB : Hid (Below w.heap.size w wr) := hbw
      have HN : Hid (l.length = 9) := HN0
      have HC : Hid (∀ j (h : j < l.length), wr.cell? ⟨g, j, none⟩ = some (.int .u8 l[j])) := cells_own hown HN0.out
      have HI : Hid (inB l) := HI0
      have HL : Hid (putL 14695981039346656037 l = R) := by
        show _ = _
        rw [← HL0.out, ← HS.out]
        simp [bytesI]
      clear hown hbw HN0 HI0 HS r0 r1
      go_wp2
      go_loop [7, 48] (fun s7 s48 => ∃ (j : Nat) (hj : Int), j ≤ 9 ∧ s7 = .int .u64 hj ∧ s48 = .int .i64 j ∧ Hid (putL hj (l.drop j) = R)) (fun _ s48 => 9 - (RowKit.intOf s48).toNat)
      case atStart => exact ⟨0, _, by omega, rfl, rfl, HL⟩
      case round =>
        obtain ⟨j, hj, hle, rfl, rfl, hp⟩ := hrel
        by_cases hlt : j < 9
        · have hj' : j < l.length := by have := HN.out; omega
          have hr := HC.out j hj'
          have hd := List.drop_eq_getElem_cons hj'
          have hin := HI.out _ (List.getElem_mem hj')
          obtain ⟨x, hx⟩ : ∃ x, l[j] = x := ⟨_, rfl⟩
          rw [hx] at hr hd hin
          have HP : Hid (putL (putB hj x) (l.drop (j + 1)) = R) := by
            have := hp.out
            rw [hd] at this
            exact this
          obtain ⟨q1, q2⟩ := hin
          clear hx hd hp hj'
          go_wp2
          exact ⟨⟨j + 1, putB hj x, by omega, rfl, by go_num, HP⟩, by simp [RowKit.intOf]; omega⟩
        · obtain rfl : j = 9 := by omega
          have HP : Hid (hj = R) := by
            have := hp.out
            rw [List.drop_of_length_le (by have := HN.out; omega)] at this
            exact this
          clear hp
          go_wp2
          go_ret
          exact ⟨retU HP.out, HB.out⟩
theorem hashRef_any (k : Int) (b : Bool) (n : Int) (s : ByteArray) (w : World) (k0 : 0 ≤ k) (k1 : k ≤ 255) (hs : s.size ≤ 140737488351232) :
    Calls Tryd.prog 47 #[.agg #[.int .u8 k, .bool b, .int .i64 n, .string s]] w fun e w' => e = .returned (.int .u64 (hashV ⟨k, b, n, s⟩)) ∧ Below w.heap.size w w' := by
  by_cases h1 : k = 1
  · subst h1; exact hashRef_bool b n s w _ (by show _ = _; rfl)
  by_cases h2 : k = 2
  · subst h2; exact hashRef_int b n s w _ rfl (wrap_u64_bd n).1 (wrap_u64_bd n).2 _ (by show _ = _; rfl)
  by_cases h3 : k = 3
  · subst h3; exact hashRef_text b n s w hs _ (by show _ = _; rfl)
  exact hashRef_none k b n s w k0 k1 h1 h2 h3 _ (by show _ = _; rfl)
end Go.Proofs.YthfoijnjgdeaaaaDoor

/- What wordToken answers: a number's token, an atom's, or that there is none. -/
import Derived.Test.YtnmmojhbcnlboaaGreatDoorLd
import Derived.Sort.Grow
namespace Go.Proofs.YtnmmojhbcnlboaaGreatDoor
open Go.RowKit Go.Lib Go.Sort
set_option linter.unusedVariables false

/-- What the package variables hold on which the library's functions lean. -/
def Glob (w : World) : Prop :=
  Lib.TabIs Tryz.prog w "internal/strconv.uint64pow10" .u64 Lib.pow10Tab ∧ (∃ te pe, w.cell? ⟨6, 0, none⟩ = some (.iface te pe)) ∧ (∃ te pe, w.cell? ⟨7, 0, none⟩ = some (.iface te pe))
theorem tabIs_below {n : String} {g : Nat} {k : IntKind} {zs : List Int} {w w' : World} (hg : Tryz.prog.globalNamed n = some g) (h : Lib.TabIs Tryz.prog w n k zs) (hb : Below w.heap.size w w') : Lib.TabIs Tryz.prog w' n k zs := by
  unfold Lib.TabIs World.var? at h ⊢
  rw [hg] at h ⊢
  simp only [Option.bind_some] at h ⊢
  have hlt : g < w.heap.size := by
    rcases Nat.lt_or_ge g w.heap.size with h' | h'
    · exact h'
    · rw [Array.getElem?_eq_none h'] at h; cases h
  rw [hb.block g hlt]
  exact h
theorem cell_below {w w' : World} (hb : Below w.heap.size w w') {a : Addr} {v : Value} (hc : w.cell? a = some v) : w'.cell? a = some v := (hb.cell (World.block_lt_of_cell? w a hc)).trans hc
theorem Glob.below {w w' : World} (h : Glob w) (hb : Below w.heap.size w w') : Glob w' := by
  obtain ⟨h1, ⟨te, pe, h2⟩, ⟨tf, pf, h3⟩⟩ := h
  exact ⟨tabIs_below (g := 5) (by kernel_rfl) h1 hb, ⟨te, pe, cell_below hb h2⟩, ⟨tf, pf, cell_below hb h3⟩⟩
theorem below_grow {B : Nat} {w W : World} (h : Below B w W) (hB : B ≤ W.heap.size) (k : Nat) (os : Array Obj) : Below B w (grow (W.drewN k) os) :=
  h.trans ⟨rfl, rfl, rfl, by simp [grow], fun i hi => by simp only [grow]; rw [Array.getElem?_append_left (by simpa using Nat.lt_of_lt_of_le hi hB)]; rfl⟩

/-- A token. -/
structure Tok where
  k : Int
  t : List UInt8
  n : Int
  a : Int
def Tok.v (x : Tok) : Value := .agg #[.int .u8 x.k, .string ⟨x.t.toArray⟩, .int .i64 x.n, .int .i64 x.a]
def noTok : Tok := ⟨0, [], 0, 0⟩
/-- Whether a word can be a number only. -/
def begNum (l : List UInt8) : Bool := match Lib.trimPrefix l [45] with
  | [] => false
  | c :: _ => decide (48 ≤ c.toNat) && decide (c.toNat ≤ 57)
/-- The number that a word is. -/
def numOf (l : List UInt8) : Option Int := match Lib.parseIntB 64 l with
  | .ok v => if Lib.itoa v = l then some v else none
  | _ => none
def wordTok (l : List UInt8) : Tok × Int :=
  if begNum l then (match numOf l with
    | some v => (⟨4, [], v, 0⟩, 0)
    | none => (noTok, 13))
  else if 64 < l.length then (noTok, 13) else (⟨3, l, 0, 0⟩, 0)

theorem empty_list (l : List UInt8) : (⟨l.toArray⟩ : ByteArray).toList.isEmpty = l.isEmpty := by
  rw [Lib.toList_data]
theorem beginsNumber_any (s : ByteArray) (w : World) : Calls Tryz.prog 101 #[.string s] w fun e w' => e = .returned (.bool (begNum s.data.toList)) ∧ w' = w := by
  have hT := Tryz.strings_TrimPrefix s ⟨#[45]⟩ w
  obtain ⟨d, hd⟩ : ∃ d, Lib.trimPrefix s.data.toList [45] = d := ⟨_, rfl⟩
  rw [show (⟨#[45]⟩ : ByteArray).data.toList = [45] from rfl, hd] at hT
  have HT : Hid (Calls Tryz.prog 120 #[.string s, .string ⟨#[45]⟩] w fun e w' => e = .returned (.string ⟨d.toArray⟩) ∧ w' = w) := hT
  have hE := empty_list d
  cases d with
  | nil =>
    rw [show begNum s.data.toList = false by simp [begNum, hd]]
    clear hT hd
    go_enter Tryz.func101, Tryz.ntmps101
    go_wp2_with fail
    refine HT.out.mono ?_
    rintro e w' ⟨rfl, rfl⟩
    go_wp2
    go_ret
    exact ⟨rfl, rfl⟩
  | cons c l =>
    rw [show begNum s.data.toList = (decide (48 ≤ c.toNat) && decide (c.toNat ≤ 57)) by simp [begNum, hd]]
    clear hT hd
    go_enter Tryz.func101, Tryz.ntmps101
    go_wp2_with fail
    refine HT.out.mono ?_
    rintro e w' ⟨rfl, rfl⟩
    have e0 : ((⟨(c :: l).toArray⟩ : ByteArray)[0]'(by show 0 < (c :: l).toArray.size; simp)).toNat = c.toNat := rfl
    go_wp2
    all_goals
      go_ret
      refine ⟨?_, rfl⟩
      simp only [e0] at *
      congr 1
      show Value.bool _ = Value.bool _
      congr 1
      rw [Bool.eq_iff_iff]
      simp
      try omega

theorem bytesWorld_below (w : World) (t : ByteArray) : Below w.heap.size w (Lib.bytesWorld w 5 t) := ⟨rfl, rfl, rfl, by rw [Lib.bytesWorld_size]; omega, fun j hj => Lib.bytesWorld_at_old w 5 t j hj⟩
/-- What ParseInt answers: the number, or some error. -/
theorem parseInt_any (l : List UInt8) (w : World) (hl : l.length ≤ 100000) (hG : Glob w) :
    Calls Tryz.prog 121 #[.string ⟨l.toArray⟩, .int .i64 10, .int .i64 64] w fun e w' => (∃ v x, e = .returned (.tuple #[.int .i64 v, x]) ∧ ((x = .nilIface ∧ Lib.parseIntB 64 l = .ok v ∧ -9223372036854775808 ≤ v ∧ v ≤ 9223372036854775807) ∨ ((∃ p, x = .iface 180 (.pointer (some p))) ∧ numOf l = none))) ∧ Below w.heap.size w w' := by
  obtain ⟨hP, ⟨te, pe, h5⟩, ⟨tf, pf, h6⟩⟩ := hG
  have hsz : (⟨l.toArray⟩ : ByteArray).size = l.length := by show l.toArray.size = _; simp
  have hls : (⟨l.toArray⟩ : ByteArray).data.toList = l := by simp
  cases hp : Lib.parseIntB 64 l
  case ok v =>
    have hb := Lib.parseIntB_bounds hp
    refine (Tryz.strconv_ParseInt_10_at64_ok ⟨l.toArray⟩ (by omega) v (by rw [hls]; exact hp) w).mono ?_
    rintro e w' ⟨rfl, rfl | ⟨t, rfl⟩⟩
    · exact ⟨⟨v, _, rfl, .inl ⟨rfl, rfl, hb.1, Int.le_of_lt_add_one hb.2⟩⟩, Below.refl _ _⟩
    · exact ⟨⟨v, _, rfl, .inl ⟨rfl, rfl, hb.1, Int.le_of_lt_add_one hb.2⟩⟩, bytesWorld_below w t⟩
  all_goals first
    | (refine (Any.strconv_ParseInt_10_at64_syntax Tryz.laysC174 ⟨l.toArray⟩ (by omega) (by rw [hls]; exact hp) _ w h5 (.inr ⟨_, _, rfl⟩)).mono ?_
       rintro e w' ⟨n, rfl, _, _, hb⟩
       exact ⟨⟨0, _, rfl, .inr ⟨⟨_, rfl⟩, by simp [numOf, hp]⟩⟩, hb⟩)
    | (refine (Tryz.strconv_ParseInt_10_at64_range ⟨l.toArray⟩ (by omega) (by rw [hls]; exact hp) _ w h6 (.inr ⟨_, _, rfl⟩)).mono ?_
       rintro e w' ⟨n, rfl, _, _, hb⟩
       exact ⟨⟨_, _, rfl, .inr ⟨⟨_, rfl⟩, by simp [numOf, hp]⟩⟩, hb⟩)
def numErr (l : List UInt8) : Int := if (numOf l).isSome then 0 else 13
/-- A token in memory. -/
def tokO (k : Int) (t : ByteArray) (n a : Int) : Obj := .cells #[.int .u8 k, .string t, .int .i64 n, .int .i64 a] 85
def numTok (l : List UInt8) : Tok := match numOf l with
  | some v => ⟨4, [], v, 0⟩
  | none => noTok
theorem tok_cells {W : World} {B : Nat} {k : Int} {t : ByteArray} {n a : Int} (h : W.heap[B]? = some (tokO k t n a)) :
    W.cell? ⟨B, 0, none⟩ = some (.int .u8 k) ∧ W.cell? ⟨B, 1, none⟩ = some (.string t) ∧ W.cell? ⟨B, 2, none⟩ = some (.int .i64 n) ∧ W.cell? ⟨B, 3, none⟩ = some (.int .i64 a) ∧ W.frozen? ⟨B, 0, none⟩ = false ∧ W.frozen? ⟨B, 1, none⟩ = false ∧ W.frozen? ⟨B, 2, none⟩ = false ∧ W.frozen? ⟨B, 3, none⟩ = false := by
  refine ⟨?_, ?_, ?_, ?_, ?_, ?_, ?_, ?_⟩ <;> simp [World.cell?, World.frozen?, h, tokO]
/-- A token that is written over. -/
def setTok (W : World) (B : Nat) (k : Int) (t : ByteArray) (n a : Int) : World :=
  (((W.setCell ⟨B, 0, none⟩ (.int .u8 k)).setCell ⟨B, 1, none⟩ (.string t)).setCell ⟨B, 2, none⟩ (.int .i64 n)).setCell ⟨B, 3, none⟩ (.int .i64 a)
theorem setTok_at {W : World} {B : Nat} {k0 : Int} {t0 : ByteArray} {n0 a0 : Int} (h : W.heap[B]? = some (tokO k0 t0 n0 a0)) (k : Int) (t : ByteArray) (n a : Int) : (setTok W B k t n a).heap[B]? = some (tokO k t n a) := by
  simp only [setTok, World.setCell, Array.getElem?_modify, h, if_true, Option.map_some, tokO]
  simp
theorem setTok_below {B0 : Nat} {w W : World} {B : Nat} (h : Below B0 w W) (hB : B0 ≤ B) (k : Int) (t : ByteArray) (n a : Int) : Below B0 w (setTok W B k t n a) :=
  (((h.setCell hB _).setCell hB _).setCell hB _).setCell hB _
theorem own_new (w : World) (o : Obj) : (w.alloc o).heap[w.heap.size]? = some o := by show (w.heap.push o)[w.heap.size]? = _; simp
set_option maxRecDepth 100000 in
set_option maxHeartbeats 2000000 in
theorem numberToken_any (l : List UInt8) (w : World) (hl : l.length ≤ 100000) (hG : Glob w) :
    Calls Tryz.prog 102 #[.string ⟨l.toArray⟩] w fun e w' => e = .returned (.tuple #[(numTok l).v, .int .i64 (numErr l)]) ∧ Below w.heap.size w w' := by
  have C1 : Hid (∀ W, Below w.heap.size w W → Calls Tryz.prog 121 #[.string ⟨l.toArray⟩, .int .i64 10, .int .i64 64] W fun e w' => (∃ v x, e = .returned (.tuple #[.int .i64 v, x]) ∧ ((x = .nilIface ∧ Lib.parseIntB 64 l = .ok v ∧ -9223372036854775808 ≤ v ∧ v ≤ 9223372036854775807) ∨ ((∃ p, x = .iface 180 (.pointer (some p))) ∧ numOf l = none))) ∧ Below W.heap.size W w') := fun W h => parseInt_any l W hl (hG.below h)
  have C2 : Hid (∀ v W, Below w.heap.size w W → -9223372036854775808 ≤ v → v ≤ 9223372036854775807 → Calls Tryz.prog 92 #[.int .i64 v, .int .i64 10] W fun e w' => e = .returned (.string ⟨(Lib.itoa v).toArray⟩) ∧ ∃ k os, w' = grow (W.drewN k) os) := fun v W h h0 h1 => Tryz.strconv_FormatInt_10 v h0 h1 W (hG.below h).1
  clear hG
  go_enter Tryz.func102, Tryz.ntmps102
  go_wp2_with fail
  refine (C1.out _ ((Below.refl _ w).alloc (Nat.le_refl _) _)).mono ?_
  rintro e w1 ⟨⟨v, x, rfl, ⟨rfl, hp, hv0, hv1⟩ | ⟨⟨p, rfl⟩, hp⟩⟩, hw1⟩
  · go_wp2_with fail
    refine (C2.out v w1 ((Below.refl _ w).alloc (Nat.le_refl _) _ |>.trans (hw1.mono (by simp))) hv0 hv1).mono ?_
    rintro e w2 ⟨rfl, k, os, hw2⟩
    have hb2 : Below (w.alloc (tokO 0 ⟨#[]⟩ 0 0)).heap.size (w.alloc (tokO 0 ⟨#[]⟩ 0 0)) w2 := by rw [hw2]; exact below_grow hw1 hw1.size k os
    have hbl : Hid (w2.heap[w.heap.size]? = some (tokO 0 ⟨#[]⟩ 0 0)) := (hb2.block _ (by simp)).trans (own_new w _)
    obtain ⟨c0, c1, c2, c3, f0, f1, f2, f3⟩ := tok_cells hbl.out
    have HB : Hid (Below w.heap.size w w2) := ((Below.refl _ w).alloc (Nat.le_refl _) _).trans (hb2.mono (by simp))
    have HP : Hid (Lib.parseIntB 64 l = .ok v) := hp
    clear hw2 hw1 hb2 hp C1 C2
    by_cases he : Lib.itoa v = l
    · have HE : Hid (Lib.itoa v = l) := he
      rw [he]
      clear he
      have e1 : numTok l = ⟨4, [], v, 0⟩ := by simp [numTok, numOf, HP.out, HE.out]
      have e2 : numErr l = 0 := by simp [numErr, numOf, HP.out, HE.out]
      go_wp2_with fail
      obtain ⟨d0, d1, d2, d3, _⟩ := tok_cells (setTok_at hbl.out 4 ⟨#[]⟩ v 0)
      have HBt : Hid (Below w.heap.size w (setTok w2 w.heap.size 4 ⟨#[]⟩ v 0)) := setTok_below HB.out (Nat.le_refl _) _ _ _ _
      generalize hW : setTok w2 w.heap.size 4 ⟨#[]⟩ v 0 = W4 at d0 d1 d2 d3 HBt
      unfold setTok at hW
      rw [hW]
      exact bodyPost_ret (v := .tuple #[.agg #[.int .u8 4, .string ⟨#[]⟩, .int .i64 v, .int .i64 0], .int .i64 0]) (by simp [results, Tryz.results102, go_sem, d0, d1, d2, d3]) rfl
        ⟨by rw [e1, e2]; rfl, HBt.out⟩
    · have he2 : (Lib.itoa v == l) = false := by simp [he]
      have e1 : numTok l = noTok := by simp [numTok, numOf, HP.out, he]
      have e2 : numErr l = 13 := by simp [numErr, numOf, HP.out, he]
      clear he
      go_wp2_with fail
      obtain ⟨d0, d1, d2, d3, _⟩ := tok_cells (setTok_at hbl.out 0 ⟨#[]⟩ 0 0)
      have HBt : Hid (Below w.heap.size w (setTok w2 w.heap.size 0 ⟨#[]⟩ 0 0)) := setTok_below HB.out (Nat.le_refl _) _ _ _ _
      generalize hW : setTok w2 w.heap.size 0 ⟨#[]⟩ 0 0 = W4 at d0 d1 d2 d3 HBt
      unfold setTok at hW
      rw [hW]
      exact bodyPost_ret (v := .tuple #[.agg #[.int .u8 0, .string ⟨#[]⟩, .int .i64 0, .int .i64 0], .int .i64 13]) (by simp [results, Tryz.results102, go_sem, d0, d1, d2, d3]) rfl
        ⟨by rw [e1, e2]; rfl, HBt.out⟩
  · clear C1 C2
    have hbl : Hid (w1.heap[w.heap.size]? = some (tokO 0 ⟨#[]⟩ 0 0)) := (hw1.block _ (by simp)).trans (own_new w _)
    obtain ⟨c0, c1, c2, c3, f0, f1, f2, f3⟩ := tok_cells hbl.out
    have HB : Hid (Below w.heap.size w w1) := ((Below.refl _ w).alloc (Nat.le_refl _) _).trans (hw1.mono (by simp))
    have HP : Hid (numOf l = none) := hp
    have e1 : numTok l = noTok := by simp [numTok, HP.out]
    have e2 : numErr l = 13 := by simp [numErr, HP.out]
    clear hw1 hp
    go_wp2_with fail
    obtain ⟨d0, d1, d2, d3, _⟩ := tok_cells (setTok_at hbl.out 0 ⟨#[]⟩ 0 0)
    have HBt : Hid (Below w.heap.size w (setTok w1 w.heap.size 0 ⟨#[]⟩ 0 0)) := setTok_below HB.out (Nat.le_refl _) _ _ _ _
    generalize hW : setTok w1 w.heap.size 0 ⟨#[]⟩ 0 0 = W4 at d0 d1 d2 d3 HBt
    unfold setTok at hW
    rw [hW]
    exact bodyPost_ret (v := .tuple #[.agg #[.int .u8 0, .string ⟨#[]⟩, .int .i64 0, .int .i64 0], .int .i64 13]) (by simp [results, Tryz.results102, go_sem, d0, d1, d2, d3]) rfl
      ⟨by rw [e1, e2]; rfl, HBt.out⟩
end Go.Proofs.YtnmmojhbcnlboaaGreatDoor

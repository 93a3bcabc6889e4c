/- What lettersOf makes of a text: its runes, each with whether it is a bad one. -/
import Derived.Test.YtfifphfihdhlaaaGreatDoorLbLc
import Derived.Test.YtfifphfihdhlaaaGreatDoorShelf
import Derived.Lib.RuneCount
import Derived.Lib.RuneCountTail
import Derived.Lib.TrimU
import Derived.Lib.TrimUEq
import Derived.Lib.OthersKept
import Derived.WalkKit
import Derived.WalkSpells
import Derived.Maps.AppendAt
import Derived.Sort.Grow
set_option maxRecDepth 100000
set_option maxHeartbeats 32000000
namespace Go.Proofs.YtfifphfihdhlaaaGreatDoor
open Tryz
open Go.RowKit Go.Lib
set_option linter.unusedVariables false
def badL (l : List UInt8) : Bool := decide ((decodeL l).1 = 65533) && !(Lib.hasPrefix l [239, 191, 189])
def letL : Nat → List UInt8 → List Let
 | 0, _ => []
 | n + 1, l => if l = [] then [] else (((decodeL l).1 : Int), badL l) :: letL n (l.drop (decodeL l).2)
theorem letL_nil (n : Nat) : letL n [] = [] := by cases n <;> simp [letL]
theorem letL_fuel : ∀ (n m : Nat) (l : List UInt8), l.length ≤ n → l.length ≤ m → letL n l = letL m l
 | 0, m, l, h, _ => by
  have : l = [] := List.eq_nil_of_length_eq_zero (by omega)
  subst this
  rw [letL_nil, letL_nil]
 | n + 1, 0, l, _, h => by
  have : l = [] := List.eq_nil_of_length_eq_zero (by omega)
  subst this
  rw [letL_nil, letL_nil]
 | n + 1, m + 1, l, h, h' => by
  have hw := Lib.decodeL_width l
  unfold letL
  by_cases e : l = []
  · rw [if_pos e, if_pos e]
  · rw [if_neg e, if_neg e, letL_fuel n m _ (by rw [List.length_drop]; omega) (by rw [List.length_drop]; omega)]
def lets (l : List UInt8) : List Let := letL l.length l
theorem lets_cons (l : List UInt8) (h : l ≠ []) : lets l = (((decodeL l).1 : Int), badL l) :: lets (l.drop (decodeL l).2) := by
 have hw := Lib.decodeL_width l
 have hl : 0 < l.length := by cases l with
  | nil => exact absurd rfl h
  | cons _ _ => simp
 unfold lets
 obtain ⟨n, hn⟩ : ∃ n, l.length = n + 1 := ⟨l.length - 1, by omega⟩
 rw [hn]
 conv => lhs; unfold letL
 rw [if_neg h, letL_fuel n (l.drop (decodeL l).2).length _ (by rw [List.length_drop]; omega) (Nat.le_refl _)]
theorem lets_nil : lets [] = [] := rfl
def flatT (ls : List Let) : List Value := ls.flatMap fun x => [.int .i32 x.1, .bool x.2]
theorem flatT_app (a b : List Let) : flatT (a ++ b) = flatT a ++ flatT b := by simp [flatT]
theorem flatT_get : ∀ (ls : List Let) (j : Nat) (h : j < ls.length), (flatT ls)[j * 2]? = some (.int .i32 ls[j].1) ∧ (flatT ls)[j * 2 + 1]? = some (.bool ls[j].2)
 | x :: xs, 0, _ => by simp [flatT]
 | x :: xs, j + 1, h => by
  have := flatT_get xs j (by simpa using h)
  simp only [flatT, List.flatMap_cons] at this ⊢
  rw [show (j + 1) * 2 = j * 2 + 2 by omega, show j * 2 + 2 + 1 = (j * 2 + 1) + 2 by omega]
  simpa using this
theorem info66 : (prog.info? 184).map (fun i => (i.zero, i.size, i.bytes)) = some (some (.agg #[.int .i32 0, .bool false]), 2, 8) := by kernel_rfl
theorem ownsRow_iterAt {w : World} {base : Nat} {e : TypeId} {size : Nat} {v : Value} {n : Nat} {xs : List Value} (h : w.ownsRow base e size v n xs) {k : Nat} (hk : k < base) (s : ByteArray) (p : Nat) : (w.iterAt k s p).ownsRow base e size v n xs := by
 obtain ⟨h1, h2⟩ := h
 refine ⟨h1, ?_⟩
 rcases h2 with h2 | ⟨g, cap, cur, a, b, c, d⟩
 · exact .inl h2
 · exact .inr ⟨g, cap, cur, a, b, by rw [Lib.iterAt_other _ _ _ _ _ (by omega)]; exact c, d⟩
theorem cell_two_new (w : World) (a b : Value) (t : TypeId) : ∀ j u, [a, b][j]? = some u → (w.alloc (.cells #[a, b] t)).cell? ((⟨w.heap.size, 0, none⟩ : Addr).add j) = some u := by
 intro j u hj
 match j, hj with
 | 0, hj => simp at hj; subst hj; simp [Addr.add]
 | 1, hj => simp at hj; subst hj; simp [Addr.add]
 | j + 2, hj => simp at hj
def LetsV (w : World) (v : Value) (ls : List Let) : Prop :=
 (v = .slice none 0 0 ∧ ls = []) ∨ ∃ g cap, v = .slice (some ⟨g, 0, none⟩) ls.length cap ∧ LetsAt w g ls ∧ g < w.heap.size ∧ ls.length ≤ cap ∧ cap ≤ maxLen
theorem letsV_own {w : World} {base : Nat} {v : Value} {ls : List Let} (h : w.ownsRow base 184 2 v ls.length (flatT ls)) : LetsV w v ls := by
 obtain ⟨h1, ⟨rfl, h2⟩ | ⟨g, cap, cur, rfl, hb, hg, hc1, hc2, hc3, hc4⟩⟩ := h
 · exact .inl ⟨rfl, List.eq_nil_of_length_eq_zero h2⟩
 · refine .inr ⟨g, cap, rfl, ?_, (gsi hg).1, hc1, hc2⟩
   intro j hj
   have hw : w.ownsRow base 184 2 (.slice (some ⟨g, 0, none⟩) ls.length cap) ls.length (flatT ls) := ⟨h1, .inr ⟨g, cap, cur, rfl, hb, hg, hc1, hc2, hc3, hc4⟩⟩
   rw [hw.cellAt (j * 2) (by omega), hw.cellAt (j * 2 + 1) (by omega)]
   exact flatT_get ls j hj
theorem tail_list (s : ByteArray) (p : Nat) : (s.extract p s.size).data.toList = s.data.toList.drop p := by
 rw [ByteArray.data_extract, Array.toList_extract, List.extract_eq_take_drop]
 rw [List.take_of_length_le]
 rw [List.length_drop, ← Lib.size_eq]; omega
theorem lt_of_block {w : World} {k : Nat} {o : Obj} (h : w.heap[k]? = some o) : k < w.heap.size := (gsi h).1
theorem lettersOf_any (s : ByteArray) (w : World) (hs : s.size ≤ 2048) :
 Calls prog 128 #[.string s] w fun e w' => ∃ v, e = .returned v ∧ LetsV w' v (lets s.data.toList) ∧ Below w.heap.size w w' := by
 obtain ⟨i0, hi, hz0, hz1, hz2⟩ := info_parts info66
 go_enter func128, ntmps128
 go_wp2
 go_loopg [3] s.size (fun gf v wx => ∃ (pos : Nat) (ls : List Let), wx.heap[w.heap.size]? = some (.stringIter s pos) ∧ wx.ownsRow (w.heap.size + 1) 184 2 v ls.length (flatT ls) ∧ Below w.heap.size w wx ∧ Hid (ls ++ lets (s.data.toList.drop pos) = lets s.data.toList) ∧ s.size ≤ pos + gf ∧ ls.length ≤ pos)
 case atStart => exact ⟨0, [], World.iter_heap w s 0, World.ownsRow_nil _ _ _ _, (Below.refl _ _).alloc (Nat.le_refl _) _, (by show _ = _; simp), by omega, by simp⟩
 case round =>
  obtain ⟨pos, ls, hit, hown, hbw, HS, hb, hlen⟩ := hrel
  by_cases hp : pos < s.size
  · obtain ⟨g', rfl⟩ : ∃ g', gk = g' + 1 := ⟨gk - 1, by omega⟩
    have hnx : ∀ ty, (Instr.next (.pointer (some ⟨w.heap.size, 0, none⟩)) true ty).run prog wr = _ := fun ty => Lib.run_next_any_at wr w.heap.size s pos ty hit hp
    have hne : s.data.toList.drop pos ≠ [] := by
     intro e
     have := congrArg List.length e
     rw [List.length_drop, ← Lib.size_eq] at this
     simp at this
     omega
    have hwd := Lib.width_pos s pos
    have hS := HS.out
    rw [lets_cons _ hne, List.drop_drop] at hS
    have hbd : badL (s.data.toList.drop pos) = (decide ((Utf8.decode s pos).1 = 65533) && !(Lib.hasPrefix (s.data.toList.drop pos) [239, 191, 189])) := by
     unfold badL; rw [Lib.decodeL_drop]
    rw [Lib.decodeL_drop, hbd] at hS
    have hpx := Tryz.strings_HasPrefix (s.extract pos s.size) ⟨#[239, 191, 189]⟩
    rw [tail_list s pos] at hpx
    obtain ⟨R, hR⟩ := gen ((Utf8.decode s pos).1)
    obtain ⟨K, hK⟩ := gen ((Utf8.decode s pos).2)
    obtain ⟨B, hB⟩ := gen (Lib.hasPrefix (s.data.toList.drop pos) [239, 191, 189])
    rw [hB] at hpx hS
    rw [hR, hK] at hnx hS
    rw [hK] at hwd
    have hit2 := Lib.iterAt_heap wr w.heap.size s pos (pos + K) hit
    have hbw2 := Lib.below_iterAt hbw (k := w.heap.size) (Nat.le_refl _) s (pos + K)
    have hown2 := ownsRow_iterAt hown (k := w.heap.size) (by omega) s (pos + K)
    obtain ⟨W1, hW1⟩ := gen (wr.iterAt w.heap.size s (pos + K))
    rw [hW1] at hnx hit2 hbw2 hown2
    have hsl : ∀ W, (Instr.slice 9 (.string s) (some (.int .i64 (pos : Int))) none none).run prog W = .ok (.string (s.extract pos s.size)) W := fun W => by
     rw [run_slice_string_l (P := prog) W 9 s underlying9 .i64 (pos : Int) (by omega) (by omega)]
     rw [Int.toNat_natCast]
    have hBlt := lt_of_block hit2
    have HPX : Hid (∀ W, Calls prog 145 #[.string (s.extract pos s.size), .string ⟨#[239, 191, 189]⟩] W fun e w' => e = .returned (.bool B) ∧ w' = W) := hpx
    have HS2 : Hid (ls ++ ((R : Int), decide (R = 65533) && !B) :: lets (s.data.toList.drop (pos + K)) = lets s.data.toList) := hS
    clear hW1 hit hown hbw hpx hS hB hR hK hbd hne HS
    by_cases hr : R = 65533
    · subst hr
      go_wp2_with (first
       | (go_at_call 145; refine (HPX.out _).mono ?_; rintro e w' ⟨rfl, rfl⟩)
       | (at_builtin; refine wpList_append_own _ rfl _ _ 155 rfl (w.heap.size + 1) 184 i0 (.agg #[.int .i32 0, .bool false]) 2 8 underlying155 hi hz0 hz1 hz2 rfl (by decide) _ _ _ rfl (hown2.alloc _) ⟨_, 0, none⟩ 1 1 [.int .i32 65533, .bool (!B)] rfl rfl (cell_two_new _ _ _ _) (fun x hx => by simp at hx; rcases hx with rfl | rfl <;> rfl) (by unfold maxLen; omega) (by omega) (by simp; omega) ?_; intro v' w3 hown' hgrow3 hnil3))
      have hit3 : w3.heap[w.heap.size]? = some (.stringIter s (pos + K)) := by
       rw [hgrow3.block w.heap.size (by simp; omega) (fun h => by have := (hown2.lt _ h.symm).1; omega), Below.heap_alloc _ _ _ hBlt]; exact hit2
      have hbw3 : Below w.heap.size w w3 := Below.grown (hbw2.alloc (by omega) _) hgrow3 (by simp; omega) (fun j hj => by have := (hown2.lt _ hj).1; omega)
      go_roundg g'
      case measure => omega
      case rel => exact ⟨pos + K, ls ++ [(65533, !B)], hit3, by rw [List.length_append, flatT_app]; exact hown', hbw3, (by show _ = _; rw [← HS2.out, List.append_assoc]; simp), by omega, by simp; omega⟩
    · have hr2 : ((R : Int) == 65533) = false := bfn (by omega)
      go_wp2_with (first
       | (at_builtin; refine wpList_append_own _ rfl _ _ 155 rfl (w.heap.size + 1) 184 i0 (.agg #[.int .i32 0, .bool false]) 2 8 underlying155 hi hz0 hz1 hz2 rfl (by decide) _ _ _ rfl (hown2.alloc _) ⟨_, 0, none⟩ 1 1 [.int .i32 (R : Int), .bool false] rfl rfl (cell_two_new _ _ _ _) (fun x hx => by simp at hx; rcases hx with rfl | rfl <;> rfl) (by unfold maxLen; omega) (by omega) (by simp; omega) ?_; intro v' w3 hown' hgrow3 hnil3))
      have hit3 : w3.heap[w.heap.size]? = some (.stringIter s (pos + K)) := by
       rw [hgrow3.block w.heap.size (by simp; omega) (fun h => by have := (hown2.lt _ h.symm).1; omega), Below.heap_alloc _ _ _ hBlt]; exact hit2
      have hbw3 : Below w.heap.size w w3 := Below.grown (hbw2.alloc (by omega) _) hgrow3 (by simp; omega) (fun j hj => by have := (hown2.lt _ hj).1; omega)
      go_roundg g'
      case measure => omega
      case rel => exact ⟨pos + K, ls ++ [((R : Int), false)], hit3, by rw [List.length_append, flatT_app]; exact hown', hbw3, (by show _ = _; rw [← HS2.out, List.append_assoc]; simp [hr]), by omega, by simp; omega⟩
  · have hnx : ∀ ty, (Instr.next (.pointer (some ⟨w.heap.size, 0, none⟩)) true ty).run prog wr = _ := fun ty => Lib.run_next_end_at wr w.heap.size s pos ty hit (by omega)
    have HE : Hid (ls = lets s.data.toList) := by
     have := HS.out
     rw [List.drop_of_length_le (by rw [← Lib.size_eq]; omega), lets_nil, List.append_nil] at this
     exact this
    clear HS
    go_wp2
    go_ret
    exact ⟨_, rfl, by rw [← HE.out]; exact letsV_own hown, hbw⟩
open Go.RowKit Go.Lib Go.Sort

def Glob (w : World) : Prop :=
  Lib.TabIs prog w "internal/strconv.uint64pow10" .u64 Lib.pow10Tab ∧ (∃ te pe, w.cell? ⟨8, 0, none⟩ = some (.iface te pe)) ∧ (∃ te pe, w.cell? ⟨9, 0, none⟩ = some (.iface te pe))
theorem tabIs_below {n : String} {g : Nat} {k : IntKind} {zs : List Int} {w w' : World} (hg : prog.globalNamed n = some g) (h : Lib.TabIs prog w n k zs) (hb : Below w.heap.size w w') : Lib.TabIs prog w' n k zs := by
  unfold Lib.TabIs World.var? at h ⊢
  rw [hg] at h ⊢
  simp only [Option.bind_some] at h ⊢
  have hlt : g < w.heap.size := by
    rcases Nat.lt_or_ge g w.heap.size with h' | h'
    · exact h'
    · rw [Array.getElem?_eq_none h'] at h; cases h
  rw [hb.block g hlt]
  exact h
theorem cell_below {w w' : World} (hb : Below w.heap.size w w') {a : Addr} {v : Value} (hc : w.cell? a = some v) : w'.cell? a = some v := (hb.cell (World.block_lt_of_cell? w a hc)).trans hc
theorem Glob.below {w w' : World} (h : Glob w) (hb : Below w.heap.size w w') : Glob w' := by
  obtain ⟨h1, ⟨te, pe, h2⟩, ⟨tf, pf, h3⟩⟩ := h
  exact ⟨tabIs_below (g := 4) (by kernel_rfl) h1 hb, ⟨te, pe, cell_below hb h2⟩, ⟨tf, pf, cell_below hb h3⟩⟩
theorem below_grow {B : Nat} {w W : World} (h : Below B w W) (hB : B ≤ W.heap.size) (k : Nat) (os : Array Obj) : Below B w (grow (W.drewN k) os) :=
  h.trans ⟨rfl, rfl, rfl, by simp [grow], fun i hi => by simp only [grow]; rw [Array.getElem?_append_left (by simpa using nlt hi hB)]; rfl⟩

structure Tok where
  k : Int
  t : List UInt8
  n : Int
  a : Int
def Tok.v (x : Tok) : Value := .agg #[.int .u8 x.k, .string ⟨x.t.toArray⟩, .int .i64 x.n, .int .i64 x.a]
def noTok : Tok := ⟨0, [], 0, 0⟩
def begNum (l : List UInt8) : Bool := match Lib.trimPrefix l [45] with
  | [] => false
  | c :: _ => decide (48 ≤ c.toNat) && decide (c.toNat ≤ 57)
def numOf (l : List UInt8) : Option Int := match Lib.parseIntB 64 l with
  | .ok v => if Lib.itoa v = l then some v else none
  | _ => none
theorem empty_list (l : List UInt8) : (⟨l.toArray⟩ : ByteArray).toList.isEmpty = l.isEmpty := by
  rw [Lib.toList_data]
theorem beginsNumber_any (s : ByteArray) (w : World) : Calls prog 181 #[.string s] w fun e w' => e = .returned (.bool (begNum s.data.toList)) ∧ w' = w := by
  have hT := Tryz.strings_TrimPrefix s ⟨#[45]⟩ w
  obtain ⟨d, hd⟩ := gen (Lib.trimPrefix s.data.toList [45])
  rw [show (⟨#[45]⟩ : ByteArray).data.toList = [45] from rfl, hd] at hT
  have HT : Hid (Calls prog 205 #[.string s, .string ⟨#[45]⟩] w fun e w' => e = .returned (.string ⟨d.toArray⟩) ∧ w' = w) := hT
  have hE := empty_list d
  cases d with
  | nil =>
    rw [show begNum s.data.toList = false by simp [begNum, hd]]
    clear hT hd
    go_enter func181, ntmps181
    go_wp2_with fail
    refine HT.out.mono ?_
    rintro e w' ⟨rfl, rfl⟩
    go_wp2
    go_ret
    exact ⟨rfl, rfl⟩
  | cons c l =>
    rw [show begNum s.data.toList = (decide (48 ≤ c.toNat) && decide (c.toNat ≤ 57)) by simp [begNum, hd]]
    clear hT hd
    go_enter func181, ntmps181
    go_wp2_with fail
    refine HT.out.mono ?_
    rintro e w' ⟨rfl, rfl⟩
    have e0 : ((⟨(c :: l).toArray⟩ : ByteArray)[0]'(by show 0 < (c :: l).toArray.size; simp)).toNat = c.toNat := rfl
    go_wp2
    all_goals
      go_ret
      refine ⟨?_, rfl⟩
      simp only [e0] at *
      congr 1
      show Value.bool _ = Value.bool _
      congr 1
      rw [Bool.eq_iff_iff]
      simp
      try omega

theorem bytesWorld_below (w : World) (t : ByteArray) : Below w.heap.size w (Lib.bytesWorld w 5 t) := ⟨rfl, rfl, rfl, by rw [Lib.bytesWorld_size]; omega, fun j hj => Lib.bytesWorld_at_old w 5 t j hj⟩
theorem parseInt_any (l : List UInt8) (w : World) (hl : l.length ≤ 100000) (hG : Glob w) :
    Calls prog 206 #[.string ⟨l.toArray⟩, .int .i64 10, .int .i64 64] w fun e w' => (∃ v x, e = .returned (.tuple #[.int .i64 v, x]) ∧ ((x = .nilIface ∧ Lib.parseIntB 64 l = .ok v ∧ -9223372036854775808 ≤ v ∧ v ≤ 9223372036854775807) ∨ ((∃ p, x = .iface 262 (.pointer (some p))) ∧ numOf l = none))) ∧ Below w.heap.size w w' := by
  obtain ⟨hP, ⟨te, pe, h5⟩, ⟨tf, pf, h6⟩⟩ := hG
  have hsz : (⟨l.toArray⟩ : ByteArray).size = l.length := by show l.toArray.size = _; simp
  have hls : (⟨l.toArray⟩ : ByteArray).data.toList = l := by simp
  cases hp : Lib.parseIntB 64 l
  case ok v =>
    have hb := Lib.parseIntB_bounds hp
    refine (Tryz.strconv_ParseInt_10_at64_ok ⟨l.toArray⟩ (by omega) v (by rw [hls]; exact hp) w).mono ?_
    rintro e w' ⟨rfl, rfl | ⟨t, rfl⟩⟩
    · exact ⟨⟨v, _, rfl, .inl ⟨rfl, rfl, hb.1, Int.le_of_lt_add_one hb.2⟩⟩, Below.refl _ _⟩
    · exact ⟨⟨v, _, rfl, .inl ⟨rfl, rfl, hb.1, Int.le_of_lt_add_one hb.2⟩⟩, bytesWorld_below w t⟩
  all_goals first
    | (refine (Any.strconv_ParseInt_10_at64_syntax Tryz.laysC174 ⟨l.toArray⟩ (by omega) (by rw [hls]; exact hp) _ w h5 (.inr ⟨_, _, rfl⟩)).mono ?_
       rintro e w' ⟨n, rfl, _, _, hb⟩
       exact ⟨⟨0, _, rfl, .inr ⟨⟨_, rfl⟩, by simp [numOf, hp]⟩⟩, hb⟩)
    | (refine (Tryz.strconv_ParseInt_10_at64_range ⟨l.toArray⟩ (by omega) (by rw [hls]; exact hp) _ w h6 (.inr ⟨_, _, rfl⟩)).mono ?_
       rintro e w' ⟨n, rfl, _, _, hb⟩
       exact ⟨⟨_, _, rfl, .inr ⟨⟨_, rfl⟩, by simp [numOf, hp]⟩⟩, hb⟩)
def numErr (l : List UInt8) : Int := if (numOf l).isSome then 0 else 13
def tokO (k : Int) (t : ByteArray) (n a : Int) : Obj := .cells #[.int .u8 k, .string t, .int .i64 n, .int .i64 a] 160
def numTok (l : List UInt8) : Tok := match numOf l with
  | some v => ⟨4, [], v, 0⟩
  | none => noTok
theorem tok_cells {W : World} {B : Nat} {k : Int} {t : ByteArray} {n a : Int} (h : W.heap[B]? = some (tokO k t n a)) :
    W.cell? ⟨B, 0, none⟩ = some (.int .u8 k) ∧ W.cell? ⟨B, 1, none⟩ = some (.string t) ∧ W.cell? ⟨B, 2, none⟩ = some (.int .i64 n) ∧ W.cell? ⟨B, 3, none⟩ = some (.int .i64 a) ∧ W.frozen? ⟨B, 0, none⟩ = false ∧ W.frozen? ⟨B, 1, none⟩ = false ∧ W.frozen? ⟨B, 2, none⟩ = false ∧ W.frozen? ⟨B, 3, none⟩ = false := by
  refine ⟨?_, ?_, ?_, ?_, ?_, ?_, ?_, ?_⟩ <;> simp [World.cell?, World.frozen?, h, tokO]
def setTok (W : World) (B : Nat) (k : Int) (t : ByteArray) (n a : Int) : World :=
  (((W.setCell ⟨B, 0, none⟩ (.int .u8 k)).setCell ⟨B, 1, none⟩ (.string t)).setCell ⟨B, 2, none⟩ (.int .i64 n)).setCell ⟨B, 3, none⟩ (.int .i64 a)
theorem setTok_at {W : World} {B : Nat} {k0 : Int} {t0 : ByteArray} {n0 a0 : Int} (h : W.heap[B]? = some (tokO k0 t0 n0 a0)) (k : Int) (t : ByteArray) (n a : Int) : (setTok W B k t n a).heap[B]? = some (tokO k t n a) := by
  simp only [setTok, World.setCell, Array.getElem?_modify, h, if_true, Option.map_some, tokO]
  simp
theorem setTok_below {B0 : Nat} {w W : World} {B : Nat} (h : Below B0 w W) (hB : B0 ≤ B) (k : Int) (t : ByteArray) (n a : Int) : Below B0 w (setTok W B k t n a) :=
  (((h.setCell hB _).setCell hB _).setCell hB _).setCell hB _
theorem own_new (w : World) (o : Obj) : (w.alloc o).heap[w.heap.size]? = some o := by show (w.heap.push o)[w.heap.size]? = _; simp
theorem numberToken_any (l : List UInt8) (w : World) (hl : l.length ≤ 100000) (hG : Glob w) :
    Calls prog 182 #[.string ⟨l.toArray⟩] w fun e w' => e = .returned (.tuple #[(numTok l).v, .int .i64 (numErr l)]) ∧ Below w.heap.size w w' := by
  have C1 : Hid (∀ W, Below w.heap.size w W → Calls prog 206 #[.string ⟨l.toArray⟩, .int .i64 10, .int .i64 64] W fun e w' => (∃ v x, e = .returned (.tuple #[.int .i64 v, x]) ∧ ((x = .nilIface ∧ Lib.parseIntB 64 l = .ok v ∧ -9223372036854775808 ≤ v ∧ v ≤ 9223372036854775807) ∨ ((∃ p, x = .iface 262 (.pointer (some p))) ∧ numOf l = none))) ∧ Below W.heap.size W w') := fun W h => parseInt_any l W hl (hG.below h)
  have C2 : Hid (∀ v W, Below w.heap.size w W → -9223372036854775808 ≤ v → v ≤ 9223372036854775807 → Calls prog 207 #[.int .i64 v, .int .i64 10] W fun e w' => e = .returned (.string ⟨(Lib.itoa v).toArray⟩) ∧ ∃ k os, w' = grow (W.drewN k) os) := fun v W h h0 h1 => Tryz.strconv_FormatInt_10 v h0 h1 W (hG.below h).1
  clear hG
  go_enter func182, ntmps182
  go_wp2_with fail
  refine (C1.out _ ((Below.refl _ w).alloc (Nat.le_refl _) _)).mono ?_
  rintro e w1 ⟨⟨v, x, rfl, ⟨rfl, hp, hv0, hv1⟩ | ⟨⟨p, rfl⟩, hp⟩⟩, hw1⟩
  · go_wp2_with fail
    refine (C2.out v w1 ((Below.refl _ w).alloc (Nat.le_refl _) _ |>.trans (hw1.mono (by simp))) hv0 hv1).mono ?_
    rintro e w2 ⟨rfl, k, os, hw2⟩
    have hb2 : Below (w.alloc (tokO 0 ⟨#[]⟩ 0 0)).heap.size (w.alloc (tokO 0 ⟨#[]⟩ 0 0)) w2 := by rw [hw2]; exact below_grow hw1 hw1.size k os
    have hbl : Hid (w2.heap[w.heap.size]? = some (tokO 0 ⟨#[]⟩ 0 0)) := (hb2.block _ (by simp)).trans (own_new w _)
    obtain ⟨c0, c1, c2, c3, f0, f1, f2, f3⟩ := tok_cells hbl.out
    have HB : Hid (Below w.heap.size w w2) := ((Below.refl _ w).alloc (Nat.le_refl _) _).trans (hb2.mono (by simp))
    have HP : Hid (Lib.parseIntB 64 l = .ok v) := hp
    clear hw2 hw1 hb2 hp C1 C2
    by_cases he : Lib.itoa v = l
    · have HE : Hid (Lib.itoa v = l) := he
      rw [he]
      clear he
      have e1 : numTok l = ⟨4, [], v, 0⟩ := by simp [numTok, numOf, HP.out, HE.out]
      have e2 : numErr l = 0 := by simp [numErr, numOf, HP.out, HE.out]
      go_wp2_with fail
      obtain ⟨d0, d1, d2, d3, _⟩ := tok_cells (setTok_at hbl.out 4 ⟨#[]⟩ v 0)
      have HBt : Hid (Below w.heap.size w (setTok w2 w.heap.size 4 ⟨#[]⟩ v 0)) := setTok_below HB.out (Nat.le_refl _) _ _ _ _
      generalize hW : setTok w2 w.heap.size 4 ⟨#[]⟩ v 0 = W4 at d0 d1 d2 d3 HBt
      unfold setTok at hW
      rw [hW]
      exact bodyPost_ret (v := .tuple #[.agg #[.int .u8 4, .string ⟨#[]⟩, .int .i64 v, .int .i64 0], .int .i64 0]) (by simp [results, results182, go_sem, d0, d1, d2, d3]) rfl
        ⟨by rw [e1, e2]; rfl, HBt.out⟩
    · have he2 : (Lib.itoa v == l) = false := by simp [he]
      have e1 : numTok l = noTok := by simp [numTok, numOf, HP.out, he]
      have e2 : numErr l = 13 := by simp [numErr, numOf, HP.out, he]
      clear he
      go_wp2_with fail
      obtain ⟨d0, d1, d2, d3, _⟩ := tok_cells (setTok_at hbl.out 0 ⟨#[]⟩ 0 0)
      have HBt : Hid (Below w.heap.size w (setTok w2 w.heap.size 0 ⟨#[]⟩ 0 0)) := setTok_below HB.out (Nat.le_refl _) _ _ _ _
      generalize hW : setTok w2 w.heap.size 0 ⟨#[]⟩ 0 0 = W4 at d0 d1 d2 d3 HBt
      unfold setTok at hW
      rw [hW]
      exact bodyPost_ret (v := .tuple #[.agg #[.int .u8 0, .string ⟨#[]⟩, .int .i64 0, .int .i64 0], .int .i64 13]) (by simp [results, results182, go_sem, d0, d1, d2, d3]) rfl
        ⟨by rw [e1, e2]; rfl, HBt.out⟩
  · clear C1 C2
    have hbl : Hid (w1.heap[w.heap.size]? = some (tokO 0 ⟨#[]⟩ 0 0)) := (hw1.block _ (by simp)).trans (own_new w _)
    obtain ⟨c0, c1, c2, c3, f0, f1, f2, f3⟩ := tok_cells hbl.out
    have HB : Hid (Below w.heap.size w w1) := ((Below.refl _ w).alloc (Nat.le_refl _) _).trans (hw1.mono (by simp))
    have HP : Hid (numOf l = none) := hp
    have e1 : numTok l = noTok := by simp [numTok, HP.out]
    have e2 : numErr l = 13 := by simp [numErr, HP.out]
    clear hw1 hp
    go_wp2_with fail
    obtain ⟨d0, d1, d2, d3, _⟩ := tok_cells (setTok_at hbl.out 0 ⟨#[]⟩ 0 0)
    have HBt : Hid (Below w.heap.size w (setTok w1 w.heap.size 0 ⟨#[]⟩ 0 0)) := setTok_below HB.out (Nat.le_refl _) _ _ _ _
    generalize hW : setTok w1 w.heap.size 0 ⟨#[]⟩ 0 0 = W4 at d0 d1 d2 d3 HBt
    unfold setTok at hW
    rw [hW]
    exact bodyPost_ret (v := .tuple #[.agg #[.int .u8 0, .string ⟨#[]⟩, .int .i64 0, .int .i64 0], .int .i64 13]) (by simp [results, results182, go_sem, d0, d1, d2, d3]) rfl
      ⟨by rw [e1, e2]; rfl, HBt.out⟩
end Go.Proofs.YtfifphfihdhlaaaGreatDoor

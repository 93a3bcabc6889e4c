/- What readToken answers. -/
import Derived.Test.YtfifphfihdhlaaaGreatDoorLh
import Derived.Lib.MapLaws
set_option maxRecDepth 100000
set_option maxHeartbeats 32000000
namespace Go.Proofs.YtfifphfihdhlaaaGreatDoor
open Tryz
open Go.RowKit Go.Lib Go.Sort
set_option linter.unusedVariables false
def tokAns (ls : List Let) (at0 : Nat) : Ans := match ls.drop at0 with
 | [] => ⟨noTok, 0, 0⟩
 | x :: _ => if x.1 = 40 then ⟨⟨1, [], 0, at0⟩, (at0 : Int) + 1, 0⟩ else if x.1 = 41 then ⟨⟨2, [], 0, at0⟩, (at0 : Int) + 1, 0⟩ else if x.1 = 34 then textAns ls at0 else wordAns ls at0
theorem Ans.form (x : Ans) : ∃ k t n a fin err, x.v = .tuple #[.agg #[.int .u8 k, .string t, .int .i64 n, .int .i64 a], .int .i64 fin, .int .i64 err] := ⟨_, _, _, _, _, _, rfl⟩
theorem readToken_any (b c at0 : Nat) (ls : List Let) (w : World) (hl : LetsAt w b ls) (hb : b < w.heap.size) (hn : ls.length ≤ 2048) (hr : ∀ x ∈ ls, -2147483648 ≤ x.1 ∧ x.1 ≤ 2147483647) (hc1 : ls.length ≤ c) (hc2 : c ≤ 9223372036854775807) (hat : at0 < ls.length) (hbl : isBl ls[at0].1 = false) (h59 : ls[at0].1 ≠ 59) (hG : Glob w) :
 Calls prog 130 #[.slice (some ⟨b, 0, none⟩) ls.length c, .int .i64 at0] w fun e w' => e = .returned (tokAns ls at0).v ∧ Below w.heap.size w w' := by
 have HL : Hid (∀ W, Below w.heap.size w W → LetsAt W b ls) := fun W h j hj => by
  obtain ⟨h1, h2⟩ := hl j hj
  rw [← h.cell (p := ⟨b, _, none⟩) hb] at h1 h2
  exact ⟨h1, h2⟩
 have W0B : Hid (Below w.heap.size w (w.alloc (tokO 0 ⟨#[]⟩ 0 0))) := (Below.refl _ w).alloc (Nat.le_refl _) _
 have hz0 : (0 : Int) ≤ (at0 : Int) := by omega
 have hz2 : (at0 : Int) < (ls.length : Int) := by omega
 obtain ⟨x0, x1⟩ := HL.out _ W0B.out at0 hat
 unfold tokO at x0 x1
 have hA : tokAns ls at0 = if ls[at0].1 = 40 then ⟨⟨1, [], 0, at0⟩, (at0 : Int) + 1, 0⟩ else if ls[at0].1 = 41 then ⟨⟨2, [], 0, at0⟩, (at0 : Int) + 1, 0⟩ else if ls[at0].1 = 34 then textAns ls at0 else wordAns ls at0 := by
  unfold tokAns; rw [drop_at ls at0 hat]
 have CT : Hid (Calls prog 147 #[.slice (some ⟨b, 0, none⟩) ls.length c, .int .i64 at0] (w.alloc (tokO 0 ⟨#[]⟩ 0 0)) fun e w' => e = .returned (textAns ls at0).v ∧ Below (w.alloc (tokO 0 ⟨#[]⟩ 0 0)).heap.size (w.alloc (tokO 0 ⟨#[]⟩ 0 0)) w') := readText_any b c at0 ls _ (HL.out _ W0B.out) (by simp; omega) hn hr hat
 have CW : Hid (1 ≤ wlen (ls.drop at0) → Calls prog 148 #[.slice (some ⟨b, 0, none⟩) ls.length c, .int .i64 at0] (w.alloc (tokO 0 ⟨#[]⟩ 0 0)) fun e w' => e = .returned (wordAns ls at0).v ∧ Below (w.alloc (tokO 0 ⟨#[]⟩ 0 0)).heap.size (w.alloc (tokO 0 ⟨#[]⟩ 0 0)) w') := fun h => readWord_any b c at0 ls _ (HL.out _ W0B.out) (by simp; omega) hn hr hc1 hc2 h (hG.below W0B.out)
 clear hl hr HL
 by_cases h40 : ls[at0].1 = 40
 · rw [h40] at x0
   rw [hA, if_pos h40]
   clear hA CT CW hbl h59
   go_enter func130, ntmps130
   go_wp2_with fail
   exact bodyPost_ret (v := .tuple #[.agg #[.int .u8 1, .string ⟨#[]⟩, .int .i64 0, .int .i64 at0], .int .i64 ((at0 : Int) + 1), .int .i64 0]) (by simp [results, results130, go_sem]) rfl ⟨rfl, by (repeat (first | exact Below.refl _ _ | refine Below.alloc ?_ (by simp) _ | refine Below.setCell ?_ (by simp) _))⟩
 by_cases h41 : ls[at0].1 = 41
 · rw [h41] at x0
   rw [hA, if_neg h40, if_pos h41]
   clear hA CT CW hbl h59
   go_enter func130, ntmps130
   go_wp2_with fail
   exact bodyPost_ret (v := .tuple #[.agg #[.int .u8 2, .string ⟨#[]⟩, .int .i64 0, .int .i64 at0], .int .i64 ((at0 : Int) + 1), .int .i64 0]) (by simp [results, results130, go_sem]) rfl ⟨rfl, by (repeat (first | exact Below.refl _ _ | refine Below.alloc ?_ (by simp) _ | refine Below.setCell ?_ (by simp) _))⟩
 have e40 : (ls[at0].1 == 40) = false := bfn h40
 have e41 : (ls[at0].1 == 41) = false := bfn h41
 by_cases h34 : ls[at0].1 = 34
 · rw [h34] at x0
   rw [hA, if_neg h40, if_neg h41, if_pos h34]
   obtain ⟨k, t, n, a, fin, err, hv⟩ := (textAns ls at0).form
   rw [hv] at CT ⊢
   clear hA CW hbl h59 hv h40 h41 e40 e41
   go_enter func130, ntmps130
   go_wp2_with fail
   refine CT.out.mono ?_
   rintro e w2 ⟨rfl, hb2⟩
   have hblx : Hid (w2.heap[w.heap.size]? = some (tokO 0 ⟨#[]⟩ 0 0)) := (hb2.block _ (by simp)).trans (own_new w _)
   obtain ⟨a0, a1, a2, a3, f0, f1, f2, f3⟩ := tok_cells hblx.out
   have HB2 : Hid (Below w.heap.size w w2) := W0B.out.trans (hb2.mono W0B.out.size)
   clear hb2 CT
   go_wp2_with fail
   obtain ⟨d0', d1', d2', d3', _⟩ := tok_cells (setTok_at hblx.out k t n a)
   have HBt : Hid (Below w.heap.size w (setTok w2 w.heap.size k t n a)) := setTok_below HB2.out (Nat.le_refl _) _ _ _ _
   generalize hW : setTok w2 w.heap.size k t n a = W4 at d0' d1' d2' d3' HBt
   unfold setTok at hW
   rw [hW]
   exact bodyPost_ret (v := .tuple #[.agg #[.int .u8 k, .string t, .int .i64 n, .int .i64 a], .int .i64 fin, .int .i64 err]) (by simp [results, results130, go_sem, d0', d1', d2', d3']) rfl ⟨rfl, HBt.out⟩
 · have e34 : (ls[at0].1 == 34) = false := bfn h34
   have h1 : 1 ≤ wlen (ls.drop at0) := by
    rw [drop_at ls at0 hat]
    have : isEnd ls[at0].1 = false := by simp [isEnd, hbl, h59, h40, h41, h34]
    simp [wlen, this]
   have CW' : Hid (Calls prog 148 #[.slice (some ⟨b, 0, none⟩) ls.length c, .int .i64 at0] (w.alloc (tokO 0 ⟨#[]⟩ 0 0)) fun e w' => e = .returned (wordAns ls at0).v ∧ Below (w.alloc (tokO 0 ⟨#[]⟩ 0 0)).heap.size (w.alloc (tokO 0 ⟨#[]⟩ 0 0)) w') := CW.out h1
   rw [hA, if_neg h40, if_neg h41, if_neg h34]
   obtain ⟨k, t, n, a, fin, err, hv⟩ := (wordAns ls at0).form
   rw [hv] at CW' ⊢
   clear hA CW CT hbl h59 hv h40 h41 h34 h1
   generalize ls[at0].1 = c0 at x0 e40 e41 e34
   go_enter func130, ntmps130
   go_wp2_with fail
   refine CW'.out.mono ?_
   rintro e w2 ⟨rfl, hb2⟩
   have hblx : Hid (w2.heap[w.heap.size]? = some (tokO 0 ⟨#[]⟩ 0 0)) := (hb2.block _ (by simp)).trans (own_new w _)
   obtain ⟨a0, a1, a2, a3, f0, f1, f2, f3⟩ := tok_cells hblx.out
   have HB2 : Hid (Below w.heap.size w w2) := W0B.out.trans (hb2.mono W0B.out.size)
   clear hb2 CW'
   go_wp2_with fail
   obtain ⟨d0', d1', d2', d3', _⟩ := tok_cells (setTok_at hblx.out k t n a)
   have HBt : Hid (Below w.heap.size w (setTok w2 w.heap.size k t n a)) := setTok_below HB2.out (Nat.le_refl _) _ _ _ _
   generalize hW : setTok w2 w.heap.size k t n a = W4 at d0' d1' d2' d3' HBt
   unfold setTok at hW
   rw [hW]
   exact bodyPost_ret (v := .tuple #[.agg #[.int .u8 k, .string t, .int .i64 n, .int .i64 a], .int .i64 fin, .int .i64 err]) (by simp [results, results130, go_sem, d0', d1', d2', d3']) rfl ⟨rfl, HBt.out⟩
open Go.RowKit Go.Lib Go.Sort
theorem textL_le : ∀ (f : Nat) (l : List Let) (p : Bool × List UInt8 × Nat), textL f l = some p → p.2.2 < l.length
 | 0, l, p, h => by cases h
 | f + 1, [], p, h => by cases h
 | f + 1, x :: l, p, h => by
  simp only [textL] at h
  split at h
  · simp only [Option.some.injEq] at h; subst h; simp
  split at h
  · cases he : escL l with
    | none => rw [he] at h; cases h
    | some q =>
     rw [he] at h
     simp only [Option.map_eq_some_iff] at h
     obtain ⟨y, hy, rfl⟩ := h
     have h1 := textL_le f _ y hy
     have h2 := (escL_le he).2.1
     rw [List.length_drop] at h1
     simp
     omega
  · simp only [Option.map_eq_some_iff] at h
    obtain ⟨y, hy, rfl⟩ := h
    have h1 := textL_le f _ y hy
    simp
    omega
theorem tokAns_fin (ls : List Let) (at0 : Nat) (hat : at0 < ls.length) (hbl : isBl ls[at0].1 = false) (h59 : ls[at0].1 ≠ 59) (h : (tokAns ls at0).err = 0) : ∃ e : Nat, (tokAns ls at0).fin = e ∧ at0 < e ∧ e ≤ ls.length := by
 unfold tokAns at h ⊢
 rw [drop_at ls at0 hat] at h ⊢
 simp only at h ⊢
 split
 · exact ⟨at0 + 1, by simp, by omega, by omega⟩
 split
 · exact ⟨at0 + 1, by simp, by omega, by omega⟩
 rename_i h40 h41
 rw [if_neg h40, if_neg h41] at h
 split
 · rename_i h34
   rw [if_pos h34] at h
   unfold textAns at h ⊢
   cases ht : textL (ls.length + 1) (ls.drop (at0 + 1)) with
   | none => rw [ht] at h; simp at h
   | some p =>
    rw [ht] at h
    have hl := textL_le _ _ _ ht
    rw [List.length_drop] at hl
    simp only at h ⊢
    split at h
    · simp at h
    rename_i hb
    split at h
    · simp at h
    rename_i hc
    rw [if_neg hb, if_neg hc]
    exact ⟨_, rfl, by omega, by omega⟩
 · rename_i h34
   rw [if_neg h34] at h
   have h1 : 1 ≤ wlen (ls.drop at0) := by
    rw [drop_at ls at0 hat]
    have : isEnd ls[at0].1 = false := by simp [isEnd, hbl, h59, h40, h41, h34]
    simp [wlen, this]
   have h2 := wlen_le (ls.drop at0)
   rw [List.length_drop] at h2
   simp only [wordAns] at h ⊢
   split at h
   · simp at h
   rename_i hb
   split at h
   · rename_i hc
     rw [if_neg hb, if_pos hc]
     exact ⟨_, rfl, by omega, by omega⟩
   · rename_i hc
     exact absurd h hc
theorem skipL_at (ls : List Let) (p : Nat) : ∀ n, ls.length - p ≤ n → (h : p + skipL false (ls.drop p) < ls.length) → isBl (ls[p + skipL false (ls.drop p)]'h).1 = false ∧ (ls[p + skipL false (ls.drop p)]'h).1 ≠ 59 := by
 have gen : ∀ (l : List Let) (b : Bool) (h : skipL b l < l.length), isBl (l[skipL b l]'h).1 = false ∧ (l[skipL b l]'h).1 ≠ 59 := by
  intro l
  induction l with
  | nil => intro b h; simp at h
  | cons x l ih =>
   intro b h
   cases b with
   | true =>
    by_cases h10 : x.1 = 10
    · have e : skipL true (x :: l) = skipL false l + 1 := by simp [skipL, h10]
      simp only [e] at h ⊢
      have := ih false (by simpa using h)
      simpa using this
    · have e : skipL true (x :: l) = skipL true l + 1 := by simp [skipL, h10]
      simp only [e] at h ⊢
      have := ih true (by simpa using h)
      simpa using this
   | false =>
    by_cases hb : isBl x.1 = true
    · have e : skipL false (x :: l) = skipL false l + 1 := by simp [skipL, hb]
      simp only [e] at h ⊢
      have := ih false (by simpa using h)
      simpa using this
    · by_cases h59 : x.1 = 59
      · have e : skipL false (x :: l) = skipL true l + 1 := by simp only [skipL]; rw [if_neg hb, if_pos h59]
        simp only [e] at h ⊢
        have := ih true (by simpa using h)
        simpa using this
      · have e : skipL false (x :: l) = 0 := by simp [skipL, hb, h59]
        simp only [e]
        exact ⟨by simpa using hb, h59⟩
 intro n _ h
 have := gen (ls.drop p) false (by rw [List.length_drop]; omega)
 simpa using this
theorem decodeL_hi (l : List UInt8) : (decodeL l).1 ≤ 2147483647 := by
 have := Lib.decodeL_drop ⟨l.toArray⟩ 0
 simp only [List.drop_zero] at this
 rw [this]
 exact decode_le _ _
theorem letL_range : ∀ (n : Nat) (l : List UInt8), ∀ x ∈ letL n l, 0 ≤ x.1 ∧ x.1 ≤ 2147483647
 | 0, l, x, h => by simp [letL] at h
 | n + 1, l, x, h => by
  unfold letL at h
  split at h
  · simp at h
  · rcases List.mem_cons.1 h with rfl | h
    · have := decodeL_hi l; simp; omega
    · exact letL_range n _ x h
theorem letL_le : ∀ (n : Nat) (l : List UInt8), (letL n l).length ≤ l.length
 | 0, l => by simp [letL]
 | n + 1, l => by
  unfold letL
  split
  · simp
  · rename_i h
    have h1 := letL_le n (l.drop (decodeL l).2)
    have h2 := Lib.decodeL_width l
    have h3 := Lib.decodeL_le l h
    rw [List.length_drop] at h1
    simp
    omega
def lexGo (ls : List Let) : Nat → Nat → List Tok → List Tok × Int × Int
 | 0, _, acc => (acc, 0, 0)
 | f + 1, p, acc => if p < ls.length then (if (tokAns ls p).err = 0 then lexGo ls f ((tokAns ls p).fin.toNat + skipL false (ls.drop (tokAns ls p).fin.toNat)) (acc ++ [(tokAns ls p).tok]) else ([], (tokAns ls p).err, p)) else (acc, 0, 0)
def lexP (l : List UInt8) : List Tok × Int × Int := if 2048 < l.length then ([], 4, 0) else lexGo (lets l) ((lets l).length + 1) (skipL false (lets l)) []
def flatK (ts : List Tok) : List Value := ts.flatMap fun x => [.int .u8 x.k, .string ⟨x.t.toArray⟩, .int .i64 x.n, .int .i64 x.a]
theorem info28 : (prog.info? 160).map (fun i => (i.zero, i.size, i.bytes)) = some (some (.agg #[.int .u8 0, .string ⟨#[]⟩, .int .i64 0, .int .i64 0]), 4, 40) := by kernel_rfl
theorem cell_four_new (w : World) (a b c d : Value) (t : TypeId) : ∀ j u, [a, b, c, d][j]? = some u → (w.alloc (.cells #[a, b, c, d] t)).cell? ((⟨w.heap.size, 0, none⟩ : Addr).add j) = some u := by
 intro j u hj
 match j, hj with
 | 0, hj => simp at hj; subst hj; simp [Addr.add]
 | 1, hj => simp at hj; subst hj; simp [Addr.add]
 | 2, hj => simp at hj; subst hj; simp [Addr.add]
 | 3, hj => simp at hj; subst hj; simp [Addr.add]
 | j + 4, hj => simp at hj
theorem cell_four_behind (w : World) (o : Obj) (a b c d : Value) (t : TypeId) : ∀ j u, [a, b, c, d][j]? = some u → ((w.alloc o).alloc (.cells #[a, b, c, d] t)).cell? ((⟨w.heap.size + 1, 0, none⟩ : Addr).add j) = some u := by
 have h := cell_four_new (w.alloc o) a b c d t
 rw [show (w.alloc o).heap.size = w.heap.size + 1 by simp] at h
 exact h
theorem flatK_app (a b : List Tok) : flatK (a ++ b) = flatK a ++ flatK b := by simp [flatK]
def LexOut (w w' : World) (v : Value) (ts : List Tok) : Prop := w'.ownsRow w.heap.size 160 4 v ts.length (flatK ts)
theorem lexGo_step (ls : List Let) (f p : Nat) (acc : List Tok) (h : p < ls.length) : lexGo ls (f + 1) p acc = if (tokAns ls p).err = 0 then lexGo ls f ((tokAns ls p).fin.toNat + skipL false (ls.drop (tokAns ls p).fin.toNat)) (acc ++ [(tokAns ls p).tok]) else ([], (tokAns ls p).err, (p : Int)) := by
 conv => lhs; unfold lexGo
 rw [if_pos h]
theorem lexGo_end (ls : List Let) (f p : Nat) (acc : List Tok) (h : ¬ p < ls.length) : lexGo ls f p acc = (acc, 0, 0) := by
 cases f with
 | zero => rfl
 | succ f => unfold lexGo; rw [if_neg h]
theorem own_below {w w' : World} {base : Nat} {e : TypeId} {size : Nat} {v : Value} {n : Nat} {xs : List Value} (h : w.ownsRow base e size v n xs) (hb : Below w.heap.size w w') : w'.ownsRow base e size v n xs := by
 obtain ⟨h1, h2 | ⟨g, cap, cur, a, b, c, d⟩⟩ := h
 · exact ⟨h1, .inl h2⟩
 · exact ⟨h1, .inr ⟨g, cap, cur, a, b, (hb.block g (gsi c).1).trans c, d⟩⟩
theorem own_mono {w : World} {base base' : Nat} {e : TypeId} {size : Nat} {v : Value} {n : Nat} {xs : List Value} (h : w.ownsRow base e size v n xs) (hb : base' ≤ base) : w.ownsRow base' e size v n xs := by
 obtain ⟨h1, h2 | ⟨g, cap, cur, a, b, c, d⟩⟩ := h
 · exact ⟨h1, .inl h2⟩
 · exact ⟨h1, .inr ⟨g, cap, cur, a, Nat.le_trans hb b, c, d⟩⟩
theorem skipBlanks_none (w : World) : Calls prog 129 #[.slice none 0 0, .int .i64 0] w fun e w' => e = .returned (.int .i64 0) ∧ w' = w := by
 go_enter func129, ntmps129
 go_wp2_with fail
 refine wp_loop_rounds 1 ?_
 rw [rounds_succ]
 go_wp2_with fail
 go_ret
 exact ⟨rfl, rfl⟩
theorem lex_any (s : ByteArray) (w : World) (hs : s.size ≤ 9223372036854775807) (hG : Glob w) :
 Calls prog 97 #[.string s] w fun e w' => ∃ v, e = .returned (.tuple #[v, .int .i64 (lexP s.data.toList).2.1, .int .i64 (lexP s.data.toList).2.2]) ∧ LexOut w w' v (lexP s.data.toList).1 ∧ Below w.heap.size w w' := by
 by_cases hlong : 2048 < s.size
 · have e : lexP s.data.toList = ([], 4, 0) := by
    unfold lexP; rw [if_pos (by rw [← Lib.size_eq]; exact hlong)]
   rw [e]
   have t1 : (2048 : Int) < (s.size : Int) := by omega
   clear e hG
   go_enter func97, ntmps97
   go_wp2_with fail
   go_ret3
   exact ⟨_, rfl, World.ownsRow_nil _ _ _ _, Below.refl _ _⟩
 · have t1 : ¬ (2048 : Int) < (s.size : Int) := by omega
   have e : lexP s.data.toList = lexGo (lets s.data.toList) ((lets s.data.toList).length + 1) (skipL false (lets s.data.toList)) [] := by
    unfold lexP; rw [if_neg (by rw [← Lib.size_eq]; exact hlong)]
   rw [e]
   clear e
   have hle := letL_le s.data.toList.length s.data.toList
   rw [← Lib.size_eq] at hle
   have hra := letL_range s.data.toList.length s.data.toList
   have cl := lettersOf_any s w (by omega)
   have CL : Hid (Calls prog 128 #[.string s] w fun e w' => ∃ v, e = .returned v ∧ LetsV w' v (lets s.data.toList) ∧ Below w.heap.size w w') := cl
   rw [← show lets s.data.toList = letL s.size s.data.toList by unfold lets; rw [Lib.size_eq]] at hle
   rw [← show lets s.data.toList = letL s.data.toList.length s.data.toList from rfl] at hra
   generalize lets s.data.toList = ls at *
   clear cl
   have HRA : Hid (∀ x ∈ ls, -2147483648 ≤ x.1 ∧ x.1 ≤ 2147483647) := fun x hx => by have := hra x hx; omega
   clear hra
   go_enter func97, ntmps97
   go_wp2_with fail
   refine CL.out.mono ?_
   rintro e w1 ⟨v, rfl, hv, hb1⟩
   rcases hv with ⟨rfl, rfl⟩ | ⟨g, cap, rfl, hla, hg, hc1, hc2⟩
   · have C0 : Hid (∀ W, Calls prog 129 #[.slice none 0 0, .int .i64 0] W fun e w' => e = .returned (.int .i64 0) ∧ w' = W) := skipBlanks_none
     go_wp2_with fail
     refine (C0.out _).mono ?_
     rintro e w2 ⟨rfl, rfl⟩
     go_wp2_with fail
     refine wp_loop_rounds 1 ?_
     rw [rounds_succ]
     go_wp2_with fail
     go_ret3
     exact ⟨_, rfl, World.ownsRow_nil _ _ _ _, hb1⟩
   · have hw1 := hb1.size
     have CS : Hid (∀ p W, p ≤ ls.length → Below w1.heap.size w1 W → Calls prog 129 #[.slice (some ⟨g, 0, none⟩) ls.length cap, .int .i64 ((p : Nat) : Int)] W fun e w' => e = .returned (.int .i64 ((p + skipL false (ls.drop p) : Nat) : Int)) ∧ w' = W) := fun p W hp h => skipBlanks_any g cap p ls W (fun j hj => by
      obtain ⟨h1, h2⟩ := hla j hj
      rw [← h.cell (p := ⟨g, _, none⟩) hg] at h1 h2
      exact ⟨h1, h2⟩) (by omega) hp
     have CT : Hid (∀ p W (hp : p < ls.length), isBl ls[p].1 = false → ls[p].1 ≠ 59 → Below w1.heap.size w1 W → Calls prog 130 #[.slice (some ⟨g, 0, none⟩) ls.length cap, .int .i64 ((p : Nat) : Int)] W fun e w' => e = .returned (tokAns ls p).v ∧ Below W.heap.size W w') := fun p W hp h1 h2 h => readToken_any g cap p ls W (fun j hj => by
      obtain ⟨h1, h2⟩ := hla j hj
      rw [← h.cell (p := ⟨g, _, none⟩) hg] at h1 h2
      exact ⟨h1, h2⟩) (nlt hg h.size) (by omega) HRA.out hc1 (by unfold maxLen at hc2; omega) hp h1 h2 (hG.below (hb1.trans (h.mono hw1)))
     have HB1 : Hid (Below w.heap.size w w1) := hb1
     clear hla hg hc1 hc2 hb1 hG HRA
     have c0 := CS.out 0 w1 (by omega) (Below.refl _ _)
     simp only [Nat.zero_add, List.drop_zero] at c0
     have C0 : Hid (Calls prog 129 #[.slice (some ⟨g, 0, none⟩) ls.length cap, .int .i64 0] w1 fun e w' => e = .returned (.int .i64 ((skipL false ls : Nat) : Int)) ∧ w' = w1) := c0
     clear c0
     go_wp2_with fail
     refine C0.out.mono ?_
     rintro e w2 ⟨rfl, rfl⟩
     obtain ⟨i0, hi, hz0, hz1, hz2⟩ := info_parts info28
     go_wp2_with fail
     have hsk := skipL_le false ls
     have hat0 := skipL_at ls 0 ls.length (by omega)
     simp only [Nat.zero_add, List.drop_zero] at hat0
     go_loopg [6, 7] (ls.length + 1) (fun gf s6 s7 wx => ∃ (p f : Nat) (acc : List Tok), s7 = .int .i64 p ∧ wx.ownsRow w2.heap.size 160 4 s6 acc.length (flatK acc) ∧ Below w2.heap.size w2 wx ∧ p ≤ ls.length ∧ Hid (∀ h : p < ls.length, isBl ls[p].1 = false ∧ ls[p].1 ≠ 59) ∧ Hid (lexGo ls f p acc = lexGo ls (ls.length + 1) (skipL false ls) []) ∧ ls.length < p + f ∧ acc.length ≤ p ∧ ls.length < p + gf)
     case atStart => exact ⟨_, ls.length + 1, [], rfl, World.ownsRow_nil _ _ _ _, Below.refl _ _, hsk, hat0, (by show _ = _; rfl), by omega, by simp, by omega⟩
     case round =>
      obtain ⟨p, f, acc, rfl, hown, hbw, hp, HN, HS, hf, hal, hgf⟩ := hrel
      have hwr := hbw.size
      by_cases hlt : p < ls.length
      · obtain ⟨g', rfl⟩ : ∃ g', gk = g' + 1 := ⟨gk - 1, by omega⟩
        obtain ⟨f', rfl⟩ : ∃ f', f = f' + 1 := ⟨f - 1, by omega⟩
        have y0 : (p : Int) < (ls.length : Int) := by omega
        have hN := HN.out hlt
        have ct := CT.out p wr hlt hN.1 hN.2 hbw
        have hS := HS.out
        rw [lexGo_step ls f' p acc hlt] at hS
        have hfin := tokAns_fin ls p hlt hN.1 hN.2
        obtain ⟨⟨⟨tk, tt, tn, ta⟩, fn, er⟩, hT⟩ := gen (tokAns ls p)
        rw [hT] at ct hS hfin
        simp only at hS hfin
        have C1 : Hid (Calls prog 130 #[.slice (some ⟨g, 0, none⟩) ls.length cap, .int .i64 p] wr fun e w' => e = .returned (.tuple #[.agg #[.int .u8 tk, .string ⟨tt.toArray⟩, .int .i64 tn, .int .i64 ta], .int .i64 fn, .int .i64 er]) ∧ Below wr.heap.size wr w') := ct
        clear ct hT HN HS
        by_cases h0 : er = 0
        · subst h0
          rw [if_pos rfl] at hS
          obtain ⟨e, rfl, he1, he2⟩ := hfin rfl
          rw [Int.toNat_natCast] at hS
          have C2 : Hid (∀ W, Below w2.heap.size w2 W → Calls prog 129 #[.slice (some ⟨g, 0, none⟩) ls.length cap, .int .i64 ((e : Nat) : Int)] W fun e' w' => e' = .returned (.int .i64 ((e + skipL false (ls.drop e) : Nat) : Int)) ∧ w' = W) := fun W h => CS.out e W he2 h
          have hsk2 := skipL_le false (ls.drop e)
          rw [List.length_drop] at hsk2
          have HN2 : Hid (∀ h : e + skipL false (ls.drop e) < ls.length, isBl ls[e + skipL false (ls.drop e)].1 = false ∧ ls[e + skipL false (ls.drop e)].1 ≠ 59) := fun h => skipL_at ls e ls.length (by omega) h
          have HS2 : Hid (lexGo ls f' (e + skipL false (ls.drop e)) (acc ++ [⟨tk, tt, tn, ta⟩]) = lexGo ls (ls.length + 1) (skipL false ls) []) := hS
          clear hS hfin
          go_wp2_with fail
          refine C1.out.mono ?_
          rintro e' w3 ⟨rfl, hb3⟩
          have hown3 := own_below hown hb3
          have HB3 : Hid (Below w2.heap.size w2 w3) := hbw.trans (hb3.mono hwr)
          have hs3 : w2.heap.size ≤ w3.heap.size := HB3.out.size
          clear hown hb3 hbw C1
          go_wp2_with (first
           | (at_builtin; refine wpList_append_own _ rfl _ _ 129 rfl w2.heap.size 160 i0 (.agg #[.int .u8 0, .string ⟨#[]⟩, .int .i64 0, .int .i64 0]) 4 40 underlying129 hi hz0 hz1 hz2 rfl (by decide) _ _ _ rfl ((hown3.alloc _).alloc _) ⟨w3.heap.size + 1, 0, none⟩ 1 1 [.int .u8 tk, .string ⟨tt.toArray⟩, .int .i64 tn, .int .i64 ta] rfl rfl (cell_four_behind _ _ _ _ _ _ _) (fun x hx => by simp at hx; rcases hx with rfl | rfl | rfl | rfl <;> rfl) (by unfold maxLen; omega) (by omega) (by simp; omega) ?_; intro v' w4 hown' hgrow4 hnil4)
           | fail)
          have hbw4 : Below w2.heap.size w2 w4 := Below.grown ((HB3.out.alloc hs3 _).alloc (by simp; omega) _) hgrow4 (by simp; omega) (fun j hj => (hown3.lt _ hj).1)
          refine (C2.out w4 hbw4).mono ?_
          rintro e'' w5 ⟨rfl, rfl⟩
          go_wp2_with fail
          go_roundg (g' - (e + skipL false (ls.drop e) - p - 1))
          case measure => omega
          case rel => exact ⟨e + skipL false (ls.drop e), f', acc ++ [⟨tk, tt, tn, ta⟩], by go_num, by rw [List.length_append, flatK_app]; exact hown', hbw4, by omega, HN2, HS2, by omega, by rw [List.length_append]; simp; omega, by omega⟩
        · have hne : (er != 0) = true := bne_iff_ne.2 h0
          rw [if_neg h0] at hS
          have e1 : (lexGo ls (ls.length + 1) (skipL false ls) []).2.1 = er := by rw [← hS]
          have e2 : (lexGo ls (ls.length + 1) (skipL false ls) []).2.2 = p := by rw [← hS]
          have e3 : (lexGo ls (ls.length + 1) (skipL false ls) []).1 = [] := by rw [← hS]
          clear hS hfin
          go_wp2_with fail
          refine C1.out.mono ?_
          rintro e' w3 ⟨rfl, hb3⟩
          have HB3 : Hid (Below w.heap.size w w3) := HB1.out.trans ((hbw.trans (hb3.mono hwr)).mono hw1)
          clear hb3
          go_wp2_with fail
          go_ret3
          exact ⟨_, by rw [e1, e2]; rfl, by rw [e3]; exact World.ownsRow_nil _ _ _ _, HB3.out.alloc HB3.out.size _⟩
      · have y0 : ¬ (p : Int) < (ls.length : Int) := by omega
        have hS := HS.out
        rw [lexGo_end ls f p acc hlt] at hS
        have e1 : (lexGo ls (ls.length + 1) (skipL false ls) []).2.1 = 0 := by rw [← hS]
        have e2 : (lexGo ls (ls.length + 1) (skipL false ls) []).2.2 = 0 := by rw [← hS]
        have e3 : (lexGo ls (ls.length + 1) (skipL false ls) []).1 = acc := by rw [← hS]
        clear hS HS HN
        go_wp2_with fail
        go_ret3
        exact ⟨_, rfl, own_mono hown hw1, HB1.out.trans (hbw.mono hw1)⟩
end Go.Proofs.YtfifphfihdhlaaaGreatDoor

/- What write, readsAs and Show answer. -/
import Derived.Test.YtnmmojhbcnlboaaGreatDoorLl
import Derived.Deep.DrawnRows
import Derived.Deep.QuietTactic
import Derived.BigQuiet
import Derived.Lib.ItoaLen
namespace Go.Proofs.YtnmmojhbcnlboaaGreatDoor
open Go.RowKit Go.Lib Go.Sort
set_option linter.unusedVariables false
set_option linter.unusedSimpArgs false
attribute [local go_sem ↓] Go.wp_at_zero Go.wp_at_succ

/-- A token's text, whether it is right or not. -/
def writeP (t : Tok) : List UInt8 := if t.k = 1 then [40] else if t.k = 2 then [41] else if t.k = 3 then t.t else if t.k = 4 then Lib.itoa t.n else if t.k = 5 then quoteP t.t else []
set_option maxRecDepth 100000 in
set_option maxHeartbeats 4000000 in
theorem write_any (t : Tok) (w : World) (hl : t.t.length ≤ 100000) (hn0 : -9223372036854775808 ≤ t.n) (hn1 : t.n ≤ 9223372036854775807) (hG : Glob2 w) :
    Calls Tryz.prog 75 #[t.v] w fun e w' => e = .returned (.string ⟨(writeP t).toArray⟩) ∧ Below w.heap.size w w' := by
  obtain ⟨k, tt, n, a⟩ := t
  simp only at hl hn0 hn1
  have hb0 : Below w.heap.size w (w.alloc (tokO k ⟨tt.toArray⟩ n a)) := (Below.refl _ w).alloc (Nat.le_refl _) _
  have hsz : (⟨tt.toArray⟩ : ByteArray).size = tt.length := by show tt.toArray.size = _; simp
  have CC : Hid (∀ W, Calls Tryz.prog 62 #[.string ⟨tt.toArray⟩] W fun e w' => e = .returned (.string ⟨tt.toArray⟩) ∧ Below W.heap.size W w') := fun W => by
    exact Tryz.stringslite_Clone ⟨tt.toArray⟩ W (by omega)
  have CF : Hid (Calls Tryz.prog 92 #[.int .i64 n, .int .i64 10] (w.alloc (tokO k ⟨tt.toArray⟩ n a)) fun e w' => e = .returned (.string ⟨(Lib.itoa n).toArray⟩) ∧ Below (w.alloc (tokO k ⟨tt.toArray⟩ n a)).heap.size (w.alloc (tokO k ⟨tt.toArray⟩ n a)) w') := by
    refine (Tryz.strconv_FormatInt_10 n hn0 hn1 _ (hG.below hb0).1.1).mono ?_
    rintro e w' ⟨rfl, j, os, rfl⟩
    exact ⟨rfl, below_grow (Below.refl _ _) (Nat.le_refl _) _ _⟩
  have CQ : Hid (Calls Tryz.prog 93 #[.string ⟨tt.toArray⟩] (w.alloc (tokO k ⟨tt.toArray⟩ n a)) fun e w' => e = .returned (.string ⟨(quoteP tt).toArray⟩) ∧ Below (w.alloc (tokO k ⟨tt.toArray⟩ n a)).heap.size (w.alloc (tokO k ⟨tt.toArray⟩ n a)) w') := by
    have := quote_any ⟨tt.toArray⟩ (w.alloc (tokO k ⟨tt.toArray⟩ n a)) (by omega) (hG.below hb0)
    rw [show (⟨tt.toArray⟩ : ByteArray).data.toList = tt by simp] at this
    exact this
  clear hG hsz
  show Calls Tryz.prog 75 #[.agg #[.int .u8 k, .string ⟨tt.toArray⟩, .int .i64 n, .int .i64 a]] w _
  have HB : Hid (Below w.heap.size w (w.alloc (tokO k ⟨tt.toArray⟩ n a))) := hb0
  clear hb0
  by_cases h1 : k = 1
  · subst h1
    go_enter Tryz.func75, Tryz.ntmps75
    go_wp2_with fail
    go_ret
    exact ⟨rfl, HB.out⟩
  have e1 : (k == 1) = false := beq_eq_false_iff_ne.2 h1
  by_cases h2 : k = 2
  · subst h2
    go_enter Tryz.func75, Tryz.ntmps75
    go_wp2_with fail
    go_ret
    exact ⟨rfl, HB.out⟩
  have e2 : (k == 2) = false := beq_eq_false_iff_ne.2 h2
  by_cases h3 : k = 3
  · subst h3
    go_enter Tryz.func75, Tryz.ntmps75
    go_wp2_with (first | (go_at_call 48; go_in) | fail)
    refine (CC.out _).mono ?_
    rintro e w1 ⟨rfl, hb⟩
    go_wp2_with fail
    go_ret
    exact ⟨rfl, HB.out.trans (hb.mono HB.out.size)⟩
  have e3 : (k == 3) = false := beq_eq_false_iff_ne.2 h3
  by_cases h4 : k = 4
  · subst h4
    go_enter Tryz.func75, Tryz.ntmps75
    go_wp2_with fail
    refine CF.out.mono ?_
    rintro e w1 ⟨rfl, hb⟩
    go_wp2_with fail
    go_ret
    exact ⟨rfl, HB.out.trans (hb.mono HB.out.size)⟩
  have e4 : (k == 4) = false := beq_eq_false_iff_ne.2 h4
  by_cases h5 : k = 5
  · subst h5
    go_enter Tryz.func75, Tryz.ntmps75
    go_wp2_with fail
    refine CQ.out.mono ?_
    rintro e w1 ⟨rfl, hb⟩
    go_wp2_with fail
    go_ret
    exact ⟨rfl, HB.out.trans (hb.mono HB.out.size)⟩
  have e5 : (k == 5) = false := beq_eq_false_iff_ne.2 h5
  have eq : writeP ⟨k, tt, n, a⟩ = [] := by simp [writeP, h1, h2, h3, h4, h5]
  rw [eq]
  clear CC CF CQ eq
  go_enter Tryz.func75, Tryz.ntmps75
  go_wp2_with fail
  go_ret
  exact ⟨rfl, HB.out⟩

def sameTok (x y : Tok) : Bool := decide (x.k = y.k) && decide (x.t = y.t) && decide (x.n = y.n) && decide (x.a = y.a)
theorem tok_eql (x y : Tok) (w : World) : (binOp .eql 85 x.v y.v).run Tryz.prog w = .ok (.bool (sameTok x y)) w := by
  obtain ⟨k, t, n, a⟩ := x
  obtain ⟨k', t', n', a'⟩ := y
  have hS : Tryz.prog.underlying 85 = some (.struct (Tryz.prog.fieldsOf 85)) := by kernel_rfl
  have hp : Tryz.prog.stoodInHeld 85 = false := by kernel_rfl
  have u26 := Tryz.underlying83; have a26 := Tryz.isAgg83; have z26 := Tryz.sizeOf83
  have u3 := Tryz.underlying3; have a3 := Tryz.isAgg3; have z3 := Tryz.sizeOf3
  have u2 := Tryz.underlying2; have a2 := Tryz.isAgg2; have z2 := Tryz.sizeOf2
  have u9 := Tryz.underlying9; have a9 := Tryz.isAgg9; have z9 := Tryz.sizeOf9
  simp only [Tok.v, sameTok]
  rw [run_eql_struct, show (10000 : Nat) = 9999 + 1 from rfl, run_equalIn_struct w 9999 85 _ _ hS hp]
  simp only [Program.fieldsOf, Tryz.underlying85]
  go_simp
  by_cases h1 : k = k' <;> by_cases h2 : t = t' <;> by_cases h3 : n = n' <;> by_cases h4 : a = a' <;> simp [h1, h2, h3, h4]
/-- Whether a text is read as a token alone. -/
def readsP (l : List UInt8) (t : Tok) : Bool := if (lexP l).2.1 = 0 then (match (lexP l).1 with
  | [x] => sameTok x { t with a := x.a }
  | _ => false) else false
theorem own_one {w w' : World} {v : Value} {x : Tok} (h : LexOut w w' v [x]) : ∃ g cap, v = .slice (some ⟨g, 0, none⟩) 1 cap ∧ w.heap.size ≤ g ∧ w'.cell? ⟨g, 0, none⟩ = some (.int .u8 x.k) ∧ w'.cell? ⟨g, 1, none⟩ = some (.string ⟨x.t.toArray⟩) ∧ w'.cell? ⟨g, 2, none⟩ = some (.int .i64 x.n) ∧ w'.cell? ⟨g, 3, none⟩ = some (.int .i64 x.a) ∧ g < w'.heap.size := by
  have h' := h
  obtain ⟨h1, ⟨_, h2⟩ | ⟨g, cap, cur, rfl, hb, hg, _⟩⟩ := h
  · cases h2
  · have h' : w'.ownsRow w.heap.size 85 4 (.slice (some ⟨g, 0, none⟩) 1 cap) 1 (flatK [x]) := h'
    exact ⟨g, cap, rfl, hb, by rw [h'.cellAt 0 (by omega)]; rfl, by rw [h'.cellAt 1 (by omega)]; rfl, by rw [h'.cellAt 2 (by omega)]; rfl, by rw [h'.cellAt 3 (by omega)]; rfl, (Array.getElem?_eq_some_iff.1 hg).1⟩
theorem own_slice {w w' : World} {v : Value} {ts : List Tok} (h : LexOut w w' v ts) : ∃ p cap, v = .slice p ts.length cap := by
  obtain ⟨h1, ⟨rfl, h2⟩ | ⟨g, cap, cur, rfl, hb, hg, _⟩⟩ := h
  · exact ⟨none, 0, by rw [h2]⟩
  · exact ⟨_, _, rfl⟩
theorem setAt_at {W : World} {B : Nat} {k : Int} {t : ByteArray} {n a0 : Int} (h : W.heap[B]? = some (tokO k t n a0)) (a : Int) : (W.setCell ⟨B, 3, none⟩ (.int .i64 a)).heap[B]? = some (tokO k t n a) := by
  simp only [World.setCell, Array.getElem?_modify, h, if_true, Option.map_some, tokO]
  simp
theorem cell_set_other (W : World) {g B : Nat} (h : g ≠ B) (i j : Nat) (v : Value) : (W.setCell ⟨B, j, none⟩ v).cell? ⟨g, i, none⟩ = W.cell? ⟨g, i, none⟩ := by
  have : (W.setCell ⟨B, j, none⟩ v).heap[g]? = W.heap[g]? := Below.heap_setCell _ _ _ _ h
  simp only [World.cell?, this]
theorem below_drewN {B : Nat} {a w : World} (h : Below B a w) (n : Nat) : Below B a (w.drewN n) := h.trans ⟨rfl, rfl, rfl, Nat.le_refl _, fun _ _ => rfl⟩
set_option maxRecDepth 100000 in
set_option maxHeartbeats 4000000 in
theorem readsAs_any (l : List UInt8) (t : Tok) (w : World) (hl : l.length ≤ 9223372036854775807) (hG : Glob2 w) :
    Calls Tryz.prog 76 #[.string ⟨l.toArray⟩, t.v] w fun e w' => e = .returned (.bool (readsP l t)) ∧ Below w.heap.size w w' := by
  obtain ⟨k, tt, n, a⟩ := t
  have hb0 : Below w.heap.size w (w.alloc (tokO k ⟨tt.toArray⟩ n a)) := (Below.refl _ w).alloc (Nat.le_refl _) _
  have cl := lex_any ⟨l.toArray⟩ (w.alloc (tokO k ⟨tt.toArray⟩ n a)) (by show l.toArray.size ≤ _; simpa using hl) (hG.below hb0).1
  rw [show (⟨l.toArray⟩ : ByteArray).data.toList = l by simp] at cl
  obtain ⟨ans, hans⟩ : ∃ b, readsP l ⟨k, tt, n, a⟩ = b := ⟨_, rfl⟩
  have HAN : Hid (readsP l ⟨k, tt, n, a⟩ = ans) := hans
  rw [hans]
  obtain ⟨⟨ts, er, pl⟩, hP⟩ : ∃ P, lexP l = P := ⟨_, rfl⟩
  rw [hP] at cl
  have CL : Hid (Calls Tryz.prog 39 #[.string ⟨l.toArray⟩] (w.alloc (tokO k ⟨tt.toArray⟩ n a)) fun e w' => ∃ v, e = .returned (.tuple #[v, .int .i64 er, .int .i64 pl]) ∧ LexOut (w.alloc (tokO k ⟨tt.toArray⟩ n a)) w' v ts ∧ Below (w.alloc (tokO k ⟨tt.toArray⟩ n a)).heap.size (w.alloc (tokO k ⟨tt.toArray⟩ n a)) w') := cl
  have HP : Hid (lexP l = (ts, er, pl)) := hP
  have HB : Hid (Below w.heap.size w (w.alloc (tokO k ⟨tt.toArray⟩ n a))) := hb0
  clear cl hans hP hb0 hG
  show Calls Tryz.prog 76 #[.string ⟨l.toArray⟩, .agg #[.int .u8 k, .string ⟨tt.toArray⟩, .int .i64 n, .int .i64 a]] w _
  go_enter Tryz.func76, Tryz.ntmps76
  go_wp2_with fail
  refine CL.out.mono ?_
  rintro e w1 ⟨v, rfl, ho, hb1⟩
  have HB1 : Hid (Below w.heap.size w w1) := HB.out.trans (hb1.mono HB.out.size)
  have hown : Hid (w1.heap[w.heap.size]? = some (tokO k ⟨tt.toArray⟩ n a)) := (hb1.block _ (by simp)).trans (own_new w _)
  clear hb1 CL
  by_cases her : er = 0
  · subst her
    match ts, ho, HP with
    | [x], ho, HP =>
      obtain ⟨g, cap, rfl, hg, y0, y1, y2, y3, hgl⟩ := own_one ho
      have hg' : w.heap.size + 1 ≤ g := by simpa using hg
      have hne1 : g ≠ w.heap.size := by omega
      have hne2 : w.heap.size ≠ g := by omega
      obtain ⟨a0, a1, a2, a3, f0, f1, f2, f3⟩ := tok_cells hown.out
      have hA : ans = sameTok x ⟨k, tt, n, x.a⟩ := by rw [← HAN.out]; simp [readsP, HP.out]
      obtain ⟨xk, xt, xn, xa⟩ := x
      simp only at y0 y1 y2 y3 hA
      have heq := fun W => tok_eql ⟨xk, xt, xn, xa⟩ ⟨k, tt, n, xa⟩ W
      simp only [Tok.v] at heq
      rw [← hA] at heq
      clear hA HAN HP ho hg hgl HB
      go_wp2_with fail
      have v0 : (w1.setCell ⟨w.heap.size, 3, none⟩ (.int .i64 xa)).cell? ⟨w.heap.size, 0, none⟩ = some (.int .u8 k) := (tok_cells (setAt_at hown.out xa)).1
      have v1 : (w1.setCell ⟨w.heap.size, 3, none⟩ (.int .i64 xa)).cell? ⟨w.heap.size, 1, none⟩ = some (.string ⟨tt.toArray⟩) := (tok_cells (setAt_at hown.out xa)).2.1
      have v2 : (w1.setCell ⟨w.heap.size, 3, none⟩ (.int .i64 xa)).cell? ⟨w.heap.size, 2, none⟩ = some (.int .i64 n) := (tok_cells (setAt_at hown.out xa)).2.2.1
      have v3 : (w1.setCell ⟨w.heap.size, 3, none⟩ (.int .i64 xa)).cell? ⟨w.heap.size, 3, none⟩ = some (.int .i64 xa) := (tok_cells (setAt_at hown.out xa)).2.2.2.1
      have x0 : (w1.setCell ⟨w.heap.size, 3, none⟩ (.int .i64 xa)).cell? ⟨g, 0, none⟩ = some (.int .u8 xk) := (cell_set_other w1 hne1 _ _ _).trans y0
      have x1 : (w1.setCell ⟨w.heap.size, 3, none⟩ (.int .i64 xa)).cell? ⟨g, 1, none⟩ = some (.string ⟨xt.toArray⟩) := (cell_set_other w1 hne1 _ _ _).trans y1
      have x2 : (w1.setCell ⟨w.heap.size, 3, none⟩ (.int .i64 xa)).cell? ⟨g, 2, none⟩ = some (.int .i64 xn) := (cell_set_other w1 hne1 _ _ _).trans y2
      have x3 : (w1.setCell ⟨w.heap.size, 3, none⟩ (.int .i64 xa)).cell? ⟨g, 3, none⟩ = some (.int .i64 xa) := (cell_set_other w1 hne1 _ _ _).trans y3
      have HB2 : Hid (Below w.heap.size w (w1.setCell ⟨w.heap.size, 3, none⟩ (.int .i64 xa))) := HB1.out.setCell (Nat.le_refl _) _
      generalize w1.setCell ⟨w.heap.size, 3, none⟩ (.int .i64 xa) = W2 at *
      clear y0 y1 y2 y3 a0 a1 a2 a3 f0 f1 f2 f3
      go_quiet (fail)
      go_wp2_with fail
      go_ret
      exact ⟨rfl, below_drewN HB2.out _⟩
    | [], ho, HP =>
      obtain ⟨p, cap, rfl⟩ := own_slice ho
      have hA : ans = false := by rw [← HAN.out]; simp [readsP, HP.out]
      subst hA
      clear HAN HP ho HB
      go_wp2_with fail
      go_ret
      exact ⟨rfl, HB1.out⟩
    | x :: y :: r, ho, HP =>
      obtain ⟨p, cap, rfl⟩ := own_slice ho
      have hA : ans = false := by rw [← HAN.out]; simp [readsP, HP.out]
      subst hA
      have tl : (((x :: y :: r).length : Int) != 1) = true := bne_iff_ne.2 (by simp; omega)
      obtain ⟨m, hm⟩ : ∃ m, (x :: y :: r).length = m := ⟨_, rfl⟩
      rw [hm] at tl ⊢
      clear HAN HP ho HB hm
      go_wp2_with fail
      go_ret
      exact ⟨rfl, HB1.out⟩
  · have hne : (er != 0) = true := bne_iff_ne.2 her
    obtain ⟨p, cap, rfl⟩ := own_slice ho
    have hA : ans = false := by rw [← HAN.out]; simp [readsP, HP.out, her]
    subst hA
    clear HAN HP ho HB
    go_wp2_with fail
    go_ret
    exact ⟨rfl, HB1.out⟩

def showP (t : Tok) : List UInt8 × Int := if 256 < t.t.length then ([], 13) else if readsP (writeP t) t then (writeP t, 0) else ([], 13)
theorem quoteL_len : ∀ ls : List Let, (quoteL ls).length ≤ 6 * ls.length
  | [] => by simp [quoteL]
  | x :: l => by
    have h1 := quoteL_len l
    have h2 := qR_len x.1
    simp only [quoteL, List.flatMap_cons, List.length_append, List.length_cons] at h1 ⊢
    omega
theorem writeP_len (t : Tok) (h : t.t.length ≤ 256) (hn0 : -9223372036854775808 ≤ t.n) (hn1 : t.n ≤ 9223372036854775807) : (writeP t).length ≤ 2000 := by
  have h1 := quoteL_len (lets t.t)
  have h2 := letL_le t.t.length t.t
  have h3 := Lib.itoa_length_le t.n hn0 hn1
  unfold writeP
  split
  · simp
  split
  · simp
  split
  · omega
  split
  · omega
  split
  · simp only [quoteP, List.length_append, List.length_cons, List.length_nil]
    unfold lets at h1
    unfold lets
    omega
  · simp
set_option maxRecDepth 100000 in
set_option maxHeartbeats 4000000 in
theorem show_any (t : Tok) (w : World) (hl : t.t.length ≤ 9223372036854775807) (hn0 : -9223372036854775808 ≤ t.n) (hn1 : t.n ≤ 9223372036854775807) (hG : Glob2 w) :
    Calls Tryz.prog 61 #[t.v] w fun e w' => e = .returned (.tuple #[.string ⟨(showP t).1.toArray⟩, .int .i64 (showP t).2]) ∧ Below w.heap.size w w' := by
  obtain ⟨k, tt, n, a⟩ := t
  simp only at hl hn0 hn1
  have hb0 : Below w.heap.size w (w.alloc (tokO k ⟨tt.toArray⟩ n a)) := (Below.refl _ w).alloc (Nat.le_refl _) _
  have hsz : (⟨tt.toArray⟩ : ByteArray).size = tt.length := by show tt.toArray.size = _; simp
  by_cases h256 : 256 < tt.length
  · rw [show showP ⟨k, tt, n, a⟩ = ([], 13) by simp [showP, h256]]
    show Calls Tryz.prog 61 #[.agg #[.int .u8 k, .string ⟨tt.toArray⟩, .int .i64 n, .int .i64 a]] w _
    have t1 : (256 : Int) < ((⟨tt.toArray⟩ : ByteArray).size : Int) := by omega
    have HB : Hid (Below w.heap.size w (w.alloc (tokO k ⟨tt.toArray⟩ n a))) := hb0
    clear hb0 hG hsz
    go_enter Tryz.func61, Tryz.ntmps61
    go_wp2_with fail
    go_ret2
    exact ⟨rfl, HB.out⟩
  · have hwl := writeP_len ⟨k, tt, n, a⟩ (by simp; omega) hn0 hn1
    have CW : Hid (∀ W, Below w.heap.size w W → Calls Tryz.prog 75 #[.agg #[.int .u8 k, .string ⟨tt.toArray⟩, .int .i64 n, .int .i64 a]] W fun e w' => e = .returned (.string ⟨(writeP ⟨k, tt, n, a⟩).toArray⟩) ∧ Below W.heap.size W w') := fun W h => write_any ⟨k, tt, n, a⟩ W (by simp; omega) hn0 hn1 (hG.below h)
    have CR : Hid (∀ W, Below w.heap.size w W → Calls Tryz.prog 76 #[.string ⟨(writeP ⟨k, tt, n, a⟩).toArray⟩, .agg #[.int .u8 k, .string ⟨tt.toArray⟩, .int .i64 n, .int .i64 a]] W fun e w' => e = .returned (.bool (readsP (writeP ⟨k, tt, n, a⟩) ⟨k, tt, n, a⟩)) ∧ Below W.heap.size W w') := fun W h => readsAs_any (writeP ⟨k, tt, n, a⟩) ⟨k, tt, n, a⟩ W (by omega) (hG.below h)
    have hA : showP ⟨k, tt, n, a⟩ = if readsP (writeP ⟨k, tt, n, a⟩) ⟨k, tt, n, a⟩ then (writeP ⟨k, tt, n, a⟩, 0) else ([], 13) := by simp [showP, h256]
    rw [hA]
    obtain ⟨S, hS⟩ : ∃ S, writeP ⟨k, tt, n, a⟩ = S := ⟨_, rfl⟩
    rw [hS] at CW CR ⊢
    have t1 : ¬ (256 : Int) < ((⟨tt.toArray⟩ : ByteArray).size : Int) := by omega
    have HB : Hid (Below w.heap.size w (w.alloc (tokO k ⟨tt.toArray⟩ n a))) := hb0
    clear hA hS hwl hb0 hG hsz
    show Calls Tryz.prog 61 #[.agg #[.int .u8 k, .string ⟨tt.toArray⟩, .int .i64 n, .int .i64 a]] w _
    cases hr : readsP S ⟨k, tt, n, a⟩ with
    | true =>
      rw [hr] at CR
      clear hr
      go_enter Tryz.func61, Tryz.ntmps61
      go_wp2_with fail
      refine (CW.out _ HB.out).mono ?_
      rintro e w1 ⟨rfl, hb1⟩
      have HB1 : Hid (Below w.heap.size w w1) := HB.out.trans (hb1.mono HB.out.size)
      obtain ⟨a0, a1, a2, a3, f0, f1, f2, f3⟩ := tok_cells ((hb1.block _ (by simp)).trans (own_new w _))
      clear hb1
      go_wp2_with fail
      refine (CR.out _ HB1.out).mono ?_
      rintro e w2 ⟨rfl, hb2⟩
      go_wp2_with fail
      go_ret2
      exact ⟨rfl, HB1.out.trans (hb2.mono HB1.out.size)⟩
    | false =>
      rw [hr] at CR
      clear hr
      go_enter Tryz.func61, Tryz.ntmps61
      go_wp2_with fail
      refine (CW.out _ HB.out).mono ?_
      rintro e w1 ⟨rfl, hb1⟩
      have HB1 : Hid (Below w.heap.size w w1) := HB.out.trans (hb1.mono HB.out.size)
      obtain ⟨a0, a1, a2, a3, f0, f1, f2, f3⟩ := tok_cells ((hb1.block _ (by simp)).trans (own_new w _))
      clear hb1
      go_wp2_with fail
      refine (CR.out _ HB1.out).mono ?_
      rintro e w2 ⟨rfl, hb2⟩
      go_wp2_with fail
      go_ret2
      exact ⟨rfl, HB1.out.trans (hb2.mono HB1.out.size)⟩
end Go.Proofs.YtnmmojhbcnlboaaGreatDoor

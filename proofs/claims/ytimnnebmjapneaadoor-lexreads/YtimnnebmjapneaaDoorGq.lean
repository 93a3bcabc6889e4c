/- What the reference's Show writes: what lex's does. -/
import Derived.Test.YtimnnebmjapneaaDoorGo
namespace Go.Proofs.YtimnnebmjapneaaDoor
open Go.RowKit Go.Lib
set_option linter.unusedVariables false
theorem beq_str (a b : List UInt8) : ((⟨a.toArray⟩ : ByteArray).toList == (⟨b.toArray⟩ : ByteArray).toList) = decide (a = b) := by
  rw [ByteArray.toList_eq, ByteArray.toList_eq]
  by_cases h : a = b
  · subst h; simp
  · simp [h]
/-- What is written where so many tokens were read. -/
def showPick (S tt : List UInt8) (k n : Int) : List Tok → List UInt8 × Int
  | [x] => if x.k = k ∧ x.t = tt ∧ x.n = n ∧ x.a = 0 then (S, 0) else ([], 13)
  | [] => ([], 13)
  | _ :: _ :: _ => ([], 13)
theorem showR_aux (t : Tok) (P : List Tok × Int × Int) (h : lexP (refWrite t) = P) : refShow t = if P.2.1 = 0 then showPick (refWrite t) t.t t.k t.n P.1 else ([], 13) := by
  subst h
  unfold refShow refReads
  by_cases h0 : (lexP (refWrite t)).2.1 = 0
  · rw [if_pos h0, if_pos h0]
    match (lexP (refWrite t)).1 with
    | [] => rfl
    | [x] =>
      by_cases hc : x.k = t.k ∧ x.t = t.t ∧ x.n = t.n ∧ x.a = 0
      · rw [showPick, if_pos hc]
        obtain ⟨h1, h2, h3, h4⟩ := hc
        simp [h1, h2, h3, h4]
      · rw [showPick, if_neg hc, if_neg]
        intro h
        simp only [Bool.and_eq_true, decide_eq_true_eq] at h
        exact hc h
    | x :: y :: r => rfl
  · rw [if_neg h0, if_neg h0]
    rfl
set_option maxRecDepth 100000 in
set_option maxHeartbeats 8000000 in
theorem showR_any (t : Tok) (w : World) (hl : t.t.length ≤ 140737488355328) (hn0 : -9223372036854775808 ≤ t.n) (hn1 : t.n ≤ 9223372036854775807) :
    Calls Tryd.prog 7 #[t.v] w fun e w' => e = .returned (.tuple #[.string ⟨(showP t).1.toArray⟩, .int .i64 (showP t).2]) ∧ Below w.heap.size w w' := by
  rw [← refShow_eq t hn0 hn1]
  have hA := showR_aux t _ rfl
  obtain ⟨⟨ts, er, pl⟩, hP⟩ : ∃ P, lexP (refWrite t) = P := ⟨_, rfl⟩
  rw [hP] at hA
  simp only at hA
  have cl := fun W => lexR_any ⟨(refWrite t).toArray⟩ W
  rw [show (⟨(refWrite t).toArray⟩ : ByteArray).data.toList = refWrite t by simp, hP] at cl
  have HW : Hid (refWrite t = if t.k = 1 then [40] else if t.k = 2 then [41] else if t.k = 4 then Lib.itoa t.n else if t.k = 5 then quoteP t.t else t.t) := by show _ = _; rfl
  have CL : Hid (∀ W, Calls Tryd.prog 5 #[.string ⟨(refWrite t).toArray⟩] W fun e w' => ∃ v, e = .returned (.tuple #[v, .int .i64 er, .int .i64 pl]) ∧ LexOut W w' v ts ∧ Below W.heap.size W w') := cl
  obtain ⟨S, hS⟩ : ∃ S, refWrite t = S := ⟨_, rfl⟩
  rw [hS] at HW CL hA
  obtain ⟨ANS, hANS⟩ : ∃ A, refShow t = A := ⟨_, rfl⟩
  rw [hANS] at hA ⊢
  clear cl hS hP hANS
  obtain ⟨k, tt, n, a⟩ := t
  simp only at hA hl hn0 hn1 HW
  have HA : Hid (ANS = if er = 0 then showPick S tt k n ts else ([], 13)) := hA
  have hb0 : Below w.heap.size w (w.alloc (tokO k ⟨tt.toArray⟩ n a)) := (Below.refl _ w).alloc (Nat.le_refl _) _
  have HB : Hid (Below w.heap.size w (w.alloc (tokO k ⟨tt.toArray⟩ n a))) := hb0
  have CN : Hid (∀ W, Calls Tryd.prog 18 #[.int .i64 n] W fun e w' => e = .returned (.string ⟨(Lib.itoa n).toArray⟩) ∧ w' = W) := fun W => numberT_any n W hn0 hn1
  have hsz : (⟨tt.toArray⟩ : ByteArray).size = tt.length := by show tt.toArray.size = _; simp
  have CQ : Hid (∀ W, Calls Tryd.prog 19 #[.string ⟨tt.toArray⟩] W fun e w' => e = .returned (.string ⟨(quoteP tt).toArray⟩) ∧ Below W.heap.size W w') := fun W => by
    have := quoteT_any ⟨tt.toArray⟩ W (by omega)
    rwa [show (⟨tt.toArray⟩ : ByteArray).data.toList = tt by simp] at this
  have hno : Hid ((w.alloc (tokO k ⟨tt.toArray⟩ n a)).heap[w.heap.size]? = some (tokO k ⟨tt.toArray⟩ n a)) := own_new w _
  clear hA hb0 hsz hl hn0 hn1
  show Calls Tryd.prog 7 #[.agg #[.int .u8 k, .string ⟨tt.toArray⟩, .int .i64 n, .int .i64 a]] w _
  have hbt := fun xt => beq_str xt tt
  obtain ⟨TB, hTB⟩ : ∃ b, (⟨tt.toArray⟩ : ByteArray) = b := ⟨_, rfl⟩
  rw [hTB] at HB CQ hno hbt ⊢
  have HBT : Hid (∀ xt : List UInt8, ((⟨xt.toArray⟩ : ByteArray).toList == TB.toList) = decide (xt = tt)) := hbt
  have HTB : Hid ((⟨tt.toArray⟩ : ByteArray) = TB) := hTB
  clear hTB hbt
  by_cases h1 : k = 1
  · subst h1
    have hS : S = [40] := by rw [HW.out]; rfl
    have CL2 : Hid (∀ W, Calls Tryd.prog 5 #[.string ⟨#[40]⟩] W fun e w' => ∃ v, e = .returned (.tuple #[v, .int .i64 er, .int .i64 pl]) ∧ LexOut W w' v ts ∧ Below W.heap.size W w') := by rw [hS] at CL; exact CL
    have HSS : Hid ((⟨#[40]⟩ : ByteArray) = ⟨S.toArray⟩) := by show _ = _; rw [hS]
    clear HW CN CQ CL hS
    go_enter Tryd.func7, Tryd.ntmps7
    go_wp2_with fail
    refine (CL2.out _).mono ?_
    rintro e w1 ⟨v, rfl, ho, hb1⟩
    have HB1 : Hid (Below w.heap.size w w1) := (HB.out).trans (hb1.mono (HB.out).size)
    have hlt0 : w.heap.size < (w.alloc (tokO 1 TB n a)).heap.size := lt_of_block (hno.out)
    have hown : Hid (w1.heap[w.heap.size]? = some (tokO 1 TB n a)) := (hb1.block _ hlt0).trans (hno.out)
    clear hb1 CL2
    by_cases her : er = 0
    · subst her
      match ts, ho, HA with
      | [x], ho, HA =>
        obtain ⟨g, cap, rfl, hg, y0, y1, y2, y3, hgl⟩ := own_one ho
        have hne1 : g ≠ w.heap.size := by have := Nat.lt_of_lt_of_le hlt0 hg; omega
        have hne2 : w.heap.size ≠ g := fun h => hne1 h.symm
        obtain ⟨a0, a1, a2, a3, f0, f1, f2, f3⟩ := tok_cells hown.out
        obtain ⟨xk, xt, xn, xa⟩ := x
        simp only at y0 y1 y2 y3
        have hA := HA.out
        rw [if_pos rfl, showPick] at hA
        have hbq := HBT.out xt
        obtain ⟨XB, hXB⟩ : ∃ b, (⟨xt.toArray⟩ : ByteArray) = b := ⟨_, rfl⟩
        rw [hXB] at hbq y1
        clear hXB
        clear HA ho hg hgl hlt0
        by_cases e1 : xk = 1
        · have m1 : (xk != 1) = false := by rw [e1]; simp
          by_cases e2 : xt = tt
          · rw [show decide (xt = tt) = true by simp [e2]] at hbq
            by_cases e3 : xn = n
            · have m3 : (xn != n) = false := by rw [e3]; simp
              by_cases e4 : xa = 0
              · have m4 : (xa != 0) = false := by rw [e4]; simp
                rw [if_pos ⟨e1, e2, e3, e4⟩] at hA
                subst hA
                clear e1 e2 e3 e4
                go_wp2_with fail
                go_quiet (fail)
                go_wp2_with fail
                go_ret2
                refine ⟨?_, below_drewN HB1.out _⟩
                rw [← HSS.out]
                rfl
              · have m4 : (xa != 0) = true := bne_iff_ne.2 e4
                rw [if_neg (fun h => e4 h.2.2.2)] at hA
                subst hA
                clear e1 e2 e3 e4
                go_wp2_with fail
                go_quiet (fail)
                go_wp2_with fail
                go_ret2
                exact ⟨rfl, below_drewN HB1.out _⟩
            · have m3 : (xn != n) = true := bne_iff_ne.2 e3
              rw [if_neg (fun h => e3 h.2.2.1)] at hA
              subst hA
              clear e1 e2 e3
              go_wp2_with fail
              go_quiet (fail)
              go_wp2_with fail
              go_ret2
              exact ⟨rfl, below_drewN HB1.out _⟩
          · rw [show decide (xt = tt) = false by simp [e2]] at hbq
            rw [if_neg (fun h => e2 h.2.1)] at hA
            subst hA
            clear e1 e2
            go_wp2_with fail
            go_quiet (fail)
            go_wp2_with fail
            go_ret2
            exact ⟨rfl, below_drewN HB1.out _⟩
        · have m1 : (xk != 1) = true := bne_iff_ne.2 e1
          rw [if_neg (fun h => e1 h.1)] at hA
          subst hA
          clear e1
          go_wp2_with fail
          go_quiet (fail)
          go_wp2_with fail
          go_ret2
          exact ⟨rfl, below_drewN HB1.out _⟩
      | [], ho, HA =>
        obtain ⟨p, cap, rfl⟩ := own_slice ho
        have hA := HA.out
        rw [if_pos rfl, showPick] at hA
        subst hA
        clear HA ho hlt0
        go_wp2_with fail
        go_quiet (fail)
        go_wp2_with fail
        go_ret2
        exact ⟨rfl, below_drewN HB1.out _⟩
      | x :: y :: r, ho, HA =>
        obtain ⟨p, cap, rfl⟩ := own_slice ho
        have hA := HA.out
        rw [if_pos rfl, showPick] at hA
        subst hA
        have tl : (((x :: y :: r).length : Int) != 1) = true := bne_iff_ne.2 (by simp; omega)
        obtain ⟨m, hm⟩ : ∃ m, (x :: y :: r).length = m := ⟨_, rfl⟩
        rw [hm] at tl ⊢
        clear HA ho hm hlt0
        go_wp2_with fail
        go_quiet (fail)
        go_wp2_with fail
        go_ret2
        exact ⟨rfl, below_drewN HB1.out _⟩
    · have hne : (er != 0) = true := bne_iff_ne.2 her
      obtain ⟨p, cap, rfl⟩ := own_slice ho
      have hA := HA.out
      rw [if_neg her] at hA
      subst hA
      clear HA ho hlt0
      go_wp2_with fail
      go_quiet (fail)
      go_wp2_with fail
      go_ret2
      exact ⟨rfl, below_drewN HB1.out _⟩
  by_cases h2 : k = 2
  · subst h2
    have hS : S = [41] := by rw [HW.out]; rfl
    have CL2 : Hid (∀ W, Calls Tryd.prog 5 #[.string ⟨#[41]⟩] W fun e w' => ∃ v, e = .returned (.tuple #[v, .int .i64 er, .int .i64 pl]) ∧ LexOut W w' v ts ∧ Below W.heap.size W w') := by rw [hS] at CL; exact CL
    have HSS : Hid ((⟨#[41]⟩ : ByteArray) = ⟨S.toArray⟩) := by show _ = _; rw [hS]
    clear HW CN CQ CL hS h1
    go_enter Tryd.func7, Tryd.ntmps7
    go_wp2_with fail
    refine (CL2.out _).mono ?_
    rintro e w1 ⟨v, rfl, ho, hb1⟩
    have HB1 : Hid (Below w.heap.size w w1) := (HB.out).trans (hb1.mono (HB.out).size)
    have hlt0 : w.heap.size < (w.alloc (tokO 2 TB n a)).heap.size := lt_of_block (hno.out)
    have hown : Hid (w1.heap[w.heap.size]? = some (tokO 2 TB n a)) := (hb1.block _ hlt0).trans (hno.out)
    clear hb1 CL2
    by_cases her : er = 0
    · subst her
      match ts, ho, HA with
      | [x], ho, HA =>
        obtain ⟨g, cap, rfl, hg, y0, y1, y2, y3, hgl⟩ := own_one ho
        have hne1 : g ≠ w.heap.size := by have := Nat.lt_of_lt_of_le hlt0 hg; omega
        have hne2 : w.heap.size ≠ g := fun h => hne1 h.symm
        obtain ⟨a0, a1, a2, a3, f0, f1, f2, f3⟩ := tok_cells hown.out
        obtain ⟨xk, xt, xn, xa⟩ := x
        simp only at y0 y1 y2 y3
        have hA := HA.out
        rw [if_pos rfl, showPick] at hA
        have hbq := HBT.out xt
        obtain ⟨XB, hXB⟩ : ∃ b, (⟨xt.toArray⟩ : ByteArray) = b := ⟨_, rfl⟩
        rw [hXB] at hbq y1
        clear hXB
        clear HA ho hg hgl hlt0
        by_cases e1 : xk = 2
        · have m1 : (xk != 2) = false := by rw [e1]; simp
          by_cases e2 : xt = tt
          · rw [show decide (xt = tt) = true by simp [e2]] at hbq
            by_cases e3 : xn = n
            · have m3 : (xn != n) = false := by rw [e3]; simp
              by_cases e4 : xa = 0
              · have m4 : (xa != 0) = false := by rw [e4]; simp
                rw [if_pos ⟨e1, e2, e3, e4⟩] at hA
                subst hA
                clear e1 e2 e3 e4
                go_wp2_with fail
                go_quiet (fail)
                go_wp2_with fail
                go_ret2
                refine ⟨?_, below_drewN HB1.out _⟩
                rw [← HSS.out]
                rfl
              · have m4 : (xa != 0) = true := bne_iff_ne.2 e4
                rw [if_neg (fun h => e4 h.2.2.2)] at hA
                subst hA
                clear e1 e2 e3 e4
                go_wp2_with fail
                go_quiet (fail)
                go_wp2_with fail
                go_ret2
                exact ⟨rfl, below_drewN HB1.out _⟩
            · have m3 : (xn != n) = true := bne_iff_ne.2 e3
              rw [if_neg (fun h => e3 h.2.2.1)] at hA
              subst hA
              clear e1 e2 e3
              go_wp2_with fail
              go_quiet (fail)
              go_wp2_with fail
              go_ret2
              exact ⟨rfl, below_drewN HB1.out _⟩
          · rw [show decide (xt = tt) = false by simp [e2]] at hbq
            rw [if_neg (fun h => e2 h.2.1)] at hA
            subst hA
            clear e1 e2
            go_wp2_with fail
            go_quiet (fail)
            go_wp2_with fail
            go_ret2
            exact ⟨rfl, below_drewN HB1.out _⟩
        · have m1 : (xk != 2) = true := bne_iff_ne.2 e1
          rw [if_neg (fun h => e1 h.1)] at hA
          subst hA
          clear e1
          go_wp2_with fail
          go_quiet (fail)
          go_wp2_with fail
          go_ret2
          exact ⟨rfl, below_drewN HB1.out _⟩
      | [], ho, HA =>
        obtain ⟨p, cap, rfl⟩ := own_slice ho
        have hA := HA.out
        rw [if_pos rfl, showPick] at hA
        subst hA
        clear HA ho hlt0
        go_wp2_with fail
        go_quiet (fail)
        go_wp2_with fail
        go_ret2
        exact ⟨rfl, below_drewN HB1.out _⟩
      | x :: y :: r, ho, HA =>
        obtain ⟨p, cap, rfl⟩ := own_slice ho
        have hA := HA.out
        rw [if_pos rfl, showPick] at hA
        subst hA
        have tl : (((x :: y :: r).length : Int) != 1) = true := bne_iff_ne.2 (by simp; omega)
        obtain ⟨m, hm⟩ : ∃ m, (x :: y :: r).length = m := ⟨_, rfl⟩
        rw [hm] at tl ⊢
        clear HA ho hm hlt0
        go_wp2_with fail
        go_quiet (fail)
        go_wp2_with fail
        go_ret2
        exact ⟨rfl, below_drewN HB1.out _⟩
    · have hne : (er != 0) = true := bne_iff_ne.2 her
      obtain ⟨p, cap, rfl⟩ := own_slice ho
      have hA := HA.out
      rw [if_neg her] at hA
      subst hA
      clear HA ho hlt0
      go_wp2_with fail
      go_quiet (fail)
      go_wp2_with fail
      go_ret2
      exact ⟨rfl, below_drewN HB1.out _⟩
  by_cases h4 : k = 4
  · subst h4
    have hS : S = Lib.itoa n := by rw [HW.out]; rfl
    obtain ⟨Z, hZ⟩ : ∃ Z, (⟨(Lib.itoa n).toArray⟩ : ByteArray) = Z := ⟨_, rfl⟩
    rw [hZ] at CN
    have CL2 : Hid (∀ W, Calls Tryd.prog 5 #[.string Z] W fun e w' => ∃ v, e = .returned (.tuple #[v, .int .i64 er, .int .i64 pl]) ∧ LexOut W w' v ts ∧ Below W.heap.size W w') := by rw [hS, hZ] at CL; exact CL
    have HSS : Hid (Z = ⟨S.toArray⟩) := by show _ = _; rw [hS, hZ]
    clear HW CQ CL hS hZ h1 h2
    go_enter Tryd.func7, Tryd.ntmps7
    go_wp2_with fail
    refine (CN.out _).mono ?_
    rintro e w0 ⟨rfl, rfl⟩
    clear CN
    go_wp2_with fail
    refine (CL2.out _).mono ?_
    rintro e w1 ⟨v, rfl, ho, hb1⟩
    have HB1 : Hid (Below w.heap.size w w1) := (HB.out).trans (hb1.mono (HB.out).size)
    have hlt0 : w.heap.size < (w.alloc (tokO 4 TB n a)).heap.size := lt_of_block (hno.out)
    have hown : Hid (w1.heap[w.heap.size]? = some (tokO 4 TB n a)) := (hb1.block _ hlt0).trans (hno.out)
    clear hb1 CL2
    by_cases her : er = 0
    · subst her
      match ts, ho, HA with
      | [x], ho, HA =>
        obtain ⟨g, cap, rfl, hg, y0, y1, y2, y3, hgl⟩ := own_one ho
        have hne1 : g ≠ w.heap.size := by have := Nat.lt_of_lt_of_le hlt0 hg; omega
        have hne2 : w.heap.size ≠ g := fun h => hne1 h.symm
        obtain ⟨a0, a1, a2, a3, f0, f1, f2, f3⟩ := tok_cells hown.out
        obtain ⟨xk, xt, xn, xa⟩ := x
        simp only at y0 y1 y2 y3
        have hA := HA.out
        rw [if_pos rfl, showPick] at hA
        have hbq := HBT.out xt
        obtain ⟨XB, hXB⟩ : ∃ b, (⟨xt.toArray⟩ : ByteArray) = b := ⟨_, rfl⟩
        rw [hXB] at hbq y1
        clear hXB
        clear HA ho hg hgl hlt0
        by_cases e1 : xk = 4
        · have m1 : (xk != 4) = false := by rw [e1]; simp
          by_cases e2 : xt = tt
          · rw [show decide (xt = tt) = true by simp [e2]] at hbq
            by_cases e3 : xn = n
            · have m3 : (xn != n) = false := by rw [e3]; simp
              by_cases e4 : xa = 0
              · have m4 : (xa != 0) = false := by rw [e4]; simp
                rw [if_pos ⟨e1, e2, e3, e4⟩] at hA
                subst hA
                clear e1 e2 e3 e4
                go_wp2_with fail
                go_quiet (fail)
                go_wp2_with fail
                go_ret2
                refine ⟨?_, below_drewN HB1.out _⟩
                rw [← HSS.out]
                rfl
              · have m4 : (xa != 0) = true := bne_iff_ne.2 e4
                rw [if_neg (fun h => e4 h.2.2.2)] at hA
                subst hA
                clear e1 e2 e3 e4
                go_wp2_with fail
                go_quiet (fail)
                go_wp2_with fail
                go_ret2
                exact ⟨rfl, below_drewN HB1.out _⟩
            · have m3 : (xn != n) = true := bne_iff_ne.2 e3
              rw [if_neg (fun h => e3 h.2.2.1)] at hA
              subst hA
              clear e1 e2 e3
              go_wp2_with fail
              go_quiet (fail)
              go_wp2_with fail
              go_ret2
              exact ⟨rfl, below_drewN HB1.out _⟩
          · rw [show decide (xt = tt) = false by simp [e2]] at hbq
            rw [if_neg (fun h => e2 h.2.1)] at hA
            subst hA
            clear e1 e2
            go_wp2_with fail
            go_quiet (fail)
            go_wp2_with fail
            go_ret2
            exact ⟨rfl, below_drewN HB1.out _⟩
        · have m1 : (xk != 4) = true := bne_iff_ne.2 e1
          rw [if_neg (fun h => e1 h.1)] at hA
          subst hA
          clear e1
          go_wp2_with fail
          go_quiet (fail)
          go_wp2_with fail
          go_ret2
          exact ⟨rfl, below_drewN HB1.out _⟩
      | [], ho, HA =>
        obtain ⟨p, cap, rfl⟩ := own_slice ho
        have hA := HA.out
        rw [if_pos rfl, showPick] at hA
        subst hA
        clear HA ho hlt0
        go_wp2_with fail
        go_quiet (fail)
        go_wp2_with fail
        go_ret2
        exact ⟨rfl, below_drewN HB1.out _⟩
      | x :: y :: r, ho, HA =>
        obtain ⟨p, cap, rfl⟩ := own_slice ho
        have hA := HA.out
        rw [if_pos rfl, showPick] at hA
        subst hA
        have tl : (((x :: y :: r).length : Int) != 1) = true := bne_iff_ne.2 (by simp; omega)
        obtain ⟨m, hm⟩ : ∃ m, (x :: y :: r).length = m := ⟨_, rfl⟩
        rw [hm] at tl ⊢
        clear HA ho hm hlt0
        go_wp2_with fail
        go_quiet (fail)
        go_wp2_with fail
        go_ret2
        exact ⟨rfl, below_drewN HB1.out _⟩
    · have hne : (er != 0) = true := bne_iff_ne.2 her
      obtain ⟨p, cap, rfl⟩ := own_slice ho
      have hA := HA.out
      rw [if_neg her] at hA
      subst hA
      clear HA ho hlt0
      go_wp2_with fail
      go_quiet (fail)
      go_wp2_with fail
      go_ret2
      exact ⟨rfl, below_drewN HB1.out _⟩
  by_cases h5 : k = 5
  · subst h5
    have hS : S = quoteP tt := by rw [HW.out]; rfl
    obtain ⟨Z, hZ⟩ : ∃ Z, (⟨(quoteP tt).toArray⟩ : ByteArray) = Z := ⟨_, rfl⟩
    rw [hZ] at CQ
    have CL2 : Hid (∀ W, Calls Tryd.prog 5 #[.string Z] W fun e w' => ∃ v, e = .returned (.tuple #[v, .int .i64 er, .int .i64 pl]) ∧ LexOut W w' v ts ∧ Below W.heap.size W w') := by rw [hS, hZ] at CL; exact CL
    have HSS : Hid (Z = ⟨S.toArray⟩) := by show _ = _; rw [hS, hZ]
    clear HW CN CL hS hZ h1 h2 h4
    go_enter Tryd.func7, Tryd.ntmps7
    go_wp2_with fail
    refine (CQ.out _).mono ?_
    rintro e w0 ⟨rfl, hb0⟩
    have HB0 : Hid (Below w.heap.size w w0) := HB.out.trans (hb0.mono HB.out.size)
    have hno0 : Hid (w0.heap[w.heap.size]? = some (tokO 5 TB n a)) := (hb0.block _ (by simp)).trans hno.out
    clear CQ hb0
    go_wp2_with fail
    refine (CL2.out _).mono ?_
    rintro e w1 ⟨v, rfl, ho, hb1⟩
    have HB1 : Hid (Below w.heap.size w w1) := (HB0.out).trans (hb1.mono (HB0.out).size)
    have hlt0 : w.heap.size < w0.heap.size := lt_of_block (hno0.out)
    have hown : Hid (w1.heap[w.heap.size]? = some (tokO 5 TB n a)) := (hb1.block _ hlt0).trans (hno0.out)
    clear hb1 CL2
    by_cases her : er = 0
    · subst her
      match ts, ho, HA with
      | [x], ho, HA =>
        obtain ⟨g, cap, rfl, hg, y0, y1, y2, y3, hgl⟩ := own_one ho
        have hne1 : g ≠ w.heap.size := by have := Nat.lt_of_lt_of_le hlt0 hg; omega
        have hne2 : w.heap.size ≠ g := fun h => hne1 h.symm
        obtain ⟨a0, a1, a2, a3, f0, f1, f2, f3⟩ := tok_cells hown.out
        obtain ⟨xk, xt, xn, xa⟩ := x
        simp only at y0 y1 y2 y3
        have hA := HA.out
        rw [if_pos rfl, showPick] at hA
        have hbq := HBT.out xt
        obtain ⟨XB, hXB⟩ : ∃ b, (⟨xt.toArray⟩ : ByteArray) = b := ⟨_, rfl⟩
        rw [hXB] at hbq y1
        clear hXB
        clear HA ho hg hgl hlt0
        by_cases e1 : xk = 5
        · have m1 : (xk != 5) = false := by rw [e1]; simp
          by_cases e2 : xt = tt
          · rw [show decide (xt = tt) = true by simp [e2]] at hbq
            by_cases e3 : xn = n
            · have m3 : (xn != n) = false := by rw [e3]; simp
              by_cases e4 : xa = 0
              · have m4 : (xa != 0) = false := by rw [e4]; simp
                rw [if_pos ⟨e1, e2, e3, e4⟩] at hA
                subst hA
                clear e1 e2 e3 e4
                go_wp2_with fail
                go_quiet (fail)
                go_wp2_with fail
                go_ret2
                refine ⟨?_, below_drewN HB1.out _⟩
                rw [← HSS.out]
                rfl
              · have m4 : (xa != 0) = true := bne_iff_ne.2 e4
                rw [if_neg (fun h => e4 h.2.2.2)] at hA
                subst hA
                clear e1 e2 e3 e4
                go_wp2_with fail
                go_quiet (fail)
                go_wp2_with fail
                go_ret2
                exact ⟨rfl, below_drewN HB1.out _⟩
            · have m3 : (xn != n) = true := bne_iff_ne.2 e3
              rw [if_neg (fun h => e3 h.2.2.1)] at hA
              subst hA
              clear e1 e2 e3
              go_wp2_with fail
              go_quiet (fail)
              go_wp2_with fail
              go_ret2
              exact ⟨rfl, below_drewN HB1.out _⟩
          · rw [show decide (xt = tt) = false by simp [e2]] at hbq
            rw [if_neg (fun h => e2 h.2.1)] at hA
            subst hA
            clear e1 e2
            go_wp2_with fail
            go_quiet (fail)
            go_wp2_with fail
            go_ret2
            exact ⟨rfl, below_drewN HB1.out _⟩
        · have m1 : (xk != 5) = true := bne_iff_ne.2 e1
          rw [if_neg (fun h => e1 h.1)] at hA
          subst hA
          clear e1
          go_wp2_with fail
          go_quiet (fail)
          go_wp2_with fail
          go_ret2
          exact ⟨rfl, below_drewN HB1.out _⟩
      | [], ho, HA =>
        obtain ⟨p, cap, rfl⟩ := own_slice ho
        have hA := HA.out
        rw [if_pos rfl, showPick] at hA
        subst hA
        clear HA ho hlt0
        go_wp2_with fail
        go_quiet (fail)
        go_wp2_with fail
        go_ret2
        exact ⟨rfl, below_drewN HB1.out _⟩
      | x :: y :: r, ho, HA =>
        obtain ⟨p, cap, rfl⟩ := own_slice ho
        have hA := HA.out
        rw [if_pos rfl, showPick] at hA
        subst hA
        have tl : (((x :: y :: r).length : Int) != 1) = true := bne_iff_ne.2 (by simp; omega)
        obtain ⟨m, hm⟩ : ∃ m, (x :: y :: r).length = m := ⟨_, rfl⟩
        rw [hm] at tl ⊢
        clear HA ho hm hlt0
        go_wp2_with fail
        go_quiet (fail)
        go_wp2_with fail
        go_ret2
        exact ⟨rfl, below_drewN HB1.out _⟩
    · have hne : (er != 0) = true := bne_iff_ne.2 her
      obtain ⟨p, cap, rfl⟩ := own_slice ho
      have hA := HA.out
      rw [if_neg her] at hA
      subst hA
      clear HA ho hlt0
      go_wp2_with fail
      go_quiet (fail)
      go_wp2_with fail
      go_ret2
      exact ⟨rfl, below_drewN HB1.out _⟩
  · have n1 : (k == 1) = false := beq_eq_false_iff_ne.2 h1
    have n2 : (k == 2) = false := beq_eq_false_iff_ne.2 h2
    have n4 : (k == 4) = false := beq_eq_false_iff_ne.2 h4
    have n5 : (k == 5) = false := beq_eq_false_iff_ne.2 h5
    have hS : S = tt := by rw [HW.out, if_neg h1, if_neg h2, if_neg h4, if_neg h5]
    have CL2 : Hid (∀ W, Calls Tryd.prog 5 #[.string TB] W fun e w' => ∃ v, e = .returned (.tuple #[v, .int .i64 er, .int .i64 pl]) ∧ LexOut W w' v ts ∧ Below W.heap.size W w') := by rw [hS, HTB.out] at CL; exact CL
    have HSS : Hid (TB = ⟨S.toArray⟩) := by show _ = _; rw [hS, HTB.out]
    clear HW CN CQ CL hS h1 h2 h4 h5
    go_enter Tryd.func7, Tryd.ntmps7
    go_wp2_with fail
    refine (CL2.out _).mono ?_
    rintro e w1 ⟨v, rfl, ho, hb1⟩
    have HB1 : Hid (Below w.heap.size w w1) := (HB.out).trans (hb1.mono (HB.out).size)
    have hlt0 : w.heap.size < (w.alloc (tokO k TB n a)).heap.size := lt_of_block (hno.out)
    have hown : Hid (w1.heap[w.heap.size]? = some (tokO k TB n a)) := (hb1.block _ hlt0).trans (hno.out)
    clear hb1 CL2
    by_cases her : er = 0
    · subst her
      match ts, ho, HA with
      | [x], ho, HA =>
        obtain ⟨g, cap, rfl, hg, y0, y1, y2, y3, hgl⟩ := own_one ho
        have hne1 : g ≠ w.heap.size := by have := Nat.lt_of_lt_of_le hlt0 hg; omega
        have hne2 : w.heap.size ≠ g := fun h => hne1 h.symm
        obtain ⟨a0, a1, a2, a3, f0, f1, f2, f3⟩ := tok_cells hown.out
        obtain ⟨xk, xt, xn, xa⟩ := x
        simp only at y0 y1 y2 y3
        have hA := HA.out
        rw [if_pos rfl, showPick] at hA
        have hbq := HBT.out xt
        obtain ⟨XB, hXB⟩ : ∃ b, (⟨xt.toArray⟩ : ByteArray) = b := ⟨_, rfl⟩
        rw [hXB] at hbq y1
        clear hXB
        clear HA ho hg hgl hlt0
        by_cases e1 : xk = k
        · have m1 : (xk != k) = false := by rw [e1]; simp
          by_cases e2 : xt = tt
          · rw [show decide (xt = tt) = true by simp [e2]] at hbq
            by_cases e3 : xn = n
            · have m3 : (xn != n) = false := by rw [e3]; simp
              by_cases e4 : xa = 0
              · have m4 : (xa != 0) = false := by rw [e4]; simp
                rw [if_pos ⟨e1, e2, e3, e4⟩] at hA
                subst hA
                clear e1 e2 e3 e4
                go_wp2_with fail
                go_quiet (fail)
                go_wp2_with fail
                go_ret2
                refine ⟨?_, below_drewN HB1.out _⟩
                rw [← HSS.out]
                rfl
              · have m4 : (xa != 0) = true := bne_iff_ne.2 e4
                rw [if_neg (fun h => e4 h.2.2.2)] at hA
                subst hA
                clear e1 e2 e3 e4
                go_wp2_with fail
                go_quiet (fail)
                go_wp2_with fail
                go_ret2
                exact ⟨rfl, below_drewN HB1.out _⟩
            · have m3 : (xn != n) = true := bne_iff_ne.2 e3
              rw [if_neg (fun h => e3 h.2.2.1)] at hA
              subst hA
              clear e1 e2 e3
              go_wp2_with fail
              go_quiet (fail)
              go_wp2_with fail
              go_ret2
              exact ⟨rfl, below_drewN HB1.out _⟩
          · rw [show decide (xt = tt) = false by simp [e2]] at hbq
            rw [if_neg (fun h => e2 h.2.1)] at hA
            subst hA
            clear e1 e2
            go_wp2_with fail
            go_quiet (fail)
            go_wp2_with fail
            go_ret2
            exact ⟨rfl, below_drewN HB1.out _⟩
        · have m1 : (xk != k) = true := bne_iff_ne.2 e1
          rw [if_neg (fun h => e1 h.1)] at hA
          subst hA
          clear e1
          go_wp2_with fail
          go_quiet (fail)
          go_wp2_with fail
          go_ret2
          exact ⟨rfl, below_drewN HB1.out _⟩
      | [], ho, HA =>
        obtain ⟨p, cap, rfl⟩ := own_slice ho
        have hA := HA.out
        rw [if_pos rfl, showPick] at hA
        subst hA
        clear HA ho hlt0
        go_wp2_with fail
        go_quiet (fail)
        go_wp2_with fail
        go_ret2
        exact ⟨rfl, below_drewN HB1.out _⟩
      | x :: y :: r, ho, HA =>
        obtain ⟨p, cap, rfl⟩ := own_slice ho
        have hA := HA.out
        rw [if_pos rfl, showPick] at hA
        subst hA
        have tl : (((x :: y :: r).length : Int) != 1) = true := bne_iff_ne.2 (by simp; omega)
        obtain ⟨m, hm⟩ : ∃ m, (x :: y :: r).length = m := ⟨_, rfl⟩
        rw [hm] at tl ⊢
        clear HA ho hm hlt0
        go_wp2_with fail
        go_quiet (fail)
        go_wp2_with fail
        go_ret2
        exact ⟨rfl, below_drewN HB1.out _⟩
    · have hne : (er != 0) = true := bne_iff_ne.2 her
      obtain ⟨p, cap, rfl⟩ := own_slice ho
      have hA := HA.out
      rw [if_neg her] at hA
      subst hA
      clear HA ho hlt0
      go_wp2_with fail
      go_quiet (fail)
      go_wp2_with fail
      go_ret2
      exact ⟨rfl, below_drewN HB1.out _⟩
end Go.Proofs.YtimnnebmjapneaaDoor

/- Two lists: if the reference's Ints, Texts, SameSteps, SameRow, sameCols say that they are one, they are. -/
import Derived.Test.YtjpnomkcinfonaaGreatDoorSf
namespace Go.Proofs.YtjpnomkcinfonaaGreatDoor
open Go.Shelf Go.RowKit Go.Lib
set_option linter.unusedVariables false
set_option linter.unusedSimpArgs false
attribute [local go_sem ↓] Go.wp_at_zero Go.wp_at_succ
theorem bytes_ext {a b : ByteArray} (h : a.toList = b.toList) : a = b := by
  have h' : a.data.toList = b.data.toList := by simpa [ByteArray.toList_eq] using h
  exact ByteArray.ext (Array.ext' h')
theorem bytes_ne {a b : ByteArray} (h : ¬ a = b) : ¬ a.toList = b.toList := fun e => h (bytes_ext e)
/-- What is answered is a truth; if it is true, P is. -/
def Snd (P : Prop) (w : World) (e : Ending) (w' : World) : Prop := ∃ r : Bool, e = .returned (.bool r) ∧ (r = true → P) ∧ Below w.heap.size w w'
theorem Snd.no {P : Prop} {w w' : World} (h : Below w.heap.size w w') : Snd P w (.returned (.bool false)) w' := ⟨false, rfl, (fun h => by cases h), h⟩
theorem Snd.yes {P : Prop} {w w' : World} (hP : P) (h : Below w.heap.size w w') : Snd P w (.returned (.bool true)) w' := ⟨true, rfl, fun _ => hP, h⟩
theorem take_step {α : Type} {xs ys : List α} {i : Nat} (h1 : i < xs.length) (h2 : i < ys.length) (h : xs.take i = ys.take i) (he : xs[i] = ys[i]) : xs.take (i + 1) = ys.take (i + 1) := by
  rw [List.take_succ_eq_append_getElem h1, List.take_succ_eq_append_getElem h2, h, he]
theorem take_all {α : Type} {xs ys : List α} {i : Nat} (h1 : xs.length = ys.length) (hi : ¬ i < xs.length) (h : xs.take i = ys.take i) : xs = ys := by
  rwa [List.take_of_length_le (by omega), List.take_of_length_le (by omega)] at h
theorem stp_ext {x y : Stp} (h1 : (x.k : Int) = (y.k : Int)) (h2 : x.t = y.t) (h3 : x.n = y.n) : x = y := by
  obtain ⟨k, t, n⟩ := x
  obtain ⟨k', t', n'⟩ := y
  simp only at h1 h2 h3
  have : k = k' := by omega
  subst this h2 h3
  rfl
theorem cl_ext {x y : Cl} (h1 : x.n = y.n) (h2 : x.k = y.k) : x = y := by
  obtain ⟨n, k⟩ := x
  obtain ⟨n', k'⟩ := y
  simp only at h1 h2
  subst h1 h2
  rfl
theorem run_step_ne (k k' : Int) (t t' : ByteArray) (n n' : Int) (h : ¬ (k = k' ∧ t = t' ∧ n = n')) (w : World) :
    (binOp .neq 168 (.agg #[.int .u8 k, .string t, .int .i64 n]) (.agg #[.int .u8 k', .string t', .int .i64 n'])).run Tryz.prog w = .ok (.bool true) w := by
  have hl : (binOp .eql 168 (.agg #[.int .u8 k, .string t, .int .i64 n]) (.agg #[.int .u8 k', .string t', .int .i64 n'])).run Tryz.prog w = .ok (.bool false) w := by
    have hS : Tryz.prog.underlying 168 = some (.struct (Tryz.prog.fieldsOf 168)) := by kernel_rfl
    have hp : Tryz.prog.stoodInHeld 168 = false := by kernel_rfl
    have u3 := Tryz.underlying3; have a3 := Tryz.isAgg3; have z3 := Tryz.sizeOf3
    have u9 := Tryz.underlying9; have a9 := Tryz.isAgg9; have z9 := Tryz.sizeOf9
    have u166 := Tryz.underlying166; have a166 := Tryz.isAgg166; have z166 := Tryz.sizeOf166
    have u2 := Tryz.underlying2; have a2 := Tryz.isAgg2; have z2 := Tryz.sizeOf2
    rw [run_eql_struct, show (10000 : Nat) = 9999 + 1 from rfl, run_equalIn_struct w 9999 168 _ _ hS hp]
    simp only [Program.fieldsOf, Tryz.underlying168]
    go_simp
    by_cases h_k : k = k' <;> by_cases h_t : t.toList = t'.toList <;> by_cases h_n : n = n' <;> first | (simp [h_k, h_t, h_n]; done) | (exact absurd ⟨h_k, bytes_ext h_t, h_n⟩ h)
  simp only [binOp, Sem.run_bind] at hl ⊢
  generalize (Op.equal 168 (.agg #[.int .u8 k, .string t, .int .i64 n]) (.agg #[.int .u8 k', .string t', .int .i64 n'])).run Tryz.prog w = r at hl ⊢
  cases r <;> simp_all
theorem run_col_ne (t t' : ByteArray) (k k' : Int) (h : ¬ (t = t' ∧ k = k')) (w : World) :
    (binOp .neq 142 (.agg #[.string t, .int .u8 k]) (.agg #[.string t', .int .u8 k'])).run Tryz.prog w = .ok (.bool true) w := by
  have hl : (binOp .eql 142 (.agg #[.string t, .int .u8 k]) (.agg #[.string t', .int .u8 k'])).run Tryz.prog w = .ok (.bool false) w := by
    have hS : Tryz.prog.underlying 142 = some (.struct (Tryz.prog.fieldsOf 142)) := by kernel_rfl
    have hp : Tryz.prog.stoodInHeld 142 = false := by kernel_rfl
    have u9 := Tryz.underlying9; have a9 := Tryz.isAgg9; have z9 := Tryz.sizeOf9
    have u62 := Tryz.underlying62; have a62 := Tryz.isAgg62; have z62 := Tryz.sizeOf62
    rw [run_eql_struct, show (10000 : Nat) = 9999 + 1 from rfl, run_equalIn_struct w 9999 142 _ _ hS hp]
    simp only [Program.fieldsOf, Tryz.underlying142]
    go_simp
    by_cases h_t : t.toList = t'.toList <;> by_cases h_k : k = k' <;> first | (simp [h_t, h_k]; done) | (exact absurd ⟨bytes_ext h_t, h_k⟩ h)
  simp only [binOp, Sem.run_bind] at hl ⊢
  generalize (Op.equal 142 (.agg #[.string t, .int .u8 k]) (.agg #[.string t', .int .u8 k'])).run Tryz.prog w = r at hl ⊢
  cases r <;> simp_all
theorem run_val_ne (k k' : Int) (b b' : Bool) (n n' : Int) (s s' : ByteArray) (h : ¬ (k = k' ∧ b = b' ∧ n = n' ∧ s = s')) (w : World) :
    (binOp .neq 64 (.agg #[.int .u8 k, .bool b, .int .i64 n, .string s]) (.agg #[.int .u8 k', .bool b', .int .i64 n', .string s'])).run Tryz.prog w = .ok (.bool true) w := by
  have hl : (binOp .eql 64 (.agg #[.int .u8 k, .bool b, .int .i64 n, .string s]) (.agg #[.int .u8 k', .bool b', .int .i64 n', .string s'])).run Tryz.prog w = .ok (.bool false) w := by
    have hS : Tryz.prog.underlying 64 = some (.struct (Tryz.prog.fieldsOf 64)) := by kernel_rfl
    have hp : Tryz.prog.stoodInHeld 64 = false := by kernel_rfl
    have u9 := Tryz.underlying9; have a9 := Tryz.isAgg9; have z9 := Tryz.sizeOf9
    have u62 := Tryz.underlying62; have a62 := Tryz.isAgg62; have z62 := Tryz.sizeOf62
    have u2 := Tryz.underlying2; have a2 := Tryz.isAgg2; have z2 := Tryz.sizeOf2
    have u4 := Tryz.underlying4; have a4 := Tryz.isAgg4; have z4 := Tryz.sizeOf4
    rw [run_eql_struct, show (10000 : Nat) = 9999 + 1 from rfl, run_equalIn_struct w 9999 64 _ _ hS hp]
    simp only [Program.fieldsOf, Tryz.underlying64]
    go_simp
    by_cases h_k : k = k' <;> by_cases h_b : b = b' <;> by_cases h_n : n = n' <;> by_cases h_s : s.toList = s'.toList <;> first | (simp [h_k, h_b, h_n, h_s]; done) | (exact absurd ⟨h_k, h_b, h_n, bytes_ext h_s⟩ h)
  simp only [binOp, Sem.run_bind] at hl ⊢
  generalize (Op.equal 64 (.agg #[.int .u8 k, .bool b, .int .i64 n, .string s]) (.agg #[.int .u8 k', .bool b', .int .i64 n', .string s'])).run Tryz.prog w = r at hl ⊢
  cases r <;> simp_all
set_option maxRecDepth 100000 in
set_option maxHeartbeats 2000000 in
theorem ints_snd (va vb : Value) (xs ys : List Int) (K L : Nat → Prop) (w : World) (h : ListIs rInt 1 8 K w va xs) (h' : ListIs rInt 1 8 L w vb ys) (hK : ∀ b, K b → b < w.heap.size) (hL : ∀ b, L b → b < w.heap.size) :
    Calls Tryz.prog 56 #[va, vb] w fun e w' => Snd (xs = ys) w e w' := by
  obtain ⟨p, c, rfl, hby, hp⟩ := h
  obtain ⟨q, d, rfl, _, hq⟩ := h'
  have HP : Hid _ := hp
  have HQ : Hid _ := hq
  have HKK : Hid (∀ b, K b → b < w.heap.size) := hK
  have HLL : Hid (∀ b, L b → b < w.heap.size) := hL
  clear hp hq hK hL
  by_cases hlen : xs.length = ys.length
  · have t3 : ((xs.length : Int) != (ys.length : Int)) = false := by simp; omega
    have HLE : Hid (xs.length = ys.length) := hlen
    clear hlen
    go_enter Tryz.func56, Tryz.ntmps56
    go_wp2_with fail
    go_loopg [13] xs.length (fun gf s30 wx => ∃ i : Nat, s30 = .int .i64 i ∧ i ≤ xs.length ∧ xs.length ≤ i + gf ∧ Hid (Below w.heap.size w wx) ∧ Hid (xs.take i = ys.take i))
    case atStart => exact ⟨0, rfl, by omega, by omega, Below.refl _ _, (show _ = _ by simp)⟩
    case round =>
      obtain ⟨i, rfl, hi1, hgf, HB, HT⟩ := hrel
      by_cases hi : i < xs.length
      · obtain ⟨g', rfl⟩ : ∃ g', gk = g' + 1 := ⟨gk - 1, by omega⟩
        have hi' : i < ys.length := by have := HLE.out; omega
        obtain ⟨b, o, rfl, hKb, hc⟩ := HP.out (by omega)
        obtain ⟨b', o', rfl, hLb, hc'⟩ := HQ.out (by omega)
        obtain ⟨cs, hcl, hcell, hrel1⟩ := hc i hi
        obtain ⟨ds, hdl, hdell, hrel2⟩ := hc' i hi'
        obtain ⟨x, hx⟩ : ∃ x, xs[i] = x := ⟨_, rfl⟩
        obtain ⟨y, hy⟩ : ∃ y, ys[i] = y := ⟨_, rfl⟩
        have HST : Hid (x = y → xs.take (i + 1) = ys.take (i + 1)) := fun e => take_step hi hi' HT.out (by rw [hx, hy, e])
        rw [hx] at hrel1
        rw [hy] at hrel2
        have hcs := hrel1.1
        have hds := hrel2.1
        have hcell2 : ∀ j u, cs[j]? = some u → wr.cell? ⟨b, o + i * 1 + j, none⟩ = some u := fun j u hj => by rw [HB.out.cell (p := ⟨b, _, none⟩) (HKK.out _ hKb)]; exact hcell j u hj
        have hdell2 : ∀ j u, ds[j]? = some u → wr.cell? ⟨b', o' + i * 1 + j, none⟩ = some u := fun j u hj => by rw [HB.out.cell (p := ⟨b', _, none⟩) (HLL.out _ hLb)]; exact hdell j u hj
        rw [hcs] at hcell2
        rw [hds] at hdell2
        have c0 := hcell2 0 _ rfl
        have e0 := hdell2 0 _ rfl
        simp only [Nat.add_zero, Nat.mul_one] at c0 e0
        have z0 : (0 : Int) ≤ (i : Int) := by omega
        have z1 : (i : Int) < (xs.length : Int) := by omega
        have z2 : (i : Int) < (ys.length : Int) := by omega
        have hbw := HB.out
        clear hc hc' hcell hdell hcell2 hdell2 hrel1 hrel2 hx hy HB HT hcl hdl hKb hLb hcs hds
        by_cases he : x = y
        · have HT2 : Hid (xs.take (i + 1) = ys.take (i + 1)) := HST.out he
          subst he
          clear HST
          have hne : (x != x) = false := by simp
          go_wp2_with fail
          go_quiet (fail)
          go_wp2_with fail
          go_roundg g'
          case measure => omega
          case rel => exact ⟨i + 1, by go_num, by omega, by omega, below_drewN hbw _, HT2⟩
        · clear HST
          have hne : (x != y) = true := by simp [he]
          clear he
          go_wp2_with fail
          go_quiet (fail)
          go_wp2_with fail
          go_ret
          exact Snd.no (below_drewN hbw _)
      · have z1 : ¬ (i : Int) < (xs.length : Int) := by omega
        have HF : Hid (xs = ys) := take_all HLE.out hi HT.out
        have HB2 : Hid (Below w.heap.size w wr) := HB.out
        clear HB HT
        go_wp2_with fail
        go_ret
        exact Snd.yes HF.out HB2.out
  · have t3 : ((xs.length : Int) != (ys.length : Int)) = true := by simp; omega
    clear hlen
    go_enter Tryz.func56, Tryz.ntmps56
    go_wp2_with fail
    go_ret
    exact Snd.no (Below.refl _ _)
set_option maxRecDepth 100000 in
set_option maxHeartbeats 2000000 in
theorem texts_snd (va vb : Value) (xs ys : List ByteArray) (K L : Nat → Prop) (w : World) (h : ListIs rTxt 1 16 K w va xs) (h' : ListIs rTxt 1 16 L w vb ys) (hK : ∀ b, K b → b < w.heap.size) (hL : ∀ b, L b → b < w.heap.size) :
    Calls Tryz.prog 54 #[va, vb] w fun e w' => Snd (xs = ys) w e w' := by
  obtain ⟨p, c, rfl, hby, hp⟩ := h
  obtain ⟨q, d, rfl, _, hq⟩ := h'
  have HP : Hid _ := hp
  have HQ : Hid _ := hq
  have HKK : Hid (∀ b, K b → b < w.heap.size) := hK
  have HLL : Hid (∀ b, L b → b < w.heap.size) := hL
  clear hp hq hK hL
  by_cases hlen : xs.length = ys.length
  · have t3 : ((xs.length : Int) != (ys.length : Int)) = false := by simp; omega
    have HLE : Hid (xs.length = ys.length) := hlen
    clear hlen
    go_enter Tryz.func54, Tryz.ntmps54
    go_wp2_with fail
    go_loopg [13] xs.length (fun gf s30 wx => ∃ i : Nat, s30 = .int .i64 i ∧ i ≤ xs.length ∧ xs.length ≤ i + gf ∧ Hid (Below w.heap.size w wx) ∧ Hid (xs.take i = ys.take i))
    case atStart => exact ⟨0, rfl, by omega, by omega, Below.refl _ _, (show _ = _ by simp)⟩
    case round =>
      obtain ⟨i, rfl, hi1, hgf, HB, HT⟩ := hrel
      by_cases hi : i < xs.length
      · obtain ⟨g', rfl⟩ : ∃ g', gk = g' + 1 := ⟨gk - 1, by omega⟩
        have hi' : i < ys.length := by have := HLE.out; omega
        obtain ⟨b, o, rfl, hKb, hc⟩ := HP.out (by omega)
        obtain ⟨b', o', rfl, hLb, hc'⟩ := HQ.out (by omega)
        obtain ⟨cs, hcl, hcell, hrel1⟩ := hc i hi
        obtain ⟨ds, hdl, hdell, hrel2⟩ := hc' i hi'
        obtain ⟨x, hx⟩ : ∃ x, xs[i] = x := ⟨_, rfl⟩
        obtain ⟨y, hy⟩ : ∃ y, ys[i] = y := ⟨_, rfl⟩
        have HST : Hid (x = y → xs.take (i + 1) = ys.take (i + 1)) := fun e => take_step hi hi' HT.out (by rw [hx, hy, e])
        rw [hx] at hrel1
        rw [hy] at hrel2
        have hcs := hrel1.1
        have hds := hrel2.1
        have hcell2 : ∀ j u, cs[j]? = some u → wr.cell? ⟨b, o + i * 1 + j, none⟩ = some u := fun j u hj => by rw [HB.out.cell (p := ⟨b, _, none⟩) (HKK.out _ hKb)]; exact hcell j u hj
        have hdell2 : ∀ j u, ds[j]? = some u → wr.cell? ⟨b', o' + i * 1 + j, none⟩ = some u := fun j u hj => by rw [HB.out.cell (p := ⟨b', _, none⟩) (HLL.out _ hLb)]; exact hdell j u hj
        rw [hcs] at hcell2
        rw [hds] at hdell2
        have c0 := hcell2 0 _ rfl
        have e0 := hdell2 0 _ rfl
        simp only [Nat.add_zero, Nat.mul_one] at c0 e0
        have z0 : (0 : Int) ≤ (i : Int) := by omega
        have z1 : (i : Int) < (xs.length : Int) := by omega
        have z2 : (i : Int) < (ys.length : Int) := by omega
        have hbw := HB.out
        clear hc hc' hcell hdell hcell2 hdell2 hrel1 hrel2 hx hy HB HT hcl hdl hKb hLb hcs hds
        by_cases he : x = y
        · have HT2 : Hid (xs.take (i + 1) = ys.take (i + 1)) := HST.out he
          subst he
          clear HST
          go_wp2_with fail
          go_quiet (fail)
          go_wp2_with fail
          go_roundg g'
          case measure => omega
          case rel => exact ⟨i + 1, by go_num, by omega, by omega, below_drewN hbw _, HT2⟩
        · clear HST
          have hne := bytes_ne he
          have hne2 : (x.toList == y.toList) = false := by simpa using hne
          clear he
          go_wp2_with fail
          go_quiet (fail)
          go_wp2_with fail
          go_ret
          exact Snd.no (below_drewN hbw _)
      · have z1 : ¬ (i : Int) < (xs.length : Int) := by omega
        have HF : Hid (xs = ys) := take_all HLE.out hi HT.out
        have HB2 : Hid (Below w.heap.size w wr) := HB.out
        clear HB HT
        go_wp2_with fail
        go_ret
        exact Snd.yes HF.out HB2.out
  · have t3 : ((xs.length : Int) != (ys.length : Int)) = true := by simp; omega
    clear hlen
    go_enter Tryz.func54, Tryz.ntmps54
    go_wp2_with fail
    go_ret
    exact Snd.no (Below.refl _ _)
set_option maxRecDepth 100000 in
set_option maxHeartbeats 2000000 in
theorem steps_snd (va vb : Value) (xs ys : List Stp) (K L : Nat → Prop) (w : World) (h : ListIs rStp 3 32 K w va xs) (h' : ListIs rStp 3 32 L w vb ys) (hK : ∀ b, K b → b < w.heap.size) (hL : ∀ b, L b → b < w.heap.size) :
    Calls Tryz.prog 53 #[va, vb] w fun e w' => Snd (xs = ys) w e w' := by
  obtain ⟨p, c, rfl, hby, hp⟩ := h
  obtain ⟨q, d, rfl, _, hq⟩ := h'
  have HP : Hid _ := hp
  have HQ : Hid _ := hq
  have HKK : Hid (∀ b, K b → b < w.heap.size) := hK
  have HLL : Hid (∀ b, L b → b < w.heap.size) := hL
  clear hp hq hK hL
  by_cases hlen : xs.length = ys.length
  · have t3 : ((xs.length : Int) != (ys.length : Int)) = false := by simp; omega
    have HLE : Hid (xs.length = ys.length) := hlen
    clear hlen
    go_enter Tryz.func53, Tryz.ntmps53
    go_wp2_with fail
    go_loopg [13] xs.length (fun gf s30 wx => ∃ i : Nat, s30 = .int .i64 i ∧ i ≤ xs.length ∧ xs.length ≤ i + gf ∧ Hid (Below w.heap.size w wx) ∧ Hid (xs.take i = ys.take i))
    case atStart => exact ⟨0, rfl, by omega, by omega, Below.refl _ _, (show _ = _ by simp)⟩
    case round =>
      obtain ⟨i, rfl, hi1, hgf, HB, HT⟩ := hrel
      by_cases hi : i < xs.length
      · obtain ⟨g', rfl⟩ : ∃ g', gk = g' + 1 := ⟨gk - 1, by omega⟩
        have hi' : i < ys.length := by have := HLE.out; omega
        obtain ⟨b, o, rfl, hKb, hc⟩ := HP.out (by omega)
        obtain ⟨b', o', rfl, hLb, hc'⟩ := HQ.out (by omega)
        obtain ⟨cs, hcl, hcell, hrel1⟩ := hc i hi
        obtain ⟨ds, hdl, hdell, hrel2⟩ := hc' i hi'
        obtain ⟨x, hx⟩ : ∃ x, xs[i] = x := ⟨_, rfl⟩
        obtain ⟨y, hy⟩ : ∃ y, ys[i] = y := ⟨_, rfl⟩
        have HST : Hid (x = y → xs.take (i + 1) = ys.take (i + 1)) := fun e => take_step hi hi' HT.out (by rw [hx, hy, e])
        rw [hx] at hrel1
        rw [hy] at hrel2
        have hcs := hrel1.1
        have hds := hrel2.1
        have hcell2 : ∀ j u, cs[j]? = some u → wr.cell? ⟨b, o + i * 3 + j, none⟩ = some u := fun j u hj => by rw [HB.out.cell (p := ⟨b, _, none⟩) (HKK.out _ hKb)]; exact hcell j u hj
        have hdell2 : ∀ j u, ds[j]? = some u → wr.cell? ⟨b', o' + i * 3 + j, none⟩ = some u := fun j u hj => by rw [HB.out.cell (p := ⟨b', _, none⟩) (HLL.out _ hLb)]; exact hdell j u hj
        rw [hcs] at hcell2
        rw [hds] at hdell2
        have c0 := hcell2 0 _ rfl
        have e0 := hdell2 0 _ rfl
        have c1 := hcell2 1 _ rfl
        have e1 := hdell2 1 _ rfl
        have c2 := hcell2 2 _ rfl
        have e2 := hdell2 2 _ rfl
        simp only [Nat.add_zero, Nat.mul_one] at c0 e0
        have z0 : (0 : Int) ≤ (i : Int) := by omega
        have z1 : (i : Int) < (xs.length : Int) := by omega
        have z2 : (i : Int) < (ys.length : Int) := by omega
        have hbw := HB.out
        clear hc hc' hcell hdell hcell2 hdell2 hrel1 hrel2 hx hy HB HT hcl hdl hKb hLb hcs hds
        by_cases he : x = y
        · have HT2 : Hid (xs.take (i + 1) = ys.take (i + 1)) := HST.out he
          subst he
          clear HST
          have hne := run_step_eq (x.k : Int) x.n x.t
          go_wp2_with fail
          go_quiet (fail)
          go_wp2_with fail
          go_roundg g'
          case measure => omega
          case rel => exact ⟨i + 1, by go_num, by omega, by omega, below_drewN hbw _, HT2⟩
        · clear HST
          have hne := run_step_ne (x.k : Int) (y.k : Int) x.t y.t x.n y.n (fun hh => he (stp_ext hh.1 hh.2.1 hh.2.2))
          clear he
          go_wp2_with fail
          go_quiet (fail)
          go_wp2_with fail
          go_ret
          exact Snd.no (below_drewN hbw _)
      · have z1 : ¬ (i : Int) < (xs.length : Int) := by omega
        have HF : Hid (xs = ys) := take_all HLE.out hi HT.out
        have HB2 : Hid (Below w.heap.size w wr) := HB.out
        clear HB HT
        go_wp2_with fail
        go_ret
        exact Snd.yes HF.out HB2.out
  · have t3 : ((xs.length : Int) != (ys.length : Int)) = true := by simp; omega
    clear hlen
    go_enter Tryz.func53, Tryz.ntmps53
    go_wp2_with fail
    go_ret
    exact Snd.no (Below.refl _ _)
set_option maxRecDepth 100000 in
set_option maxHeartbeats 2000000 in
theorem row_snd (va vb : Value) (xs ys : List Val) (K L : Nat → Prop) (w : World) (h : ListIs rVal 4 32 K w va xs) (h' : ListIs rVal 4 32 L w vb ys) (hK : ∀ b, K b → b < w.heap.size) (hL : ∀ b, L b → b < w.heap.size) :
    Calls Tryz.prog 52 #[va, vb] w fun e w' => Snd (xs = ys) w e w' := by
  obtain ⟨p, c, rfl, hby, hp⟩ := h
  obtain ⟨q, d, rfl, _, hq⟩ := h'
  have HP : Hid _ := hp
  have HQ : Hid _ := hq
  have HKK : Hid (∀ b, K b → b < w.heap.size) := hK
  have HLL : Hid (∀ b, L b → b < w.heap.size) := hL
  clear hp hq hK hL
  by_cases hlen : xs.length = ys.length
  · have t3 : ((xs.length : Int) != (ys.length : Int)) = false := by simp; omega
    have HLE : Hid (xs.length = ys.length) := hlen
    clear hlen
    go_enter Tryz.func52, Tryz.ntmps52
    go_wp2_with fail
    go_loopg [13] xs.length (fun gf s30 wx => ∃ i : Nat, s30 = .int .i64 i ∧ i ≤ xs.length ∧ xs.length ≤ i + gf ∧ Hid (Below w.heap.size w wx) ∧ Hid (xs.take i = ys.take i))
    case atStart => exact ⟨0, rfl, by omega, by omega, Below.refl _ _, (show _ = _ by simp)⟩
    case round =>
      obtain ⟨i, rfl, hi1, hgf, HB, HT⟩ := hrel
      by_cases hi : i < xs.length
      · obtain ⟨g', rfl⟩ : ∃ g', gk = g' + 1 := ⟨gk - 1, by omega⟩
        have hi' : i < ys.length := by have := HLE.out; omega
        obtain ⟨b, o, rfl, hKb, hc⟩ := HP.out (by omega)
        obtain ⟨b', o', rfl, hLb, hc'⟩ := HQ.out (by omega)
        obtain ⟨cs, hcl, hcell, hrel1⟩ := hc i hi
        obtain ⟨ds, hdl, hdell, hrel2⟩ := hc' i hi'
        obtain ⟨x, hx⟩ : ∃ x, xs[i] = x := ⟨_, rfl⟩
        obtain ⟨y, hy⟩ : ∃ y, ys[i] = y := ⟨_, rfl⟩
        have HST : Hid (x = y → xs.take (i + 1) = ys.take (i + 1)) := fun e => take_step hi hi' HT.out (by rw [hx, hy, e])
        rw [hx] at hrel1
        rw [hy] at hrel2
        have hcs := hrel1.1
        have hds := hrel2.1
        have hcell2 : ∀ j u, cs[j]? = some u → wr.cell? ⟨b, o + i * 4 + j, none⟩ = some u := fun j u hj => by rw [HB.out.cell (p := ⟨b, _, none⟩) (HKK.out _ hKb)]; exact hcell j u hj
        have hdell2 : ∀ j u, ds[j]? = some u → wr.cell? ⟨b', o' + i * 4 + j, none⟩ = some u := fun j u hj => by rw [HB.out.cell (p := ⟨b', _, none⟩) (HLL.out _ hLb)]; exact hdell j u hj
        rw [hcs] at hcell2
        rw [hds] at hdell2
        have c0 := hcell2 0 _ rfl
        have e0 := hdell2 0 _ rfl
        have c1 := hcell2 1 _ rfl
        have e1 := hdell2 1 _ rfl
        have c2 := hcell2 2 _ rfl
        have e2 := hdell2 2 _ rfl
        have c3 := hcell2 3 _ rfl
        have e3 := hdell2 3 _ rfl
        simp only [Nat.add_zero, Nat.mul_one] at c0 e0
        have z0 : (0 : Int) ≤ (i : Int) := by omega
        have z1 : (i : Int) < (xs.length : Int) := by omega
        have z2 : (i : Int) < (ys.length : Int) := by omega
        have hbw := HB.out
        clear hc hc' hcell hdell hcell2 hdell2 hrel1 hrel2 hx hy HB HT hcl hdl hKb hLb hcs hds
        by_cases he : x = y
        · have HT2 : Hid (xs.take (i + 1) = ys.take (i + 1)) := HST.out he
          subst he
          clear HST
          have hne := run_val_eq x.k x.n x.b x.s
          go_wp2_with fail
          go_quiet (fail)
          go_wp2_with fail
          go_roundg g'
          case measure => omega
          case rel => exact ⟨i + 1, by go_num, by omega, by omega, below_drewN hbw _, HT2⟩
        · clear HST
          have hne := run_val_ne x.k y.k x.b y.b x.n y.n x.s y.s (fun hh => he (by obtain ⟨k, b, n, s⟩ := x; obtain ⟨k', b', n', s'⟩ := y; simp only at hh; obtain ⟨rfl, rfl, rfl, rfl⟩ := hh; rfl))
          clear he
          go_wp2_with fail
          go_quiet (fail)
          go_wp2_with fail
          go_ret
          exact Snd.no (below_drewN hbw _)
      · have z1 : ¬ (i : Int) < (xs.length : Int) := by omega
        have HF : Hid (xs = ys) := take_all HLE.out hi HT.out
        have HB2 : Hid (Below w.heap.size w wr) := HB.out
        clear HB HT
        go_wp2_with fail
        go_ret
        exact Snd.yes HF.out HB2.out
  · have t3 : ((xs.length : Int) != (ys.length : Int)) = true := by simp; omega
    clear hlen
    go_enter Tryz.func52, Tryz.ntmps52
    go_wp2_with fail
    go_ret
    exact Snd.no (Below.refl _ _)
set_option maxRecDepth 100000 in
set_option maxHeartbeats 2000000 in
theorem cols_snd (va vb : Value) (xs ys : List Cl) (K L : Nat → Prop) (w : World) (h : ListIs rCl 2 24 K w va xs) (h' : ListIs rCl 2 24 L w vb ys) (hK : ∀ b, K b → b < w.heap.size) (hL : ∀ b, L b → b < w.heap.size) :
    Calls Tryz.prog 28 #[va, vb] w fun e w' => Snd (xs = ys) w e w' := by
  obtain ⟨p, c, rfl, hby, hp⟩ := h
  obtain ⟨q, d, rfl, _, hq⟩ := h'
  have HP : Hid _ := hp
  have HQ : Hid _ := hq
  have HKK : Hid (∀ b, K b → b < w.heap.size) := hK
  have HLL : Hid (∀ b, L b → b < w.heap.size) := hL
  clear hp hq hK hL
  by_cases hlen : xs.length = ys.length
  · have t3 : ((xs.length : Int) != (ys.length : Int)) = false := by simp; omega
    have HLE : Hid (xs.length = ys.length) := hlen
    clear hlen
    go_enter Tryz.func28, Tryz.ntmps28
    go_wp2_with fail
    go_loopg [13] xs.length (fun gf s30 wx => ∃ i : Nat, s30 = .int .i64 i ∧ i ≤ xs.length ∧ xs.length ≤ i + gf ∧ Hid (Below w.heap.size w wx) ∧ Hid (xs.take i = ys.take i))
    case atStart => exact ⟨0, rfl, by omega, by omega, Below.refl _ _, (show _ = _ by simp)⟩
    case round =>
      obtain ⟨i, rfl, hi1, hgf, HB, HT⟩ := hrel
      by_cases hi : i < xs.length
      · obtain ⟨g', rfl⟩ : ∃ g', gk = g' + 1 := ⟨gk - 1, by omega⟩
        have hi' : i < ys.length := by have := HLE.out; omega
        obtain ⟨b, o, rfl, hKb, hc⟩ := HP.out (by omega)
        obtain ⟨b', o', rfl, hLb, hc'⟩ := HQ.out (by omega)
        obtain ⟨cs, hcl, hcell, hrel1⟩ := hc i hi
        obtain ⟨ds, hdl, hdell, hrel2⟩ := hc' i hi'
        obtain ⟨x, hx⟩ : ∃ x, xs[i] = x := ⟨_, rfl⟩
        obtain ⟨y, hy⟩ : ∃ y, ys[i] = y := ⟨_, rfl⟩
        have HST : Hid (x = y → xs.take (i + 1) = ys.take (i + 1)) := fun e => take_step hi hi' HT.out (by rw [hx, hy, e])
        rw [hx] at hrel1
        rw [hy] at hrel2
        have hcs := hrel1.1
        have hds := hrel2.1
        have hcell2 : ∀ j u, cs[j]? = some u → wr.cell? ⟨b, o + i * 2 + j, none⟩ = some u := fun j u hj => by rw [HB.out.cell (p := ⟨b, _, none⟩) (HKK.out _ hKb)]; exact hcell j u hj
        have hdell2 : ∀ j u, ds[j]? = some u → wr.cell? ⟨b', o' + i * 2 + j, none⟩ = some u := fun j u hj => by rw [HB.out.cell (p := ⟨b', _, none⟩) (HLL.out _ hLb)]; exact hdell j u hj
        rw [hcs] at hcell2
        rw [hds] at hdell2
        have c0 := hcell2 0 _ rfl
        have e0 := hdell2 0 _ rfl
        have c1 := hcell2 1 _ rfl
        have e1 := hdell2 1 _ rfl
        simp only [Nat.add_zero, Nat.mul_one] at c0 e0
        have z0 : (0 : Int) ≤ (i : Int) := by omega
        have z1 : (i : Int) < (xs.length : Int) := by omega
        have z2 : (i : Int) < (ys.length : Int) := by omega
        have hbw := HB.out
        clear hc hc' hcell hdell hcell2 hdell2 hrel1 hrel2 hx hy HB HT hcl hdl hKb hLb hcs hds
        by_cases he : x = y
        · have HT2 : Hid (xs.take (i + 1) = ys.take (i + 1)) := HST.out he
          subst he
          clear HST
          have hne := run_col_eq (x.k : Int) x.n
          go_wp2_with fail
          go_quiet (fail)
          go_wp2_with fail
          go_roundg g'
          case measure => omega
          case rel => exact ⟨i + 1, by go_num, by omega, by omega, below_drewN hbw _, HT2⟩
        · clear HST
          have hne := run_col_ne x.n y.n (x.k : Int) (y.k : Int) (fun hh => he (cl_ext hh.1 (by omega)))
          clear he
          go_wp2_with fail
          go_quiet (fail)
          go_wp2_with fail
          go_ret
          exact Snd.no (below_drewN hbw _)
      · have z1 : ¬ (i : Int) < (xs.length : Int) := by omega
        have HF : Hid (xs = ys) := take_all HLE.out hi HT.out
        have HB2 : Hid (Below w.heap.size w wr) := HB.out
        clear HB HT
        go_wp2_with fail
        go_ret
        exact Snd.yes HF.out HB2.out
  · have t3 : ((xs.length : Int) != (ys.length : Int)) = true := by simp; omega
    clear hlen
    go_enter Tryz.func28, Tryz.ntmps28
    go_wp2_with fail
    go_ret
    exact Snd.no (Below.refl _ _)
end Go.Proofs.YtjpnomkcinfonaaGreatDoor
/- Rows, sources, fragments, files: if the reference says that two are one, they are. -/
namespace Go.Proofs.YtjpnomkcinfonaaGreatDoor
open Go.Shelf Go.RowKit Go.Lib
set_option linter.unusedVariables false
set_option linter.unusedSimpArgs false
attribute [local go_sem ↓] Go.wp_at_zero Go.wp_at_succ
/-- .. what is answered, by an answer that is known. -/
theorem calls_is {P : Program} {f : FuncId} {args : Array Value} {w : World} {p q : Prop} (h : Calls P f args w fun e w' => Snd p w e w') (hq : p → q) : Calls P f args w fun e w' => Snd q w e w' :=
  h.mono fun _ _ ⟨r, he, hp, hb⟩ => ⟨r, he, fun hr => hq (hp hr), hb⟩
/-- What is answered where P is not. -/
theorem Snd.false {P : Prop} {w w' : World} {e : Ending} (h : Snd P w e w') (hP : ¬ P) : e = .returned (.bool false) ∧ Below w.heap.size w w' := by
  obtain ⟨r, he, hp, hb⟩ := h
  cases r
  · exact ⟨he, hb⟩
  · exact absurd (hp rfl) hP
/-- A call whose answer is a truth that S knows, in a region that is drawn. -/
theorem calls_laterB {P : Program} {f : FuncId} {args : Array Value} {W0 : World} {p : LaterS W0.heap.size W0} {Q : Prop}
    (h : Calls P f args p.w fun e w' => Snd Q p.w e w') : Calls P f args p.w fun e w'' => ∃ r : Bool, e = .returned (.bool r) ∧ (r = true → Q) ∧ ∃ p' : LaterS W0.heap.size W0, w'' = p'.w :=
  h.mono fun _ _ ⟨r, he, hq, hb⟩ => ⟨r, he, hq, ⟨_, p.h.trans (hb.mono p.h.size)⟩, rfl⟩
theorem sr_ext {x y : Sr} (h1 : x.k = y.k) (h2 : x.t = y.t) (h3 : x.v = y.v) (h4 : x.s = y.s) (h5 : x.f = y.f) : x = y := by
  obtain ⟨_, _, _, _, _⟩ := x
  obtain ⟨_, _, _, _, _⟩ := y
  simp only at h1 h2 h3 h4 h5
  rw [h1, h2, h3, h4, h5]
theorem frg_ext {x y : Frg} (h1 : x.id = y.id) (h2 : x.nd = y.nd) (h3 : x.l = y.l) (h4 : x.r = y.r) (h5 : x.raw = y.raw) (h6 : x.by_ = y.by_) (h7 : x.to = y.to) : x = y := by
  obtain ⟨_, _, _, _, _, _, _⟩ := x
  obtain ⟨_, _, _, _, _, _, _⟩ := y
  simp only at h1 h2 h3 h4 h5 h6 h7
  rw [h1, h2, h3, h4, h5, h6, h7]
theorem fh_ext {x y : Fh} (h1 : x.t = y.t) (h2 : x.v = y.v) (h3 : x.s = y.s) (h4 : x.c = y.c) : x = y := by
  obtain ⟨_, _, _, _⟩ := x
  obtain ⟨_, _, _, _⟩ := y
  simp only at h1 h2 h3 h4
  rw [h1, h2, h3, h4]
theorem run_vrs_no (a b a' b' : Int) (h : ¬ (a = a' ∧ b = b')) (w : World) :
    (binOp .eql 38 (.agg #[.int .u64 a, .int .u64 b]) (.agg #[.int .u64 a', .int .u64 b'])).run Tryz.prog w = .ok (.bool false) w := by
  have hS : Tryz.prog.underlying 38 = some (.struct (Tryz.prog.fieldsOf 38)) := by kernel_rfl
  have hp : Tryz.prog.stoodInHeld 38 = false := by kernel_rfl
  have u9 := Tryz.underlying10; have a9 := Tryz.isAgg10; have z9 := Tryz.sizeOf10
  rw [run_eql_struct, show (10000 : Nat) = 9999 + 1 from rfl, run_equalIn_struct w 9999 38 _ _ hS hp]
  simp only [Program.fieldsOf, Tryz.underlying38]
  go_simp
  by_cases h1 : a = a' <;> by_cases h2 : b = b' <;> first | (simp [h1, h2]; done) | (exact absurd ⟨h1, h2⟩ h)
theorem run_vrs_is (v v' : Vrs) (h : v = v') (w : World) :
    (binOp .eql 38 (.agg #[.int .u64 (v.b : Int), .int .u64 (v.l : Int)]) (.agg #[.int .u64 (v'.b : Int), .int .u64 (v'.l : Int)])).run Tryz.prog w = .ok (.bool true) w := by
  subst h; exact run_vrs_eq _ _ w
theorem run_vrs_not (v v' : Vrs) (h : ¬ v = v') (w : World) :
    (binOp .eql 38 (.agg #[.int .u64 (v.b : Int), .int .u64 (v.l : Int)]) (.agg #[.int .u64 (v'.b : Int), .int .u64 (v'.l : Int)])).run Tryz.prog w = .ok (.bool false) w := by
  refine run_vrs_no _ _ _ _ (fun hh => h ?_) w
  obtain ⟨b, l⟩ := v
  obtain ⟨b', l'⟩ := v'
  simp only at hh
  have h1 : b = b' := by omega
  have h2 : l = l' := by omega
  rw [h1, h2]
set_option maxRecDepth 100000 in
set_option maxHeartbeats 4000000 in
theorem rows_snd (va vb : Value) (xs ys : List (List Val)) (K L : Nat → Prop) (w : World) (h : ListIs rRow 1 24 K w va xs) (h' : ListIs rRow 1 24 L w vb ys) (hK : ∀ b, K b → b < w.heap.size) (hL : ∀ b, L b → b < w.heap.size) :
    Calls Tryz.prog 29 #[va, vb] w fun e w' => Snd (xs = ys) w e w' := by
  by_cases hxy : xs = ys
  · subst hxy
    exact (rows_eq va vb xs K L w h h' hK hL).mono fun _ _ ⟨he, hb⟩ => ⟨true, he, fun _ => rfl, hb⟩
  obtain ⟨p, c, rfl, hby, hp⟩ := h
  obtain ⟨q, d, rfl, _, hq⟩ := h'
  have HP : Hid _ := hp
  have HQ : Hid _ := hq
  have HKK : Hid (∀ b, K b → b < w.heap.size) := hK
  have HLL : Hid (∀ b, L b → b < w.heap.size) := hL
  have HNE : Hid (¬ xs = ys) := hxy
  clear hp hq hK hL hxy
  by_cases hlen : xs.length = ys.length
  · have t3 : ((xs.length : Int) != (ys.length : Int)) = false := by simp; omega
    have HLE : Hid (xs.length = ys.length) := hlen
    clear hlen
    go_enter Tryz.func29, Tryz.ntmps29
    go_wp2_with fail
    go_loopg [13] xs.length (fun gf s30 wx => ∃ i : Nat, s30 = .int .i64 i ∧ i ≤ xs.length ∧ xs.length ≤ i + gf ∧ Hid (Below w.heap.size w wx) ∧ Hid (xs.take i = ys.take i))
    case atStart => exact ⟨0, rfl, by omega, by omega, Below.refl _ _, (show _ = _ by simp)⟩
    case round =>
      obtain ⟨i, rfl, hi1, hgf, HB, HT⟩ := hrel
      by_cases hi : i < xs.length
      · obtain ⟨g', rfl⟩ : ∃ g', gk = g' + 1 := ⟨gk - 1, by omega⟩
        have hi' : i < ys.length := by have := HLE.out; omega
        obtain ⟨b, o, rfl, hKb, hc⟩ := HP.out (by omega)
        obtain ⟨b', o', rfl, hLb, hc'⟩ := HQ.out (by omega)
        obtain ⟨cs, hcl, hcell, hrel1⟩ := hc i hi
        obtain ⟨ds, hdl, hdell, hrel2⟩ := hc' i hi'
        obtain ⟨x, hx⟩ : ∃ x, xs[i] = x := ⟨_, rfl⟩
        obtain ⟨y, hy⟩ : ∃ y, ys[i] = y := ⟨_, rfl⟩
        have HST : Hid (x = y → xs.take (i + 1) = ys.take (i + 1)) := fun e => take_step hi hi' HT.out (by rw [hx, hy, e])
        rw [hx] at hrel1
        rw [hy] at hrel2
        have hbw := HB.out
        have hkr : ∀ b, K b → b < wr.heap.size := fun b hb => Nat.lt_of_lt_of_le (HKK.out b hb) hbw.size
        have hlr : ∀ b, L b → b < wr.heap.size := fun b hb => Nat.lt_of_lt_of_le (HLL.out b hb) hbw.size
        have hcell2 : ∀ (p : LaterS wr.heap.size wr) j u, cs[j]? = some u → p.w.cell? ⟨b, o + i * 1 + j, none⟩ = some u := fun p j u hj => by
          rw [p.h.cell (p := ⟨b, _, none⟩) (hkr _ hKb), hbw.cell (p := ⟨b, _, none⟩) (HKK.out _ hKb)]; exact hcell j u hj
        have hdell2 : ∀ (p : LaterS wr.heap.size wr) j u, ds[j]? = some u → p.w.cell? ⟨b', o' + i * 1 + j, none⟩ = some u := fun p j u hj => by
          rw [p.h.cell (p := ⟨b', _, none⟩) (hlr _ hLb), hbw.cell (p := ⟨b', _, none⟩) (HLL.out _ hLb)]; exact hdell j u hj
        obtain ⟨u1, hcs, hl1⟩ := hrel1
        obtain ⟨u2, hds, hl2⟩ := hrel2
        rw [hcs] at hcell2
        rw [hds] at hdell2
        clear hcs hds
        by_cases he : x = y
        · have HT2 : Hid (xs.take (i + 1) = ys.take (i + 1)) := HST.out he
          subst he
          have cS : Hid (∀ p : LaterS wr.heap.size wr, Calls Tryz.prog 52 #[u1, u2] p.w fun e w' => e = .returned (.bool true) ∧ Below p.w.heap.size p.w w') := fun p =>
            row_eq u1 u2 x K L p.w (ListIs.later mVal hl1 HKK.out (hbw.trans (p.h.mono hbw.size))) (ListIs.later mVal hl2 HLL.out (hbw.trans (p.h.mono hbw.size))) (fun b hb => Nat.lt_of_lt_of_le (hkr b hb) p.h.size) (fun b hb => Nat.lt_of_lt_of_le (hlr b hb) p.h.size)
          obtain ⟨p1, d1, rfl, _, _⟩ := hl1
          obtain ⟨p2, d2, rfl, _, _⟩ := hl2
          have c0 := fun p => hcell2 p 0 _ rfl
          have e0 := fun p => hdell2 p 0 _ rfl
          simp only [Nat.add_zero, Nat.mul_one] at c0 e0
          have z0 : (0 : Int) ≤ (i : Int) := by omega
          have z1 : (i : Int) < (xs.length : Int) := by omega
          have z2 : (i : Int) < (ys.length : Int) := by omega
          clear hc hc' hcell hdell hcell2 hdell2 hx hy HB HT HST hcl hdl hKb hLb hkr hlr
          go_wp2_with fail
          have inhL := laterInh
          refine wp_region_laterS mixedOnS (by kernel_rfl) ?_
          repeat (go_big_quiet_step ((go_at_call 52; exact calls_laterS (cS.out _))))
          refine wpQuiet_nil ?_
          intro w2 hw'
          obtain ⟨⟨wq, hwq⟩, hw''⟩ := hw'
          subst hw''
          go_wp2_with fail
          go_roundg g'
          case measure => omega
          case rel => exact ⟨i + 1, by go_num, by omega, by omega, hbw.trans (hwq.mono hbw.size), HT2⟩
        · have cS : Hid (∀ p : LaterS wr.heap.size wr, Calls Tryz.prog 52 #[u1, u2] p.w fun e w' => e = .returned (.bool false) ∧ Below p.w.heap.size p.w w') := fun p =>
            (row_snd u1 u2 x y K L p.w (ListIs.later mVal hl1 HKK.out (hbw.trans (p.h.mono hbw.size))) (ListIs.later mVal hl2 HLL.out (hbw.trans (p.h.mono hbw.size))) (fun b hb => Nat.lt_of_lt_of_le (hkr b hb) p.h.size) (fun b hb => Nat.lt_of_lt_of_le (hlr b hb) p.h.size)).mono (fun _ _ hh => hh.false he)
          obtain ⟨p1, d1, rfl, _, _⟩ := hl1
          obtain ⟨p2, d2, rfl, _, _⟩ := hl2
          have c0 := fun p => hcell2 p 0 _ rfl
          have e0 := fun p => hdell2 p 0 _ rfl
          simp only [Nat.add_zero, Nat.mul_one] at c0 e0
          have z0 : (0 : Int) ≤ (i : Int) := by omega
          have z1 : (i : Int) < (xs.length : Int) := by omega
          have z2 : (i : Int) < (ys.length : Int) := by omega
          clear hc hc' hcell hdell hcell2 hdell2 hx hy HB HT HST hcl hdl hKb hLb hkr hlr he
          go_wp2_with fail
          have inhL := laterInh
          refine wp_region_laterS mixedOnS (by kernel_rfl) ?_
          repeat (go_big_quiet_step ((go_at_call 52; exact calls_laterS (cS.out _))))
          refine wpQuiet_nil ?_
          intro w2 hw'
          obtain ⟨⟨wq, hwq⟩, hw''⟩ := hw'
          subst hw''
          go_wp2_with fail
          go_ret
          exact Snd.no (hbw.trans (hwq.mono hbw.size))
      · exact absurd (take_all HLE.out hi HT.out) HNE.out
  · have t3 : ((xs.length : Int) != (ys.length : Int)) = true := by simp; omega
    clear hlen
    go_enter Tryz.func29, Tryz.ntmps29
    go_wp2_with fail
    go_ret
    exact Snd.no (Below.refl _ _)
set_option maxRecDepth 100000 in
set_option maxHeartbeats 4000000 in
theorem src_snd (cs ds : List Value) (x y : Sr) (K L : Nat → Prop) (w : World) (h : rSr K w cs x) (h' : rSr L w ds y) (hK : ∀ b, K b → b < w.heap.size) (hL : ∀ b, L b → b < w.heap.size) :
    Calls Tryz.prog 55 #[.agg cs.toArray, .agg ds.toArray] w fun e w' => Snd (x = y) w e w' := by
  have KK : ∀ W, Below w.heap.size w W → ∀ b, K b → b < W.heap.size := fun W hb b h => Nat.lt_of_lt_of_le (hK b h) hb.size
  have LL : ∀ W, Below w.heap.size w W → ∀ b, L b → b < W.heap.size := fun W hb b h => Nat.lt_of_lt_of_le (hL b h) hb.size
  obtain ⟨v, rfl, _, _, _, _, hl⟩ := h
  obtain ⟨u, rfl, _, _, _, _, hl'⟩ := h'
  have CI : Hid (∀ W, Below w.heap.size w W → Calls Tryz.prog 56 #[v, u] W fun e w' => Snd (x.f = y.f) W e w') := fun W hb =>
    ints_snd v u x.f y.f K L W (ListIs.later mInt hl hK hb) (ListIs.later mInt hl' hL hb) (KK W hb) (LL W hb)
  obtain ⟨p1, d1, rfl, _, _⟩ := hl
  obtain ⟨p2, d2, rfl, _, _⟩ := hl'
  obtain ⟨W0, hW0, hb0, hs0, hg⟩ := two_boxesB w #[.int .u8 (x.k : Int), .string x.t, .int .u64 (x.v.b : Int), .int .u64 (x.v.l : Int), .int .i64 x.s, .slice p1 x.f.length d1] #[.int .u8 (y.k : Int), .string y.t, .int .u64 (y.v.b : Int), .int .u64 (y.v.l : Int), .int .i64 y.s, .slice p2 y.f.length d2] 40
  have HG : Hid _ := hg
  obtain ⟨g0, g1⟩ := hg W0 (Below.refl _ _)
  have x0 := cell_of_row (k := 0) g0 rfl
  have y0 := cell_of_row (k := 0) g1 rfl
  have x1 := cell_of_row (k := 1) g0 rfl
  have y1 := cell_of_row (k := 1) g1 rfl
  have x2 := cell_of_row (k := 2) g0 rfl
  have y2 := cell_of_row (k := 2) g1 rfl
  have x3 := cell_of_row (k := 3) g0 rfl
  have y3 := cell_of_row (k := 3) g1 rfl
  have x4 := cell_of_row (k := 4) g0 rfl
  have y4 := cell_of_row (k := 4) g1 rfl
  have x5 := cell_of_row (k := 5) g0 rfl
  have y5 := cell_of_row (k := 5) g1 rfl
  have HB0 : Hid (Below w.heap.size w W0) := hb0
  clear hK hL hb0 hs0 g0 g1 hg KK LL
  by_cases ck : x.k = y.k
  rotate_left
  · have tk : ((x.k : Int) == (y.k : Int)) = false := by simp; omega
    clear ck
    go_enter Tryz.func55, Tryz.ntmps55
    go_wp2_with fail
    go_ret
    exact Snd.no HB0.out
  have Ek : Hid (x.k = y.k) := ck
  have tk : ((x.k : Int) == (y.k : Int)) = true := by simp [Ek.out]
  clear ck
  by_cases ct : x.t = y.t
  rotate_left
  · have ut : ¬ x.t.toList = y.t.toList := bytes_ne ct
    have tt : (x.t.toList == y.t.toList) = false := by simpa using ut
    clear ct
    go_enter Tryz.func55, Tryz.ntmps55
    go_wp2_with fail
    go_ret
    exact Snd.no HB0.out
  have Et : Hid (x.t = y.t) := ct
  have tt : (x.t.toList == y.t.toList) = true := by simp [Et.out]
  have ut : x.t.toList = y.t.toList := by rw [Et.out]
  clear ct
  by_cases cv : x.v = y.v
  rotate_left
  · have tv := run_vrs_not x.v y.v cv
    clear cv
    go_enter Tryz.func55, Tryz.ntmps55
    go_wp2_with fail
    go_ret
    exact Snd.no HB0.out
  have Ev : Hid (x.v = y.v) := cv
  have tv := run_vrs_is x.v y.v Ev.out
  clear cv
  by_cases cs : x.s = y.s
  rotate_left
  · have ts : (x.s == y.s) = false := by simp [cs]
    clear cs
    go_enter Tryz.func55, Tryz.ntmps55
    go_wp2_with fail
    go_ret
    exact Snd.no HB0.out
  have Es : Hid (x.s = y.s) := cs
  have ts : (x.s == y.s) = true := by simp [Es.out]
  clear cs
  go_enter Tryz.func55, Tryz.ntmps55
  go_wp2_with fail
  refine (CI.out W0 HB0.out).mono ?_
  rintro e X1 ⟨r1, rfl, hr1, hbx⟩
  have HX1 : Hid (Below w.heap.size w X1) := (HB0.out).trans (hbx.mono (HB0.out).size)
  have HW1 : Hid (Below W0.heap.size W0 X1) := hbx
  clear hbx
  cases r1
  · clear hr1
    go_wp2_with fail
    go_ret
    exact Snd.no HX1.out
  have Ef : Hid (x.f = y.f) := hr1 rfl
  clear hr1
  go_wp2_with fail
  go_ret
  exact Snd.yes (sr_ext Ek.out Et.out Ev.out Es.out Ef.out) HX1.out
set_option maxRecDepth 100000 in
set_option maxHeartbeats 4000000 in
theorem frag_snd (cs ds : List Value) (x y : Frg) (K L : Nat → Prop) (w : World) (h : rFrg K w cs x) (h' : rFrg L w ds y) (hK : ∀ b, K b → b < w.heap.size) (hL : ∀ b, L b → b < w.heap.size) :
    Calls Tryz.prog 31 #[.agg cs.toArray, .agg ds.toArray] w fun e w' => Snd (x = y) w e w' := by
  have KK : ∀ W, Below w.heap.size w W → ∀ b, K b → b < W.heap.size := fun W hb b h => Nat.lt_of_lt_of_le (hK b h) hb.size
  have LL : ∀ W, Below w.heap.size w W → ∀ b, L b → b < W.heap.size := fun W hb b h => Nat.lt_of_lt_of_le (hL b h) hb.size
  obtain ⟨c1, c2, v, rfl, _, _, s1, s2, _, hl⟩ := h
  obtain ⟨d1, d2, u, rfl, _, _, s1', s2', _, hl'⟩ := h'
  have CA : Hid (∀ W, Below w.heap.size w W → Calls Tryz.prog 55 #[.agg c1.toArray, .agg d1.toArray] W fun e w' => Snd (x.l = y.l) W e w') := fun W hb =>
    src_snd c1 d1 x.l y.l K L W (mSr _ _ _ _ _ _ (fun _ h => h) (kept_of hK hb) s1) (mSr _ _ _ _ _ _ (fun _ h => h) (kept_of hL hb) s1') (KK W hb) (LL W hb)
  have CB : Hid (∀ W, Below w.heap.size w W → Calls Tryz.prog 55 #[.agg c2.toArray, .agg d2.toArray] W fun e w' => Snd (x.r = y.r) W e w') := fun W hb =>
    src_snd c2 d2 x.r y.r K L W (mSr _ _ _ _ _ _ (fun _ h => h) (kept_of hK hb) s2) (mSr _ _ _ _ _ _ (fun _ h => h) (kept_of hL hb) s2') (KK W hb) (LL W hb)
  have CI : Hid (∀ W, Below w.heap.size w W → Calls Tryz.prog 56 #[v, u] W fun e w' => Snd (x.to = y.to) W e w') := fun W hb =>
    ints_snd v u x.to y.to K L W (ListIs.later mInt hl hK hb) (ListIs.later mInt hl' hL hb) (KK W hb) (LL W hb)
  obtain ⟨a1, rfl, _, _, _, _, m1⟩ := s1
  obtain ⟨a2, rfl, _, _, _, _, m2⟩ := s2
  obtain ⟨b1, rfl, _, _, _, _, m3⟩ := s1'
  obtain ⟨b2, rfl, _, _, _, _, m4⟩ := s2'
  obtain ⟨p1, q1, rfl, _, _⟩ := hl
  obtain ⟨p2, q2, rfl, _, _⟩ := hl'
  obtain ⟨p3, q3, rfl, _, _⟩ := m1
  obtain ⟨p4, q4, rfl, _, _⟩ := m2
  obtain ⟨p5, q5, rfl, _, _⟩ := m3
  obtain ⟨p6, q6, rfl, _, _⟩ := m4
  simp only [List.cons_append, List.nil_append]
  obtain ⟨W0, hW0, hb0, hs0, hg⟩ := two_boxesB w #[.int .i64 x.id, .int .i64 x.nd, .int .u8 (x.l.k : Int), .string x.l.t, .int .u64 (x.l.v.b : Int), .int .u64 (x.l.v.l : Int), .int .i64 x.l.s, .slice p3 x.l.f.length q3, .int .u8 (x.r.k : Int), .string x.r.t, .int .u64 (x.r.v.b : Int), .int .u64 (x.r.v.l : Int), .int .i64 x.r.s, .slice p4 x.r.f.length q4, .bool x.raw, .int .i64 x.by_, .slice p1 x.to.length q1] #[.int .i64 y.id, .int .i64 y.nd, .int .u8 (y.l.k : Int), .string y.l.t, .int .u64 (y.l.v.b : Int), .int .u64 (y.l.v.l : Int), .int .i64 y.l.s, .slice p5 y.l.f.length q5, .int .u8 (y.r.k : Int), .string y.r.t, .int .u64 (y.r.v.b : Int), .int .u64 (y.r.v.l : Int), .int .i64 y.r.s, .slice p6 y.r.f.length q6, .bool y.raw, .int .i64 y.by_, .slice p2 y.to.length q2] 42
  have HG : Hid _ := hg
  obtain ⟨g0, g1⟩ := hg W0 (Below.refl _ _)
  have x0 := cell_of_row (k := 0) g0 rfl
  have y0 := cell_of_row (k := 0) g1 rfl
  have x1 := cell_of_row (k := 1) g0 rfl
  have y1 := cell_of_row (k := 1) g1 rfl
  have x2 := cell_of_row (k := 2) g0 rfl
  have y2 := cell_of_row (k := 2) g1 rfl
  have x3 := cell_of_row (k := 3) g0 rfl
  have y3 := cell_of_row (k := 3) g1 rfl
  have x4 := cell_of_row (k := 4) g0 rfl
  have y4 := cell_of_row (k := 4) g1 rfl
  have x5 := cell_of_row (k := 5) g0 rfl
  have y5 := cell_of_row (k := 5) g1 rfl
  have x6 := cell_of_row (k := 6) g0 rfl
  have y6 := cell_of_row (k := 6) g1 rfl
  have x7 := cell_of_row (k := 7) g0 rfl
  have y7 := cell_of_row (k := 7) g1 rfl
  have HB0 : Hid (Below w.heap.size w W0) := hb0
  clear hK hL hb0 hs0 g0 g1 hg KK LL
  by_cases cid : x.id = y.id
  rotate_left
  · have tid : (x.id == y.id) = false := by simp [cid]
    clear cid
    go_enter Tryz.func31, Tryz.ntmps31
    go_wp2_with fail
    go_ret
    exact Snd.no HB0.out
  have Eid : Hid (x.id = y.id) := cid
  have tid : (x.id == y.id) = true := by simp [Eid.out]
  clear cid
  by_cases cnd : x.nd = y.nd
  rotate_left
  · have tnd : (x.nd == y.nd) = false := by simp [cnd]
    clear cnd
    go_enter Tryz.func31, Tryz.ntmps31
    go_wp2_with fail
    go_ret
    exact Snd.no HB0.out
  have End : Hid (x.nd = y.nd) := cnd
  have tnd : (x.nd == y.nd) = true := by simp [End.out]
  clear cnd
  go_enter Tryz.func31, Tryz.ntmps31
  go_wp2_with fail
  refine (CA.out W0 HB0.out).mono ?_
  rintro e X1 ⟨r1, rfl, hr1, hbx⟩
  have HX1 : Hid (Below w.heap.size w X1) := (HB0.out).trans (hbx.mono (HB0.out).size)
  have HW1 : Hid (Below W0.heap.size W0 X1) := hbx
  clear hbx
  cases r1
  · clear hr1
    go_wp2_with fail
    go_ret
    exact Snd.no HX1.out
  have El : Hid (x.l = y.l) := hr1 rfl
  clear hr1
  obtain ⟨g0, g1⟩ := HG.out X1 HW1.out
  have x8 := cell_of_row (k := 8) g0 rfl
  have y8 := cell_of_row (k := 8) g1 rfl
  have x9 := cell_of_row (k := 9) g0 rfl
  have y9 := cell_of_row (k := 9) g1 rfl
  have x10 := cell_of_row (k := 10) g0 rfl
  have y10 := cell_of_row (k := 10) g1 rfl
  have x11 := cell_of_row (k := 11) g0 rfl
  have y11 := cell_of_row (k := 11) g1 rfl
  have x12 := cell_of_row (k := 12) g0 rfl
  have y12 := cell_of_row (k := 12) g1 rfl
  have x13 := cell_of_row (k := 13) g0 rfl
  have y13 := cell_of_row (k := 13) g1 rfl
  clear g0 g1
  go_wp2_with fail
  refine (CB.out X1 HX1.out).mono ?_
  rintro e X2 ⟨r2, rfl, hr2, hbx⟩
  have HX2 : Hid (Below w.heap.size w X2) := (HX1.out).trans (hbx.mono (HX1.out).size)
  have HW2 : Hid (Below W0.heap.size W0 X2) := HW1.out.trans (hbx.mono HW1.out.size)
  clear hbx
  cases r2
  · clear hr2
    go_wp2_with fail
    go_ret
    exact Snd.no HX2.out
  have Er : Hid (x.r = y.r) := hr2 rfl
  clear hr2
  obtain ⟨g0, g1⟩ := HG.out X2 HW2.out
  have x14 := cell_of_row (k := 14) g0 rfl
  have y14 := cell_of_row (k := 14) g1 rfl
  have x15 := cell_of_row (k := 15) g0 rfl
  have y15 := cell_of_row (k := 15) g1 rfl
  have x16 := cell_of_row (k := 16) g0 rfl
  have y16 := cell_of_row (k := 16) g1 rfl
  clear g0 g1
  by_cases craw : x.raw = y.raw
  rotate_left
  · have traw : (x.raw == y.raw) = false := by simp [craw]
    clear craw
    go_wp2_with fail
    go_ret
    exact Snd.no HX2.out
  have Eraw : Hid (x.raw = y.raw) := craw
  have traw : (x.raw == y.raw) = true := by simp [Eraw.out]
  clear craw
  by_cases cby : x.by_ = y.by_
  rotate_left
  · have tby : (x.by_ == y.by_) = false := by simp [cby]
    clear cby
    go_wp2_with fail
    go_ret
    exact Snd.no HX2.out
  have Eby : Hid (x.by_ = y.by_) := cby
  have tby : (x.by_ == y.by_) = true := by simp [Eby.out]
  clear cby
  go_wp2_with fail
  refine (CI.out X2 HX2.out).mono ?_
  rintro e X3 ⟨r3, rfl, hr3, hbx⟩
  have HX3 : Hid (Below w.heap.size w X3) := (HX2.out).trans (hbx.mono (HX2.out).size)
  have HW3 : Hid (Below W0.heap.size W0 X3) := HW2.out.trans (hbx.mono HW2.out.size)
  clear hbx
  cases r3
  · clear hr3
    go_wp2_with fail
    go_ret
    exact Snd.no HX3.out
  have Eto : Hid (x.to = y.to) := hr3 rfl
  clear hr3
  go_wp2_with fail
  go_ret
  exact Snd.yes (frg_ext Eid.out End.out El.out Er.out Eraw.out Eby.out Eto.out) HX3.out
set_option maxRecDepth 100000 in
set_option maxHeartbeats 4000000 in
theorem file_snd (cs ds : List Value) (r s : Value) (x x' : Fh) (y y' : List (List Val)) (K L : Nat → Prop) (w : World) (h : rFh K w cs x) (h' : rFh L w ds x') (hr : ListIs rRow 1 24 K w r y) (hr' : ListIs rRow 1 24 L w s y') (hK : ∀ b, K b → b < w.heap.size) (hL : ∀ b, L b → b < w.heap.size) :
    Calls Tryz.prog 32 #[.agg (cs ++ [r]).toArray, .agg (ds ++ [s]).toArray] w fun e w' => Snd (x = x' ∧ y = y') w e w' := by
  have KK : ∀ W, Below w.heap.size w W → ∀ b, K b → b < W.heap.size := fun W hb b h => Nat.lt_of_lt_of_le (hK b h) hb.size
  have LL : ∀ W, Below w.heap.size w W → ∀ b, L b → b < W.heap.size := fun W hb b h => Nat.lt_of_lt_of_le (hL b h) hb.size
  obtain ⟨v, rfl, _, _, _, hl⟩ := h
  obtain ⟨u, rfl, _, _, _, hl'⟩ := h'
  have CA : Hid (∀ W, Below w.heap.size w W → Calls Tryz.prog 28 #[v, u] W fun e w' => Snd (x.c = x'.c) W e w') := fun W hb =>
    cols_snd v u x.c x'.c K L W (ListIs.later mCl hl hK hb) (ListIs.later mCl hl' hL hb) (KK W hb) (LL W hb)
  have CB : Hid (∀ W, Below w.heap.size w W → Calls Tryz.prog 29 #[r, s] W fun e w' => Snd (y = y') W e w') := fun W hb =>
    rows_snd r s y y' K L W (ListIs.later mRow hr hK hb) (ListIs.later mRow hr' hL hb) (KK W hb) (LL W hb)
  obtain ⟨p1, q1, rfl, _, _⟩ := hl
  obtain ⟨p2, q2, rfl, _, _⟩ := hl'
  obtain ⟨p3, q3, rfl, _, _⟩ := hr
  obtain ⟨p4, q4, rfl, _, _⟩ := hr'
  simp only [List.cons_append, List.nil_append]
  obtain ⟨W0, hW0, hb0, hs0, hg⟩ := two_boxesB w #[.string x.t, .int .u64 (x.v.b : Int), .int .u64 (x.v.l : Int), .int .i64 x.s, .slice p1 x.c.length q1, .slice p3 y.length q3] #[.string x'.t, .int .u64 (x'.v.b : Int), .int .u64 (x'.v.l : Int), .int .i64 x'.s, .slice p2 x'.c.length q2, .slice p4 y'.length q4] 46
  have HG : Hid _ := hg
  obtain ⟨g0, g1⟩ := hg W0 (Below.refl _ _)
  have x0 := cell_of_row (k := 0) g0 rfl
  have y0 := cell_of_row (k := 0) g1 rfl
  have x1 := cell_of_row (k := 1) g0 rfl
  have y1 := cell_of_row (k := 1) g1 rfl
  have x2 := cell_of_row (k := 2) g0 rfl
  have y2 := cell_of_row (k := 2) g1 rfl
  have x3 := cell_of_row (k := 3) g0 rfl
  have y3 := cell_of_row (k := 3) g1 rfl
  have x4 := cell_of_row (k := 4) g0 rfl
  have y4 := cell_of_row (k := 4) g1 rfl
  have HB0 : Hid (Below w.heap.size w W0) := hb0
  clear hK hL hb0 hs0 g0 g1 hg KK LL
  by_cases ct : x.t = x'.t
  rotate_left
  · have ut : ¬ x.t.toList = x'.t.toList := bytes_ne ct
    have tt : (x.t.toList == x'.t.toList) = false := by simpa using ut
    clear ct
    go_enter Tryz.func32, Tryz.ntmps32
    go_wp2_with fail
    go_ret
    exact Snd.no HB0.out
  have Et : Hid (x.t = x'.t) := ct
  have tt : (x.t.toList == x'.t.toList) = true := by simp [Et.out]
  have ut : x.t.toList = x'.t.toList := by rw [Et.out]
  clear ct
  by_cases cv : x.v = x'.v
  rotate_left
  · have tv := run_vrs_not x.v x'.v cv
    clear cv
    go_enter Tryz.func32, Tryz.ntmps32
    go_wp2_with fail
    go_ret
    exact Snd.no HB0.out
  have Ev : Hid (x.v = x'.v) := cv
  have tv := run_vrs_is x.v x'.v Ev.out
  clear cv
  by_cases cs : x.s = x'.s
  rotate_left
  · have ts : (x.s == x'.s) = false := by simp [cs]
    clear cs
    go_enter Tryz.func32, Tryz.ntmps32
    go_wp2_with fail
    go_ret
    exact Snd.no HB0.out
  have Es : Hid (x.s = x'.s) := cs
  have ts : (x.s == x'.s) = true := by simp [Es.out]
  clear cs
  go_enter Tryz.func32, Tryz.ntmps32
  go_wp2_with fail
  refine (CA.out W0 HB0.out).mono ?_
  rintro e X1 ⟨r1, rfl, hr1, hbx⟩
  have HX1 : Hid (Below w.heap.size w X1) := (HB0.out).trans (hbx.mono (HB0.out).size)
  have HW1 : Hid (Below W0.heap.size W0 X1) := hbx
  clear hbx
  cases r1
  · clear hr1
    go_wp2_with fail
    go_ret
    exact Snd.no HX1.out
  have Ec : Hid (x.c = x'.c) := hr1 rfl
  clear hr1
  obtain ⟨g0, g1⟩ := HG.out X1 HW1.out
  have x5 := cell_of_row (k := 5) g0 rfl
  have y5 := cell_of_row (k := 5) g1 rfl
  clear g0 g1
  go_wp2_with fail
  refine (CB.out X1 HX1.out).mono ?_
  rintro e X2 ⟨r2, rfl, hr2, hbx⟩
  have HX2 : Hid (Below w.heap.size w X2) := (HX1.out).trans (hbx.mono (HX1.out).size)
  have HW2 : Hid (Below W0.heap.size W0 X2) := HW1.out.trans (hbx.mono HW1.out.size)
  clear hbx
  cases r2
  · clear hr2
    go_wp2_with fail
    go_ret
    exact Snd.no HX2.out
  have Er : Hid (y = y') := hr2 rfl
  clear hr2
  go_wp2_with fail
  go_ret
  exact Snd.yes ⟨fh_ext Et.out Ev.out Es.out Ec.out, Er.out⟩ HX2.out
end Go.Proofs.YtjpnomkcinfonaaGreatDoor
/- Claims, bound queries: if the reference says that two are one, they are. -/
namespace Go.Proofs.YtjpnomkcinfonaaGreatDoor
open Go.Shelf Go.RowKit Go.Lib
set_option linter.unusedVariables false
set_option linter.unusedSimpArgs false
attribute [local go_sem ↓] Go.wp_at_zero Go.wp_at_succ
theorem hid2 {P : Prop} (h : P) : Hid P := h
theorem run_neq_of {T : TypeId} {a b : Array Value} {w : World} {r : Bool} (h : (binOp .eql T (.agg a) (.agg b)).run Tryz.prog w = .ok (.bool r) w) : (binOp .neq T (.agg a) (.agg b)).run Tryz.prog w = .ok (.bool (!r)) w := by
  simp only [binOp, Sem.run_bind] at h ⊢
  generalize (Op.equal T (.agg a) (.agg b)).run Tryz.prog w = q at h ⊢
  cases q <;> simp_all
theorem run_vrs_isN (v v' : Vrs) (h : v = v') (w : World) :
    (binOp .neq 38 (.agg #[.int .u64 (v.b : Int), .int .u64 (v.l : Int)]) (.agg #[.int .u64 (v'.b : Int), .int .u64 (v'.l : Int)])).run Tryz.prog w = .ok (.bool false) w := run_neq_of (run_vrs_is v v' h w)
theorem run_vrs_notN (v v' : Vrs) (h : ¬ v = v') (w : World) :
    (binOp .neq 38 (.agg #[.int .u64 (v.b : Int), .int .u64 (v.l : Int)]) (.agg #[.int .u64 (v'.b : Int), .int .u64 (v'.l : Int)])).run Tryz.prog w = .ok (.bool true) w := run_neq_of (run_vrs_not v v' h w)
theorem clm_ext {x y : Clm} (h1 : x.t = y.t) (h2 : x.c = y.c) (h3 : x.v = y.v) (h4 : x.o = y.o) : x = y := by
  obtain ⟨_, _, _, _⟩ := x
  obtain ⟨_, _, _, _⟩ := y
  simp only at h1 h2 h3 h4
  rw [h1, h2, h3, h4]
theorem itm_ext {x y : Itm} (h1 : x.g = y.g) (h2 : x.e = y.e) : x = y := by
  obtain ⟨_, _⟩ := x
  obtain ⟨_, _⟩ := y
  simp only at h1 h2
  rw [h1, h2]
theorem bnd_ext {x y : Bnd} (h1 : x.t = y.t) (h2 : x.j = y.j) (h3 : x.w = y.w) (h4 : x.l = y.l) (h5 : x.r = y.r) (h6 : x.wh = y.wh) (h7 : x.g = y.g) (h8 : x.i = y.i) (h9 : x.gr = y.gr) (h10 : x.nm = y.nm) (h11 : x.kd = y.kd) : x = y := by
  obtain ⟨_, _, _, _, _, _, _, _, _, _, _⟩ := x
  obtain ⟨_, _, _, _, _, _, _, _, _, _, _⟩ := y
  simp only at h1 h2 h3 h4 h5 h6 h7 h8 h9 h10 h11
  rw [h1, h2, h3, h4, h5, h6, h7, h8, h9, h10, h11]
set_option maxRecDepth 100000 in
set_option maxHeartbeats 4000000 in
theorem claim_snd (cs ds : List Value) (x y : Clm) (K L : Nat → Prop) (w : World) (h : rClm K w cs x) (h' : rClm L w ds y) (hK : ∀ b, K b → b < w.heap.size) (hL : ∀ b, L b → b < w.heap.size) :
    Calls Tryz.prog 57 #[.agg cs.toArray, .agg ds.toArray] w fun e w' => Snd (x = y) w e w' := by
  obtain ⟨v, v2, rfl, _, hl, _, ho⟩ := h
  obtain ⟨u, u2, rfl, _, hl', _, ho'⟩ := h'
  obtain ⟨p1, q1, rfl, _, hp1⟩ := hl
  obtain ⟨p2, q2, rfl, _, hp2⟩ := hl'
  obtain ⟨p3, q3, rfl, _, hp3⟩ := ho
  obtain ⟨p4, q4, rfl, _, hp4⟩ := ho'
  have HP1 : Hid _ := hp1
  have HP2 : Hid _ := hp2
  have HP3 : Hid _ := hp3
  have HP4 : Hid _ := hp4
  have HKK : Hid (∀ b, K b → b < w.heap.size) := hK
  have HLL : Hid (∀ b, L b → b < w.heap.size) := hL
  obtain ⟨W0, hW0, hb0, hs0, hg⟩ := two_boxesB w #[.string x.t, .slice p1 x.c.length q1, .int .u64 (x.v.b : Int), .int .u64 (x.v.l : Int), .slice p3 x.o.length q3] #[.string y.t, .slice p2 y.c.length q2, .int .u64 (y.v.b : Int), .int .u64 (y.v.l : Int), .slice p4 y.o.length q4] 67
  have HG : Hid _ := hg
  obtain ⟨g0, g1⟩ := hg W0 (Below.refl _ _)
  have x0 := cell_of_row (k := 0) g0 rfl
  have y0 := cell_of_row (k := 0) g1 rfl
  have x1 := cell_of_row (k := 1) g0 rfl
  have y1 := cell_of_row (k := 1) g1 rfl
  have x2 := cell_of_row (k := 2) g0 rfl
  have y2 := cell_of_row (k := 2) g1 rfl
  have x3 := cell_of_row (k := 3) g0 rfl
  have y3 := cell_of_row (k := 3) g1 rfl
  have x4 := cell_of_row (k := 4) g0 rfl
  have y4 := cell_of_row (k := 4) g1 rfl
  have HB0 : Hid (Below w.heap.size w W0) := hb0
  have HV0 : Hid (Below W0.heap.size W0 W0) := Below.refl _ _
  clear hp1 hp2 hp3 hp4 hK hL hb0 hs0 hg g0 g1
  by_cases ct : x.t = y.t
  rotate_left
  · have ut : ¬ x.t.toList = y.t.toList := bytes_ne ct
    have tt : (x.t.toList == y.t.toList) = false := by simpa using ut
    clear ct
    go_enter Tryz.func57, Tryz.ntmps57
    go_wp2_with fail
    go_ret
    exact Snd.no HB0.out
  have Et : Hid (x.t = y.t) := ct
  have tt : (x.t.toList == y.t.toList) = true := by simp [Et.out]
  have ut : x.t.toList = y.t.toList := by rw [Et.out]
  clear ct
  by_cases cv : x.v = y.v
  rotate_left
  · have tv := run_vrs_notN x.v y.v cv
    clear cv
    go_enter Tryz.func57, Tryz.ntmps57
    go_wp2_with fail
    go_ret
    exact Snd.no HB0.out
  have Ev : Hid (x.v = y.v) := cv
  have tv := run_vrs_isN x.v y.v Ev.out
  clear cv
  by_cases clc : x.c.length = y.c.length
  rotate_left
  · have tlc : ((x.c.length : Int) != (y.c.length : Int)) = true := by simp; omega
    clear clc
    go_enter Tryz.func57, Tryz.ntmps57
    go_wp2_with fail
    go_ret
    exact Snd.no HB0.out
  have Elc : Hid (x.c.length = y.c.length) := clc
  have tlc : ((x.c.length : Int) != (y.c.length : Int)) = false := by have := Elc.out; simp; omega
  clear clc
  by_cases clo : x.o.length = y.o.length
  rotate_left
  · have tlo : ((x.o.length : Int) != (y.o.length : Int)) = true := by simp; omega
    clear clo
    go_enter Tryz.func57, Tryz.ntmps57
    go_wp2_with fail
    go_ret
    exact Snd.no HB0.out
  have Elo : Hid (x.o.length = y.o.length) := clo
  have tlo : ((x.o.length : Int) != (y.o.length : Int)) = false := by have := Elo.out; simp; omega
  clear clo
  go_enter Tryz.func57, Tryz.ntmps57
  go_wp2_with fail
  go_loopg [40] x.c.length (fun gf s30 wx => ∃ i : Nat, s30 = .int .i64 i ∧ i ≤ x.c.length ∧ x.c.length ≤ i + gf ∧ Hid (Below W0.heap.size W0 wx) ∧ Hid (x.c.take i = y.c.take i))
  case atStart => exact ⟨0, rfl, by omega, by omega, HV0, (show _ = _ by simp)⟩
  case round =>
    clear HV0
    obtain ⟨i, rfl, hi1, hgf, HB, HT⟩ := hrel
    have hbw : Below w.heap.size w wr := HB0.out.trans (HB.out.mono HB0.out.size)
    by_cases hi : i < x.c.length
    · obtain ⟨g', rfl⟩ : ∃ g', gk = g' + 1 := ⟨gk - 1, by omega⟩
      have hi' : i < y.c.length := by have := Elc.out; omega
      obtain ⟨b, o, rfl, hKb, hc⟩ := HP1.out (by omega)
      obtain ⟨b', o', rfl, hLb, hc'⟩ := HP2.out (by omega)
      obtain ⟨cs, hcl, hcell, hrel1⟩ := hc i hi
      obtain ⟨ds, hdl, hdell, hrel2⟩ := hc' i hi'
      obtain ⟨a1, ha1⟩ : ∃ z, x.c[i] = z := ⟨_, rfl⟩
      obtain ⟨a2, ha2⟩ : ∃ z, y.c[i] = z := ⟨_, rfl⟩
      have HST : Hid (a1 = a2 → x.c.take (i + 1) = y.c.take (i + 1)) := fun e => take_step hi hi' HT.out (by rw [ha1, ha2, e])
      rw [ha1] at hrel1
      rw [ha2] at hrel2
      have HB3 : Hid (Below W0.heap.size W0 wr) := HB.out
      have z0 : (0 : Int) ≤ (i : Int) := by omega
      have z1 : (i : Int) < (x.c.length : Int) := by omega
      have z2 : (i : Int) < (y.c.length : Int) := by omega
      obtain ⟨g0, g1⟩ := HG.out wr HB.out
      have hcs := hrel1.1
      have hds := hrel2.1
      have hcell2 : ∀ j u, cs[j]? = some u → wr.cell? ⟨b, o + i * 2 + j, none⟩ = some u := fun j u hj => by rw [hbw.cell (p := ⟨b, _, none⟩) (HKK.out _ hKb)]; exact hcell j u hj
      have hdell2 : ∀ j u, ds[j]? = some u → wr.cell? ⟨b', o' + i * 2 + j, none⟩ = some u := fun j u hj => by rw [hbw.cell (p := ⟨b', _, none⟩) (HLL.out _ hLb)]; exact hdell j u hj
      rw [hcs] at hcell2
      rw [hds] at hdell2
      have c0 := hcell2 0 _ rfl
      have e0 := hdell2 0 _ rfl
      have c1 := hcell2 1 _ rfl
      have e1 := hdell2 1 _ rfl
      simp only [Nat.add_zero, Nat.mul_one] at c0 e0
      have m0 := cell_of_row (k := 1) g0 rfl
      have m1 := cell_of_row (k := 1) g1 rfl
      clear hc hc' hcell hdell hcell2 hdell2 hrel1 hrel2 ha1 ha2 HB HT hcl hdl hKb hLb hcs hds hbw g0 g1
      by_cases he : a1 = a2
      · have HT2 : Hid (x.c.take (i + 1) = y.c.take (i + 1)) := HST.out he
        subst he
        clear HST
        have hne := run_col_eq (a1.k : Int) a1.n
        go_wp2_with fail
        go_quiet (fail)
        go_wp2_with fail
        go_roundg g'
        case measure => omega
        case rel => exact ⟨i + 1, by go_num, by omega, by omega, below_drewN HB3.out _, HT2⟩
      · clear HST
        have hne := run_col_ne a1.n a2.n (a1.k : Int) (a2.k : Int) (fun hh => he (cl_ext hh.1 (by omega)))
        clear he
        go_wp2_with fail
        go_quiet (fail)
        go_wp2_with fail
        go_ret
        exact Snd.no (HB0.out.trans ((below_drewN HB3.out _).mono HB0.out.size))
    · have z1 : ¬ (i : Int) < (x.c.length : Int) := by omega
      have Ec : Hid (x.c = y.c) := take_all Elc.out hi HT.out
      have HV0 : Hid (Below W0.heap.size W0 wr) := HB.out
      clear HB HT hbw
      obtain ⟨g0, g1⟩ := HG.out wr HV0.out
      have m0 := cell_of_row (k := 4) g0 rfl
      have m1 := cell_of_row (k := 4) g1 rfl
      clear g0 g1
      go_wp2_with fail
      clear m0 m1 z1 hi hi1 hgf
      obtain ⟨V0, hV0⟩ : ∃ V0, V0 = wr := ⟨_, rfl⟩
      subst hV0
      go_loopg [58] x.o.length (fun gf s30 wx => ∃ i : Nat, s30 = .int .i64 i ∧ i ≤ x.o.length ∧ x.o.length ≤ i + gf ∧ Hid (Below W0.heap.size W0 wx) ∧ Hid (x.o.take i = y.o.take i))
      case atStart => exact ⟨0, rfl, by omega, by omega, HV0, (show _ = _ by simp)⟩
      case round =>
        clear HV0
        obtain ⟨i, rfl, hi1, hgf, HB, HT⟩ := hrel
        have hbw : Below w.heap.size w wr := HB0.out.trans (HB.out.mono HB0.out.size)
        by_cases hi : i < x.o.length
        · obtain ⟨g', rfl⟩ : ∃ g', gk = g' + 1 := ⟨gk - 1, by omega⟩
          have hi' : i < y.o.length := by have := Elo.out; omega
          obtain ⟨b, o, rfl, hKb, hc⟩ := HP3.out (by omega)
          obtain ⟨b', o', rfl, hLb, hc'⟩ := HP4.out (by omega)
          obtain ⟨cs, hcl, hcell, hrel1⟩ := hc i hi
          obtain ⟨ds, hdl, hdell, hrel2⟩ := hc' i hi'
          obtain ⟨a1, ha1⟩ : ∃ z, x.o[i] = z := ⟨_, rfl⟩
          obtain ⟨a2, ha2⟩ : ∃ z, y.o[i] = z := ⟨_, rfl⟩
          have HST : Hid (a1 = a2 → x.o.take (i + 1) = y.o.take (i + 1)) := fun e => take_step hi hi' HT.out (by rw [ha1, ha2, e])
          rw [ha1] at hrel1
          rw [ha2] at hrel2
          have HB3 : Hid (Below W0.heap.size W0 wr) := HB.out
          have z0 : (0 : Int) ≤ (i : Int) := by omega
          have z1 : (i : Int) < (x.o.length : Int) := by omega
          have z2 : (i : Int) < (y.o.length : Int) := by omega
          have hkr : ∀ b, K b → b < wr.heap.size := fun b hb => Nat.lt_of_lt_of_le (HKK.out b hb) hbw.size
          have hlr : ∀ b, L b → b < wr.heap.size := fun b hb => Nat.lt_of_lt_of_le (HLL.out b hb) hbw.size
          have hcell2 : ∀ (p : LaterS wr.heap.size wr) j u, cs[j]? = some u → p.w.cell? ⟨b, o + i * 1 + j, none⟩ = some u := fun p j u hj => by
            rw [p.h.cell (p := ⟨b, _, none⟩) (hkr _ hKb), hbw.cell (p := ⟨b, _, none⟩) (HKK.out _ hKb)]; exact hcell j u hj
          have hdell2 : ∀ (p : LaterS wr.heap.size wr) j u, ds[j]? = some u → p.w.cell? ⟨b', o' + i * 1 + j, none⟩ = some u := fun p j u hj => by
            rw [p.h.cell (p := ⟨b', _, none⟩) (hlr _ hLb), hbw.cell (p := ⟨b', _, none⟩) (HLL.out _ hLb)]; exact hdell j u hj
          obtain ⟨u1, hcs, hl1⟩ := hrel1
          obtain ⟨u2, hds, hl2⟩ := hrel2
          rw [hcs] at hcell2
          rw [hds] at hdell2
          clear hcs hds
          have cSN : Hid (∀ p : LaterS wr.heap.size wr, Calls Tryz.prog 56 #[u1, u2] p.w fun e w' => Snd (a1 = a2) p.w e w') := fun p => ints_snd u1 u2 a1 a2 K L p.w (ListIs.later mInt hl1 HKK.out (hbw.trans (p.h.mono hbw.size))) (ListIs.later mInt hl2 HLL.out (hbw.trans (p.h.mono hbw.size))) (fun b hb => Nat.lt_of_lt_of_le (hkr b hb) p.h.size) (fun b hb => Nat.lt_of_lt_of_le (hlr b hb) p.h.size)
          have cSE : Hid (a1 = a2 → ∀ p : LaterS wr.heap.size wr, Calls Tryz.prog 56 #[u1, u2] p.w fun e w' => e = .returned (.bool true) ∧ Below p.w.heap.size p.w w') := fun ee p => ints_eq u1 u2 a1 K L p.w (ListIs.later mInt hl1 HKK.out (hbw.trans (p.h.mono hbw.size))) (ListIs.later mInt (by rw [ee]; exact hl2) HLL.out (hbw.trans (p.h.mono hbw.size))) (fun b hb => Nat.lt_of_lt_of_le (hkr b hb) p.h.size) (fun b hb => Nat.lt_of_lt_of_le (hlr b hb) p.h.size)
          obtain ⟨s1, f1, rfl, _, _⟩ := hl1
          obtain ⟨s2, f2, rfl, _, _⟩ := hl2
          have c0 := fun p => hcell2 p 0 _ rfl
          have e0 := fun p => hdell2 p 0 _ rfl
          simp only [Nat.add_zero, Nat.mul_one] at c0 e0
          have m0 : ∀ p : LaterS wr.heap.size wr, p.w.cell? ⟨w.heap.size, 4, none⟩ = some _ := fun p => cell_of_row (k := 4) (HG.out p.w (HB.out.trans (p.h.mono HB.out.size))).1 rfl
          have m1 : ∀ p : LaterS wr.heap.size wr, p.w.cell? ⟨w.heap.size + 1, 4, none⟩ = some _ := fun p => cell_of_row (k := 4) (HG.out p.w (HB.out.trans (p.h.mono HB.out.size))).2 rfl
          clear hc hc' hcell hdell hcell2 hdell2 ha1 ha2 HB HT hcl hdl hKb hLb hkr hlr hbw
          by_cases he : a1 = a2
          · have HT2 : Hid (x.o.take (i + 1) = y.o.take (i + 1)) := HST.out he
            have cS := hid2 (cSE.out he)
      
            clear HST cSE cSN he
            go_wp2_with fail
            have inhL := laterInh
            refine wp_region_laterS mixedOnS (by kernel_rfl) ?_
            repeat (go_big_quiet_step ((go_at_call 56; exact calls_laterS (cS.out _))))
            refine wpQuiet_nil ?_
            intro w2 hw'
            obtain ⟨⟨wq, hwq⟩, hw''⟩ := hw'
            subst hw''
            go_wp2_with fail
            go_roundg g'
            case measure => omega
            case rel => exact ⟨i + 1, by go_num, by omega, by omega, HB3.out.trans (hwq.mono HB3.out.size), HT2⟩
          · clear HST
            have cS : Hid (∀ p : LaterS wr.heap.size wr, Calls Tryz.prog 56 #[.slice s1 a1.length f1, .slice s2 a2.length f2] p.w fun e w' => e = .returned (.bool false) ∧ Below p.w.heap.size p.w w') := fun p => (cSN.out p).mono (fun _ _ hh => hh.false (he))
            clear cSE cSN he
            go_wp2_with fail
            have inhL := laterInh
            refine wp_region_laterS mixedOnS (by kernel_rfl) ?_
            repeat (go_big_quiet_step ((go_at_call 56; exact calls_laterS (cS.out _))))
            refine wpQuiet_nil ?_
            intro w2 hw'
            obtain ⟨⟨wq, hwq⟩, hw''⟩ := hw'
            subst hw''
            go_wp2_with fail
            go_ret
            exact Snd.no (HB0.out.trans ((HB3.out.trans (hwq.mono HB3.out.size)).mono HB0.out.size))
        · have z1 : ¬ (i : Int) < (x.o.length : Int) := by omega
          have Eo : Hid (x.o = y.o) := take_all Elo.out hi HT.out
          have HV0 : Hid (Below W0.heap.size W0 wr) := HB.out
          clear HB HT hbw
          obtain ⟨g0, g1⟩ := HG.out wr HV0.out
          clear g0 g1
          go_wp2_with fail
          go_ret
          exact Snd.yes (clm_ext Et.out Ec.out Ev.out Eo.out) (HB0.out.trans (HV0.out.mono HB0.out.size))
          
set_option maxRecDepth 100000 in
set_option maxHeartbeats 4000000 in
theorem claims_snd (va vb : Value) (xs ys : List Clm) (K L : Nat → Prop) (w : World) (h : ListIs rClm 5 80 K w va xs) (h' : ListIs rClm 5 80 L w vb ys) (hK : ∀ b, K b → b < w.heap.size) (hL : ∀ b, L b → b < w.heap.size) :
    Calls Tryz.prog 33 #[va, vb] w fun e w' => Snd (xs = ys) w e w' := by
  obtain ⟨p, c, rfl, hby, hp⟩ := h
  obtain ⟨q, d, rfl, _, hq⟩ := h'
  have HP : Hid _ := hp
  have HQ : Hid _ := hq
  have HKK : Hid (∀ b, K b → b < w.heap.size) := hK
  have HLL : Hid (∀ b, L b → b < w.heap.size) := hL
  have HV0 : Hid (Below w.heap.size w w) := Below.refl _ _
  clear hp hq hK hL
  by_cases hlen : xs.length = ys.length
  · have t3 : ((xs.length : Int) != (ys.length : Int)) = false := by simp; omega
    have HLE : Hid (xs.length = ys.length) := hlen
    clear hlen
    go_enter Tryz.func33, Tryz.ntmps33
    go_wp2_with fail
    go_loopg [13] xs.length (fun gf s30 wx => ∃ i : Nat, s30 = .int .i64 i ∧ i ≤ xs.length ∧ xs.length ≤ i + gf ∧ Hid (Below w.heap.size w wx) ∧ Hid (xs.take i = ys.take i))
    case atStart => exact ⟨0, rfl, by omega, by omega, HV0, (show _ = _ by simp)⟩
    case round =>
      clear HV0
      obtain ⟨i, rfl, hi1, hgf, HB, HT⟩ := hrel
      have hbw : Below w.heap.size w wr := HB.out
      by_cases hi : i < xs.length
      · obtain ⟨g', rfl⟩ : ∃ g', gk = g' + 1 := ⟨gk - 1, by omega⟩
        have hi' : i < ys.length := by have := HLE.out; omega
        obtain ⟨b, o, rfl, hKb, hc⟩ := HP.out (by omega)
        obtain ⟨b', o', rfl, hLb, hc'⟩ := HQ.out (by omega)
        obtain ⟨cs, hcl, hcell, hrel1⟩ := hc i hi
        obtain ⟨ds, hdl, hdell, hrel2⟩ := hc' i hi'
        obtain ⟨a1, ha1⟩ : ∃ z, xs[i] = z := ⟨_, rfl⟩
        obtain ⟨a2, ha2⟩ : ∃ z, ys[i] = z := ⟨_, rfl⟩
        have HST : Hid (a1 = a2 → xs.take (i + 1) = ys.take (i + 1)) := fun e => take_step hi hi' HT.out (by rw [ha1, ha2, e])
        rw [ha1] at hrel1
        rw [ha2] at hrel2
        have HB3 : Hid (Below w.heap.size w wr) := HB.out
        have z0 : (0 : Int) ≤ (i : Int) := by omega
        have z1 : (i : Int) < (xs.length : Int) := by omega
        have z2 : (i : Int) < (ys.length : Int) := by omega
        have hkr : ∀ b, K b → b < wr.heap.size := fun b hb => Nat.lt_of_lt_of_le (HKK.out b hb) hbw.size
        have hlr : ∀ b, L b → b < wr.heap.size := fun b hb => Nat.lt_of_lt_of_le (HLL.out b hb) hbw.size
        have hcell2 : ∀ (p : LaterS wr.heap.size wr) j u, cs[j]? = some u → p.w.cell? ⟨b, o + i * 5 + j, none⟩ = some u := fun p j u hj => by
          rw [p.h.cell (p := ⟨b, _, none⟩) (hkr _ hKb), hbw.cell (p := ⟨b, _, none⟩) (HKK.out _ hKb)]; exact hcell j u hj
        have hdell2 : ∀ (p : LaterS wr.heap.size wr) j u, ds[j]? = some u → p.w.cell? ⟨b', o' + i * 5 + j, none⟩ = some u := fun p j u hj => by
          rw [p.h.cell (p := ⟨b', _, none⟩) (hlr _ hLb), hbw.cell (p := ⟨b', _, none⟩) (HLL.out _ hLb)]; exact hdell j u hj
        have cSN0 : ∀ p : LaterS wr.heap.size wr, Calls Tryz.prog 57 #[.agg cs.toArray, .agg ds.toArray] p.w fun e w' => Snd (a1 = a2) p.w e w' := fun p =>
          claim_snd cs ds a1 a2 K L p.w (mClm _ _ _ _ _ _ (fun _ h => h) (kept_of HKK.out (hbw.trans (p.h.mono hbw.size))) hrel1) (mClm _ _ _ _ _ _ (fun _ h => h) (kept_of HLL.out (hbw.trans (p.h.mono hbw.size))) hrel2) (fun b hb => Nat.lt_of_lt_of_le (hkr b hb) p.h.size) (fun b hb => Nat.lt_of_lt_of_le (hlr b hb) p.h.size)
        have cSE0 : a1 = a2 → ∀ p : LaterS wr.heap.size wr, Calls Tryz.prog 57 #[.agg cs.toArray, .agg ds.toArray] p.w fun e w' => e = .returned (.bool true) ∧ Below p.w.heap.size p.w w' := fun ee p =>
          claim_eq cs ds a1 K L p.w (mClm _ _ _ _ _ _ (fun _ h => h) (kept_of HKK.out (hbw.trans (p.h.mono hbw.size))) hrel1) (mClm _ _ _ _ _ _ (fun _ h => h) (kept_of HLL.out (hbw.trans (p.h.mono hbw.size))) (by rw [ee]; exact hrel2)) (fun b hb => Nat.lt_of_lt_of_le (hkr b hb) p.h.size) (fun b hb => Nat.lt_of_lt_of_le (hlr b hb) p.h.size)
        obtain ⟨v1, v2, rfl, _, hl1, _, ho1⟩ := hrel1
        obtain ⟨u1, u2, rfl, _, hl2, _, ho2⟩ := hrel2
        obtain ⟨s1, f1, rfl, _, _⟩ := hl1
        obtain ⟨s2, f2, rfl, _, _⟩ := hl2
        obtain ⟨s3, f3, rfl, _, _⟩ := ho1
        obtain ⟨s4, f4, rfl, _, _⟩ := ho2
        have cSN : Hid (∀ p : LaterS wr.heap.size wr, Calls Tryz.prog 57 #[.agg #[.string a1.t, .slice s1 a1.c.length f1, .int .u64 (a1.v.b : Int), .int .u64 (a1.v.l : Int), .slice s3 a1.o.length f3], .agg #[.string a2.t, .slice s2 a2.c.length f2, .int .u64 (a2.v.b : Int), .int .u64 (a2.v.l : Int), .slice s4 a2.o.length f4]] p.w fun e w' => Snd (a1 = a2) p.w e w') := fun p => cSN0 p
        have cSE : Hid (a1 = a2 → ∀ p : LaterS wr.heap.size wr, Calls Tryz.prog 57 #[.agg #[.string a1.t, .slice s1 a1.c.length f1, .int .u64 (a1.v.b : Int), .int .u64 (a1.v.l : Int), .slice s3 a1.o.length f3], .agg #[.string a2.t, .slice s2 a2.c.length f2, .int .u64 (a2.v.b : Int), .int .u64 (a2.v.l : Int), .slice s4 a2.o.length f4]] p.w fun e w' => e = .returned (.bool true) ∧ Below p.w.heap.size p.w w') := fun ee p => cSE0 ee p
        clear cSN0 cSE0
        have c0 := fun p => hcell2 p 0 _ rfl
        have e0 := fun p => hdell2 p 0 _ rfl
        have c1 := fun p => hcell2 p 1 _ rfl
        have e1 := fun p => hdell2 p 1 _ rfl
        have c2 := fun p => hcell2 p 2 _ rfl
        have e2 := fun p => hdell2 p 2 _ rfl
        have c3 := fun p => hcell2 p 3 _ rfl
        have e3 := fun p => hdell2 p 3 _ rfl
        have c4 := fun p => hcell2 p 4 _ rfl
        have e4 := fun p => hdell2 p 4 _ rfl
        simp only [Nat.add_zero, Nat.mul_one] at c0 e0
        clear hc hc' hcell hdell hcell2 hdell2 ha1 ha2 HB HT hcl hdl hKb hLb hkr hlr hbw
        by_cases he : a1 = a2
        · have HT2 : Hid (xs.take (i + 1) = ys.take (i + 1)) := HST.out he
          have cS := hid2 (cSE.out he)
    
          clear HST cSE cSN he
          go_wp2_with fail
          have inhL := laterInh
          refine wp_region_laterS mixedOnS (by kernel_rfl) ?_
          repeat (go_big_quiet_step ((go_at_call 57; exact calls_laterS (cS.out _))))
          refine wpQuiet_nil ?_
          intro w2 hw'
          obtain ⟨⟨wq, hwq⟩, hw''⟩ := hw'
          subst hw''
          go_wp2_with fail
          go_roundg g'
          case measure => omega
          case rel => exact ⟨i + 1, by go_num, by omega, by omega, HB3.out.trans (hwq.mono HB3.out.size), HT2⟩
        · clear HST
          have cS : Hid (∀ p : LaterS wr.heap.size wr, Calls Tryz.prog 57 #[.agg #[.string a1.t, .slice s1 a1.c.length f1, .int .u64 (a1.v.b : Int), .int .u64 (a1.v.l : Int), .slice s3 a1.o.length f3], .agg #[.string a2.t, .slice s2 a2.c.length f2, .int .u64 (a2.v.b : Int), .int .u64 (a2.v.l : Int), .slice s4 a2.o.length f4]] p.w fun e w' => e = .returned (.bool false) ∧ Below p.w.heap.size p.w w') := fun p => (cSN.out p).mono (fun _ _ hh => hh.false (he))
          clear cSE cSN he
          go_wp2_with fail
          have inhL := laterInh
          refine wp_region_laterS mixedOnS (by kernel_rfl) ?_
          repeat (go_big_quiet_step ((go_at_call 57; exact calls_laterS (cS.out _))))
          refine wpQuiet_nil ?_
          intro w2 hw'
          obtain ⟨⟨wq, hwq⟩, hw''⟩ := hw'
          subst hw''
          go_wp2_with fail
          go_ret
          exact Snd.no (HB3.out.trans (hwq.mono HB3.out.size))
      · have z1 : ¬ (i : Int) < (xs.length : Int) := by omega
        have EX : Hid (xs = ys) := take_all HLE.out hi HT.out
        have HV0 : Hid (Below w.heap.size w wr) := HB.out
        clear HB HT hbw
        go_wp2_with fail
        go_ret
        exact Snd.yes EX.out HV0.out
        
  · have t3 : ((xs.length : Int) != (ys.length : Int)) = true := by simp; omega
    clear hlen
    go_enter Tryz.func33, Tryz.ntmps33
    go_wp2_with fail
    go_ret
    exact Snd.no (Below.refl _ _)
end Go.Proofs.YtjpnomkcinfonaaGreatDoor
/- Bound queries: if the reference says that two are one, they are. -/
namespace Go.Proofs.YtjpnomkcinfonaaGreatDoor
open Go.Shelf Go.RowKit Go.Lib
set_option linter.unusedVariables false
set_option linter.unusedSimpArgs false
attribute [local go_sem ↓] Go.wp_at_zero Go.wp_at_succ
set_option maxRecDepth 100000 in
set_option maxHeartbeats 8000000 in
theorem bound_snd (cs ds : List Value) (x y : Bnd) (K L : Nat → Prop) (w : World) (h : rBnd K w cs x) (h' : rBnd L w ds y) (hK : ∀ b, K b → b < w.heap.size) (hL : ∀ b, L b → b < w.heap.size) :
    Calls Tryz.prog 30 #[.agg cs.toArray, .agg ds.toArray] w fun e w' => Snd (x = y) w e w' := by
  obtain ⟨v1, v2, v3, v4, v5, rfl, _, _, _, _, _, l1, l2, l3, l4, l5⟩ := h
  obtain ⟨u1, u2, u3, u4, u5, rfl, _, _, _, _, _, k1, k2, k3, k4, k5⟩ := h'
  have KK : ∀ W, Below w.heap.size w W → ∀ b, K b → b < W.heap.size := fun W hb b h => Nat.lt_of_lt_of_le (hK b h) hb.size
  have LL : ∀ W, Below w.heap.size w W → ∀ b, L b → b < W.heap.size := fun W hb b h => Nat.lt_of_lt_of_le (hL b h) hb.size
  have CA : Hid (∀ W, Below w.heap.size w W → Calls Tryz.prog 53 #[v1, u1] W fun e w' => Snd (x.wh = y.wh) W e w') := fun W hb =>
    steps_snd v1 u1 x.wh y.wh K L W (ListIs.later mStp l1 hK hb) (ListIs.later mStp k1 hL hb) (KK W hb) (LL W hb)
  have CB : Hid (∀ W, Below w.heap.size w W → Calls Tryz.prog 54 #[v4, u4] W fun e w' => Snd (x.nm = y.nm) W e w') := fun W hb =>
    texts_snd v4 u4 x.nm y.nm K L W (ListIs.later mTxt l4 hK hb) (ListIs.later mTxt k4 hL hb) (KK W hb) (LL W hb)
  obtain ⟨p1, q1, rfl, _, hp1⟩ := l1
  obtain ⟨r1, s1, rfl, _, hr1⟩ := k1
  have HP1 : Hid _ := hp1
  have HR1 : Hid _ := hr1
  obtain ⟨p2, q2, rfl, _, hp2⟩ := l2
  obtain ⟨r2, s2, rfl, _, hr2⟩ := k2
  have HP2 : Hid _ := hp2
  have HR2 : Hid _ := hr2
  obtain ⟨p3, q3, rfl, _, hp3⟩ := l3
  obtain ⟨r3, s3, rfl, _, hr3⟩ := k3
  have HP3 : Hid _ := hp3
  have HR3 : Hid _ := hr3
  obtain ⟨p4, q4, rfl, _, hp4⟩ := l4
  obtain ⟨r4, s4, rfl, _, hr4⟩ := k4
  have HP4 : Hid _ := hp4
  have HR4 : Hid _ := hr4
  obtain ⟨p5, q5, rfl, _, hp5⟩ := l5
  obtain ⟨r5, s5, rfl, _, hr5⟩ := k5
  have HP5 : Hid _ := hp5
  have HR5 : Hid _ := hr5
  have HKK : Hid (∀ b, K b → b < w.heap.size) := hK
  have HLL : Hid (∀ b, L b → b < w.heap.size) := hL
  obtain ⟨W0, hW0, hb0, hs0, hg⟩ := two_boxesB w #[.string x.t, .string x.j, .int .i64 x.w, .int .i64 x.l, .int .i64 x.r, .slice p1 x.wh.length q1, .slice p2 x.g.length q2, .slice p3 x.i.length q3, .bool x.gr, .slice p4 x.nm.length q4, .slice p5 x.kd.length q5] #[.string y.t, .string y.j, .int .i64 y.w, .int .i64 y.l, .int .i64 y.r, .slice r1 y.wh.length s1, .slice r2 y.g.length s2, .slice r3 y.i.length s3, .bool y.gr, .slice r4 y.nm.length s4, .slice r5 y.kd.length s5] 34
  have HG : Hid _ := hg
  obtain ⟨g0, g1⟩ := hg W0 (Below.refl _ _)
  have x0 := cell_of_row (k := 0) g0 rfl
  have y0 := cell_of_row (k := 0) g1 rfl
  have x1 := cell_of_row (k := 1) g0 rfl
  have y1 := cell_of_row (k := 1) g1 rfl
  have x2 := cell_of_row (k := 2) g0 rfl
  have y2 := cell_of_row (k := 2) g1 rfl
  have x3 := cell_of_row (k := 3) g0 rfl
  have y3 := cell_of_row (k := 3) g1 rfl
  have x4 := cell_of_row (k := 4) g0 rfl
  have y4 := cell_of_row (k := 4) g1 rfl
  have x5 := cell_of_row (k := 5) g0 rfl
  have y5 := cell_of_row (k := 5) g1 rfl
  have x8 := cell_of_row (k := 8) g0 rfl
  have y8 := cell_of_row (k := 8) g1 rfl
  have HB0 : Hid (Below w.heap.size w W0) := hb0
  clear hp1 hp2 hp3 hp4 hp5 hr1 hr2 hr3 hr4 hr5 hK hL hb0 hs0 hg g0 g1 KK LL
  by_cases ct : x.t = y.t
  rotate_left
  · have ut : ¬ x.t.toList = y.t.toList := bytes_ne ct
    have tt : (x.t.toList == y.t.toList) = false := by simpa using ut
    clear ct
    go_enter Tryz.func30, Tryz.ntmps30
    go_wp2_with fail
    go_ret
    exact Snd.no HB0.out
  have Et : Hid (x.t = y.t) := ct
  have tt : (x.t.toList == y.t.toList) = true := by simp [Et.out]
  have ut : x.t.toList = y.t.toList := by rw [Et.out]
  clear ct
  by_cases cj : x.j = y.j
  rotate_left
  · have uj : ¬ x.j.toList = y.j.toList := bytes_ne cj
    have tj : (x.j.toList == y.j.toList) = false := by simpa using uj
    clear cj
    go_enter Tryz.func30, Tryz.ntmps30
    go_wp2_with fail
    go_ret
    exact Snd.no HB0.out
  have Ej : Hid (x.j = y.j) := cj
  have tj : (x.j.toList == y.j.toList) = true := by simp [Ej.out]
  have uj : x.j.toList = y.j.toList := by rw [Ej.out]
  clear cj
  by_cases cw : x.w = y.w
  rotate_left
  · have tw : (x.w != y.w) = true := by simp [cw]
    clear cw
    go_enter Tryz.func30, Tryz.ntmps30
    go_wp2_with fail
    go_ret
    exact Snd.no HB0.out
  have Ew : Hid (x.w = y.w) := cw
  have tw : (x.w != y.w) = false := by simp [Ew.out]
  clear cw
  by_cases cl : x.l = y.l
  rotate_left
  · have tl : (x.l != y.l) = true := by simp [cl]
    clear cl
    go_enter Tryz.func30, Tryz.ntmps30
    go_wp2_with fail
    go_ret
    exact Snd.no HB0.out
  have El : Hid (x.l = y.l) := cl
  have tl : (x.l != y.l) = false := by simp [El.out]
  clear cl
  by_cases cr : x.r = y.r
  rotate_left
  · have tr : (x.r != y.r) = true := by simp [cr]
    clear cr
    go_enter Tryz.func30, Tryz.ntmps30
    go_wp2_with fail
    go_ret
    exact Snd.no HB0.out
  have Er : Hid (x.r = y.r) := cr
  have tr : (x.r != y.r) = false := by simp [Er.out]
  clear cr
  by_cases cgr : x.gr = y.gr
  rotate_left
  · have hbb : (x.gr = true ∧ y.gr = false) ∨ (x.gr = false ∧ y.gr = true) := by cases h1 : x.gr <;> cases h2 : y.gr <;> simp_all
    rcases hbb with ⟨h1, h2⟩ | ⟨h1, h2⟩ <;> rw [h1] at x8 <;> rw [h2] at y8 <;> clear h1 h2
    all_goals (
      clear cgr
      go_enter Tryz.func30, Tryz.ntmps30
      go_wp2_with fail
      go_ret
      exact Snd.no HB0.out)
  have Egr : Hid (x.gr = y.gr) := cgr
  have tgr : (x.gr != y.gr) = false := by simp [Egr.out]
  clear cgr
  go_enter Tryz.func30, Tryz.ntmps30
  go_wp2_with fail
  refine (CA.out W0 HB0.out).mono ?_
  rintro e w2 ⟨ra, rfl, hra, hb2⟩
  obtain ⟨g0, g1⟩ := HG.out w2 hb2
  have x9 := cell_of_row (k := 9) g0 rfl
  have y9 := cell_of_row (k := 9) g1 rfl
  have HB2 : Hid (Below W0.heap.size W0 w2) := hb2
  clear hb2 g0 g1
  cases ra
  · clear hra
    go_wp2_with fail
    go_ret
    exact Snd.no (HB0.out.trans (HB2.out.mono HB0.out.size))
  have Ewh : Hid (x.wh = y.wh) := hra rfl
  clear hra
  go_wp2_with fail
  refine (CB.out w2 (HB0.out.trans (HB2.out.mono HB0.out.size))).mono ?_
  rintro e w3 ⟨rb, rfl, hrb, hb3⟩
  have HV0 : Hid (Below W0.heap.size W0 w3) := HB2.out.trans (hb3.mono HB2.out.size)
  obtain ⟨g0, g1⟩ := HG.out w3 HV0.out
  have x6 := cell_of_row (k := 6) g0 rfl
  have y6 := cell_of_row (k := 6) g1 rfl
  have x7 := cell_of_row (k := 7) g0 rfl
  have y7 := cell_of_row (k := 7) g1 rfl
  have x10 := cell_of_row (k := 10) g0 rfl
  have y10 := cell_of_row (k := 10) g1 rfl
  clear hb3 g0 g1 HB2
  cases rb
  · clear hrb
    go_wp2_with fail
    go_ret
    exact Snd.no (HB0.out.trans (HV0.out.mono HB0.out.size))
  have Enm : Hid (x.nm = y.nm) := hrb rfl
  clear hrb
  by_cases clg : x.g.length = y.g.length
  rotate_left
  · have tlg : ((x.g.length : Int) != (y.g.length : Int)) = true := by simp; omega
    clear clg
    go_wp2_with fail
    go_ret
    exact Snd.no (HB0.out.trans (HV0.out.mono HB0.out.size))
  have Elg : Hid (x.g.length = y.g.length) := clg
  have tlg : ((x.g.length : Int) != (y.g.length : Int)) = false := by have := Elg.out; simp; omega
  clear clg
  by_cases cli : x.i.length = y.i.length
  rotate_left
  · have tli : ((x.i.length : Int) != (y.i.length : Int)) = true := by simp; omega
    clear cli
    go_wp2_with fail
    go_ret
    exact Snd.no (HB0.out.trans (HV0.out.mono HB0.out.size))
  have Eli : Hid (x.i.length = y.i.length) := cli
  have tli : ((x.i.length : Int) != (y.i.length : Int)) = false := by have := Eli.out; simp; omega
  clear cli
  by_cases clkd : x.kd.length = y.kd.length
  rotate_left
  · have tlkd : ((x.kd.length : Int) != (y.kd.length : Int)) = true := by simp; omega
    clear clkd
    go_wp2_with fail
    go_ret
    exact Snd.no (HB0.out.trans (HV0.out.mono HB0.out.size))
  have Elkd : Hid (x.kd.length = y.kd.length) := clkd
  have tlkd : ((x.kd.length : Int) != (y.kd.length : Int)) = false := by have := Elkd.out; simp; omega
  clear clkd
  go_wp2_with fail
  go_loopg [92] x.g.length (fun gf s30 wx => ∃ i : Nat, s30 = .int .i64 i ∧ i ≤ x.g.length ∧ x.g.length ≤ i + gf ∧ Hid (Below W0.heap.size W0 wx) ∧ Hid (x.g.take i = y.g.take i))
  case atStart => exact ⟨0, rfl, by omega, by omega, HV0, (show _ = _ by simp)⟩
  case round =>
    clear HV0
    obtain ⟨i, rfl, hi1, hgf, HB, HT⟩ := hrel
    have hbw : Below w.heap.size w wr := HB0.out.trans (HB.out.mono HB0.out.size)
    by_cases hi : i < x.g.length
    · obtain ⟨g', rfl⟩ : ∃ g', gk = g' + 1 := ⟨gk - 1, by omega⟩
      have hi' : i < y.g.length := by have := Elg.out; omega
      obtain ⟨b, o, rfl, hKb, hc⟩ := HP2.out (by omega)
      obtain ⟨b', o', rfl, hLb, hc'⟩ := HR2.out (by omega)
      obtain ⟨cs, hcl, hcell, hrel1⟩ := hc i hi
      obtain ⟨ds, hdl, hdell, hrel2⟩ := hc' i hi'
      obtain ⟨a1, ha1⟩ : ∃ z, x.g[i] = z := ⟨_, rfl⟩
      obtain ⟨a2, ha2⟩ : ∃ z, y.g[i] = z := ⟨_, rfl⟩
      have HST : Hid (a1 = a2 → x.g.take (i + 1) = y.g.take (i + 1)) := fun e => take_step hi hi' HT.out (by rw [ha1, ha2, e])
      rw [ha1] at hrel1
      rw [ha2] at hrel2
      have HB3 : Hid (Below W0.heap.size W0 wr) := HB.out
      have z0 : (0 : Int) ≤ (i : Int) := by omega
      have z1 : (i : Int) < (x.g.length : Int) := by omega
      have z2 : (i : Int) < (y.g.length : Int) := by omega
      obtain ⟨g0, g1⟩ := HG.out wr HB.out
      have hcs := hrel1.1
      have hds := hrel2.1
      have hcell2 : ∀ j u, cs[j]? = some u → wr.cell? ⟨b, o + i * 1 + j, none⟩ = some u := fun j u hj => by rw [hbw.cell (p := ⟨b, _, none⟩) (HKK.out _ hKb)]; exact hcell j u hj
      have hdell2 : ∀ j u, ds[j]? = some u → wr.cell? ⟨b', o' + i * 1 + j, none⟩ = some u := fun j u hj => by rw [hbw.cell (p := ⟨b', _, none⟩) (HLL.out _ hLb)]; exact hdell j u hj
      rw [hcs] at hcell2
      rw [hds] at hdell2
      have c0 := hcell2 0 _ rfl
      have e0 := hdell2 0 _ rfl
      simp only [Nat.add_zero, Nat.mul_one] at c0 e0
      have m0 := cell_of_row (k := 6) g0 rfl
      have m1 := cell_of_row (k := 6) g1 rfl
      clear hc hc' hcell hdell hcell2 hdell2 hrel1 hrel2 ha1 ha2 HB HT hcl hdl hKb hLb hcs hds hbw g0 g1
      by_cases he : a1 = a2
      · have HT2 : Hid (x.g.take (i + 1) = y.g.take (i + 1)) := HST.out he
        subst he
        clear HST
        have n5 : (a1 != a1) = false := by simp
        go_wp2_with fail
        go_quiet (fail)
        go_wp2_with fail
        go_roundg g'
        case measure => omega
        case rel => exact ⟨i + 1, by go_num, by omega, by omega, below_drewN HB3.out _, HT2⟩
      · clear HST
        have n5 : (a1 != a2) = true := by simp [he]
        clear he
        go_wp2_with fail
        go_quiet (fail)
        go_wp2_with fail
        go_ret
        exact Snd.no (HB0.out.trans ((below_drewN HB3.out _).mono HB0.out.size))
    · have z1 : ¬ (i : Int) < (x.g.length : Int) := by omega
      have Eg : Hid (x.g = y.g) := take_all Elg.out hi HT.out
      have HV0 : Hid (Below W0.heap.size W0 wr) := HB.out
      clear HB HT hbw
      obtain ⟨g0, g1⟩ := HG.out wr HV0.out
      have m0 := cell_of_row (k := 10) g0 rfl
      have m1 := cell_of_row (k := 10) g1 rfl
      clear g0 g1
      go_wp2_with fail
      clear m0 m1 z1 hi hi1 hgf
      obtain ⟨V0, hV0⟩ : ∃ V0, V0 = wr := ⟨_, rfl⟩
      subst hV0
      go_loopg [110] x.kd.length (fun gf s30 wx => ∃ i : Nat, s30 = .int .i64 i ∧ i ≤ x.kd.length ∧ x.kd.length ≤ i + gf ∧ Hid (Below W0.heap.size W0 wx) ∧ Hid (x.kd.take i = y.kd.take i))
      case atStart => exact ⟨0, rfl, by omega, by omega, HV0, (show _ = _ by simp)⟩
      case round =>
        clear HV0
        obtain ⟨i, rfl, hi1, hgf, HB, HT⟩ := hrel
        have hbw : Below w.heap.size w wr := HB0.out.trans (HB.out.mono HB0.out.size)
        by_cases hi : i < x.kd.length
        · obtain ⟨g', rfl⟩ : ∃ g', gk = g' + 1 := ⟨gk - 1, by omega⟩
          have hi' : i < y.kd.length := by have := Elkd.out; omega
          obtain ⟨b, o, rfl, hKb, hc⟩ := HP5.out (by omega)
          obtain ⟨b', o', rfl, hLb, hc'⟩ := HR5.out (by omega)
          obtain ⟨cs, hcl, hcell, hrel1⟩ := hc i hi
          obtain ⟨ds, hdl, hdell, hrel2⟩ := hc' i hi'
          obtain ⟨a1, ha1⟩ : ∃ z, x.kd[i] = z := ⟨_, rfl⟩
          obtain ⟨a2, ha2⟩ : ∃ z, y.kd[i] = z := ⟨_, rfl⟩
          have HST : Hid (a1 = a2 → x.kd.take (i + 1) = y.kd.take (i + 1)) := fun e => take_step hi hi' HT.out (by rw [ha1, ha2, e])
          rw [ha1] at hrel1
          rw [ha2] at hrel2
          have HB3 : Hid (Below W0.heap.size W0 wr) := HB.out
          have z0 : (0 : Int) ≤ (i : Int) := by omega
          have z1 : (i : Int) < (x.kd.length : Int) := by omega
          have z2 : (i : Int) < (y.kd.length : Int) := by omega
          obtain ⟨g0, g1⟩ := HG.out wr HB.out
          have hcs := hrel1.1
          have hds := hrel2.1
          have hcell2 : ∀ j u, cs[j]? = some u → wr.cell? ⟨b, o + i * 1 + j, none⟩ = some u := fun j u hj => by rw [hbw.cell (p := ⟨b, _, none⟩) (HKK.out _ hKb)]; exact hcell j u hj
          have hdell2 : ∀ j u, ds[j]? = some u → wr.cell? ⟨b', o' + i * 1 + j, none⟩ = some u := fun j u hj => by rw [hbw.cell (p := ⟨b', _, none⟩) (HLL.out _ hLb)]; exact hdell j u hj
          rw [hcs] at hcell2
          rw [hds] at hdell2
          have c0 := hcell2 0 _ rfl
          have e0 := hdell2 0 _ rfl
          simp only [Nat.add_zero, Nat.mul_one] at c0 e0
          have m0 := cell_of_row (k := 10) g0 rfl
          have m1 := cell_of_row (k := 10) g1 rfl
          clear hc hc' hcell hdell hcell2 hdell2 hrel1 hrel2 ha1 ha2 HB HT hcl hdl hKb hLb hcs hds hbw g0 g1
          by_cases he : a1 = a2
          · have HT2 : Hid (x.kd.take (i + 1) = y.kd.take (i + 1)) := HST.out he
            subst he
            clear HST
            have n5 : ((a1 : Int) != (a1 : Int)) = false := by simp
            go_wp2_with fail
            go_quiet (fail)
            go_wp2_with fail
            go_roundg g'
            case measure => omega
            case rel => exact ⟨i + 1, by go_num, by omega, by omega, below_drewN HB3.out _, HT2⟩
          · clear HST
            have n5 : ((a1 : Int) != (a2 : Int)) = true := by simp; omega
            clear he
            go_wp2_with fail
            go_quiet (fail)
            go_wp2_with fail
            go_ret
            exact Snd.no (HB0.out.trans ((below_drewN HB3.out _).mono HB0.out.size))
        · have z1 : ¬ (i : Int) < (x.kd.length : Int) := by omega
          have Ekd : Hid (x.kd = y.kd) := take_all Elkd.out hi HT.out
          have HV0 : Hid (Below W0.heap.size W0 wr) := HB.out
          clear HB HT hbw
          obtain ⟨g0, g1⟩ := HG.out wr HV0.out
          have m0 := cell_of_row (k := 7) g0 rfl
          have m1 := cell_of_row (k := 7) g1 rfl
          clear g0 g1
          go_wp2_with fail
          clear m0 m1 z1 hi hi1 hgf
          obtain ⟨V0, hV0⟩ : ∃ V0, V0 = wr := ⟨_, rfl⟩
          subst hV0
          go_loopg [128] x.i.length (fun gf s30 wx => ∃ i : Nat, s30 = .int .i64 i ∧ i ≤ x.i.length ∧ x.i.length ≤ i + gf ∧ Hid (Below W0.heap.size W0 wx) ∧ Hid (x.i.take i = y.i.take i))
          case atStart => exact ⟨0, rfl, by omega, by omega, HV0, (show _ = _ by simp)⟩
          case round =>
            clear HV0
            obtain ⟨i, rfl, hi1, hgf, HB, HT⟩ := hrel
            have hbw : Below w.heap.size w wr := HB0.out.trans (HB.out.mono HB0.out.size)
            by_cases hi : i < x.i.length
            · obtain ⟨g', rfl⟩ : ∃ g', gk = g' + 1 := ⟨gk - 1, by omega⟩
              have hi' : i < y.i.length := by have := Eli.out; omega
              obtain ⟨b, o, rfl, hKb, hc⟩ := HP3.out (by omega)
              obtain ⟨b', o', rfl, hLb, hc'⟩ := HR3.out (by omega)
              obtain ⟨cs, hcl, hcell, hrel1⟩ := hc i hi
              obtain ⟨ds, hdl, hdell, hrel2⟩ := hc' i hi'
              obtain ⟨a1, ha1⟩ : ∃ z, x.i[i] = z := ⟨_, rfl⟩
              obtain ⟨a2, ha2⟩ : ∃ z, y.i[i] = z := ⟨_, rfl⟩
              have HST : Hid (a1 = a2 → x.i.take (i + 1) = y.i.take (i + 1)) := fun e => take_step hi hi' HT.out (by rw [ha1, ha2, e])
              rw [ha1] at hrel1
              rw [ha2] at hrel2
              have HB3 : Hid (Below W0.heap.size W0 wr) := HB.out
              have z0 : (0 : Int) ≤ (i : Int) := by omega
              have z1 : (i : Int) < (x.i.length : Int) := by omega
              have z2 : (i : Int) < (y.i.length : Int) := by omega
              have hkr : ∀ b, K b → b < wr.heap.size := fun b hb => Nat.lt_of_lt_of_le (HKK.out b hb) hbw.size
              have hlr : ∀ b, L b → b < wr.heap.size := fun b hb => Nat.lt_of_lt_of_le (HLL.out b hb) hbw.size
              have hcell2 : ∀ (p : LaterS wr.heap.size wr) j u, cs[j]? = some u → p.w.cell? ⟨b, o + i * 2 + j, none⟩ = some u := fun p j u hj => by
                rw [p.h.cell (p := ⟨b, _, none⟩) (hkr _ hKb), hbw.cell (p := ⟨b, _, none⟩) (HKK.out _ hKb)]; exact hcell j u hj
              have hdell2 : ∀ (p : LaterS wr.heap.size wr) j u, ds[j]? = some u → p.w.cell? ⟨b', o' + i * 2 + j, none⟩ = some u := fun p j u hj => by
                rw [p.h.cell (p := ⟨b', _, none⟩) (hlr _ hLb), hbw.cell (p := ⟨b', _, none⟩) (HLL.out _ hLb)]; exact hdell j u hj
              obtain ⟨u1, hcs, _, hl1⟩ := hrel1
              obtain ⟨u2, hds, _, hl2⟩ := hrel2
              rw [hcs] at hcell2
              rw [hds] at hdell2
              clear hcs hds
              have cSN : Hid (∀ p : LaterS wr.heap.size wr, Calls Tryz.prog 53 #[u1, u2] p.w fun e w' => Snd (a1.e = a2.e) p.w e w') := fun p => steps_snd u1 u2 a1.e a2.e K L p.w (ListIs.later mStp hl1 HKK.out (hbw.trans (p.h.mono hbw.size))) (ListIs.later mStp hl2 HLL.out (hbw.trans (p.h.mono hbw.size))) (fun b hb => Nat.lt_of_lt_of_le (hkr b hb) p.h.size) (fun b hb => Nat.lt_of_lt_of_le (hlr b hb) p.h.size)
              have cSE : Hid (a1.e = a2.e → ∀ p : LaterS wr.heap.size wr, Calls Tryz.prog 53 #[u1, u2] p.w fun e w' => e = .returned (.bool true) ∧ Below p.w.heap.size p.w w') := fun ee p => steps_eq u1 u2 a1.e K L p.w (ListIs.later mStp hl1 HKK.out (hbw.trans (p.h.mono hbw.size))) (ListIs.later mStp (by rw [ee]; exact hl2) HLL.out (hbw.trans (p.h.mono hbw.size))) (fun b hb => Nat.lt_of_lt_of_le (hkr b hb) p.h.size) (fun b hb => Nat.lt_of_lt_of_le (hlr b hb) p.h.size)
              obtain ⟨s1, f1, rfl, _, _⟩ := hl1
              obtain ⟨s2, f2, rfl, _, _⟩ := hl2
              have c0 := fun p => hcell2 p 0 _ rfl
              have e0 := fun p => hdell2 p 0 _ rfl
              have c1 := fun p => hcell2 p 1 _ rfl
              have e1 := fun p => hdell2 p 1 _ rfl
              simp only [Nat.add_zero, Nat.mul_one] at c0 e0
              have m0 : ∀ p : LaterS wr.heap.size wr, p.w.cell? ⟨w.heap.size, 7, none⟩ = some _ := fun p => cell_of_row (k := 7) (HG.out p.w (HB.out.trans (p.h.mono HB.out.size))).1 rfl
              have m1 : ∀ p : LaterS wr.heap.size wr, p.w.cell? ⟨w.heap.size + 1, 7, none⟩ = some _ := fun p => cell_of_row (k := 7) (HG.out p.w (HB.out.trans (p.h.mono HB.out.size))).2 rfl
              clear hc hc' hcell hdell hcell2 hdell2 ha1 ha2 HB HT hcl hdl hKb hLb hkr hlr hbw
              by_cases he : a1 = a2
              · have HT2 : Hid (x.i.take (i + 1) = y.i.take (i + 1)) := HST.out he
                have cS := hid2 (cSE.out (by rw [he]))
                have n5 : ((a1.g : Int) != (a2.g : Int)) = false := by simp [he]
                clear HST cSE cSN he
                go_wp2_with fail
                have inhL := laterInh
                refine wp_region_laterS mixedOnS (by kernel_rfl) ?_
                repeat (go_big_quiet_step ((go_at_call 53; exact calls_laterS (cS.out _))))
                refine wpQuiet_nil ?_
                intro w2 hw'
                obtain ⟨⟨wq, hwq⟩, hw''⟩ := hw'
                subst hw''
                go_wp2_with fail
                go_roundg g'
                case measure => omega
                case rel => exact ⟨i + 1, by go_num, by omega, by omega, HB3.out.trans (hwq.mono HB3.out.size), HT2⟩
              · clear HST
                by_cases hgg : a1.g = a2.g
                · have n5 : ((a1.g : Int) != (a2.g : Int)) = false := by simp [hgg]
                  have hee : ¬ a1.e = a2.e := fun e => he (itm_ext hgg e)
                  have cS : Hid (∀ p : LaterS wr.heap.size wr, Calls Tryz.prog 53 #[.slice s1 a1.e.length f1, .slice s2 a2.e.length f2] p.w fun e w' => e = .returned (.bool false) ∧ Below p.w.heap.size p.w w') := fun p => (cSN.out p).mono (fun _ _ hh => hh.false (hee))
                  clear cSE cSN he hgg hee
                  go_wp2_with fail
                  have inhL := laterInh
                  refine wp_region_laterS mixedOnS (by kernel_rfl) ?_
                  repeat (go_big_quiet_step ((go_at_call 53; exact calls_laterS (cS.out _))))
                  refine wpQuiet_nil ?_
                  intro w2 hw'
                  obtain ⟨⟨wq, hwq⟩, hw''⟩ := hw'
                  subst hw''
                  go_wp2_with fail
                  go_ret
                  exact Snd.no (HB0.out.trans ((HB3.out.trans (hwq.mono HB3.out.size)).mono HB0.out.size))
                · have n5 : ((a1.g : Int) != (a2.g : Int)) = true := by simp; omega
                  clear cSE cSN he hgg
                  go_wp2_with fail
                  have inhL := laterInh
                  refine wp_region_laterS mixedOnS (by kernel_rfl) ?_
                  repeat (go_big_quiet_step (fail))
                  refine wpQuiet_nil ?_
                  intro w2 hw'
                  obtain ⟨⟨wq, hwq⟩, hw''⟩ := hw'
                  subst hw''
                  go_wp2_with fail
                  go_ret
                  exact Snd.no (HB0.out.trans ((HB3.out.trans (hwq.mono HB3.out.size)).mono HB0.out.size))
            · have z1 : ¬ (i : Int) < (x.i.length : Int) := by omega
              have Ei : Hid (x.i = y.i) := take_all Eli.out hi HT.out
              have HV0 : Hid (Below W0.heap.size W0 wr) := HB.out
              clear HB HT hbw
              obtain ⟨g0, g1⟩ := HG.out wr HV0.out
              clear g0 g1
              go_wp2_with fail
              go_ret
              exact Snd.yes (bnd_ext Et.out Ej.out Ew.out El.out Er.out Ewh.out Eg.out Ei.out Egr.out Enm.out Ekd.out) (HB0.out.trans (HV0.out.mono HB0.out.size))
              
end Go.Proofs.YtjpnomkcinfonaaGreatDoor

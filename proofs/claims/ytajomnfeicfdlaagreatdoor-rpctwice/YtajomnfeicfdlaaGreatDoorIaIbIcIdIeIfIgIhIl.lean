/- Whether one is there: slices.Index, slices.Contains of the window's, and Has. -/
import Derived.Test.YtajomnfeicfdlaaGreatDoorHcHdHeHf
import Derived.Test.YtajomnfeicfdlaaGreatDoorSaSbScSdSe
import Derived.Test.YtajomnfeicfdlaaGreatDoorVaVbGaGb
import Derived.Laws.IdiomCopy
import Derived.Test.YtajomnfeicfdlaaGreatDoorHkHlHmHn
import Derived.Maps.AppendAt
namespace Go.Proofs.YtajomnfeicfdlaaGreatDoor
open Go.Shelf Go.RowKit Go.Lib
set_option linter.unusedVariables false
set_option linter.unusedSimpArgs false
attribute [local go_sem ↓] Go.wp_at_zero Go.wp_at_succ
def rQid : Rel (Int × Int) := fun _ _ cs x => cs = [.int .u64 x.1, .int .u64 x.2]
theorem mQid : Mono rQid := fun _ _ _ _ _ _ _ _ h => h
set_option maxRecDepth 10000 in
theorem eql_qid (a b a' b' : Int) (w : World) : (binOp .eql 27 (.agg #[.int .u64 a, .int .u64 b]) (.agg #[.int .u64 a', .int .u64 b'])).run Tryz.prog w = .ok (.bool (decide ((a, b) = (a', b')))) w := by
 have hS : Tryz.prog.underlying 27 = some (.struct (Tryz.prog.fieldsOf 27)) := by kernel_rfl
 have hp : Tryz.prog.stoodInHeld 27 = false := by kernel_rfl
 have u9 := Tryz.underlying25; have a9 := Tryz.isAgg25; have z9 := Tryz.sizeOf25
 rw [run_eql_struct, show (10000 : Nat) = 9999 + 1 from rfl, run_equalIn_struct w 9999 27 _ _ hS hp]
 simp only [Program.fieldsOf, Tryz.underlying27]
 clear hS hp
 by_cases h1 : a = a' <;> by_cases h2 : b = b'
 ·subst h1 h2
  go_simp
 ·go_simp
 ·go_simp
 ·go_simp
set_option maxRecDepth 100000 in
set_option maxHeartbeats 4000000 in
theorem qindex_any (y : Int × Int) (v : Value) (xs : List (Int × Int)) (K : Nat → Prop) (w : World) (h : ListIs rQid 2 16 K w v xs) (hK : ∀ b, K b → b < w.heap.size) :
  Calls Tryz.prog 38 #[v, .agg #[.int .u64 y.1, .int .u64 y.2]] w fun e w' => ∃ k : Int, e = .returned (.int .i64 k) ∧ ((0 ≤ k ∧ decide (y ∈ xs) = true) ∨ (k = -1 ∧ decide (y ∈ xs) = false)) ∧ Below w.heap.size w w' := by
 obtain ⟨q0, c0, rfl, hby, hp⟩ := h
 obtain ⟨y1, y2⟩ := y
 have HP : Hid (0 < xs.length → ∃ b o, q0 = some ⟨b, o, none⟩ ∧ K b ∧ ∀ (j : Nat) (h : j < xs.length), ∃ cs, cs.length = 2 ∧ (∀ (i : Nat) (u : Value), cs[i]? = some u → w.cell? ⟨b, o + j * 2 + i, none⟩ = some u) ∧ rQid K w cs xs[j]) := hp
 have HKK : Hid (∀ b, K b → b < w.heap.size) := hK
 have hx63 : xs.length ≤ 140737488355328 := by omega
 obtain ⟨W0, hW0⟩ : ∃ W0, w.alloc (.cells #[.int .u64 y1, .int .u64 y2] 27) = W0 := ⟨_, rfl⟩
 have hb0 : Below w.heap.size w W0 := by rw [← hW0]; exact (Below.refl _ _).alloc (Nat.le_refl _) _
 have hg0 : W0.heap[w.heap.size]? = some (.cells #[.int .u64 y1, .int .u64 y2] 27 (0, 0)) := by rw [← hW0]; exact heap_alloc_new w _
 have HB0 : Hid (Below w.heap.size w W0) := hb0
 have HG0 : Hid (W0.heap[w.heap.size]? = some (.cells #[.int .u64 y1, .int .u64 y2] 27 (0, 0))) := hg0
 clear hp hK hby hb0 hg0
 go_enter Tryz.func38, Tryz.ntmps38
 go_wp2_with fail
 go_loopg [8] xs.length (fun gf s8 wx => ∃ (i : Nat), s8 = .int .i64 i ∧ i ≤ xs.length ∧ xs.length ≤ i + gf ∧ Hid (Below w.heap.size w wx) ∧ Hid (wx.heap[w.heap.size]? = some (.cells #[.int .u64 y1, .int .u64 y2] 27 (0, 0))) ∧ Hid ((y1, y2) ∉ xs.take i))
 case atStart => exact ⟨0, rfl, by omega, by omega, HB0, HG0, fun hx => by simp at hx⟩
 case round =>
  obtain ⟨i, rfl, hi1, hgf, HB, HG, HN⟩ := hrel
  by_cases hi : i < xs.length
  ·obtain ⟨g', rfl⟩ : ∃ g', gk = g' + 1 := ⟨gk - 1, by omega⟩
   obtain ⟨b, o, rfl, hKb, hc⟩ := HP.out (by omega)
   obtain ⟨cs, hcl, hcell, hrel1⟩ := hc i hi
   obtain ⟨⟨x1, x2⟩, hy⟩ : ∃ y, xs[i] = y := ⟨_, rfl⟩
   have HTK : Hid (xs.take (i + 1) = xs.take i ++ [(x1, x2)]) := by show _ = _; rw [← hy]; exact List.take_succ_eq_append_getElem hi
   have HME : Hid ((x1, x2) ∈ xs) := by show _ ∈ _; rw [← hy]; exact List.getElem_mem hi
   rw [hy] at hrel1
   have e := hrel1
   unfold rQid at e
   subst e
   have k0 : wr.cell? ⟨b, o + i * 2, none⟩ = some (.int .u64 x1) := by
    rw [HB.out.cell (p := ⟨b, _, none⟩) (HKK.out _ hKb)]; exact hcell 0 _ rfl
   have k1 : wr.cell? ⟨b, o + i * 2 + 1, none⟩ = some (.int .u64 x2) := by
    rw [HB.out.cell (p := ⟨b, _, none⟩) (HKK.out _ hKb)]; exact hcell 1 _ rfl
   have k2 := cell_of_row (k := 0) HG.out rfl
   have k3 := cell_of_row (k := 1) HG.out rfl
   have EQ := eql_qid y1 y2 x1 x2
   have z0 : (0 : Int) ≤ (i : Int) := by omega
   have z1' : (i : Int) < (xs.length : Int) := by omega
   clear hc hcell hy hKb hcl hrel1
   by_cases hpy : (y1, y2) = (x1, x2)
   ·rw [decide_eq_true hpy] at EQ
    have HA : Hid (decide ((y1, y2) ∈ xs) = true) := by show _ = _; rw [hpy]; exact decide_eq_true HME.out
    clear hpy
    go_wp2_with fail
    go_quiet (fail)
    go_wp2_with fail
    go_ret
    exact ⟨_, rfl, .inl ⟨by omega, HA.out⟩, below_drewN HB.out _⟩
   ·rw [decide_eq_false hpy] at EQ
    have HN2 : Hid ((y1, y2) ∉ xs.take (i + 1)) := fun hx => by
     rw [HTK.out] at hx
     rcases List.mem_append.1 hx with hx | hx
     ·exact HN.out hx
     ·exact hpy (List.mem_singleton.1 hx)
    clear hpy
    go_wp2_with fail
    go_quiet (fail)
    go_wp2_with fail
    go_roundg g'
    case measure => omega
    case rel => exact ⟨i + 1, by go_num, by omega, by omega, below_drewN HB.out _, HG, HN2⟩
  ·have z1 : ¬ (i : Int) < (xs.length : Int) := by omega
   have HA : Hid (decide ((y1, y2) ∈ xs) = false) := by
    show _ = _
    have := HN.out
    rw [List.take_of_length_le (by omega)] at this
    exact decide_eq_false this
   clear HN
   go_wp2_with fail
   go_ret
   exact ⟨_, rfl, .inr ⟨rfl, by first | exact HA.out | exact of_decide_eq_false HA.out⟩, HB.out⟩
set_option maxRecDepth 100000 in
set_option maxHeartbeats 4000000 in
theorem qcontains_any (y : Int × Int) (v : Value) (xs : List (Int × Int)) (K : Nat → Prop) (w : World) (h : ListIs rQid 2 16 K w v xs) (hK : ∀ b, K b → b < w.heap.size) :
  Calls Tryz.prog 25 #[v, .agg #[.int .u64 y.1, .int .u64 y.2]] w fun e w' => e = .returned (.bool (decide (y ∈ xs))) ∧ Below w.heap.size w w' := by
 have C := hid (fun V (hb : Below w.heap.size w V) => qindex_any y v xs K V (h.mono mQid (fun _ h => h) (kept_of hK hb)) (fun b hk => Nat.lt_of_lt_of_le (hK b hk) hb.size))
 clear h hK
 obtain ⟨y1, y2⟩ := y
 obtain ⟨r, hr⟩ : ∃ r, decide ((y1, y2) ∈ xs) = r := ⟨_, rfl⟩
 obtain ⟨W0, hW0⟩ : ∃ W0, w.alloc (.cells #[.int .u64 y1, .int .u64 y2] 27) = W0 := ⟨_, rfl⟩
 have hb0 : Below w.heap.size w W0 := by rw [← hW0]; exact (Below.refl _ _).alloc (Nat.le_refl _) _
 have hg0 : W0.heap[w.heap.size]? = some (.cells #[.int .u64 y1, .int .u64 y2] 27 (0, 0)) := by rw [← hW0]; exact heap_alloc_new w _
 have CC := hid (C.out W0 hb0)
 rw [hr] at CC ⊢
 have HB0 : Hid (Below w.heap.size w W0) := hb0
 have k2 := cell_of_row (k := 0) hg0 rfl
 have k3 := cell_of_row (k := 1) hg0 rfl
 clear hr C hb0 hg0
 go_enter Tryz.func25, Tryz.ntmps25
 go_wp2_with fail
 refine CC.out.mono ?_
 rintro e w1 ⟨k, rfl, hk, hb⟩
 have HB : Hid (Below w.heap.size w w1) := HB0.out.trans (hb.mono HB0.out.size)
 rcases hk with ⟨hk, rfl⟩ | ⟨rfl, rfl⟩
 ·have z : (0 : Int) ≤ k := hk
  clear hb CC
  go_wp2_with fail
  go_ret
  exact ⟨by simp [z], HB.out⟩
 ·clear hb CC
  go_wp2_with fail
  go_ret
  exact ⟨rfl, HB.out⟩
end Go.Proofs.YtajomnfeicfdlaaGreatDoor
/- What Has, hasTwice and CheckWindow answer. -/
namespace Go.Proofs.YtajomnfeicfdlaaGreatDoor
open Go.Shelf Go.RowKit Go.Lib
set_option linter.unusedVariables false
set_option linter.unusedSimpArgs false
attribute [local go_sem ↓] Go.wp_at_zero Go.wp_at_succ
set_option maxRecDepth 100000 in
set_option maxHeartbeats 4000000 in
theorem has_any (y : Int × Int) (v : Value) (xs : List (Int × Int)) (K : Nat → Prop) (w : World) (h : ListIs rQid 2 16 K w v xs) (hK : ∀ b, K b → b < w.heap.size) :
  Calls Tryz.prog 13 #[.agg #[v], .agg #[.int .u64 y.1, .int .u64 y.2]] w fun e w' => e = .returned (.bool (decide (y ∈ xs))) ∧ Below w.heap.size w w' := by
 have C := hid (fun V (hb : Below w.heap.size w V) => qcontains_any y v xs K V (h.mono mQid (fun _ h => h) (kept_of hK hb)) (fun b hk => Nat.lt_of_lt_of_le (hK b hk) hb.size))
 obtain ⟨q0, c0, rfl, -, -⟩ := h
 clear hK
 obtain ⟨y1, y2⟩ := y
 obtain ⟨r, hr⟩ : ∃ r, decide ((y1, y2) ∈ xs) = r := ⟨_, rfl⟩
 obtain ⟨n, hn⟩ : ∃ n, xs.length = n := ⟨_, rfl⟩
 rw [hn] at C ⊢
 obtain ⟨W0, hW0⟩ : ∃ W0, (w.alloc (.cells #[.slice q0 n c0] 24)).alloc (.cells #[.int .u64 y1, .int .u64 y2] 27) = W0 := ⟨_, rfl⟩
 have hb0 : Below w.heap.size w W0 := by rw [← hW0]; exact ((Below.refl _ _).alloc (Nat.le_refl _) _).alloc (by simp) _
 have hg1 : W0.heap[w.heap.size + 1]? = some (.cells #[.int .u64 y1, .int .u64 y2] 27 (0, 0)) := by rw [← hW0]; simpa using heap_alloc_new (w.alloc (.cells #[.slice q0 n c0] 24)) (.cells #[.int .u64 y1, .int .u64 y2] 27)
 have hg0 : W0.heap[w.heap.size]? = some (.cells #[.slice q0 n c0] 24 (0, 0)) := by
  rw [← hW0, heap_alloc_old _ _ (by simp)]; exact heap_alloc_new w _
 have CC := hid (C.out W0 hb0)
 rw [hr] at CC ⊢
 have HB0 : Hid (Below w.heap.size w W0) := hb0
 have k1 := cell_of_row (k := 0) hg0 rfl
 have k2 := cell_of_row (k := 0) hg1 rfl
 have k3 := cell_of_row (k := 1) hg1 rfl
 clear hr C hb0 hg0 hg1 hn
 go_enter Tryz.func13, Tryz.ntmps13
 go_wp2_with fail
 refine CC.out.mono ?_
 rintro e w1 ⟨rfl, hb⟩
 have HB : Hid (Below w.heap.size w w1) := HB0.out.trans (hb.mono HB0.out.size)
 clear hb CC
 go_wp2_with fail
 go_ret
 exact ⟨rfl, HB.out⟩
end Go.Proofs.YtajomnfeicfdlaaGreatDoor
/- What hasTwice and CheckWindow answer. -/
namespace Go.Proofs.YtajomnfeicfdlaaGreatDoor
open Go.Shelf Go.RowKit Go.Lib
set_option linter.unusedVariables false
set_option linter.unusedSimpArgs false
attribute [local go_sem ↓] Go.wp_at_zero Go.wp_at_succ
/-- No slice is longer than its room. -/
def CapIs (v : Value) : Prop := ∀ q n c, v = .slice q n c → n ≤ c
set_option maxRecDepth 100000 in
set_option maxHeartbeats 4000000 in
theorem hasTwice_any (v : Value) (xs : List (Int × Int)) (K : Nat → Prop) (w : World) (h : ListIs rQid 2 16 K w v xs) (hK : ∀ b, K b → b < w.heap.size) (hcp : CapIs v) :
  Calls Tryz.prog 26 #[v] w fun e w' => e = .returned (.bool (!decide xs.Nodup)) ∧ Below w.heap.size w w' := by
 obtain ⟨q0, c0, rfl, hby, hp⟩ := h
 have HP : Hid (0 < xs.length → ∃ b o, q0 = some ⟨b, o, none⟩ ∧ K b ∧ ∀ (j : Nat) (h : j < xs.length), ∃ cs, cs.length = 2 ∧ (∀ (i : Nat) (u : Value), cs[i]? = some u → w.cell? ⟨b, o + j * 2 + i, none⟩ = some u) ∧ rQid K w cs xs[j]) := hp
 have HKK : Hid (∀ b, K b → b < w.heap.size) := hK
 have hx63 : xs.length ≤ 8796093022208 := by omega
 have hcap : xs.length ≤ c0 := hcp _ _ _ rfl
 clear hp hK hby hcp
 go_enter Tryz.func26, Tryz.ntmps26
 go_wp2_with fail
 go_loopg [7] xs.length (fun gf s7 wx => ∃ (i : Nat), s7 = .int .i64 i ∧ i ≤ xs.length ∧ xs.length ≤ i + gf ∧ Hid (Below w.heap.size w wx) ∧ Hid ((xs.take i).Nodup))
 case atStart => exact ⟨0, rfl, by omega, by omega, Below.refl _ _, by show List.Nodup _; simp⟩
 case round =>
  obtain ⟨i, rfl, hi1, hgf, HB, HN⟩ := hrel
  by_cases hi : i < xs.length
  ·obtain ⟨g', rfl⟩ : ∃ g', gk = g' + 1 := ⟨gk - 1, by omega⟩
   obtain ⟨b, o, rfl, hKb, hc⟩ := HP.out (by omega)
   obtain ⟨cs, hcl, hcell, hrel1⟩ := hc i hi
   obtain ⟨⟨x1, x2⟩, hy⟩ : ∃ y, xs[i] = y := ⟨_, rfl⟩
   have HTK : Hid (xs.take (i + 1) = xs.take i ++ [(x1, x2)]) := by show _ = _; rw [← hy]; exact List.take_succ_eq_append_getElem hi
   rw [hy] at hrel1
   have e := hrel1
   unfold rQid at e
   subst e
   have k0 : wr.cell? ⟨b, o + i * 2, none⟩ = some (.int .u64 x1) := by
    rw [HB.out.cell (p := ⟨b, _, none⟩) (HKK.out _ hKb)]; exact hcell 0 _ rfl
   have k1 : wr.cell? ⟨b, o + i * 2 + 1, none⟩ = some (.int .u64 x2) := by
    rw [HB.out.cell (p := ⟨b, _, none⟩) (HKK.out _ hKb)]; exact hcell 1 _ rfl
   have HC : Hid (∀ V, Below w.heap.size w V → Calls Tryz.prog 25 #[.slice (some ⟨b, o, none⟩) i c0, .agg #[.int .u64 x1, .int .u64 x2]] V fun e w' => e = .returned (.bool (decide ((x1, x2) ∈ xs.take i))) ∧ Below V.heap.size V w') := fun V hb => by
    have hlen : (xs.take i).length = i := by simp; omega
    refine qcontains_any (x1, x2) _ (xs.take i) K V ⟨some ⟨b, o, none⟩, c0, by rw [hlen], by rw [hlen]; omega, fun _ => ⟨b, o, rfl, hKb, fun j hj => ?_⟩⟩ (fun b hk => Nat.lt_of_lt_of_le (HKK.out b hk) hb.size)
    obtain ⟨cs, h1, h2, h3⟩ := hc j (by omega)
    refine ⟨cs, h1, fun k u hu => ?_, ?_⟩
    ·rw [hb.cell (p := ⟨b, _, none⟩) (HKK.out _ hKb)]; exact h2 k u hu
    ·simpa [rQid] using h3
   have z0 : (0 : Int) ≤ (i : Int) := by omega
   have z1' : (i : Int) < (xs.length : Int) := by omega
   clear hc hcell hy hKb hcl hrel1
   have z2 : (i : Int) ≤ (c0 : Int) := by omega
   obtain ⟨W0, hW0⟩ : ∃ W0, wr.alloc (.cells #[.int .u64 x1, .int .u64 x2] 27) = W0 := ⟨_, rfl⟩
   have hb0 : Below wr.heap.size wr W0 := by rw [← hW0]; exact (Below.refl _ _).alloc (Nat.le_refl _) _
   have hg0 : W0.heap[wr.heap.size]? = some (.cells #[.int .u64 x1, .int .u64 x2] 27 (0, 0)) := by rw [← hW0]; exact heap_alloc_new wr _
   have HB0 : Hid (Below w.heap.size w W0) := HB.out.trans (hb0.mono HB.out.size)
   have HG0 : Hid (W0.heap[wr.heap.size]? = some (.cells #[.int .u64 x1, .int .u64 x2] 27 (0, 0))) := hg0
   have hlt : wr.heap.size < W0.heap.size := (Array.getElem?_eq_some_iff.1 hg0).1
   have HK0 : Hid (∀ p : LaterS W0.heap.size W0, p.w.heap[wr.heap.size]? = some (.cells #[.int .u64 x1, .int .u64 x2] 27 (0, 0))) := fun p => by rw [p.h.block _ hlt]; exact hg0
   have cS : Hid (∀ p : LaterS W0.heap.size W0, Calls Tryz.prog 25 #[.slice (some ⟨b, o, none⟩) i c0, .agg #[.int .u64 x1, .int .u64 x2]] p.w fun e w' => e = .returned (.bool (decide ((x1, x2) ∈ xs.take i))) ∧ Below p.w.heap.size p.w w') := fun p => HC.out p.w (HB0.out.trans (p.h.mono HB0.out.size))
   clear hb0 hg0 hlt HC HG0
   go_wp2_with fail
   clear k0 k1
   clear hW0
   have m0 := fun p => cell_of_row (k := 0) (HK0.out p) rfl
   have m1 := fun p => cell_of_row (k := 1) (HK0.out p) rfl
   have inhL := laterInh
   refine wp_region_laterS mixedOnS (by kernel_rfl) ?_
   repeat (go_big_quiet_step ((go_at_call 25; exact calls_laterS (cS.out _))))
   refine wpQuiet_nil ?_
   intro w2 hw'
   obtain ⟨⟨wq, hwq⟩, hw''⟩ := hw'
   have e2 : w2 = wq := hw''
   subst e2
   clear hw''
   have HB2 : Hid (Below w.heap.size w w2) := HB0.out.trans (hwq.mono HB0.out.size)
   clear hwq m0 m1 HK0 cS
   cases hpy : decide ((x1, x2) ∈ xs.take i) with
   | true =>
    have HA : Hid ((!decide xs.Nodup) = true) := by
     show _ = _
     rw [Bool.not_eq_true', decide_eq_false_iff_not]
     intro hnd
     have h1 : (xs.take (i + 1)).Nodup := hnd.sublist (List.take_sublist _ _)
     rw [HTK.out, List.nodup_append] at h1
     exact h1.2.2 _ (of_decide_eq_true hpy) _ (List.mem_singleton.2 rfl) rfl
    clear hpy
    go_wp2_with fail
    go_ret
    exact ⟨by rw [HA.out]; rfl, HB2.out⟩
   | false =>
    have HN2 : Hid ((xs.take (i + 1)).Nodup) := by
     show List.Nodup _
     rw [HTK.out, List.nodup_append]
     refine ⟨HN.out, by simp, fun a ha b hb e => ?_⟩
     rw [List.mem_singleton.1 hb] at e
     subst e
     exact of_decide_eq_false hpy ha
    clear hpy
    go_wp2_with fail
    go_roundg g'
    case measure => omega
    case rel => exact ⟨i + 1, by go_num, by omega, by omega, HB2, HN2⟩
  ·have z1 : ¬ (i : Int) < (xs.length : Int) := by omega
   have HA : Hid ((!decide xs.Nodup) = false) := by
    show _ = _
    have := HN.out
    rw [List.take_of_length_le (by omega)] at this
    simp [this]
   clear HN
   go_wp2_with fail
   go_ret
   exact ⟨by rw [HA.out]; rfl, HB.out⟩
/-- What CheckWindow tells. -/
def winE (xs : List (Int × Int)) : Int := if 16 < xs.length ∨ ¬ xs.Nodup then 6 else 0
set_option maxRecDepth 100000 in
set_option maxHeartbeats 4000000 in
theorem checkWindow_any (v : Value) (xs : List (Int × Int)) (K : Nat → Prop) (w : World) (h : ListIs rQid 2 16 K w v xs) (hK : ∀ b, K b → b < w.heap.size) (hcp : CapIs v) :
  Calls Tryz.prog 15 #[.agg #[v]] w fun e w' => e = .returned (.int .i64 (winE xs)) ∧ Below w.heap.size w w' := by
 have C := hid (fun V (hb : Below w.heap.size w V) => hasTwice_any v xs K V (h.mono mQid (fun _ h => h) (kept_of hK hb)) (fun b hk => Nat.lt_of_lt_of_le (hK b hk) hb.size) hcp)
 obtain ⟨q0, c0, rfl, -, -⟩ := h
 clear hK hcp
 obtain ⟨W0, hW0⟩ : ∃ W0, w.alloc (.cells #[.slice q0 xs.length c0] 24) = W0 := ⟨_, rfl⟩
 have hb0 : Below w.heap.size w W0 := by rw [← hW0]; exact (Below.refl _ _).alloc (Nat.le_refl _) _
 have hg0 : W0.heap[w.heap.size]? = some (.cells #[.slice q0 xs.length c0] 24 (0, 0)) := by rw [← hW0]; exact heap_alloc_new w _
 have CC := hid (C.out W0 hb0)
 have HB0 : Hid (Below w.heap.size w W0) := hb0
 have k1 := cell_of_row (k := 0) hg0 rfl
 clear C hb0 hg0
 by_cases h16 : 16 < xs.length
 ·have z : (16 : Int) < (xs.length : Int) := by omega
  have HE : Hid (winE xs = 6) := by show _ = _; unfold winE; rw [if_pos (Or.inl h16)]
  clear h16 CC
  go_enter Tryz.func15, Tryz.ntmps15
  go_wp2_with fail
  go_ret
  exact ⟨by rw [HE.out]; rfl, HB0.out⟩
 ·have z : ¬ (16 : Int) < (xs.length : Int) := by omega
  obtain ⟨r, hr⟩ : ∃ r, (!decide xs.Nodup) = r := ⟨_, rfl⟩
  rw [hr] at CC
  have HE : Hid (winE xs = if r = true then 6 else 0) := by
   show _ = _
   unfold winE
   rw [← hr]
   by_cases hn : xs.Nodup <;> simp [hn, h16]
  clear h16 hr
  go_enter Tryz.func15, Tryz.ntmps15
  go_wp2_with fail
  refine CC.out.mono ?_
  rintro e w1 ⟨rfl, hb⟩
  have HB : Hid (Below w.heap.size w w1) := HB0.out.trans (hb.mono HB0.out.size)
  clear hb CC
  cases r with
  | true =>
   go_wp2_with fail
   go_ret
   exact ⟨by rw [HE.out]; rfl, HB.out⟩
  | false =>
   go_wp2_with fail
   go_ret
   exact ⟨by rw [HE.out]; rfl, HB.out⟩
end Go.Proofs.YtajomnfeicfdlaaGreatDoor
/- Put's closure, and slices.IndexFunc with it. -/
namespace Go.Proofs.YtajomnfeicfdlaaGreatDoor
open Go.Shelf Go.RowKit Go.Lib
set_option linter.unusedVariables false
set_option linter.unusedSimpArgs false
attribute [local go_sem ↓] Go.wp_at_zero Go.wp_at_succ
/-- A block that holds one. -/
def BoxQ (W : World) (ba : Nat) (y : Int × Int) : Prop := W.heap[ba]? = some (.cells #[.int .u64 y.1, .int .u64 y.2] 27 (0, 0))
theorem BoxQ.lt {W : World} {ba : Nat} {y : Int × Int} (h : BoxQ W ba y) : ba < W.heap.size := (Array.getElem?_eq_some_iff.1 h).1
theorem BoxQ.below {W W' : World} {ba : Nat} {y : Int × Int} {n : Nat} (h : BoxQ W ba y) (hn : ba < n) (hb : Below n W W') : BoxQ W' ba y := by
 unfold BoxQ; rw [hb.block _ hn]; exact h
set_option maxRecDepth 100000 in
set_option maxHeartbeats 4000000 in
theorem isIt_any (ba : Nat) (y x : Int × Int) (w : World) (hx : BoxQ w ba y) :
  Calls Tryz.prog 22 #[.agg #[.int .u64 x.1, .int .u64 x.2], .pointer (some ⟨ba, 0, none⟩)] w fun e w' => e = .returned (.bool (decide (x = y))) ∧ Below w.heap.size w w' := by
 obtain ⟨x1, x2⟩ := x
 obtain ⟨y1, y2⟩ := y
 obtain ⟨W0, hW0⟩ : ∃ W0, w.alloc (.cells #[.int .u64 x1, .int .u64 x2] 27) = W0 := ⟨_, rfl⟩
 have hb0 : Below w.heap.size w W0 := by rw [← hW0]; exact (Below.refl _ _).alloc (Nat.le_refl _) _
 have hg0 : W0.heap[w.heap.size]? = some (.cells #[.int .u64 x1, .int .u64 x2] 27 (0, 0)) := by rw [← hW0]; exact heap_alloc_new w _
 have hgy : BoxQ W0 ba (y1, y2) := hx.below hx.lt hb0
 have HB0 : Hid (Below w.heap.size w W0) := hb0
 have k0 := cell_of_row (k := 0) hg0 rfl
 have k1 := cell_of_row (k := 1) hg0 rfl
 have k2 := cell_of_row (k := 0) hgy rfl
 have k3 := cell_of_row (k := 1) hgy rfl
 have EQ := eql_qid x1 x2 y1 y2
 obtain ⟨r, hr⟩ : ∃ r, decide ((x1, x2) = (y1, y2)) = r := ⟨_, rfl⟩
 rw [hr] at EQ
 show Calls _ _ _ _ fun e w' => e = .returned (.bool (decide ((x1, x2) = (y1, y2)))) ∧ _
 rw [hr]
 clear hb0 hg0 hgy hx hr
 go_enter Tryz.func22, Tryz.ntmps22
 go_wp2_with fail
 go_ret
 exact ⟨rfl, HB0.out⟩
set_option maxRecDepth 100000 in
set_option maxHeartbeats 4000000 in
theorem qfind_any (ba : Nat) (y : Int × Int) (v : Value) (xs : List (Int × Int)) (K : Nat → Prop) (w : World) (h : ListIs rQid 2 16 K w v xs) (hK : ∀ b, K b → b < w.heap.size) (hx : BoxQ w ba y)
  (eg : ∀ args w, (callFunc 22 args).run Tryz.prog w = .ok (.enter 22 args) w) :
  Calls Tryz.prog 37 #[v, .func (.func 22) #[] #[.pointer (some ⟨ba, 0, none⟩)]] w fun e w' => ∃ k : Int, e = .returned (.int .i64 k) ∧ ((∃ j : Nat, k = (j : Int) ∧ j < xs.length ∧ y ∉ xs.take j ∧ xs[j]? = some y) ∨ (k = -1 ∧ y ∉ xs)) ∧ Below w.heap.size w w' := by
 obtain ⟨q0, c0, rfl, hby, hp⟩ := h
 obtain ⟨y1, y2⟩ := y
 have HP : Hid (0 < xs.length → ∃ b o, q0 = some ⟨b, o, none⟩ ∧ K b ∧ ∀ (j : Nat) (h : j < xs.length), ∃ cs, cs.length = 2 ∧ (∀ (i : Nat) (u : Value), cs[i]? = some u → w.cell? ⟨b, o + j * 2 + i, none⟩ = some u) ∧ rQid K w cs xs[j]) := hp
 have HKK : Hid (∀ b, K b → b < w.heap.size) := hK
 have HX : Hid (BoxQ w ba (y1, y2)) := hx
 have hx63 : xs.length ≤ 8796093022208 := by omega
 clear hp hK hby hx
 go_enter Tryz.func37, Tryz.ntmps37
 go_wp2_with fail
 go_loopg [8] xs.length (fun gf s8 wx => ∃ (i : Nat), s8 = .int .i64 i ∧ i ≤ xs.length ∧ xs.length ≤ i + gf ∧ Hid (Below w.heap.size w wx) ∧ Hid ((y1, y2) ∉ xs.take i))
 case atStart => exact ⟨0, rfl, by omega, by omega, Below.refl _ _, fun hx => by simp at hx⟩
 case round =>
  obtain ⟨i, rfl, hi1, hgf, HB, HN⟩ := hrel
  by_cases hi : i < xs.length
  ·obtain ⟨g', rfl⟩ : ∃ g', gk = g' + 1 := ⟨gk - 1, by omega⟩
   obtain ⟨b, o, rfl, hKb, hc⟩ := HP.out (by omega)
   obtain ⟨cs, hcl, hcell, hrel1⟩ := hc i hi
   obtain ⟨⟨x1, x2⟩, hy⟩ : ∃ y, xs[i] = y := ⟨_, rfl⟩
   have HTK : Hid (xs.take (i + 1) = xs.take i ++ [(x1, x2)]) := by show _ = _; rw [← hy]; exact List.take_succ_eq_append_getElem hi
   have HME : Hid (xs[i]? = some (x1, x2)) := by show _ = _; rw [List.getElem?_eq_getElem hi, hy]
   rw [hy] at hrel1
   have e := hrel1
   unfold rQid at e
   subst e
   have k0 : wr.cell? ⟨b, o + i * 2, none⟩ = some (.int .u64 x1) := by
    rw [HB.out.cell (p := ⟨b, _, none⟩) (HKK.out _ hKb)]; exact hcell 0 _ rfl
   have k1 : wr.cell? ⟨b, o + i * 2 + 1, none⟩ = some (.int .u64 x2) := by
    rw [HB.out.cell (p := ⟨b, _, none⟩) (HKK.out _ hKb)]; exact hcell 1 _ rfl
   have CC := hid (isIt_any ba (y1, y2) (x1, x2) wr (HX.out.below HX.out.lt HB.out))
   have z0 : (0 : Int) ≤ (i : Int) := by omega
   have z1' : (i : Int) < (xs.length : Int) := by omega
   clear hc hcell hy hKb hcl hrel1
   go_wp2_with fail
   refine CC.out.mono ?_
   rintro e w3 ⟨rfl, hb3⟩
   have HB3 : Hid (Below w.heap.size w w3) := HB.out.trans (hb3.mono HB.out.size)
   clear hb3 CC HB k0 k1
   cases hpy : decide ((x1, x2) = (y1, y2)) with
   | true =>
    have HA : Hid ((x1, x2) = (y1, y2)) := by show _ = _; exact of_decide_eq_true hpy
    clear hpy
    go_wp2_with fail
    go_ret
    exact ⟨_, rfl, .inl ⟨i, rfl, hi, HN.out, by rw [← HA.out]; exact HME.out⟩, HB3.out⟩
   | false =>
    have HN2 : Hid ((y1, y2) ∉ xs.take (i + 1)) := fun hx => by
     rw [HTK.out] at hx
     rcases List.mem_append.1 hx with hx | hx
     ·exact HN.out hx
     ·exact of_decide_eq_false hpy (List.mem_singleton.1 hx).symm
    clear hpy
    go_wp2_with fail
    go_roundg g'
    case measure => omega
    case rel => exact ⟨i + 1, by go_num, by omega, by omega, HB3, HN2⟩
  ·have z1 : ¬ (i : Int) < (xs.length : Int) := by omega
   have HA : Hid ((y1, y2) ∉ xs) := by
    have := HN.out
    rwa [List.take_of_length_le (by omega)] at this
   clear HN
   go_wp2_with fail
   go_ret
   exact ⟨_, rfl, .inr ⟨rfl, HA.out⟩, HB.out⟩
theorem qbox (w : World) (x : Int × Int) : ∃ W1, w.alloc (.cells #[.int .u64 x.1, .int .u64 x.2] 27) = W1 ∧ Below w.heap.size w W1 ∧ BoxQ W1 w.heap.size x := ⟨_, rfl, (Below.refl _ _).alloc (Nat.le_refl _) _, heap_alloc_new w _⟩
theorem BoxQ.c0 {W : World} {b : Nat} {x : Int × Int} (h : BoxQ W b x) : W.cell? ⟨b, 0, none⟩ = some (.int .u64 x.1) := cell_of_row (k := 0) h rfl
theorem BoxQ.c1 {W : World} {b : Nat} {x : Int × Int} (h : BoxQ W b x) : W.cell? ⟨b, 1, none⟩ = some (.int .u64 x.2) := cell_of_row (k := 1) h rfl
/-- The cells of one of a list. -/
theorem qat {K : Nat → Prop} {w : World} {q : Option Addr} {n c : Nat} {xs : List (Int × Int)} (h : ListIs rQid 2 16 K w (.slice q n c) xs) (i : Nat) (hi : i < xs.length) : ∃ b o x1 x2, q = some ⟨b, o, none⟩ ∧ K b ∧ xs[i] = (x1, x2) ∧ w.cell? ⟨b, o + i * 2, none⟩ = some (.int .u64 x1) ∧ w.cell? ⟨b, o + i * 2 + 1, none⟩ = some (.int .u64 x2) := by
 obtain ⟨q', c', e, _, hp⟩ := h
 obtain ⟨b, o, rfl, hKb, hc⟩ := hp (by omega)
 cases e
 obtain ⟨cs, _, hcell, hr⟩ := hc i hi
 unfold rQid at hr
 subst hr
 exact ⟨b, o, _, _, rfl, hKb, rfl, hcell 0 _ rfl, hcell 1 _ rfl⟩
theorem qlen {K : Nat → Prop} {w : World} {q : Option Addr} {n c : Nat} {xs : List (Int × Int)} (h : ListIs rQid 2 16 K w (.slice q n c) xs) : n = xs.length ∧ xs.length * 16 ≤ 140737488355328 := by
 obtain ⟨q', c', e, h2, _⟩ := h
 cases e
 exact ⟨rfl, h2⟩
end Go.Proofs.YtajomnfeicfdlaaGreatDoor
/- slices.Clone of the window's. -/
namespace Go.Proofs.YtajomnfeicfdlaaGreatDoor
open Go.Shelf Go.RowKit Go.Lib
set_option linter.unusedVariables false
set_option linter.unusedSimpArgs false
attribute [local go_sem ↓] Go.wp_at_zero Go.wp_at_succ
/-- The cells of a list of these. -/
def qcells (xs : List (Int × Int)) : List Value := xs.flatMap fun x => [.int .u64 x.1, .int .u64 x.2]
theorem qcells_cons (x : Int × Int) (xs : List (Int × Int)) : qcells (x :: xs) = .int .u64 x.1 :: .int .u64 x.2 :: qcells xs := by simp [qcells]
theorem qcells_append (xs ys : List (Int × Int)) : qcells (xs ++ ys) = qcells xs ++ qcells ys := by simp [qcells]
theorem qcells_len (xs : List (Int × Int)) : (qcells xs).length = xs.length * 2 := by
 induction xs with
 | nil => rfl
 | cons x xs ih => rw [qcells_cons, List.length_cons, List.length_cons, ih, List.length_cons]; omega
theorem qcells_at (xs : List (Int × Int)) (j : Nat) (h : j < xs.length) : (qcells xs)[j * 2]? = some (.int .u64 xs[j].1) ∧ (qcells xs)[j * 2 + 1]? = some (.int .u64 xs[j].2) := by
 induction xs generalizing j with
 | nil => simp at h
 | cons x xs ih =>
  cases j with
  | zero => simp [qcells_cons]
  | succ j =>
   have := ih j (by simpa using h)
   rw [qcells_cons]
   rw [show (j + 1) * 2 = j * 2 + 1 + 1 by omega]
   simpa using this
theorem qcells_one (xs : List (Int × Int)) : ∀ u ∈ qcells xs, u.oneCell' = true := fun u hu => by
 unfold qcells at hu
 rw [List.mem_flatMap] at hu
 obtain ⟨x, _, hx⟩ := hu
 simp only [List.mem_cons, List.not_mem_nil, or_false] at hx
 rcases hx with rfl | rfl <;> rfl
theorem info27 : ∃ i0, Tryz.prog.info? 27 = some i0 ∧ i0.zero = some (.agg #[.int .u64 0, .int .u64 0]) ∧ i0.size = 2 ∧ i0.bytes = 16 := by
 have h1 : (Tryz.prog.info? 27).bind (·.zero) = some (.agg #[.int .u64 0, .int .u64 0]) := by kernel_rfl
 have h2 : (Tryz.prog.info? 27).map (·.size) = some 2 := by kernel_rfl
 have h3 : (Tryz.prog.info? 27).map (·.bytes) = some 16 := by kernel_rfl
 generalize Tryz.prog.info? 27 = i at *
 cases i with
 | none => cases h1
 | some i => exact ⟨i, rfl, h1, Option.some.inj h2, Option.some.inj h3⟩
theorem qlist_cells {K : Nat → Prop} {w : World} {ad : Addr} {n c : Nat} {xs : List (Int × Int)} (h : ListIs rQid 2 16 K w (.slice (some ad) n c) xs) : ∀ j u, (qcells xs)[j]? = some u → w.cell? (ad.add j) = some u ∧ K ad.block := fun j u hu => by
 obtain ⟨q, c', e, hby, hp⟩ := h
 have hj := (List.getElem?_eq_some_iff.1 hu).1
 rw [qcells_len] at hj
 obtain ⟨b, o, rfl, hK, hc⟩ := hp (by omega)
 cases e
 rw [addr_add]
 obtain ⟨cs, _, h2, h3⟩ := hc (j / 2) (by omega)
 unfold rQid at h3
 subst h3
 obtain ⟨q1, q2⟩ := qcells_at xs (j / 2) (by omega)
 refine ⟨?_, hK⟩
 by_cases e : j % 2 = 0
 ·rw [show j = j / 2 * 2 by omega, q1] at hu
  have := h2 0 _ rfl
  rw [← hu, ← this]; congr 2; omega
 ·rw [show j = j / 2 * 2 + 1 by omega, q2] at hu
  have := h2 1 _ rfl
  rw [← hu, ← this]; congr 2; omega
set_option maxRecDepth 100000 in
set_option maxHeartbeats 2000000 in
theorem qclone_any (v : Value) (xs : List (Int × Int)) (K : Nat → Prop) (w : World) (h : ListIs rQid 2 16 K w v xs) (hK : ∀ b, K b → b < w.heap.size) :
  Calls Tryz.prog 24 #[v] w fun e w' => ∃ u, e = .returned u ∧ w'.ownsRow w.heap.size 27 2 u xs.length (qcells xs) ∧ Below w.heap.size w w' := by
 have h' := h
 obtain ⟨q, c, rfl, hby, hp⟩ := h'
 have hbl : Hid (xs.length * 16 ≤ 140737488355328) := hby
 cases q with
 | none =>
  have hn : xs = [] := by
   cases xs with
   | nil => rfl
   | cons x xs => obtain ⟨_, _, e, _⟩ := hp (by simp); cases e
  subst hn
  have hq : (binOp .eql 22 (.slice none 0 c) (.slice none 0 0)).run Tryz.prog w = .ok (.bool true) w := Lib.run_eql_slice_nil (h := Tryz.underlying22) ..
  clear hp h hK hby
  go_enter Tryz.func24, Tryz.ntmps24
  go_wp2_with fail
  go_ret
  exact ⟨_, rfl, World.ownsRow_nil _ _ _ _, Below.refl _ _⟩
 | some ad =>
  obtain ⟨i0, hi0, hz0', hz1', hz2'⟩ := info27
  have hown : (w.alloc (.cells #[] 27)).ownsRow w.heap.size 27 2 (.slice (some ⟨w.heap.size, 0, none⟩) 0 0) 0 [] := ⟨rfl, .inr ⟨w.heap.size, 0, #[], rfl, Nat.le_refl _, heap_alloc_new w _, Nat.le_refl _, Nat.zero_le _, rfl, rfl⟩⟩
  have HC : Hid (∀ j u, (qcells xs)[j]? = some u → (w.alloc (.cells #[] 27)).cell? (ad.add j) = some u) := fun j u hu => by
   obtain ⟨h1, h2⟩ := qlist_cells h j u hu
   rw [World.cell?_of_block (w := w) (heap_alloc_old w _ ?_)]
   ·exact h1
   ·have : (ad.add j).block = ad.block := by unfold Addr.add; split <;> rfl
    rw [this]; exact hK _ h2
  have hq : (binOp .eql 22 (.slice (some ad) xs.length c) (.slice none 0 0)).run Tryz.prog w = .ok (.bool false) w := Lib.run_eql_slice_nil (h := Tryz.underlying22) ..
  have HL : Hid ((qcells xs).length = xs.length * 2) := qcells_len xs
  clear hp h hK hby
  go_enter Tryz.func24, Tryz.ntmps24
  go_wp2_with (at_builtin; refine wpList_append_own _ rfl _ _ 22 rfl w.heap.size 27 i0 (.agg #[.int .u64 0, .int .u64 0]) 2 16 Tryz.underlying22 hi0 hz0' hz1' hz2' rfl (by decide) _ 0 [] rfl hown ad xs.length c (qcells xs) rfl HL.out HC.out (qcells_one xs) (by have := hbl.out; unfold maxLen; omega) (by have := hbl.out; omega) (by simp) ?_; intro v' w3 hown' hgrow3 hnil3)
  go_ret
  refine ⟨_, rfl, ?_, ?_⟩
  ·simpa using hown'
  ·exact Below.grown ((Below.refl _ _).alloc (Nat.le_refl _) _) hgrow3 (by simp) (fun j hj => by have := (hown.lt _ hj).1; omega)
end Go.Proofs.YtajomnfeicfdlaaGreatDoor
/- slices.DeleteFunc of the window's, with Put's closure. -/
namespace Go.Proofs.YtajomnfeicfdlaaGreatDoor
open Go.Shelf Go.RowKit Go.Lib
set_option linter.unusedVariables false
set_option linter.unusedSimpArgs false
attribute [local go_sem ↓] Go.wp_at_zero Go.wp_at_succ
theorem run_clear_two (w : World) (ty : TypeId) (b o n c : Nat) (hn : 0 < n)
  (hc : ∀ j, j < n * 2 → (w.cell? ⟨b, o + j, none⟩).isSome = true) (hf : ∀ j, j < n * 2 → w.frozen? ⟨b, o + j, none⟩ = false) :
  (Builtin.clear_ #[22] ty #[.slice (some ⟨b, o, none⟩) n c]).run Tryz.prog w = .ok (.tuple #[]) (w.setCells b o (List.replicate (n * 2) (.int .u64 0))) := by
 obtain ⟨i0, hi0, hz0, hz1, hz2⟩ := info27
 have hv : ∀ w, (zeroValue 27).run Tryz.prog w = .ok (.agg #[.int .u64 0, .int .u64 0]) w := fun w => by simp [zeroValue, typeInfo, hi0, hz0]
 have hzc : (Builtin.zeroCells (#[.int .u64 0, .int .u64 0] : Array Value) n).toList = List.replicate (n * 2) (.int .u64 0) := by
  simp [Builtin.zeroCells]
  apply List.ext_getElem
  ·simp
  ·intro i h1 h2
   have hm : i % 2 = 0 ∨ i % 2 = 1 := by omega
   rcases hm with hm | hm <;> simp [hm]
 have hst := run_storeCells_cells (P := Tryz.prog) b o (List.replicate (n * 2) (.int .u64 0)) 0 w (by simpa using hc) (by simpa using hf) (by intro v hv'; rw [List.eq_of_mem_replicate hv']; rfl)
 simp only [Nat.add_zero] at hst
 obtain ⟨m, rfl⟩ : ∃ m, n = m + 1 := ⟨n - 1, by omega⟩
 have ha : (Value.agg #[.int .u64 0, .int .u64 0]).cells = #[.int .u64 0, .int .u64 0] := rfl
 simp [Builtin.clear_, run_underlying Tryz.underlying22, hv, ha, hzc, hst]
/-- The list without one. -/
def dropQ (y : Int × Int) (xs : List (Int × Int)) : List (Int × Int) := xs.filter (fun x => !decide (x = y))
theorem dropQ_of {y : Int × Int} {xs : List (Int × Int)} (h : y ∉ xs) : dropQ y xs = xs := by
 unfold dropQ
 rw [List.filter_eq_self]
 intro x hx
 have : x ≠ y := fun e => h (e ▸ hx)
 simp [this]
theorem dropQ_step (y : Int × Int) (xs : List (Int × Int)) (j : Nat) (h : j < xs.length) : dropQ y (xs.take (j + 1)) = if xs[j] = y then dropQ y (xs.take j) else dropQ y (xs.take j) ++ [xs[j]] := by
 unfold dropQ
 rw [List.take_succ_eq_append_getElem h, List.filter_append]
 split <;> simp_all
/-- A list that is being thinned out. -/
def DelQ (w0 : World) (g cap : Nat) (xs ls : List (Int × Int)) (j : Nat) (W : World) : Prop :=
 Kept (fun k => k < w0.heap.size ∧ k ≠ g) w0 W ∧ ∃ cur : Array Value, W.heap[g]? = some (.cells cur 27 (0, 0)) ∧ cur.size = cap * 2 ∧ (∀ k, k < ls.length * 2 → cur[k]? = (qcells ls)[k]?) ∧ ∀ k, j * 2 ≤ k → k < xs.length * 2 → cur[k]? = (qcells xs)[k]?
theorem DelQ.next {w0 W : World} {g cap : Nat} {xs ls : List (Int × Int)} {j : Nat} (h : DelQ w0 g cap xs ls j W) : DelQ w0 g cap xs ls (j + 1) W := by
 obtain ⟨hb, cur, hg, hc, h1, h2⟩ := h
 exact ⟨hb, cur, hg, hc, h1, fun k hk hk2 => h2 k (by omega) hk2⟩
theorem DelQ.keep {w0 W W' : World} {g cap : Nat} {xs ls : List (Int × Int)} {j : Nat} (h : DelQ w0 g cap xs ls j W) (hb' : Below W.heap.size W W') : DelQ w0 g cap xs ls j W' := by
 obtain ⟨hb, cur, hg, r⟩ := h
 exact ⟨hb.trans (Kept.of_below hb' (fun k hk => Nat.lt_of_lt_of_le hk.1 hb.size)), cur, by rw [hb'.block _ (Array.getElem?_eq_some_iff.1 hg).1]; exact hg, r⟩
theorem DelQ.step {w0 W : World} {g cap : Nat} {xs ls : List (Int × Int)} {j : Nat} (h : DelQ w0 g cap xs ls j W) (hl : ls.length < j) (hj : j < xs.length) (hx : xs.length ≤ cap) (z : Int × Int) :
  DelQ w0 g cap xs (ls ++ [z]) (j + 1) ((W.setCell ⟨g, ls.length * 2, none⟩ (.int .u64 z.1)).setCell ⟨g, ls.length * 2 + 1, none⟩ (.int .u64 z.2)) := by
 obtain ⟨hb, cur, hg, hc, h1, h2⟩ := h
 have g2 := heap_setCell_same W g (ls.length * 2) cur 27 (.int .u64 z.1) hg
 have g3 := heap_setCell_same _ g (ls.length * 2 + 1) _ 27 (.int .u64 z.2) g2
 refine ⟨⟨hb.os, hb.tape, hb.output, by simp [World.setCell]; exact hb.size, fun k hk => ?_⟩, _, g3, by simpa using hc, fun k hk => ?_, fun k hk hk2 => ?_⟩
 ·rw [heap_setCell_other _ ⟨g, _, none⟩ k _ hk.2, heap_setCell_other _ ⟨g, _, none⟩ k _ hk.2]; exact hb.block k hk
 ·rw [qcells_append]
  have hq : (qcells ls).length = ls.length * 2 := qcells_len ls
  by_cases e : k = ls.length * 2 + 1
  ·subst e
   rw [Array.getElem?_setIfInBounds_self_of_lt (by simp; omega), List.getElem?_append_right (by omega), hq]
   simp [qcells_cons]
  ·rw [Array.getElem?_setIfInBounds_ne (by omega)]
   by_cases e2 : k = ls.length * 2
   ·subst e2
    rw [Array.getElem?_setIfInBounds_self_of_lt (by omega), List.getElem?_append_right (by omega), hq]
    simp [qcells_cons]
   ·have hk' : k < ls.length * 2 := by simp at hk; omega
    rw [Array.getElem?_setIfInBounds_ne (by omega), List.getElem?_append_left (by omega)]
    exact h1 k hk'
 ·rw [Array.getElem?_setIfInBounds_ne (by omega), Array.getElem?_setIfInBounds_ne (by omega)]; exact h2 k (by omega) hk2
theorem own_listQ {W : World} {B : Nat} {u : Value} {xs : List (Int × Int)} (h : W.ownsRow B 27 2 u xs.length (qcells xs)) (h16 : xs.length * 16 ≤ 140737488355328) : ListIs rQid 2 16 (fun b => b < W.heap.size) W u xs := by
 obtain ⟨hl, ⟨rfl, hn⟩ | ⟨g, cap, cur, rfl, hbg, hg, hnc, hcm, hcs, htake⟩⟩ := h
 ·exact ⟨none, 0, by rw [hn], h16, fun h => by omega⟩
 ·refine ⟨_, cap, rfl, h16, fun _ => ⟨g, 0, rfl, (Array.getElem?_eq_some_iff.1 hg).1, fun j hj => ⟨_, rfl, fun i u hu => ?_, rfl⟩⟩⟩
  obtain ⟨q1, q2⟩ := qcells_at xs j hj
  have hcur : ∀ k, k < xs.length * 2 → cur[k]? = (qcells xs)[k]? := fun k hk => by
   rw [← htake, List.getElem?_take_of_lt hk]; simp
  match i, hu with
  | 0, hu => cases hu; exact cell_of_row hg (by rw [Nat.zero_add, Nat.add_zero, hcur _ (by omega)]; exact q1)
  | 1, hu => cases hu; exact cell_of_row hg (by rw [Nat.zero_add, hcur _ (by omega)]; exact q2)
  | i + 2, hu => simp at hu
end Go.Proofs.YtajomnfeicfdlaaGreatDoor
/- What slices.DeleteFunc of the window's answers. -/
namespace Go.Proofs.YtajomnfeicfdlaaGreatDoor
open Go.Shelf Go.RowKit Go.Lib
set_option linter.unusedVariables false
set_option linter.unusedSimpArgs false
attribute [local go_sem ↓] Go.wp_at_zero Go.wp_at_succ
theorem setCells_row (g : Nat) : ∀ (vs : List Value) (o : Nat) (w : World) (cur : Array Value), w.heap[g]? = some (.cells cur 27 (0, 0)) → ∃ cur2, (w.setCells g o vs).heap[g]? = some (.cells cur2 27 (0, 0)) ∧ cur2.size = cur.size ∧ ∀ k, k < o → cur2[k]? = cur[k]?
 | [], o, w, cur, h => ⟨cur, h, rfl, fun _ _ => rfl⟩
 | v :: vs, o, w, cur, h => by
  obtain ⟨c2, a1, a2, a3⟩ := setCells_row g vs (o + 1) _ _ (heap_setCell_same w g o cur 27 v h)
  exact ⟨c2, a1, by simpa using a2, fun k hk => by rw [a3 k (by omega), Array.getElem?_setIfInBounds_ne (by omega)]⟩
set_option maxRecDepth 100000 in
set_option maxHeartbeats 4000000 in
theorem qdelete_any (ba : Nat) (y : Int × Int) (u : Value) (xs : List (Int × Int)) (B : Nat) (w : World) (hx : BoxQ w ba y) (ho : w.ownsRow B 27 2 u xs.length (qcells xs)) (hub : u.ownBlock ≠ some ba) (h16 : xs.length ≤ 1000)
  (eg : ∀ args w, (callFunc 22 args).run Tryz.prog w = .ok (.enter 22 args) w) :
  Calls Tryz.prog 23 #[u, .func (.func 22) #[] #[.pointer (some ⟨ba, 0, none⟩)]] w fun e w' => ∃ u', e = .returned u' ∧ w'.ownsRow B 27 2 u' (dropQ y xs).length (qcells (dropQ y xs)) ∧ u'.ownBlock = u.ownBlock ∧ Kept (fun k => k < w.heap.size ∧ u.ownBlock ≠ some k) w w' := by
 have HX : Hid (BoxQ w ba y) := hx
 have C1 := hid (qfind_any ba y u xs _ w (own_listQ ho (by omega)) (fun b h => h) hx eg)
 obtain ⟨hl, ⟨rfl, hn⟩ | ⟨g, cap, cur, rfl, hbg, hg, hnc, hcm, hcs, htake⟩⟩ := ho
 ·have hxs : xs = [] := List.eq_nil_of_length_eq_zero hn
  subst hxs
  clear hx hl hn
  go_enter Tryz.func23, Tryz.ntmps23
  go_wp2_with fail
  refine C1.out.mono ?_
  rintro e w1 ⟨k, rfl, ⟨j, _, hj, _⟩ | ⟨rfl, _⟩, hb1⟩
  ·simp at hj
  ·have HB1 : Hid (Below w.heap.size w w1) := hb1
   clear hb1 C1
   go_wp2_with fail
   go_ret
   exact ⟨_, rfl, World.ownsRow_nil _ _ _ _, rfl, Kept.of_below HB1.out (fun k h => h.1)⟩
 ·have hcur : ∀ k, k < xs.length * 2 → cur[k]? = (qcells xs)[k]? := fun k hk => by
   rw [← htake, List.getElem?_take_of_lt hk]; simp
  have HJ0 : Hid (∀ (w1 : World), Below w.heap.size w w1 → ∀ k, k < xs.length → DelQ w g cap xs (xs.take k) (k + 1) w1) := fun w1 hb1 k hk => by
   refine DelQ.keep ⟨Kept.refl _ _, cur, hg, hcs, fun m hm => ?_, fun m _ hm => hcur m hm⟩ hb1
   have e : xs = xs.take k ++ xs.drop k := (List.take_append_drop k xs).symm
   have hlk : (xs.take k).length = k := by simp; omega
   rw [hlk] at hm
   rw [hcur m (by omega)]
   conv => lhs; rw [e, qcells_append]
   rw [List.getElem?_append_left (by rw [qcells_len, hlk]; exact hm)]
  have HOk : Hid (∀ (w1 : World), Below w.heap.size w w1 → w1.ownsRow B 27 2 (.slice (some ⟨g, 0, none⟩) xs.length cap) xs.length (qcells xs)) := fun w1 hb1 =>
   ⟨hl, .inr ⟨g, cap, cur, rfl, hbg, by rw [hb1.block _ (Array.getElem?_eq_some_iff.1 hg).1]; exact hg, hnc, hcm, hcs, htake⟩⟩
  have hcm' : Hid (cap ≤ maxLen) := hcm
  have hgu : Hid (ba ≠ g) := fun e => hub (by rw [e]; rfl)
  have HBG : Hid (B ≤ g) := hbg
  have hcapI : (cap : Int) ≤ 9223372036854775807 := by unfold maxLen at hcm; omega
  clear hcur htake hx hl hg hcs hcm hub hbg
  go_enter Tryz.func23, Tryz.ntmps23
  go_wp2_with fail
  refine C1.out.mono ?_
  rintro e w1 ⟨k, rfl, ⟨j0, rfl, hj0, hn0, hat0⟩ | ⟨rfl, hn0⟩, hb1⟩
  ·have hd : dropQ y (xs.take (j0 + 1)) = xs.take j0 := by
    rw [dropQ_step y xs j0 hj0, if_pos (by rw [List.getElem?_eq_getElem hj0] at hat0; exact Option.some.inj hat0), dropQ_of hn0]
   have HJ : Hid (DelQ w g cap xs (dropQ y (xs.take (j0 + 1))) (j0 + 1) w1) := by rw [hd]; exact HJ0.out w1 hb1 j0 hj0
   have HLk : Hid ((dropQ y (xs.take (j0 + 1))).length = j0) := by show _ = _; rw [hd]; simp; omega
   have hk1 : ((j0 : Int) == -1) = false := beq_eq_false_iff_ne.2 (by omega)
   clear hb1 C1 HJ0 HOk hd hn0 hat0
   go_wp2_with fail
   go_loopg [5, 6] xs.length (fun gf s5 s6 wx => ∃ i j : Nat, s5 = .int .i64 i ∧ s6 = .int .i64 j ∧ i < j ∧ j ≤ xs.length ∧ xs.length ≤ j + gf ∧ Hid ((dropQ y (xs.take j)).length = i) ∧ Hid (DelQ w g cap xs (dropQ y (xs.take j)) j wx))
   case atStart => exact ⟨j0, j0 + 1, rfl, by go_num, by omega, by omega, by omega, HLk, HJ⟩
   case round =>
    clear HJ HLk
    obtain ⟨i, j, rfl, rfl, hij, hj1, hgf, HLi, HJ⟩ := hrel
    have hz0 : (0 : Int) ≤ (j : Int) := by omega
    have hz2 : (0 : Int) ≤ (i : Int) := by omega
    have hz3 : (i : Int) < (xs.length : Int) := by omega
    have hz4 : (i : Int) ≤ (cap : Int) := by omega
    by_cases hj : j < xs.length
    ·obtain ⟨g', rfl⟩ : ∃ g', gk = g' + 1 := ⟨gk - 1, by omega⟩
     have hst := dropQ_step y xs j hj
     have q0 := (qcells_at xs j hj).1
     have q1 := (qcells_at xs j hj).2
     obtain ⟨⟨x1, x2⟩, hz⟩ : ∃ z, xs[j] = z := ⟨_, rfl⟩
     rw [hz] at hst q0 q1
     obtain ⟨c0, c1⟩ : wr.cell? ⟨g, j * 2, none⟩ = some (.int .u64 x1) ∧ wr.cell? ⟨g, j * 2 + 1, none⟩ = some (.int .u64 x2) := by
      obtain ⟨_, cur', hg', hc', _, h2'⟩ := HJ.out
      exact ⟨cell_of_row hg' (by rw [h2' _ (by omega) (by omega)]; exact q0), cell_of_row hg' (by rw [h2' _ (by omega) (by omega)]; exact q1)⟩
     obtain ⟨W0, hW0⟩ : ∃ W0, wr.alloc (.cells #[.int .u64 x1, .int .u64 x2] 27) = W0 := ⟨_, rfl⟩
     have hb0 : Below wr.heap.size wr W0 := by rw [← hW0]; exact (Below.refl _ _).alloc (Nat.le_refl _) _
     have hg0 : W0.heap[wr.heap.size]? = some (.cells #[.int .u64 x1, .int .u64 x2] 27 (0, 0)) := by rw [← hW0]; exact heap_alloc_new wr _
     have hlt : wr.heap.size < W0.heap.size := (Array.getElem?_eq_some_iff.1 hg0).1
     have k0 := cell_of_row (k := 0) hg0 rfl
     have k1 := cell_of_row (k := 1) hg0 rfl
     have HK0 : Hid (∀ V, Below W0.heap.size W0 V → V.heap[wr.heap.size]? = some (.cells #[.int .u64 x1, .int .u64 x2] 27 (0, 0))) := fun V hV => by rw [hV.block _ hlt]; exact hg0
     have HJ1 : Hid (DelQ w g cap xs (dropQ y (xs.take j)) j W0) := HJ.out.keep hb0
     have C2 := hid (isIt_any ba y (x1, x2) W0 ((HJ1.out.1.block ba ⟨HX.out.lt, hgu.out⟩).trans HX.out))
     have hz1 : (j : Int) < (xs.length : Int) := by omega
     clear hz hb0 hg0 hlt q0 q1 HJ
     cases ha : decide ((x1, x2) = y)
     ·rw [ha] at C2
      rw [if_neg (of_decide_eq_false ha)] at hst
      have HL2 : Hid ((dropQ y (xs.take (j + 1))).length = i + 1) := by show _ = _; rw [hst, List.length_append, HLi.out]; rfl
      have HST : Hid (dropQ y (xs.take (j + 1)) = dropQ y (xs.take j) ++ [(x1, x2)]) := hst
      clear hst ha
      go_wp2_with fail
      clear c0 c1 k0 k1 hW0
      refine C2.out.mono ?_
      rintro e w2 ⟨rfl, hb2⟩
      have HJ2 : Hid (DelQ w g cap xs (dropQ y (xs.take j)) j w2) := HJ1.out.keep hb2
      have k0 := cell_of_row (k := 0) (HK0.out w2 hb2) rfl
      have k1 := cell_of_row (k := 1) (HK0.out w2 hb2) rfl
      obtain ⟨o0, o1, ci0, ci1, cf0, cf1⟩ : ∃ o0 o1, w2.cell? ⟨g, i * 2, none⟩ = some o0 ∧ w2.cell? ⟨g, i * 2 + 1, none⟩ = some o1 ∧ w2.frozen? ⟨g, i * 2, none⟩ = false ∧ w2.frozen? ⟨g, i * 2 + 1, none⟩ = false := by
       obtain ⟨_, cur', hg', hc', _, _⟩ := HJ2.out
       exact ⟨cur'[i * 2]'(by omega), cur'[i * 2 + 1]'(by omega), by simp [World.cell?, hg', show i * 2 < cur'.size by omega], by simp [World.cell?, hg', show i * 2 + 1 < cur'.size by omega], frozen_zero hg' _, frozen_zero hg' _⟩
      have HJ3 : Hid (DelQ w g cap xs (dropQ y (xs.take (j + 1))) (j + 1) ((w2.setCell ⟨g, i * 2, none⟩ (.int .u64 x1)).setCell ⟨g, i * 2 + 1, none⟩ (.int .u64 x2))) := by
       rw [HST.out]
       have := HJ2.out.step (by rw [HLi.out]; exact hij) hj hnc (x1, x2)
       rwa [HLi.out] at this
      clear C2 hb2 HJ1 HK0 HLi HST HJ2
      go_wp2_with fail
      go_roundg g'
      case measure => omega
      case rel => exact ⟨i + 1, j + 1, by go_num, by go_num, by omega, by omega, by omega, HL2, HJ3⟩
     ·rw [ha] at C2
      rw [if_pos (of_decide_eq_true ha)] at hst
      have HL2 : Hid ((dropQ y (xs.take (j + 1))).length = i) := by show _ = _; rw [hst]; exact HLi.out
      have HST : Hid (dropQ y (xs.take (j + 1)) = dropQ y (xs.take j)) := hst
      clear hst ha HLi
      go_wp2_with fail
      clear c0 c1 k0 k1 hW0
      refine C2.out.mono ?_
      rintro e w2 ⟨rfl, hb2⟩
      have HJ2 : Hid (DelQ w g cap xs (dropQ y (xs.take (j + 1))) (j + 1) w2) := by rw [HST.out]; exact (HJ1.out.keep hb2).next
      clear C2 hb2 HJ1 HK0
      go_wp2_with fail
      go_roundg g'
      case measure => omega
      case rel => exact ⟨i, j + 1, rfl, by go_num, by omega, by omega, by omega, HL2, HJ2⟩
    ·have hend : j = xs.length := by omega
     have hz1 : ¬ (j : Int) < (xs.length : Int) := by omega
     obtain ⟨hBj, cur', hg', hc', h1', _⟩ := HJ.out
     have hcl : ∀ ty, (Builtin.clear_ #[22] ty #[.slice (some ⟨g, i * 2, none⟩) (xs.length - i) (cap - i)]).run Tryz.prog wr = .ok (.tuple #[]) (wr.setCells g (i * 2) (List.replicate ((xs.length - i) * 2) (.int .u64 0))) :=
      fun ty => run_clear_two wr ty g (i * 2) _ _ (by omega) (fun m hm => by simp [World.cell?, hg', show i * 2 + m < cur'.size by omega]) (fun m hm => frozen_zero hg' _)
     have HB5 : Hid (Kept (fun k => k < w.heap.size ∧ (Value.slice (some ⟨g, 0, none⟩) xs.length cap).ownBlock ≠ some k) w (wr.setCells g (i * 2) (List.replicate ((xs.length - i) * 2) (.int .u64 0)))) := by
      obtain ⟨a1, a2, a3, a4, a5⟩ := setCells_any g (List.replicate ((xs.length - i) * 2) (.int .u64 0)) (i * 2) wr
      refine ⟨a2.trans hBj.os, a3.trans hBj.tape, a4.trans hBj.output, by have := hBj.size; omega, fun k hk => ?_⟩
      have hkg : k ≠ g := fun e => hk.2 (by rw [e]; rfl)
      exact (a5 k hkg).trans (hBj.block k ⟨hk.1, hkg⟩)
     have HF : Hid ((wr.setCells g (i * 2) (List.replicate ((xs.length - i) * 2) (.int .u64 0))).ownsRow B 27 2 (.slice (some ⟨g, 0, none⟩) i cap) (dropQ y xs).length (qcells (dropQ y xs))) := by
      have hli : (dropQ y xs).length = i := by have := HLi.out; rwa [hend, List.take_length] at this
      rw [hend, List.take_length] at h1'
      obtain ⟨cur2, e1, e2, e3⟩ := setCells_row g (List.replicate ((xs.length - i) * 2) (.int .u64 0)) (i * 2) wr cur' hg'
      refine ⟨qcells_len _, .inr ⟨g, cap, cur2, by rw [hli], HBG.out, e1, by omega, hcm'.out, by omega, ?_⟩⟩
      apply List.ext_getElem?
      intro k
      by_cases hk : k < i * 2
      ·rw [List.getElem?_take_of_lt (by omega), Array.getElem?_toList, e3 k hk]
       exact h1' k (by omega)
      ·rw [List.getElem?_eq_none (by rw [List.length_take]; omega), List.getElem?_eq_none (by rw [qcells_len]; omega)]
     clear HJ hBj hg' hc' h1' hend
     go_wp2_with fail
     go_ret
     exact ⟨_, rfl, HF.out, rfl, HB5.out⟩
  ·have HB1 : Hid (Below w.heap.size w w1) := hb1
   have HF : Hid (dropQ y xs = xs) := dropQ_of hn0
   have HO1 := hid (HOk.out w1 hb1)
   clear hb1 C1 HJ0 HOk hn0
   go_wp2_with fail
   go_ret
   exact ⟨_, rfl, by rw [HF.out]; exact HO1.out, rfl, Kept.of_below HB1.out (fun k h => h.1)⟩
end Go.Proofs.YtajomnfeicfdlaaGreatDoor
/- What a window is once one is put. -/
namespace Go.Proofs.YtajomnfeicfdlaaGreatDoor
open Go.Shelf Go.RowKit Go.Lib
set_option linter.unusedVariables false
set_option linter.unusedSimpArgs false
/-- What a window is once y is put. -/
def putQ (y : Int × Int) (xs : List (Int × Int)) : List (Int × Int) := if 16 < (dropQ y xs ++ [y]).length then (dropQ y xs ++ [y]).tail else dropQ y xs ++ [y]
theorem dropQ_len (y : Int × Int) (xs : List (Int × Int)) : (dropQ y xs).length ≤ xs.length := List.length_filter_le _ _
theorem dropQ_not (y : Int × Int) (xs : List (Int × Int)) : y ∉ dropQ y xs := fun h => by
 unfold dropQ at h
 rw [List.mem_filter] at h
 simp at h
theorem dropQ_nodup {y : Int × Int} {xs : List (Int × Int)} (h : xs.Nodup) : (dropQ y xs).Nodup := h.sublist List.filter_sublist
theorem dropQ_append (y : Int × Int) (xs ys : List (Int × Int)) : dropQ y (xs ++ ys) = dropQ y xs ++ dropQ y ys := by simp [dropQ]
theorem dropQ_cons_ne {y x : Int × Int} (h : x ≠ y) (xs : List (Int × Int)) : dropQ y (x :: xs) = x :: dropQ y xs := by simp [dropQ, h]
/-- Put stands last, behind some of what was there. -/
theorem putQ_last (y : Int × Int) (xs : List (Int × Int)) : ∃ s, putQ y xs = s ++ [y] ∧ (s = dropQ y xs ∨ s = (dropQ y xs).tail) := by
 unfold putQ
 by_cases h : 16 < (dropQ y xs ++ [y]).length
 ·rw [if_pos h]
  generalize dropQ y xs = l at *
  cases l with
  | nil => simp at h
  | cons a l => exact ⟨l, rfl, .inr rfl⟩
 ·rw [if_neg h]
  exact ⟨_, rfl, .inl rfl⟩
theorem putQ_not {y : Int × Int} {xs s : List (Int × Int)} (h : s = dropQ y xs ∨ s = (dropQ y xs).tail) : y ∉ s := by
 rcases h with rfl | rfl
 ·exact dropQ_not y xs
 ·exact fun h => dropQ_not y xs (List.mem_of_mem_tail h)
theorem putQ_nodup {y : Int × Int} {xs : List (Int × Int)} (h : xs.Nodup) : (putQ y xs).Nodup := by
 obtain ⟨s, e, hs⟩ := putQ_last y xs
 rw [e, List.nodup_append]
 refine ⟨?_, by simp, fun a ha b hb e => ?_⟩
 ·rcases hs with rfl | rfl
  ·exact dropQ_nodup h
  ·exact (dropQ_nodup h).sublist (List.tail_sublist _)
 ·rw [List.mem_singleton.1 hb] at e
  subst e
  exact putQ_not hs ha
theorem putQ_len {y : Int × Int} {xs : List (Int × Int)} (h : xs.length ≤ 16) : (putQ y xs).length ≤ 16 := by
 have := dropQ_len y xs
 unfold putQ
 split
 ·simp; omega
 ·omega
theorem putQ_mem (y : Int × Int) (xs : List (Int × Int)) : y ∈ putQ y xs := by
 obtain ⟨s, e, _⟩ := putQ_last y xs
 rw [e]; simp
theorem putQ_good {y : Int × Int} {xs : List (Int × Int)} (h : winE xs = 0) : winE (putQ y xs) = 0 ∧ xs.length ≤ 16 ∧ (putQ y xs).length ≤ 16 := by
 unfold winE at h ⊢
 by_cases h1 : 16 < xs.length ∨ ¬ xs.Nodup
 ·rw [if_pos h1] at h; omega
 ·have h2 : xs.length ≤ 16 := by omega
  have h3 : xs.Nodup := by
   by_cases e : xs.Nodup
   ·exact e
   ·exact absurd (Or.inr e) h1
  have h4 := putQ_len (y := y) h2
  refine ⟨if_neg ?_, h2, h4⟩
  rintro (e | e)
  ·omega
  ·exact e (putQ_nodup h3)
theorem putQ_twice {y : Int × Int} {xs : List (Int × Int)} (h : xs.length ≤ 16) : putQ y (putQ y xs) = putQ y xs := by
 have hl := putQ_len (y := y) h
 obtain ⟨s, e, hs⟩ := putQ_last y xs
 have hn := putQ_not hs
 rw [e] at hl ⊢
 unfold putQ
 have hd : dropQ y (s ++ [y]) = s := by
  rw [dropQ_append, dropQ_of hn]
  simp [dropQ]
 rw [hd, if_neg (by omega)]
/-- One that stands with at most n behind it. -/
def Late (x : Int × Int) (n : Nat) (xs : List (Int × Int)) : Prop := ∃ a b, xs = a ++ x :: b ∧ b.length ≤ n
theorem Late.mem {x : Int × Int} {n : Nat} {xs : List (Int × Int)} (h : Late x n xs) : x ∈ xs := by
 obtain ⟨a, b, rfl, _⟩ := h; simp
theorem Late.of (y : Int × Int) (n : Nat) (xs : List (Int × Int)) : Late y n (putQ y xs) := by
 obtain ⟨s, e, _⟩ := putQ_last y xs
 exact ⟨s, [], e, Nat.zero_le _⟩
theorem Late.put {x : Int × Int} {n : Nat} {xs : List (Int × Int)} (h : Late x n xs) (hn : n < 15) (y : Int × Int) : Late x (n + 1) (putQ y xs) := by
 by_cases e : y = x
 ·subst e; exact Late.of _ _ _
 ·obtain ⟨a, b, rfl, hb⟩ := h
  have hd : dropQ y (a ++ x :: b) ++ [y] = dropQ y a ++ x :: (dropQ y b ++ [y]) := by
   rw [dropQ_append, dropQ_cons_ne (fun h => e h.symm)]; simp
  have hl := dropQ_len y b
  unfold putQ
  rw [hd]
  split
  ·rename_i h16
   cases hA : dropQ y a with
   | nil => rw [hA] at h16; simp at h16; omega
   | cons a0 a1 => exact ⟨a1, dropQ y b ++ [y], rfl, by simp; omega⟩
  ·exact ⟨dropQ y a, dropQ y b ++ [y], rfl, by simp; omega⟩
end Go.Proofs.YtajomnfeicfdlaaGreatDoor
/- What Put answers. -/
namespace Go.Proofs.YtajomnfeicfdlaaGreatDoor
open Go.Shelf Go.RowKit Go.Lib
set_option linter.unusedVariables false
set_option linter.unusedSimpArgs false
attribute [local go_sem ↓] Go.wp_at_zero Go.wp_at_succ
/-- What is there behind a Put, whatever was. -/
def putR (y : Int × Int) (xs : List (Int × Int)) : List (Int × Int) := if winE xs = 0 then putQ y xs else []
theorem enters22 : ∀ args w, (callFunc 22 args).run Tryz.prog w = .ok (.enter 22 args) w := enters_of Tryz.func22 (by kernel_rfl) rfl
/-- One is put behind a row of one's own. -/
theorem push_one {X : World} {B sb : Nat} {u : Value} {ls : List (Int × Int)} {y : Int × Int} (ho : X.ownsRow B 27 2 u ls.length (qcells ls)) (hs : BoxQ X sb y) (hl : ls.length ≤ 1000) (hB : B ≤ X.heap.size) :
  ∃ g c X2, (Builtin.append_ #[22, 22] 22 #[u, .slice (some ⟨sb, 0, none⟩) 1 1]).run Tryz.prog X = .ok (.slice (some ⟨g, 0, none⟩) (ls.length + 1) c) X2 ∧ X2.ownsRow B 27 2 (.slice (some ⟨g, 0, none⟩) (ls.length + 1) c) (ls ++ [y]).length (qcells (ls ++ [y])) ∧ X.heap.size ≤ X2.heap.size ∧ ls.length + 1 ≤ c ∧ (∀ n w0, Below n w0 X → n ≤ B → n ≤ X.heap.size → Below n w0 X2) := by
 obtain ⟨j0, hj0, hj1, hj2, hj3⟩ := info27
 obtain ⟨v', X2, e, ho2, h5, _, h6⟩ := run_append_own_at (P := Tryz.prog) X B 22 22 27 j0 (.agg #[.int .u64 0, .int .u64 0]) 2 16 Tryz.underlying22 hj0 hj1 hj2 hj3 rfl (by decide) u ls.length (qcells ls) ho ⟨sb, 0, none⟩ 1 1 (qcells [y]) (by rw [qcells_len]; rfl) (fun j v hv => by
  rw [addr_add, Nat.zero_add]
  exact cell_of_row hs (by simpa [qcells] using hv)) (qcells_one _) (by unfold maxLen; omega) (by omega) hB
 have hl2 : (ls ++ [y]).length = ls.length + 1 := by simp
 rw [← qcells_append, ← hl2] at ho2
 obtain ⟨hl3, ⟨rfl, hn⟩ | ⟨g, cap, cur, rfl, hbg, hg, hnc, hcm, hcs, htake⟩⟩ := id ho2
 ·rw [hl2] at hn; omega
 ·rw [hl2] at e hnc ho2 ⊢
  refine ⟨g, cap, X2, e, by rw [← hl2] at ho2 ⊢; exact ho2, h5.size, hnc, fun n w0 hb hn hn2 => ⟨h5.os.trans hb.os, h5.tape.trans hb.tape, h5.output.trans hb.output, Nat.le_trans hb.size h5.size, fun k hk => ?_⟩⟩
  rw [h5.block k (by omega) (fun e => ?_)]
  ·exact hb.block k hk
  ·have := (ho.lt k e.symm).1; omega
theorem own_cap {W : World} {B : Nat} {q : Option Addr} {n c m : Nat} {cells : List Value} (h : W.ownsRow B 27 2 (.slice q n c) m cells) : n ≤ c := by
 obtain ⟨_, ⟨e, _⟩ | ⟨g, cap, cur, e, _, _, h, _⟩⟩ := h
 ·cases e; exact Nat.le_refl _
 ·cases e; exact h
/-- A row of one's own, and what stands behind its first, as lists. -/
theorem own_from {W : World} {B n : Nat} {g m c : Nat} {xs : List (Int × Int)} (h : W.ownsRow B 27 2 (.slice (some ⟨g, 0, none⟩) m c) xs.length (qcells xs)) (hn : n ≤ B) (hl : xs.length ≤ 1000) : ListIs rQid 2 16 (From n W) W (.slice (some ⟨g, 0, none⟩) xs.length c) xs ∧ ListIs rQid 2 16 (From n W) W (.slice (some ⟨g, 2, none⟩) (xs.length - 1) (c - 1)) xs.tail := by
 obtain ⟨_, ⟨e, _⟩ | ⟨g', cap, cur, e, hbg, hg, hnc, hcm, hcs, htake⟩⟩ := h
 ·cases e
 ·cases e
  have hF : From n W g := ⟨by omega, (Array.getElem?_eq_some_iff.1 hg).1⟩
  have hcur : ∀ k, k < xs.length * 2 → cur[k]? = (qcells xs)[k]? := fun k hk => by
   rw [← htake, List.getElem?_take_of_lt hk]; simp
  have hcell : ∀ j (hj : j < xs.length), W.cell? ⟨g, j * 2, none⟩ = some (.int .u64 xs[j].1) ∧ W.cell? ⟨g, j * 2 + 1, none⟩ = some (.int .u64 xs[j].2) := fun j hj => by
   obtain ⟨q1, q2⟩ := qcells_at xs j hj
   exact ⟨cell_of_row hg (by rw [hcur _ (by omega)]; exact q1), cell_of_row hg (by rw [hcur _ (by omega)]; exact q2)⟩
  refine ⟨⟨_, c, rfl, by omega, fun _ => ⟨g, 0, rfl, hF, fun j hj => ⟨_, rfl, fun i u hu => ?_, rfl⟩⟩⟩, ⟨some ⟨g, 2, none⟩, c - 1, by rw [List.length_tail], by rw [List.length_tail]; omega, fun _ => ⟨g, 2, rfl, hF, fun j hj => ⟨_, rfl, fun i u hu => ?_, rfl⟩⟩⟩⟩
  ·obtain ⟨q1, q2⟩ := hcell j hj
   match i, hu with
   | 0, hu => cases hu; rw [Nat.zero_add, Nat.add_zero]; exact q1
   | 1, hu => cases hu; rw [Nat.zero_add]; exact q2
   | i + 2, hu => simp at hu
  ·rw [List.length_tail] at hj
   obtain ⟨q1, q2⟩ := hcell (j + 1) (by omega)
   have ht : xs.tail[j]'(by rw [List.length_tail]; exact hj) = xs[j + 1]'(by omega) := by rw [List.getElem_tail]
   match i, hu with
   | 0, hu => cases hu; rw [ht, show 2 + j * 2 + 0 = (j + 1) * 2 by omega]; exact q1
   | 1, hu => cases hu; rw [ht, show 2 + j * 2 + 1 = (j + 1) * 2 + 1 by omega]; exact q2
   | i + 2, hu => simp at hu
theorem own_alloc {W : World} {B n : Nat} {u : Value} {cells : List Value} (h : W.ownsRow B 27 2 u n cells) {W' : World} (hb : Below W.heap.size W W') : W'.ownsRow B 27 2 u n cells := by
 obtain ⟨hl, ⟨rfl, hn⟩ | ⟨g, cap, cur, rfl, h1, hg, r⟩⟩ := h
 ·exact ⟨hl, .inl ⟨rfl, hn⟩⟩
 ·exact ⟨hl, .inr ⟨g, cap, cur, rfl, h1, by rw [hb.block _ (Array.getElem?_eq_some_iff.1 hg).1]; exact hg, r⟩⟩
theorem q_fill (y1 y2 : Int) : Instr.fill (fun i => some (i * 2, 2)) ((Array.range (1 * 2)).map ((Value.agg #[.int .u64 0, .int .u64 0]).cells[· % (Value.agg #[.int .u64 0, .int .u64 0]).cells.size]!)) [(0, .agg #[.int .u64 y1, .int .u64 y2])] = some #[.int .u64 y1, .int .u64 y2] := by kernel_rfl
/-- Putting, up to the list. -/
def PutJ (W0 : World) (y : Int × Int) (xs : List (Int × Int)) (W : World) (v : Value) : Prop :=
 ∃ g c, v = .slice (some ⟨g, 0, none⟩) ((dropQ y xs).length + 1) c ∧ W.ownsRow W0.heap.size 27 2 v (dropQ y xs ++ [y]).length (qcells (dropQ y xs ++ [y])) ∧ (dropQ y xs).length + 1 ≤ c ∧ Below W0.heap.size W0 W

/-- The answer is put into its box. -/
theorem put_fin {w W0 X : World} {y : Int × Int} {xs : List (Int × Int)} {g c n9 : Nat} (ho : X.ownsRow W0.heap.size 27 2 (.slice (some ⟨g, 0, none⟩) ((dropQ y xs).length + 1) c) (dropQ y xs ++ [y]).length (qcells (dropQ y xs ++ [y]))) (hx : X.heap[w.heap.size + 1 + 1]? = some (.cells #[.slice none 0 0] 24 (0, 0))) (hb : Below w.heap.size w X) (hs : W0.heap.size = w.heap.size + 3) (hd : (dropQ y xs).length ≤ 16) (hn : (dropQ y xs).length + 1 = n9) (s : Value)
  (hv : (16 < n9 ∧ s = .slice (some ⟨g, 2, none⟩) (n9 - 1) (c - 1)) ∨ (¬ 16 < n9 ∧ s = .slice (some ⟨g, 0, none⟩) n9 c)) :
  ListIs rQid 2 16 (From w.heap.size (X.setCell ⟨w.heap.size + 1 + 1, 0, none⟩ s)) (X.setCell ⟨w.heap.size + 1 + 1, 0, none⟩ s) s (putQ y xs) ∧ Below w.heap.size w (X.setCell ⟨w.heap.size + 1 + 1, 0, none⟩ s) ∧ (X.setCell ⟨w.heap.size + 1 + 1, 0, none⟩ s).cell? ⟨w.heap.size + 1 + 1, 0, none⟩ = some s := by
 obtain ⟨hlA, hlB⟩ := own_from (n := W0.heap.size) ho (Nat.le_refl _) (by simp; omega)
 obtain ⟨a1, a2, a3, a4, a5⟩ := setCell_any X (w.heap.size + 1 + 1) 0 s
 have hl : (dropQ y xs ++ [y]).length = n9 := by simp; omega
 rw [hl] at hlA hlB
 have hk : Kept (From W0.heap.size X) X (X.setCell ⟨w.heap.size + 1 + 1, 0, none⟩ s) := ⟨a2, a3, a4, by omega, fun b hb => a5 b (by have := hb.1; omega)⟩
 have hF : ∀ b, From W0.heap.size X b → From w.heap.size (X.setCell ⟨w.heap.size + 1 + 1, 0, none⟩ s) b := fun b hb => ⟨by have := hb.1; omega, by rw [a1]; exact hb.2⟩
 refine ⟨?_, ⟨a2.trans hb.os, a3.trans hb.tape, a4.trans hb.output, by have := hb.size; omega, fun b h => by rw [a5 b (by omega)]; exact hb.block b h⟩, ?_⟩
 ·unfold putQ
  rw [hl]
  rcases hv with ⟨h16, rfl⟩ | ⟨h16, rfl⟩
  ·rw [if_pos h16]; exact hlB.mono mQid hF hk
  ·rw [if_neg h16]; exact hlA.mono mQid hF hk
 ·rw [setCell_eq_setRow X _ 0 _ 24 (0, 0) _ hx]; exact cell_of_row (k := 0) (setRow_heap X _ _ _ 24 _ hx) rfl
set_option maxRecDepth 100000 in
set_option maxHeartbeats 8000000 in
theorem put_any (y : Int × Int) (v : Value) (xs : List (Int × Int)) (K : Nat → Prop) (w : World) (h : ListIs rQid 2 16 K w v xs) (hK : ∀ b, K b → b < w.heap.size) (hcp : CapIs v) :
  Calls Tryz.prog 9 #[.agg #[v], .agg #[.int .u64 y.1, .int .u64 y.2]] w fun e w' => ∃ q n c, e = .returned (.tuple #[.agg #[.slice q n c], .int .i64 (winE xs)]) ∧ n ≤ c ∧ ListIs rQid 2 16 (From w.heap.size w') w' (.slice q n c) (putR y xs) ∧ Below w.heap.size w w' := by
 obtain ⟨y1, y2⟩ := y
 obtain ⟨W0, hW0, hb0, hs0, g0, g1, g2⟩ := three_boxes w #[v] #[.int .u64 y1, .int .u64 y2] #[.slice none 0 0] 24 27 24
 have HV : Hid (∀ V, Below W0.heap.size W0 V → V.cell? ⟨w.heap.size, 0, none⟩ = some v ∧ BoxQ V (w.heap.size + 1) (y1, y2) ∧ V.heap[w.heap.size + 1 + 1]? = some (.cells #[.slice none 0 0] 24 (0, 0)) ∧ Below w.heap.size w V ∧ ListIs rQid 2 16 K V v xs ∧ ∀ b, K b → b < V.heap.size) := fun V hb => by
  have hbw : Below w.heap.size w V := hb0.trans (hb.mono hb0.size)
  exact ⟨(hb.cell (p := ⟨w.heap.size, 0, none⟩) (by show w.heap.size < _; omega)).trans (cell_of_row g0 rfl), by show V.heap[_]? = _; rw [hb.block _ (by omega)]; exact g1, by rw [hb.block _ (by omega)]; exact g2, hbw, h.mono mQid (fun _ h => h) (kept_of hK hbw), fun b hk => Nat.lt_of_lt_of_le (hK b hk) hbw.size⟩
 have CW : Hid (Calls Tryz.prog 15 #[.agg #[v]] W0 fun e w' => e = .returned (.int .i64 (winE xs)) ∧ Below W0.heap.size W0 w') := by
  obtain ⟨_, _, _, _, t5, t6⟩ := HV.out W0 (Below.refl _ _)
  exact checkWindow_any v xs K W0 t5 t6 hcp
 obtain ⟨q0, c0, rfl, -, -⟩ := id h
 have r0 := cell_of_row (k := 0) g0 rfl
 have HS0 : Hid (W0.heap.size = w.heap.size + 3) := hs0
 obtain ⟨k, hk⟩ : ∃ k, winE xs = k := ⟨_, rfl⟩
 have HKK : Hid (winE xs = k) := hk
 rw [hk] at CW ⊢
 clear h hK hcp hb0 g0 g1 g2 hk hs0
 go_enter Tryz.func9, Tryz.ntmps9
 go_wp2_with fail
 refine CW.out.mono ?_
 rintro e w1 ⟨rfl, hb1⟩
 have HB1 : Hid (Below W0.heap.size W0 w1) := hb1
 clear hb1 CW
 by_cases hk0 : k = 0
 ·subst hk0
  have HPR : Hid (putR (y1, y2) xs = putQ (y1, y2) xs) := by show _ = _; unfold putR; rw [if_pos HKK.out]
  obtain ⟨_, hx16, _⟩ := putQ_good (y := (y1, y2)) HKK.out
  have HX16 : Hid (xs.length ≤ 16) := hx16
  have HD16 : Hid ((dropQ (y1, y2) xs).length ≤ 16) := Nat.le_trans (dropQ_len _ _) hx16
  clear hx16
  obtain ⟨sd1, sd2⟩ : Below W0.heap.size W0 w1.drew ∧ True := ⟨HB1.out.drew, trivial⟩
  go_wp2_with fail
  refine wp_region_held_drew (S := fun W => W.cell? ⟨w.heap.size, 0, none⟩ = some (.slice q0 xs.length c0) ∧ BoxQ W (w.heap.size + 1) (y1, y2)) (by kernel_rfl) (by obtain ⟨t1, t2, _⟩ := HV.out _ sd1; exact ⟨t1, t2⟩) (fun hHeld => ?_)
  refine wpAnyH_take (i := 0) (v := .pointer (some ⟨w.heap.size, 0, none⟩)) rfl (by kernel_rfl) (by kernel_rfl) (by kernel_rfl) (fun _ _ _ h => h) (.inl ⟨by rfl, fun W hW => by go_simp⟩) hHeld ?_
  simp only [Act.put, List.getElem_toArray, List.getElem_cons_zero, List.getElem_cons_succ, List.setIfInBounds_toArray, List.set_cons_zero, List.set_cons_succ]
  refine wpAnyH_take (i := 1) (v := .slice q0 xs.length c0) rfl (by kernel_rfl) (by kernel_rfl) (by kernel_rfl) (fun _ _ _ h => h) (.inl ⟨by rfl, fun W hW => by have h0 := hW.1; go_simp⟩) hHeld ?_
  simp only [Act.put, List.getElem_toArray, List.getElem_cons_zero, List.getElem_cons_succ, List.setIfInBounds_toArray, List.set_cons_zero, List.set_cons_succ]
  refine wpAnyH_take (i := 3) (v := .func (.func 22) #[] #[.pointer (some ⟨w.heap.size + 1, 0, none⟩)]) rfl (by kernel_rfl) (by kernel_rfl) (by kernel_rfl) (fun _ _ _ h => h) (.inl ⟨by rfl, fun W hW => by go_simp⟩) hHeld ?_
  simp only [Act.put, List.getElem_toArray, List.getElem_cons_zero, List.getElem_cons_succ, List.setIfInBounds_toArray, List.set_cons_zero, List.set_cons_succ]
  refine wpAnyH_take (i := 5) (v := .agg #[.int .u64 y1, .int .u64 y2]) rfl (by kernel_rfl) (by kernel_rfl) (by kernel_rfl) (fun _ _ _ h => h) (.inl ⟨by rfl, fun W hW => by have h0 := hW.2.c0; have h1 := hW.2.c1; go_simp⟩) hHeld ?_
  simp only [Act.put, List.getElem_toArray, List.getElem_cons_zero, List.getElem_cons_succ, List.setIfInBounds_toArray, List.set_cons_zero, List.set_cons_succ]
  obtain ⟨w2, hw2⟩ : ∃ w2, w1.drew = w2 := ⟨_, rfl⟩
  rw [hw2] at hHeld sd1 ⊢
  have HB2 : Hid (Below W0.heap.size W0 w2) := sd1
  clear hw2 sd1 sd2 HB1 r0
  have C1 : Hid (∀ V, Below W0.heap.size W0 V → Calls Tryz.prog 24 #[.slice q0 xs.length c0] V fun e w' => ∃ u, e = .returned u ∧ w'.ownsRow V.heap.size 27 2 u xs.length (qcells xs) ∧ Below V.heap.size V w') := fun V hb => by
   obtain ⟨_, _, _, _, t5, t6⟩ := HV.out V hb
   exact qclone_any _ xs K V t5 t6
  have C2 : Hid (∀ (V : World) (B : Nat) (u : Value), Below W0.heap.size W0 V → W0.heap.size ≤ B → V.ownsRow B 27 2 u xs.length (qcells xs) → Calls Tryz.prog 23 #[u, .func (.func 22) #[] #[.pointer (some ⟨w.heap.size + 1, 0, none⟩)]] V fun e w' => ∃ u', e = .returned u' ∧ w'.ownsRow W0.heap.size 27 2 u' (dropQ (y1, y2) xs).length (qcells (dropQ (y1, y2) xs)) ∧ Below W0.heap.size W0 w' ∧ ∀ k, k < V.heap.size → u.ownBlock ≠ some k → w'.heap[k]? = V.heap[k]?) := fun V B u hb hB ho => by
   obtain ⟨_, t2, _⟩ := HV.out V hb
   have hs0 := HS0.out
   have hlow : ∀ g, u.ownBlock = some g → B ≤ g := fun g hg => (ho.lt g hg).1
   refine (qdelete_any (w.heap.size + 1) (y1, y2) u xs B V t2 ho (fun e => by have := hlow _ e; omega) (by have := HX16.out; omega) enters22).mono ?_
   rintro e w' ⟨u', rfl, h1, h2, h3⟩
   refine ⟨u', rfl, ?_, ⟨h3.os.trans hb.os, h3.tape.trans hb.tape, h3.output.trans hb.output, Nat.le_trans hb.size h3.size, fun k hk => ?_⟩, fun k hk hu => h3.block k ⟨hk, hu⟩⟩
   ·obtain ⟨hl, ⟨rfl, hn⟩ | ⟨g, cap, cur, rfl, q1, q2⟩⟩ := h1
    ·exact ⟨hl, .inl ⟨rfl, hn⟩⟩
    ·exact ⟨hl, .inr ⟨g, cap, cur, rfl, Nat.le_trans hB q1, q2⟩⟩
   ·rw [h3.block k ⟨by have := hb.size; omega, fun e => by have := hlow _ e; omega⟩]; exact hb.block k hk
  have CA : Hid (∀ (X : World) (sb : Nat) (u : Value), Below W0.heap.size W0 X → X.ownsRow W0.heap.size 27 2 u (dropQ (y1, y2) xs).length (qcells (dropQ (y1, y2) xs)) → BoxQ X sb (y1, y2) → ∃ v' X2, (Builtin.append_ #[22, 22] 22 #[u, .slice (some ⟨sb, 0, none⟩) 1 1]).run Tryz.prog X = .ok v' X2 ∧ PutJ W0 (y1, y2) xs X2 v') := fun X sb u hb ho hs => by
   obtain ⟨g, c, X2, e, h1, h2, h3, h4⟩ := push_one ho hs (by have := HD16.out; omega) hb.size
   exact ⟨_, X2, e, g, c, rfl, h1, h3, h4 _ _ hb (Nat.le_refl _) hb.size⟩
  obtain ⟨j0, hj0, hj1, hj2, hj3⟩ := info27
  refine wpAnyH_ready (rs := [2, 6]) (by kernel_rfl) (by simp) ?_
  refine AllReadyH.cons rfl (fun K' hK => ?_) ?_
  ·rw [if_pos (by rfl)]
   go_simp
   go_at_call 24
   refine (C1.out _ HB2.out).mono ?_
   rintro e w3 ⟨u3, rfl, ho3, hbb3⟩
   have hb3 : Below W0.heap.size W0 w3 := Below.trans HB2.out (hbb3.mono (Below.size HB2.out))
   refine hK.out _ _ (by obtain ⟨t1, t2, _⟩ := HV.out _ hb3; exact ⟨t1, t2⟩) (fun hHeld => ?_)
   clear hK K'
   refine wpAnyH_ready (rs := [4, 6]) (by kernel_rfl) (by simp) ?_
   refine AllReadyH.cons rfl (fun K' hK => ?_) ?_
   ·rw [if_pos (by rfl)]
    go_simp
    go_at_call 23
    refine (C2.out _ _ _ hb3 (Below.size HB2.out) ho3).mono ?_
    rintro e w4 ⟨u4, rfl, ho4, hb4, hkk4⟩
    refine hK.out _ _ (by obtain ⟨t1, t2, _⟩ := HV.out _ hb4; exact ⟨t1, t2⟩) (fun hHeld => ?_)
    clear hK K'
    refine wpAnyH_ready (rs := [6]) (by kernel_rfl) (by simp) ?_
    refine AllReadyH.cons rfl (fun K' hK => ?_) AllReadyH.nil
    rw [if_pos (by rfl)]
    obtain ⟨w5, hw5, hbb5, hs5⟩ := qbox (w4) (y1, y2)
    have hb5 : Below W0.heap.size W0 w5 := Below.trans hb4 (hbb5.mono (Below.size hb4))
    refine wp_buildSlice 22 27 1 #[(0, .tmp 21)] rfl #[.int .u64 y1, .int .u64 y2] j0 (.agg #[.int .u64 0, .int .u64 0]) Tryz.underlying22 hj0 hj1 (by rw [hj2]; decide) (by rw [hj2]; decide) (by simp only [List.map_toArray, List.map_cons, List.map_nil]; rw [hj2]; exact q_fill y1 y2) ?_
    simp only [Act.put, List.getElem_toArray, List.getElem_cons_zero, List.getElem_cons_succ, List.setIfInBounds_toArray, List.set_cons_zero, List.set_cons_succ]
    rw [hw5]
    have ho5 := own_alloc ho4 hbb5
    refine hK.out _ _ (by obtain ⟨t1, t2, _⟩ := HV.out _ hb5; exact ⟨t1, t2⟩) (fun hHeld => ?_)
    clear hK K'
    obtain ⟨v9, X9, e9, hj9⟩ := CA.out w5 (w4).heap.size u4 hb5 ho5 hs5
    obtain ⟨g9, c9, rfl, ho9, hc9, hb9⟩ := hj9
    refine wpAnyH_ready (rs := [7]) (by kernel_rfl) (by simp) ?_
    refine AllReadyH.cons rfl (fun K' hK => ?_) AllReadyH.nil
    rw [if_pos (by rfl)]
    refine wp_append_run (.tmp 20) (.tmp 22) 22 22 rfl u4 (.slice (some ⟨(w4).heap.size, 0, none⟩) 1 1) rfl rfl _ _ e9 ?_
    simp only [Act.put, List.getElem_toArray, List.getElem_cons_zero, List.getElem_cons_succ, List.setIfInBounds_toArray, List.set_cons_zero, List.set_cons_succ]
    refine hK.out _ _ (by obtain ⟨t1, t2, _⟩ := HV.out _ hb9; exact ⟨t1, t2⟩) (fun hHeld => ?_)
    clear hK K' e9
    refine wpAnyH_ready (rs := [8]) (by kernel_rfl) (by simp) ?_
    refine AllReadyH.cons rfl (fun K' hK => ?_) AllReadyH.nil
    rw [if_pos (by rfl)]
    go_simp
    refine hK.out _ _ hHeld (fun hHeld => ?_)
    clear hK K'
    refine wpAnyH_done (by kernel_rfl) ?_ _
    clear hHeld
    obtain ⟨-, -, x3, x4, -, -⟩ := HV.out _ hb9
    obtain ⟨n9, hn9⟩ : ∃ n9, (dropQ (y1, y2) xs).length + 1 = n9 := ⟨_, rfl⟩
    have FIN := hid (put_fin ho9 x3 x4 HS0.out HD16.out hn9)
    have g9c := cell_of_row (k := 0) x3 rfl
    have f9c := frozen_zero x3 0
    rw [hn9] at hc9 ⊢
    have zc1 : (n9 : Int) ≤ (c9 : Int) := by omega
    have zc2 : (1 : Int) ≤ (n9 : Int) := by omega
    clear x3 x4 ho9 hb9 hn9
    by_cases hm : 16 < n9
    ·obtain ⟨f1, f2, f3⟩ := FIN.out _ (.inl ⟨hm, rfl⟩)
     have HF : Hid (ListIs rQid 2 16 (From w.heap.size _) _ _ (putQ (y1, y2) xs) ∧ Below w.heap.size w _) := ⟨f1, f2⟩
     have z9 : (16 : Int) < (n9 : Int) := by omega
     have zc3 : (1 : Int) ≤ (c9 : Int) := by omega
     have zc4 : ¬ (c9 = 1) := by omega
     have zc5 : ¬ ((c9 : Int) = 1) := by omega
     have zc6 : n9 - 1 ≤ c9 - 1 := by omega
     clear f1 f2
     go_wp2_with fail
     refine bodyPost_ret (v := .tuple #[.agg #[.slice (some ⟨g9, 2, none⟩) (n9 - 1) (c9 - 1)], .int .i64 0]) (by simp [results, Tryz.results9, go_sem, f3]) rfl ?_
     exact ⟨_, _, _, rfl, zc6, by rw [HPR.out]; exact HF.out.1, HF.out.2⟩
    ·obtain ⟨f1, f2, f3⟩ := FIN.out _ (.inr ⟨hm, rfl⟩)
     have HF : Hid (ListIs rQid 2 16 (From w.heap.size _) _ _ (putQ (y1, y2) xs) ∧ Below w.heap.size w _) := ⟨f1, f2⟩
     have z9 : ¬ (16 : Int) < (n9 : Int) := by omega
     clear f1 f2
     go_wp2_with fail
     refine bodyPost_ret (v := .tuple #[.agg #[.slice (some ⟨g9, 0, none⟩) n9 c9], .int .i64 0]) (by simp [results, Tryz.results9, go_sem, f3]) rfl ?_
     exact ⟨_, _, _, rfl, hc9, by rw [HPR.out]; exact HF.out.1, HF.out.2⟩
   refine AllReadyH.cons rfl (fun K' hK => ?_) AllReadyH.nil
   rw [if_pos (by rfl)]
   obtain ⟨w6, hw6, hbb6, hs6⟩ := qbox (w3) (y1, y2)
   have hb6 : Below W0.heap.size W0 w6 := Below.trans hb3 (hbb6.mono (Below.size hb3))
   refine wp_buildSlice 22 27 1 #[(0, .tmp 21)] rfl #[.int .u64 y1, .int .u64 y2] j0 (.agg #[.int .u64 0, .int .u64 0]) Tryz.underlying22 hj0 hj1 (by rw [hj2]; decide) (by rw [hj2]; decide) (by simp only [List.map_toArray, List.map_cons, List.map_nil]; rw [hj2]; exact q_fill y1 y2) ?_
   simp only [Act.put, List.getElem_toArray, List.getElem_cons_zero, List.getElem_cons_succ, List.setIfInBounds_toArray, List.set_cons_zero, List.set_cons_succ]
   rw [hw6]
   have ho6 := own_alloc ho3 hbb6
   refine hK.out _ _ (by obtain ⟨t1, t2, _⟩ := HV.out _ hb6; exact ⟨t1, t2⟩) (fun hHeld => ?_)
   clear hK K'
   refine wpAnyH_ready (rs := [4]) (by kernel_rfl) (by simp) ?_
   refine AllReadyH.cons rfl (fun K' hK => ?_) AllReadyH.nil
   rw [if_pos (by rfl)]
   go_simp
   go_at_call 23
   refine (C2.out _ _ _ hb6 (Below.size HB2.out) ho6).mono ?_
   rintro e w7 ⟨u7, rfl, ho7, hb7, hkk7⟩
   have hs7 : BoxQ w7 (w3).heap.size (y1, y2) := (hkk7 _ (BoxQ.lt hs6) (fun e => (fun e => absurd ((World.ownsRow.lt ho3 _ e).2) (Nat.lt_irrefl _)) e)).trans hs6
   refine hK.out _ _ (by obtain ⟨t1, t2, _⟩ := HV.out _ hb7; exact ⟨t1, t2⟩) (fun hHeld => ?_)
   clear hK K'
   obtain ⟨v9, X9, e9, hj9⟩ := CA.out w7 (w3).heap.size u7 hb7 ho7 hs7
   obtain ⟨g9, c9, rfl, ho9, hc9, hb9⟩ := hj9
   refine wpAnyH_ready (rs := [7]) (by kernel_rfl) (by simp) ?_
   refine AllReadyH.cons rfl (fun K' hK => ?_) AllReadyH.nil
   rw [if_pos (by rfl)]
   refine wp_append_run (.tmp 20) (.tmp 22) 22 22 rfl u7 (.slice (some ⟨(w3).heap.size, 0, none⟩) 1 1) rfl rfl _ _ e9 ?_
   simp only [Act.put, List.getElem_toArray, List.getElem_cons_zero, List.getElem_cons_succ, List.setIfInBounds_toArray, List.set_cons_zero, List.set_cons_succ]
   refine hK.out _ _ (by obtain ⟨t1, t2, _⟩ := HV.out _ hb9; exact ⟨t1, t2⟩) (fun hHeld => ?_)
   clear hK K' e9
   refine wpAnyH_ready (rs := [8]) (by kernel_rfl) (by simp) ?_
   refine AllReadyH.cons rfl (fun K' hK => ?_) AllReadyH.nil
   rw [if_pos (by rfl)]
   go_simp
   refine hK.out _ _ hHeld (fun hHeld => ?_)
   clear hK K'
   refine wpAnyH_done (by kernel_rfl) ?_ _
   clear hHeld
   obtain ⟨-, -, x3, x4, -, -⟩ := HV.out _ hb9
   obtain ⟨n9, hn9⟩ : ∃ n9, (dropQ (y1, y2) xs).length + 1 = n9 := ⟨_, rfl⟩
   have FIN := hid (put_fin ho9 x3 x4 HS0.out HD16.out hn9)
   have g9c := cell_of_row (k := 0) x3 rfl
   have f9c := frozen_zero x3 0
   rw [hn9] at hc9 ⊢
   have zc1 : (n9 : Int) ≤ (c9 : Int) := by omega
   have zc2 : (1 : Int) ≤ (n9 : Int) := by omega
   clear x3 x4 ho9 hb9 hn9
   by_cases hm : 16 < n9
   ·obtain ⟨f1, f2, f3⟩ := FIN.out _ (.inl ⟨hm, rfl⟩)
    have HF : Hid (ListIs rQid 2 16 (From w.heap.size _) _ _ (putQ (y1, y2) xs) ∧ Below w.heap.size w _) := ⟨f1, f2⟩
    have z9 : (16 : Int) < (n9 : Int) := by omega
    have zc3 : (1 : Int) ≤ (c9 : Int) := by omega
    have zc4 : ¬ (c9 = 1) := by omega
    have zc5 : ¬ ((c9 : Int) = 1) := by omega
    have zc6 : n9 - 1 ≤ c9 - 1 := by omega
    clear f1 f2
    go_wp2_with fail
    refine bodyPost_ret (v := .tuple #[.agg #[.slice (some ⟨g9, 2, none⟩) (n9 - 1) (c9 - 1)], .int .i64 0]) (by simp [results, Tryz.results9, go_sem, f3]) rfl ?_
    exact ⟨_, _, _, rfl, zc6, by rw [HPR.out]; exact HF.out.1, HF.out.2⟩
   ·obtain ⟨f1, f2, f3⟩ := FIN.out _ (.inr ⟨hm, rfl⟩)
    have HF : Hid (ListIs rQid 2 16 (From w.heap.size _) _ _ (putQ (y1, y2) xs) ∧ Below w.heap.size w _) := ⟨f1, f2⟩
    have z9 : ¬ (16 : Int) < (n9 : Int) := by omega
    clear f1 f2
    go_wp2_with fail
    refine bodyPost_ret (v := .tuple #[.agg #[.slice (some ⟨g9, 0, none⟩) n9 c9], .int .i64 0]) (by simp [results, Tryz.results9, go_sem, f3]) rfl ?_
    exact ⟨_, _, _, rfl, hc9, by rw [HPR.out]; exact HF.out.1, HF.out.2⟩
  refine AllReadyH.cons rfl (fun K' hK => ?_) AllReadyH.nil
  rw [if_pos (by rfl)]
  obtain ⟨w8, hw8, hbb8, hs8⟩ := qbox (w2) (y1, y2)
  have hb8 : Below W0.heap.size W0 w8 := Below.trans HB2.out (hbb8.mono (Below.size HB2.out))
  refine wp_buildSlice 22 27 1 #[(0, .tmp 21)] rfl #[.int .u64 y1, .int .u64 y2] j0 (.agg #[.int .u64 0, .int .u64 0]) Tryz.underlying22 hj0 hj1 (by rw [hj2]; decide) (by rw [hj2]; decide) (by simp only [List.map_toArray, List.map_cons, List.map_nil]; rw [hj2]; exact q_fill y1 y2) ?_
  simp only [Act.put, List.getElem_toArray, List.getElem_cons_zero, List.getElem_cons_succ, List.setIfInBounds_toArray, List.set_cons_zero, List.set_cons_succ]
  rw [hw8]
  refine hK.out _ _ (by obtain ⟨t1, t2, _⟩ := HV.out _ hb8; exact ⟨t1, t2⟩) (fun hHeld => ?_)
  clear hK K'
  refine wpAnyH_ready (rs := [2]) (by kernel_rfl) (by simp) ?_
  refine AllReadyH.cons rfl (fun K' hK => ?_) AllReadyH.nil
  rw [if_pos (by rfl)]
  go_simp
  go_at_call 24
  refine (C1.out _ hb8).mono ?_
  rintro e w9 ⟨u9, rfl, ho9, hbb9⟩
  have hb9 : Below W0.heap.size W0 w9 := Below.trans hb8 (hbb9.mono (Below.size hb8))
  have hs9 := BoxQ.below hs8 (BoxQ.lt hs8) hbb9
  refine hK.out _ _ (by obtain ⟨t1, t2, _⟩ := HV.out _ hb9; exact ⟨t1, t2⟩) (fun hHeld => ?_)
  clear hK K'
  refine wpAnyH_ready (rs := [4]) (by kernel_rfl) (by simp) ?_
  refine AllReadyH.cons rfl (fun K' hK => ?_) AllReadyH.nil
  rw [if_pos (by rfl)]
  go_simp
  go_at_call 23
  refine (C2.out _ _ _ hb9 (Below.size hb8) ho9).mono ?_
  rintro e w10 ⟨u10, rfl, ho10, hb10, hkk10⟩
  have hs10 : BoxQ w10 (w2).heap.size (y1, y2) := (hkk10 _ (BoxQ.lt hs9) (fun e => (fun e => absurd ((World.ownsRow.lt ho9 _ e).1) (Nat.not_le.2 (BoxQ.lt hs8))) e)).trans hs9
  refine hK.out _ _ (by obtain ⟨t1, t2, _⟩ := HV.out _ hb10; exact ⟨t1, t2⟩) (fun hHeld => ?_)
  clear hK K'
  obtain ⟨v9, X9, e9, hj9⟩ := CA.out w10 (w2).heap.size u10 hb10 ho10 hs10
  obtain ⟨g9, c9, rfl, ho9, hc9, hb9⟩ := hj9
  refine wpAnyH_ready (rs := [7]) (by kernel_rfl) (by simp) ?_
  refine AllReadyH.cons rfl (fun K' hK => ?_) AllReadyH.nil
  rw [if_pos (by rfl)]
  refine wp_append_run (.tmp 20) (.tmp 22) 22 22 rfl u10 (.slice (some ⟨(w2).heap.size, 0, none⟩) 1 1) rfl rfl _ _ e9 ?_
  simp only [Act.put, List.getElem_toArray, List.getElem_cons_zero, List.getElem_cons_succ, List.setIfInBounds_toArray, List.set_cons_zero, List.set_cons_succ]
  refine hK.out _ _ (by obtain ⟨t1, t2, _⟩ := HV.out _ hb9; exact ⟨t1, t2⟩) (fun hHeld => ?_)
  clear hK K' e9
  refine wpAnyH_ready (rs := [8]) (by kernel_rfl) (by simp) ?_
  refine AllReadyH.cons rfl (fun K' hK => ?_) AllReadyH.nil
  rw [if_pos (by rfl)]
  go_simp
  refine hK.out _ _ hHeld (fun hHeld => ?_)
  clear hK K'
  refine wpAnyH_done (by kernel_rfl) ?_ _
  clear hHeld
  obtain ⟨-, -, x3, x4, -, -⟩ := HV.out _ hb9
  obtain ⟨n9, hn9⟩ : ∃ n9, (dropQ (y1, y2) xs).length + 1 = n9 := ⟨_, rfl⟩
  have FIN := hid (put_fin ho9 x3 x4 HS0.out HD16.out hn9)
  have g9c := cell_of_row (k := 0) x3 rfl
  have f9c := frozen_zero x3 0
  rw [hn9] at hc9 ⊢
  have zc1 : (n9 : Int) ≤ (c9 : Int) := by omega
  have zc2 : (1 : Int) ≤ (n9 : Int) := by omega
  clear x3 x4 ho9 hb9 hn9
  by_cases hm : 16 < n9
  ·obtain ⟨f1, f2, f3⟩ := FIN.out _ (.inl ⟨hm, rfl⟩)
   have HF : Hid (ListIs rQid 2 16 (From w.heap.size _) _ _ (putQ (y1, y2) xs) ∧ Below w.heap.size w _) := ⟨f1, f2⟩
   have z9 : (16 : Int) < (n9 : Int) := by omega
   have zc3 : (1 : Int) ≤ (c9 : Int) := by omega
   have zc4 : ¬ (c9 = 1) := by omega
   have zc5 : ¬ ((c9 : Int) = 1) := by omega
   have zc6 : n9 - 1 ≤ c9 - 1 := by omega
   clear f1 f2
   go_wp2_with fail
   refine bodyPost_ret (v := .tuple #[.agg #[.slice (some ⟨g9, 2, none⟩) (n9 - 1) (c9 - 1)], .int .i64 0]) (by simp [results, Tryz.results9, go_sem, f3]) rfl ?_
   exact ⟨_, _, _, rfl, zc6, by rw [HPR.out]; exact HF.out.1, HF.out.2⟩
  ·obtain ⟨f1, f2, f3⟩ := FIN.out _ (.inr ⟨hm, rfl⟩)
   have HF : Hid (ListIs rQid 2 16 (From w.heap.size _) _ _ (putQ (y1, y2) xs) ∧ Below w.heap.size w _) := ⟨f1, f2⟩
   have z9 : ¬ (16 : Int) < (n9 : Int) := by omega
   clear f1 f2
   go_wp2_with fail
   refine bodyPost_ret (v := .tuple #[.agg #[.slice (some ⟨g9, 0, none⟩) n9 c9], .int .i64 0]) (by simp [results, Tryz.results9, go_sem, f3]) rfl ?_
   exact ⟨_, _, _, rfl, hc9, by rw [HPR.out]; exact HF.out.1, HF.out.2⟩
 ·have hk6 : k = 6 := by have := HKK.out; unfold winE at this; split at this <;> omega
  subst hk6
  obtain ⟨-, -, x3, x4, -, -⟩ := HV.out _ HB1.out
  obtain ⟨a1, a2, a3, a4, a5⟩ := setCell_any w1 (w.heap.size + 1 + 1) 0 (.slice none 0 0)
  have HPR : Hid (putR (y1, y2) xs = []) := by show _ = _; unfold putR; rw [if_neg (by rw [HKK.out]; decide)]
  have HF : Hid (Below w.heap.size w (w1.setCell ⟨w.heap.size + 1 + 1, 0, none⟩ (.slice none 0 0))) := ⟨a2.trans x4.os, a3.trans x4.tape, a4.trans x4.output, by have := x4.size; omega, fun b h => by rw [a5 b (by omega)]; exact x4.block b h⟩
  have HF0 : Hid (Below w.heap.size w w1) := x4
  have g9c := cell_of_row (k := 0) x3 rfl
  have f9c := frozen_zero x3 0
  have f3 : (w1.setCell ⟨w.heap.size + 1 + 1, 0, none⟩ (.slice none 0 0)).cell? ⟨w.heap.size + 1 + 1, 0, none⟩ = some (.slice none 0 0) := by rw [setCell_eq_setRow w1 _ 0 _ 24 (0, 0) _ x3]; exact cell_of_row (k := 0) (setRow_heap w1 _ _ _ 24 _ x3) rfl
  clear x3 x4 a1 a2 a3 a4 a5 hk0
  go_wp2_with fail
  refine bodyPost_ret (v := .tuple #[.agg #[.slice none 0 0], .int .i64 6]) (by simp [results, Tryz.results9, go_sem, f3]) rfl ?_
  exact ⟨_, _, _, rfl, Nat.le_refl _, by rw [HPR.out]; exact ListIs.nil _ _ _ _ _, by first | exact HF.out | exact HF0.out⟩
end Go.Proofs.YtajomnfeicfdlaaGreatDoor

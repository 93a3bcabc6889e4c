/- Batches: lists of lists of rows, and those that are held; each of them in new memory. -/
import Derived.Test.YtcmiphgeakdonaaAb
namespace Go.Proofs.Ytcmiphgeakdonaa
open Go.Shelf Go.RowKit Go.Lib Go.Sort
set_option linter.unusedVariables false
set_option linter.unusedSimpArgs false
attribute [local go_sem ↓] Go.wp_at_zero Go.wp_at_succ
/-- A batch that is held. -/
structure Bat where
  s : Nat
  l : Bool
  r : List (List Val)
def rBch : Rel (List (List Val)) := fun K W cs x => ∃ v, cs = [v] ∧ ListIs rRow 1 24 K W v x
def rBat : Rel Bat := fun K W cs x => ∃ v, cs = [.int .u64 (x.s : Int), .bool x.l, v] ∧ x.s < 18446744073709551616 ∧ ListIs rRow 1 24 K W v x.r
theorem mBch : Mono rBch := fun K K2 W W' cs x hk hW ⟨v, h1, h2⟩ => ⟨v, h1, h2.mono mRow hk hW⟩
theorem mBat : Mono rBat := fun K K2 W W' cs x hk hW ⟨v, h1, h2, h3⟩ => ⟨v, h1, h2, h3.mono mRow hk hW⟩
theorem inE_bch : ∃ i0, Try.prog.info? 30 = some i0 ∧ i0.zero = some (.slice none 0 0) ∧ i0.size = 1 ∧ i0.bytes = 24 := by
  have h1 : (Try.prog.info? 30).bind (·.zero) = some (.slice none 0 0) := by kernel_rfl
  have h2 : (Try.prog.info? 30).map (·.size) = some 1 := by kernel_rfl
  have h3 : (Try.prog.info? 30).map (·.bytes) = some 24 := by kernel_rfl
  generalize Try.prog.info? 30 = i at *
  cases i with
  | none => cases h1
  | some i => exact ⟨i, rfl, h1, Option.some.inj h2, Option.some.inj h3⟩
set_option maxHeartbeats 4000000 in
set_option maxRecDepth 100000 in
theorem grow_bch (n : Nat) (w : World) (hn : n * 24 ≤ 140737488355328) :
    Calls Try.prog 67 #[.slice none 0 0, .int .i64 n] w fun e w' => ∃ u, e = .returned u ∧ w'.ownsRow w.heap.size 30 1 u 0 [] ∧ Below w.heap.size w w' := by
  by_cases h0 : n = 0
  · subst h0
    go_enter Try.func67, Try.ntmps67
    go_wp2_with fail
    go_ret
    exact ⟨_, rfl, World.ownsRow_nil _ _ _ _, Below.refl _ _⟩
  · obtain ⟨i0, hi0, hz0, hz1, hz2⟩ := inE_bch
    have hrz : ∀ ty, (Builtin.append_ #[27, 3] ty #[.slice none 0 0, .int .i64 n]).run Try.prog w = .ok (.slice (some ⟨w.heap.size, 0, none⟩) n (grownCap w n 0 30)) (w.drew.alloc (.cells (Builtin.zeroCells (Value.cells (.slice none 0 0)) n ++ Builtin.zeroCells (Value.cells (.slice none 0 0)) (grownCap w n 0 30 - n)) 30)) :=
      fun ty => run_append_nil_zeros w 27 3 ty 30 i0 _ .i64 .i64 Try.underlying27 Try.underlying3 hi0 hz0 n (by omega) (by omega) (by omega) (by rw [hz2]; omega)
    have hGn : n ≤ grownCap w n 0 30 := grownCap_ge w _ _ _
    have hGm : grownCap w n 0 30 ≤ maxLen := grownCap_le_maxLen w n 0 30 (by unfold maxLen; omega)
    obtain ⟨G, hG⟩ : ∃ G, G = grownCap w n 0 30 := ⟨_, rfl⟩
    rw [← hG] at hrz hGn hGm
    have hG63 : G ≤ 9223372036854775807 := by unfold maxLen at hGm; omega
    have HM : Hid (G ≤ maxLen) := hGm
    have h1 : ¬ ((n : Int) < 0) := by omega
    have h2 : (0 : Int) < (n : Int) := by omega
    clear hG hGm
    go_enter Try.func67, Try.ntmps67
    go_wp2_with (at_builtin; refine Lib.wpList_append_run _ rfl _ _ _ _ rfl _ _ rfl rfl _ _ (hrz _) ?_)
    all_goals (go_ret; refine ⟨_, rfl, ⟨rfl, .inr ⟨w.heap.size, G, _, rfl, Nat.le_refl _, heap_alloc_new w.drew _, Nat.zero_le _, HM.out, ?_, rfl⟩⟩, ?_⟩)
    all_goals (first
      | (exact (Below.refl _ _).drew.alloc (Nat.le_refl _) _)
      | (simp [Builtin.zeroCells, Value.cells]; omega))
theorem inE_bat : ∃ i0, Try.prog.info? 91 = some i0 ∧ i0.zero = some (.agg #[.int .u64 0, .bool false, .slice none 0 0]) ∧ i0.size = 3 ∧ i0.bytes = 40 := by
  have h1 : (Try.prog.info? 91).bind (·.zero) = some (.agg #[.int .u64 0, .bool false, .slice none 0 0]) := by kernel_rfl
  have h2 : (Try.prog.info? 91).map (·.size) = some 3 := by kernel_rfl
  have h3 : (Try.prog.info? 91).map (·.bytes) = some 40 := by kernel_rfl
  generalize Try.prog.info? 91 = i at *
  cases i with
  | none => cases h1
  | some i => exact ⟨i, rfl, h1, Option.some.inj h2, Option.some.inj h3⟩
set_option maxHeartbeats 4000000 in
set_option maxRecDepth 100000 in
theorem grow_bat (n : Nat) (w : World) (hn : n * 40 ≤ 140737488355328) :
    Calls Try.prog 69 #[.slice none 0 0, .int .i64 n] w fun e w' => ∃ u, e = .returned u ∧ w'.ownsRow w.heap.size 91 3 u 0 [] ∧ Below w.heap.size w w' := by
  by_cases h0 : n = 0
  · subst h0
    go_enter Try.func69, Try.ntmps69
    go_wp2_with fail
    go_ret
    exact ⟨_, rfl, World.ownsRow_nil _ _ _ _, Below.refl _ _⟩
  · obtain ⟨i0, hi0, hz0, hz1, hz2⟩ := inE_bat
    have hrz : ∀ ty, (Builtin.append_ #[66, 3] ty #[.slice none 0 0, .int .i64 n]).run Try.prog w = .ok (.slice (some ⟨w.heap.size, 0, none⟩) n (grownCap w n 0 91)) (w.drew.alloc (.cells (Builtin.zeroCells (Value.cells (.agg #[.int .u64 0, .bool false, .slice none 0 0])) n ++ Builtin.zeroCells (Value.cells (.agg #[.int .u64 0, .bool false, .slice none 0 0])) (grownCap w n 0 91 - n)) 91)) :=
      fun ty => run_append_nil_zeros w 66 3 ty 91 i0 _ .i64 .i64 Try.underlying66 Try.underlying3 hi0 hz0 n (by omega) (by omega) (by omega) (by rw [hz2]; omega)
    have hGn : n ≤ grownCap w n 0 91 := grownCap_ge w _ _ _
    have hGm : grownCap w n 0 91 ≤ maxLen := grownCap_le_maxLen w n 0 91 (by unfold maxLen; omega)
    obtain ⟨G, hG⟩ : ∃ G, G = grownCap w n 0 91 := ⟨_, rfl⟩
    rw [← hG] at hrz hGn hGm
    have hG63 : G ≤ 9223372036854775807 := by unfold maxLen at hGm; omega
    have HM : Hid (G ≤ maxLen) := hGm
    have h1 : ¬ ((n : Int) < 0) := by omega
    have h2 : (0 : Int) < (n : Int) := by omega
    clear hG hGm
    go_enter Try.func69, Try.ntmps69
    go_wp2_with (at_builtin; refine Lib.wpList_append_run _ rfl _ _ _ _ rfl _ _ rfl rfl _ _ (hrz _) ?_)
    all_goals (go_ret; refine ⟨_, rfl, ⟨rfl, .inr ⟨w.heap.size, G, _, rfl, Nat.le_refl _, heap_alloc_new w.drew _, Nat.zero_le _, HM.out, ?_, rfl⟩⟩, ?_⟩)
    all_goals (first
      | (exact (Below.refl _ _).drew.alloc (Nat.le_refl _) _)
      | (simp [Builtin.zeroCells, Value.cells]; omega))
set_option maxRecDepth 100000 in
set_option maxHeartbeats 4000000 in
theorem each_bch (hpart : FreshC rBch 27) : FreshL rBch 1 24 53 #[.func (.func 27) #[] #[]] := by
  intro K w v xs h hK
  show Calls Try.prog 53 #[v, .func (.func 27) #[] #[]] w _
  obtain ⟨p, c, rfl, hby, hp⟩ := h
  have HP : Hid (0 < xs.length → ∃ b o, p = some ⟨b, o, none⟩ ∧ K b ∧ ∀ (j : Nat) (h : j < xs.length), ∃ cs, cs.length = 1 ∧ (∀ (i : Nat) (u : Value), cs[i]? = some u → w.cell? ⟨b, o + j * 1 + i, none⟩ = some u) ∧ rBch K w cs xs[j]) := hp
  have HPT : Hid (FreshC rBch 27) := hpart
  have HKK : Hid (∀ b, K b → b < w.heap.size) := hK
  have HBY : Hid (xs.length * 24 ≤ 140737488355328) := hby.1
  have CG := hid (grow_bch xs.length w hby.1)
  obtain ⟨j0, hj0, hj1, hj2, hj3⟩ := inE_bch
  have hx63 : xs.length ≤ 140737488355328 := by omega
  clear hp hK hby hpart
  go_enter Try.func53, Try.ntmps53
  go_wp2_with fail
  refine CG.out.mono ?_
  rintro e w0 ⟨u0, rfl, ho0, hb0⟩
  have HJ : Hid (OwnR rBch 1 30 w.heap.size w0 u0 (xs.take 0)) := OwnR.none ho0
  have HB0 : Hid (Below w.heap.size w w0) := hb0
  clear ho0 hb0 CG
  go_wp2_with fail
  go_loopg [5, 13] xs.length (fun gf s3 s8 wx => ∃ (u : Value) (i : Nat), u = s3 ∧ s8 = .int .i64 i ∧ i ≤ xs.length ∧ xs.length ≤ i + gf ∧ Hid (OwnR rBch 1 30 w.heap.size wx u (xs.take i)) ∧ Hid (Below w.heap.size w wx))
  case atStart => exact ⟨_, 0, rfl, rfl, by omega, by omega, HJ, HB0⟩
  case round =>
    clear HJ HB0
    obtain ⟨u, i, rfl, rfl, hi1, hgf, HJ, HB⟩ := hrel
    by_cases hi : i < xs.length
    · obtain ⟨g', rfl⟩ : ∃ g', gk = g' + 1 := ⟨gk - 1, by omega⟩
      obtain ⟨b, o, rfl, hKb, hc⟩ := HP.out (by omega)
      obtain ⟨cs, hcl, hcell, hrel1⟩ := hc i hi
      have htk : xs.take (i + 1) = xs.take i ++ [xs[i]] := List.take_succ_eq_append_getElem hi
      obtain ⟨y, hy⟩ : ∃ y, xs[i] = y := ⟨_, rfl⟩
      rw [hy] at hrel1 htk
      have hbw := HB.out
      have hrw : rBch K wr cs y := mBch _ _ _ _ _ _ (fun _ h => h) (kept_of HKK.out hbw) hrel1
      obtain ⟨v1, rfl, n1⟩ := id hrw
      obtain ⟨za1, ya1, rfl, _, _⟩ := n1
      have hra : ∀ (j : Nat) (u : Value), ([.slice za1 y.length ya1] : List Value)[j]? = some u → wr.cell? ⟨b, o + i * 1 + j, none⟩ = some u := fun j u hu => by
        rw [hbw.cell (p := ⟨b, _, none⟩) (HKK.out _ hKb)]
        exact hcell j u hu
      have c0 : wr.cell? ⟨b, o + i, none⟩ = some (.slice za1 y.length ya1) := by
        have := hra 0 _ rfl
        simpa using this
      obtain ⟨WS, hWSe⟩ : ∃ WS, wr = WS := ⟨_, rfl⟩
      have hbs : Below wr.heap.size wr WS := by rw [← hWSe]; exact Below.refl _ _
      have hKW : ∀ b, K b → b < WS.heap.size := fun b hb => by have := HKK.out b hb; have := hbw.size; have := hbs.size; omega
      have CC := HPT.out K WS _ y (mBch _ _ _ _ _ _ (fun _ h => h) (kept_of (fun b hb => Nat.lt_of_lt_of_le (HKK.out b hb) hbw.size) hbs) hrw) hKW
      have HCC : Hid (Calls Try.prog 27 #[.slice za1 y.length ya1] WS fun e w' => ∃ cs', e = .returned (asV cs') ∧ rBch (From WS.heap.size w') w' cs' y ∧ Below WS.heap.size WS w') := CC
      have HBS : Hid (Below wr.heap.size wr WS) := hbs
      have HTK : Hid (xs.take (i + 1) = xs.take i ++ [y]) := htk
      have z0 : (0 : Int) ≤ (i : Int) := by omega
      have z1' : (i : Int) < (xs.length : Int) := by omega
      subst hWSe
      clear CC hra hbs htk hc hcell hy hKb hcl hbw hrel1 hrw  hKW
      go_wp2_with fail
      refine HCC.out.mono ?_
      rintro e w3 ⟨cs3, rfl, hr3, hb3⟩
      obtain ⟨u1, rfl, n1⟩ := id hr3
      obtain ⟨zb1, yb1, rfl, _, _⟩ := n1
      have hB3 : Below wr.heap.size wr w3 := HBS.out.trans (hb3.mono HBS.out.size)
      have hJX := HJ.out.keep mBch hB3
      have hlen : (xs.take i).length = i := by simp; omega
      have hmx : i + 1 ≤ maxLen := by have := HBY.out; unfold maxLen; omega
      have hb80 : (i + 1) * 24 ≤ 140737488355328 := by have := HBY.out; omega
      obtain ⟨v', X2, e2, hJ2, hb2, hs2⟩ := OwnR.push mBch Try.underlying27 hj0 hj1 hj2 hj3 rfl (by omega) hJX (Nat.le_trans HB.out.size hB3.size) (cs := [.slice zb1 y.length yb1]) (x := y) (K2 := From wr.heap.size w3) rfl (fun c hc => by simp at hc; subst hc; rfl)
        (fun b hb => ⟨by have := hb.1; have := HB.out.size; have := HBS.out.size; omega, hb.2, fun e => by obtain ⟨_, _, _, ho, _⟩ := HJ.out; have := (ho.lt _ e).2; have := hb.1; have := HBS.out.size; omega⟩) hr3 (by rw [hlen]; exact hb80) (by rw [hlen]; exact hmx)
      have HJ2 : Hid (OwnR rBch 1 30 w.heap.size X2 v' (xs.take (i + 1))) := by rw [HTK.out]; exact hJ2
      have HB2 : Hid (Below w.heap.size w X2) := hb2 _ _ (HB.out.trans (hB3.mono HB.out.size)) (Nat.le_refl _)
      clear hJ2 hb2 hs2 hJX hlen hmx hb80 hB3 hr3 hb3  HJ HB
      unfold asV
      go_wp2_with (at_builtin; refine Lib.wpList_append_run _ rfl _ _ _ _ rfl u (.slice (some ⟨w3.heap.size, 0, none⟩) 1 1) rfl rfl _ _ e2 ?_)
      go_roundg g'
      case measure => omega
      case rel => exact ⟨_, i + 1, rfl, by go_num, by omega, by omega, HJ2, HB2⟩
    · have z1 : ¬ (i : Int) < (xs.length : Int) := by omega
      have hJ := HJ.out
      rw [List.take_of_length_le (by omega)] at hJ
      obtain ⟨pf, cf, huf, hlf⟩ := hJ.list mBch HBY.out
      subst huf
      have HF : Hid (ListIs rBch 1 24 (From w.heap.size wr) wr (.slice pf xs.length cf) xs ∧ Below w.heap.size w wr) := ⟨hlf, HB.out⟩
      clear HJ hJ hlf HB
      go_wp2_with fail
      go_ret
      exact ⟨_, _, rfl, HF.out⟩
set_option maxRecDepth 100000 in
set_option maxHeartbeats 4000000 in
theorem each_bat (hpart : FreshC rBat 57) : FreshL rBat 3 40 56 #[.func (.func 57) #[] #[]] := by
  intro K w v xs h hK
  show Calls Try.prog 56 #[v, .func (.func 57) #[] #[]] w _
  obtain ⟨p, c, rfl, hby, hp⟩ := h
  have HP : Hid (0 < xs.length → ∃ b o, p = some ⟨b, o, none⟩ ∧ K b ∧ ∀ (j : Nat) (h : j < xs.length), ∃ cs, cs.length = 3 ∧ (∀ (i : Nat) (u : Value), cs[i]? = some u → w.cell? ⟨b, o + j * 3 + i, none⟩ = some u) ∧ rBat K w cs xs[j]) := hp
  have HPT : Hid (FreshC rBat 57) := hpart
  have HKK : Hid (∀ b, K b → b < w.heap.size) := hK
  have HBY : Hid (xs.length * 40 ≤ 140737488355328) := hby.1
  have CG := hid (grow_bat xs.length w hby.1)
  obtain ⟨j0, hj0, hj1, hj2, hj3⟩ := inE_bat
  have hx63 : xs.length ≤ 140737488355328 := by omega
  clear hp hK hby hpart
  go_enter Try.func56, Try.ntmps56
  go_wp2_with fail
  refine CG.out.mono ?_
  rintro e w0 ⟨u0, rfl, ho0, hb0⟩
  have HJ : Hid (OwnR rBat 3 91 w.heap.size w0 u0 (xs.take 0)) := OwnR.none ho0
  have HB0 : Hid (Below w.heap.size w w0) := hb0
  clear ho0 hb0 CG
  go_wp2_with fail
  go_loopg [5, 13] xs.length (fun gf s3 s8 wx => ∃ (u : Value) (i : Nat), u = s3 ∧ s8 = .int .i64 i ∧ i ≤ xs.length ∧ xs.length ≤ i + gf ∧ Hid (OwnR rBat 3 91 w.heap.size wx u (xs.take i)) ∧ Hid (Below w.heap.size w wx))
  case atStart => exact ⟨_, 0, rfl, rfl, by omega, by omega, HJ, HB0⟩
  case round =>
    clear HJ HB0
    obtain ⟨u, i, rfl, rfl, hi1, hgf, HJ, HB⟩ := hrel
    by_cases hi : i < xs.length
    · obtain ⟨g', rfl⟩ : ∃ g', gk = g' + 1 := ⟨gk - 1, by omega⟩
      obtain ⟨b, o, rfl, hKb, hc⟩ := HP.out (by omega)
      obtain ⟨cs, hcl, hcell, hrel1⟩ := hc i hi
      have htk : xs.take (i + 1) = xs.take i ++ [xs[i]] := List.take_succ_eq_append_getElem hi
      obtain ⟨y, hy⟩ : ∃ y, xs[i] = y := ⟨_, rfl⟩
      rw [hy] at hrel1 htk
      have hbw := HB.out
      have hrw : rBat K wr cs y := mBat _ _ _ _ _ _ (fun _ h => h) (kept_of HKK.out hbw) hrel1
      obtain ⟨v1, rfl, q1, n1⟩ := id hrw
      obtain ⟨za1, ya1, rfl, _, _⟩ := n1
      have hra : ∀ (j : Nat) (u : Value), ([.int .u64 (y.s : Int), .bool y.l, .slice za1 y.r.length ya1] : List Value)[j]? = some u → wr.cell? ⟨b, o + i * 3 + j, none⟩ = some u := fun j u hu => by
        rw [hbw.cell (p := ⟨b, _, none⟩) (HKK.out _ hKb)]
        exact hcell j u hu
      obtain ⟨WA, hWA, hth, WS, hWS, hrs, hss, hbs, hrl⟩ := box_new wr 91 #[.int .u64 0, .bool false, .slice none 0 0] [.int .u64 (y.s : Int), .bool y.l, .slice za1 y.r.length ya1] rfl
      have hKW : ∀ b, K b → b < WS.heap.size := fun b hb => by have := HKK.out b hb; have := hbw.size; have := hbs.size; omega
      have CC := HPT.out K WS _ y (mBat _ _ _ _ _ _ (fun _ h => h) (kept_of (fun b hb => Nat.lt_of_lt_of_le (HKK.out b hb) hbw.size) hbs) hrw) hKW
      have HCC : Hid (Calls Try.prog 57 #[.agg #[.int .u64 (y.s : Int), .bool y.l, .slice za1 y.r.length ya1]] WS fun e w' => ∃ cs', e = .returned (asV cs') ∧ rBat (From WS.heap.size w') w' cs' y ∧ Below WS.heap.size WS w') := CC
      have HBS : Hid (Below wr.heap.size wr WS) := hbs
      have HTK : Hid (xs.take (i + 1) = xs.take i ++ [y]) := htk
      have z0 : (0 : Int) ≤ (i : Int) := by omega
      have z1' : (i : Int) < (xs.length : Int) := by omega
      have HRA : Hid (wr.rangeAt b (o + i * 3) [.int .u64 (y.s : Int), .bool y.l, .slice za1 y.r.length ya1]) := hra
      have HTH : Hid (WA.there wr.heap.size 0 3) := hth
      have HWS : Hid (WA.setCells wr.heap.size 0 (#[.int .u64 (y.s : Int), .bool y.l, .slice za1 y.r.length ya1] : Array Value).toList = WS) := hWS
      have HRS : Hid (WS.rangeAt wr.heap.size 0 [.int .u64 (y.s : Int), .bool y.l, .slice za1 y.r.length ya1]) := hrs
      have HON : Hid ((#[.int .u64 (y.s : Int), .bool y.l, .slice za1 y.r.length ya1] : Array Value).all (·.oneCell') = true) := by show _ = _; simp [Value.oneCell']
      have SZ : Hid ((Try.prog.info? 91).map (·.size) = some 3) := by show _ = _; rw [hj0]; simp [hj2]
      clear CC hra hth hWS hrs hrl hbs htk hc hcell hy hKb hcl hbw hrel1 hrw q1 hKW hss
      go_wp2_with (first | (refine wpList_load_mid rfl 91 _ rfl b (o + i * 3) rfl _ _ HRA.out Try.underlying91 rfl SZ.out ?_) | (refine wpList_store_mid rfl 91 _ _ rfl wr.heap.size 0 #[.int .u64 (y.s : Int), .bool y.l, .slice za1 y.r.length ya1] rfl rfl HTH.out SZ.out HON.out ?_; rw [HWS.out]) | (refine wpList_load_mid rfl 91 _ rfl wr.heap.size 0 rfl _ _ HRS.out Try.underlying91 rfl SZ.out ?_))
      refine HCC.out.mono ?_
      rintro e w3 ⟨cs3, rfl, hr3, hb3⟩
      obtain ⟨u1, rfl, q1, n1⟩ := id hr3
      obtain ⟨zb1, yb1, rfl, _, _⟩ := n1
      have hB3 : Below wr.heap.size wr w3 := HBS.out.trans (hb3.mono HBS.out.size)
      have hJX := HJ.out.keep mBat hB3
      have hlen : (xs.take i).length = i := by simp; omega
      have hmx : i + 1 ≤ maxLen := by have := HBY.out; unfold maxLen; omega
      have hb80 : (i + 1) * 40 ≤ 140737488355328 := by have := HBY.out; omega
      obtain ⟨v', X2, e2, hJ2, hb2, hs2⟩ := OwnR.push mBat Try.underlying66 hj0 hj1 hj2 hj3 rfl (by omega) hJX (Nat.le_trans HB.out.size hB3.size) (cs := [.int .u64 (y.s : Int), .bool y.l, .slice zb1 y.r.length yb1]) (x := y) (K2 := From WS.heap.size w3) rfl (fun c hc => by simp at hc; rcases hc with rfl | rfl | rfl <;> rfl)
        (fun b hb => ⟨by have := hb.1; have := HB.out.size; have := HBS.out.size; omega, hb.2, fun e => by obtain ⟨_, _, _, ho, _⟩ := HJ.out; have := (ho.lt _ e).2; have := hb.1; have := HBS.out.size; omega⟩) hr3 (by rw [hlen]; exact hb80) (by rw [hlen]; exact hmx)
      have HJ2 : Hid (OwnR rBat 3 91 w.heap.size X2 v' (xs.take (i + 1))) := by rw [HTK.out]; exact hJ2
      have HB2 : Hid (Below w.heap.size w X2) := hb2 _ _ (HB.out.trans (hB3.mono HB.out.size)) (Nat.le_refl _)
      clear hJ2 hb2 hs2 hJX hlen hmx hb80 hB3 hr3 hb3 q1 HJ HB
      unfold asV
      go_wp2_with (at_builtin; refine Lib.wpList_append_run _ rfl _ _ _ _ rfl u (.slice (some ⟨w3.heap.size, 0, none⟩) 1 1) rfl rfl _ _ e2 ?_)
      go_roundg g'
      case measure => omega
      case rel => exact ⟨_, i + 1, rfl, by go_num, by omega, by omega, HJ2, HB2⟩
    · have z1 : ¬ (i : Int) < (xs.length : Int) := by omega
      have hJ := HJ.out
      rw [List.take_of_length_le (by omega)] at hJ
      obtain ⟨pf, cf, huf, hlf⟩ := hJ.list mBat HBY.out
      subst huf
      have HF : Hid (ListIs rBat 3 40 (From w.heap.size wr) wr (.slice pf xs.length cf) xs ∧ Below w.heap.size w wr) := ⟨hlf, HB.out⟩
      clear HJ hJ hlf HB
      go_wp2_with fail
      go_ret
      exact ⟨_, _, rfl, HF.out⟩
end Go.Proofs.Ytcmiphgeakdonaa

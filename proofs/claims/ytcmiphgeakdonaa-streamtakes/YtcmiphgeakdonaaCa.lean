/- Rows that the reference copies. -/
import Derived.Test.YtcmiphgeakdonaaAz
namespace Go.Proofs.Ytcmiphgeakdonaa
open Go.Shelf Go.RowKit Go.Lib Go.Sort
set_option linter.unusedVariables false
set_option linter.unusedSimpArgs false
attribute [local go_sem ↓] Go.wp_at_zero Go.wp_at_succ
theorem run_append_none_c {P : Program} {w : World} (base : Nat) (t ty e : TypeId) (i : TypeInfo) (size : Nat) (ht : P.underlying t = some (.slice e)) (hi : P.info? e = some i)
    (v : Value) (n c : Nat) (xs : List Value) (hown : w.ownsRow base e size v n xs) :
    (Builtin.append_ #[t, t] ty #[v, .slice none 0 c]).run P w = .ok v w := by
  rcases hown.2 with ⟨rfl, rfl⟩ | ⟨g, cap, cur, rfl, _, _, hnc, _⟩
  · simp [Builtin.append_, run_underlying ht, Go.sizeOf, typeInfo, hi, Builtin.lenOf, Builtin.firstCells]
  · simp [Builtin.append_, run_underlying ht, Go.sizeOf, typeInfo, hi, Builtin.lenOf, Builtin.firstCells, hnc, storeCells]
/-- A part that leads nowhere. -/
def Flat {α : Type} (rel : Rel α) : Prop := (∀ K K' W W' cs x, rel K W cs x → rel K' W' cs x) ∧ ∀ K W cs x, rel K W cs x → ∀ u ∈ cs, u.oneCell' = true
theorem fVal : Flat rVal := ⟨fun _ _ _ _ _ _ h => h, fun _ _ cs x h u hu => by rw [h.1] at hu; simp at hu; rcases hu with rfl | rfl | rfl | rfl <;> rfl⟩
/-- A row of one's own, as a list. -/
theorem own_list {α : Type} {rel : Rel α} (hf : Flat rel) {base te size bytes : Nat} {W' : World} {v' : Value} {xs : List α} {cells : List Value} {K : Nat → Prop} {W : World} (hown : W'.ownsRow base te size v' xs.length cells) (hb : xs.length * bytes ≤ 140737488355328)
    (hr : ∀ j (h : j < xs.length), rel K W ((cells.drop (j * size)).take size) xs[j]) : ListIs rel size bytes (From base W') W' v' xs := by
  obtain ⟨hl, ⟨rfl, hn⟩ | ⟨g, cap, cur, rfl, hbg, hg, hnc, hcm, hcs, htake⟩⟩ := hown
  · exact ⟨none, 0, by rw [hn], ⟨hb, by omega⟩, fun h => by omega⟩
  · refine ⟨_, cap, rfl, ⟨hb, hnc⟩, fun _ => ⟨g, 0, rfl, ⟨hbg, (Array.getElem?_eq_some_iff.1 hg).1⟩, fun j hj => ⟨_, ?_, fun i u hu => ?_, hf.1 _ _ _ _ _ _ (hr j hj)⟩⟩⟩
    · have h1 : j * size + size ≤ xs.length * size := by
        have := Nat.mul_le_mul_right size (show j + 1 ≤ xs.length by omega)
        rwa [Nat.add_mul, Nat.one_mul] at this
      rw [List.length_take, List.length_drop, hl]; omega
    · have hi : i < size := by
        have := (List.getElem?_eq_some_iff.1 hu).1
        rw [List.length_take] at this; omega
      rw [List.getElem?_take_of_lt hi, List.getElem?_drop, ← htake] at hu
      have hlt : j * size + i < xs.length * size := by
        have := Nat.mul_le_mul_right size (show j + 1 ≤ xs.length by omega)
        rw [Nat.add_mul, Nat.one_mul] at this; omega
      rw [List.getElem?_take_of_lt hlt] at hu
      rw [Nat.zero_add]
      exact cell_of_row hg (by simpa using hu)
/-- A list that is put behind an empty one, into new memory. -/
structure Cpy {α : Type} (rel : Rel α) (size bytes : Nat) (ts : TypeId) (X W' : World) (g : Nat) (vx : Value) (xs : List α) (p : Option Addr) (c : Nat) : Prop where
  run : (Builtin.append_ #[ts, ts] ts #[.slice (some ⟨g, 0, none⟩) 0 0, vx]).run Try.prog X = .ok (.slice p xs.length c) W'
  list : ListIs rel size bytes (From g W') W' (.slice p xs.length c) xs
  old : ∀ j, j < X.heap.size → j ≠ g → W'.heap[j]? = X.heap[j]?
  size_ : X.heap.size ≤ W'.heap.size
  below : ∀ B w0, Below B w0 X → B ≤ g → Below B w0 W'
theorem cpy_list {α : Type} {rel : Rel α} (hf : Flat rel) {size bytes : Nat} {ts te : TypeId} {i0 : TypeInfo} {z : Value} (hu : Try.prog.underlying ts = some (.slice te)) (hi : Try.prog.info? te = some i0) (hz : i0.zero = some z) (hs : i0.size = size) (hby : i0.bytes = bytes) (hzs : z.cells.size = size) (hs0 : 0 < size) (hb0 : 0 < bytes)
    {X : World} {g : Nat} (hg : X.heap[g]? = some (.cells #[] te (0, 0))) {K : Nat → Prop} {vx : Value} {xs : List α} (h : ListIs rel size bytes K X vx xs) : ∃ W' p c, Cpy rel size bytes ts X W' g vx xs p c := by
  have hgl : g < X.heap.size := (Array.getElem?_eq_some_iff.1 hg).1
  have hown : X.ownsRow g te size (.slice (some ⟨g, 0, none⟩) 0 0) 0 [] := ⟨by simp, .inr ⟨g, 0, #[], rfl, Nat.le_refl _, hg, Nat.le_refl _, Nat.zero_le _, by simp, by simp⟩⟩
  obtain ⟨q, c, rfl, ⟨hb, hcap⟩, hp⟩ := h
  have hmax : xs.length ≤ maxLen := by
    have : xs.length * 1 ≤ xs.length * bytes := Nat.mul_le_mul_left _ hb0
    unfold maxLen; omega
  by_cases h0 : 0 < xs.length
  · obtain ⟨b, o, rfl, hKb, hc⟩ := hp h0
    obtain ⟨cells, h1, h2, h3⟩ := list_cells hc xs.length (Nat.le_refl _)
    have hone : ∀ u ∈ cells, u.oneCell' = true := fun u hu' => by
      obtain ⟨k, hk, rfl⟩ := List.getElem_of_mem hu'
      have hkk : k / size < xs.length := by rw [Nat.div_lt_iff_lt_mul hs0]; omega
      refine hf.2 _ _ _ _ (h3 (k / size) hkk hkk) _ ?_
      rw [List.mem_iff_getElem?]
      refine ⟨k % size, ?_⟩
      rw [List.getElem?_take_of_lt (Nat.mod_lt _ hs0), List.getElem?_drop, show k / size * size + k % size = k by rw [Nat.mul_comm]; exact Nat.div_add_mod k size]
      exact List.getElem?_eq_getElem hk
    have hadd : ∀ j u, cells[j]? = some u → X.cell? ((⟨b, o, none⟩ : Addr).add j) = some u := fun j u hu' => by
      have : (⟨b, o, none⟩ : Addr).add j = ⟨b, o + j, none⟩ := by unfold Addr.add; split <;> simp_all
      rw [this]; exact h2 j u hu'
    obtain ⟨v', W', e, ho, h5, _, h6⟩ := run_append_own_at (P := Try.prog) X g ts ts te i0 z size bytes hu hi hz hs hby hzs hs0 _ 0 [] hown ⟨b, o, none⟩ xs.length c cells (by rw [h1]) hadd hone (by omega) (by rw [Nat.zero_add]; exact hb) (by omega)
    rw [Nat.zero_add, List.nil_append] at ho
    have hlist : ListIs rel size bytes (From g W') W' v' xs := own_list hf ho hb (fun j hj => h3 j hj hj)
    obtain ⟨p', c', rfl, _⟩ := id hlist
    refine ⟨W', p', c', e, hlist, fun j hj hne => h5.block j hj (fun e => ?_), h5.size, fun B w0 hbb hB => Below.grown hbb h5 (by omega) (fun j hj => by have := (hown.lt _ hj).1; omega)⟩
    simp only [Value.ownBlock, Option.map_some, Option.some.injEq] at e
    exact hne e
  · have hx : xs = [] := List.eq_nil_of_length_eq_zero (by omega)
    subst hx
    cases q with
    | none => exact ⟨X, some ⟨g, 0, none⟩, 0, run_append_none_c (P := Try.prog) (w := X) g ts ts te i0 size hu hi _ _ _ _ hown, ⟨_, 0, rfl, ⟨by simp, by simp⟩, fun h => by simp at h⟩, fun _ _ _ => rfl, Nat.le_refl _, fun _ _ h _ => h⟩
    | some ad =>
      obtain ⟨v', W', e, ho, h5, _, h6⟩ := run_append_own_at (P := Try.prog) X g ts ts te i0 z size bytes hu hi hz hs hby hzs hs0 _ 0 [] hown ad 0 c [] (by simp) (fun j u hu => by simp at hu) (fun u hu => by simp at hu) (by unfold maxLen; omega) (by omega) (by omega)
      have hlist : ListIs rel size bytes (From g W') W' v' ([] : List α) := own_list hf (K := K) (W := X) ho (by simp) (fun j hj => by simp at hj)
      obtain ⟨p', c', rfl, _⟩ := id hlist
      refine ⟨W', p', c', e, hlist, fun j hj hne => h5.block j hj (fun e => ?_), h5.size, fun B w0 hbb hB => Below.grown hbb h5 (by omega) (fun j hj => by have := (hown.lt _ hj).1; omega)⟩
      simp only [Value.ownBlock, Option.map_some, Option.some.injEq] at e
      exact hne e
set_option maxRecDepth 100000 in
set_option maxHeartbeats 4000000 in
theorem copyRows_any (v : Value) (xs : List (List Val)) (K : Nat → Prop) (w : World) (h : ListIs rRow 1 24 K w v xs) (hK : ∀ b, K b → b < w.heap.size) :
    Calls Try.prog 25 #[v] w fun e w' => CpP rRow 1 24 xs w e w' := by
  obtain ⟨p, c, rfl, ⟨hby, hcap⟩, hp⟩ := h
  have HP : Hid _ := hp
  have HKK : Hid (∀ b, K b → b < w.heap.size) := hK
  have HBY : Hid (xs.length * 24 ≤ 140737488355328) := hby
  have HJ : Hid (OwnR rRow 1 96 w.heap.size w (.slice none 0 0) (xs.take 0)) := OwnR.none (World.ownsRow_nil _ _ _ _)
  obtain ⟨j0, hj0, hj1, hj2, hj3⟩ := inE_row
  obtain ⟨k0, hk0, hk1, hk2, hk3⟩ := inE_val
  have hx63 : xs.length ≤ 140737488355328 := by omega
  clear hp hK hby hcap
  go_enter Try.func25, Try.ntmps25
  go_wp2_with fail
  go_loopg [3, 8] xs.length (fun gf s3 s8 wx => ∃ (u : Value) (i : Nat), u = s3 ∧ s8 = .int .i64 i ∧ i ≤ xs.length ∧ xs.length ≤ i + gf ∧ Hid (OwnR rRow 1 96 w.heap.size wx u (xs.take i)) ∧ Hid (Below w.heap.size w wx))
  case atStart => exact ⟨_, 0, rfl, rfl, by omega, by omega, HJ, Below.refl _ _⟩
  case round =>
    clear HJ
    obtain ⟨u, i, rfl, rfl, hi1, hgf, HJ, HB⟩ := hrel
    by_cases hi : i < xs.length
    · obtain ⟨g', rfl⟩ : ∃ g', gk = g' + 1 := ⟨gk - 1, by omega⟩
      obtain ⟨b, o, rfl, hKb, hc⟩ := HP.out (by omega)
      obtain ⟨cs, hcl, hcell, hrel1⟩ := hc i hi
      have htk : xs.take (i + 1) = xs.take i ++ [xs[i]] := List.take_succ_eq_append_getElem hi
      obtain ⟨x, hx⟩ : ∃ x, xs[i] = x := ⟨_, rfl⟩
      rw [hx] at hrel1 htk
      obtain ⟨vr, rfl, hl⟩ := hrel1
      have hbw := HB.out
      have c0 : wr.cell? ⟨b, o + i, none⟩ = some vr := by
        rw [hbw.cell (p := ⟨b, _, none⟩) (HKK.out _ hKb)]
        have := hcell 0 vr rfl
        simpa using this
      have hlw : ListIs rVal 4 32 K wr vr x := ListIs.later mVal hl HKK.out hbw
      obtain ⟨Y, hY⟩ : ∃ Y, wr.alloc (.cells #[] 126) = Y := ⟨_, rfl⟩
      have hbY : Below wr.heap.size wr Y := by rw [← hY]; exact (Below.refl _ _).alloc (Nat.le_refl _) _
      have hgY : Y.heap[wr.heap.size]? = some (.cells #[] 126 (0, 0)) := by rw [← hY]; exact heap_alloc_new wr _
      obtain ⟨X, p1, c1, hC⟩ := cpy_list fVal Try.underlying96 hk0 hk1 hk2 hk3 rfl (by omega) (by omega) hgY (ListIs.later mVal hlw (fun b hb => Nat.lt_of_lt_of_le (HKK.out b hb) hbw.size) hbY)
      have hbX : Below wr.heap.size wr X := hC.below _ _ hbY (Nat.le_refl _)
      have hJX := HJ.out.keep mRow hbX
      have hlen : (xs.take i).length = i := by simp; omega
      have hmx : i + 1 ≤ maxLen := by have := HBY.out; unfold maxLen; omega
      have hb24 : (i + 1) * 24 ≤ 140737488355328 := by have := HBY.out; omega
      obtain ⟨v', X2, e2, hJ2, hb2, hs2, hold2⟩ := OwnR.push mRow Try.underlying30 hj0 hj1 hj2 hj3 rfl (by omega) hJX (Nat.le_trans hbw.size hbX.size) (cs := [.slice p1 x.length c1]) (x := x) (K2 := From wr.heap.size X) rfl (fun c hc => by simp at hc; subst hc; rfl)
        (fun b hb => ⟨Nat.le_trans hbw.size hb.1, hb.2, fun e => by obtain ⟨_, _, _, ho, _⟩ := HJ.out; have := (ho.lt _ e).2; have := hb.1; omega⟩) ⟨_, rfl, hC.list⟩ (by rw [hlen]; exact hb24) (by rw [hlen]; exact hmx)
      have hRUN1 := hC.run
      have HJ2 : Hid (OwnR rRow 1 96 w.heap.size X2 v' (xs.take (i + 1))) := by rw [htk]; exact hJ2
      have HB2 : Hid (Below w.heap.size w X2) := hb2 _ _ (hbw.trans (hbX.mono hbw.size)) (Nat.le_refl _)
      have z0 : (0 : Int) ≤ (i : Int) := by omega
      have z1 : (i : Int) < (xs.length : Int) := by omega
      obtain ⟨pr, cr, rfl, _, _⟩ := id hl
      clear hc hcell hx HJ HB hKb hcl hbw hlw hbY hgY hbX hJX hlen hmx hb24 hJ2 hb2 hs2 hold2 hl htk hC
      go_wp2_with (first | (at_builtin; refine Lib.wpList_append_run _ rfl _ _ _ _ rfl _ _ rfl rfl _ _ hRUN1 ?_) | (at_builtin; refine Lib.wpList_append_run _ rfl _ _ _ _ rfl _ _ rfl rfl _ _ e2 ?_))
      go_roundg g'
      case measure => omega
      case rel => exact ⟨_, i + 1, rfl, by go_num, by omega, by omega, HJ2, HB2⟩
    · have z1 : ¬ (i : Int) < (xs.length : Int) := by omega
      have hJ := HJ.out
      rw [List.take_of_length_le (by omega)] at hJ
      obtain ⟨pf, cf, huf, hlf⟩ := hJ.list mRow HBY.out
      subst huf
      have HF : Hid (ListIs rRow 1 24 (From w.heap.size wr) wr (.slice pf xs.length cf) xs ∧ Below w.heap.size w wr) := ⟨hlf, HB.out⟩
      clear HJ hJ hlf HB
      go_wp2_with fail
      go_ret
      exact ⟨_, _, rfl, HF.out⟩
end Go.Proofs.Ytcmiphgeakdonaa

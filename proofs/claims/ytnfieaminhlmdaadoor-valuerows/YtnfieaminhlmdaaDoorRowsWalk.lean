/- The law ValueRows returns true, of any row, any columns and any value. -/
import Derived.Test.YtnfieaminhlmdaaDoorRowsA
namespace Go.Proofs.YtnfieaminhlmdaaDoor
open Go.RowKit Go.Lib Go.Sort
set_option linter.unusedVariables false
attribute [local go_sem ↓] Go.wp_at_zero Go.wp_at_succ

structure Later (B : Nat) (W0 : World) where
  w : World
  h : Below B W0 w
theorem wp_region_later {P : Program} {id : Nat} {Q : Exit → Act → World → Prop} {a : Act} {w : World} {l : List Oper} (hm : P.follows .mixedOrders = true) (hB : Region.lexB .any l.toArray = true)
    (h : wpQuiet P l.toArray (fun w' => ∃ p : Later w.heap.size w, w' = p.w) (fun a' => ∀ w', (∃ p : Later w.heap.size w, w' = p.w) → Q .normal a' w') l a) : (Code.region id l.toArray true).wp P Q a w :=
  wp_region_quiet (C := fun w' => ∃ p : Later w.heap.size w, w' = p.w) hm hB ⟨⟨w.drew, (Below.refl _ _).drew⟩, rfl⟩ (by simpa using h)
theorem calls_later {P : Program} {f : FuncId} {args : Array Value} {W0 : World} {p : Later W0.heap.size W0} {v : Value}
    (h : Calls P f args p.w fun e w' => e = .returned v ∧ Below p.w.heap.size p.w w') : Calls P f args p.w fun e w'' => e = .returned v ∧ ∃ p' : Later W0.heap.size W0, w'' = p'.w :=
  h.mono fun _ _ ⟨he, hb⟩ => ⟨he, ⟨_, p.h.trans (hb.mono p.h.size)⟩, rfl⟩
theorem mixedOn : Tryd.prog.follows .mixedOrders = true := by kernel_rfl
/-- What stands in the law's loop. -/
def GoodT (ok t : Bool) (xs : List Val) (ks : List Int) (i : Nat) (C : Int) : Prop := ok = true → t = true ∧ chkRow (xs.drop i) (ks.drop i) = C
def GoodF (ok : Bool) (C : Int) : Prop := ok = false → C ≠ 0
theorem rowC_below {w w' : World} {p : Option Addr} {xs : List Val} (h : RowC w p xs) (hb : Below w.heap.size w w') : RowC w' p xs := by
  rcases h with h | ⟨ad, rfl, h⟩
  · exact .inl h
  · refine .inr ⟨ad, rfl, fun j u hj => ?_⟩
    obtain ⟨h1, h2⟩ := h j u hj
    refine ⟨?_, Nat.lt_of_lt_of_le h2 hb.size⟩
    rw [hb.cell (by unfold Addr.add; split <;> exact h2)]
    exact h1
theorem blk0 (wr : World) (o : Obj) : (wr.alloc o).drew.heap[wr.heap.size]? = some o := by
  show (wr.alloc o).heap[wr.heap.size]? = some o
  simp only [push_at]; simp
theorem blk1 (wr : World) (o1 o2 : Obj) : ((wr.alloc o1).alloc o2).drew.heap[wr.heap.size]? = some o1 := by
  show ((wr.alloc o1).alloc o2).heap[wr.heap.size]? = some o1
  simp only [push_at, size_at]
  rw [if_neg (by omega)]; simp
theorem blk2 (wr : World) (o1 o2 : Obj) : ((wr.alloc o1).alloc o2).drew.heap[wr.heap.size + 1]? = some o2 := by
  show ((wr.alloc o1).alloc o2).heap[wr.heap.size + 1]? = some o2
  simp only [push_at, size_at]; simp
theorem bel1 (wr : World) (o : Obj) : Below wr.heap.size wr (wr.alloc o).drew := ((Below.refl _ _).alloc (Nat.le_refl _) _).drew
theorem bel2 (wr : World) (o1 o2 : Obj) : Below wr.heap.size wr ((wr.alloc o1).alloc o2).drew := (((Below.refl _ _).alloc (Nat.le_refl _) _).alloc (by rw [size_at]; omega) _).drew
theorem keepV {wr W : World} {blk : Nat} {vk : Int} {vb : Bool} {vn : Int} {vs : ByteArray} (hb : Below wr.heap.size wr W) (y0 : wr.cell? ⟨blk, 0, none⟩ = some (.int .u8 vk)) (y1 : wr.cell? ⟨blk, 1, none⟩ = some (.bool vb)) (y2 : wr.cell? ⟨blk, 2, none⟩ = some (.int .i64 vn))
    (y3 : wr.cell? ⟨blk, 3, none⟩ = some (.string vs)) (hlt : blk < wr.heap.size) :
    W.cell? ⟨blk, 0, none⟩ = some (.int .u8 vk) ∧ W.cell? ⟨blk, 1, none⟩ = some (.bool vb) ∧ W.cell? ⟨blk, 2, none⟩ = some (.int .i64 vn) ∧ W.cell? ⟨blk, 3, none⟩ = some (.string vs) := by
  refine ⟨?_, ?_, ?_, ?_⟩
  · rw [hb.cell hlt]; exact y0
  · rw [hb.cell hlt]; exact y1
  · rw [hb.cell hlt]; exact y2
  · rw [hb.cell hlt]; exact y3
set_option maxRecDepth 100000 in
set_option maxHeartbeats 8000000 in
theorem rows_core (p q : Option Addr) (m c1 c2 : Nat) (xs : List Val) (ks : List Int) (vk : Int) (vb : Bool) (vn : Int) (vs : ByteArray) (w : World) (hT : Lib.Utf8Tabs 0 1 w) (t : Bool) (ht : ((xs.length : Int) == (m : Int)) = t)
    (hn : (xs.length + 1) * 32 ≤ 140737488355328) (hm : m ≤ 9223372036854775807) (HC : Hid (RowC w p xs)) (HS : Hid (∀ x ∈ xs, x.s.size ≤ 9223372036854775807))
    (HX : Hid (t = true → 0 < xs.length → ∃ b1 o1 b2 o2, p = some ⟨b1, o1, none⟩ ∧ q = some ⟨b2, o2, none⟩ ∧ RowIs w b1 o1 xs ∧ ColIs w b2 o2 ks ∧ b1 < w.heap.size ∧ b2 < w.heap.size ∧ ks.length = xs.length))
    (C : Int) (HCd : Hid (C = if t then chkRow xs ks else 3))
    (CR : Hid (∀ W, Below w.heap.size w W → Calls Tryd.prog 17 #[.slice p xs.length c1, .slice q m c2] W fun e w' => e = .returned (.int .i64 C) ∧ Below W.heap.size W w')) :
    Calls Tryd.prog 6 #[.slice p xs.length c1, .slice q m c2, .agg #[.int .u8 vk, .bool vb, .int .i64 vn, .string vs]] w fun e w' => e = .returned (.bool true) ∧ Below w.heap.size w w' := by
  have LV : Hid (∀ W, Below w.heap.size w W → Calls Tryd.prog 7 #[] W fun e w' => e = .returned (.bool true) ∧ Below W.heap.size W w') := fun W h => lives_any W (Utf8Tabs_below hT h)
  have HT : Hid (Lib.Utf8Tabs 0 1 w) := hT
  have HE : Hid (t = true ↔ xs.length = m) := by
    show _ ↔ _
    rw [← ht, beq_iff_eq]; omega
  clear hT
  go_enter Tryd.func6, Tryd.ntmps6
  go_wp2_with fail
  refine (LV.out _ ((Below.refl _ _).alloc (Nat.le_refl _) _)).mono ?_
  rintro e w1 ⟨rfl, hb1⟩
  have z0 : w1.cell? ⟨w.heap.size, 0, none⟩ = some (.int .u8 vk) := by rw [hb1.cell (by simp)]; exact cell_own w _ _ _ _ rfl
  have z1 : w1.cell? ⟨w.heap.size, 1, none⟩ = some (.bool vb) := by rw [hb1.cell (by simp)]; exact cell_own w _ _ _ _ rfl
  have z2 : w1.cell? ⟨w.heap.size, 2, none⟩ = some (.int .i64 vn) := by rw [hb1.cell (by simp)]; exact cell_own w _ _ _ _ rfl
  have z3 : w1.cell? ⟨w.heap.size, 3, none⟩ = some (.string vs) := by rw [hb1.cell (by simp)]; exact cell_own w _ _ _ _ rfl
  have hs1 : w.heap.size + 1 ≤ w1.heap.size := by have := hb1.size; simpa using this
  have hbw1 : Below w.heap.size w w1 := ((Below.refl _ _).alloc (Nat.le_refl _) _).trans (hb1.mono (by simp))
  have HB1 : Hid (Below w.heap.size w w1) := hbw1
  clear hb1 hbw1 LV
  go_wp2
  go_loopg [7, 8] xs.length (fun gf s7 s8 wx => ∃ (ok : Bool) (i : Nat), s7 = .bool ok ∧ s8 = .int .i64 i ∧ i ≤ xs.length ∧ Below w1.heap.size w1 wx ∧ Hid (GoodT ok t xs ks i C) ∧ Hid (GoodF ok C) ∧ xs.length ≤ i + gf)
  case atStart =>
    refine ⟨t, 0, rfl, rfl, by omega, Below.refl _ _, ?_, ?_, by omega⟩
    · intro h
      refine ⟨h, ?_⟩
      rw [HCd.out, if_pos h]; rfl
    · intro h
      rw [HCd.out, h]; simp
  case round =>
    obtain ⟨ok, i, rfl, rfl, hin, hbw, HO, HO2, hgf⟩ := hrel
    cases ok
    · have hC : C ≠ 0 := HO2.out rfl
      have hC0 : (C == 0) = false := beq_eq_false_iff_ne.2 hC
      clear HO HO2 hC
      go_wp2
      have hsr := hbw.size
      have y0 : wr.cell? ⟨w.heap.size, 0, none⟩ = some (.int .u8 vk) := by rw [hbw.cell (by simp; omega)]; exact z0
      have y1 : wr.cell? ⟨w.heap.size, 1, none⟩ = some (.bool vb) := by rw [hbw.cell (by simp; omega)]; exact z1
      have y2 : wr.cell? ⟨w.heap.size, 2, none⟩ = some (.int .i64 vn) := by rw [hbw.cell (by simp; omega)]; exact z2
      have y3 : wr.cell? ⟨w.heap.size, 3, none⟩ = some (.string vs) := by rw [hbw.cell (by simp; omega)]; exact z3
      have hrow : RowC wr p xs := rowC_below HC.out (HB1.out.trans (hbw.mono HB1.out.size))
      have RW : Hid (RowC wr p xs) := hrow
      clear hrow
      go_region_held3 (fun w' => w'.cell? ⟨w.heap.size, 0, none⟩ = some (.int .u8 vk) ∧ w'.cell? ⟨w.heap.size, 1, none⟩ = some (.bool vb) ∧ w'.cell? ⟨w.heap.size, 2, none⟩ = some (.int .i64 vn) ∧ w'.cell? ⟨w.heap.size, 3, none⟩ = some (.string vs))
        (first
          | exact ⟨y0, y1, y2, y3⟩
          | (refine keepV ?_ y0 y1 y2 y3 (show _ < wr.heap.size by omega); first | exact hbz | exact hba | exact (hba.alloc hba.size _) | exact bel1 _ _ | exact bel2 _ _ _)
          | (trace_state; fail))
        ((first
          | (refine step_first _ wr rfl _ _ rfl _ _ p xs rfl rfl (by first | exact blk0 _ _ | exact blk1 _ _ _ | exact blk2 _ _ _) (by omega) (by first | exact bel1 _ _ | exact bel2 _ _ _) RW.out (by omega) ?_; intro va Wa hoa hka hsa hba)
          | (refine step_last _ wr rfl _ _ rfl va xs.length _ _ vk vb vn vs rfl (own_later hoa ((Below.refl _ _).alloc (Nat.le_refl _) _)) rfl (heap_alloc_new _ _) (hba.alloc hba.size _) (by omega) ?_; intro pz cz Wz hbz)
          | (refine step_last _ wr rfl _ _ rfl va xs.length _ _ vk vb vn vs rfl hoa rfl (by first | (rw [hka _ (by show _ < (World.alloc _ _).heap.size; rw [size_at, size_at]; omega) (by omega)]; first | exact blk1 _ _ _ | exact blk2 _ _ _)) hba (by omega) ?_; intro pz cz Wz hbz)))
      all_goals
        have HZ : Hid (Below w.heap.size w Wz) := (HB1.out.trans (hbw.mono HB1.out.size)).trans (hbz.mono (by have := HB1.out.size; omega))
        clear hbz hba hoa hka hsa RW y0 y1 y2 y3
        go_wp2_with fail
        refine (CR.out _ HZ.out).mono ?_
        rintro e w2 ⟨rfl, hb2⟩
        have HF : Hid (Below w.heap.size w w2) := HZ.out.trans (hb2.mono HZ.out.size)
        clear hb2
        go_wp2
        go_ret
        exact ⟨rfl, HF.out⟩
    · have hO := HO.out rfl
      obtain ⟨htt, hch⟩ := hO
      subst htt
      have HLM : Hid (xs.length = m) := HE.out.1 rfl
      clear HO HO2
      by_cases hlt : i < xs.length
      · obtain ⟨g', rfl⟩ : ∃ g', gk = g' + 1 := ⟨gk - 1, by omega⟩
        obtain ⟨b1, o1, b2, o2, rfl, rfl, hrx, hcx, hB1, hB2, hkl⟩ := HX.out rfl (by omega)
        have hww : Below w.heap.size w wr := HB1.out.trans (hbw.mono HB1.out.size)
        have hik : i < ks.length := by omega
        obtain ⟨x0, x1, x2, x3⟩ := hrx i hlt
        have k0 := hcx i hik
        rw [← hww.cell (p := ⟨b1, _, none⟩) hB1] at x0 x1 x2 x3
        rw [← hww.cell (p := ⟨b2, _, none⟩) hB2] at k0
        have hb1r : b1 < wr.heap.size := Nat.lt_of_lt_of_le hB1 hww.size
        have hb2r : b2 < wr.heap.size := Nat.lt_of_lt_of_le hB2 hww.size
        rw [chkRow_at xs ks i hlt hik] at hch
        have kc := fun W h => check_any xs[i] W (HS.out _ (List.getElem_mem hlt)) (Utf8Tabs_below HT.out h)
        obtain ⟨⟨xk, xb, xn, xsx⟩, hxv⟩ : ∃ v, xs[i] = v := ⟨_, rfl⟩
        obtain ⟨ck, hck⟩ : ∃ v, ks[i] = v := ⟨_, rfl⟩
        rw [hxv] at kc hch x0 x1 x2 x3
        rw [hck] at hch k0
        simp only [Val.agg] at kc x0 x1 x2 x3
        obtain ⟨c, hc⟩ : ∃ c, chkV ⟨xk, xb, xn, xsx⟩ = c := ⟨_, rfl⟩
        rw [hc] at kc hch
        have px0 : ∀ p : Later wr.heap.size wr, p.w.cell? ⟨b1, o1 + i * 4, none⟩ = some (.int .u8 xk) := fun p => by rw [p.h.cell hb1r]; exact x0
        have px1 : ∀ p : Later wr.heap.size wr, p.w.cell? ⟨b1, o1 + i * 4 + 1, none⟩ = some (.bool xb) := fun p => by rw [p.h.cell hb1r]; exact x1
        have px2 : ∀ p : Later wr.heap.size wr, p.w.cell? ⟨b1, o1 + i * 4 + 2, none⟩ = some (.int .i64 xn) := fun p => by rw [p.h.cell hb1r]; exact x2
        have px3 : ∀ p : Later wr.heap.size wr, p.w.cell? ⟨b1, o1 + i * 4 + 3, none⟩ = some (.string xsx) := fun p => by rw [p.h.cell hb1r]; exact x3
        have pk0 : ∀ p : Later wr.heap.size wr, p.w.cell? ⟨b2, o2 + i * 2 + 1, none⟩ = some (.int .u8 ck) := fun p => by rw [p.h.cell hb2r]; exact k0
        have KC : Hid (∀ p : Later wr.heap.size wr, Calls Tryd.prog 10 #[.agg #[.int .u8 xk, .bool xb, .int .i64 xn, .string xsx]] p.w fun e w' => e = .returned (.int .i64 c) ∧ Below p.w.heap.size p.w w') := fun p => kc p.w (hww.trans (p.h.mono hww.size))
        haveI : Inhabited (Later wr.heap.size wr) := ⟨⟨wr, Below.refl _ _⟩⟩
        have hz0 : (0 : Int) ≤ (i : Int) := by omega
        have hz1 : (i : Int) < (xs.length : Int) := by omega
        have hz2 : (i : Int) < (m : Int) := by have := HLM.out; omega
        have HCH : Hid ((if c = 0 then (if xk ≠ 0 ∧ xk ≠ ck then 5 else chkRow (xs.drop (i + 1)) (ks.drop (i + 1))) else c) = C) := hch
        clear x0 x1 x2 x3 k0 kc hxv hck hc hch hrx hcx hww hB1 hB2 hkl hik HC HX HS
        by_cases h0 : c = 0
        · subst h0
          by_cases hk0 : xk = 0
          · subst hk0
            have H1 : Hid (GoodT true true xs ks (i + 1) C) := fun _ => ⟨rfl, by have := HCH.out; simpa using this⟩
            have H2 : Hid (GoodF true C) := fun h => by cases h
            clear HCH
            go_wp2
            refine wp_region_later mixedOn (by kernel_rfl) ?_
            repeat (go_big_quiet_step ((go_at_call 10; exact calls_later (KC.out _))))
            refine wpQuiet_nil ?_
            intro _ hw'
            obtain ⟨⟨wq, hwq⟩, hw''⟩ := hw'
            subst hw''
            go_wp2_with fail
            go_roundg g'
            case measure => omega
            case rel => exact ⟨true, i + 1, rfl, by go_num, by omega, hbw.trans (hwq.mono hbw.size), H1, H2, by omega⟩
          · have e0 : (xk == 0) = false := beq_eq_false_iff_ne.2 hk0
            by_cases hkc : xk = ck
            · subst hkc
              have H1 : Hid (GoodT true true xs ks (i + 1) C) := fun _ => ⟨rfl, by have := HCH.out; simpa using this⟩
              have H2 : Hid (GoodF true C) := fun h => by cases h
              clear HCH hk0
              go_wp2
              refine wp_region_later mixedOn (by kernel_rfl) ?_
              repeat (go_big_quiet_step ((go_at_call 10; exact calls_later (KC.out _))))
              refine wpQuiet_nil ?_
              intro _ hw'
              obtain ⟨⟨wq, hwq⟩, hw''⟩ := hw'
              subst hw''
              go_wp2_with fail
              go_roundg g'
              case measure => omega
              case rel => exact ⟨true, i + 1, rfl, by go_num, by omega, hbw.trans (hwq.mono hbw.size), H1, H2, by omega⟩
            · have e1 : (xk == ck) = false := beq_eq_false_iff_ne.2 hkc
              have H1 : Hid (GoodT false true xs ks (i + 1) C) := fun h => by cases h
              have H2 : Hid (GoodF false C) := fun _ => by have := HCH.out; simp [hk0, hkc] at this; omega
              clear HCH hk0 hkc
              go_wp2
              refine wp_region_later mixedOn (by kernel_rfl) ?_
              repeat (go_big_quiet_step ((go_at_call 10; exact calls_later (KC.out _))))
              refine wpQuiet_nil ?_
              intro _ hw'
              obtain ⟨⟨wq, hwq⟩, hw''⟩ := hw'
              subst hw''
              go_wp2_with fail
              go_roundg g'
              case measure => omega
              case rel => exact ⟨false, i + 1, rfl, by go_num, by omega, hbw.trans (hwq.mono hbw.size), H1, H2, by omega⟩
        · have e0 : (c == 0) = false := beq_eq_false_iff_ne.2 h0
          have H1 : Hid (GoodT false true xs ks (i + 1) C) := fun h => by cases h
          have H2 : Hid (GoodF false C) := fun _ => by have := HCH.out; rw [if_neg h0] at this; omega
          clear HCH h0
          go_wp2
          refine wp_region_later mixedOn (by kernel_rfl) ?_
          repeat (go_big_quiet_step ((go_at_call 10; exact calls_later (KC.out _))))
          refine wpQuiet_nil ?_
          intro _ hw'
          obtain ⟨⟨wq, hwq⟩, hw''⟩ := hw'
          subst hw''
          go_wp2_with fail
          go_roundg g'
          case measure => omega
          case rel => exact ⟨false, i + 1, rfl, by go_num, by omega, hbw.trans (hwq.mono hbw.size), H1, H2, by omega⟩
      · have hC : 0 = C := by
          rw [← hch, List.drop_of_length_le (by omega)]; rfl
        subst hC
        have hlt' : ¬ (i : Int) < (xs.length : Int) := by omega
        clear hch HX HCd
        go_wp2
        have hsr := hbw.size
        have y0 : wr.cell? ⟨w.heap.size, 0, none⟩ = some (.int .u8 vk) := by rw [hbw.cell (by simp; omega)]; exact z0
        have y1 : wr.cell? ⟨w.heap.size, 1, none⟩ = some (.bool vb) := by rw [hbw.cell (by simp; omega)]; exact z1
        have y2 : wr.cell? ⟨w.heap.size, 2, none⟩ = some (.int .i64 vn) := by rw [hbw.cell (by simp; omega)]; exact z2
        have y3 : wr.cell? ⟨w.heap.size, 3, none⟩ = some (.string vs) := by rw [hbw.cell (by simp; omega)]; exact z3
        have hrow : RowC wr p xs := rowC_below HC.out (HB1.out.trans (hbw.mono HB1.out.size))
        have RW : Hid (RowC wr p xs) := hrow
        clear hrow
        go_region_held3 (fun w' => w'.cell? ⟨w.heap.size, 0, none⟩ = some (.int .u8 vk) ∧ w'.cell? ⟨w.heap.size, 1, none⟩ = some (.bool vb) ∧ w'.cell? ⟨w.heap.size, 2, none⟩ = some (.int .i64 vn) ∧ w'.cell? ⟨w.heap.size, 3, none⟩ = some (.string vs))
          (first
            | exact ⟨y0, y1, y2, y3⟩
            | (refine keepV ?_ y0 y1 y2 y3 (show _ < wr.heap.size by omega); first | exact hbz | exact hba | exact (hba.alloc hba.size _) | exact bel1 _ _ | exact bel2 _ _ _)
            | (trace_state; fail))
          ((first
            | (refine step_first _ wr rfl _ _ rfl _ _ p xs rfl rfl (by first | exact blk0 _ _ | exact blk1 _ _ _ | exact blk2 _ _ _) (by omega) (by first | exact bel1 _ _ | exact bel2 _ _ _) RW.out (by omega) ?_; intro va Wa hoa hka hsa hba)
            | (refine step_last _ wr rfl _ _ rfl va xs.length _ _ vk vb vn vs rfl (own_later hoa ((Below.refl _ _).alloc (Nat.le_refl _) _)) rfl (heap_alloc_new _ _) (hba.alloc hba.size _) (by omega) ?_; intro pz cz Wz hbz)
            | (refine step_last _ wr rfl _ _ rfl va xs.length _ _ vk vb vn vs rfl hoa rfl (by first | (rw [hka _ (by show _ < (World.alloc _ _).heap.size; rw [size_at, size_at]; omega) (by omega)]; first | exact blk1 _ _ _ | exact blk2 _ _ _)) hba (by omega) ?_; intro pz cz Wz hbz)))
        all_goals
          have HZ : Hid (Below w.heap.size w Wz) := (HB1.out.trans (hbw.mono HB1.out.size)).trans (hbz.mono (by have := HB1.out.size; omega))
          clear hbz hba hoa hka hsa RW y0 y1 y2 y3
          go_wp2_with fail
          refine (CR.out _ HZ.out).mono ?_
          rintro e w2 ⟨rfl, hb2⟩
          have HF : Hid (Below w.heap.size w w2) := HZ.out.trans (hb2.mono HZ.out.size)
          clear hb2
          go_wp2_with fail
          refine (checkRow_many _ _ _ _ _ _ _ (by have := HLM.out; omega) (by omega) (by omega)).mono ?_
          rintro e w3 ⟨rfl, rfl⟩
          go_wp2
          go_ret
          exact ⟨rfl, HF.out⟩
end Go.Proofs.YtnfieaminhlmdaaDoor

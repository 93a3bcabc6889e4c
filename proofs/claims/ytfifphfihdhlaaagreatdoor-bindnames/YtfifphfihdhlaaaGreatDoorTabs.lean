/- What the listed variables give the walks. -/
import Derived.Test.YtfifphfihdhlaaaGreatDoorRgRh
import Derived.Test.YtfifphfihdhlaaaGreatDoorTie
import Derived.Lib.LaidU8T
import Derived.Lib.LaidTab
import Derived.Shelf.Vars
import Derived.PinnedBridge
import Derived.LaidMore
import Derived.MakeChecks
import Derived.Lay
namespace Go.Proofs.YtfifphfihdhlaaaGreatDoor
open Go.RowKit Go.Lib
theorem own : ownKnob Tryz.prog.godebug = none := by kernel_rfl
def bruTab : List Int := [0, 1, 56, 2, 57, 49, 28, 3, 61, 58, 42, 50, 38, 29, 17, 4, 62, 47, 59, 36, 45, 43, 51, 22, 53, 39, 33, 30, 24, 18, 12, 5, 63, 55, 48, 27, 60, 41, 37, 16, 46, 35, 44, 21, 52, 32, 23, 11, 54, 26, 40, 15, 34, 20, 31, 10, 25, 14, 19, 9, 13, 8, 7, 6]
theorem bru_eq : (Rows.laid_math_bits_deBruijn64tab : DataW Unit) = Lib.tabData .u8 bruTab := by kernel_rfl
theorem pow_eq : (Rows.laid_internal_strconv_uint64pow10 : DataW Unit) = Lib.tabData .u64 Lib.pow10Tab := by kernel_rfl
theorem accept_eq : (Rows.laid_unicode_utf8_acceptRanges : DataW Unit) = Lib.acceptData := by kernel_rfl
/-- A table of pairs of a text and a number, as a row lists it. -/
def pairData (l : List (List UInt8 × Nat)) : DataW Unit := .agg (l.map fun x => .agg [.lit (.string x.1), .lit (.int .u8 (x.2 : Int))])
theorem words_eq : (Rows.laid_potsherd_parse_words : DataW Unit) = pairData wordsP := by kernel_rfl
theorem aggs_eq : (Rows.laid_potsherd_parse_aggregates : DataW Unit) = pairData aggsP := by kernel_rfl
theorem flat_pair {α : Type} (a b : α → Value) : ∀ (l : List α) (i : Nat), (l.flatMap fun x => [a x, b x])[2 * i]? = l[i]?.map a ∧ (l.flatMap fun x => [a x, b x])[2 * i + 1]? = l[i]?.map b
 | [], i => by simp
 | x :: l, 0 => by simp
 | x :: l, i + 1 => by
  have := flat_pair a b l i
  simpa [List.flatMap_cons, Nat.mul_add] using this
/-- Such a table, cell for cell. -/
theorem pairs_reads {W : World} {name : String} {l : List (List UInt8 × Nat)} {g : Nat} {t e : TypeId} {n : Nat} {fs : Array Field} {f0 f1 : Field} (hl : l.length = n)
 (hg : Tryz.prog.globalNamed name = some g) (hty : (Tryz.prog.globals[g]?).map (·.type) = some t) (ht : Tryz.prog.underlying t = some (.array n e)) (he : Tryz.prog.underlying e = some (.struct fs)) (hce : Tryz.prog.cellsOf e = 2)
 (h0 : fs[0]? = some f0) (h1 : fs[1]? = some f1) (u0 : Tryz.prog.underlying f0.type = some .string) (u1 : Tryz.prog.underlying f1.type = some (.int .u8)) (o0 : f0.offset = 0) (o1 : f1.offset = 1) (c0 : Tryz.prog.cellsOf f0.type = 1) (c1 : Tryz.prog.cellsOf f1.type = 1)
 (h : VarReads Tryz.prog W name (pairData l)) : W.rangeAt g 0 (l.flatMap fun x => [.string ⟨x.1.toArray⟩, .int .u8 (x.2 : Int)]) := by
 obtain ⟨g', t', cs, fuel, p, hg', ht', hvar, hd⟩ := h
 obtain rfl := Option.some.inj (hg.symm.trans hg')
 obtain rfl := Option.some.inj (hty.symm.trans ht')
 have hc := World.var?_cell hg hvar
 have key : ∀ (i : Nat) (x : List UInt8 × Nat), l[i]? = some x → cs[2 * i]? = some (.string ⟨x.1.toArray⟩) ∧ cs[2 * i + 1]? = some (.int .u8 (x.2 : Int)) := by
  intro i x hx
  have hi : i < n := by rw [← hl]; exact (List.getElem?_eq_some_iff.1 hx).1
  obtain ⟨fuel', d, q, hdd, hf⟩ := array_elem ht hd i hi
  rw [List.getElem?_map, hx] at hdd
  obtain rfl := Option.some.inj hdd
  rw [hce] at hf
  obtain ⟨xs, m, -, hxx, -, -, hall⟩ := DataW.trod_struct he hf
  have hxs : xs.map (·.1) = [.lit (.string x.1), .lit (.int .u8 (x.2 : Int))] := by
   have := congrArg Prod.fst hxx
   simpa using this.symm
  match xs, hxs with
  | [y0, y1], hxs =>
   simp only [List.map_cons, List.map_nil, List.cons.injEq, and_true] at hxs
   have a0 : _ = some y0 := hall 0 f0 h0
   have a1 : _ = some y1 := hall 1 f1 h1
   rw [o0, c0] at a0
   rw [o1, c1] at a1
   obtain ⟨s, hs, e0, -⟩ := DataW.trod_string u0 a0
   obtain ⟨k, hk, e1, -⟩ := DataW.trod_int u1 a1
   rw [e0, e1] at hxs
   simp only [DataW.lit.injEq, Lit.string.injEq, Lit.int.injEq, true_and] at hxs
   have b0 := congrArg (·[0]?) hs
   have b1 := congrArg (·[0]?) hk
   have es : (⟨x.1.toArray⟩ : ByteArray) = s := by rw [← hxs.1]
   refine ⟨?_, ?_⟩
   · rw [es]; simpa [List.getElem?_take, List.getElem?_drop, Nat.mul_comm] using b0
   · rw [← hxs.2]; simpa [List.getElem?_take, List.getElem?_drop, Nat.mul_comm] using b1
  | [], hxs => simp at hxs
  | [_], hxs => simp at hxs
  | _ :: _ :: _ :: _, hxs => simp at hxs
 intro j u hu
 show W.cell? ⟨g, 0 + j, none⟩ = some u
 rw [Nat.zero_add, hc j]
 have hf := flat_pair (fun x : List UInt8 × Nat => Value.string ⟨x.1.toArray⟩) (fun x => Value.int .u8 (x.2 : Int)) l (j / 2)
 rcases Nat.mod_two_eq_zero_or_one j with hj | hj
 · have ej : 2 * (j / 2) = j := by omega
   rw [ej, hu] at hf
   obtain ⟨x, hx, rfl⟩ := Option.map_eq_some_iff.1 hf.1.symm
   have := (key _ x hx).1
   rwa [ej] at this
 · have ej : 2 * (j / 2) + 1 = j := by omega
   rw [ej, hu] at hf
   obtain ⟨x, hx, rfl⟩ := Option.map_eq_some_iff.1 hf.2.symm
   have := (key _ x hx).2
   rwa [ej] at this
theorem tab_reads {W : World} {name : String} {k : IntKind} {zs : List Int} {g : Nat} {t e : TypeId} {n : Nat}
 (hg : Tryz.prog.globalNamed name = some g) (hty : (Tryz.prog.globals[g]?).map (·.type) = some t) (ht : Tryz.prog.underlying t = some (.array n e)) (he : Tryz.prog.underlying e = some (.int k)) (hce : Tryz.prog.cellsOf e = 1) (hct : Tryz.prog.cellsOf t = n)
 (h : VarReads Tryz.prog W name (tabData k zs)) : TabIs Tryz.prog W name k zs := by
 obtain ⟨g', t', cs, fuel, p, hg', ht', hvar, hd⟩ := h
 obtain rfl := Option.some.inj (hg.symm.trans hg')
 obtain rfl := Option.some.inj (hty.symm.trans ht')
 unfold TabIs
 rw [hvar, ← cells_of_tab ht he hce hct hd]
theorem iface_reads {W : World} {name nm : String} {d : DataW Unit} {g : Nat} (hg : Tryz.prog.globalNamed name = some g) (hty : (Tryz.prog.globals[g]?).map (·.type) = some 202)
 (h : VarReads Tryz.prog W name (.iface nm d)) : ∃ te pe, W.cell? ⟨g, 0, none⟩ = some (.iface te pe) := by
 obtain ⟨g', t', cs, fuel, p, hg', ht', hvar, hd⟩ := h
 obtain rfl := Option.some.inj (hg.symm.trans hg')
 obtain rfl := Option.some.inj (hty.symm.trans ht')
 have hc := World.var?_cell hg hvar 0
 cases fuel with
 | zero => simp [DataW.trod] at hd
 | succ fuel =>
  simp only [DataW.trod, Tryz.underlying202] at hd
  obtain ⟨l⟩ := cs
  match l, hd, hc with
  | [], hd, hc => simp at hd
  | [x], hd, hc =>
   cases x with
   | iface u v => exact ⟨u, v, by rw [hc]; rfl⟩
   | _ => simp at hd
  | x :: y :: r, hd, hc => simp at hd
set_option maxRecDepth 100000 in
theorem ga_of {W : World} {l : List (String × DataW Unit)} (hm : laidMet Tryz.prog l W) (hsh : W.ShapedOpen Tryz.prog)
 (h1 : ("internal/strconv.uint64pow10", Rows.laid_internal_strconv_uint64pow10) ∈ l) (h2 : ("strconv.ErrSyntax", Rows.laid_strconv_ErrSyntax) ∈ l) (h3 : ("strconv.ErrRange", Rows.laid_strconv_ErrRange) ∈ l) (h4 : ("math/bits.deBruijn64tab", Rows.laid_math_bits_deBruijn64tab) ∈ l)
 (h5 : ("unicode/utf8.acceptRanges", Rows.laid_unicode_utf8_acceptRanges) ∈ l) (h6 : ("potsherd/parse.words", Rows.laid_potsherd_parse_words) ∈ l) (h7 : ("potsherd/parse.aggregates", Rows.laid_potsherd_parse_aggregates) ∈ l) (h8 : ("unicode/utf8.first", Rows.laid_unicode_utf8_first) ∈ l) : GA W := by
 have r1 := laidMet.reads hm h1
 have r2 := laidMet.reads hm h2
 have r3 := laidMet.reads hm h3
 have r4 := laidMet.reads hm h4
 have r5 := laidMet.reads hm h5
 have r6 := laidMet.reads hm h6
 have r7 := laidMet.reads hm h7
 have r8 := laidMet.reads hm h8
 rw [pow_eq] at r1
 rw [bru_eq] at r4
 rw [accept_eq] at r5
 rw [words_eq] at r6
 rw [aggs_eq] at r7
 rw [show Rows.laid_unicode_utf8_first = Lib.firstData from Pinned.utf8First_eq] at r8
 have t1 := tab_reads (g := 4) (by kernel_rfl) (by kernel_rfl) Tryz.underlying249 Tryz.underlying154 (by kernel_rfl) (by kernel_rfl) r1
 have t4 := tab_reads (g := 7) (by kernel_rfl) (by kernel_rfl) Tryz.underlying266 Tryz.underlying5 (by kernel_rfl) (by kernel_rfl) r4
 have t6 := pairs_reads (l := wordsP) (g := 2) rfl (by kernel_rfl) (by kernel_rfl) Tryz.underlying194 Tryz.underlying193 (by kernel_rfl) rfl rfl Tryz.underlying9 (by kernel_rfl) rfl rfl (by kernel_rfl) (by kernel_rfl) r6
 have t7 := pairs_reads (l := aggsP) (g := 5) rfl (by kernel_rfl) (by kernel_rfl) Tryz.underlying257 Tryz.underlying256 (by kernel_rfl) rfl rfl Tryz.underlying9 (by kernel_rfl) rfl rfl (by kernel_rfl) (by kernel_rfl) r7
 have t8 := utf8Tabs_of_readsT (ρ := Tryz.laysValid_ren) (U8Types.of196 Tryz.laysValid) ⟨by kernel_rfl, by kernel_rfl, by kernel_rfl, by kernel_rfl, by kernel_rfl, by kernel_rfl, by kernel_rfl⟩ r8 r5
 have c9 := TabIs.cell (g := 7) t4 (by kernel_rfl) 15 (by decide)
 have hb : 7 < W.heap.size := World.block_lt_of_cell? W _ c9
 have hb5 : 8 < W.heap.size := by
  obtain ⟨_, _, hh⟩ := iface_reads (g := 8) (by kernel_rfl) (by kernel_rfl) r2
  exact World.block_lt_of_cell? W _ hh
 have hb6 : 9 < W.heap.size := by
  obtain ⟨_, _, hh⟩ := iface_reads (g := 9) (by kernel_rfl) (by kernel_rfl) r3
  exact World.block_lt_of_cell? W _ hh
 exact ⟨⟨⟨t1, iface_reads (g := 8) (by kernel_rfl) (by kernel_rfl) r2, iface_reads (g := 9) (by kernel_rfl) (by kernel_rfl) r3⟩, c9⟩, ⟨⟨t6, t7⟩, t8, cell_of_shapedOpen_int hsh (t := 3) (zero := #[.int .i64 0]) (of_decide_eq_true (by kernel_rfl)) (by kernel_rfl) rfl (by kernel_rfl) (by kernel_rfl) (by kernel_rfl)⟩, by show 10 ≤ W.heap.size; omega⟩
end Go.Proofs.YtfifphfihdhlaaaGreatDoor

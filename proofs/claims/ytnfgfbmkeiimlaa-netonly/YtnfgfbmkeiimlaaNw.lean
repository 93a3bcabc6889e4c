/- Moves, and what becomes of a net: what stays true. -/
import Derived.Test.YtnfgfbmkeiimlaaNv
import Derived.Test.YtnfgfbmkeiimlaaNr
namespace Go.Proofs.Ytnfgfbmkeiimlaa
open Go.Shelf Go.RowKit Go.Lib Go.Sort
set_option linter.unusedVariables false
set_option linter.unusedSimpArgs false
attribute [local go_sem ↓] Go.wp_at_zero Go.wp_at_succ
/-- A move. -/
structure MV where
  k : Int
  f : Int
  t : Int
  x : ByteArray
def MsIs (w : World) (b o : Nat) (ms : List MV) : Prop :=
  ∀ j (h : j < ms.length), w.cell? ⟨b, o + j * 4, none⟩ = some (.int .u8 ms[j].k) ∧ w.cell? ⟨b, o + j * 4 + 1, none⟩ = some (.int .i64 ms[j].f) ∧ w.cell? ⟨b, o + j * 4 + 2, none⟩ = some (.int .i64 ms[j].t) ∧ w.cell? ⟨b, o + j * 4 + 3, none⟩ = some (.string ms[j].x)
def MsL (w : World) (v : Value) (ms : List MV) : Prop :=
  ∃ p c, v = .slice p ms.length c ∧ ms.length * 40 ≤ 140737488355328 ∧ (∀ m ∈ ms, (0 ≤ m.k ∧ m.k ≤ 255) ∧ m.x.size ≤ 140737488355328) ∧ (0 < ms.length → ∃ b o, p = some ⟨b, o, none⟩ ∧ b < w.heap.size ∧ MsIs w b o ms)
theorem MsIs.below {w W : World} {b o : Nat} {ms : List MV} (h : MsIs w b o ms) (hlt : b < w.heap.size) (hb : Below w.heap.size w W) : MsIs W b o ms := fun j hj => by
  rw [hb.cell (p := ⟨b, _, none⟩) hlt, hb.cell (p := ⟨b, _, none⟩) hlt, hb.cell (p := ⟨b, _, none⟩) hlt, hb.cell (p := ⟨b, _, none⟩) hlt]; exact h j hj
/-- A move's own box. -/
def BoxM (g : Nat) (m : MV) (W : World) : Prop := W.heap[g]? = some (.cells #[.int .u8 m.k, .int .i64 m.f, .int .i64 m.t, .string m.x] 40 (0, 0))
theorem BoxM.below {g : Nat} {m : MV} {W W' : World} (h : BoxM g m W) (hb : Below W.heap.size W W') : BoxM g m W' := by
  unfold BoxM at h ⊢
  rw [hb.block _ (Array.getElem?_eq_some_iff.1 h).1]; exact h
theorem BoxM.cells {g : Nat} {m : MV} {W : World} (h : BoxM g m W) : W.cell? ⟨g, 0, none⟩ = some (.int .u8 m.k) ∧ W.cell? ⟨g, 1, none⟩ = some (.int .i64 m.f) ∧ W.cell? ⟨g, 2, none⟩ = some (.int .i64 m.t) ∧ W.cell? ⟨g, 3, none⟩ = some (.string m.x) := ⟨cell_of_row h rfl, cell_of_row h rfl, cell_of_row h rfl, cell_of_row h rfl⟩
theorem okN_iff {ps : List PK} : okN ps = true ↔ ps.length ≤ 4096 ∧ ∀ p ∈ ps, wrongP p = false := by
  unfold okN
  rw [Bool.and_eq_true, decide_eq_true_eq, Bool.not_eq_true', List.any_eq_false]
  constructor
  · rintro ⟨h1, h2⟩; exact ⟨h1, fun p hp => by simpa using h2 p hp⟩
  · rintro ⟨h1, h2⟩; exact ⟨h1, fun p hp => by rw [h2 p hp]; simp⟩
theorem okN_small {ps : List PK} (h : okN ps = true) : SmallP ps := fun p hp => by
  have := (okN_iff.1 h).2 p hp
  unfold wrongP at this
  simp only [Bool.or_eq_false_iff, decide_eq_false_iff_not] at this
  omega
theorem chN_ok {ps : List PK} (h : okN ps = true) : chN ps = 0 := by unfold chN; rw [if_pos h]
/-- What has become of a net, and of what was sent: it is right, all that is there was sent, and as much is there, or came, as was sent, with what was copied and without what was lost. -/
structure Kept (k : Nat) (ns ss : List PK) (e g : Int) : Prop where
  ok : okN ns = true
  sub : ∀ p ∈ ns, p ∈ ss
  cnt : (ns.length : Int) + g = (ss.length : Int) + e
  few : ss.length ≤ k
  eb : -(k : Int) ≤ e ∧ e ≤ (k : Int)
  gb : 0 ≤ g ∧ g ≤ (k : Int)
  small : SmallP ss
theorem Kept.next {k : Nat} {ns ss : List PK} {e g : Int} (h : Kept k ns ss e g) : Kept (k + 1) ns ss e g := ⟨h.ok, h.sub, h.cnt, by have := h.few; omega, by have := h.eb; omega, by have := h.gb; omega, h.small⟩
theorem Kept.sent {k : Nat} {ns ss : List PK} {e g : Int} (h : Kept k ns ss e g) {f t : Int} {x : ByteArray} (h0 : refE ns f t x = 0) : sndP ns f t x = ns ++ [⟨f, t, x⟩] ∧ Kept (k + 1) (ns ++ [⟨f, t, x⟩]) (ss ++ [⟨f, t, x⟩]) e g := by
  obtain ⟨h1, h2, h3, h4, h5⟩ := refE_zero h0
  refine ⟨by unfold sndP; rw [if_pos h0], okN_iff.2 ⟨by simp; omega, fun p hp => ?_⟩, fun p hp => ?_, ?_, by have := h.few; simp; omega, by have := h.eb; omega, by have := h.gb; omega, fun p hp => ?_⟩
  · rcases List.mem_append.1 hp with hp | hp
    · exact (okN_iff.1 h.ok).2 p hp
    · simp only [List.mem_singleton] at hp
      subst hp
      simp [wrongP, h2, h3]; omega
  · rcases List.mem_append.1 hp with hp | hp
    · exact List.mem_append.2 (.inl (h.sub p hp))
    · exact List.mem_append.2 (.inr hp)
  · have := h.cnt; simp; omega
  · rcases List.mem_append.1 hp with hp | hp
    · exact h.small p hp
    · simp only [List.mem_singleton] at hp
      subst hp
      show x.size ≤ _
      omega
theorem Kept.refused {k : Nat} {ns ss : List PK} {e g : Int} (h : Kept k ns ss e g) {f t : Int} {x : ByteArray} (h0 : refE ns f t x ≠ 0) : sndP ns f t x = ns := by
  unfold sndP
  rw [if_neg h0]
  unfold besP
  rw [if_neg]
  unfold refE
  rw [if_neg (by simp [h.ok])]
  split
  · omega
  · split
    · omega
    · split <;> omega
theorem Kept.miss {k : Nat} {ns ss : List PK} {e g : Int} (h : Kept k ns ss e g) {i : Int} (h0 : misE ns i ≠ 0) : dlvP ns i = ns ∧ cpyE ns i ≠ 0 ∧ cpyP ns i = ns := by
  have h6 : misE ns i ≠ 6 := by
    unfold misE
    rw [if_neg (by simp [h.ok])]
    split <;> omega
  have e1 : cpyE ns i = misE ns i := by unfold cpyE; rw [if_neg (by omega)]
  refine ⟨by unfold dlvP; rw [if_neg h0]; unfold besP; rw [if_neg h6], by rw [e1]; exact h0, ?_⟩
  unfold cpyP; rw [e1, if_neg h0]; unfold besP; rw [if_neg h6]
theorem hasP_mem {fs : List PK} {p : PK} (h : p ∈ fs) : hasP fs p = true := List.any_eq_true.2 ⟨p, h, eqP_self p⟩
theorem Kept.gone {k : Nat} {ns ss : List PK} {e g : Int} (h : Kept k ns ss e g) {i : Int} (h0 : misE ns i = 0) : hasP ss (dlvK ns i) = true ∧ dlvK ns i ∈ ns ∧ okN (dlvP ns i) = true ∧ (∀ p ∈ dlvP ns i, p ∈ ss) ∧ (dlvP ns i).length + 1 = ns.length := by
  obtain ⟨_, h1, h2⟩ := misE_zero h0
  have hl : i.toNat < ns.length := by omega
  have hk : dlvK ns i = ns[i.toNat] := by unfold dlvK; rw [if_pos h0, List.getElem?_eq_getElem hl]; rfl
  have hm : dlvK ns i ∈ ns := by rw [hk]; exact List.getElem_mem hl
  have hp : dlvP ns i = ns.take i.toNat ++ ns.drop (i.toNat + 1) := by unfold dlvP; rw [if_pos h0]
  have hsub : ∀ p ∈ dlvP ns i, p ∈ ns := fun p hp' => by
    rw [hp] at hp'
    rcases List.mem_append.1 hp' with h | h
    · exact List.mem_of_mem_take h
    · exact List.mem_of_mem_drop h
  have hlen : (dlvP ns i).length + 1 = ns.length := by rw [hp]; simp; omega
  refine ⟨hasP_mem (h.sub _ hm), hm, okN_iff.2 ⟨by have := (okN_iff.1 h.ok).1; omega, fun p hp' => (okN_iff.1 h.ok).2 p (hsub p hp')⟩, fun p hp' => h.sub p (hsub p hp'), hlen⟩
theorem Kept.came {k : Nat} {ns ss : List PK} {e g : Int} (h : Kept k ns ss e g) {i : Int} (h0 : misE ns i = 0) : Kept (k + 1) (dlvP ns i) ss e (g + 1) := by
  obtain ⟨_, _, h3, h4, h5⟩ := h.gone h0
  exact ⟨h3, h4, by have := h.cnt; omega, by have := h.few; omega, by have := h.eb; omega, by have := h.gb; omega, h.small⟩
theorem Kept.lost {k : Nat} {ns ss : List PK} {e g : Int} (h : Kept k ns ss e g) {i : Int} (h0 : misE ns i = 0) : Kept (k + 1) (dlvP ns i) ss (e - 1) g := by
  obtain ⟨_, _, h3, h4, h5⟩ := h.gone h0
  exact ⟨h3, h4, by have := h.cnt; omega, by have := h.few; omega, by have := h.eb; omega, by have := h.gb; omega, h.small⟩
theorem Kept.copied {k : Nat} {ns ss : List PK} {e g : Int} (h : Kept k ns ss e g) {i : Int} (h0 : cpyE ns i = 0) : Kept (k + 1) (cpyP ns i) ss (e + 1) g := by
  have hm : misE ns i = 0 := by
    by_cases hm : misE ns i = 0
    · exact hm
    · exact absurd h0 (h.miss hm).2.1
  have hf : ¬ 4096 ≤ ns.length := fun hf => by
    unfold cpyE at h0; rw [if_pos ⟨hm, hf⟩] at h0; omega
  obtain ⟨_, hmem, _⟩ := h.gone hm
  have hp : cpyP ns i = ns ++ [dlvK ns i] := by unfold cpyP; rw [if_pos h0]
  rw [hp]
  refine ⟨okN_iff.2 ⟨by simp; omega, fun p hp => ?_⟩, fun p hp => ?_, by have := h.cnt; simp; omega, by have := h.few; omega, by have := h.eb; omega, by have := h.gb; omega, h.small⟩
  · rcases List.mem_append.1 hp with hp | hp
    · exact (okN_iff.1 h.ok).2 p hp
    · simp only [List.mem_singleton] at hp
      rw [hp]; exact (okN_iff.1 h.ok).2 _ hmem
  · rcases List.mem_append.1 hp with hp | hp
    · exact h.sub p hp
    · simp only [List.mem_singleton] at hp
      rw [hp]; exact h.sub _ hmem
theorem Kept.full {k : Nat} {ns ss : List PK} {e g : Int} (h : Kept k ns ss e g) {i : Int} (h0 : cpyE ns i ≠ 0) : cpyP ns i = ns := by
  by_cases hm : misE ns i = 0
  · have e1 : cpyE ns i = 8 := by
      unfold cpyE at h0 ⊢
      by_cases hf : 4096 ≤ ns.length
      · rw [if_pos ⟨hm, hf⟩]
      · rw [if_neg (by omega)] at h0; exact absurd hm h0
    unfold cpyP; rw [e1, if_neg (by omega)]; rfl
  · exact (h.miss hm).2.2
end Go.Proofs.Ytnfgfbmkeiimlaa

/- Orders that tell any two things apart: of numbers, bools, bytes, pairs, lists. No program stands in this text. -/
import Derived.Test.YthfoijnjgdeaaaaDoorRow
namespace Go.Proofs.YthfoijnjgdeaaaaDoor
open Go.RowKit Go.Lib
set_option linter.unusedVariables false

/-- An order by numbers: nought just if they are one. -/
structure TC {α : Type} (cf : α → α → Int) : Prop where
  zero : ∀ x y, cf x y = 0 ↔ x = y
  anti : ∀ x y, cf y x = - cf x y
  trans : ∀ x y z, cf x y < 0 → cf y z < 0 → cf x z < 0

theorem TC.self {α : Type} {cf : α → α → Int} (h : TC cf) (x : α) : cf x x = 0 := (h.zero x x).2 rfl

theorem cmpI_neg_iff (x y : Int) : cmpI x y < 0 ↔ x < y := by unfold cmpI; split <;> (try split) <;> omega
theorem tc_int : TC cmpI where
  zero x y := by unfold cmpI; split <;> (try split) <;> omega
  anti x y := by unfold cmpI; split <;> split <;> (try split) <;> omega
  trans x y z h1 h2 := by rw [cmpI_neg_iff] at *; omega
theorem tc_bool : TC cmpB where
  zero x y := by cases x <;> cases y <;> simp [cmpB]
  anti x y := by cases x <;> cases y <;> simp [cmpB]
  trans x y z := by cases x <;> cases y <;> cases z <;> simp [cmpB]

def pairBy {α β : Type} (cf : α → α → Int) (cg : β → β → Int) (x y : α × β) : Int := if cf x.1 y.1 = 0 then cg x.2 y.2 else cf x.1 y.1
theorem TC.pair {α β : Type} {cf : α → α → Int} {cg : β → β → Int} (hf : TC cf) (hg : TC cg) : TC (pairBy cf cg) where
  zero x y := by
    unfold pairBy
    split
    · rename_i h
      rw [hg.zero, Prod.ext_iff, ← hf.zero]
      exact ⟨fun e => ⟨h, e⟩, fun e => e.2⟩
    · rename_i h
      rw [Prod.ext_iff, ← hf.zero]
      exact ⟨fun e => absurd e h, fun e => absurd e.1 h⟩
  anti x y := by
    unfold pairBy
    rw [hf.anti x.1 y.1, hg.anti x.2 y.2]
    by_cases h : cf x.1 y.1 = 0
    · rw [if_pos (by omega), if_pos h]
    · rw [if_neg (by omega), if_neg h]
  trans x y z := by
    unfold pairBy
    intro h1 h2
    by_cases e1 : cf x.1 y.1 = 0
    · rw [if_pos e1] at h1
      have e1' := (hf.zero _ _).1 e1
      by_cases e2 : cf y.1 z.1 = 0
      · rw [if_pos e2] at h2
        rw [if_pos (by rw [e1']; exact e2)]
        exact hg.trans _ _ _ h1 h2
      · rw [if_neg e2] at h2
        rw [if_neg (by rw [e1']; exact e2), e1']
        exact h2
    · rw [if_neg e1] at h1
      by_cases e2 : cf y.1 z.1 = 0
      · have e2' := (hf.zero _ _).1 e2
        rw [if_neg (by rw [← e2']; exact e1), ← e2']
        exact h1
      · rw [if_neg e2] at h2
        have := hf.trans _ _ _ h1 h2
        rw [if_neg (by omega)]
        exact this
theorem TC.on {α β : Type} {cf : β → β → Int} (hf : TC cf) (m : α → β) (hm : ∀ x y, m x = m y → x = y) : TC (fun x y => cf (m x) (m y)) where
  zero x y := by
    show cf (m x) (m y) = 0 ↔ x = y
    rw [hf.zero]
    exact ⟨hm x y, fun e => by rw [e]⟩
  anti x y := hf.anti _ _
  trans x y z := hf.trans _ _ _
theorem TC.list {α : Type} {cf : α → α → Int} (hf : TC cf) : TC (lexBy cf) where
  zero := by
    intro x
    induction x with
    | nil => intro y; cases y <;> simp [lexBy]
    | cons a x ih =>
      intro y
      cases y with
      | nil => simp [lexBy]
      | cons b y =>
        simp only [lexBy, List.cons.injEq]
        split
        · rename_i h
          rw [ih, ← hf.zero a b]
          exact ⟨fun e => ⟨h, e⟩, fun e => e.2⟩
        · rename_i h
          rw [← hf.zero a b]
          exact ⟨fun e => absurd e h, fun e => absurd e.1 h⟩
  anti := by
    intro x
    induction x with
    | nil => intro y; cases y <;> simp [lexBy]
    | cons a x ih =>
      intro y
      cases y with
      | nil => simp [lexBy]
      | cons b y =>
        simp only [lexBy]
        rw [hf.anti a b]
        by_cases h : cf a b = 0
        · rw [if_pos (by omega), if_pos h, ih]
        · rw [if_neg (by omega), if_neg h]
  trans := by
    intro x
    induction x with
    | nil => intro y z; cases y <;> cases z <;> simp [lexBy]
    | cons a x ih =>
      intro y z
      cases y with
      | nil => simp [lexBy]
      | cons b y =>
        cases z with
        | nil => simp [lexBy]
        | cons c z =>
          simp only [lexBy]
          intro h1 h2
          by_cases e1 : cf a b = 0
          · rw [if_pos e1] at h1
            have e1' := (hf.zero _ _).1 e1
            by_cases e2 : cf b c = 0
            · rw [if_pos e2] at h2
              rw [if_pos (by rw [e1']; exact e2)]
              exact ih _ _ h1 h2
            · rw [if_neg e2] at h2
              rw [if_neg (by rw [e1']; exact e2), e1']
              exact h2
          · rw [if_neg e1] at h1
            by_cases e2 : cf b c = 0
            · have e2' := (hf.zero _ _).1 e2
              rw [if_neg (by rw [← e2']; exact e1), ← e2']
              exact h1
            · rw [if_neg e2] at h2
              have := hf.trans _ _ _ h1 h2
              rw [if_neg (by omega)]
              exact this

def cmpByte (a b : UInt8) : Int := cmpI a.toNat b.toNat
theorem tc_byte : TC cmpByte := tc_int.on (fun a : UInt8 => (a.toNat : Int)) (fun x y h => UInt8.toNat_inj.1 (by exact_mod_cast h))
theorem bytes_lex : ∀ a b : List UInt8, Lib.compareBytes a b = lexBy cmpByte a b
  | [], [] => rfl
  | [], _ :: _ => rfl
  | _ :: _, [] => rfl
  | x :: a, y :: b => by
    have ih := bytes_lex a b
    rcases Nat.lt_trichotomy x.toNat y.toNat with h | h | h
    · have e : cmpByte x y = -1 := (cmpI_lt (by omega)).symm
      have h1 : x < y := UInt8.lt_iff_toNat_lt.2 h
      simp [Lib.compareBytes, lexBy, e, h1]
    · have e : cmpByte x y = 0 := (cmpI_eq (by omega) (by omega)).symm
      have h1 : ¬ x < y := fun e => by have := UInt8.lt_iff_toNat_lt.1 e; omega
      have h2 : ¬ y < x := fun e => by have := UInt8.lt_iff_toNat_lt.1 e; omega
      simp only [Lib.compareBytes, lexBy, e, h1, h2, if_false, if_true]
      exact ih
    · have e : cmpByte x y = 1 := (cmpI_gt (by omega)).symm
      have h1 : ¬ x < y := fun e => by have := UInt8.lt_iff_toNat_lt.1 e; omega
      have h2 : y < x := UInt8.lt_iff_toNat_lt.2 h
      simp [Lib.compareBytes, lexBy, e, h1, h2]
theorem tc_bytes : TC Lib.compareBytes := by
  have := tc_byte.list
  rw [show lexBy cmpByte = Lib.compareBytes from funext fun a => funext fun b => (bytes_lex a b).symm] at this
  exact this

def Val.parts (v : Val) : Int × Bool × Int × List UInt8 := (v.k, v.b, v.n, v.s.data.toList)
theorem parts_inj (x y : Val) (h : x.parts = y.parts) : x = y := by
  obtain ⟨k, b, n, s⟩ := x
  obtain ⟨k', b', n', s'⟩ := y
  simp only [Val.parts, Prod.mk.injEq] at h
  obtain ⟨rfl, rfl, rfl, h⟩ := h
  have : s = s' := ByteArray.ext (Array.ext' h)
  rw [this]
theorem cmpW_parts (x y : Val) : cmpW x y = pairBy cmpI (pairBy cmpB (pairBy cmpI Lib.compareBytes)) x.parts y.parts := by
  unfold cmpW
  split
  · rename_i h
    have := (sameV_iff x y).1 h
    subst this
    exact ((tc_int.pair (tc_bool.pair (tc_int.pair tc_bytes))).self _).symm
  · simp only [firstNZ, pairBy, Val.parts]
    by_cases ha : cmpI x.k y.k = 0
    · by_cases hb : cmpB x.b y.b = 0
      · by_cases hc : cmpI x.n y.n = 0
        · by_cases hd : Lib.compareBytes x.s.data.toList y.s.data.toList = 0 <;> simp [ha, hb, hc, hd]
        · simp [ha, hb, hc]
      · simp [ha, hb]
    · simp [ha]
theorem tc_whole : TC cmpW := by
  have := (tc_int.pair (tc_bool.pair (tc_int.pair tc_bytes))).on Val.parts parts_inj
  rw [show (fun x y : Val => pairBy cmpI (pairBy cmpB (pairBy cmpI Lib.compareBytes)) x.parts y.parts) = cmpW from funext fun a => funext fun b => (cmpW_parts a b).symm] at this
  exact this
/-- Rows by all fields. -/
def cmpWR : List Val → List Val → Int := lexBy cmpW
theorem tc_rows : TC cmpWR := tc_whole.list

/-! ### Sorted lists that are the same bag are one -/
theorem sorted_one {α : Type} {cf : α → α → Int} (h : TC cf) : ∀ (x y : List α), x.Pairwise (fun a b => ¬ cf b a < 0) → y.Pairwise (fun a b => ¬ cf b a < 0) → x.Perm y → x = y
  | [], y, _, _, hp => (List.Perm.nil_eq hp)
  | a :: x, [], _, _, hp => absurd hp.length_eq (by simp)
  | a :: x, b :: y, hx, hy, hp => by
    have hx' := List.pairwise_cons.1 hx
    have hy' := List.pairwise_cons.1 hy
    have hab : a = b := by
      have ha : a ∈ b :: y := hp.subset (List.mem_cons_self)
      have hb : b ∈ a :: x := hp.symm.subset (List.mem_cons_self)
      rcases List.mem_cons.1 ha with e | ha
      · exact e
      rcases List.mem_cons.1 hb with e | hb
      · exact e.symm
      have h1 := hx'.1 b hb
      have h2 := hy'.1 a ha
      rw [h.anti a b] at h1
      exact (h.zero a b).1 (by omega)
    subst hab
    rw [sorted_one h x y hx'.2 hy'.2 (List.perm_cons a |>.1 hp)]
end Go.Proofs.YthfoijnjgdeaaaaDoor

/- Kset, Kmem, Klf in one text. -/
import Derived.Test.YtiaobanloakplaaDoorSbase
import Derived.Lib.TrailingZeros
import Derived.Laws.BitsAllLaws

/- Sets of facts as lists and as words: the plain mathematics of package strips. -/
section
namespace Go.Proofs.YtiaobanloakplaaDoor
open Go.RowKit
set_option linter.unusedSimpArgs false
set_option linter.unusedVariables false
set_option maxRecDepth 100000

theorem ix_mem {l : List Int} {k : Nat} (h : k < l.length) : ix l k ∈ l := by
  simp [ix, List.getD, h]
theorem mem_ix {l : List Int} {x : Int} (h : x ∈ l) : ∃ k, k < l.length ∧ ix l k = x := by
  obtain ⟨k, hk, e⟩ := List.getElem_of_mem h
  exact ⟨k, hk, by simp [ix, List.getD, hk, e]⟩
theorem take_succ_ix {l : List Int} {k : Nat} (h : k < l.length) : l.take (k + 1) = l.take k ++ [ix l k] := by
  rw [List.take_succ_eq_append_getElem h]
  simp [ix, List.getD, h]

/-- Element j of l is in [0, n) and greater than the one before. -/
def okAt (l : List Int) (n : Int) (j : Nat) : Bool := decide (0 ≤ ix l j) && decide (ix l j < n) && (decide (j = 0) || decide (ix l (j - 1) < ix l j))
def setB (l : List Int) (n : Int) : Bool := (List.range l.length).all (okAt l n)
theorem okAt_iff {l : List Int} {n : Int} {j : Nat} : okAt l n j = true ↔ 0 ≤ ix l j ∧ ix l j < n ∧ (j = 0 ∨ ix l (j - 1) < ix l j) := by
  simp [okAt, and_assoc]
theorem setB_bad {l : List Int} {n : Int} {k : Nat} (hk : k < l.length) (h : okAt l n k = false) : setB l n = false := by
  unfold setB
  rw [List.all_eq_false]
  exact ⟨k, by simpa using hk, by simp [h]⟩
theorem setB_good {l : List Int} {n : Int} (h : ∀ j, j < l.length → okAt l n j = true) : setB l n = true := by
  unfold setB
  rw [List.all_eq_true]
  intro k hk
  exact h k (by simpa using hk)
theorem setB_at {l : List Int} {n : Int} (h : setB l n = true) {k : Nat} (hk : k < l.length) : okAt l n k = true := by
  unfold setB at h
  rw [List.all_eq_true] at h
  exact h k (by simpa using hk)
theorem okAt_step {l : List Int} {n : Int} {k : Nat} (h : ∀ j, j < k → okAt l n j = true) (hk : okAt l n k = true) : ∀ j, j < k + 1 → okAt l n j = true := by
  intro j hj
  by_cases e : j = k
  · subst e; exact hk
  · exact h j (by omega)

/-- A strictly increasing list of numbers from 0 to below n. -/
def IsS (l : List Int) (n : Int) : Prop := l.Pairwise (· < ·) ∧ ∀ x ∈ l, 0 ≤ x ∧ x < n
theorem setB_iff {l : List Int} {n : Int} : setB l n = true ↔ IsS l n := by
  constructor
  · intro h
    refine ⟨?_, fun x hx => ?_⟩
    · have hs : ∀ i j : Nat, i < j → j < l.length → ix l i < ix l j := by
        intro i j hij
        induction j with
        | zero => omega
        | succ j ih =>
          intro hj
          have h1 := (okAt_iff.1 (setB_at h hj)).2.2
          simp at h1
          by_cases e : i = j
          · subst e; exact h1
          · have := ih (by omega) (by omega)
            omega
      rw [List.pairwise_iff_getElem]
      intro i j hi hj hij
      have := hs i j hij hj
      simpa [ix, List.getD, hi, hj] using this
    · obtain ⟨k, hk, rfl⟩ := mem_ix hx
      have := okAt_iff.1 (setB_at h hk)
      exact ⟨this.1, this.2.1⟩
  · rintro ⟨hp, hr⟩
    refine setB_good (fun j hj => okAt_iff.2 ⟨(hr _ (ix_mem hj)).1, (hr _ (ix_mem hj)).2, ?_⟩)
    by_cases e : j = 0
    · exact .inl e
    · refine .inr ?_
      rw [List.pairwise_iff_getElem] at hp
      have := hp (j - 1) j (by omega) hj (by omega)
      have h1 : j - 1 < l.length := by omega
      simpa [ix, List.getD, hj, h1] using this
theorem IsS.mono {l : List Int} {n m : Int} (h : IsS l n) (hm : n ≤ m) : IsS l m := ⟨h.1, fun x hx => ⟨(h.2 x hx).1, by have := (h.2 x hx).2; omega⟩⟩
theorem isS_nil (n : Int) : IsS [] n := ⟨List.Pairwise.nil, fun x hx => by simp at hx⟩
/-- Two strictly increasing lists with the same elements are equal. -/
theorem sorted_ext : ∀ {a b : List Int}, a.Pairwise (· < ·) → b.Pairwise (· < ·) → (∀ x, x ∈ a ↔ x ∈ b) → a = b
  | [], [], _, _, _ => rfl
  | [], y :: b, _, _, h => by have := (h y).2 (by simp); simp at this
  | x :: a, [], _, _, h => by have := (h x).1 (by simp); simp at this
  | x :: a, y :: b, ha, hb, h => by
    rw [List.pairwise_cons] at ha hb
    have e : x = y := by
      have h1 := (h x).1 (by simp)
      have h2 := (h y).2 (by simp)
      rw [List.mem_cons] at h1 h2
      rcases h1 with h1 | h1
      · exact h1
      · rcases h2 with h2 | h2
        · exact h2.symm
        · have := ha.1 y h2
          have := hb.1 x h1
          omega
    subst e
    congr 1
    refine sorted_ext ha.2 hb.2 (fun z => ?_)
    constructor
    · intro hz
      have := (h z).1 (by simp [hz])
      rw [List.mem_cons] at this
      rcases this with e | this
      · have := ha.1 z hz; omega
      · exact this
    · intro hz
      have := (h z).2 (by simp [hz])
      rw [List.mem_cons] at this
      rcases this with e | this
      · have := hb.1 z hz; omega
      · exact this

/-- The numbers from 0 to below n with a property, in order. -/
def facs (n : Nat) (f : Nat → Bool) : List Int := ((List.range n).filter f).map Int.ofNat
theorem mem_facs {n : Nat} {f : Nat → Bool} {x : Int} : x ∈ facs n f ↔ 0 ≤ x ∧ x < n ∧ f x.toNat = true := by
  unfold facs
  rw [List.mem_map]
  constructor
  · rintro ⟨k, hk, rfl⟩
    rw [List.mem_filter, List.mem_range] at hk
    refine ⟨by simp, by simpa using hk.1, by simpa using hk.2⟩
  · rintro ⟨h0, h1, h2⟩
    exact ⟨x.toNat, by rw [List.mem_filter, List.mem_range]; exact ⟨by omega, h2⟩, by simp [Int.toNat_of_nonneg h0]⟩
theorem facs_sorted (n : Nat) (f : Nat → Bool) : (facs n f).Pairwise (· < ·) := by
  unfold facs
  rw [List.pairwise_map]
  refine List.Pairwise.filter _ (List.pairwise_lt_range.imp ?_)
  intro a b h
  simpa using h
theorem facs_isS (n : Nat) (f : Nat → Bool) : IsS (facs n f) n := ⟨facs_sorted n f, fun x hx => ⟨(mem_facs.1 hx).1, (mem_facs.1 hx).2.1⟩⟩
theorem facs_succ_yes {n : Nat} {f : Nat → Bool} (h : f n = true) : facs (n + 1) f = facs n f ++ [(n : Int)] := by
  simp [facs, List.range_succ, List.filter_append, h]
theorem facs_succ_no {n : Nat} {f : Nat → Bool} (h : f n = false) : facs (n + 1) f = facs n f := by
  simp [facs, List.range_succ, List.filter_append, h]
theorem facs_len (n : Nat) (f : Nat → Bool) : (facs n f).length ≤ n := by
  unfold facs
  rw [List.length_map]
  have := List.length_filter_le f (List.range n)
  simpa using this
theorem facs_of {l : List Int} {n : Nat} (h : IsS l n) : facs n (fun p => decide ((p : Int) ∈ l)) = l := by
  refine sorted_ext (facs_sorted _ _) h.1 (fun x => ?_)
  rw [mem_facs]
  constructor
  · rintro ⟨h0, _, h2⟩
    rw [decide_eq_true_eq] at h2
    rwa [Int.toNat_of_nonneg h0] at h2
  · intro hx
    have := h.2 x hx
    refine ⟨this.1, this.2, ?_⟩
    rw [decide_eq_true_eq, Int.toNat_of_nonneg this.1]
    exact hx
theorem isS_len {l : List Int} {n : Nat} (h : IsS l n) : l.length ≤ n := by
  have := facs_len n (fun p => decide ((p : Int) ∈ l))
  rwa [facs_of h] at this

/-- The set as a word: bit p for fact p. -/
def mask (l : List Int) : Nat := l.foldl (fun m x => m ||| 2 ^ x.toNat) 0
theorem mask_nil : mask [] = 0 := rfl
theorem mask_snoc (l : List Int) (x : Int) : mask (l ++ [x]) = mask l ||| 2 ^ x.toNat := by simp [mask, List.foldl_append]
theorem mask_take {l : List Int} {k : Nat} (h : k < l.length) : mask (l.take (k + 1)) = mask (l.take k) ||| 2 ^ (ix l k).toNat := by
  rw [take_succ_ix h, mask_snoc]
theorem bit_foldl : ∀ (l : List Int) (m p : Nat), (l.foldl (fun m x => m ||| 2 ^ x.toNat) m).testBit p = (m.testBit p || l.any (fun x => x.toNat == p))
  | [], m, p => by simp
  | x :: l, m, p => by
    rw [List.foldl_cons, bit_foldl l, Nat.testBit_or, Nat.testBit_two_pow, List.any_cons, Bool.or_assoc]
    congr 2
theorem mask_bit {l : List Int} (h : ∀ x ∈ l, 0 ≤ x) (p : Nat) : (mask l).testBit p = decide ((p : Int) ∈ l) := by
  unfold mask
  rw [bit_foldl, Nat.zero_testBit, Bool.false_or, Bool.eq_iff_iff, List.any_eq_true, decide_eq_true_eq]
  constructor
  · rintro ⟨x, hx, e⟩
    have := h x hx
    rw [beq_iff_eq] at e
    have : (p : Int) = x := by omega
    rw [this]; exact hx
  · intro hx
    exact ⟨p, hx, by simp⟩
theorem lt_of_bits {m n : Nat} (h : ∀ p, n ≤ p → m.testBit p = false) : m < 2 ^ n := by
  exact Nat.lt_pow_two_of_testBit _ h
theorem mask_lt {l : List Int} {n : Nat} (h : ∀ x ∈ l, 0 ≤ x ∧ x < n) : mask l < 2 ^ n := by
  refine lt_of_bits (fun p hp => ?_)
  rw [mask_bit (fun x hx => (h x hx).1), decide_eq_false_iff_not]
  intro hx
  have := (h _ hx).2
  omega
theorem mask_lt64 {l : List Int} (h : IsS l 24) : mask l < 18446744073709551616 := by
  have := mask_lt (l := l) (n := 24) h.2
  omega

/-- The elements of a word. -/
def els (m : Nat) : List Int := facs 64 m.testBit
theorem els_mask {l : List Int} (h : IsS l 24) : els (mask l) = l := by
  unfold els
  have : (mask l).testBit = fun (p : Nat) => decide ((p : Int) ∈ l) := by
    funext p
    exact mask_bit (fun x hx => (h.2 x hx).1) p
  rw [this]
  exact facs_of (h.mono (by omega))
theorem els_zero : els 0 = [] := by
  unfold els facs
  have : (List.range 64).filter (Nat.testBit 0) = [] := by
    rw [List.filter_eq_nil_iff]
    intro a _
    simp
  rw [this]; rfl
theorem els_len (m : Nat) : (els m).length ≤ 64 := facs_len _ _

/-- The lowest bit. -/
theorem low_bit {m : Nat} (h0 : m ≠ 0) (h : m < 18446744073709551616) : ∃ q, m = 2 ^ Lib.ctz 64 m * (2 * q + 1) ∧ Lib.ctz 64 m < 64 := by
  obtain ⟨q, hq, hk⟩ := Lib.ctzFrom_spec 64 m (by omega) h
  have e : Lib.ctz 64 m = Lib.ctzFrom 64 m := by simp [Lib.ctz, h0]
  rw [e]
  exact ⟨q, hq, hk⟩
theorem bit_low {c q p : Nat} : (2 ^ c * (2 * q + 1)).testBit p = (decide (c ≤ p) && (2 * q + 1).testBit (p - c)) := by
  rw [Nat.mul_comm, Nat.testBit_mul_two_pow]
theorem drop_low (c q p : Nat) : ((2 ^ c * (2 * q + 1)) &&& (2 ^ c * (2 * q + 1) - 1)).testBit p = ((2 ^ c * (2 * q + 1)).testBit p && decide (p ≠ c)) := by
  have hp : 0 < 2 ^ c := Nat.two_pow_pos c
  have e : 2 ^ c * (2 * q + 1) - 1 = 2 ^ c * (2 * q) + (2 ^ c - 1) := by
    rw [Nat.mul_add]; omega
  rw [Nat.testBit_and, e, bit_low]
  by_cases hcp : c ≤ p
  · obtain ⟨j, rfl⟩ : ∃ j, p = c + j := ⟨p - c, by omega⟩
    have h2 : (2 ^ c * (2 * q) + (2 ^ c - 1)).testBit (c + j) = (2 * q).testBit j := by
      rw [Nat.testBit_two_pow_mul_add _ (by omega), if_neg (by omega)]
      congr 1; omega
    rw [h2]
    cases j with
    | zero => simp
    | succ j =>
      have d1 : (2 * q + 1) / 2 = q := by omega
      have d2 : (2 * q) / 2 = q := by omega
      have e1 : c + (j + 1) - c = j + 1 := by omega
      rw [e1, Nat.testBit_succ, Nat.testBit_succ, d1, d2]
      simp
  · have : decide (c ≤ p) = false := by simpa using hcp
    rw [this]; simp
theorem els_cons {m : Nat} (h0 : m ≠ 0) (h : m < 18446744073709551616) : els m = (Lib.ctz 64 m : Int) :: els (m &&& (m - 1)) := by
  obtain ⟨q, hq, hk⟩ := low_bit h0 h
  have hb : ∀ p, m.testBit p = (decide (Lib.ctz 64 m ≤ p) && (2 * q + 1).testBit (p - Lib.ctz 64 m)) := by
    intro p
    conv => lhs; rw [hq]
    exact bit_low
  have hd : ∀ p, (m &&& (m - 1)).testBit p = (m.testBit p && decide (p ≠ Lib.ctz 64 m)) := by
    intro p
    have := drop_low (Lib.ctz 64 m) q p
    rwa [← hq] at this
  generalize Lib.ctz 64 m = c at hb hd hk
  refine sorted_ext (facs_sorted _ _) ?_ (fun x => ?_)
  · rw [List.pairwise_cons]
    refine ⟨fun x hx => ?_, facs_sorted _ _⟩
    obtain ⟨g0, g1, g2⟩ := mem_facs.1 hx
    rw [hd, hb] at g2
    simp at g2
    omega
  · unfold els
    rw [List.mem_cons, mem_facs, mem_facs]
    constructor
    · rintro ⟨g0, g1, g2⟩
      by_cases e : x = c
      · exact .inl e
      · refine .inr ⟨g0, g1, ?_⟩
        rw [hd, g2]
        simp
        omega
    · rintro (rfl | ⟨g0, g1, g2⟩)
      · refine ⟨by omega, by omega, ?_⟩
        rw [hb]
        simp
      · rw [hd] at g2
        simp at g2
        exact ⟨g0, g1, g2.1⟩
theorem drop_lt {m : Nat} (h0 : m ≠ 0) : m &&& (m - 1) < m := by
  have : m &&& (m - 1) ≤ m - 1 := Nat.and_le_right
  omega

/-- All elements of a are in b. -/
def subB (a b : List Int) : Bool := a.all (fun x => decide (x ∈ b))
def disB (a b : List Int) : Bool := a.all (fun x => decide (x ∉ b))
theorem subB_iff {a b : List Int} : subB a b = true ↔ ∀ x ∈ a, x ∈ b := by simp [subB]
theorem disB_iff {a b : List Int} : disB a b = true ↔ ∀ x ∈ a, x ∉ b := by simp [disB]
theorem bit_not {b : Nat} (h : b < 18446744073709551616) (p : Nat) : (18446744073709551615 - b).testBit p = (decide (p < 64) && !b.testBit p) := by
  have e : 18446744073709551615 - b = 2 ^ 64 - (b + 1) := by omega
  rw [e, Nat.testBit_two_pow_sub_succ (by simpa using h)]
theorem andNot_zero {a b : List Int} (ha : IsS a 24) (hb : IsS b 24) : ((mask a &&& (18446744073709551615 - mask b)) == 0) = subB a b := by
  rw [Bool.eq_iff_iff, beq_iff_eq, subB_iff]
  constructor
  · intro h x hx
    have hx0 := (ha.2 x hx)
    have := congrArg (fun m => Nat.testBit m x.toNat) h
    simp only [Nat.testBit_and, bit_not (mask_lt64 hb), mask_bit (fun x hx => (ha.2 x hx).1), mask_bit (fun x hx => (hb.2 x hx).1), Nat.zero_testBit, Int.toNat_of_nonneg hx0.1] at this
    have h64 : x.toNat < 64 := by omega
    simpa [hx, h64] using this
  · intro h
    apply Nat.eq_of_testBit_eq
    intro p
    simp only [Nat.testBit_and, bit_not (mask_lt64 hb), mask_bit (fun x hx => (ha.2 x hx).1), mask_bit (fun x hx => (hb.2 x hx).1), Nat.zero_testBit]
    by_cases hp : (p : Int) ∈ a
    · have := h _ hp
      simp [hp, this]
    · simp [hp]
theorem and_zero {a b : List Int} (ha : IsS a 24) (hb : IsS b 24) : ((mask a &&& mask b) == 0) = disB a b := by
  rw [Bool.eq_iff_iff, beq_iff_eq, disB_iff]
  constructor
  · intro h x hx hxb
    have hx0 := (ha.2 x hx)
    have := congrArg (fun m => Nat.testBit m x.toNat) h
    simp only [Nat.testBit_and, mask_bit (fun x hx => (ha.2 x hx).1), mask_bit (fun x hx => (hb.2 x hx).1), Nat.zero_testBit, Int.toNat_of_nonneg hx0.1] at this
    simp [hx, hxb] at this
  · intro h
    apply Nat.eq_of_testBit_eq
    intro p
    simp only [Nat.testBit_and, mask_bit (fun x hx => (ha.2 x hx).1), mask_bit (fun x hx => (hb.2 x hx).1), Nat.zero_testBit]
    by_cases hp : (p : Int) ∈ a
    · have := h _ hp
      simp [hp, this]
    · simp [hp]

/-- The state after an operator. -/
def aftL (n : Nat) (add del s : List Int) : List Int := facs n (fun p => decide ((p : Int) ∈ add) || (decide ((p : Int) ∈ s) && !decide ((p : Int) ∈ del)))
theorem mem_aftL {n : Nat} {add del s : List Int} (ha : IsS add n) (hs : IsS s n) {x : Int} : x ∈ aftL n add del s ↔ x ∈ add ∨ (x ∈ s ∧ x ∉ del) := by
  unfold aftL
  rw [mem_facs]
  constructor
  · rintro ⟨h0, _, h2⟩
    rw [Int.toNat_of_nonneg h0] at h2
    simpa using h2
  · intro h
    have hr : 0 ≤ x ∧ x < n := by
      rcases h with h | h
      · exact ha.2 x h
      · exact hs.2 x h.1
    refine ⟨hr.1, hr.2, ?_⟩
    rw [Int.toNat_of_nonneg hr.1]
    simpa using h
theorem aftL_isS (n : Nat) (add del s : List Int) : IsS (aftL n add del s) n := facs_isS _ _
theorem mask_eq {a b : Nat} (h : ∀ p, a.testBit p = b.testBit p) : a = b := Nat.eq_of_testBit_eq h
theorem mask_aft {n : Nat} (hn : n ≤ 24) {add del s : List Int} (ha : IsS add n) (hd : IsS del n) (hs : IsS s n) :
    (mask s &&& (18446744073709551615 - mask del)) ||| mask add = mask (aftL n add del s) := by
  have h24 : ∀ {l : List Int}, IsS l n → IsS l 24 := fun h => h.mono (by omega)
  apply Nat.eq_of_testBit_eq
  intro p
  simp only [Nat.testBit_or, Nat.testBit_and, bit_not (mask_lt64 (h24 hd)), mask_bit (fun x hx => (ha.2 x hx).1), mask_bit (fun x hx => (hd.2 x hx).1), mask_bit (fun x hx => (hs.2 x hx).1), mask_bit (fun x hx => ((aftL_isS n add del s).2 x hx).1)]
  rw [Bool.eq_iff_iff, decide_eq_true_eq, mem_aftL ha hs]
  have h64 : ∀ h : (p : Int) ∈ s, p < 64 := fun h => by have := (hs.2 _ h).2; omega
  simp
  constructor
  · rintro (⟨a1, a2, a3⟩ | a1)
    · exact .inr ⟨a1, a3⟩
    · exact .inl a1
  · rintro (a1 | ⟨a1, a2⟩)
    · exact .inr a1
    · exact .inl ⟨a1, h64 a1, a2⟩
/-- What must be true before an operator. -/
def regL (n : Nat) (pre add goal : List Int) : List Int := facs n (fun p => decide ((p : Int) ∈ pre) || (decide ((p : Int) ∈ goal) && !decide ((p : Int) ∈ add)))
theorem mask_reg {n : Nat} (hn : n ≤ 24) {pre add goal : List Int} (hp : IsS pre n) (ha : IsS add n) (hg : IsS goal n) :
    mask pre ||| (mask goal &&& (18446744073709551615 - mask add)) = mask (regL n pre add goal) := by
  rw [Nat.or_comm]
  exact mask_aft hn hp ha hg
end Go.Proofs.YtiaobanloakplaaDoor
end

/- Tasks in memory: operators, the slice of them, a task by value. -/
section
namespace Go.Proofs.YtiaobanloakplaaDoor
open Go.RowKit
set_option linter.unusedSimpArgs false
set_option linter.unusedVariables false
set_option maxRecDepth 100000

structure Opr where
  pre : List Int
  add : List Int
  del : List Int
  cost : Int
instance : Inhabited Opr := ⟨⟨[], [], [], 0⟩⟩
def opr (os : List Opr) (k : Nat) : Opr := os.getD k ⟨[], [], [], 0⟩
/-- A task, with the places of its lists. -/
structure Tsk where
  n : Int
  init : List Int
  goal : List Int
  ops : List Opr
  ai : Option Addr
  ag : Option Addr
  ao : Option Addr
  ci : Nat
  cg : Nat
  co : Nat

/-- A list of numbers stands in a slice. -/
structure Lst (w : World) (B : Nat) (a : Option Addr) (c : Nat) (xs : List Int) : Prop where
  nums : Nums w B a xs
  le : xs.length ≤ c
  max : c ≤ maxLen
theorem Lst.len {w : World} {B : Nat} {a : Option Addr} {c : Nat} {xs : List Int} (h : Lst w B a c xs) : xs.length ≤ maxLen := Nat.le_trans h.le h.max
theorem Lst.to {w w' : World} {B B' : Nat} {a : Option Addr} {c : Nat} {xs : List Int} (h : Lst w B a c xs) (hb : Below B w w') (hB : B ≤ B') : Lst w' B' a c xs := ⟨h.nums.to hb hB, h.le, h.max⟩
theorem nums_nil (w : World) (B : Nat) (a : Option Addr) : Nums w B a [] := fun h => by simp at h
theorem lst_nil (w : World) (B : Nat) : Lst w B none 0 [] := ⟨nums_nil _ _ _, by simp, by simp [maxLen]⟩

/-- The lists of an operator. -/
structure OpV (w : World) (B : Nat) (o : Opr) (a1 a2 a3 : Option Addr) (c1 c2 c3 : Nat) : Prop where
  pre : Lst w B a1 c1 o.pre
  add : Lst w B a2 c2 o.add
  del : Lst w B a3 c3 o.del
theorem OpV.to {w w' : World} {B B' : Nat} {o : Opr} {a1 a2 a3 : Option Addr} {c1 c2 c3 : Nat} (h : OpV w B o a1 a2 a3 c1 c2 c3) (hb : Below B w w') (hB : B ≤ B') : OpV w' B' o a1 a2 a3 c1 c2 c3 :=
  ⟨h.pre.to hb hB, h.add.to hb hB, h.del.to hb hB⟩
/-- The four cells of an operator. -/
structure OpC (w : World) (b p : Nat) (o : Opr) (a1 a2 a3 : Option Addr) (c1 c2 c3 : Nat) : Prop where
  c0 : w.cell? ⟨b, p, none⟩ = some (.slice a1 o.pre.length c1)
  c1 : w.cell? ⟨b, p + 1, none⟩ = some (.slice a2 o.add.length c2)
  c2 : w.cell? ⟨b, p + 2, none⟩ = some (.slice a3 o.del.length c3)
  c3 : w.cell? ⟨b, p + 3, none⟩ = some (.int .i64 o.cost)
theorem OpC.to {w w' : World} {B b p : Nat} {o : Opr} {a1 a2 a3 : Option Addr} {c1 c2 c3 : Nat} (h : OpC w b p o a1 a2 a3 c1 c2 c3) (hb : Below B w w') (hB : b < B) : OpC w' b p o a1 a2 a3 c1 c2 c3 :=
  ⟨(hb.cell (p := ⟨b, p, none⟩) hB).trans h.c0, (hb.cell (p := ⟨b, p + 1, none⟩) hB).trans h.c1, (hb.cell (p := ⟨b, p + 2, none⟩) hB).trans h.c2, (hb.cell (p := ⟨b, p + 3, none⟩) hB).trans h.c3⟩
/-- The slice at a holds the operators os, below block B. -/
def Oprs (w : World) (B : Nat) (a : Option Addr) (os : List Opr) : Prop :=
  0 < os.length → ∃ b p, a = some ⟨b, p, none⟩ ∧ b < B ∧ ∀ k, k < os.length → ∃ a1 a2 a3 c1 c2 c3, OpC w b (p + k * 4) (opr os k) a1 a2 a3 c1 c2 c3 ∧ OpV w B (opr os k) a1 a2 a3 c1 c2 c3
theorem Oprs.to {w w' : World} {B B' : Nat} {a : Option Addr} {os : List Opr} (h : Oprs w B a os) (hb : Below B w w') (hB : B ≤ B') : Oprs w' B' a os := by
  intro h0
  obtain ⟨b, p, ha, hlt, hc⟩ := h h0
  refine ⟨b, p, ha, by omega, fun k hk => ?_⟩
  obtain ⟨a1, a2, a3, c1, c2, c3, q1, q2⟩ := hc k hk
  exact ⟨a1, a2, a3, c1, c2, c3, q1.to hb hlt, q2.to hb hB⟩
theorem Oprs.at_ {w : World} {B : Nat} {a : Option Addr} {os : List Opr} (h : Oprs w B a os) {k : Nat} (hk : k < os.length) : ∃ b p a1 a2 a3 c1 c2 c3, a = some ⟨b, p, none⟩ ∧ b < B ∧ OpC w b (p + k * 4) (opr os k) a1 a2 a3 c1 c2 c3 ∧ OpV w B (opr os k) a1 a2 a3 c1 c2 c3 := by
  obtain ⟨b, p, ha, hlt, hc⟩ := h (by omega)
  obtain ⟨a1, a2, a3, c1, c2, c3, q1, q2⟩ := hc k hk
  exact ⟨b, p, a1, a2, a3, c1, c2, c3, ha, hlt, q1, q2⟩

/-- A task in memory. -/
structure TskIn (w : World) (B : Nat) (x : Tsk) : Prop where
  init : Lst w B x.ai x.ci x.init
  goal : Lst w B x.ag x.cg x.goal
  ops : Oprs w B x.ao x.ops
  le : x.ops.length ≤ x.co
  max : x.co ≤ maxLen
theorem TskIn.to {w w' : World} {B B' : Nat} {x : Tsk} (h : TskIn w B x) (hb : Below B w w') (hB : B ≤ B') : TskIn w' B' x :=
  ⟨h.init.to hb hB, h.goal.to hb hB, h.ops.to hb hB, h.le, h.max⟩
theorem TskIn.len {w : World} {B : Nat} {x : Tsk} (h : TskIn w B x) : x.ops.length ≤ maxLen := Nat.le_trans h.le h.max

/-- Block g is the box of a task. -/
structure TBox (w : World) (g : Nat) (x : Tsk) : Prop where
  lt : g < w.heap.size
  c0 : w.cell? ⟨g, 0, none⟩ = some (.int .i64 x.n)
  c1 : w.cell? ⟨g, 1, none⟩ = some (.slice x.ai x.init.length x.ci)
  c2 : w.cell? ⟨g, 2, none⟩ = some (.slice x.ag x.goal.length x.cg)
  c3 : w.cell? ⟨g, 3, none⟩ = some (.slice x.ao x.ops.length x.co)
theorem TBox.to {w w' : World} {B g : Nat} {x : Tsk} (h : TBox w g x) (hb : Below B w w') (hB : g < B) : TBox w' g x :=
  ⟨Nat.lt_of_lt_of_le h.lt hb.size, (hb.cell (p := ⟨g, 0, none⟩) hB).trans h.c0, (hb.cell (p := ⟨g, 1, none⟩) hB).trans h.c1, (hb.cell (p := ⟨g, 2, none⟩) hB).trans h.c2, (hb.cell (p := ⟨g, 3, none⟩) hB).trans h.c3⟩
theorem TBox.far {w : World} {g : Nat} {x : Tsk} (h : TBox w g x) {p : Addr} (hp : p.block ≠ g) (u : Value) : TBox (w.setCell p u) g x := by
  refine ⟨by simpa using h.lt, ?_, ?_, ?_, ?_⟩
  · rw [World.cell?_setCell_other _ _ _ _ (by rintro rfl; exact hp rfl)]; exact h.c0
  · rw [World.cell?_setCell_other _ _ _ _ (by rintro rfl; exact hp rfl)]; exact h.c1
  · rw [World.cell?_setCell_other _ _ _ _ (by rintro rfl; exact hp rfl)]; exact h.c2
  · rw [World.cell?_setCell_other _ _ _ _ (by rintro rfl; exact hp rfl)]; exact h.c3
theorem tbox_new (w : World) (x : Tsk) (t : TypeId) : TBox (w.alloc (.cells #[.int .i64 x.n, .slice x.ai x.init.length x.ci, .slice x.ag x.goal.length x.cg, .slice x.ao x.ops.length x.co] t)) w.heap.size x := ⟨by simp, by simp, by simp, by simp, by simp⟩
end Go.Proofs.YtiaobanloakplaaDoor
end

/- Leaves of package strips and of the reference: isSet, setOf, contains, Has, Subset, Disjoint, IsSet. -/
section
namespace Go.Proofs.YtiaobanloakplaaDoor
open Go.RowKit
set_option linter.unusedSimpArgs false
set_option linter.unusedVariables false
set_option maxRecDepth 100000

theorem quiet_same {P : Program} {f : FuncId} {args : Array Value} {w : World} {n : Nat} {v : Value}
    (h : Calls P f args (w.drewN n) fun e w' => e = .returned v ∧ w.drewN n = w') : Calls P f args (w.drewN n) fun e w'' => e = .returned v ∧ ∃ m, w'' = w.drewN m :=
  h.mono fun _ _ ⟨he, hm⟩ => ⟨he, n, hm.symm⟩
theorem Nums.drewN {w : World} {B : Nat} {a : Option Addr} {xs : List Int} (h : Nums w B a xs) (n : Nat) : Nums (w.drewN n) B a xs := h

def lst0 (l : List Int) (k : Nat) : Int := if k = 0 then 0 else ix l (k - 1) + 1
theorem lst0_succ (l : List Int) (k : Nat) : lst0 l (k + 1) = ix l k + 1 := by simp [lst0]
theorem lst0_ok {l : List Int} {n : Int} {k : Nat} (h : ∀ j, j < k → okAt l n j = true) : 0 ≤ lst0 l k := by
  unfold lst0
  split
  · omega
  · have := (okAt_iff.1 (h (k - 1) (by omega))).1
    omega
theorem okAt_low {l : List Int} {n : Int} {k : Nat} (h : ix l k < lst0 l k) : okAt l n k = false := by
  rw [← Bool.not_eq_true, okAt_iff]
  rintro ⟨h0, _, h2⟩
  unfold lst0 at h
  split at h
  · omega
  · rename_i hk
    rcases h2 with h2 | h2
    · exact hk h2
    · omega
theorem okAt_high {l : List Int} {n : Int} {k : Nat} (h : n ≤ ix l k) : okAt l n k = false := by
  rw [← Bool.not_eq_true, okAt_iff]
  rintro ⟨_, h1, _⟩
  omega
theorem okAt_yes {l : List Int} {n : Int} {k : Nat} (h0 : 0 ≤ lst0 l k) (h1 : lst0 l k ≤ ix l k) (h2 : ix l k < n) : okAt l n k = true := by
  rw [okAt_iff]
  refine ⟨by omega, h2, ?_⟩
  unfold lst0 at h1
  split at h1
  · exact .inl ‹_›
  · exact .inr (by omega)

set_option maxHeartbeats 1000000 in
theorem isSet_any (A : Option Addr) (c : Nat) (l : List Int) (n : Int) (w : World) (hn : n ≤ 24) (hL : Nums w w.heap.size A l) (hlen : l.length ≤ maxLen) :
    Calls Tryd.prog 53 #[.slice A l.length c, .int .i64 n] w fun e w' => e = .returned (.bool (setB l n)) ∧ w = w' := by
  unfold maxLen at hlen
  have HL := Lib.hid hL
  clear hL
  go_enter Tryd.func53, Tryd.ntmps53
  go_wp2
  go_loop [5, 10] (fun v i => ∃ k : Nat, k ≤ l.length ∧ i = .int .i64 k ∧ v = .int .i64 (lst0 l k) ∧ ∀ j, j < k → okAt l n j = true) (fun _ i => l.length - (intOf i).toNat)
  case atStart => exact ⟨0, by omega, rfl, rfl, by omega⟩
  case round =>
    obtain ⟨k, hk, rfl, rfl, hj⟩ := hrel
    have h0 := lst0_ok hj
    have HJ := Lib.hid hj
    clear hj
    by_cases hlt : k < l.length
    · obtain ⟨b, o, rfl, _, hc⟩ := HL.out.at_ hlt
      rcases Int.lt_or_le (ix l k) (lst0 l k) with h1 | h1
      · have HB := Lib.hid (okAt_low (n := n) h1)
        go_wp2
        go_ret
        exact ⟨ret_bool (setB_bad hlt HB.out).symm, rfl⟩
      · rcases Int.lt_or_le (ix l k) n with h2 | h2
        · have HB := Lib.hid (okAt_yes h0 h1 h2)
          have HS := Lib.hid (lst0_succ l k)
          go_wp2
          go_round
          case rel => exact ⟨k + 1, by omega, by go_num, by rw [HS.out], okAt_step HJ.out HB.out⟩
          case measure => simp [intOf]; omega
        · have HB := Lib.hid (okAt_high (l := l) (n := n) h2)
          go_wp2
          go_ret
          exact ⟨ret_bool (setB_bad hlt HB.out).symm, rfl⟩
    · have hge : ¬ ((k : Int) < l.length) := by omega
      go_wp2
      go_ret
      exact ⟨ret_bool (setB_good (fun j hj => HJ.out j (by omega))).symm, rfl⟩

theorem pow_cast (n : Nat) : ((2 : Int) ^ n) = ((2 ^ n : Nat) : Int) := by simp
theorem pow_lt64 {x : Int} (h1 : x < 64) : 2 ^ x.toNat < 18446744073709551616 := by
  have h2 : (2 : Nat) ^ x.toNat < 2 ^ 64 := Nat.pow_lt_pow_right (by omega) (by omega)
  omega
theorem or_pow (m : Nat) (x : Int) (hm : m < 18446744073709551616) (h1 : x < 64) :
    bits .or .u64 (m : Int) (IntKind.u64.wrap (2 ^ x.toNat)) = ((m ||| 2 ^ x.toNat : Nat) : Int) := by
  have hp := pow_lt64 h1
  have e : IntKind.u64.wrap (2 ^ x.toNat) = ((2 ^ x.toNat : Nat) : Int) := by
    rw [IntKind.wrap_u64, pow_cast]
    generalize 2 ^ x.toNat = q at hp ⊢
    omega
  rw [e]
  exact u64_or_nat _ _ hm hp

theorem wrap_small {x : Int} (h0 : 0 ≤ x) (h1 : x < 24) : IntKind.u64.wrap x = x := by
  rw [IntKind.wrap_u64]; omega

set_option maxHeartbeats 1000000 in
theorem setOf_any (A : Option Addr) (c : Nat) (l : List Int) (w : World) (hS : IsS l 24) (hL : Nums w w.heap.size A l) :
    Calls Tryd.prog 40 #[.slice A l.length c] w fun e w' => e = .returned (.int .u64 (mask l)) ∧ w = w' := by
  have hlen : l.length ≤ 24 := isS_len (n := 24) hS
  have HL := Lib.hid hL
  clear hL
  have HS := Lib.hid hS
  clear hS
  go_enter Tryd.func40, Tryd.ntmps40
  go_wp2
  go_loop [3, 8] (fun v i => ∃ k : Nat, k ≤ l.length ∧ i = .int .i64 k ∧ v = .int .u64 (mask (l.take k))) (fun _ i => l.length - (intOf i).toNat)
  case atStart => exact ⟨0, by omega, rfl, rfl⟩
  case round =>
    obtain ⟨k, hk, rfl, rfl⟩ := hrel
    by_cases hlt : k < l.length
    · obtain ⟨b, o, rfl, _, hc⟩ := HL.out.at_ hlt
      obtain ⟨h0, h1⟩ := HS.out.2 _ (ix_mem hlt)
      have hm : mask (l.take k) < 18446744073709551616 := mask_lt64 ⟨HS.out.1.sublist (List.take_sublist _ _), fun x hx => HS.out.2 x (List.mem_of_mem_take hx)⟩
      have HO := Lib.hid (or_pow (mask (l.take k)) (ix l k) hm (by omega))
      have HM := Lib.hid (mask_take hlt)
      have HW := Lib.hid (wrap_small h0 h1)
      go_wp2
      go_round
      case rel => exact ⟨k + 1, by omega, by go_num, by rw [HM.out, HO.out]⟩
      case measure => simp [intOf]; omega
    · have hge : ¬ ((k : Int) < l.length) := by omega
      go_wp2
      go_ret
      exact ⟨ret_int (by rw [List.take_of_length_le (by omega)]), rfl⟩

theorem zero_cast (m : Nat) : ((m : Int) == 0) = (m == 0) := by
  rw [Bool.eq_iff_iff, beq_iff_eq, beq_iff_eq]; omega

set_option maxHeartbeats 400000 in
theorem contains_any (s l : List Int) (w : World) (hs : IsS s 24) (hl : IsS l 24) :
    Calls Tryd.prog 65 #[.int .u64 (mask s), .int .u64 (mask l)] w fun e w' => e = .returned (.bool (subB l s)) ∧ w = w' := by
  have H := Lib.hid (show (bits .andNot .u64 (mask l : Int) (mask s : Int) == 0) = subB l s by rw [u64_andNot_nat _ _ (mask_lt64 hl) (mask_lt64 hs), zero_cast, andNot_zero hl hs])
  clear hs hl
  go_enter Tryd.func65, Tryd.ntmps65
  go_wp2
  go_ret
  exact ⟨ret_bool H.out, rfl⟩

def hasB (l : List Int) (x : Int) : Bool := decide (x ∈ l)
theorem hasB_hit {l : List Int} {k : Nat} {x : Int} (hk : k < l.length) (h : ix l k = x) : hasB l x = true := by
  subst h; exact decide_eq_true (ix_mem hk)
theorem hasB_miss {l : List Int} {x : Int} (h : ∀ j, j < l.length → ix l j ≠ x) : hasB l x = false := by
  refine decide_eq_false (fun hx => ?_)
  obtain ⟨k, hk, e⟩ := mem_ix hx
  exact h k hk e

set_option maxHeartbeats 1000000 in
theorem has_any (A : Option Addr) (c : Nat) (l : List Int) (x : Int) (w : World) (hL : Nums w w.heap.size A l) (hlen : l.length ≤ maxLen) :
    Calls Tryd.prog 42 #[.slice A l.length c, .int .i64 x] w fun e w' => e = .returned (.bool (hasB l x)) ∧ w = w' := by
  unfold maxLen at hlen
  have HL := Lib.hid hL
  clear hL
  go_enter Tryd.func42, Tryd.ntmps42
  go_wp2
  go_loop [5] (fun i => ∃ k : Nat, k ≤ l.length ∧ i = .int .i64 k ∧ ∀ j, j < k → ix l j ≠ x) (fun i => l.length - (intOf i).toNat)
  case atStart => exact ⟨0, by omega, rfl, by omega⟩
  case round =>
    obtain ⟨k, hk, rfl, hj⟩ := hrel
    have HJ := Lib.hid hj
    clear hj
    by_cases hlt : k < l.length
    · obtain ⟨b, o, rfl, _, hc⟩ := HL.out.at_ hlt
      by_cases he : ix l k = x
      · have HQ := Lib.hid (hasB_hit hlt he)
        have hq : (ix l k == x) = true := by simpa using he
        clear he
        go_wp2
        go_ret
        exact ⟨ret_bool HQ.out.symm, rfl⟩
      · have HQ := Lib.hid he
        have hq : (ix l k == x) = false := by simpa using he
        clear he
        go_wp2
        go_round
        case rel => exact ⟨k + 1, by omega, by go_num, fun j hj => by
          by_cases e : j = k
          · subst e; exact HQ.out
          · exact HJ.out j (by omega)⟩
        case measure => simp [intOf]; omega
    · have hge : ¬ ((k : Int) < l.length) := by omega
      go_wp2
      go_ret
      exact ⟨ret_bool (hasB_miss (fun j hj => HJ.out j (by omega))).symm, rfl⟩

theorem subB_bad {a b : List Int} {k : Nat} (hk : k < a.length) (h : hasB b (ix a k) = false) : subB a b = false := by
  rw [← Bool.not_eq_true, subB_iff]
  intro hx
  exact of_decide_eq_false h (hx _ (ix_mem hk))
theorem subB_good {a b : List Int} (h : ∀ j, j < a.length → hasB b (ix a j) = true) : subB a b = true := by
  rw [subB_iff]
  intro x hx
  obtain ⟨k, hk, rfl⟩ := mem_ix hx
  exact of_decide_eq_true (h k hk)
theorem disB_bad {a b : List Int} {k : Nat} (hk : k < a.length) (h : hasB b (ix a k) = true) : disB a b = false := by
  rw [← Bool.not_eq_true, disB_iff]
  intro hx
  exact hx _ (ix_mem hk) (of_decide_eq_true h)
theorem disB_good {a b : List Int} (h : ∀ j, j < a.length → hasB b (ix a j) = false) : disB a b = true := by
  rw [disB_iff]
  intro x hx
  obtain ⟨k, hk, rfl⟩ := mem_ix hx
  exact of_decide_eq_false (h k hk)

set_option maxHeartbeats 1000000 in
theorem subset_any (A A2 : Option Addr) (c c2 : Nat) (a l : List Int) (w : World) (hA : Nums w w.heap.size A a) (hL : Nums w w.heap.size A2 l) (ha : a.length ≤ maxLen) (hlen : l.length ≤ maxLen) :
    Calls Tryd.prog 31 #[.slice A a.length c, .slice A2 l.length c2] w fun e w' => e = .returned (.bool (subB a l)) ∧ w = w' := by
  have HC := Lib.hid (fun x => has_any A2 c2 l x w hL hlen)
  unfold maxLen at hlen ha
  have HA := Lib.hid hA
  clear hL hA
  go_enter Tryd.func31, Tryd.ntmps31
  go_wp2
  go_loop [5] (fun i => ∃ k : Nat, k ≤ a.length ∧ i = .int .i64 k ∧ ∀ j, j < k → hasB l (ix a j) = true) (fun i => a.length - (intOf i).toNat)
  case atStart => exact ⟨0, by omega, rfl, by omega⟩
  case round =>
    obtain ⟨k, hk, rfl, hj⟩ := hrel
    have HJ := Lib.hid hj
    clear hj
    by_cases hlt : k < a.length
    · obtain ⟨b, o, rfl, _, hc⟩ := HA.out.at_ hlt
      cases he : hasB l (ix a k)
      · have HQ := Lib.hid (subB_bad hlt he)
        go_wp2_with (go_at_call 42; refine (HC.out _).mono ?_; rintro e w' ⟨rfl, rfl⟩)
        go_ret
        exact ⟨ret_bool HQ.out.symm, rfl⟩
      · have HQ := Lib.hid he
        go_wp2_with (go_at_call 42; refine (HC.out _).mono ?_; rintro e w' ⟨rfl, rfl⟩)
        go_round
        case rel => exact ⟨k + 1, by omega, by go_num, fun j hj => by
          by_cases e : j = k
          · subst e; exact HQ.out
          · exact HJ.out j (by omega)⟩
        case measure => simp [intOf]; omega
    · have hge : ¬ ((k : Int) < a.length) := by omega
      go_wp2
      go_ret
      exact ⟨ret_bool (subB_good (fun j hj => HJ.out j (by omega))).symm, rfl⟩

set_option maxHeartbeats 1000000 in
theorem disjoint_any (A A2 : Option Addr) (c c2 : Nat) (a l : List Int) (w : World) (hA : Nums w w.heap.size A a) (hL : Nums w w.heap.size A2 l) (ha : a.length ≤ maxLen) (hlen : l.length ≤ maxLen) :
    Calls Tryd.prog 68 #[.slice A a.length c, .slice A2 l.length c2] w fun e w' => e = .returned (.bool (disB a l)) ∧ w = w' := by
  have HC := Lib.hid (fun x => has_any A2 c2 l x w hL hlen)
  unfold maxLen at hlen ha
  have HA := Lib.hid hA
  clear hL hA
  go_enter Tryd.func68, Tryd.ntmps68
  go_wp2
  go_loop [5] (fun i => ∃ k : Nat, k ≤ a.length ∧ i = .int .i64 k ∧ ∀ j, j < k → hasB l (ix a j) = false) (fun i => a.length - (intOf i).toNat)
  case atStart => exact ⟨0, by omega, rfl, by omega⟩
  case round =>
    obtain ⟨k, hk, rfl, hj⟩ := hrel
    have HJ := Lib.hid hj
    clear hj
    by_cases hlt : k < a.length
    · obtain ⟨b, o, rfl, _, hc⟩ := HA.out.at_ hlt
      cases he : hasB l (ix a k)
      case true =>
        have HQ := Lib.hid (disB_bad hlt he)
        go_wp2_with (go_at_call 42; refine (HC.out _).mono ?_; rintro e w' ⟨rfl, rfl⟩)
        go_ret
        exact ⟨ret_bool HQ.out.symm, rfl⟩
      case false =>
        have HQ := Lib.hid he
        go_wp2_with (go_at_call 42; refine (HC.out _).mono ?_; rintro e w' ⟨rfl, rfl⟩)
        go_round
        case rel => exact ⟨k + 1, by omega, by go_num, fun j hj => by
          by_cases e : j = k
          · subst e; exact HQ.out
          · exact HJ.out j (by omega)⟩
        case measure => simp [intOf]; omega
    · have hge : ¬ ((k : Int) < a.length) := by omega
      go_wp2
      go_ret
      exact ⟨ret_bool (disB_good (fun j hj => HJ.out j (by omega))).symm, rfl⟩

theorem okAt_in {l : List Int} {n : Int} {k : Nat} (h : inB (ix l k) 0 (n - 1) = false) : okAt l n k = false := by
  rw [← Bool.not_eq_true, okAt_iff]
  rintro ⟨h0, h1, _⟩
  unfold inB at h
  rw [decide_eq_false_iff_not] at h
  exact h ⟨h0, by omega⟩
theorem okAt_first {l : List Int} {n : Int} (h : inB (ix l 0) 0 (n - 1) = true) : okAt l n 0 = true := by
  unfold inB at h
  rw [decide_eq_true_eq] at h
  exact okAt_iff.2 ⟨h.1, by omega, .inl rfl⟩
theorem okAt_next {l : List Int} {n : Int} {k : Nat} (h : inB (ix l (k + 1)) 0 (n - 1) = true) (hl : ix l k < ix l (k + 1)) : okAt l n (k + 1) = true := by
  unfold inB at h
  rw [decide_eq_true_eq] at h
  exact okAt_iff.2 ⟨h.1, by omega, .inr (by simpa using hl)⟩
theorem okAt_not {l : List Int} {n : Int} {k : Nat} (hl : ix l (k + 1) ≤ ix l k) : okAt l n (k + 1) = false := by
  rw [← Bool.not_eq_true, okAt_iff]
  rintro ⟨_, _, h⟩
  simp at h
  omega
end Go.Proofs.YtiaobanloakplaaDoor
end

/- Mul, Mlf, Mft in one text. -/
import Derived.Test.YtiaobanloakplaaDoorNb

/- Multi-valued tasks: pure facts, and how they lie in memory. -/
section
namespace Go.Proofs.YtiaobanloakplaaDoor
open Go.RowKit
set_option linter.unusedSimpArgs false
set_option linter.unusedVariables false
set_option maxRecDepth 100000

structure Asg where
  v : Int
  x : Int
structure MOp where
  pre : List Asg
  post : List Asg
  cost : Int
def asg (l : List Asg) (k : Nat) : Asg := l.getD k ⟨0, 0⟩
def mop (l : List MOp) (k : Nat) : MOp := l.getD k ⟨[], [], 0⟩
theorem mop_mem {l : List MOp} {k : Nat} (h : k < l.length) : mop l k ∈ l := by simp [mop, List.getD, h]
theorem asg_mem {l : List Asg} {k : Nat} (h : k < l.length) : asg l k ∈ l := by simp [asg, List.getD, h]
theorem mem_asg {l : List Asg} {c : Asg} (h : c ∈ l) : ∃ k, k < l.length ∧ asg l k = c := by
  obtain ⟨k, hk, e⟩ := List.mem_iff_getElem.1 h
  exact ⟨k, hk, by simp [asg, List.getD, hk, e]⟩
/-- A multi-valued task, and where its slices lie. -/
structure MT where
  sizes : List Int
  init : List Int
  goal : List Asg
  ops : List MOp
  az : Option Addr
  ai : Option Addr
  ag : Option Addr
  ao : Option Addr
  cz : Nat
  ci : Nat
  cg : Nat
  co : Nat

/-- The first that is not 0. -/
def fz : List Int → Int
  | [] => 0
  | a :: l => if a = 0 then fz l else a
/-- The same, with its position. -/
def ofz : Nat → List Int → Int × Int
  | _, [] => (0, 0)
  | i, a :: l => if a = 0 then ofz (i + 1) l else (a, i)
theorem ix_cons0 (a : Int) (l : List Int) : ix (a :: l) 0 = a := by simp [ix]
theorem ix_consS (a : Int) (l : List Int) (k : Nat) : ix (a :: l) (k + 1) = ix l k := by simp [ix, List.getD]
theorem fz_at : ∀ {l : List Int} {k : Nat}, (∀ j, j < k → ix l j = 0) → ix l k ≠ 0 → fz l = ix l k
  | [], k, _, h => by simp [ix] at h
  | a :: l, 0, _, h => by rw [ix_cons0] at h ⊢; rw [fz, if_neg h]
  | a :: l, k + 1, h0, h => by
    rw [ix_consS] at h ⊢
    rw [fz, if_pos (by have := h0 0 (by omega); rwa [ix_cons0] at this)]
    exact fz_at (fun j hj => by have := h0 (j + 1) (by omega); rwa [ix_consS] at this) h
theorem fz_none : ∀ {l : List Int}, (∀ j, j < l.length → ix l j = 0) → fz l = 0
  | [], _ => rfl
  | a :: l, h0 => by
    rw [fz, if_pos (by have := h0 0 (by simp); rwa [ix_cons0] at this)]
    exact fz_none (fun j hj => by have := h0 (j + 1) (by simpa using hj); rwa [ix_consS] at this)
theorem fz_zero : ∀ {l : List Int}, fz l = 0 → ∀ j, j < l.length → ix l j = 0
  | [], _, j, h => by simp at h
  | a :: l, h, j, hj => by
    rw [fz] at h
    split at h
    · rename_i e
      match j with
      | 0 => rw [ix_cons0]; exact e
      | j + 1 => rw [ix_consS]; exact fz_zero h j (by simpa using hj)
    · rename_i e; exact absurd h e
theorem ofz_at : ∀ {l : List Int} {k i : Nat}, (∀ j, j < k → ix l j = 0) → ix l k ≠ 0 → ofz i l = (ix l k, ((i + k : Nat) : Int))
  | [], k, _, _, h => by simp [ix] at h
  | a :: l, 0, i, _, h => by rw [ix_cons0] at h ⊢; rw [ofz, if_neg h]; rfl
  | a :: l, k + 1, i, h0, h => by
    rw [ix_consS] at h ⊢
    rw [ofz, if_pos (by have := h0 0 (by omega); rwa [ix_cons0] at this)]
    rw [ofz_at (i := i + 1) (fun j hj => by have := h0 (j + 1) (by omega); rwa [ix_consS] at this) h]
    rw [show i + 1 + k = i + (k + 1) by omega]
theorem ofz_none : ∀ {l : List Int} {i : Nat}, (∀ j, j < l.length → ix l j = 0) → ofz i l = (0, 0)
  | [], _, _ => rfl
  | a :: l, i, h0 => by
    rw [ofz, if_pos (by have := h0 0 (by simp); rwa [ix_cons0] at this)]
    exact ofz_none (fun j hj => by have := h0 (j + 1) (by simpa using hj); rwa [ix_consS] at this)
theorem ofz_zero : ∀ {l : List Int} {i : Nat}, (ofz i l).1 = 0 → ∀ j, j < l.length → ix l j = 0
  | [], _, _, j, h => by simp at h
  | a :: l, i, h, j, hj => by
    rw [ofz] at h
    split at h
    · rename_i e
      match j with
      | 0 => rw [ix_cons0]; exact e
      | j + 1 => rw [ix_consS]; exact ofz_zero h j (by simpa using hj)
    · rename_i e; exact absurd h e
theorem ofz_ok {l : List Int} {i : Nat} (h : (ofz i l).1 = 0) : ofz i l = (0, 0) := ofz_none (ofz_zero h)


theorem inB_iff {x a b : Int} : inB x a b = true ↔ a ≤ x ∧ x ≤ b := by simp [inB]
theorem inB_no {x a b : Int} (h : ¬ (a ≤ x ∧ x ≤ b)) : inB x a b = false := by
  cases e : inB x a b
  · rfl
  · exact absurd (inB_iff.1 e) h
theorem all_step {p : Nat → Prop} {k : Nat} (h : ∀ j, j < k → p j) (hk : p k) : ∀ j, j < k + 1 → p j := fun j hj => by
  rcases Nat.lt_succ_iff_lt_or_eq.1 hj with h1 | rfl
  · exact h j h1
  · exact hk
theorem beq_len (a n : Nat) : (((a : Nat) : Int) == (n : Int)) = decide (a = n) := by
  by_cases e : a = n
  · subst e; simp
  · rw [decide_eq_false e]; simp; omega
/-- All of the first n. -/
def allB (n : Nat) (p : Nat → Bool) : Bool := (List.range n).all p
theorem allB_iff {n : Nat} {p : Nat → Bool} : allB n p = true ↔ ∀ k, k < n → p k = true := by simp [allB, List.all_eq_true]
theorem allB_bad {n : Nat} {p : Nat → Bool} {k : Nat} (hk : k < n) (h : p k = false) : allB n p = false := by
  cases e : allB n p
  · rfl
  · rw [allB_iff.1 e k hk] at h; cases h

/-- Sizes in order. -/
def szB (S : List Int) : Bool := allB S.length fun k => inB (ix S k) 1 6
def st1 (S s : List Int) (k : Nat) : Bool := inB (ix s k) 0 (ix S k - 1)
/-- s is a state. -/
def msB (S s : List Int) : Bool := decide (s.length = S.length) && allB s.length (st1 S s)
/-- The position's variable. -/
def vr (l : List Asg) (k : Nat) : Nat := (asg l k).v.toNat
def as0 (S : List Int) (l : List Asg) (k : Nat) : Bool := inB (asg l k).v 0 ((S.length : Int) - 1) && inB (asg l k).x 0 (ix S (vr l k) - 1)
def as2 (l : List Asg) (k : Nat) : Bool := decide (0 < k ∧ (asg l k).v ≤ (asg l (k - 1)).v)
def as1 (S : List Int) (l : List Asg) (k : Nat) : Bool := as0 S l k && !as2 l k
/-- A valid list of assignments. -/
def asB (S : List Int) (l : List Asg) : Bool := allB l.length (as1 S l)
def mcode (S : List Int) (o : MOp) : Int := if asB S o.pre && asB S o.post then (if inB o.cost 0 100 then 0 else 3) else 5
/-- The fault of a task. -/
def mfF (x : MT) : Int × Int :=
  if ¬ (1 ≤ x.sizes.length ∧ x.sizes.length ≤ 8) then (2, -1) else if szB x.sizes = false then (3, -1) else if msB x.sizes x.init = false then (5, -2)
  else if asB x.sizes x.goal = false then (5, -3) else if 40 < x.ops.length then (2, -1) else ofz 0 (x.ops.map (mcode x.sizes))
theorem ix_mapc {α : Type} (l : List α) (g : α → Int) {k : Nat} (hk : k < l.length) (d : α) : ix (l.map g) k = g (l.getD k d) := by simp [ix, List.getD, hk]
theorem ix_mcode {S : List Int} {l : List MOp} {k : Nat} (hk : k < l.length) : ix (l.map (mcode S)) k = mcode S (mop l k) := ix_mapc _ _ hk _
/-- Sizes that are in order. -/
structure SzOk (S : List Int) : Prop where
  n1 : 1 ≤ S.length
  n8 : S.length ≤ 8
  r : ∀ k, k < S.length → 1 ≤ ix S k ∧ ix S k ≤ 6
/-- Assignments that are in order. -/
structure AsOk (S : List Int) (l : List Asg) : Prop where
  v : ∀ k, k < l.length → (asg l k).v = (vr l k : Int)
  lt : ∀ k, k < l.length → vr l k < S.length
  x : ∀ k, k < l.length → 0 ≤ (asg l k).x ∧ (asg l k).x ≤ ix S (vr l k) - 1
  up : ∀ k, k + 1 < l.length → vr l k < vr l (k + 1)
structure MVal (x : MT) : Prop where
  sz : SzOk x.sizes
  init : msB x.sizes x.init = true
  goal : AsOk x.sizes x.goal
  m : x.ops.length ≤ 40
  pre : ∀ k, k < x.ops.length → AsOk x.sizes (mop x.ops k).pre
  post : ∀ k, k < x.ops.length → AsOk x.sizes (mop x.ops k).post
  cost : ∀ k, k < x.ops.length → 0 ≤ (mop x.ops k).cost ∧ (mop x.ops k).cost ≤ 100
theorem as_ok {S : List Int} {l : List Asg} (h : asB S l = true) : AsOk S l := by
  have H : ∀ k, k < l.length → ((0 ≤ (asg l k).v ∧ (asg l k).v ≤ (S.length : Int) - 1) ∧ 0 ≤ (asg l k).x ∧ (asg l k).x ≤ ix S (vr l k) - 1) ∧ ¬ (0 < k ∧ (asg l k).v ≤ (asg l (k - 1)).v) := fun k hk => by
    have := allB_iff.1 h k hk
    unfold as1 as0 as2 at this
    rw [Bool.and_eq_true, Bool.and_eq_true, inB_iff, inB_iff, Bool.not_eq_true', decide_eq_false_iff_not] at this
    exact this
  have hv : ∀ k, k < l.length → (asg l k).v = (vr l k : Int) := fun k hk => by have := (H k hk).1.1.1; unfold vr; omega
  refine ⟨hv, fun k hk => ?_, fun k hk => (H k hk).1.2, fun k hk => ?_⟩
  · have := (H k hk).1.1.2; have := hv k hk; omega
  · have h1 := (H (k + 1) hk).2
    have h2 := hv (k + 1) hk
    have h3 := hv k (by omega)
    rw [Nat.add_sub_cancel] at h1
    omega
theorem ms_len {S s : List Int} (h : msB S s = true) : s.length = S.length := by
  unfold msB at h; rw [Bool.and_eq_true, decide_eq_true_iff] at h; exact h.1
theorem ms_at {S s : List Int} (h : msB S s = true) {k : Nat} (hk : k < s.length) : 0 ≤ ix s k ∧ ix s k ≤ ix S k - 1 := by
  unfold msB at h; rw [Bool.and_eq_true] at h; exact inB_iff.1 (allB_iff.1 h.2 k hk)
theorem mcode_ok {S : List Int} {o : MOp} (h : mcode S o = 0) : AsOk S o.pre ∧ AsOk S o.post ∧ 0 ≤ o.cost ∧ o.cost ≤ 100 := by
  unfold mcode at h
  split at h
  · rename_i h1
    rw [Bool.and_eq_true] at h1
    split at h
    · rename_i h2
      exact ⟨as_ok h1.1, as_ok h1.2, inB_iff.1 h2⟩
    · cases h
  · cases h
theorem mf_val {x : MT} (h : (mfF x).1 = 0) : MVal x ∧ mfF x = (0, 0) := by
  unfold mfF at h ⊢
  split at h
  · cases h
  rename_i h1
  split at h
  · cases h
  rename_i h2
  split at h
  · cases h
  rename_i h3
  split at h
  · cases h
  rename_i h4
  split at h
  · cases h
  rename_i h5
  have h1' : 1 ≤ x.sizes.length ∧ x.sizes.length ≤ 8 := by omega
  have h2' : szB x.sizes = true := by simpa using h2
  have hz := fun k (hk : k < x.ops.length) => by
    have := ofz_zero h k (by simpa using hk)
    rw [ix_mcode hk] at this
    exact mcode_ok this
  refine ⟨⟨⟨h1'.1, h1'.2, fun k hk => inB_iff.1 (allB_iff.1 h2' k hk)⟩, by simpa using h3, as_ok (by simpa using h4), by omega, fun k hk => (hz k hk).1, fun k hk => (hz k hk).2.1, fun k hk => (hz k hk).2.2⟩, ?_⟩
  rw [if_neg h1, if_neg h2, if_neg h3, if_neg h4, if_neg h5]
  exact ofz_ok h
theorem mf_bad {x : MT} {k : Nat} (h1 : 1 ≤ x.sizes.length) (h8 : x.sizes.length ≤ 8) (hz : szB x.sizes = true) (hi : msB x.sizes x.init = true) (hg : asB x.sizes x.goal = true) (h40 : x.ops.length ≤ 40)
    (hk : k < x.ops.length) (h0 : ∀ j, j < k → mcode x.sizes (mop x.ops j) = 0) (h : mcode x.sizes (mop x.ops k) ≠ 0) : mfF x = (mcode x.sizes (mop x.ops k), (k : Int)) := by
  unfold mfF
  rw [if_neg (by omega), if_neg (by simp [hz]), if_neg (by simp [hi]), if_neg (by simp [hg]), if_neg (by omega), ← ix_mcode hk]
  have := ofz_at (i := 0) (k := k) (fun j hj => by rw [ix_mcode (Nat.lt_trans hj hk)]; exact h0 j hj) (by rw [ix_mcode hk]; exact h)
  simpa using this
theorem mf_good {x : MT} (h1 : 1 ≤ x.sizes.length) (h8 : x.sizes.length ≤ 8) (hz : szB x.sizes = true) (hi : msB x.sizes x.init = true) (hg : asB x.sizes x.goal = true) (h40 : x.ops.length ≤ 40)
    (h0 : ∀ j, j < x.ops.length → mcode x.sizes (mop x.ops j) = 0) : mfF x = (0, 0) := by
  unfold mfF
  rw [if_neg (by omega), if_neg (by simp [hz]), if_neg (by simp [hi]), if_neg (by simp [hg]), if_neg (by omega)]
  exact ofz_none fun j hj => by rw [ix_mcode (by simpa using hj)]; exact h0 j (by simpa using hj)

/-- A state has the values of a list. -/
def h1B (s : List Int) (l : List Asg) (k : Nat) : Bool := decide (ix s (vr l k) = (asg l k).x)
def holdB (s : List Int) (l : List Asg) : Bool := allB l.length (h1B s l)
/-- The state behind the first n assignments, and behind all. -/
def aftN (s : List Int) (l : List Asg) (n : Nat) : List Int := (l.take n).foldl (fun t a => t.set a.v.toNat a.x) s
def aft (s : List Int) (l : List Asg) : List Int := aftN s l l.length
theorem take_asg {l : List Asg} {k : Nat} (h : k < l.length) : l.take (k + 1) = l.take k ++ [asg l k] := by
  rw [List.take_add_one]; simp [asg, List.getD, h]
theorem aftN_zero (s : List Int) (l : List Asg) : aftN s l 0 = s := rfl
theorem aftN_succ {s : List Int} {l : List Asg} {k : Nat} (h : k < l.length) : aftN s l (k + 1) = (aftN s l k).set (vr l k) (asg l k).x := by
  unfold aftN; rw [take_asg h, List.foldl_append]; rfl
theorem aftN_len (s : List Int) (l : List Asg) : ∀ n, n ≤ l.length → (aftN s l n).length = s.length
  | 0, _ => rfl
  | n + 1, h => by rw [aftN_succ (by omega), List.length_set]; exact aftN_len s l n (by omega)
theorem aft_len (s : List Int) (l : List Asg) : (aft s l).length = s.length := aftN_len s l _ (Nat.le_refl _)
theorem ix_set {l : List Int} {i j : Nat} {v : Int} (hi : i < l.length) : ix (l.set i v) j = if j = i then v else ix l j := by
  unfold ix
  by_cases h : j = i
  · subst h; simp [List.getD, hi]
  · rw [if_neg h]; simp [List.getD, List.getElem?_set_ne (Ne.symm h)]
theorem ms_aftN {S s : List Int} {l : List Asg} (hl : AsOk S l) (h : msB S s = true) : ∀ n, n ≤ l.length → msB S (aftN s l n) = true
  | 0, _ => h
  | n + 1, hn => by
    have ih := ms_aftN hl h n (by omega)
    have e1 := ms_len ih
    unfold msB
    rw [Bool.and_eq_true, decide_eq_true_iff, allB_iff, aftN_len s l _ hn, ms_len h]
    refine ⟨rfl, fun k hk => ?_⟩
    have hv := hl.lt n (by omega)
    unfold st1
    rw [aftN_succ (by omega), inB_iff, ix_set (by omega)]
    by_cases e : k = vr l n
    · subst e; rw [if_pos rfl]; exact hl.x n (by omega)
    · rw [if_neg e]; exact ms_at ih (by omega)
theorem ms_aft {S s : List Int} {l : List Asg} (hl : AsOk S l) (h : msB S s = true) : msB S (aft s l) = true := ms_aftN hl h _ (Nat.le_refl _)
/-- Plays n steps of a plan: the state, if all could be taken. -/
def mrun (ops : List MOp) (plan : List Int) (s : List Int) : Nat → Option (List Int)
  | 0 => some s
  | k + 1 => match mrun ops plan s k with
    | none => none
    | some t => if holdB t (mop ops (ix plan k).toNat).pre then some (aft t (mop ops (ix plan k).toNat).post) else none
def msol (x : MT) (plan : List Int) : Bool := match mrun x.ops plan x.init plan.length with
  | none => false
  | some t => holdB t x.goal
theorem mrun_le {ops : List MOp} {plan s : List Int} {k n : Nat} (h : k ≤ n) (hk : mrun ops plan s k = none) : mrun ops plan s n = none := by
  induction h with
  | refl => exact hk
  | step _ ih => simp [mrun, ih]
theorem msol_bad {x : MT} {plan t : List Int} {k : Nat} (hk : k < plan.length) (h : mrun x.ops plan x.init k = some t) (hb : holdB t (mop x.ops (ix plan k).toNat).pre = false) : msol x plan = false := by
  have : mrun x.ops plan x.init (k + 1) = none := by simp [mrun, h, hb]
  unfold msol; rw [mrun_le hk this]
theorem msol_end {x : MT} {plan t : List Int} (h : mrun x.ops plan x.init plan.length = some t) : msol x plan = holdB t x.goal := by unfold msol; rw [h]
theorem mrun_step {ops : List MOp} {plan s t : List Int} {k : Nat} (h : mrun ops plan s k = some t) (hb : holdB t (mop ops (ix plan k).toNat).pre = true) : mrun ops plan s (k + 1) = some (aft t (mop ops (ix plan k).toNat).post) := by
  simp [mrun, h, hb]
def mcost (ops : List MOp) (plan : List Int) : Nat → Int
  | 0 => 0
  | k + 1 => mcost ops plan k + (mop ops (ix plan k).toNat).cost
theorem mcost_le {x : MT} (hv : MVal x) {plan : List Int} (hp : planB x.ops.length plan = true) : ∀ n, n ≤ plan.length → 0 ≤ mcost x.ops plan n ∧ mcost x.ops plan n ≤ 100 * n
  | 0, _ => by simp [mcost]
  | n + 1, h => by
    have ih := mcost_le hv hp n (by omega)
    have h1 := planB_at hp (k := n) (by omega)
    have := hv.cost (ix plan n).toNat (by omega)
    simp only [mcost]; omega

/-- The cells of an assignment and of an operator. -/
structure AsgC (w : World) (b p : Nat) (c : Asg) : Prop where
  c0 : w.cell? ⟨b, p, none⟩ = some (.int .i64 c.v)
  c1 : w.cell? ⟨b, p + 1, none⟩ = some (.int .i64 c.x)
structure MOpC (w : World) (b p : Nat) (o : MOp) (a1 a2 : Option Addr) (c1 c2 : Nat) : Prop where
  c0 : w.cell? ⟨b, p, none⟩ = some (.slice a1 o.pre.length c1)
  c1 : w.cell? ⟨b, p + 1, none⟩ = some (.slice a2 o.post.length c2)
  c2 : w.cell? ⟨b, p + 2, none⟩ = some (.int .i64 o.cost)
section
variable {w w' : World} {B B' b p : Nat} {a a1 a2 : Option Addr} {ca c1 c2 : Nat}
theorem AsgC.to {c : Asg} (h : AsgC w b p c) (hb : Below B w w') (hB : b < B) : AsgC w' b p c :=
  ⟨(hb.cell (p := ⟨b, p, none⟩) hB).trans h.c0, (hb.cell (p := ⟨b, p + 1, none⟩) hB).trans h.c1⟩
theorem MOpC.to {o : MOp} (h : MOpC w b p o a1 a2 c1 c2) (hb : Below B w w') (hB : b < B) : MOpC w' b p o a1 a2 c1 c2 :=
  ⟨(hb.cell (p := ⟨b, p, none⟩) hB).trans h.c0, (hb.cell (p := ⟨b, p + 1, none⟩) hB).trans h.c1, (hb.cell (p := ⟨b, p + 2, none⟩) hB).trans h.c2⟩
end
/-- Assignments in a slice. -/
structure AsgL (w : World) (B : Nat) (A : Option Addr) (C : Nat) (l : List Asg) : Prop where
  cells : 0 < l.length → ∃ b p, A = some ⟨b, p, none⟩ ∧ b < B ∧ ∀ k, k < l.length → AsgC w b (p + k * 2) (asg l k)
  le : l.length ≤ C
  max : C ≤ maxLen
structure MOpL (w : World) (B : Nat) (A : Option Addr) (C : Nat) (l : List MOp) : Prop where
  cells : 0 < l.length → ∃ b p, A = some ⟨b, p, none⟩ ∧ b < B ∧ ∀ k, k < l.length → ∃ a1 a2 c1 c2, MOpC w b (p + k * 3) (mop l k) a1 a2 c1 c2 ∧ AsgL w B a1 c1 (mop l k).pre ∧ AsgL w B a2 c2 (mop l k).post
  le : l.length ≤ C
  max : C ≤ maxLen
section
variable {w w' : World} {B B' : Nat} {A : Option Addr} {C : Nat}
theorem AsgL.len {l : List Asg} (h : AsgL w B A C l) : l.length ≤ maxLen := Nat.le_trans h.le h.max
theorem AsgL.to {l : List Asg} (h : AsgL w B A C l) (hb : Below B w w') (hB : B ≤ B') : AsgL w' B' A C l := by
  refine ⟨fun h0 => ?_, h.le, h.max⟩
  obtain ⟨b, p, e, hlt, hc⟩ := h.cells h0
  exact ⟨b, p, e, by omega, fun k hk => (hc k hk).to hb hlt⟩
theorem MOpL.to {l : List MOp} (h : MOpL w B A C l) (hb : Below B w w') (hB : B ≤ B') : MOpL w' B' A C l := by
  refine ⟨fun h0 => ?_, h.le, h.max⟩
  obtain ⟨b, p, e, hlt, hc⟩ := h.cells h0
  exact ⟨b, p, e, by omega, fun k hk => by obtain ⟨a1, a2, c1, c2, q1, q2, q3⟩ := hc k hk; exact ⟨a1, a2, c1, c2, q1.to hb hlt, q2.to hb hB, q3.to hb hB⟩⟩
theorem AsgL.at_ {l : List Asg} (h : AsgL w B A C l) {k : Nat} (hk : k < l.length) : ∃ b p, A = some ⟨b, p, none⟩ ∧ b < B ∧ AsgC w b (p + k * 2) (asg l k) := by
  obtain ⟨b, p, e, hlt, hc⟩ := h.cells (by omega)
  exact ⟨b, p, e, hlt, hc k hk⟩
theorem AsgL.at2 {l : List Asg} (h : AsgL w B A C l) {k : Nat} (hk : k < l.length) : ∃ b p, A = some ⟨b, p, none⟩ ∧ b < B ∧ AsgC w b (p + k * 2) (asg l k) ∧ (0 < k → AsgC w b (p + (k - 1) * 2) (asg l (k - 1))) := by
  obtain ⟨b, p, e, hlt, hc⟩ := h.cells (by omega)
  exact ⟨b, p, e, hlt, hc k hk, fun h0 => hc (k - 1) (by omega)⟩
theorem MOpL.at_ {l : List MOp} (h : MOpL w B A C l) {k : Nat} (hk : k < l.length) : ∃ b p a1 a2 c1 c2, A = some ⟨b, p, none⟩ ∧ b < B ∧ MOpC w b (p + k * 3) (mop l k) a1 a2 c1 c2 ∧ AsgL w B a1 c1 (mop l k).pre ∧ AsgL w B a2 c2 (mop l k).post := by
  obtain ⟨b, p, e, hlt, hc⟩ := h.cells (by omega)
  obtain ⟨a1, a2, c1, c2, q1, q2, q3⟩ := hc k hk
  exact ⟨b, p, a1, a2, c1, c2, e, hlt, q1, q2, q3⟩
end
/-- A multi-valued task in memory. -/
structure MTIn (w : World) (B : Nat) (x : MT) : Prop where
  sizes : Lst w B x.az x.cz x.sizes
  init : Lst w B x.ai x.ci x.init
  goal : AsgL w B x.ag x.cg x.goal
  ops : MOpL w B x.ao x.co x.ops
  nil : x.ai = none → x.ci = 0
theorem MTIn.to {w w' : World} {B B' : Nat} {x : MT} (h : MTIn w B x) (hb : Below B w w') (hB : B ≤ B') : MTIn w' B' x := ⟨h.sizes.to hb hB, h.init.to hb hB, h.goal.to hb hB, h.ops.to hb hB, h.nil⟩
structure MBox (w : World) (g : Nat) (x : MT) : Prop where
  lt : g < w.heap.size
  c0 : w.cell? ⟨g, 0, none⟩ = some (.slice x.az x.sizes.length x.cz)
  c1 : w.cell? ⟨g, 1, none⟩ = some (.slice x.ai x.init.length x.ci)
  c2 : w.cell? ⟨g, 2, none⟩ = some (.slice x.ag x.goal.length x.cg)
  c3 : w.cell? ⟨g, 3, none⟩ = some (.slice x.ao x.ops.length x.co)
theorem MBox.to {w w' : World} {B g : Nat} {x : MT} (h : MBox w g x) (hb : Below B w w') (hB : g < B) : MBox w' g x :=
  ⟨Nat.lt_of_lt_of_le h.lt hb.size, (hb.cell (p := ⟨g, 0, none⟩) hB).trans h.c0, (hb.cell (p := ⟨g, 1, none⟩) hB).trans h.c1, (hb.cell (p := ⟨g, 2, none⟩) hB).trans h.c2, (hb.cell (p := ⟨g, 3, none⟩) hB).trans h.c3⟩
theorem mbox_new (w : World) (x : MT) (t : TypeId) : MBox (w.alloc (.cells #[.slice x.az x.sizes.length x.cz, .slice x.ai x.init.length x.ci, .slice x.ag x.goal.length x.cg, .slice x.ao x.ops.length x.co] t)) w.heap.size x := ⟨by simp, by simp, by simp, by simp, by simp⟩
theorem MBox.far {w : World} {g : Nat} {x : MT} (h : MBox w g x) {p : Addr} (hp : p.block ≠ g) (u : Value) : MBox (w.setCell p u) g x := by
  refine ⟨by simpa using h.lt, ?_, ?_, ?_, ?_⟩
  · rw [World.cell?_setCell_other _ _ _ _ (by rintro rfl; exact hp rfl)]; exact h.c0
  · rw [World.cell?_setCell_other _ _ _ _ (by rintro rfl; exact hp rfl)]; exact h.c1
  · rw [World.cell?_setCell_other _ _ _ _ (by rintro rfl; exact hp rfl)]; exact h.c2
  · rw [World.cell?_setCell_other _ _ _ _ (by rintro rfl; exact hp rfl)]; exact h.c3
/-- What a call with a task has laid first: its box. -/
structure BxM (w W : World) (x : MT) : Prop where
  below : Below w.heap.size w W
  box : MBox W w.heap.size x
theorem BxM.to {w W W' : World} {x : MT} (h : BxM w W x) (hb : Below W.heap.size W W') : BxM w W' x := ⟨h.below.trans (hb.mono h.below.size), h.box.to hb h.box.lt⟩
theorem al_b (w : World) (o : Obj) : Below w.heap.size w (w.alloc o) := (Below.refl _ _).alloc (Nat.le_refl _) o
theorem bxM_new (w : World) (x : MT) (t : TypeId) : BxM w (w.alloc (.cells #[.slice x.az x.sizes.length x.cz, .slice x.ai x.init.length x.ci, .slice x.ag x.goal.length x.cg, .slice x.ao x.ops.length x.co] t)) x := ⟨al_b _ _, mbox_new _ _ _⟩
theorem dr_b (w : World) (n : Nat) : Below w.heap.size w (w.drewN n) := belowN (Below.refl _ _) n
end Go.Proofs.YtiaobanloakplaaDoor
end

/- MultiState, Assigns and MultiHolds of the reference. -/
section
namespace Go.Proofs.YtiaobanloakplaaDoor
open Go.RowKit
set_option linter.unusedSimpArgs false
set_option linter.unusedVariables false
set_option maxRecDepth 100000


theorem in_q (x a b : Int) (w : World) : Calls Tryd.prog 29 #[.int .i64 x, .int .i64 a, .int .i64 b] w fun e w' => e = .returned (.bool (inB x a b)) ∧ w' = w := (in_any x a b w).mono fun _ _ h => ⟨h.1, h.2.symm⟩
theorem st_bad {S s : List Int} {k : Nat} (hk : k < s.length) (h : st1 S s k = false) : msB S s = false := by unfold msB; rw [allB_bad hk h]; simp
theorem st_good {S s : List Int} (e : s.length = S.length) (h : ∀ k, k < s.length → st1 S s k = true) : msB S s = true := by unfold msB; rw [allB_iff.2 h, decide_eq_true e]; rfl
theorem as1_of {S : List Int} {l : List Asg} {k : Nat} {a b : Bool} (h : as0 S l k = a) (h2 : as2 l k = b) : as1 S l k = (a && !b) := by unfold as1; rw [h, h2]
theorem as_bad {S : List Int} {l : List Asg} {k : Nat} (hk : k < l.length) (h : as1 S l k = false) : asB S l = false := allB_bad hk h
theorem as_good {S : List Int} {l : List Asg} (h : ∀ k, k < l.length → as1 S l k = true) : asB S l = true := allB_iff.2 h
theorem hold_bad {s : List Int} {l : List Asg} {k : Nat} (hk : k < l.length) (h : h1B s l k = false) : holdB s l = false := allB_bad hk h
theorem hold_good {s : List Int} {l : List Asg} (h : ∀ k, k < l.length → h1B s l k = true) : holdB s l = true := allB_iff.2 h
end Go.Proofs.YtiaobanloakplaaDoor
end

/- MultiFault of the reference. -/
section
namespace Go.Proofs.YtiaobanloakplaaDoor
open Go.RowKit
set_option linter.unusedSimpArgs false
set_option linter.unusedVariables false
set_option maxRecDepth 100000

/-- What a call with a task has laid: its box and a fault. -/
structure FrM (w W : World) (x : MT) (u v : Int) : Prop where
  below : Below w.heap.size w W
  box : MBox W w.heap.size x
  two : Two W (w.heap.size + 1) (.int .i64 u) (.int .i64 v)
theorem FrM.to {w W W' : World} {x : MT} {u v : Int} (h : FrM w W x u v) (hb : Below W.heap.size W W') : FrM w W' x u v :=
  ⟨h.below.trans (hb.mono h.below.size), h.box.to hb h.box.lt, two_to h.two hb⟩
theorem frM_new (w : World) (x : MT) (t t' : TypeId) : FrM w ((w.alloc (.cells #[.slice x.az x.sizes.length x.cz, .slice x.ai x.init.length x.ci, .slice x.ag x.goal.length x.cg, .slice x.ao x.ops.length x.co] t)).alloc (.cells #[.int .i64 0, .int .i64 0] t')) x 0 0 := by
  refine ⟨by go_grown, (mbox_new w x t).to ((Below.refl _ _).alloc (Nat.le_refl _) _) (by simp), ?_⟩
  have := two_new (w.alloc (.cells #[.slice x.az x.sizes.length x.cz, .slice x.ai x.init.length x.ci, .slice x.ag x.goal.length x.cg, .slice x.ao x.ops.length x.co] t)) (.int .i64 0) (.int .i64 0) t'
  simpa using this
/-- A box with three cells. -/
structure Tri (w : World) (g : Nat) (u v y : Value) : Prop where
  lt : g < w.heap.size
  c0 : w.cell? ⟨g, 0, none⟩ = some u
  c1 : w.cell? ⟨g, 1, none⟩ = some v
  c2 : w.cell? ⟨g, 2, none⟩ = some y
theorem Tri.to {w w' : World} {g : Nat} {u v y : Value} (h : Tri w g u v y) (hb : Below w.heap.size w w') : Tri w' g u v y :=
  ⟨Nat.lt_of_lt_of_le h.lt hb.size, (hb.cell (p := ⟨g, 0, none⟩) h.lt).trans h.c0, (hb.cell (p := ⟨g, 1, none⟩) h.lt).trans h.c1, (hb.cell (p := ⟨g, 2, none⟩) h.lt).trans h.c2⟩
theorem tri_new (w : World) (u v y : Value) (t : TypeId) : Tri (w.alloc (.cells #[u, v, y] t)) w.heap.size u v y := ⟨by simp, by simp, by simp, by simp⟩

theorem szB_good {S : List Int} (h : ∀ j, j < S.length → inB (ix S j) 1 6 = true) : szB S = true := allB_iff.2 h
theorem szB_bad {S : List Int} {k : Nat} (hk : k < S.length) (h : inB (ix S k) 1 6 = false) : szB S = false := allB_bad hk h
theorem szB_ok {S : List Int} (h18 : 1 ≤ S.length ∧ S.length ≤ 8) (h : szB S = true) : SzOk S := ⟨h18.1, h18.2, fun k hk => inB_iff.1 (allB_iff.1 h k hk)⟩
end Go.Proofs.YtiaobanloakplaaDoor
end

/- Failing, reducing and minimal plans: pure facts. -/
import Derived.Test.YtkflidnclndpkaaDoorKpq
namespace Go.Proofs.YtkflidnclndpkaaDoor
open Go.RowKit
set_option linter.unusedSimpArgs false
set_option linter.unusedVariables false
set_option maxRecDepth 100000

/-- All steps can be executed from the initial state. -/
def exB (x : Tsk) (n : Nat) (plan : List Int) : Bool := (runTo x n x.init plan plan.length).isSome
/-- The position of the first step that fails, the number of steps, or -1. -/
def failF (x : Tsk) (n : Nat) (plan : List Int) : Int :=
  match (List.range plan.length).find? (fun i => (runTo x n x.init plan (i + 1)).isNone) with
  | some i => i
  | none => if solB x n x.init plan then -1 else plan.length
theorem fail_hit {x : Tsk} {n : Nat} {plan : List Int} {k : Nat} (hk : k < plan.length) (h : runTo x n x.init plan (k + 1) = none) (hj : ∀ j, j < k → (runTo x n x.init plan (j + 1)).isSome = true) : failF x n plan = k := by
  have e : (List.range plan.length).find? (fun i => (runTo x n x.init plan (i + 1)).isNone) = some k := by
    rw [List.find?_range_eq_some]
    refine ⟨by simp [h], by simpa using hk, fun j hjk => ?_⟩
    have := hj j hjk
    rw [Option.isSome_iff_exists] at this
    obtain ⟨t, ht⟩ := this
    simp [ht]
  unfold failF
  rw [e]
theorem fail_miss {x : Tsk} {n : Nat} {plan : List Int} (hj : ∀ j, j < plan.length → (runTo x n x.init plan (j + 1)).isSome = true) : failF x n plan = (if solB x n x.init plan then -1 else (plan.length : Int)) := by
  have e : (List.range plan.length).find? (fun i => (runTo x n x.init plan (i + 1)).isNone) = none := by
    rw [List.find?_eq_none]
    intro j h
    have := hj j (by simpa using h)
    rw [Option.isSome_iff_exists] at this
    obtain ⟨t, ht⟩ := this
    simp [ht]
  unfold failF
  rw [e]
/-- Either some first step fails, or all can be executed. -/
theorem fail_cases (x : Tsk) (n : Nat) (plan : List Int) : (∃ k, k < plan.length ∧ failF x n plan = k ∧ (runTo x n x.init plan k).isSome = true ∧ runTo x n x.init plan (k + 1) = none) ∨
    (exB x n plan = true ∧ failF x n plan = (if solB x n x.init plan then -1 else (plan.length : Int))) := by
  have key : ∀ m, m ≤ plan.length → (∃ k, k < m ∧ runTo x n x.init plan (k + 1) = none ∧ ∀ j, j < k → (runTo x n x.init plan (j + 1)).isSome = true) ∨ ∀ j, j < m → (runTo x n x.init plan (j + 1)).isSome = true := by
    intro m
    induction m with
    | zero => intro _; exact .inr (fun j h => by omega)
    | succ m ih =>
      intro hm
      rcases ih (by omega) with ⟨k, h1, h2, h3⟩ | h
      · exact .inl ⟨k, by omega, h2, h3⟩
      · cases hr : runTo x n x.init plan (m + 1) with
        | none => exact .inl ⟨m, by omega, hr, h⟩
        | some t =>
          refine .inr (fun j hj => ?_)
          by_cases e : j = m
          · subst e; rw [hr]; rfl
          · exact h j (by omega)
  rcases key plan.length (Nat.le_refl _) with ⟨k, h1, h2, h3⟩ | h
  · refine .inl ⟨k, h1, fail_hit h1 h2 h3, ?_, h2⟩
    cases k with
    | zero => rfl
    | succ k => exact h3 k (by omega)
  · refine .inr ⟨?_, fail_miss h⟩
    unfold exB
    cases e : plan.length with
    | zero => rfl
    | succ m => exact h m (by omega)
theorem sol_ex {x : Tsk} {n : Nat} {plan : List Int} (h : solB x n x.init plan = true) : exB x n plan = true := by
  unfold solB at h
  unfold exB
  cases hr : runTo x n x.init plan plan.length with
  | none => rw [hr] at h; cases h
  | some t => rfl

/-- One step more, if it can be executed. -/
def omS (x : Tsk) (n : Nat) (out : List Int) (op : Int) : List Int := if exB x n (out ++ [op]) then out ++ [op] else out
/-- The plan without step i and what cannot be executed then. -/
def omL (x : Tsk) (n : Nat) (plan : List Int) (i : Nat) : List Int := (plan.drop (i + 1)).foldl (omS x n) (plan.take i)
/-- The same up to the step m. -/
def omK (x : Tsk) (n : Nat) (plan : List Int) (i m : Nat) : List Int := ((plan.drop (i + 1)).take m).foldl (omS x n) (plan.take i)
theorem omK_zero (x : Tsk) (n : Nat) (plan : List Int) (i : Nat) : omK x n plan i 0 = plan.take i := rfl
theorem omK_succ {x : Tsk} {n : Nat} {plan : List Int} {i m : Nat} (h : i + 1 + m < plan.length) : omK x n plan i (m + 1) = omS x n (omK x n plan i m) (ix plan (i + 1 + m)) := by
  have h1 : m < (plan.drop (i + 1)).length := by rw [List.length_drop]; omega
  have e : (plan.drop (i + 1)).take (m + 1) = (plan.drop (i + 1)).take m ++ [ix plan (i + 1 + m)] := by
    rw [List.take_succ_eq_append_getElem h1]
    simp [ix, List.getD, h]
  unfold omK
  rw [e, List.foldl_append]
  rfl
theorem omK_all {x : Tsk} {n : Nat} {plan : List Int} {i m : Nat} (h : plan.length ≤ i + 1 + m) : omK x n plan i m = omL x n plan i := by
  unfold omK omL
  rw [List.take_of_length_le (l := plan.drop (i + 1)) (by rw [List.length_drop]; omega)]
theorem om_sub (x : Tsk) (n : Nat) : ∀ (ys out : List Int), (ys.foldl (omS x n) out).Sublist (out ++ ys)
  | [], out => by simp
  | y :: ys, out => by
    rw [List.foldl_cons]
    refine (om_sub x n ys _).trans ?_
    unfold omS
    split
    · rw [List.append_assoc]; exact List.Sublist.refl _
    · exact List.Sublist.append_left (List.sublist_cons_self _ _) _
theorem omL_sub {x : Tsk} {n : Nat} {plan : List Int} {i : Nat} : (omL x n plan i).Sublist (plan.take i ++ plan.drop (i + 1)) := om_sub x n _ _
theorem cut_sub (plan : List Int) (i : Nat) : (plan.take i ++ plan.drop (i + 1)).Sublist plan := by
  have h : (plan.take i ++ plan.drop (i + 1)).Sublist (plan.take i ++ plan.drop i) :=
    List.Sublist.append_left (by rw [← List.drop_drop]; exact List.drop_sublist _ _) _
  rwa [List.take_append_drop] at h
theorem cut_len {plan : List Int} {i : Nat} (h : i < plan.length) : (plan.take i ++ plan.drop (i + 1)).length + 1 = plan.length := by
  rw [List.length_append, List.length_take, List.length_drop]; omega
theorem omL_len {x : Tsk} {n : Nat} {plan : List Int} {i : Nat} (h : i < plan.length) : (omL x n plan i).length + 1 ≤ plan.length := by
  have := (omL_sub (x := x) (n := n) (plan := plan) (i := i)).length_le
  have := cut_len h
  omega
theorem omK_len {x : Tsk} {n : Nat} {plan : List Int} {i m : Nat} : (omK x n plan i m).length ≤ plan.length := by
  have h := (om_sub x n ((plan.drop (i + 1)).take m) (plan.take i)).length_le
  rw [List.length_append, List.length_take, List.length_take, List.length_drop] at h
  unfold omK
  omega
/-- Leaving out steps from position i on. -/
def redN (x : Tsk) (n : Nat) : Nat → List Int → Nat → List Int
  | 0, plan, _ => plan
  | f + 1, plan, i => if plan.length ≤ i then plan else if solB x n x.init (omL x n plan i) then redN x n f (omL x n plan i) i else redN x n f plan (i + 1)
theorem redN_end {x : Tsk} {n : Nat} {plan : List Int} {i : Nat} (h : plan.length ≤ i) : ∀ f, redN x n f plan i = plan
  | 0 => rfl
  | f + 1 => by rw [redN, if_pos h]
theorem redN_any {x : Tsk} {n : Nat} : ∀ (f g : Nat) (plan : List Int) (i : Nat), plan.length - i ≤ f → plan.length - i ≤ g → redN x n f plan i = redN x n g plan i
  | 0, g, plan, i, h, _ => by rw [redN_end (by omega), redN_end (by omega)]
  | f + 1, 0, plan, i, _, h => by rw [redN_end (by omega), redN_end (by omega)]
  | f + 1, g + 1, plan, i, hf, hg => by
    by_cases h : plan.length ≤ i
    · rw [redN_end h, redN_end h]
    · have := omL_len (x := x) (n := n) (plan := plan) (i := i) (by omega)
      rw [redN, redN, if_neg h, if_neg h]
      split
      · exact redN_any f g _ _ (by omega) (by omega)
      · exact redN_any f g _ _ (by omega) (by omega)
def redL (x : Tsk) (n : Nat) (plan : List Int) : List Int := redN x n plan.length plan 0
theorem redN_yes {x : Tsk} {n : Nat} {plan : List Int} {i : Nat} (h : i < plan.length) (hs : solB x n x.init (omL x n plan i) = true) (f g : Nat) (hf : plan.length - i ≤ f) (hg : (omL x n plan i).length - i ≤ g) : redN x n f plan i = redN x n g (omL x n plan i) i := by
  match f, hf with
  | 0, hf => omega
  | f + 1, hf =>
    have := omL_len (x := x) (n := n) (plan := plan) (i := i) h
    rw [redN, if_neg (by omega), if_pos hs]
    exact redN_any _ _ _ _ (by omega) hg
theorem redN_no {x : Tsk} {n : Nat} {plan : List Int} {i : Nat} (h : i < plan.length) (hs : solB x n x.init (omL x n plan i) = false) (f g : Nat) (hf : plan.length - i ≤ f) (hg : plan.length - (i + 1) ≤ g) : redN x n f plan i = redN x n g plan (i + 1) := by
  match f, hf with
  | 0, hf => omega
  | f + 1, hf =>
    rw [redN, if_neg (by omega), if_neg (by simp [hs])]
    exact redN_any _ _ _ _ (by omega) hg
theorem red_sub (x : Tsk) (n : Nat) : ∀ (f : Nat) (plan : List Int) (i : Nat), (redN x n f plan i).Sublist plan
  | 0, plan, i => List.Sublist.refl _
  | f + 1, plan, i => by
    rw [redN]
    split
    · exact List.Sublist.refl _
    · split
      · exact (red_sub x n f _ _).trans (omL_sub.trans (cut_sub _ _))
      · exact red_sub x n f _ _
theorem red_sol {x : Tsk} {n : Nat} : ∀ (f : Nat) (plan : List Int) (i : Nat), solB x n x.init plan = true → solB x n x.init (redN x n f plan i) = true
  | 0, plan, i, h => h
  | f + 1, plan, i, h => by
    rw [redN]
    split
    · exact h
    · split
      · rename_i h2
        exact red_sol f _ _ h2
      · exact red_sol f _ _ h

/-- Some part of the plan that contains head and leaves out a step is a solution. -/
def shL (x : Tsk) (n : Nat) : List Int → List Int → Bool → Bool
  | head, [], left => left && solB x n x.init head
  | head, a :: tl, left => shL x n (head ++ [a]) tl left || shL x n head tl true
theorem sh_iff {x : Tsk} {n : Nat} : ∀ (tl head : List Int) (left : Bool), shL x n head tl left = true ↔ ∃ sub, sub.Sublist tl ∧ solB x n x.init (head ++ sub) = true ∧ (left = true ∨ sub.length < tl.length)
  | [], head, left => by
    rw [shL, Bool.and_eq_true]
    constructor
    · rintro ⟨h1, h2⟩
      exact ⟨[], List.Sublist.refl _, by simpa using h2, .inl h1⟩
    · rintro ⟨sub, h1, h2, h3⟩
      have e : sub = [] := by simpa using h1
      subst e
      rcases h3 with h3 | h3
      · exact ⟨h3, by simpa using h2⟩
      · simp at h3
  | a :: tl, head, left => by
    rw [shL, Bool.or_eq_true, sh_iff tl, sh_iff tl]
    constructor
    · rintro (⟨sub, h1, h2, h3⟩ | ⟨sub, h1, h2, _⟩)
      · refine ⟨a :: sub, List.Sublist.cons_cons a h1, by simpa using h2, ?_⟩
        rcases h3 with h3 | h3
        · exact .inl h3
        · exact .inr (by simpa using h3)
      · exact ⟨sub, List.Sublist.cons a h1, h2, .inr (by have := h1.length_le; simp; omega)⟩
    · rintro ⟨sub, h1, h2, h3⟩
      cases h1 with
      | cons _ h => exact .inr ⟨sub, h, h2, .inl rfl⟩
      | cons_cons _ h =>
        rename_i s
        refine .inl ⟨s, h, by simpa using h2, ?_⟩
        rcases h3 with h3 | h3
        · exact .inl h3
        · exact .inr (by simpa using h3)
def minL (x : Tsk) (n : Nat) (plan : List Int) : Bool := !shL x n [] plan false
theorem min_no {x : Tsk} {n : Nat} {plan sub : List Int} (h : minL x n plan = true) (h1 : sub.Sublist plan) (h2 : sub.length < plan.length) : solB x n x.init sub = false := by
  cases hs : solB x n x.init sub with
  | false => rfl
  | true =>
    have : shL x n [] plan false = true := (sh_iff plan [] false).2 ⟨sub, h1, hs, .inr h2⟩
    unfold minL at h
    rw [this] at h
    cases h
theorem red_min {x : Tsk} {n : Nat} {plan : List Int} (h : minL x n plan = true) : ∀ (f i : Nat), redN x n f plan i = plan
  | 0, i => rfl
  | f + 1, i => by
    rw [redN]
    split
    · rfl
    · rename_i hi
      have hl := omL_len (x := x) (n := n) (plan := plan) (i := i) (by omega)
      have h0 := min_no (sub := omL x n plan i) h (omL_sub.trans (cut_sub plan i)) (by omega)
      rw [h0]
      exact red_min h f (i + 1)

/-- What remains of l behind a walk over the list. -/
def gr : List Int → List Int → List Int
  | l, [] => l
  | [], _ :: _ => []
  | a :: l, b :: xs => if b = a then gr l xs else gr (a :: l) xs
theorem gr_nil : ∀ xs : List Int, gr [] xs = []
  | [] => rfl
  | _ :: _ => rfl
theorem gr_snoc : ∀ (xs l : List Int) (b : Int), gr l (xs ++ [b]) = match gr l xs with | [] => [] | a :: r => if b = a then r else a :: r
  | [], l, b => by
    cases l with
    | nil => rfl
    | cons a l =>
      show gr (a :: l) [b] = _
      rw [gr]
      rfl
  | y :: ys, l, b => by
    cases l with
    | nil => rw [gr_nil, gr_nil]
    | cons a l =>
      show gr (a :: l) (y :: (ys ++ [b])) = _
      rw [gr, gr]
      split
      · exact gr_snoc ys l b
      · exact gr_snoc ys (a :: l) b
theorem gr_sub : ∀ (xs l : List Int), l.Sublist xs → gr l xs = []
  | [], l, h => by
    have : l = [] := by simpa using h
    subst this; rfl
  | b :: xs, l, h => by
    cases l with
    | nil => rfl
    | cons a l =>
      rw [gr]
      split
      · rename_i e
        subst e
        exact gr_sub xs l (List.cons_sublist_cons.1 h)
      · rename_i e
        cases h with
        | cons _ h => exact gr_sub xs _ h
        | cons_cons _ h => exact absurd rfl e
/-- How many elements of l are met in the first k of the list. -/
def partK (l xs : List Int) : Nat → Nat
  | 0 => 0
  | k + 1 => if partK l xs k < l.length ∧ ix xs k = ix l (partK l xs k) then partK l xs k + 1 else partK l xs k
theorem partK_le (l xs : List Int) : ∀ k, partK l xs k ≤ l.length
  | 0 => Nat.zero_le _
  | k + 1 => by
    have := partK_le l xs k
    rw [partK]
    split <;> omega
theorem partK_gr {l xs : List Int} : ∀ k, k ≤ xs.length → l.drop (partK l xs k) = gr l (xs.take k)
  | 0, _ => by simp [partK, gr]
  | k + 1, h => by
    have ih := partK_gr (l := l) (xs := xs) k (by omega)
    rw [take_succ_ix (by omega), gr_snoc, ← ih]
    rw [partK]
    by_cases hl : partK l xs k < l.length
    · have e : l.drop (partK l xs k) = ix l (partK l xs k) :: l.drop (partK l xs k + 1) := by
        rw [List.drop_eq_getElem_cons hl]
        simp [ix, List.getD, hl]
      rw [e]
      by_cases hx : ix xs k = ix l (partK l xs k)
      · rw [if_pos ⟨hl, hx⟩]
        simp [hx]
      · rw [if_neg (fun h => hx h.2)]
        simp only [hx, if_false]
        exact e
    · rw [if_neg (fun h => hl h.1)]
      have e : l.drop (partK l xs k) = [] := List.drop_eq_nil_of_le (by omega)
      rw [e]
def partB (l xs : List Int) : Bool := decide (partK l xs xs.length = l.length)
theorem part_sub {l xs : List Int} (h : l.Sublist xs) : partB l xs = true := by
  have e := partK_gr (l := l) (xs := xs) xs.length (Nat.le_refl _)
  rw [List.take_length, gr_sub xs l h] at e
  have h1 := List.drop_eq_nil_iff.1 e
  have h2 := partK_le l xs xs.length
  exact decide_eq_true (by omega)
theorem partK_full {l xs : List Int} {k : Nat} (h : partK l xs k = l.length) : ∀ j, k ≤ j → partK l xs j = l.length := by
  intro j hj
  induction j with
  | zero => have : k = 0 := by omega
            subst this; exact h
  | succ j ih =>
    by_cases e : k = j + 1
    · subst e; exact h
    · have := ih (by omega)
      rw [partK, if_neg (by omega)]
      exact this

theorem planB_mem {m : Nat} {plan : List Int} : planB m plan = true ↔ ∀ y ∈ plan, 0 ≤ y ∧ y < m := by
  constructor
  · intro h y hy
    obtain ⟨k, hk, rfl⟩ := mem_ix hy
    exact planB_at h hk
  · intro h
    refine planB_good (fun j hj => ?_)
    have := h _ (ix_mem hj)
    unfold stB
    simp [this.1, this.2]
theorem planB_sub {m : Nat} {l plan : List Int} (h : planB m plan = true) (hs : l.Sublist plan) : planB m l = true :=
  planB_mem.2 (fun y hy => planB_mem.1 h y (hs.subset hy))
/-- The sum of the costs. -/
def csum (x : Tsk) : List Int → Int
  | [] => 0
  | a :: l => (opn x a).cost + csum x l
theorem costTo_sum {x : Tsk} : ∀ l : List Int, costTo x l l.length = csum x l
  | [] => rfl
  | a :: l => by
    have h := costTo_app2 (x := x) (a := [a]) (b := l) l.length
    rw [show ([a] ++ l : List Int) = a :: l from rfl, show ([a] : List Int).length + l.length = (a :: l).length by simp; omega] at h
    rw [h, costTo_sum l]
    simp [costTo, csum, ix]
theorem csum_sub {x : Tsk} {n : Nat} (hv : Val x n) {l plan : List Int} (hs : l.Sublist plan) (hp : planB x.ops.length plan = true) : 0 ≤ csum x l ∧ csum x l ≤ csum x plan := by
  replace hp := planB_mem.1 hp
  induction hs with
  | slnil => simp [csum]
  | cons a h ih =>
    have := ih (fun y hy => hp y (List.mem_cons_of_mem _ hy))
    obtain ⟨h0, h1⟩ := hp a (List.mem_cons_self ..)
    have := (hv.ops a.toNat (by omega)).2.2.1
    simp only [csum, opn]
    omega
  | cons_cons a h ih =>
    have := ih (fun y hy => hp y (List.mem_cons_of_mem _ hy))
    obtain ⟨h0, h1⟩ := hp a (List.mem_cons_self ..)
    have := (hv.ops a.toNat (by omega)).2.2.1
    simp only [csum, opn]
    omega

/-- The fault of calls with a solution. -/
def soF (x : Tsk) (plan : List Int) : Int × Int := if (plF x plan).1 ≠ 0 then plF x plan else if solB x x.n.toNat x.init plan then (0, 0) else (11, -8)
/-- The fault of Minimal. -/
def mnF (x : Tsk) (plan : List Int) : Int × Int := if (soF x plan).1 ≠ 0 then soF x plan else if 12 < plan.length then (10, -8) else (0, 0)
theorem soF_zero {x : Tsk} {plan : List Int} (h : (soF x plan).1 = 0) : soF x plan = (0, 0) ∧ (plF x plan).1 = 0 ∧ solB x x.n.toNat x.init plan = true := by
  unfold soF at h ⊢
  by_cases hp : (plF x plan).1 = 0
  · rw [if_neg (by simpa using hp)] at h ⊢
    cases hs : solB x x.n.toNat x.init plan
    · rw [hs] at h; simp at h
    · exact ⟨by simp, hp, rfl⟩
  · rw [if_pos hp] at h
    exact absurd h hp
theorem mnF_zero {x : Tsk} {plan : List Int} (h : (mnF x plan).1 = 0) : mnF x plan = (0, 0) ∧ (soF x plan).1 = 0 ∧ plan.length ≤ 12 := by
  unfold mnF at h ⊢
  by_cases hp : (soF x plan).1 = 0
  · rw [if_neg (by simpa using hp)] at h ⊢
    by_cases hl : 12 < plan.length
    · rw [if_pos hl] at h; simp at h
    · rw [if_neg hl]; exact ⟨rfl, hp, by omega⟩
  · rw [if_pos hp] at h
    exact absurd h hp
/-- A part of a solution's plan is a plan. -/
theorem plF_sub {x : Tsk} {l plan : List Int} (h : (plF x plan).1 = 0) (hs : l.Sublist plan) : plF x l = (0, 0) := by
  obtain ⟨_, ht, h60, hp⟩ := plF_zero h
  have h1 := planB_sub hp hs
  have h2 := hs.length_le
  unfold plF
  rw [if_neg (by simpa using ht)]
  unfold spF
  rw [if_neg (by omega), if_pos h1]
theorem soF_red {x : Tsk} {plan : List Int} (h : (soF x plan).1 = 0) : soF x (redL x x.n.toNat plan) = (0, 0) := by
  obtain ⟨_, hp, hs⟩ := soF_zero h
  have h1 := plF_sub hp (red_sub x x.n.toNat plan.length plan 0)
  unfold soF redL
  rw [h1, red_sol _ _ _ hs]
  simp
end Go.Proofs.YtkflidnclndpkaaDoor

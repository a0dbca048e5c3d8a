/- TypesAreOrdered: the walk, and the plain facts on chains of supertypes. -/
import Derived.Test.YtjmkilmpfaapbaaTtyped
namespace Go.Proofs.Ytjmkilmpfaapbaa
open Go.RowKit
set_option linter.unusedSimpArgs false
set_option linter.unusedVariables false
set_option maxRecDepth 100000

theorem sup_mem_self {ts : List Ent} (ho : Ordered ts) {a : Int} (h0 : -1 ≤ a) (hn : a < ts.length) : a ∈ sup ts a := by
  by_cases ha : a < 0
  · have : a = -1 := by omega
    subst this
    rw [sup_neg (by omega)]; simp
  · rw [sup_cons ho (by omega) hn]; simp
/-- Induction over the chain. -/
theorem sup_ind {ts : List Ent} (ho : Ordered ts) (p : Int → Prop) (h1 : p (-1)) (hs : ∀ a : Int, 0 ≤ a → a < ts.length → p (par ts a) → p a) : ∀ a : Int, -1 ≤ a → a < ts.length → p a := by
  have : ∀ (k : Nat) (a : Int), (a + 1).toNat = k → -1 ≤ a → a < ts.length → p a := by
    intro k
    induction k using Nat.strongRecOn with
    | _ k ih =>
      intro a hk h0 hn
      by_cases ha : a < 0
      · have : a = -1 := by omega
        subst this; exact h1
      · have hp := ho a.toNat (by omega)
        exact hs a (by omega) hn (ih (par ts a + 1).toNat (by unfold par; omega) (par ts a) rfl (by unfold par; omega) (by unfold par; omega))
  exact fun a => this _ a rfl
theorem sup_last {ts : List Ent} (ho : Ordered ts) : ∀ a : Int, -1 ≤ a → a < ts.length → (-1 : Int) ∈ sup ts a :=
  sup_ind ho _ (by rw [sup_neg (by omega)]; simp) (fun a h0 hn h => by rw [sup_cons ho h0 hn]; exact List.mem_cons_of_mem _ h)
theorem sup_range {ts : List Ent} (ho : Ordered ts) : ∀ a : Int, -1 ≤ a → a < ts.length → ∀ y ∈ sup ts a, -1 ≤ y ∧ y ≤ a :=
  sup_ind ho _ (by rw [sup_neg (by omega)]; simp) (fun a h0 hn h y hy => by
    rw [sup_cons ho h0 hn] at hy
    have hp := ho a.toNat (by omega)
    rcases List.mem_cons.1 hy with rfl | hy
    · omega
    · have := h y hy
      unfold par at this
      omega)
theorem sup_trans {ts : List Ent} (ho : Ordered ts) : ∀ a : Int, -1 ≤ a → a < ts.length → ∀ y ∈ sup ts a, ∀ z ∈ sup ts y, z ∈ sup ts a :=
  sup_ind ho _ (by
    rw [sup_neg (by omega)]
    intro y hy z hz
    simp at hy; subst hy
    rw [sup_neg (by omega)] at hz; exact hz) (fun a h0 hn h y hy z hz => by
    rw [sup_cons ho h0 hn] at hy
    rcases List.mem_cons.1 hy with e | hy
    · rw [e] at hz; exact hz
    · rw [sup_cons ho h0 hn]
      exact List.mem_cons_of_mem _ (h y hy z hz))

/-- All three are types of a valid hierarchy. -/
def Fine (ts : List Ent) (x : Int) : Prop := -1 ≤ x ∧ x < ts.length
theorem fine_of {ts : List Ent} {a b : Int} (h : (usedF ts [a, b]).1 = 0) : Ordered ts ∧ Fine ts a ∧ Fine ts b := by
  obtain ⟨_, h2, h3⟩ := usedF_zero h
  simp at h3
  exact ⟨ordered_of h2, (istB_iff _ _).1 h3.1, (istB_iff _ _).1 h3.2⟩
theorem used_ok {ts : List Ent} {a b : Int} (h : (tyFault ts).1 = 0) (ha : Fine ts a) (hb : Fine ts b) : (usedF ts [a, b]).1 = 0 := by
  have h1 := (istB_iff ts.length a).2 ha
  have h2 := (istB_iff ts.length b).2 hb
  simp [usedF, h, h1, h2]
theorem subM_fine {ts : List Ent} {a b : Int} (h : (tyFault ts).1 = 0) (ha : Fine ts a) (hb : Fine ts b) : subM ts a b = memB (sup ts a) b := by
  simp [subM, used_ok h ha hb]
theorem memB_iff {xs : List Int} {b : Int} : memB xs b = true ↔ b ∈ xs := by simp [memB]

theorem ord_refl {ts : List Ent} {a : Int} (h : (tyFault ts).1 = 0) (ha : Fine ts a) : subM ts a a = true := by
  rw [subM_fine h ha ha, memB_iff]; exact sup_mem_self (ordered_of h) ha.1 ha.2
theorem ord_top {ts : List Ent} {a : Int} (h : (tyFault ts).1 = 0) (ha : Fine ts a) : subM ts a (-1) = true := by
  rw [subM_fine h ha ⟨by omega, by omega⟩, memB_iff]; exact sup_last (ordered_of h) a ha.1 ha.2
theorem ord_anti {ts : List Ent} {a b : Int} (h : (tyFault ts).1 = 0) (ha : Fine ts a) (hb : Fine ts b) (hab : subM ts a b = true) : subM ts b a = (a == b) := by
  rw [subM_fine h ha hb, memB_iff] at hab
  have h1 := sup_range (ordered_of h) a ha.1 ha.2 b hab
  by_cases e : a = b
  · subst e
    rw [ord_refl h ha]; simp
  · have hne : (a == b) = false := by simpa using e
    rw [hne, subM_fine h hb ha, ← Bool.not_eq_true, memB_iff]
    intro hba
    have h2 := sup_range (ordered_of h) b hb.1 hb.2 a hba
    omega
theorem ord_trans {ts : List Ent} {a b c : Int} (h : (tyFault ts).1 = 0) (ha : Fine ts a) (hb : Fine ts b) (hc : Fine ts c) (hab : subM ts a b = true) (hbc : subM ts b c = true) : subM ts a c = true := by
  rw [subM_fine h ha hb, memB_iff] at hab
  rw [subM_fine h hb hc, memB_iff] at hbc
  rw [subM_fine h ha hc, memB_iff]
  exact sup_trans (ordered_of h) a ha.1 ha.2 b hab c hbc

theorem run_code (x y : Value) (W : World) : (Instr.field 26 (.agg #[x, y]) 0).run Try.prog W = .ok x W := by kernel_rfl

set_option maxHeartbeats 2000000 in
theorem ordered_any (A : Option Addr) (cp : Nat) (ts : List Ent) (a b c : Int) (w : World) (hE : Ents w w.heap.size A ts) (hn : ts.length ≤ maxLen) (hcap : ts.length ≤ cp) (hcm : cp ≤ maxLen) :
    Calls Try.prog 4 #[.slice A ts.length cp, .int .i64 a, .int .i64 b, .int .i64 c] w fun e w' => e = .returned (.bool true) ∧ Below w.heap.size w w' := by
  have HSUB := Lib.hid (fun (x y : Int) (W : World) (h : Below w.heap.size w W) => (lsub_any A cp ts x y W (hE.to h h.size) hn hcap hcm).mono (fun e w' (h' : e = .returned (.bool (subM ts x y)) ∧ Below W.heap.size W w') => (⟨h'.1, h.trans (h'.2.mono h.size)⟩ : e = .returned (.bool (subM ts x y)) ∧ Below w.heap.size w w')))
  have HUSE := Lib.hid (fun (x y : Int) (W : World) (h : Below w.heap.size w W) => (usedFault_any A cp ts x y W (hE.to h h.size) hn).mono (fun e w' (h' : e = .returned (.agg #[.int .i64 (usedF ts [x, y]).1, .int .i64 (usedF ts [x, y]).2]) ∧ Below W.heap.size W w') => (⟨h'.1, h.trans (h'.2.mono h.size)⟩ : e = .returned (.agg #[.int .i64 (usedF ts [x, y]).1, .int .i64 (usedF ts [x, y]).2]) ∧ Below w.heap.size w w')))
  have HTYP := Lib.hid (fun (W : World) (h : Below w.heap.size w W) => (typed_any W).mono (fun e w' (h' : e = .returned (.bool true) ∧ Below W.heap.size W w') => (⟨h'.1, h.trans (h'.2.mono h.size)⟩ : e = .returned (.bool true) ∧ Below w.heap.size w w')))
  clear hE
  have hb := Below.refl w.heap.size w
  have hfld := run_code
  cases h1 : ((usedF ts [a, b]).1 != 0)
  case true =>
    go_enter Try.func4, Try.ntmps4
    go_wp2_with (first
      | (go_at_call 19; refine (HSUB.out _ _ _ ‹_›).mono ?_; rintro e w' ⟨rfl, hb⟩)
      | (go_at_call 10; refine (HUSE.out _ _ _ ‹_›).mono ?_; rintro e w' ⟨rfl, hb⟩)
      | (go_at_call 7; refine (HTYP.out _ ‹_›).mono ?_; rintro e w' ⟨rfl, hb⟩))
    go_ret
    exact ⟨rfl, ‹_›⟩
  cases h2 : ((usedF ts [c, c]).1 != 0)
  case true =>
    go_enter Try.func4, Try.ntmps4
    go_wp2_with (first
      | (go_at_call 19; refine (HSUB.out _ _ _ ‹_›).mono ?_; rintro e w' ⟨rfl, hb⟩)
      | (go_at_call 10; refine (HUSE.out _ _ _ ‹_›).mono ?_; rintro e w' ⟨rfl, hb⟩)
      | (go_at_call 7; refine (HTYP.out _ ‹_›).mono ?_; rintro e w' ⟨rfl, hb⟩))
    go_ret
    exact ⟨rfl, ‹_›⟩
  obtain ⟨ho, ha, hb'⟩ := fine_of (ts := ts) (a := a) (b := b) (by simpa using h1)
  obtain ⟨_, hc, _⟩ := fine_of (ts := ts) (a := c) (b := c) (by simpa using h2)
  have ht := (usedF_zero (ts := ts) (xs := [a, b]) (by simpa using h1)).2.1
  have s1 := ord_refl ht ha
  have s2 := ord_top ht ha
  cases s3 : subM ts a b
  case false =>
    clear ho ha hb' hc ht
    go_enter Try.func4, Try.ntmps4
    go_wp2_with (first
      | (go_at_call 19; refine (HSUB.out _ _ _ ‹_›).mono ?_; rintro e w' ⟨rfl, hb⟩)
      | (go_at_call 10; refine (HUSE.out _ _ _ ‹_›).mono ?_; rintro e w' ⟨rfl, hb⟩)
      | (go_at_call 7; refine (HTYP.out _ ‹_›).mono ?_; rintro e w' ⟨rfl, hb⟩))
    go_ret
    exact ⟨rfl, ‹_›⟩
  have s4 := ord_anti ht ha hb' s3
  cases s5 : subM ts b c
  case false =>
    clear ho ha hb' hc ht
    go_enter Try.func4, Try.ntmps4
    go_wp2_with (first
      | (go_at_call 19; refine (HSUB.out _ _ _ ‹_›).mono ?_; rintro e w' ⟨rfl, hb⟩)
      | (go_at_call 10; refine (HUSE.out _ _ _ ‹_›).mono ?_; rintro e w' ⟨rfl, hb⟩)
      | (go_at_call 7; refine (HTYP.out _ ‹_›).mono ?_; rintro e w' ⟨rfl, hb⟩))
    go_ret
    exact ⟨rfl, ‹_›⟩
  have s6 := ord_trans ht ha hb' hc s3 s5
  clear ho ha hb' hc ht
  go_enter Try.func4, Try.ntmps4
  go_wp2_with (first
    | (go_at_call 19; refine (HSUB.out _ _ _ ‹_›).mono ?_; rintro e w' ⟨rfl, hb⟩)
    | (go_at_call 10; refine (HUSE.out _ _ _ ‹_›).mono ?_; rintro e w' ⟨rfl, hb⟩)
    | (go_at_call 7; refine (HTYP.out _ ‹_›).mono ?_; rintro e w' ⟨rfl, hb⟩))
  go_ret
  exact ⟨rfl, ‹_›⟩

end Go.Proofs.Ytjmkilmpfaapbaa

/- TypesJoinIsLeast: the walk, and the plain facts on common supertypes. -/
import Derived.Test.YtjmkilmpfaapbaaTord
namespace Go.Proofs.Ytjmkilmpfaapbaa
open Go.RowKit
set_option linter.unusedSimpArgs false
set_option linter.unusedVariables false
set_option maxRecDepth 100000

theorem sup_chain {ts : List Ent} (ho : Ordered ts) : ∀ a : Int, -1 ≤ a → a < ts.length → ∀ y ∈ sup ts a, ∀ z ∈ sup ts a, z ≤ y → z ∈ sup ts y :=
  sup_ind ho _ (by
    rw [sup_neg (by omega)]
    intro y hy z hz _
    simp at hy hz; subst hy hz
    rw [sup_neg (by omega)]; simp) (fun a h0 hn h y hy z hz hzy => by
    have hp := ho a.toNat (by omega)
    have hpr : ∀ u ∈ sup ts (par ts a), u < a := fun u hu => by
      have := (sup_range ho (par ts a) (by unfold par; omega) (by unfold par; omega) u hu).2
      unfold par at this
      omega
    have hy' := hy
    have hz' := hz
    rw [sup_cons ho h0 hn] at hy' hz'
    rcases List.mem_cons.1 hy' with e | hy1
    · rw [e]; exact hz
    · rcases List.mem_cons.1 hz' with e | hz1
      · have := hpr y hy1
        omega
      · exact h y hy1 z hz1 hzy)
theorem find_max {ts : List Ent} (ho : Ordered ts) (p : Int → Bool) (hp : p (-1) = true) : ∀ a : Int, -1 ≤ a → a < ts.length →
    p (((sup ts a).find? p).getD (-1)) = true ∧ ((sup ts a).find? p).getD (-1) ∈ sup ts a ∧ ∀ y ∈ sup ts a, p y = true → y ≤ ((sup ts a).find? p).getD (-1) :=
  sup_ind ho _ (by
    rw [sup_neg (by omega)]
    simp [hp]) (fun a h0 hn h => by
    have hr := sup_range ho a (by omega) hn
    rw [sup_cons ho h0 hn] at hr ⊢
    cases hpa : p a with
    | true =>
      simp only [List.find?_cons, hpa, Option.getD_some]
      exact ⟨trivial, by simp, fun y hy _ => (hr y hy).2⟩
    | false =>
      simp only [List.find?_cons, hpa]
      refine ⟨h.1, List.mem_cons_of_mem _ h.2.1, fun y hy hpy => ?_⟩
      rcases List.mem_cons.1 hy with e | hy
      · rw [e, hpa] at hpy; cases hpy
      · exact h.2.2 y hy hpy)
theorem join_spec {ts : List Ent} {a b : Int} (ho : Ordered ts) (ha : Fine ts a) (hb : Fine ts b) :
    joinM ts a b ∈ sup ts a ∧ joinM ts a b ∈ sup ts b ∧ ∀ y ∈ sup ts a, y ∈ sup ts b → y ≤ joinM ts a b := by
  have h := find_max ho (fun s => memB (sup ts b) s) (memB_iff.2 (sup_last ho b hb.1 hb.2)) a ha.1 ha.2
  exact ⟨h.2.1, memB_iff.1 h.1, fun y hy hyb => h.2.2 y hy (memB_iff.2 hyb)⟩
theorem join_sym {ts : List Ent} {a b : Int} (ho : Ordered ts) (ha : Fine ts a) (hb : Fine ts b) : joinM ts b a = joinM ts a b := by
  obtain ⟨h1, h2, h3⟩ := join_spec ho ha hb
  obtain ⟨g1, g2, g3⟩ := join_spec ho hb ha
  have := h3 _ g2 g1
  have := g3 _ h2 h1
  omega
theorem join_fine {ts : List Ent} {a b : Int} (ho : Ordered ts) (ha : Fine ts a) (hb : Fine ts b) : Fine ts (joinM ts a b) := by
  have h := sup_range ho a ha.1 ha.2 _ (join_spec ho ha hb).1
  exact ⟨h.1, by have := ha.2; omega⟩
theorem join_a {ts : List Ent} {a b : Int} (h : (tyFault ts).1 = 0) (ha : Fine ts a) (hb : Fine ts b) : subM ts a (joinM ts a b) = true := by
  rw [subM_fine h ha (join_fine (ordered_of h) ha hb), memB_iff]; exact (join_spec (ordered_of h) ha hb).1
theorem join_b {ts : List Ent} {a b : Int} (h : (tyFault ts).1 = 0) (ha : Fine ts a) (hb : Fine ts b) : subM ts b (joinM ts a b) = true := by
  rw [subM_fine h hb (join_fine (ordered_of h) ha hb), memB_iff]; exact (join_spec (ordered_of h) ha hb).2.1
theorem join_least {ts : List Ent} {a b c : Int} (h : (tyFault ts).1 = 0) (ha : Fine ts a) (hb : Fine ts b) (hc : Fine ts c) (hac : subM ts a c = true) (hbc : subM ts b c = true) : subM ts (joinM ts a b) c = true := by
  have ho := ordered_of h
  rw [subM_fine h ha hc, memB_iff] at hac
  rw [subM_fine h hb hc, memB_iff] at hbc
  rw [subM_fine h (join_fine ho ha hb) hc, memB_iff]
  have hs := join_spec ho ha hb
  exact sup_chain ho a ha.1 ha.2 _ hs.1 c hac (hs.2.2 c hac hbc)

set_option maxHeartbeats 4000000 in
theorem joinIsLeast_any (A : Option Addr) (cp : Nat) (ts : List Ent) (a b c : Int) (w : World) (hE : Ents w w.heap.size A ts) (hn : ts.length ≤ maxLen) (hcap : ts.length ≤ cp) (hcm : cp ≤ maxLen) :
    Calls Try.prog 5 #[.slice A ts.length cp, .int .i64 a, .int .i64 b, .int .i64 c] w fun e w' => e = .returned (.bool true) ∧ Below w.heap.size w w' := by
  have HSUB := Lib.hid (fun (x y : Int) (W : World) (h : Below w.heap.size w W) => (lsub_any A cp ts x y W (hE.to h h.size) hn hcap hcm).mono (fun e w' (h' : e = .returned (.bool (subM ts x y)) ∧ Below W.heap.size W w') => (⟨h'.1, h.trans (h'.2.mono h.size)⟩ : e = .returned (.bool (subM ts x y)) ∧ Below w.heap.size w w')))
  have HUSE := Lib.hid (fun (x y : Int) (W : World) (h : Below w.heap.size w W) => (usedFault_any A cp ts x y W (hE.to h h.size) hn).mono (fun e w' (h' : e = .returned (.agg #[.int .i64 (usedF ts [x, y]).1, .int .i64 (usedF ts [x, y]).2]) ∧ Below W.heap.size W w') => (⟨h'.1, h.trans (h'.2.mono h.size)⟩ : e = .returned (.agg #[.int .i64 (usedF ts [x, y]).1, .int .i64 (usedF ts [x, y]).2]) ∧ Below w.heap.size w w')))
  have HTYP := Lib.hid (fun (W : World) (h : Below w.heap.size w W) => (typed_any W).mono (fun e w' (h' : e = .returned (.bool true) ∧ Below W.heap.size W w') => (⟨h'.1, h.trans (h'.2.mono h.size)⟩ : e = .returned (.bool true) ∧ Below w.heap.size w w')))
  have HE2 := Lib.hid (fun (W : World) (h : Below w.heap.size w W) => hE.to (B' := W.heap.size) h h.size)
  clear hE
  have hb := Below.refl w.heap.size w
  have hfld := run_code
  cases h1 : ((usedF ts [a, b]).1 != 0)
  case true =>
    go_enter Try.func5, Try.ntmps5
    go_wp2_with (first
      | (go_at_call 19; refine (HSUB.out _ _ _ ‹_›).mono ?_; rintro e w' ⟨rfl, hb⟩)
      | (go_at_call 10; refine (HUSE.out _ _ _ ‹_›).mono ?_; rintro e w' ⟨rfl, hb⟩)
      | (go_at_call 7; refine (HTYP.out _ ‹_›).mono ?_; rintro e w' ⟨rfl, hb⟩))
    go_ret
    exact ⟨rfl, ‹_›⟩
  cases h2 : ((usedF ts [c, c]).1 != 0)
  case true =>
    go_enter Try.func5, Try.ntmps5
    go_wp2_with (first
      | (go_at_call 19; refine (HSUB.out _ _ _ ‹_›).mono ?_; rintro e w' ⟨rfl, hb⟩)
      | (go_at_call 10; refine (HUSE.out _ _ _ ‹_›).mono ?_; rintro e w' ⟨rfl, hb⟩)
      | (go_at_call 7; refine (HTYP.out _ ‹_›).mono ?_; rintro e w' ⟨rfl, hb⟩))
    go_ret
    exact ⟨rfl, ‹_›⟩
  have h1' : (usedF ts [a, b]).1 = 0 := by simpa using h1
  have ht := (usedF_zero (ts := ts) (xs := [a, b]) h1').2.1
  obtain ⟨ho, ha, hb'⟩ := fine_of (ts := ts) (a := a) (b := b) h1'
  obtain ⟨_, hc, _⟩ := fine_of (ts := ts) (a := c) (b := c) (by simpa using h2)
  have h3' := used_ok ht hb' ha
  have HR1 := Lib.hid (show joinR ts a b = joinM ts a b by simp [joinR, h1'])
  have HR2 := Lib.hid (show joinR ts b a = joinM ts a b by simp [joinR, h3', join_sym ho ha hb'])
  have HZ1 := Lib.hid (usedF_zero h1').1
  have HZ2 := Lib.hid (usedF_zero h3').1
  clear h1' h3'
  have s1 := join_a ht ha hb'
  have s2 := join_b ht ha hb'
  cases s3 : subM ts a c
  case false =>
    clear ho ha hb' hc ht
    go_enter Try.func5, Try.ntmps5
    go_wp2_with (first
      | (go_at_call 19; refine (HSUB.out _ _ _ ‹_›).mono ?_; rintro e w' ⟨rfl, hb⟩)
      | (go_at_call 10; refine (HUSE.out _ _ _ ‹_›).mono ?_; rintro e w' ⟨rfl, hb⟩)
      | (go_at_call 7; refine (HTYP.out _ ‹_›).mono ?_; rintro e w' ⟨rfl, hb⟩))
    refine (join_any A cp ts a b _ (HE2.out _ ‹_›) hn hcap hcm).mono ?_
    rw [HR1.out, HZ1.out]
    rintro e w1 ⟨rfl, hb1⟩
    have hw1 : Below w.heap.size w w1 := (‹Below w.heap.size w w'›).trans (hb1.mono (‹Below w.heap.size w w'›).size)
    go_wp2_with fail
    refine (join_any A cp ts b a _ (HE2.out _ (hw1.alloc hw1.size _)) hn hcap hcm).mono ?_
    rw [HR2.out, HZ2.out]
    rintro e w2 ⟨rfl, hb2⟩
    have hw2 : Below w.heap.size w w2 := (hw1.alloc hw1.size _).trans (hb2.mono (by have := hw1.size; simp; omega))
    have t1 := two_to (two_new w1 (.int .i64 0) (.int .i64 0) 26) hb2
    obtain ⟨_, g1, _, _, _⟩ := t1
    have hw3 : Below w.heap.size w (w2.alloc (.cells #[.int .i64 0, .int .i64 0] 26)) := hw2.alloc hw2.size _
    go_wp2_with (first
      | (go_at_call 19; refine (HSUB.out _ _ _ ‹_›).mono ?_; rintro e w' ⟨rfl, hb⟩)
      | (go_at_call 10; refine (HUSE.out _ _ _ ‹_›).mono ?_; rintro e w' ⟨rfl, hb⟩)
      | (go_at_call 7; refine (HTYP.out _ ‹_›).mono ?_; rintro e w' ⟨rfl, hb⟩))
    go_ret
    exact ⟨rfl, ‹_›⟩

  cases s4 : subM ts b c
  case false =>
    clear ho ha hb' hc ht
    go_enter Try.func5, Try.ntmps5
    go_wp2_with (first
      | (go_at_call 19; refine (HSUB.out _ _ _ ‹_›).mono ?_; rintro e w' ⟨rfl, hb⟩)
      | (go_at_call 10; refine (HUSE.out _ _ _ ‹_›).mono ?_; rintro e w' ⟨rfl, hb⟩)
      | (go_at_call 7; refine (HTYP.out _ ‹_›).mono ?_; rintro e w' ⟨rfl, hb⟩))
    refine (join_any A cp ts a b _ (HE2.out _ ‹_›) hn hcap hcm).mono ?_
    rw [HR1.out, HZ1.out]
    rintro e w1 ⟨rfl, hb1⟩
    have hw1 : Below w.heap.size w w1 := (‹Below w.heap.size w w'›).trans (hb1.mono (‹Below w.heap.size w w'›).size)
    go_wp2_with fail
    refine (join_any A cp ts b a _ (HE2.out _ (hw1.alloc hw1.size _)) hn hcap hcm).mono ?_
    rw [HR2.out, HZ2.out]
    rintro e w2 ⟨rfl, hb2⟩
    have hw2 : Below w.heap.size w w2 := (hw1.alloc hw1.size _).trans (hb2.mono (by have := hw1.size; simp; omega))
    have t1 := two_to (two_new w1 (.int .i64 0) (.int .i64 0) 26) hb2
    obtain ⟨_, g1, _, _, _⟩ := t1
    have hw3 : Below w.heap.size w (w2.alloc (.cells #[.int .i64 0, .int .i64 0] 26)) := hw2.alloc hw2.size _
    go_wp2_with (first
      | (go_at_call 19; refine (HSUB.out _ _ _ ‹_›).mono ?_; rintro e w' ⟨rfl, hb⟩)
      | (go_at_call 10; refine (HUSE.out _ _ _ ‹_›).mono ?_; rintro e w' ⟨rfl, hb⟩)
      | (go_at_call 7; refine (HTYP.out _ ‹_›).mono ?_; rintro e w' ⟨rfl, hb⟩))
    go_ret
    exact ⟨rfl, ‹_›⟩

  have s6 := join_least ht ha hb' hc s3 s4
  clear ho ha hb' hc ht
  · skip
    go_enter Try.func5, Try.ntmps5
    go_wp2_with (first
      | (go_at_call 19; refine (HSUB.out _ _ _ ‹_›).mono ?_; rintro e w' ⟨rfl, hb⟩)
      | (go_at_call 10; refine (HUSE.out _ _ _ ‹_›).mono ?_; rintro e w' ⟨rfl, hb⟩)
      | (go_at_call 7; refine (HTYP.out _ ‹_›).mono ?_; rintro e w' ⟨rfl, hb⟩))
    refine (join_any A cp ts a b _ (HE2.out _ ‹_›) hn hcap hcm).mono ?_
    rw [HR1.out, HZ1.out]
    rintro e w1 ⟨rfl, hb1⟩
    have hw1 : Below w.heap.size w w1 := (‹Below w.heap.size w w'›).trans (hb1.mono (‹Below w.heap.size w w'›).size)
    go_wp2_with fail
    refine (join_any A cp ts b a _ (HE2.out _ (hw1.alloc hw1.size _)) hn hcap hcm).mono ?_
    rw [HR2.out, HZ2.out]
    rintro e w2 ⟨rfl, hb2⟩
    have hw2 : Below w.heap.size w w2 := (hw1.alloc hw1.size _).trans (hb2.mono (by have := hw1.size; simp; omega))
    have t1 := two_to (two_new w1 (.int .i64 0) (.int .i64 0) 26) hb2
    obtain ⟨_, g1, _, _, _⟩ := t1
    have hw3 : Below w.heap.size w (w2.alloc (.cells #[.int .i64 0, .int .i64 0] 26)) := hw2.alloc hw2.size _
    go_wp2_with (first
      | (go_at_call 19; refine (HSUB.out _ _ _ ‹_›).mono ?_; rintro e w' ⟨rfl, hb⟩)
      | (go_at_call 10; refine (HUSE.out _ _ _ ‹_›).mono ?_; rintro e w' ⟨rfl, hb⟩)
      | (go_at_call 7; refine (HTYP.out _ ‹_›).mono ?_; rintro e w' ⟨rfl, hb⟩))
    go_ret
    exact ⟨rfl, ‹_›⟩

end Go.Proofs.Ytjmkilmpfaapbaa

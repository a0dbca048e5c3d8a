/- Package encode: pure facts on classes. -/
import Derived.Test.YtiaobanloakplaaDoorEss
namespace Go.Proofs.YtiaobanloakplaaDoor
open Go.RowKit
set_option linter.unusedSimpArgs false
set_option linter.unusedVariables false
set_option maxRecDepth 100000

structure CovF (L : List (List Int)) (n m : Nat) : Prop where
  cls : ∀ c, c ∈ (covN L m).1 → c ≠ [] ∧ IsS c n ∧ ∃ k, k < m ∧ ∀ p, p ∈ c → p ∈ rw_ L k
  use : ∀ p, p ∈ (covN L m).2 ↔ ∃ k, k < m ∧ p ∈ rw_ L k
  fla : ∀ p, p ∈ (covN L m).1.flatten ↔ p ∈ (covN L m).2
  nod : (covN L m).1.flatten.Nodup
theorem isS_nodup {l : List Int} {n : Int} (h : IsS l n) : l.Nodup := h.1.imp fun h => by omega
theorem cov_facts {L : List (List Int)} {n : Nat} (hn : n ≤ 24) (hL : ∀ k, k < L.length → IsS (rw_ L k) n) : ∀ m, m ≤ L.length → CovF L n m
  | 0, _ => ⟨fun c h => by simp [covN] at h, fun p => by simp [covN], fun p => by simp [covN], by simp [covN]⟩
  | m + 1, h => by
    have ih := cov_facts hn hL m (by omega)
    have h24 : IsS (rw_ L m) 24 := (hL m (by omega)).mono (by omega)
    have hd : ∀ p, p ∈ difL (rw_ L m) (covN L m).2 ↔ p ∈ rw_ L m ∧ p ∉ (covN L m).2 := fun p => mem_difL h24
    by_cases he : difL (rw_ L m) (covN L m).2 = []
    · have e : covN L (m + 1) = covN L m := by rw [covN, if_pos he]
      have hall : ∀ p, p ∈ rw_ L m → p ∈ (covN L m).2 := by
        intro p hp
        refine Classical.byContradiction fun hc => ?_
        have := (hd p).2 ⟨hp, hc⟩
        rw [he] at this; cases this
      refine ⟨?_, ?_, ?_, ?_⟩ <;> rw [e]
      · intro c hc
        obtain ⟨h1, h2, k, hk, h3⟩ := ih.cls c hc
        exact ⟨h1, h2, k, by omega, h3⟩
      · intro p
        rw [ih.use]
        constructor
        · rintro ⟨k, hk, hp⟩; exact ⟨k, by omega, hp⟩
        · rintro ⟨k, hk, hp⟩
          by_cases e2 : k = m
          · subst e2; exact (ih.use p).1 (hall p hp)
          · exact ⟨k, by omega, hp⟩
      · exact ih.fla
      · exact ih.nod
    · have e : covN L (m + 1) = ((covN L m).1 ++ [difL (rw_ L m) (covN L m).2], uniL (covN L m).2 (difL (rw_ L m) (covN L m).2)) := by rw [covN, if_neg he]
      have hdn : IsS (difL (rw_ L m) (covN L m).2) n := ⟨(difL_isS _ _).1, fun p hp => (hL m (by omega)).2 p ((hd p).1 hp).1⟩
      have hu : ∀ p, p ∈ uniL (covN L m).2 (difL (rw_ L m) (covN L m).2) ↔ p ∈ (covN L m).2 ∨ p ∈ difL (rw_ L m) (covN L m).2 := fun p => mem_uniL (covN_isS L m) (difL_isS _ _)
      refine ⟨?_, ?_, ?_, ?_⟩ <;> rw [e]
      · intro c hc
        rw [List.mem_append, List.mem_singleton] at hc
        rcases hc with hc | rfl
        · obtain ⟨h1, h2, k, hk, h3⟩ := ih.cls c hc
          exact ⟨h1, h2, k, by omega, h3⟩
        · exact ⟨he, hdn, m, by omega, fun p hp => ((hd p).1 hp).1⟩
      · intro p
        show p ∈ uniL (covN L m).2 _ ↔ _
        rw [hu, hd, ih.use]
        constructor
        · rintro (⟨k, hk, hp⟩ | ⟨hp, _⟩)
          · exact ⟨k, by omega, hp⟩
          · exact ⟨m, by omega, hp⟩
        · rintro ⟨k, hk, hp⟩
          by_cases e2 : k = m
          · subst e2
            by_cases h4 : ∃ j, j < k ∧ p ∈ rw_ L j
            · exact .inl h4
            · exact .inr ⟨hp, h4⟩
          · exact .inl ⟨k, by omega, hp⟩
      · intro p
        show p ∈ (_ ++ [_]).flatten ↔ p ∈ uniL (covN L m).2 _
        rw [List.flatten_append, List.mem_append, ih.fla, hu]
        simp
      · show (_ ++ [_]).flatten.Nodup
        rw [List.flatten_append, List.nodup_append]
        refine ⟨ih.nod, by simpa using isS_nodup hdn, fun a ha b hb e => ?_⟩
        subst e
        have h1 := (ih.fla a).1 ha
        have h2 : a ∈ difL (rw_ L m) (covN L m).2 := by simpa using hb
        exact ((hd a).1 h2).2 h1
/-- The classes of a cover. -/
structure Cls (x : Tsk) (gs : List (List Int)) (n : Nat) : Prop where
  cls : ∀ c, c ∈ covR x gs → c ≠ [] ∧ IsS c n ∧ (c.length = 1 ∨ ∃ k, k < gs.length ∧ ∀ p, p ∈ c → p ∈ rw_ gs k)
  mem : ∀ p, p ∈ (covR x gs).flatten ↔ 0 ≤ p ∧ p < n
  nod : (covR x gs).flatten.Nodup
  len : (covR x gs).flatten.length = n
theorem ints_nodup (n : Nat) : ((List.range n).map (fun p : Nat => (p : Int))).Nodup :=
  List.Pairwise.map _ (fun a b h e => h (by exact Int.ofNat.inj e)) List.nodup_range
theorem cls_any {x : Tsk} {gs : List (List Int)} (h : (gfF x gs).1 = 0) : Cls x gs x.n.toNat := by
  obtain ⟨_, htk, hg24, hgs⟩ := gfF_zero h
  have hv := tkF_val htk
  have hle := hv.le
  have heq := hv.eq
  generalize hN : x.n.toNat = n at *
  have hlen : (covS gs n).length = gs.length + n := by simp [covS]
  have hL : ∀ k, k < (covS gs n).length → IsS (rw_ (covS gs n) k) n := by
    intro k hk
    rw [hlen] at hk
    by_cases h1 : k < gs.length
    · rw [covS_left h1]
      have := setB_iff.1 (hgs k h1).1
      rw [heq] at this
      exact this
    · obtain ⟨j, rfl⟩ : ∃ j, k = gs.length + j := ⟨k - gs.length, by omega⟩
      rw [covS_right (by omega)]
      exact ⟨List.pairwise_singleton _ _, fun y hy => by rw [List.mem_singleton] at hy; omega⟩
  have hF := cov_facts hle hL (covS gs n).length (Nat.le_refl _)
  have hc : covR x gs = (covN (covS gs n) (covS gs n).length).1 := by unfold covR; rw [if_pos h, hN]; unfold cov; rw [hlen]
  have hm : ∀ p, p ∈ (covR x gs).flatten ↔ 0 ≤ p ∧ p < n := by
    intro p
    rw [hc, hF.fla, hF.use]
    constructor
    · rintro ⟨k, hk, hp⟩; exact (hL k hk).2 p hp
    · rintro ⟨h0, h1⟩
      refine ⟨gs.length + p.toNat, by rw [hlen]; omega, ?_⟩
      rw [covS_right (by omega), List.mem_singleton]; omega
  have hnd : (covR x gs).flatten.Nodup := by rw [hc]; exact hF.nod
  refine ⟨fun c hcm => ?_, hm, hnd, ?_⟩
  · rw [hc] at hcm
    obtain ⟨h1, h2, k, hk, h3⟩ := hF.cls c hcm
    refine ⟨h1, h2, ?_⟩
    rw [hlen] at hk
    by_cases hk2 : k < gs.length
    · exact .inr ⟨k, hk2, fun p hp => by have := h3 p hp; rwa [covS_left hk2] at this⟩
    · obtain ⟨j, rfl⟩ : ∃ j, k = gs.length + j := ⟨k - gs.length, by omega⟩
      rw [covS_right (by omega)] at h3
      left
      match c, h1, h2 with
      | [a], _, _ => rfl
      | a :: b :: t, _, h2 =>
        have ha := h3 a (by simp)
        have hb := h3 b (by simp)
        rw [List.mem_singleton] at ha hb
        have := List.rel_of_pairwise_cons h2.1 (List.mem_cons_self ..)
        omega
  · have hp := (List.perm_ext_iff_of_nodup hnd (ints_nodup n)).2 (fun p => by
      rw [hm, List.mem_map]
      constructor
      · rintro ⟨h0, h1⟩; exact ⟨p.toNat, by rw [List.mem_range]; omega, by omega⟩
      · rintro ⟨a, ha, rfl⟩; rw [List.mem_range] at ha; omega)
    rw [hp.length_eq, List.length_map, List.length_range]
theorem am_one {l c : List Int} (h : c.length ≤ 1) : AM l c := by
  intro a b _ ha _ hb
  match c, h with
  | [], _ => cases ha
  | [q], _ => rw [List.mem_singleton] at ha hb; omega
theorem am_sub {l c g : List Int} (h : AM l g) (hs : ∀ p, p ∈ c → p ∈ g) : AM l c := fun a b h1 h2 h3 h4 => h a b h1 (hs a h2) h3 (hs b h4)
/-- A single fact is an inductive group. -/
theorem one_ind {x : Tsk} {n : Nat} {c : List Int} (hv : Val x n) (hc : IsS c n) (h1 : c.length = 1) : indB x c = true := by
  have hle := hv.le
  obtain ⟨p, rfl⟩ := List.length_eq_one_iff.1 h1
  rw [indB_iff (hv.init.mono (by omega))]
  refine ⟨am_one (by simp), fun k hk => ?_⟩
  rw [brk_false ((hv.ops k hk).1.up hle) (hc.mono (by omega))]
  refine fun _ => ⟨am_one (by simp), fun a ha hap r hr _ => ?_⟩
  have hr2 := ((mem_bfL ((hv.ops k hk).1.up hle).pre).1 hr).1
  rw [List.mem_singleton] at hap hr2
  rw [hr2, ← hap]; exact ha
/-- In every state that the inductive groups allow, a class has at most one fact. -/
theorem cls_am {x : Tsk} {gs : List (List Int)} {n : Nat} (hC : Cls x gs n) {s : List Int} (hs : ∀ k, k < gs.length → AM s (rw_ gs k)) {c : List Int} (hc : c ∈ covR x gs) : AM s c := by
  obtain ⟨_, _, h | ⟨k, hk, h⟩⟩ := hC.cls c hc
  · exact am_one (by omega)
  · exact am_sub (hs k hk) h
end Go.Proofs.YtiaobanloakplaaDoor

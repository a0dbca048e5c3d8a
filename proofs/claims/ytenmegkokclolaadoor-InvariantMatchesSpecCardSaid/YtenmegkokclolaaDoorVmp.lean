/- What Find finds is what GroupsOf finds: pure facts. -/
import Derived.Test.YtenmegkokclolaaDoorVgo
import Derived.Test.YtenmegkokclolaaDoorVfp
namespace Go.Proofs.YtenmegkokclolaaDoor
open Go.RowKit
set_option linter.unusedSimpArgs false
set_option linter.unusedVariables false
set_option maxRecDepth 100000

theorem sub_len : ∀ {h g : List Int}, g.Pairwise (· < ·) → h.Pairwise (· < ·) → (∀ x ∈ g, x ∈ h) → g.length ≤ h.length ∧ (g.length = h.length → g = h)
  | [], [], _, _, _ => by simp
  | [], x :: xs, _, _, hs => by have := hs x (by simp); simp at this
  | y :: ys, [], _, _, _ => by simp
  | y :: ys, x :: xs, hg, hh, hs => by
    obtain ⟨g1, g2⟩ := List.pairwise_cons.1 hg
    obtain ⟨h1, h2⟩ := List.pairwise_cons.1 hh
    by_cases e : x = y
    · subst e
      have ih := sub_len (h := ys) (g := xs) g2 h2 (fun z hz => by
        rcases List.mem_cons.1 (hs z (List.mem_cons_of_mem _ hz)) with h3 | h3
        · have := g1 z hz; omega
        · exact h3)
      simp only [List.length_cons]
      exact ⟨by omega, fun h3 => by rw [ih.2 (by omega)]⟩
    · have hx : x ∈ ys := by
        rcases List.mem_cons.1 (hs x (by simp)) with h3 | h3
        · exact absurd h3 e
        · exact h3
      have hyx := h1 x hx
      have ih := sub_len (h := ys) (g := x :: xs) hg h2 (fun z hz => by
        rcases List.mem_cons.1 (hs z hz) with h3 | h3
        · rcases List.mem_cons.1 hz with h4 | h4
          · omega
          · have := g1 z h4; omega
        · exact h3)
      simp only [List.length_cons] at ih ⊢
      exact ⟨by omega, fun h3 => by omega⟩
theorem cmpL_app : ∀ (h a b : List Int), cmpL (h ++ a) (h ++ b) = cmpL a b
  | [], _, _ => rfl
  | x :: xs, a, b => by
    simp only [List.cons_append]
    rw [cmpL, if_neg (by omega), if_neg (by omega)]
    exact cmpL_app xs a b
theorem ssL_pre : ∀ (f : Nat) (h : List Int) (p : Int), ∀ g ∈ ssL f h p, ∃ t, g = h ++ t ∧ ∀ y ∈ t, p ≤ y
  | 0, h, p, g, hg => ⟨[], by simpa [ssL] using hg, by simp⟩
  | f + 1, h, p, g, hg => by
    unfold ssL at hg
    rcases List.mem_append.1 hg with hg | hg
    · obtain ⟨t, rfl, ht⟩ := ssL_pre f _ _ g hg
      exact ⟨p :: t, by simp, fun y hy => by
        rcases List.mem_cons.1 hy with h1 | h1
        · omega
        · have := ht y h1; omega⟩
    · obtain ⟨t, rfl, ht⟩ := ssL_pre f _ _ g hg
      exact ⟨t, rfl, fun y hy => by have := ht y hy; omega⟩
def Ord (a b : List Int) : Prop := cmpL a b < 0 ∨ (subB b a = true ∧ b ≠ a)
theorem ssL_ord : ∀ (f : Nat) (h : List Int) (p : Int), (ssL f h p).Pairwise Ord
  | 0, h, p => by simp [ssL]
  | f + 1, h, p => by
    unfold ssL
    rw [List.pairwise_append]
    refine ⟨ssL_ord f _ _, ssL_ord f _ _, fun a ha b hb => ?_⟩
    obtain ⟨s, rfl, hs⟩ := ssL_pre f _ _ a ha
    obtain ⟨t, rfl, ht⟩ := ssL_pre f _ _ b hb
    rw [List.append_assoc]
    cases t with
    | nil =>
      right
      refine ⟨subB_iff.2 fun y hy => ?_, fun e => ?_⟩
      · simp at hy; simp [hy]
      · have := congrArg List.length e
        simp at this
    | cons y ys =>
      left
      rw [cmpL_app]
      have := ht y (by simp)
      simp only [List.singleton_append]
      rw [cmpL, if_pos (by omega)]
      omega
theorem ssL_all : ∀ (f : Nat) (h t : List Int) (p : Int), t.Pairwise (· < ·) → (∀ y ∈ t, p ≤ y ∧ y < p + f) → h ++ t ∈ ssL f h p
  | 0, h, t, p, _, ht => by
    cases t with
    | nil => simp [ssL]
    | cons y ys => have := ht y (by simp); omega
  | f + 1, h, t, p, hs, ht => by
    unfold ssL
    cases t with
    | nil => exact List.mem_append_right _ (ssL_all f h [] (p + 1) (by simp) (by simp))
    | cons y ys =>
      obtain ⟨h1, h2⟩ := List.pairwise_cons.1 hs
      have hy := ht y (by simp)
      by_cases e : y = p
      · subst e
        apply List.mem_append_left
        have := ssL_all f (h ++ [y]) ys (y + 1) h2 (fun z hz => by
          have := ht z (List.mem_cons_of_mem _ hz)
          have := h1 z hz
          omega)
        simpa using this
      · apply List.mem_append_right
        exact ssL_all f h (y :: ys) (p + 1) hs (fun z hz => by
          have h3 := ht z hz
          rcases List.mem_cons.1 hz with h4 | h4
          · omega
          · have := h1 z h4; omega)
theorem mem_gsA {x : Tsk} (h0 : 0 ≤ x.n) {g : List Int} : g ∈ gsA x ↔ IsS g x.n := by
  unfold gsA
  constructor
  · intro h
    exact ssL_isS x.n.toNat [] 0 x.n (by omega) (by omega) ⟨List.Pairwise.nil, fun y hy => by simp at hy⟩ g h
  · intro h
    have := ssL_all x.n.toNat [] g 0 h.1 (fun y hy => by have := h.2 y hy; omega)
    simpa using this
theorem mem_gsL {x : Tsk} (h0 : 0 ≤ x.n) {g : List Int} : g ∈ gsL x ↔ IsS g x.n ∧ 2 ≤ g.length ∧ indB x g = true := by
  unfold gsL okP
  rw [List.mem_filter, mem_gsA h0, Bool.and_eq_true, decide_eq_true_eq]
theorem lgP_iff {ls : List (List Int)} {g : List Int} : lgP ls g = true ↔ ∀ h ∈ ls, g.length < h.length → subB g h = false := by
  unfold lgP
  rw [Bool.not_eq_true', List.any_eq_false]
  constructor
  · intro h q hq hl
    obtain ⟨k, hk, rfl⟩ := List.getElem_of_mem hq
    have := h k (by simpa using hk)
    have e : rw_ ls k = ls[k] := by simp [rw_, List.getD, hk]
    rw [e] at this
    simp only [Bool.and_eq_true, decide_eq_true_eq, not_and, Bool.not_eq_true] at this
    exact this hl
  · intro h k hk
    have hk' : k < ls.length := by simpa using hk
    simp only [Bool.and_eq_true, decide_eq_true_eq, not_and, Bool.not_eq_true]
    exact fun hl => h _ (rw_mem hk') hl
theorem mem_fd {x : Tsk} {n : Nat} (hn : x.n = n) (h24 : n ≤ 24) {g : List Int} : g ∈ gsO x ↔ g ∈ lgs x n (2 ^ n) := by
  have h0 : 0 ≤ x.n := by omega
  unfold gsO
  rw [List.mem_filter, mem_gsL h0, lgP_iff]
  constructor
  · rintro ⟨⟨hs, hl, hi⟩, hm⟩
    rw [hn] at hs
    obtain ⟨i, hlt, e⟩ := grL_of h24 hs
    obtain ⟨h, hh, hsub⟩ := lgs_cov (x := x) (n := n) (k := 2 ^ n) hlt (by rw [← e]; omega) (by rw [← e]; exact hi)
    rw [← e] at hsub
    obtain ⟨j, _, ej, _, hlj, hij, _⟩ := lgs_in hh
    have hhs : IsS h n := by rw [ej]; exact grL_isS n j
    obtain ⟨l1, l2⟩ := sub_len hs.1 hhs.1 (subB_iff.1 hsub)
    rcases Nat.lt_or_ge g.length h.length with h3 | h3
    · have := hm h ((mem_gsL h0).2 ⟨by rw [hn]; exact hhs, by omega, hij⟩) h3
      rw [hsub] at this; cases this
    · rw [l2 (by omega)]
      exact hh
  · intro hg
    obtain ⟨i, hi, e, _, hl, hind, _⟩ := lgs_in hg
    refine ⟨⟨by rw [e, hn]; exact grL_isS n i, by omega, hind⟩, fun h hh hlen => ?_⟩
    obtain ⟨hs, _, hhi⟩ := (mem_gsL h0).1 hh
    rw [hn] at hs
    cases hsub : subB g h
    · rfl
    · have := fd_max h24 hg hs hsub (fun e2 => by rw [e2] at hlen; omega)
      rw [hhi] at this; cases this
theorem strict_ext : ∀ {a b : List (List Int)}, a.Pairwise (fun p q => cmpL p q < 0) → b.Pairwise (fun p q => cmpL p q < 0) → (∀ g, g ∈ a ↔ g ∈ b) → a = b
  | [], [], _, _, _ => rfl
  | [], q :: qs, _, _, h => by have := (h q).2 (by simp); simp at this
  | p :: ps, [], _, _, h => by have := (h p).1 (by simp); simp at this
  | p :: ps, q :: qs, ha, hb, h => by
    obtain ⟨a1, a2⟩ := List.pairwise_cons.1 ha
    obtain ⟨b1, b2⟩ := List.pairwise_cons.1 hb
    have hpq : p = q := by
      rcases List.mem_cons.1 ((h p).1 (by simp)) with h1 | h1
      · exact h1
      · rcases List.mem_cons.1 ((h q).2 (by simp)) with h2 | h2
        · exact h2.symm
        · have h3 := b1 p h1
          have h4 := a1 q h2
          have := cmpL_swap p q
          omega
    subst hpq
    rw [strict_ext a2 b2 (fun g => ?_)]
    constructor
    · intro hg
      rcases List.mem_cons.1 ((h g).1 (List.mem_cons_of_mem _ hg)) with h1 | h1
      · have := a1 g hg
        rw [h1, cmpL_refl] at this
        omega
      · exact h1
    · intro hg
      rcases List.mem_cons.1 ((h g).2 (List.mem_cons_of_mem _ hg)) with h1 | h1
      · have := b1 g hg
        rw [h1, cmpL_refl] at this
        omega
      · exact h1
theorem gsO_sorted {x : Tsk} {n : Nat} (hn : x.n = n) (h24 : n ≤ 24) : (gsO x).Pairwise (fun p q => cmpL p q < 0) := by
  have h0 : 0 ≤ x.n := by omega
  have hp : (gsO x).Pairwise Ord := by
    unfold gsO gsL
    exact ((ssL_ord _ _ _).filter _).filter _
  refine List.Pairwise.imp_of_mem ?_ hp
  rintro a b ha hb (h | ⟨h, hne⟩)
  · exact h
  · have ha' := (mem_fd hn h24).1 ha
    have hb' := (mem_fd hn h24).1 hb
    rw [fd_anti h24 hb' ha' hne] at h
    cases h
theorem find_eq {x : Tsk} {ls : List (List Int)} {n : Nat} (hn : x.n = n) (h24 : n ≤ 24) (hp : ls.Perm (lgs x n (2 ^ n))) (hs : SortedL ls) : ls = gsO x := by
  have hnd : ls.Nodup := hp.nodup_iff.2 (fd_nodup h24 _ (Nat.le_refl _))
  have hst : ls.Pairwise (fun p q => cmpL p q < 0) := by
    unfold SortedL at hs
    rw [List.pairwise_iff_getElem] at hs ⊢
    intro i j hi hj hij
    have h1 := hs i j hi hj hij
    have h2 := List.pairwise_iff_getElem.1 hnd i j hi hj hij
    have h3 := cmpL_swap ls[i] ls[j]
    rcases Int.lt_or_le (cmpL ls[i] ls[j]) 0 with h4 | h4
    · exact h4
    · exact absurd (cmpL_zero (show cmpL ls[i] ls[j] = 0 by omega)) h2
  exact strict_ext hst (gsO_sorted hn h24) (fun g => by rw [mem_fd hn h24, hp.mem_iff])
end Go.Proofs.YtenmegkokclolaaDoor

/- What Find finds: pure facts. -/
import Derived.Test.YtenmegkokclolaaDoorVwi
namespace Go.Proofs.YtenmegkokclolaaDoor
open Go.RowKit
set_option linter.unusedSimpArgs false
set_option linter.unusedVariables false
set_option maxRecDepth 100000

theorem partB_iff {ls : List (List Int)} {g : List Int} : partB ls g = true ↔ ∃ h ∈ ls, subB g h = true := by
  unfold partB
  rw [List.any_eq_true]
  constructor
  · rintro ⟨j, hj, h⟩
    exact ⟨rw_ ls j, rw_mem (by simpa using hj), h⟩
  · rintro ⟨h, hm, hs⟩
    obtain ⟨j, hj, rfl⟩ := List.getElem_of_mem hm
    exact ⟨j, by simpa using hj, by simpa [rw_, List.getD, hj] using hs⟩
theorem lgs_mono {x : Tsk} {n i : Nat} : ∀ {k : Nat}, i ≤ k → ∀ g ∈ lgs x n i, g ∈ lgs x n k
  | 0, h, g, hg => by obtain rfl : i = 0 := by omega
                      exact hg
  | k + 1, h, g, hg => by
    rcases Nat.lt_or_ge k i with h1 | h1
    · obtain rfl : i = k + 1 := by omega
      exact hg
    · have := lgs_mono h1 g hg
      unfold lgs
      split
      · exact List.mem_append_left _ this
      · exact this
theorem lgB_iff {x : Tsk} {ls : List (List Int)} {g : List Int} : lgB x ls g = true ↔ 1 < g.length ∧ partB ls g = false ∧ indB x g = true := by
  unfold lgB
  rw [Bool.and_eq_true, Bool.and_eq_true, decide_eq_true_eq, Bool.not_eq_true', and_assoc]
theorem lgs_in {x : Tsk} {n : Nat} : ∀ {k : Nat} {g : List Int}, g ∈ lgs x n k → ∃ i, i < k ∧ g = grL n i ∧ g ∈ lgs x n (i + 1) ∧ 1 < g.length ∧ indB x g = true ∧ ∀ h ∈ lgs x n i, subB g h = false
  | 0, g, h => by simp [lgs] at h
  | k + 1, g, h => by
    have h' := h
    unfold lgs at h
    by_cases hb : lgB x (lgs x n k) (grL n k) = true
    · rw [if_pos hb] at h
      rcases List.mem_append.1 h with h | h
      · obtain ⟨i, h1, h2⟩ := lgs_in h
        exact ⟨i, by omega, h2⟩
      · have e : g = grL n k := by simpa using h
        obtain ⟨b1, b2, b3⟩ := lgB_iff.1 hb
        refine ⟨k, by omega, e, h', by rw [e]; exact b1, by rw [e]; exact b3, fun q hq => ?_⟩
        cases hs : subB g q
        · rfl
        · rw [e] at hs
          rw [partB_iff.2 ⟨q, hq, hs⟩] at b2; cases b2
    · rw [if_neg hb] at h
      obtain ⟨i, h1, h2⟩ := lgs_in h
      exact ⟨i, by omega, h2⟩
theorem subB_refl (g : List Int) : subB g g = true := subB_iff.2 (fun x h => h)
theorem lgs_cov {x : Tsk} {n i k : Nat} (hi : i < k) (h1 : 1 < (grL n i).length) (h2 : indB x (grL n i) = true) : ∃ h ∈ lgs x n k, subB (grL n i) h = true := by
  cases hp : partB (lgs x n i) (grL n i)
  · refine ⟨grL n i, lgs_mono (show i + 1 ≤ k by omega) _ ?_, subB_refl _⟩
    unfold lgs
    rw [if_pos (lgB_iff.2 ⟨h1, hp, h2⟩)]
    simp
  · obtain ⟨h, hm, hs⟩ := partB_iff.1 hp
    exact ⟨h, lgs_mono (by omega) _ hm, hs⟩
theorem mask_lt2 {l : List Int} {n : Nat} (h : IsS l n) : mask l < 2 ^ n := mask_lt h.2
theorem sub_le {a b : List Int} {n : Nat} (hn : n ≤ 24) (ha : IsS a n) (hb : IsS b n) (h : subB a b = true) : mask a ≤ mask b := by
  have e : mask a = mask a &&& mask b := by
    apply Nat.eq_of_testBit_eq
    intro p
    rw [Nat.testBit_and, mask_bit (fun x hx => (ha.2 x hx).1), mask_bit (fun x hx => (hb.2 x hx).1)]
    by_cases hp : (p : Int) ∈ a
    · simp [hp, subB_iff.1 h _ hp]
    · simp [hp]
  rw [e]
  exact Nat.and_le_right
theorem mask_inj {a b : List Int} {n : Nat} (hn : n ≤ 24) (ha : IsS a n) (hb : IsS b n) (h : mask a = mask b) : a = b := by
  rw [← els_mask (ha.mono (by omega)), ← els_mask (hb.mono (by omega)), h]
theorem grL_of {g : List Int} {n : Nat} (hn : n ≤ 24) (h : IsS g n) : ∃ i, i < 2 ^ n ∧ g = grL n i := by
  have hm := mask_lt2 h
  refine ⟨2 ^ n - 1 - mask g, by omega, mask_inj hn h (grL_isS _ _) ?_⟩
  rw [mask_grL (by omega)]
  omega
/-- A larger set comes before. -/
theorem sub_idx {n i j : Nat} (hn : n ≤ 24) (hi : i < 2 ^ n) (hj : j < 2 ^ n) (h : subB (grL n i) (grL n j) = true) (hne : grL n i ≠ grL n j) : j < i := by
  have h1 := sub_le hn (grL_isS n i) (grL_isS n j) h
  rw [mask_grL hi, mask_grL hj] at h1
  rcases Nat.lt_or_ge j i with h2 | h2
  · exact h2
  · exfalso
    apply hne
    obtain rfl : i = j := by omega
    rfl
theorem subB_trans {a b c : List Int} (h1 : subB a b = true) (h2 : subB b c = true) : subB a c = true := subB_iff.2 fun x hx => subB_iff.1 h2 x (subB_iff.1 h1 x hx)
theorem len_sub {a b : List Int} {n : Nat} (ha : IsS a n) (hb : IsS b n) (h : subB a b = true) (h1 : 1 < a.length) : 1 < b.length := by
  rcases Nat.lt_or_ge 1 b.length with h2 | h2
  · exact h2
  · have h3 := (len1 hb.1).1 h2
    have h4 := (len1 ha.1).2 (fun p hp q hq => h3 p (subB_iff.1 h p hp) q (subB_iff.1 h q hq))
    omega
/-- What is found is not contained in another inductive group. -/
theorem fd_max {x : Tsk} {n : Nat} (hn : n ≤ 24) {g g' : List Int} (hg : g ∈ lgs x n (2 ^ n)) (hg' : IsS g' n) (hs : subB g g' = true) (hne : g ≠ g') : indB x g' = false := by
  obtain ⟨i, hi, e, _, hl, _, hno⟩ := lgs_in hg
  obtain ⟨j, hj, e'⟩ := grL_of hn hg'
  subst e e'
  have hji := sub_idx hn hi hj hs hne
  cases hind : indB x (grL n j)
  · rfl
  · obtain ⟨h, hm, hs2⟩ := lgs_cov (k := i) hji (len_sub (grL_isS n i) (grL_isS n j) hs hl) hind
    have := subB_trans hs hs2
    rw [hno h hm] at this
    cases this
theorem fd_anti {x : Tsk} {n : Nat} (hn : n ≤ 24) {g h : List Int} (hg : g ∈ lgs x n (2 ^ n)) (hh : h ∈ lgs x n (2 ^ n)) (hne : g ≠ h) : subB g h = false := by
  obtain ⟨i, hi, e, _, _, _, hno⟩ := lgs_in hg
  obtain ⟨j, hj, e', hin, _⟩ := lgs_in hh
  cases hs : subB g h
  · rfl
  · rw [e, e'] at hs hne
    have hji := sub_idx hn hi hj hs hne
    have := hno h (lgs_mono (by omega) _ hin)
    rw [e, e', hs] at this
    cases this
theorem fd_nodup {x : Tsk} {n : Nat} (hn : n ≤ 24) : ∀ k, k ≤ 2 ^ n → (lgs x n k).Nodup
  | 0, _ => by simp [lgs]
  | k + 1, hk => by
    have ih := fd_nodup (x := x) hn k (by omega)
    unfold lgs
    split
    · rw [List.nodup_append]
      refine ⟨ih, by simp, fun a ha b hb => ?_⟩
      have eb : b = grL n k := by simpa using hb
      obtain ⟨i, hi, e, _⟩ := lgs_in ha
      intro hab
      have h1 : mask (grL n i) = mask (grL n k) := by rw [← e, hab, eb]
      rw [mask_grL (by omega), mask_grL (by omega)] at h1
      omega
    · exact ih
theorem wth_isS {l : List Int} {p : Int} {k n : Nat} (h : IsS l n) (hp : 0 ≤ p ∧ p < n) (hc : Cut l p k) : IsS (wthL l p k) n := by
  obtain ⟨c1, c2, c3⟩ := hc
  refine ⟨?_, fun y hy => ?_⟩
  · unfold wthL
    rw [List.append_assoc, List.pairwise_append]
    refine ⟨h.1.sublist (List.take_sublist _ _), ?_, fun a ha b hb => ?_⟩
    · rw [List.singleton_append, List.pairwise_cons]
      refine ⟨fun a ha => ?_, h.1.sublist (List.drop_sublist _ _)⟩
      obtain ⟨j, hj, rfl⟩ := List.getElem_of_mem ha
      have hlt : k + j < l.length := by rw [List.length_drop] at hj; omega
      have := c3 (k + j) (by omega) hlt
      rw [List.getElem_drop]
      simpa [ix, List.getD, hlt] using this
    · obtain ⟨i, hi, rfl⟩ := List.getElem_of_mem ha
      have hik : i < k := by rw [List.length_take] at hi; omega
      have h1 := c2 i hik
      have e1 : ix l i = l[i] := by simp [ix, List.getD, show i < l.length by omega]
      rw [List.getElem_take]
      rcases List.mem_append.1 hb with hb | hb
      · have : b = p := by simpa using hb
        omega
      · obtain ⟨j, hj, rfl⟩ := List.getElem_of_mem hb
        have hlt : k + j < l.length := by rw [List.length_drop] at hj; omega
        have h2 := c3 (k + j) (by omega) hlt
        have e2 : ix l (k + j) = l[k + j] := by simp [ix, List.getD, hlt]
        rw [List.getElem_drop]
        omega
  · unfold wthL at hy
    rcases List.mem_append.1 hy with hy | hy
    · rcases List.mem_append.1 hy with hy | hy
      · exact h.2 y (List.mem_of_mem_take hy)
      · have : y = p := by simpa using hy
        omega
    · exact h.2 y (List.mem_of_mem_drop hy)
theorem wth_sub {l : List Int} {p : Int} {k : Nat} : subB l (wthL l p k) = true := by
  rw [subB_iff]
  intro y hy
  unfold wthL
  rw [← List.take_append_drop k l] at hy
  rcases List.mem_append.1 hy with h | h
  · exact List.mem_append_left _ (List.mem_append_left _ h)
  · exact List.mem_append_right _ h
theorem wth_ne {l : List Int} {p : Int} {k : Nat} (hp : p ∉ l) : l ≠ wthL l p k := by
  intro e
  apply hp
  rw [e]
  simp [wthL]
end Go.Proofs.YtenmegkokclolaaDoor

/- The reference's Preserved. -/
import Derived.Test.YtenmegkokclolaaDoorVpu
namespace Go.Proofs.YtenmegkokclolaaDoor
open Go.RowKit
set_option linter.unusedSimpArgs false
set_option linter.unusedVariables false
set_option maxRecDepth 100000

theorem am_symm {p g : List Int} : AM p g ↔ AM g p := ⟨fun h a b h1 h2 h3 h4 => h a b h2 h1 h4 h3, fun h a b h1 h2 h3 h4 => h a b h2 h1 h4 h3⟩
theorem cnt_pos {l s : List Int} {a : Int} (h1 : a ∈ l) (h2 : a ∈ s) : 1 ≤ cntB l s := List.length_pos_of_mem (List.mem_filter.2 ⟨h1, decide_eq_true h2⟩)
theorem cnt_ex {l s : List Int} (h : 1 ≤ cntB l s) : ∃ a, a ∈ l ∧ a ∈ s := by
  obtain ⟨a, ha⟩ := List.exists_mem_of_length_pos (show 0 < (l.filter (fun a => decide (a ∈ s))).length from h)
  exact ⟨a, (List.mem_filter.1 ha).1, of_decide_eq_true (List.mem_filter.1 ha).2⟩
/-- The facts that are true before try m; whether the operator can be applied then; how many are true behind it. -/
def trS (g : List Int) (m : Nat) : List Int := if m = 0 then [] else [ix g (m - 1)]
def trC (o : Opr) (g s : List Int) (k : Nat) : Bool := (List.range k).all (fun j => !hasB g (ix o.pre j) || hasB s (ix o.pre j))
def trX (o : Opr) (g : List Int) (m : Nat) : Bool := decide (m ≠ 0) && !hasB o.add (ix g (m - 1)) && !hasB o.del (ix g (m - 1))
def trN (o : Opr) (g : List Int) (m : Nat) : Nat := cntB o.add g + if trX o g m then 1 else 0
def trB (o : Opr) (g : List Int) (m : Nat) : Bool := trC o g (trS g m) o.pre.length && decide (1 < trN o g m)
def prB (o : Opr) (g : List Int) : Bool := !(List.range (g.length + 1)).any (trB o g)
theorem trC_iff {o : Opr} {g s : List Int} : trC o g s o.pre.length = true ↔ ∀ q ∈ o.pre, q ∈ g → q ∈ s := by
  unfold trC
  rw [List.all_eq_true]
  constructor
  · intro h q hq hg
    obtain ⟨j, hj, rfl⟩ := mem_ix hq
    have := h j (by simpa using hj)
    simp [hasB, hg] at this
    exact this
  · intro h j hj
    have hj' : j < o.pre.length := by simpa using hj
    have h1 := h _ (ix_mem hj')
    by_cases hg : ix o.pre j ∈ g
    · simp [hasB, hg, h1 hg]
    · simp [hasB, hg]
theorem trX_iff {o : Opr} {g : List Int} {m : Nat} : trX o g m = true ↔ m ≠ 0 ∧ ix g (m - 1) ∉ o.add ∧ ix g (m - 1) ∉ o.del := by
  unfold trX hasB
  simp [and_assoc]
theorem prB_brk {o : Opr} {g : List Int} (ho : OpS o 24) (hg : IsS g 24) : prB o g = !brkB o g := by
  have hcnt : cntB o.add g ≤ 1 ↔ AM o.add g := by rw [cnt_am (show IsS o.add 24 from ho.add), am_symm]
  rw [Bool.eq_iff_iff, Bool.not_eq_true', brk_false ho hg]
  unfold prB
  rw [Bool.not_eq_true', List.any_eq_false]
  constructor
  · intro h hp
    have hb : ∀ m, m ≤ g.length → (∀ q ∈ o.pre, q ∈ g → q ∈ trS g m) → trN o g m ≤ 1 := by
      intro m hm hc
      have := h m (by simp; omega)
      unfold trB at this
      rw [trC_iff.2 hc] at this
      simp at this
      exact this
    have hone : ∀ r, r ∈ g → (∀ q ∈ o.pre, q ∈ g → q = r) → cntB o.add g ≤ 1 ∧ (r ∉ o.add → r ∉ o.del → cntB o.add g = 0) := by
      intro r hr hq
      obtain ⟨i, hi, e⟩ := mem_ix hr
      have h1 := hb (i + 1) (by omega) (fun q h1 h2 => by unfold trS; rw [if_neg (by omega)]; simp [hq q h1 h2, e])
      unfold trN at h1
      refine ⟨by omega, fun h2 h3 => ?_⟩
      rw [if_pos (trX_iff.2 ⟨by omega, by rw [Nat.add_sub_cancel, e]; exact h2, by rw [Nat.add_sub_cancel, e]; exact h3⟩)] at h1
      omega
    by_cases hn : ∀ q ∈ o.pre, q ∉ g
    · have h0 := hb 0 (by omega) (fun q h1 h2 => absurd h2 (hn q h1))
      unfold trN at h0
      refine ⟨hcnt.1 (by omega), fun a a1 a2 r hr hd => ?_⟩
      have hrg := ((mem_bfL (show IsS o.pre 24 from ho.pre)).1 hr).1
      have h1 := hone r hrg (fun q h1 h2 => absurd h2 (hn q h1))
      by_cases hra : r ∈ o.add
      · exact hra
      · have := h1.2 hra hd
        have := cnt_pos a1 a2
        omega
    · simp only [Classical.not_forall, not_imp, Classical.not_not] at hn
      obtain ⟨q, q1, q2⟩ := hn
      have h1 := hone q q2 (fun q' h1 h2 => hp q' q h1 h2 q1 q2)
      refine ⟨hcnt.1 h1.1, fun a a1 a2 r hr hd => ?_⟩
      obtain ⟨hrg, hrp⟩ := (mem_bfL (show IsS o.pre 24 from ho.pre)).1 hr
      have hrq : r = q := by
        rcases hrp with h2 | h2
        · exact absurd q2 (h2 q q1)
        · exact hp r q h2 hrg q1 q2
      by_cases hra : r ∈ o.add
      · exact hra
      · have := h1.2 (by rw [← hrq]; exact hra) (by rw [← hrq]; exact hd)
        have := cnt_pos a1 a2
        omega
  · intro h m hm
    have hm' : m ≤ g.length := by simp at hm; omega
    unfold trB
    cases hc : trC o g (trS g m) o.pre.length
    · simp
    · simp only [Bool.true_and, decide_eq_true_eq, Nat.not_lt]
      have hc' := trC_iff.1 hc
      have hp : AM o.pre g := by
        intro a b h1 h2 h3 h4
        have ha := hc' a h1 h2
        have hb := hc' b h3 h4
        unfold trS at ha hb
        by_cases h0 : m = 0
        · rw [if_pos h0] at ha; simp at ha
        · rw [if_neg h0] at ha hb
          rw [List.mem_singleton.1 ha, List.mem_singleton.1 hb]
      obtain ⟨k1, k2⟩ := h hp
      have h1 := hcnt.2 k1
      unfold trN
      by_cases hx : trX o g m = true
      · rw [if_pos hx]
        obtain ⟨m0, x1, x2⟩ := trX_iff.1 hx
        have hlt : m - 1 < g.length := by omega
        have h0 : cntB o.add g = 0 := by
          rcases Nat.lt_or_ge 0 (cntB o.add g) with h2 | h2
          · exfalso
            obtain ⟨a, a1, a2⟩ := cnt_ex h2
            apply x1
            refine k2 a a1 a2 _ ?_ x2
            rw [mem_bfL (show IsS o.pre 24 from ho.pre)]
            refine ⟨ix_mem hlt, ?_⟩
            by_cases hn : ∀ q ∈ o.pre, q ∉ g
            · exact .inl hn
            · right
              simp only [Classical.not_forall, not_imp, Classical.not_not] at hn
              obtain ⟨q, q1, q2⟩ := hn
              have := hc' q q1 q2
              unfold trS at this
              rw [if_neg m0] at this
              rw [← List.mem_singleton.1 this]
              exact q1
          · omega
        omega
      · rw [if_neg hx]; omega
end Go.Proofs.YtenmegkokclolaaDoor

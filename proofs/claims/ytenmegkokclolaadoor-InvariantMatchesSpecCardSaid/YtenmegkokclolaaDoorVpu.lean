/- Inductive groups: pure facts. -/
import Derived.Test.YtenmegkokclolaaDoorVgr
namespace Go.Proofs.YtenmegkokclolaaDoor
open Go.RowKit
set_option linter.unusedSimpArgs false
set_option linter.unusedVariables false
set_option maxRecDepth 100000

theorem len1 : ∀ {l : List Int}, l.Pairwise (· < ·) → (l.length ≤ 1 ↔ ∀ a ∈ l, ∀ b ∈ l, a = b)
  | [], _ => by simp
  | [a], _ => by simp
  | a :: b :: t, h => by
    have h1 : a < b := List.rel_of_pairwise_cons h (by simp)
    constructor
    · intro h2; simp at h2
    · intro h2
      have := h2 a (by simp) b (by simp)
      omega
/-- At most one element of p is in g. -/
def AM (p g : List Int) : Prop := ∀ a b, a ∈ p → a ∈ g → b ∈ p → b ∈ g → a = b
theorem met_am {p g : List Int} (hp : IsS p 24) : (metL p g).length ≤ 1 ↔ AM p g := by
  rw [len1 (metL_isS p g).1]
  constructor
  · intro h a b h1 h2 h3 h4
    exact h a ((mem_metL hp).2 ⟨h1, h2⟩) b ((mem_metL hp).2 ⟨h3, h4⟩)
  · intro h a ha b hb
    have h1 := (mem_metL hp).1 ha
    have h2 := (mem_metL hp).1 hb
    exact h a b h1.1 h1.2 h2.1 h2.2
theorem mem_bfL {o : Opr} {g : List Int} (ho : IsS o.pre 24) {r : Int} : r ∈ bfL o g ↔ r ∈ g ∧ ((∀ p ∈ o.pre, p ∉ g) ∨ r ∈ o.pre) := by
  unfold bfL
  cases hd : disB o.pre g
  · simp only [Bool.false_eq_true, ite_false]
    rw [mem_metL ho]
    have : ¬ ∀ p ∈ o.pre, p ∉ g := fun h => by rw [disB_iff.2 h] at hd; cases hd
    constructor
    · rintro ⟨h1, h2⟩; exact ⟨h2, .inr h1⟩
    · rintro ⟨h1, h2 | h2⟩
      · exact absurd h2 this
      · exact ⟨h2, h1⟩
  · simp only [ite_true]
    exact ⟨fun h => ⟨h, .inl (disB_iff.1 hd)⟩, fun h => h.1⟩
/-- What an operator that keeps a group does. -/
theorem brk_false {o : Opr} {g : List Int} (ho : OpS o 24) (hg : IsS g 24) : brkB o g = false ↔ (AM o.pre g → AM o.add g ∧ ∀ a, a ∈ o.add → a ∈ g → ∀ r ∈ bfL o g, r ∉ o.del → r ∈ o.add) := by
  unfold brkB
  have hrm : ∀ r, r ∈ rmL o g ↔ r ∈ bfL o g ∧ r ∉ o.del := fun r => mem_difL (bfL_isS hg)
  by_cases h1 : 1 < (metL o.pre g).length
  · rw [if_pos h1]
    simp only [true_iff]
    intro h
    exact absurd ((met_am (show IsS o.pre 24 from ho.pre)).2 h) (by omega)
  · rw [if_neg h1]
    have hp : AM o.pre g := (met_am (show IsS o.pre 24 from ho.pre)).1 (by omega)
    have ha := met_am (p := o.add) (g := g) (show IsS o.add 24 from ho.add)
    have hm : ∀ {x}, x ∈ metL o.add g ↔ x ∈ o.add ∧ x ∈ g := fun {x} => mem_metL (show IsS o.add 24 from ho.add)
    rw [Bool.or_eq_false_iff, decide_eq_false_iff_not]
    constructor
    · rintro ⟨h2, h3⟩ _
      refine ⟨ha.1 (by omega), fun a q1 q2 r q3 q4 => ?_⟩
      have hl : (metL o.add g).length = 1 := by
        have := List.length_pos_of_mem (hm.2 ⟨q1, q2⟩)
        omega
      rw [decide_eq_true hl, Bool.true_and, Bool.not_eq_false'] at h3
      exact (hm.1 (subB_iff.1 h3 r ((hrm r).2 ⟨q3, q4⟩))).1
    · intro h
      obtain ⟨h2, h3⟩ := h hp
      have h4 := ha.2 h2
      refine ⟨by omega, ?_⟩
      by_cases hl : (metL o.add g).length = 1
      · rw [decide_eq_true hl, Bool.true_and, Bool.not_eq_false', subB_iff]
        intro r hr
        obtain ⟨q3, q4⟩ := (hrm r).1 hr
        obtain ⟨a, hma⟩ := List.exists_mem_of_length_pos (show 0 < (metL o.add g).length by omega)
        obtain ⟨q1, q2⟩ := hm.1 hma
        exact hm.2 ⟨h3 a q1 q2 r q3 q4, ((mem_bfL (show IsS o.pre 24 from ho.pre)).1 q3).1⟩
      · rw [decide_eq_false hl]; rfl
theorem aft_am {n : Nat} {o : Opr} {g s : List Int} (hn : n ≤ 24) (ho : OpS o n) (hg : IsS g 24) (hs : IsS s n) (hsub : subB o.pre s = true) (h : AM s g) (hk : brkB o g = false) : AM (aftL n o.add o.del s) g := by
  have hpre : AM o.pre g := fun a b h1 h2 h3 h4 => h a b (subB_iff.1 hsub a h1) h2 (subB_iff.1 hsub b h3) h4
  obtain ⟨k1, k2⟩ := (brk_false (ho.up hn) hg).1 hk hpre
  have key : ∀ a b, a ∈ o.add → a ∈ g → b ∈ s → b ∉ o.del → b ∈ g → a = b := by
    intro a b q1 q2 q3 q4 q5
    refine k1 a b q1 q2 (k2 a q1 q2 b ?_ q4) q5
    rw [mem_bfL (show IsS o.pre 24 from (ho.up hn).pre)]
    refine ⟨q5, ?_⟩
    by_cases hd : ∀ p ∈ o.pre, p ∉ g
    · exact .inl hd
    · right
      simp only [Classical.not_forall, not_imp, Classical.not_not] at hd
      obtain ⟨p, p1, p2⟩ := hd
      rw [h b p q3 q5 (subB_iff.1 hsub p p1) p2]
      exact p1
  intro a b h1 h2 h3 h4
  rcases (mem_aftL ho.add hs).1 h1 with a1 | ⟨a1, a2⟩ <;> rcases (mem_aftL ho.add hs).1 h3 with b1 | ⟨b1, b2⟩
  · exact k1 a b a1 h2 b1 h4
  · exact key a b a1 h2 b1 b2 h4
  · exact (key b a b1 h4 a1 a2 h2).symm
  · exact h a b a1 h2 b1 h4
theorem indB_iff {x : Tsk} {g : List Int} (hi : IsS x.init 24) : indB x g = true ↔ AM x.init g ∧ ∀ k, k < x.ops.length → brkB (opr x.ops k) g = false := by
  unfold indB
  rw [Bool.and_eq_true, decide_eq_true_eq, met_am hi, Bool.not_eq_true', List.any_eq_false]
  simp
theorem run_am {x : Tsk} {n : Nat} {g plan : List Int} (hv : Val x n) (hg : IsS g 24) (hi : indB x g = true) (hp : planB x.ops.length plan = true) :
    ∀ (k : Nat) (t : List Int), k ≤ plan.length → runTo x n x.init plan k = some t → AM t g
  | 0, t, _, h => by
    have e : x.init = t := by simpa [runTo] using h
    subst e
    exact ((indB_iff (hv.init.mono (by have := hv.le; omega))).1 hi).1
  | k + 1, t, hk, h => by
    cases hr : runTo x n x.init plan k with
    | none => simp only [runTo, hr] at h; cases h
    | some u =>
      have hu := run_am hv hg hi hp k u (by omega) hr
      rw [runTo_step hr] at h
      split at h
      · rename_i hsub
        injection h with h
        subst h
        obtain ⟨g0, g1⟩ := planB_at hp (show k < plan.length by omega)
        have hlt : (ix plan k).toNat < x.ops.length := by omega
        exact aft_am hv.le (hv.ops _ hlt).1 hg (runTo_isS hv.init k u hr) hsub hu (((indB_iff (hv.init.mono (by have := hv.le; omega))).1 hi).2 _ hlt)
      · cases h
theorem seqN_run {x : Tsk} {n : Nat} {s plan : List Int} : ∀ {f i : Nat} {y : Nat × List Int}, y ∈ seqN x n s plan f i → runTo x n s plan y.1 = some y.2 ∧ y.1 < i + f
  | 0, i, y, h => by simp [seqN] at h
  | f + 1, i, y, h => by
    cases hr : runTo x n s plan i with
    | none => rw [seqN_none hr] at h; simp at h
    | some t =>
      rw [seqN_some hr] at h
      rcases List.mem_cons.1 h with rfl | h
      · exact ⟨hr, by show i < _; omega⟩
      · obtain ⟨h1, h2⟩ := seqN_run h
        exact ⟨h1, by omega⟩

/-- How many elements of l are in s. -/
def cntB (l s : List Int) : Nat := (l.filter (fun a => decide (a ∈ s))).length
theorem cnt_am {g s : List Int} (hg : IsS g 24) : cntB g s ≤ 1 ↔ AM s g := by
  unfold cntB
  rw [len1 (hg.1.sublist List.filter_sublist)]
  simp only [List.mem_filter, decide_eq_true_eq]
  constructor
  · intro h a b h1 h2 h3 h4; exact h a ⟨h2, h1⟩ b ⟨h4, h3⟩
  · intro h a ha b hb; exact h a b ha.2 ha.1 hb.2 hb.1
theorem cnt_take {l s : List Int} {k : Nat} (h : k < l.length) : cntB (l.take (k + 1)) s = cntB (l.take k) s + if ix l k ∈ s then 1 else 0 := by
  unfold cntB
  rw [take_succ_ix h, List.filter_append, List.length_append]
  congr 1
  by_cases hm : ix l k ∈ s <;> simp [hm]
theorem cnt_le (l s : List Int) : cntB l s ≤ l.length := List.length_filter_le _ _
set_option maxHeartbeats 1000000 in
theorem countIn_any (A B : Option Addr) (c d : Nat) (l s : List Int) (w : World) (hA : Nums w w.heap.size A l) (hB : Nums w w.heap.size B s) (hla : l.length ≤ 100) (hlb : s.length ≤ maxLen) :
    Calls Tryd.prog 17 #[.slice A l.length c, .slice B s.length d] w fun e w' => e = .returned (.int .i64 (cntB l s)) ∧ w = w' := by
  have HA := Lib.hid hA
  have HH := Lib.hid (fun y : Int => has_any B d s y w hB hlb)
  clear hA hB hlb
  go_enter Tryd.func17, Tryd.ntmps17
  go_wp2
  go_loop [5, 6] (fun v i => ∃ k : Nat, k ≤ l.length ∧ i = .int .i64 k ∧ v = .int .i64 (cntB (l.take k) s)) (fun _ i => l.length - (intOf i).toNat)
  case atStart => exact ⟨0, by omega, rfl, rfl⟩
  case round =>
    obtain ⟨k, hk, rfl, rfl⟩ := hrel
    by_cases hlt : k < l.length
    case neg =>
      have hge : ¬ ((k : Int) < l.length) := by omega
      go_wp2
      go_ret
      exact ⟨ret_int (by rw [List.take_of_length_le (by omega)]), rfl⟩
    obtain ⟨b, o, rfl, _, hc⟩ := HA.out.at_ hlt
    have HQ := Lib.hid (cnt_take (s := s) hlt)
    have hle := cnt_le (l.take k) s
    have hle2 : (l.take k).length ≤ k := by rw [List.length_take]; omega
    have HY := HH.out (ix l k)
    by_cases hm : ix l k ∈ s
    · rw [show hasB s (ix l k) = true from decide_eq_true hm] at HY
      go_wp2_with (go_at_call 19; (with_reducible refine HY.mono ?_); rintro e w' ⟨rfl, rfl⟩)
      go_round
      case rel => exact ⟨k + 1, by omega, by go_num, by rw [HQ.out, if_pos hm]; go_num⟩
      case measure => simp [intOf]; omega
    · rw [show hasB s (ix l k) = false from decide_eq_false hm] at HY
      go_wp2_with (go_at_call 19; (with_reducible refine HY.mono ?_); rintro e w' ⟨rfl, rfl⟩)
      go_round
      case rel => exact ⟨k + 1, by omega, by go_num, by rw [HQ.out, if_neg hm]; rfl⟩
      case measure => simp [intOf]; omega
end Go.Proofs.YtenmegkokclolaaDoor

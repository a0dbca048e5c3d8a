/- Vpu, Vpr, Vpw, Vgp in one text. -/
import Derived.Test.YtiaobanloakplaaDoorVgr

/- Inductive groups: pure facts. -/
section
namespace Go.Proofs.YtiaobanloakplaaDoor
open Go.RowKit
set_option linter.unusedSimpArgs false
set_option linter.unusedVariables false
set_option maxRecDepth 100000

theorem len1 : ∀ {l : List Int}, l.Pairwise (· < ·) → (l.length ≤ 1 ↔ ∀ a ∈ l, ∀ b ∈ l, a = b)
  | [], _ => by simp
  | [a], _ => by simp
  | a :: b :: t, h => by
    have h1 : a < b := List.rel_of_pairwise_cons h (by simp)
    constructor
    · intro h2; simp at h2
    · intro h2
      have := h2 a (by simp) b (by simp)
      omega
/-- At most one element of p is in g. -/
def AM (p g : List Int) : Prop := ∀ a b, a ∈ p → a ∈ g → b ∈ p → b ∈ g → a = b
theorem met_am {p g : List Int} (hp : IsS p 24) : (metL p g).length ≤ 1 ↔ AM p g := by
  rw [len1 (metL_isS p g).1]
  constructor
  · intro h a b h1 h2 h3 h4
    exact h a ((mem_metL hp).2 ⟨h1, h2⟩) b ((mem_metL hp).2 ⟨h3, h4⟩)
  · intro h a ha b hb
    have h1 := (mem_metL hp).1 ha
    have h2 := (mem_metL hp).1 hb
    exact h a b h1.1 h1.2 h2.1 h2.2
theorem mem_bfL {o : Opr} {g : List Int} (ho : IsS o.pre 24) {r : Int} : r ∈ bfL o g ↔ r ∈ g ∧ ((∀ p ∈ o.pre, p ∉ g) ∨ r ∈ o.pre) := by
  unfold bfL
  cases hd : disB o.pre g
  · simp only [Bool.false_eq_true, ite_false]
    rw [mem_metL ho]
    have : ¬ ∀ p ∈ o.pre, p ∉ g := fun h => by rw [disB_iff.2 h] at hd; cases hd
    constructor
    · rintro ⟨h1, h2⟩; exact ⟨h2, .inr h1⟩
    · rintro ⟨h1, h2 | h2⟩
      · exact absurd h2 this
      · exact ⟨h2, h1⟩
  · simp only [ite_true]
    exact ⟨fun h => ⟨h, .inl (disB_iff.1 hd)⟩, fun h => h.1⟩
/-- What an operator that keeps a group does. -/
theorem brk_false {o : Opr} {g : List Int} (ho : OpS o 24) (hg : IsS g 24) : brkB o g = false ↔ (AM o.pre g → AM o.add g ∧ ∀ a, a ∈ o.add → a ∈ g → ∀ r ∈ bfL o g, r ∉ o.del → r ∈ o.add) := by
  unfold brkB
  have hrm : ∀ r, r ∈ rmL o g ↔ r ∈ bfL o g ∧ r ∉ o.del := fun r => mem_difL (bfL_isS hg)
  by_cases h1 : 1 < (metL o.pre g).length
  · rw [if_pos h1]
    simp only [true_iff]
    intro h
    exact absurd ((met_am (show IsS o.pre 24 from ho.pre)).2 h) (by omega)
  · rw [if_neg h1]
    have hp : AM o.pre g := (met_am (show IsS o.pre 24 from ho.pre)).1 (by omega)
    have ha := met_am (p := o.add) (g := g) (show IsS o.add 24 from ho.add)
    have hm : ∀ {x}, x ∈ metL o.add g ↔ x ∈ o.add ∧ x ∈ g := fun {x} => mem_metL (show IsS o.add 24 from ho.add)
    rw [Bool.or_eq_false_iff, decide_eq_false_iff_not]
    constructor
    · rintro ⟨h2, h3⟩ _
      refine ⟨ha.1 (by omega), fun a q1 q2 r q3 q4 => ?_⟩
      have hl : (metL o.add g).length = 1 := by
        have := List.length_pos_of_mem (hm.2 ⟨q1, q2⟩)
        omega
      rw [decide_eq_true hl, Bool.true_and, Bool.not_eq_false'] at h3
      exact (hm.1 (subB_iff.1 h3 r ((hrm r).2 ⟨q3, q4⟩))).1
    · intro h
      obtain ⟨h2, h3⟩ := h hp
      have h4 := ha.2 h2
      refine ⟨by omega, ?_⟩
      by_cases hl : (metL o.add g).length = 1
      · rw [decide_eq_true hl, Bool.true_and, Bool.not_eq_false', subB_iff]
        intro r hr
        obtain ⟨q3, q4⟩ := (hrm r).1 hr
        obtain ⟨a, hma⟩ := List.exists_mem_of_length_pos (show 0 < (metL o.add g).length by omega)
        obtain ⟨q1, q2⟩ := hm.1 hma
        exact hm.2 ⟨h3 a q1 q2 r q3 q4, ((mem_bfL (show IsS o.pre 24 from ho.pre)).1 q3).1⟩
      · rw [decide_eq_false hl]; rfl
theorem aft_am {n : Nat} {o : Opr} {g s : List Int} (hn : n ≤ 24) (ho : OpS o n) (hg : IsS g 24) (hs : IsS s n) (hsub : subB o.pre s = true) (h : AM s g) (hk : brkB o g = false) : AM (aftL n o.add o.del s) g := by
  have hpre : AM o.pre g := fun a b h1 h2 h3 h4 => h a b (subB_iff.1 hsub a h1) h2 (subB_iff.1 hsub b h3) h4
  obtain ⟨k1, k2⟩ := (brk_false (ho.up hn) hg).1 hk hpre
  have key : ∀ a b, a ∈ o.add → a ∈ g → b ∈ s → b ∉ o.del → b ∈ g → a = b := by
    intro a b q1 q2 q3 q4 q5
    refine k1 a b q1 q2 (k2 a q1 q2 b ?_ q4) q5
    rw [mem_bfL (show IsS o.pre 24 from (ho.up hn).pre)]
    refine ⟨q5, ?_⟩
    by_cases hd : ∀ p ∈ o.pre, p ∉ g
    · exact .inl hd
    · right
      simp only [Classical.not_forall, not_imp, Classical.not_not] at hd
      obtain ⟨p, p1, p2⟩ := hd
      rw [h b p q3 q5 (subB_iff.1 hsub p p1) p2]
      exact p1
  intro a b h1 h2 h3 h4
  rcases (mem_aftL ho.add hs).1 h1 with a1 | ⟨a1, a2⟩ <;> rcases (mem_aftL ho.add hs).1 h3 with b1 | ⟨b1, b2⟩
  · exact k1 a b a1 h2 b1 h4
  · exact key a b a1 h2 b1 b2 h4
  · exact (key b a b1 h4 a1 a2 h2).symm
  · exact h a b a1 h2 b1 h4
theorem indB_iff {x : Tsk} {g : List Int} (hi : IsS x.init 24) : indB x g = true ↔ AM x.init g ∧ ∀ k, k < x.ops.length → brkB (opr x.ops k) g = false := by
  unfold indB
  rw [Bool.and_eq_true, decide_eq_true_eq, met_am hi, Bool.not_eq_true', List.any_eq_false]
  simp
theorem run_am {x : Tsk} {n : Nat} {g plan : List Int} (hv : Val x n) (hg : IsS g 24) (hi : indB x g = true) (hp : planB x.ops.length plan = true) :
    ∀ (k : Nat) (t : List Int), k ≤ plan.length → runTo x n x.init plan k = some t → AM t g
  | 0, t, _, h => by
    have e : x.init = t := by simpa [runTo] using h
    subst e
    exact ((indB_iff (hv.init.mono (by have := hv.le; omega))).1 hi).1
  | k + 1, t, hk, h => by
    cases hr : runTo x n x.init plan k with
    | none => simp only [runTo, hr] at h; cases h
    | some u =>
      have hu := run_am hv hg hi hp k u (by omega) hr
      rw [runTo_step hr] at h
      split at h
      · rename_i hsub
        injection h with h
        subst h
        obtain ⟨g0, g1⟩ := planB_at hp (show k < plan.length by omega)
        have hlt : (ix plan k).toNat < x.ops.length := by omega
        exact aft_am hv.le (hv.ops _ hlt).1 hg (runTo_isS hv.init k u hr) hsub hu (((indB_iff (hv.init.mono (by have := hv.le; omega))).1 hi).2 _ hlt)
      · cases h
theorem seqN_run {x : Tsk} {n : Nat} {s plan : List Int} : ∀ {f i : Nat} {y : Nat × List Int}, y ∈ seqN x n s plan f i → runTo x n s plan y.1 = some y.2 ∧ y.1 < i + f
  | 0, i, y, h => by simp [seqN] at h
  | f + 1, i, y, h => by
    cases hr : runTo x n s plan i with
    | none => rw [seqN_none hr] at h; simp at h
    | some t =>
      rw [seqN_some hr] at h
      rcases List.mem_cons.1 h with rfl | h
      · exact ⟨hr, by show i < _; omega⟩
      · obtain ⟨h1, h2⟩ := seqN_run h
        exact ⟨h1, by omega⟩

/-- How many elements of l are in s. -/
def cntB (l s : List Int) : Nat := (l.filter (fun a => decide (a ∈ s))).length
theorem cnt_am {g s : List Int} (hg : IsS g 24) : cntB g s ≤ 1 ↔ AM s g := by
  unfold cntB
  rw [len1 (hg.1.sublist List.filter_sublist)]
  simp only [List.mem_filter, decide_eq_true_eq]
  constructor
  · intro h a b h1 h2 h3 h4; exact h a ⟨h2, h1⟩ b ⟨h4, h3⟩
  · intro h a ha b hb; exact h a b ha.2 ha.1 hb.2 hb.1
theorem cnt_take {l s : List Int} {k : Nat} (h : k < l.length) : cntB (l.take (k + 1)) s = cntB (l.take k) s + if ix l k ∈ s then 1 else 0 := by
  unfold cntB
  rw [take_succ_ix h, List.filter_append, List.length_append]
  congr 1
  by_cases hm : ix l k ∈ s <;> simp [hm]
theorem cnt_le (l s : List Int) : cntB l s ≤ l.length := List.length_filter_le _ _
set_option maxHeartbeats 1000000 in
theorem countIn_any (A B : Option Addr) (c d : Nat) (l s : List Int) (w : World) (hA : Nums w w.heap.size A l) (hB : Nums w w.heap.size B s) (hla : l.length ≤ 100) (hlb : s.length ≤ maxLen) :
    Calls Tryd.prog 44 #[.slice A l.length c, .slice B s.length d] w fun e w' => e = .returned (.int .i64 (cntB l s)) ∧ w = w' := by
  have HA := Lib.hid hA
  have HH := Lib.hid (fun y : Int => has_any B d s y w hB hlb)
  clear hA hB hlb
  go_enter Tryd.func44, Tryd.ntmps44
  go_wp2
  go_loop [5, 6] (fun v i => ∃ k : Nat, k ≤ l.length ∧ i = .int .i64 k ∧ v = .int .i64 (cntB (l.take k) s)) (fun _ i => l.length - (intOf i).toNat)
  case atStart => exact ⟨0, by omega, rfl, rfl⟩
  case round =>
    obtain ⟨k, hk, rfl, rfl⟩ := hrel
    by_cases hlt : k < l.length
    case neg =>
      have hge : ¬ ((k : Int) < l.length) := by omega
      go_wp2
      go_ret
      exact ⟨ret_int (by rw [List.take_of_length_le (by omega)]), rfl⟩
    obtain ⟨b, o, rfl, _, hc⟩ := HA.out.at_ hlt
    have HQ := Lib.hid (cnt_take (s := s) hlt)
    have hle := cnt_le (l.take k) s
    have hle2 : (l.take k).length ≤ k := by rw [List.length_take]; omega
    have HY := HH.out (ix l k)
    by_cases hm : ix l k ∈ s
    · rw [show hasB s (ix l k) = true from decide_eq_true hm] at HY
      go_wp2_with (go_at_call 42; (with_reducible refine HY.mono ?_); rintro e w' ⟨rfl, rfl⟩)
      go_round
      case rel => exact ⟨k + 1, by omega, by go_num, by rw [HQ.out, if_pos hm]; go_num⟩
      case measure => simp [intOf]; omega
    · rw [show hasB s (ix l k) = false from decide_eq_false hm] at HY
      go_wp2_with (go_at_call 42; (with_reducible refine HY.mono ?_); rintro e w' ⟨rfl, rfl⟩)
      go_round
      case rel => exact ⟨k + 1, by omega, by go_num, by rw [HQ.out, if_neg hm]; rfl⟩
      case measure => simp [intOf]; omega
end Go.Proofs.YtiaobanloakplaaDoor
end

/- The reference's Preserved. -/
section
namespace Go.Proofs.YtiaobanloakplaaDoor
open Go.RowKit
set_option linter.unusedSimpArgs false
set_option linter.unusedVariables false
set_option maxRecDepth 100000

theorem am_symm {p g : List Int} : AM p g ↔ AM g p := ⟨fun h a b h1 h2 h3 h4 => h a b h2 h1 h4 h3, fun h a b h1 h2 h3 h4 => h a b h2 h1 h4 h3⟩
theorem cnt_pos {l s : List Int} {a : Int} (h1 : a ∈ l) (h2 : a ∈ s) : 1 ≤ cntB l s := List.length_pos_of_mem (List.mem_filter.2 ⟨h1, decide_eq_true h2⟩)
theorem cnt_ex {l s : List Int} (h : 1 ≤ cntB l s) : ∃ a, a ∈ l ∧ a ∈ s := by
  obtain ⟨a, ha⟩ := List.exists_mem_of_length_pos (show 0 < (l.filter (fun a => decide (a ∈ s))).length from h)
  exact ⟨a, (List.mem_filter.1 ha).1, of_decide_eq_true (List.mem_filter.1 ha).2⟩
/-- The facts that are true before try m; whether the operator can be applied then; how many are true behind it. -/
def trS (g : List Int) (m : Nat) : List Int := if m = 0 then [] else [ix g (m - 1)]
def trC (o : Opr) (g s : List Int) (k : Nat) : Bool := (List.range k).all (fun j => !hasB g (ix o.pre j) || hasB s (ix o.pre j))
def trX (o : Opr) (g : List Int) (m : Nat) : Bool := decide (m ≠ 0) && !hasB o.add (ix g (m - 1)) && !hasB o.del (ix g (m - 1))
def trN (o : Opr) (g : List Int) (m : Nat) : Nat := cntB o.add g + if trX o g m then 1 else 0
def trB (o : Opr) (g : List Int) (m : Nat) : Bool := trC o g (trS g m) o.pre.length && decide (1 < trN o g m)
def prB (o : Opr) (g : List Int) : Bool := !(List.range (g.length + 1)).any (trB o g)
theorem trC_iff {o : Opr} {g s : List Int} : trC o g s o.pre.length = true ↔ ∀ q ∈ o.pre, q ∈ g → q ∈ s := by
  unfold trC
  rw [List.all_eq_true]
  constructor
  · intro h q hq hg
    obtain ⟨j, hj, rfl⟩ := mem_ix hq
    have := h j (by simpa using hj)
    simp [hasB, hg] at this
    exact this
  · intro h j hj
    have hj' : j < o.pre.length := by simpa using hj
    have h1 := h _ (ix_mem hj')
    by_cases hg : ix o.pre j ∈ g
    · simp [hasB, hg, h1 hg]
    · simp [hasB, hg]
theorem trX_iff {o : Opr} {g : List Int} {m : Nat} : trX o g m = true ↔ m ≠ 0 ∧ ix g (m - 1) ∉ o.add ∧ ix g (m - 1) ∉ o.del := by
  unfold trX hasB
  simp [and_assoc]
theorem prB_brk {o : Opr} {g : List Int} (ho : OpS o 24) (hg : IsS g 24) : prB o g = !brkB o g := by
  have hcnt : cntB o.add g ≤ 1 ↔ AM o.add g := by rw [cnt_am (show IsS o.add 24 from ho.add), am_symm]
  rw [Bool.eq_iff_iff, Bool.not_eq_true', brk_false ho hg]
  unfold prB
  rw [Bool.not_eq_true', List.any_eq_false]
  constructor
  · intro h hp
    have hb : ∀ m, m ≤ g.length → (∀ q ∈ o.pre, q ∈ g → q ∈ trS g m) → trN o g m ≤ 1 := by
      intro m hm hc
      have := h m (by simp; omega)
      unfold trB at this
      rw [trC_iff.2 hc] at this
      simp at this
      exact this
    have hone : ∀ r, r ∈ g → (∀ q ∈ o.pre, q ∈ g → q = r) → cntB o.add g ≤ 1 ∧ (r ∉ o.add → r ∉ o.del → cntB o.add g = 0) := by
      intro r hr hq
      obtain ⟨i, hi, e⟩ := mem_ix hr
      have h1 := hb (i + 1) (by omega) (fun q h1 h2 => by unfold trS; rw [if_neg (by omega)]; simp [hq q h1 h2, e])
      unfold trN at h1
      refine ⟨by omega, fun h2 h3 => ?_⟩
      rw [if_pos (trX_iff.2 ⟨by omega, by rw [Nat.add_sub_cancel, e]; exact h2, by rw [Nat.add_sub_cancel, e]; exact h3⟩)] at h1
      omega
    by_cases hn : ∀ q ∈ o.pre, q ∉ g
    · have h0 := hb 0 (by omega) (fun q h1 h2 => absurd h2 (hn q h1))
      unfold trN at h0
      refine ⟨hcnt.1 (by omega), fun a a1 a2 r hr hd => ?_⟩
      have hrg := ((mem_bfL (show IsS o.pre 24 from ho.pre)).1 hr).1
      have h1 := hone r hrg (fun q h1 h2 => absurd h2 (hn q h1))
      by_cases hra : r ∈ o.add
      · exact hra
      · have := h1.2 hra hd
        have := cnt_pos a1 a2
        omega
    · simp only [Classical.not_forall, not_imp, Classical.not_not] at hn
      obtain ⟨q, q1, q2⟩ := hn
      have h1 := hone q q2 (fun q' h1 h2 => hp q' q h1 h2 q1 q2)
      refine ⟨hcnt.1 h1.1, fun a a1 a2 r hr hd => ?_⟩
      obtain ⟨hrg, hrp⟩ := (mem_bfL (show IsS o.pre 24 from ho.pre)).1 hr
      have hrq : r = q := by
        rcases hrp with h2 | h2
        · exact absurd q2 (h2 q q1)
        · exact hp r q h2 hrg q1 q2
      by_cases hra : r ∈ o.add
      · exact hra
      · have := h1.2 (by rw [← hrq]; exact hra) (by rw [← hrq]; exact hd)
        have := cnt_pos a1 a2
        omega
  · intro h m hm
    have hm' : m ≤ g.length := by simp at hm; omega
    unfold trB
    cases hc : trC o g (trS g m) o.pre.length
    · simp
    · simp only [Bool.true_and, decide_eq_true_eq, Nat.not_lt]
      have hc' := trC_iff.1 hc
      have hp : AM o.pre g := by
        intro a b h1 h2 h3 h4
        have ha := hc' a h1 h2
        have hb := hc' b h3 h4
        unfold trS at ha hb
        by_cases h0 : m = 0
        · rw [if_pos h0] at ha; simp at ha
        · rw [if_neg h0] at ha hb
          rw [List.mem_singleton.1 ha, List.mem_singleton.1 hb]
      obtain ⟨k1, k2⟩ := h hp
      have h1 := hcnt.2 k1
      unfold trN
      by_cases hx : trX o g m = true
      · rw [if_pos hx]
        obtain ⟨m0, x1, x2⟩ := trX_iff.1 hx
        have hlt : m - 1 < g.length := by omega
        have h0 : cntB o.add g = 0 := by
          rcases Nat.lt_or_ge 0 (cntB o.add g) with h2 | h2
          · exfalso
            obtain ⟨a, a1, a2⟩ := cnt_ex h2
            apply x1
            refine k2 a a1 a2 _ ?_ x2
            rw [mem_bfL (show IsS o.pre 24 from ho.pre)]
            refine ⟨ix_mem hlt, ?_⟩
            by_cases hn : ∀ q ∈ o.pre, q ∉ g
            · exact .inl hn
            · right
              simp only [Classical.not_forall, not_imp, Classical.not_not] at hn
              obtain ⟨q, q1, q2⟩ := hn
              have := hc' q q1 q2
              unfold trS at this
              rw [if_neg m0] at this
              rw [← List.mem_singleton.1 this]
              exact q1
          · omega
        omega
      · rw [if_neg hx]; omega
end Go.Proofs.YtiaobanloakplaaDoor
end

/- The reference's Preserved and Group: walks. -/
section
namespace Go.Proofs.YtiaobanloakplaaDoor
open Go.RowKit
set_option linter.unusedSimpArgs false
set_option linter.unusedVariables false
set_option maxRecDepth 100000

def ivl : Nat → Int
  | 0 => -1
  | m + 1 => m
theorem trC_succ (o : Opr) (g s : List Int) (k : Nat) : trC o g s (k + 1) = (trC o g s k && (!hasB g (ix o.pre k) || hasB s (ix o.pre k))) := by
  unfold trC
  rw [List.range_succ, List.all_append]
  simp
theorem has_nil (y : Int) (w : World) : Calls Tryd.prog 42 #[.slice none 0 0, .int .i64 y] w fun e w' => e = .returned (.bool (hasB [] y)) ∧ w = w' :=
  has_any none 0 [] y w (nums_nil _ _ _) (by simp [maxLen])
theorem has_one (y z : Int) (w w' : World) (h : Below (w.heap.size + 1) (w.alloc (.cells #[.int .i64 z] 3)) w') : Calls Tryd.prog 42 #[.slice (some ⟨w.heap.size, 0, none⟩) 1 1, .int .i64 y] w' fun e w2 => e = .returned (.bool (hasB [z] y)) ∧ w' = w2 := by
  have hl : Nums (w.alloc (.cells #[.int .i64 z] 3)) (w.heap.size + 1) (some ⟨w.heap.size, 0, none⟩) [z] := by
    intro _
    refine ⟨w.heap.size, 0, rfl, by omega, fun k hk => ?_⟩
    have : k = 0 := by simpa using hk
    subst this
    simp [ix]
  have := h.size
  exact has_any (some ⟨w.heap.size, 0, none⟩) 1 [z] y w' (hl.to h (by simp at this; omega)) (by simp [maxLen])
set_option maxHeartbeats 8000000 in
theorem preserved_any (o : Opr) (g : List Int) (a1 a2 a3 A : Option Addr) (c1 c2 c3 c : Nat) (w : World) (hO : OpS o 24) (hg : IsS g 24) (hV : OpV w w.heap.size o a1 a2 a3 c1 c2 c3) (hG : Lst w w.heap.size A c g) :
    Calls Tryd.prog 69 #[.agg #[.slice a1 o.pre.length c1, .slice a2 o.add.length c2, .slice a3 o.del.length c3, .int .i64 o.cost], .slice A g.length c] w fun e w' => e = .returned (.bool (prB o g)) ∧ Below w.heap.size w w' := by
  have hb1 : Below w.heap.size w (w.alloc (.cells #[.slice a1 o.pre.length c1, .slice a2 o.add.length c2, .slice a3 o.del.length c3, .int .i64 o.cost] 79)) := by go_grown
  have HX := Lib.hid (fun (W : World) (h : Below (w.heap.size + 1) (w.alloc (.cells #[.slice a1 o.pre.length c1, .slice a2 o.add.length c2, .slice a3 o.del.length c3, .int .i64 o.cost] 79)) W) => (⟨(h.cell (p := ⟨w.heap.size, 0, none⟩) (by show w.heap.size < _; omega)).trans (by simp), (h.cell (p := ⟨w.heap.size, 1, none⟩) (by show w.heap.size < _; omega)).trans (by simp), (h.cell (p := ⟨w.heap.size, 2, none⟩) (by show w.heap.size < _; omega)).trans (by simp)⟩ : W.cell? ⟨w.heap.size, 0, none⟩ = some (.slice a1 o.pre.length c1) ∧ W.cell? ⟨w.heap.size, 1, none⟩ = some (.slice a2 o.add.length c2) ∧ W.cell? ⟨w.heap.size, 2, none⟩ = some (.slice a3 o.del.length c3)))
  have HBW := Lib.hid (fun (W : World) (h : Below (w.heap.size + 1) (w.alloc (.cells #[.slice a1 o.pre.length c1, .slice a2 o.add.length c2, .slice a3 o.del.length c3, .int .i64 o.cost] 79)) W) => hb1.trans (h.mono (by omega)))
  have HV := Lib.hid (fun (W : World) (h : Below w.heap.size w W) => hV.to h h.size)
  have HG := Lib.hid (fun (W : World) (h : Below w.heap.size w W) => hG.to h h.size)
  have hlg : g.length ≤ 24 := isS_len (n := 24) hg
  have hlp : o.pre.length ≤ 24 := isS_len (n := 24) (show IsS o.pre 24 from hO.pre)
  have hla : o.add.length ≤ 24 := isS_len (n := 24) (show IsS o.add 24 from hO.add)
  have hcl := cnt_le o.add g
  clear hV hG hO hg hb1
  go_enter Tryd.func69, Tryd.ntmps69
  go_wp2
  go_loopw [5] (fun i wr => ∃ m : Nat, m ≤ g.length + 1 ∧ i = .int .i64 (ivl m) ∧ Below (w.heap.size + 1) (w.alloc (.cells #[.slice a1 o.pre.length c1, .slice a2 o.add.length c2, .slice a3 o.del.length c3, .int .i64 o.cost] 79)) wr ∧ ∀ j, j < m → trB o g j = false) (fun i _ => ((g.length : Int) - intOf i).toNat)
  case atStart => exact ⟨0, by omega, rfl, Below.refl _ _, by omega⟩
  case round =>
    obtain ⟨m, hm, rfl, hbw, hj⟩ := hrel
    have HJ := Lib.hid hj
    have HB := Lib.hid hbw
    clear hj hbw
    rename World => wo
    by_cases hlt : m ≤ g.length
    case neg =>
      obtain rfl : m = g.length + 1 := by omega
      have hiv : ivl (g.length + 1) = (g.length : Int) := rfl
      have hge : ¬ ((g.length : Int) < g.length) := by omega
      have H := Lib.hid (show prB o g = true by
        unfold prB
        rw [Bool.not_eq_true', List.any_eq_false]
        intro j hj
        rw [HJ.out j (by simpa using hj)]; simp)
      rw [hiv]
      go_wp2
      go_ret
      exact ⟨by rw [H.out]; rfl, HBW.out _ HB.out⟩
    cases m with
    | zero =>
      have hiv : ivl 0 = -1 := rfl
      rw [hiv]
      have hge0 : ((-1 : Int) < g.length) := by omega
      go_wp2
      have HB2 := Lib.hid HB.out
      have HSS := Lib.hid (fun y : Int => has_nil y wo)
      have hgg := HG.out _ (HBW.out _ HB2.out)
      have hvv := HV.out _ (HBW.out _ HB2.out)
      have HGG := Lib.hid (fun y : Int => has_any A c g y wo hgg.nums hgg.len)
      have HCN := Lib.hid (countIn_any a2 A c2 c o.add g wo hvv.add.nums hgg.nums (by omega) hgg.len)
      obtain ⟨x0, x1, x2⟩ := HX.out _ HB2.out
      clear hgg
      have HPR := Lib.hid hvv.pre
      go_loop [7, 8] (fun cv kv => ∃ k : Nat, k ≤ o.pre.length ∧ kv = .int .i64 k ∧ cv = .bool (trC o g [] k)) (fun _ kv => o.pre.length - (intOf kv).toNat)
      case atStart => exact ⟨0, by omega, rfl, rfl⟩
      case round =>
        obtain ⟨k, hk, rfl, rfl⟩ := hrel
        by_cases hkl : k < o.pre.length
        · obtain ⟨b, p, rfl, _, hcp⟩ := HPR.out.nums.at_ hkl
          have HT := Lib.hid (trC_succ o g [] k)
          have HG1 := HGG.out (ix o.pre k)
          have HS1 := HSS.out (ix o.pre k)
          cases h1 : hasB g (ix o.pre k)
          · rw [h1] at HG1
            go_wp2_with (go_at_call 42; (with_reducible refine HG1.mono ?_); rintro e w' ⟨rfl, rfl⟩)
            go_round
            case rel => exact ⟨k + 1, by omega, by go_num, by rw [HT.out, h1]; simp⟩
            case measure => simp [intOf]; omega
          · rw [h1] at HG1
            cases h2 : hasB [] (ix o.pre k)
            · rw [h2] at HS1
              go_wp2_with (first | (go_at_call 42; (with_reducible refine HG1.mono ?_); rintro e w' ⟨rfl, rfl⟩) | (go_at_call 42; (with_reducible refine HS1.mono ?_); rintro e w' ⟨rfl, rfl⟩))
              go_round
              case rel => exact ⟨k + 1, by omega, by go_num, by rw [HT.out, h1, h2]; simp⟩
              case measure => simp [intOf]; omega
            · rw [h2] at HS1
              go_wp2_with (first | (go_at_call 42; (with_reducible refine HG1.mono ?_); rintro e w' ⟨rfl, rfl⟩) | (go_at_call 42; (with_reducible refine HS1.mono ?_); rintro e w' ⟨rfl, rfl⟩))
              go_round
              case rel => exact ⟨k + 1, by omega, by go_num, by rw [HT.out, h1, h2]; simp⟩
              case measure => simp [intOf]; omega
        have hke : k = o.pre.length := by omega
        have hge : ¬ ((k : Int) < o.pre.length) := by omega
        have hcv : trC o g [] k = trC o g [] o.pre.length := by rw [hke]
        rw [hcv]
        clear hke hcv
        have hx : trX o g 0 = false := by simp [trX]
        have HN := Lib.hid (show trN o g 0 = cntB o.add g by unfold trN; rw [if_neg (by simp [hx])]; rfl)
        generalize cntB o.add g = cn at *
        cases hc : trC o g [] o.pre.length
        · have HF := Lib.hid (show trB o g 0 = false by unfold trB; rw [show trS g 0 = [] from rfl, hc]; rfl)
          go_wp2_with (go_at_call 44; (with_reducible refine HCN.out.mono ?_); rintro e w' ⟨rfl, rfl⟩)
          go_quiet (first | fail)
          go_wp2
          go_roundw
          case rel => exact ⟨0 + 1, by omega, (by first | rfl | (simp [ivl]; done) | go_num), belowN HB2.out _, all_stepF HJ.out HF.out⟩
          case measure => (first | (simp [intOf, ivl]; done) | (simp [intOf, ivl]; omega))
        · by_cases hn : 1 < cn
          · have HF := Lib.hid (show prB o g = false by
              unfold prB
              rw [Bool.not_eq_false', List.any_eq_true]
              exact ⟨0, (by first | (simp; done) | (simp; omega)), by unfold trB; rw [show trS g 0 = [] from rfl, hc, HN.out, decide_eq_true hn]; rfl⟩)
            have d1 : decide ((1 : Int) < (cn : Int)) = true := decide_eq_true (by omega)
            go_wp2_with (go_at_call 44; (with_reducible refine HCN.out.mono ?_); rintro e w' ⟨rfl, rfl⟩)
            go_quiet (first | fail)
            go_wp2
            go_ret
            exact ⟨by rw [HF.out]; rfl, belowN (HBW.out _ HB2.out) _⟩
          · have HF := Lib.hid (show trB o g 0 = false by unfold trB; rw [HN.out, decide_eq_false hn]; simp)
            have d1 : decide ((1 : Int) < (cn : Int)) = false := decide_eq_false (by omega)
            go_wp2_with (go_at_call 44; (with_reducible refine HCN.out.mono ?_); rintro e w' ⟨rfl, rfl⟩)
            go_quiet (first | fail)
            go_wp2
            go_roundw
            case rel => exact ⟨0 + 1, by omega, (by first | rfl | (simp [ivl]; done) | go_num), belowN HB2.out _, all_stepF HJ.out HF.out⟩
            case measure => (first | (simp [intOf, ivl]; done) | (simp [intOf, ivl]; omega))
    | succ m =>
      have hiv : ivl (m + 1) = (m : Int) := rfl
      rw [hiv]
      have hmm : m < g.length := by omega
      have hge0 : ((m : Int) < g.length) := by omega
      obtain ⟨bg, og, rfl, _, hcg⟩ := (HG.out _ (HBW.out _ HB.out)).nums.at_ hmm
      go_wp2
      generalize hW2 : wo.alloc (.cells #[.int .i64 (ix g m)] 3) = W2
      have HB2 := Lib.hid (show Below (w.heap.size + 1) (w.alloc (.cells #[.slice a1 o.pre.length c1, .slice a2 o.add.length c2, .slice a3 o.del.length c3, .int .i64 o.cost] 79)) W2 by rw [← hW2]; exact HB.out.alloc (by have := HB.out.size; simp at this; omega) _)
      have HSS := Lib.hid (fun y : Int => has_one y (ix g m) wo W2 (by rw [← hW2]; exact Below.refl _ _))
      clear hW2
      have hgg := HG.out _ (HBW.out _ HB2.out)
      have hvv := HV.out _ (HBW.out _ HB2.out)
      have HGG := Lib.hid (fun y : Int => has_any (some ⟨bg, og, none⟩) c g y W2 hgg.nums hgg.len)
      have HCN := Lib.hid (countIn_any a2 (some ⟨bg, og, none⟩) c2 c o.add g W2 hvv.add.nums hgg.nums (by omega) hgg.len)
      obtain ⟨x0, x1, x2⟩ := HX.out _ HB2.out
      clear hgg
      have HPR := Lib.hid hvv.pre
      go_loop [7, 8] (fun cv kv => ∃ k : Nat, k ≤ o.pre.length ∧ kv = .int .i64 k ∧ cv = .bool (trC o g [ix g m] k)) (fun _ kv => o.pre.length - (intOf kv).toNat)
      case atStart => exact ⟨0, by omega, rfl, rfl⟩
      case round =>
        obtain ⟨k, hk, rfl, rfl⟩ := hrel
        by_cases hkl : k < o.pre.length
        · obtain ⟨b, p, rfl, _, hcp⟩ := HPR.out.nums.at_ hkl
          have HT := Lib.hid (trC_succ o g [ix g m] k)
          have HG1 := HGG.out (ix o.pre k)
          have HS1 := HSS.out (ix o.pre k)
          cases h1 : hasB g (ix o.pre k)
          · rw [h1] at HG1
            go_wp2_with (go_at_call 42; (with_reducible refine HG1.mono ?_); rintro e w' ⟨rfl, rfl⟩)
            go_round
            case rel => exact ⟨k + 1, by omega, by go_num, by rw [HT.out, h1]; simp⟩
            case measure => simp [intOf]; omega
          · rw [h1] at HG1
            cases h2 : hasB [ix g m] (ix o.pre k)
            · rw [h2] at HS1
              go_wp2_with (first | (go_at_call 42; (with_reducible refine HG1.mono ?_); rintro e w' ⟨rfl, rfl⟩) | (go_at_call 42; (with_reducible refine HS1.mono ?_); rintro e w' ⟨rfl, rfl⟩))
              go_round
              case rel => exact ⟨k + 1, by omega, by go_num, by rw [HT.out, h1, h2]; simp⟩
              case measure => simp [intOf]; omega
            · rw [h2] at HS1
              go_wp2_with (first | (go_at_call 42; (with_reducible refine HG1.mono ?_); rintro e w' ⟨rfl, rfl⟩) | (go_at_call 42; (with_reducible refine HS1.mono ?_); rintro e w' ⟨rfl, rfl⟩))
              go_round
              case rel => exact ⟨k + 1, by omega, by go_num, by rw [HT.out, h1, h2]; simp⟩
              case measure => simp [intOf]; omega
        have hke : k = o.pre.length := by omega
        have hge : ¬ ((k : Int) < o.pre.length) := by omega
        have hcv : trC o g [ix g m] k = trC o g [ix g m] o.pre.length := by rw [hke]
        rw [hcv]
        clear hke hcv
        have hmm : m < g.length := by omega
        have HA1 := Lib.hid (fun n : Nat => has_any a2 c2 o.add (ix g m) (W2.drewN n) (hvv.add.to (belowN (Below.refl W2.heap.size W2) n) (belowN (Below.refl W2.heap.size W2) n).size).nums hvv.add.len)
        have HD1 := Lib.hid (fun n : Nat => has_any a3 c3 o.del (ix g m) (W2.drewN n) (hvv.del.to (belowN (Below.refl W2.heap.size W2) n) (belowN (Below.refl W2.heap.size W2) n).size).nums hvv.del.len)
        have hgg := HG.out _ (HBW.out _ HB2.out)
        obtain ⟨bg', og', hAg, _, hcg⟩ := hgg.nums.at_ hmm
        clear hgg hvv
        cases hAg
        cases h1 : hasB o.add (ix g m)
        · cases h2 : hasB o.del (ix g m)
          · have hx : trX o g (m + 1) = true := by simp [trX, h1, h2]
            rw [h1] at HA1
            rw [h2] at HD1
            have HN := Lib.hid (show trN o g (m + 1) = cntB o.add g + 1 by unfold trN; rw [if_pos hx])
            generalize cntB o.add g = cn at *
            cases hc : trC o g [ix g m] o.pre.length
            · have HF := Lib.hid (show trB o g (m + 1) = false by unfold trB; rw [show trS g (m + 1) = [ix g m] from rfl, hc]; rfl)
              go_wp2_with (go_at_call 44; (with_reducible refine HCN.out.mono ?_); rintro e w' ⟨rfl, rfl⟩)
              go_quiet (first | (go_at_call 42; (with_reducible refine quiet_same (HA1.out _))) | (go_at_call 42; (with_reducible refine quiet_same (HD1.out _))))
              go_wp2
              go_roundw
              case rel => exact ⟨(m + 1) + 1, by omega, (by first | rfl | (simp [ivl]; done) | go_num), belowN HB2.out _, all_stepF HJ.out HF.out⟩
              case measure => (first | (simp [intOf, ivl]; done) | (simp [intOf, ivl]; omega))
            · by_cases hn : 1 < cn + 1
              · have HF := Lib.hid (show prB o g = false by
                  unfold prB
                  rw [Bool.not_eq_false', List.any_eq_true]
                  exact ⟨(m + 1), (by first | (simp; done) | (simp; omega)), by unfold trB; rw [show trS g (m + 1) = [ix g m] from rfl, hc, HN.out, decide_eq_true hn]; rfl⟩)
                have d1 : decide ((1 : Int) < (cn : Int) + 1) = true := decide_eq_true (by omega)
                go_wp2_with (go_at_call 44; (with_reducible refine HCN.out.mono ?_); rintro e w' ⟨rfl, rfl⟩)
                go_quiet (first | (go_at_call 42; (with_reducible refine quiet_same (HA1.out _))) | (go_at_call 42; (with_reducible refine quiet_same (HD1.out _))))
                go_wp2
                go_ret
                exact ⟨by rw [HF.out]; rfl, belowN (HBW.out _ HB2.out) _⟩
              · have HF := Lib.hid (show trB o g (m + 1) = false by unfold trB; rw [HN.out, decide_eq_false hn]; simp)
                have d1 : decide ((1 : Int) < (cn : Int) + 1) = false := decide_eq_false (by omega)
                go_wp2_with (go_at_call 44; (with_reducible refine HCN.out.mono ?_); rintro e w' ⟨rfl, rfl⟩)
                go_quiet (first | (go_at_call 42; (with_reducible refine quiet_same (HA1.out _))) | (go_at_call 42; (with_reducible refine quiet_same (HD1.out _))))
                go_wp2
                go_roundw
                case rel => exact ⟨(m + 1) + 1, by omega, (by first | rfl | (simp [ivl]; done) | go_num), belowN HB2.out _, all_stepF HJ.out HF.out⟩
                case measure => (first | (simp [intOf, ivl]; done) | (simp [intOf, ivl]; omega))
          · have hx : trX o g (m + 1) = false := by simp [trX, h1, h2]
            rw [h1] at HA1
            rw [h2] at HD1
            have HN := Lib.hid (show trN o g (m + 1) = cntB o.add g by unfold trN; rw [if_neg (by simp [hx])]; rfl)
            generalize cntB o.add g = cn at *
            cases hc : trC o g [ix g m] o.pre.length
            · have HF := Lib.hid (show trB o g (m + 1) = false by unfold trB; rw [show trS g (m + 1) = [ix g m] from rfl, hc]; rfl)
              go_wp2_with (go_at_call 44; (with_reducible refine HCN.out.mono ?_); rintro e w' ⟨rfl, rfl⟩)
              go_quiet (first | (go_at_call 42; (with_reducible refine quiet_same (HA1.out _))) | (go_at_call 42; (with_reducible refine quiet_same (HD1.out _))))
              go_wp2
              go_roundw
              case rel => exact ⟨(m + 1) + 1, by omega, (by first | rfl | (simp [ivl]; done) | go_num), belowN HB2.out _, all_stepF HJ.out HF.out⟩
              case measure => (first | (simp [intOf, ivl]; done) | (simp [intOf, ivl]; omega))
            · by_cases hn : 1 < cn
              · have HF := Lib.hid (show prB o g = false by
                  unfold prB
                  rw [Bool.not_eq_false', List.any_eq_true]
                  exact ⟨(m + 1), (by first | (simp; done) | (simp; omega)), by unfold trB; rw [show trS g (m + 1) = [ix g m] from rfl, hc, HN.out, decide_eq_true hn]; rfl⟩)
                have d1 : decide ((1 : Int) < (cn : Int)) = true := decide_eq_true (by omega)
                go_wp2_with (go_at_call 44; (with_reducible refine HCN.out.mono ?_); rintro e w' ⟨rfl, rfl⟩)
                go_quiet (first | (go_at_call 42; (with_reducible refine quiet_same (HA1.out _))) | (go_at_call 42; (with_reducible refine quiet_same (HD1.out _))))
                go_wp2
                go_ret
                exact ⟨by rw [HF.out]; rfl, belowN (HBW.out _ HB2.out) _⟩
              · have HF := Lib.hid (show trB o g (m + 1) = false by unfold trB; rw [HN.out, decide_eq_false hn]; simp)
                have d1 : decide ((1 : Int) < (cn : Int)) = false := decide_eq_false (by omega)
                go_wp2_with (go_at_call 44; (with_reducible refine HCN.out.mono ?_); rintro e w' ⟨rfl, rfl⟩)
                go_quiet (first | (go_at_call 42; (with_reducible refine quiet_same (HA1.out _))) | (go_at_call 42; (with_reducible refine quiet_same (HD1.out _))))
                go_wp2
                go_roundw
                case rel => exact ⟨(m + 1) + 1, by omega, (by first | rfl | (simp [ivl]; done) | go_num), belowN HB2.out _, all_stepF HJ.out HF.out⟩
                case measure => (first | (simp [intOf, ivl]; done) | (simp [intOf, ivl]; omega))
        · have hx : trX o g (m + 1) = false := by simp [trX, h1]
          rw [h1] at HA1
          have HN := Lib.hid (show trN o g (m + 1) = cntB o.add g by unfold trN; rw [if_neg (by simp [hx])]; rfl)
          generalize cntB o.add g = cn at *
          cases hc : trC o g [ix g m] o.pre.length
          · have HF := Lib.hid (show trB o g (m + 1) = false by unfold trB; rw [show trS g (m + 1) = [ix g m] from rfl, hc]; rfl)
            go_wp2_with (go_at_call 44; (with_reducible refine HCN.out.mono ?_); rintro e w' ⟨rfl, rfl⟩)
            go_quiet (first | (go_at_call 42; (with_reducible refine quiet_same (HA1.out _))) | (go_at_call 42; (with_reducible refine quiet_same (HD1.out _))))
            go_wp2
            go_roundw
            case rel => exact ⟨(m + 1) + 1, by omega, (by first | rfl | (simp [ivl]; done) | go_num), belowN HB2.out _, all_stepF HJ.out HF.out⟩
            case measure => (first | (simp [intOf, ivl]; done) | (simp [intOf, ivl]; omega))
          · by_cases hn : 1 < cn
            · have HF := Lib.hid (show prB o g = false by
                unfold prB
                rw [Bool.not_eq_false', List.any_eq_true]
                exact ⟨(m + 1), (by first | (simp; done) | (simp; omega)), by unfold trB; rw [show trS g (m + 1) = [ix g m] from rfl, hc, HN.out, decide_eq_true hn]; rfl⟩)
              have d1 : decide ((1 : Int) < (cn : Int)) = true := decide_eq_true (by omega)
              go_wp2_with (go_at_call 44; (with_reducible refine HCN.out.mono ?_); rintro e w' ⟨rfl, rfl⟩)
              go_quiet (first | (go_at_call 42; (with_reducible refine quiet_same (HA1.out _))) | (go_at_call 42; (with_reducible refine quiet_same (HD1.out _))))
              go_wp2
              go_ret
              exact ⟨by rw [HF.out]; rfl, belowN (HBW.out _ HB2.out) _⟩
            · have HF := Lib.hid (show trB o g (m + 1) = false by unfold trB; rw [HN.out, decide_eq_false hn]; simp)
              have d1 : decide ((1 : Int) < (cn : Int)) = false := decide_eq_false (by omega)
              go_wp2_with (go_at_call 44; (with_reducible refine HCN.out.mono ?_); rintro e w' ⟨rfl, rfl⟩)
              go_quiet (first | (go_at_call 42; (with_reducible refine quiet_same (HA1.out _))) | (go_at_call 42; (with_reducible refine quiet_same (HD1.out _))))
              go_wp2
              go_roundw
              case rel => exact ⟨(m + 1) + 1, by omega, (by first | rfl | (simp [ivl]; done) | go_num), belowN HB2.out _, all_stepF HJ.out HF.out⟩
              case measure => (first | (simp [intOf, ivl]; done) | (simp [intOf, ivl]; omega))
end Go.Proofs.YtiaobanloakplaaDoor
end

/- The reference's Group. -/
section
namespace Go.Proofs.YtiaobanloakplaaDoor
open Go.RowKit
set_option linter.unusedSimpArgs false
set_option linter.unusedVariables false
set_option maxRecDepth 100000

theorem cnt_init {x : Tsk} {g : List Int} (hi : IsS x.init 24) (hg : IsS g 24) : cntB x.init g ≤ 1 ↔ (metL x.init g).length ≤ 1 := by
  rw [cnt_am hi, met_am hi, am_symm]
theorem indB_init {x : Tsk} {g : List Int} (hi : IsS x.init 24) (hg : IsS g 24) (h : 1 < cntB x.init g) : indB x g = false := by
  unfold indB
  rw [decide_eq_false (fun h2 => by have := (cnt_init hi hg).2 h2; omega)]
  rfl
theorem indB_op {x : Tsk} {g : List Int} {k : Nat} (hk : k < x.ops.length) (h : brkB (opr x.ops k) g = true) : indB x g = false := by
  unfold indB
  rw [Bool.and_eq_false_iff]
  right
  rw [Bool.not_eq_false', List.any_eq_true]
  exact ⟨k, by simpa using hk, h⟩
theorem indB_all {x : Tsk} {g : List Int} (hi : IsS x.init 24) (hg : IsS g 24) (h : cntB x.init g ≤ 1) (h2 : ∀ k, k < x.ops.length → brkB (opr x.ops k) g = false) : indB x g = true :=
  (indB_iff hi).2 ⟨(met_am hi).1 ((cnt_init hi hg).1 h), h2⟩
set_option maxHeartbeats 4000000 in
theorem group_any (x : Tsk) (A : Option Addr) (c : Nat) (g : List Int) (w : World) (hX : TskIn w w.heap.size x) (hI : IsS x.init 24) (hO : ∀ k, k < x.ops.length → OpS (opr x.ops k) 24) (hg : IsS g 24) (hG : Lst w w.heap.size A c g) :
    Calls Tryd.prog 36 #[.agg #[.int .i64 x.n, .slice x.ai x.init.length x.ci, .slice x.ag x.goal.length x.cg, .slice x.ao x.ops.length x.co], .slice A g.length c] w fun e w' => e = .returned (.bool (indB x g)) ∧ Below w.heap.size w w' := by
  have hb1 : Below w.heap.size w (w.alloc (.cells #[.int .i64 x.n, .slice x.ai x.init.length x.ci, .slice x.ag x.goal.length x.cg, .slice x.ao x.ops.length x.co] 25)) := by go_grown
  have hX1 := hX.to hb1 hb1.size
  have hG1 := hG.to hb1 hb1.size
  have HX := Lib.hid (fun (W : World) (h : Below (w.alloc (.cells #[.int .i64 x.n, .slice x.ai x.init.length x.ci, .slice x.ag x.goal.length x.cg, .slice x.ao x.ops.length x.co] 25)).heap.size (w.alloc (.cells #[.int .i64 x.n, .slice x.ai x.init.length x.ci, .slice x.ag x.goal.length x.cg, .slice x.ao x.ops.length x.co] 25)) W) => hX1.to h h.size)
  have HG := Lib.hid (fun (W : World) (h : Below (w.alloc (.cells #[.int .i64 x.n, .slice x.ai x.init.length x.ci, .slice x.ag x.goal.length x.cg, .slice x.ao x.ops.length x.co] 25)).heap.size (w.alloc (.cells #[.int .i64 x.n, .slice x.ai x.init.length x.ci, .slice x.ag x.goal.length x.cg, .slice x.ao x.ops.length x.co] 25)) W) => hG1.to h h.size)
  have hT := tbox_new w x 25
  have HT := Lib.hid (fun (W : World) (h : Below (w.alloc (.cells #[.int .i64 x.n, .slice x.ai x.init.length x.ci, .slice x.ag x.goal.length x.cg, .slice x.ao x.ops.length x.co] 25)).heap.size (w.alloc (.cells #[.int .i64 x.n, .slice x.ai x.init.length x.ci, .slice x.ag x.goal.length x.cg, .slice x.ao x.ops.length x.co] 25)) W) => hT.to h hT.lt)
  have HBW := Lib.hid (fun (W : World) (h : Below (w.alloc (.cells #[.int .i64 x.n, .slice x.ai x.init.length x.ci, .slice x.ag x.goal.length x.cg, .slice x.ao x.ops.length x.co] 25)).heap.size (w.alloc (.cells #[.int .i64 x.n, .slice x.ai x.init.length x.ci, .slice x.ag x.goal.length x.cg, .slice x.ao x.ops.length x.co] 25)) W) => hb1.trans (h.mono hb1.size))
  have hil : x.init.length ≤ 24 := isS_len (n := 24) hI
  have hol := hX.len
  unfold maxLen at hol
  have HCN := Lib.hid (countIn_any x.ai A x.ci c x.init g _ hX1.init.nums hG1.nums (by omega) hG1.len)
  have HI := Lib.hid hI
  have HO := Lib.hid hO
  have HS := Lib.hid hg
  clear hX hX1 hG hG1 hT hb1 hI hO hg
  by_cases hc : 1 < cntB x.init g
  · have H := Lib.hid (indB_init HI.out HS.out hc)
    have d1 : decide ((1 : Int) < (cntB x.init g : Int)) = true := decide_eq_true (by omega)
    generalize cntB x.init g = cn at *
    go_enter Tryd.func36, Tryd.ntmps36
    go_wp2_with (go_at_call 44; (with_reducible refine HCN.out.mono ?_); rintro e w' ⟨rfl, rfl⟩)
    go_ret
    exact ⟨by rw [H.out]; rfl, HBW.out _ (Below.refl _ _)⟩
  have d1 : decide ((1 : Int) < (cntB x.init g : Int)) = false := decide_eq_false (by omega)
  have HC := Lib.hid hc
  clear hc
  have HC2 := Lib.hid (show cntB x.init g ≤ 1 by have := HC.out; omega)
  have HGD := Lib.hid (fun h => indB_all HI.out HS.out HC2.out h)
  clear HC HC2
  generalize cntB x.init g = cn at *
  go_enter Tryd.func36, Tryd.ntmps36
  go_wp2_with (go_at_call 44; (with_reducible refine HCN.out.mono ?_); rintro e w' ⟨rfl, rfl⟩)
  go_loopw [5] (fun i wr => ∃ k : Nat, k ≤ x.ops.length ∧ i = .int .i64 k ∧ Below (w.alloc (.cells #[.int .i64 x.n, .slice x.ai x.init.length x.ci, .slice x.ag x.goal.length x.cg, .slice x.ao x.ops.length x.co] 25)).heap.size (w.alloc (.cells #[.int .i64 x.n, .slice x.ai x.init.length x.ci, .slice x.ag x.goal.length x.cg, .slice x.ao x.ops.length x.co] 25)) wr ∧ ∀ j, j < k → brkB (opr x.ops j) g = false) (fun i _ => x.ops.length - (intOf i).toNat)
  case atStart => exact ⟨0, by omega, rfl, Below.refl _ _, by omega⟩
  case round =>
    obtain ⟨k, hk, rfl, hbw, hj⟩ := hrel
    have HJ := Lib.hid hj
    have HB := Lib.hid hbw
    clear hj hbw
    obtain ⟨_, t0, t1, t2, t3⟩ := HT.out _ HB.out
    by_cases hlt : k < x.ops.length
    case neg =>
      have hge : ¬ ((k : Int) < x.ops.length) := by omega
      have H := Lib.hid (HGD.out (fun j hj => HJ.out j (by omega)))
      go_wp2
      go_ret
      exact ⟨by rw [H.out]; rfl, HBW.out _ HB.out⟩
    obtain ⟨b, p, a1, a2, a3, c1, c2, c3, hao, hbl, ⟨q0, q1, q2, q3⟩, hf⟩ := (HX.out _ HB.out).ops.at_ hlt
    have hpr := preserved_any (opr x.ops k) g a1 a2 a3 A c1 c2 c3 c wr (HO.out k hlt) HS.out hf (HG.out _ HB.out)
    rw [prB_brk (HO.out k hlt) HS.out] at hpr
    rw [hao] at t3
    clear hf hao
    cases hbk : brkB (opr x.ops k) g
    · rw [hbk] at hpr
      have HPR := Lib.hid hpr
      have HK := Lib.hid hbk
      clear hpr hbk
      go_wp2_with (go_at_call 69; (with_reducible refine HPR.out.mono ?_); rintro e w2 ⟨rfl, hb2⟩; have HB2 := Lib.hid (HB.out.trans (hb2.mono HB.out.size)); clear hb2)
      go_roundw
      case rel => exact ⟨k + 1, by omega, by go_num, HB2.out, all_stepF HJ.out HK.out⟩
      case measure => simp [intOf]; omega
    · rw [hbk] at hpr
      have HPR := Lib.hid hpr
      have H := Lib.hid (indB_op hlt hbk)
      clear hpr hbk
      go_wp2_with (go_at_call 69; (with_reducible refine HPR.out.mono ?_); rintro e w2 ⟨rfl, hb2⟩; have HB2 := Lib.hid (HB.out.trans (hb2.mono HB.out.size)); clear hb2)
      go_ret
      exact ⟨by rw [H.out]; rfl, HBW.out _ HB2.out⟩
end Go.Proofs.YtiaobanloakplaaDoor
end

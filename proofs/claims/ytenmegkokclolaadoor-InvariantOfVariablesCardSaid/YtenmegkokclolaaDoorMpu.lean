/- Strips of a multi-valued task: pure facts. -/
import Derived.Test.YtenmegkokclolaaDoorMzx
namespace Go.Proofs.YtenmegkokclolaaDoor
open Go.RowKit
set_option linter.unusedSimpArgs false
set_option linter.unusedVariables false
set_option maxRecDepth 100000

theorem smN_mono {S : List Int} (h : SzOk S) {a b : Nat} (hab : a < b) (hb : b ≤ S.length) : smN S a + ix S a ≤ smN S b := by
  induction b with
  | zero => omega
  | succ b ih =>
    have h1 := h.r b (by omega)
    have h2 : smN S (b + 1) = smN S b + ix S b := rfl
    by_cases e : a = b
    · subst e; omega
    · have := ih (by omega) (by omega); omega
/-- The numbers of facts are different. -/
theorem fct_inj {S : List Int} (h : SzOk S) {a b : Nat} {x y : Int} (ha : a < S.length) (hb : b < S.length) (hx : 0 ≤ x ∧ x < ix S a) (hy : 0 ≤ y ∧ y < ix S b) (e : smN S a + x = smN S b + y) : a = b ∧ x = y := by
  rcases Nat.lt_trichotomy a b with h1 | h1 | h1
  · have := smN_mono h h1 (by omega); omega
  · subst h1; exact ⟨rfl, by omega⟩
  · have := smN_mono h h1 (by omega); omega
theorem fct_lt {S : List Int} (h : SzOk S) {a b : Nat} {x y : Int} (hab : a < b) (hb : b < S.length) (hx : x < ix S a) (hy : 0 ≤ y) : smN S a + x < smN S b + y := by
  have := smN_mono h hab (by omega); omega
theorem fct_bd {S : List Int} (h : SzOk S) {a : Nat} {x : Int} (ha : a < S.length) (hx : 0 ≤ x ∧ x < ix S a) : 0 ≤ smN S a + x ∧ smN S a + x < smN S S.length := by
  have h1 := smN_le h a (by omega)
  have h2 := smN_mono h ha (Nat.le_refl _)
  omega
theorem vr_lt {S : List Int} {l : List Asg} (h : AsOk S l) {i j : Nat} (hij : i < j) (hj : j < l.length) : vr l i < vr l j := by
  induction j with
  | zero => omega
  | succ j ih =>
    have h1 := h.up j hj
    by_cases e : i = j
    · subst e; exact h1
    · have := ih (by omega) (by omega); omega
theorem asg_get {l : List Asg} {k : Nat} (h : k < l.length) : l[k] = asg l k := by simp [asg, List.getD, h]
theorem as_x {S : List Int} {l : List Asg} (h : AsOk S l) {k : Nat} (hk : k < l.length) : 0 ≤ (asg l k).x ∧ (asg l k).x < ix S (vr l k) := by have := h.x k hk; omega
theorem mem_gv {S : List Int} {l : List Asg} {y : Int} : y ∈ gvL S l ↔ ∃ k, k < l.length ∧ y = smN S (vr l k) + (asg l k).x := by
  unfold gvL
  rw [List.mem_map]
  constructor
  · rintro ⟨a, ha, rfl⟩
    obtain ⟨k, hk, rfl⟩ := mem_asg ha
    exact ⟨k, hk, rfl⟩
  · rintro ⟨k, hk, rfl⟩
    exact ⟨asg l k, asg_mem hk, rfl⟩
theorem mem_otA {S : List Int} {a : Asg} {y : Int} : y ∈ otA S a ↔ ∃ j : Nat, j < (ix S a.v.toNat).toNat ∧ (j : Int) ≠ a.x ∧ y = smN S a.v.toNat + j := by
  unfold otA ot1
  rw [List.mem_map]
  constructor
  · rintro ⟨j, hj, rfl⟩
    rw [List.mem_filter, List.mem_range, decide_eq_true_iff] at hj
    exact ⟨j, hj.1, hj.2, rfl⟩
  · rintro ⟨j, h1, h2, rfl⟩
    exact ⟨j, by rw [List.mem_filter, List.mem_range, decide_eq_true_iff]; exact ⟨h1, h2⟩, rfl⟩
theorem mem_ot {S : List Int} {l : List Asg} {y : Int} : y ∈ otL S l ↔ ∃ k, k < l.length ∧ ∃ j : Nat, j < (ix S (vr l k)).toNat ∧ (j : Int) ≠ (asg l k).x ∧ y = smN S (vr l k) + j := by
  unfold otL
  rw [List.mem_flatMap]
  constructor
  · rintro ⟨a, ha, hy⟩
    obtain ⟨k, hk, rfl⟩ := mem_asg ha
    exact ⟨k, hk, mem_otA.1 hy⟩
  · rintro ⟨k, hk, h⟩
    exact ⟨asg l k, asg_mem hk, mem_otA.2 h⟩
theorem mem_in {S s : List Int} {n : Nat} {y : Int} : y ∈ inN S s n ↔ ∃ v, v < n ∧ y = smN S v + ix s v := by
  unfold inN
  rw [List.mem_map]
  constructor
  · rintro ⟨v, hv, rfl⟩; exact ⟨v, List.mem_range.1 hv, rfl⟩
  · rintro ⟨v, hv, rfl⟩; exact ⟨v, List.mem_range.2 hv, rfl⟩
theorem pair_idx {α : Type} {R : α → α → Prop} {l : List α} (h : ∀ i j (hi : i < l.length) (hj : j < l.length), i < j → R l[i] l[j]) : l.Pairwise R := List.pairwise_iff_getElem.2 h
theorem isS_gv {S : List Int} (hz : SzOk S) {l : List Asg} (h : AsOk S l) : IsS (gvL S l) (smN S S.length) := by
  refine ⟨?_, fun y hy => ?_⟩
  · unfold gvL
    rw [List.pairwise_map]
    refine pair_idx fun i j hi hj hij => ?_
    rw [asg_get hi, asg_get hj]
    exact fct_lt hz (vr_lt h hij hj) (h.lt j hj) (as_x h hi).2 (as_x h hj).1
  · obtain ⟨k, hk, rfl⟩ := mem_gv.1 hy
    exact fct_bd hz (h.lt k hk) (as_x h hk)
theorem isS_ot {S : List Int} (hz : SzOk S) {l : List Asg} (h : AsOk S l) : IsS (otL S l) (smN S S.length) := by
  refine ⟨?_, fun y hy => ?_⟩
  · unfold otL
    rw [List.pairwise_flatMap]
    refine ⟨fun a _ => ?_, pair_idx fun i j hi hj hij => ?_⟩
    · unfold otA ot1
      rw [List.pairwise_map]
      refine List.Pairwise.imp ?_ (List.pairwise_lt_range.filter _)
      intro a b hab; omega
    · rw [asg_get hi, asg_get hj]
      intro y hy z hz'
      obtain ⟨p, hp, _, rfl⟩ := mem_otA.1 hy
      obtain ⟨q, hq, _, rfl⟩ := mem_otA.1 hz'
      exact fct_lt hz (vr_lt h hij hj) (h.lt j hj) (by show (p : Int) < ix S (vr l i); unfold vr; omega) (by omega)
  · obtain ⟨k, hk, j, hj, _, rfl⟩ := mem_ot.1 hy
    exact fct_bd hz (h.lt k hk) (by omega)
theorem isS_in {S s : List Int} (hz : SzOk S) (hs : msB S s = true) : IsS (inN S s S.length) (smN S S.length) := by
  have hb : ∀ v, v < S.length → 0 ≤ ix s v ∧ ix s v < ix S v := fun v hv => by have := ms_at hs (k := v) (by rw [ms_len hs]; exact hv); omega
  refine ⟨?_, fun y hy => ?_⟩
  · unfold inN
    rw [List.pairwise_map]
    refine pair_idx fun i j hi hj hij => ?_
    simp only [List.getElem_range]
    simp at hi hj
    exact fct_lt hz hij hj (hb i hi).2 (hb j hj).1
  · obtain ⟨v, hv, rfl⟩ := mem_in.1 hy
    exact fct_bd hz hv (hb v hv)
/-- The fact of a value is in the list. -/
def agB (l : List Asg) (v x : Int) : Bool := (List.range l.length).any fun k => decide ((asg l k).v = v) && decide ((asg l k).x = x)
def vsB (l : List Asg) (v : Int) : Bool := (List.range l.length).any fun k => decide ((asg l k).v = v)
theorem agB_iff {l : List Asg} {v x : Int} : agB l v x = true ↔ ∃ k, k < l.length ∧ (asg l k).v = v ∧ (asg l k).x = x := by simp [agB]
theorem vsB_iff {l : List Asg} {v : Int} : vsB l v = true ↔ ∃ k, k < l.length ∧ (asg l k).v = v := by simp [vsB]
theorem hasB_iff {l : List Int} {y : Int} : hasB l y = true ↔ y ∈ l := by unfold hasB; exact decide_eq_true_iff
section
variable {S : List Int} {l : List Asg} {v : Nat} {x : Int}
theorem gv_at (hz : SzOk S) (h : AsOk S l) (hv : v < S.length) (hx : 0 ≤ x ∧ x < ix S v) : smN S v + x ∈ gvL S l ↔ ∃ k, k < l.length ∧ vr l k = v ∧ (asg l k).x = x := by
  rw [mem_gv]
  constructor
  · rintro ⟨k, hk, e⟩
    obtain ⟨e1, e2⟩ := fct_inj hz hv (h.lt k hk) hx (as_x h hk) e
    exact ⟨k, hk, e1.symm, e2.symm⟩
  · rintro ⟨k, hk, rfl, rfl⟩; exact ⟨k, hk, rfl⟩
theorem ot_at (hz : SzOk S) (h : AsOk S l) (hv : v < S.length) (hx : 0 ≤ x ∧ x < ix S v) : smN S v + x ∈ otL S l ↔ ∃ k, k < l.length ∧ vr l k = v ∧ (asg l k).x ≠ x := by
  rw [mem_ot]
  constructor
  · rintro ⟨k, hk, j, hj, hne, e⟩
    obtain ⟨e1, e2⟩ := fct_inj hz hv (h.lt k hk) hx (by omega) e
    exact ⟨k, hk, e1.symm, fun h => hne (by omega)⟩
  · rintro ⟨k, hk, rfl, hne⟩; exact ⟨k, hk, x.toNat, by omega, by omega, by omega⟩
theorem vr_inj (h : AsOk S l) {i j : Nat} (hi : i < l.length) (hj : j < l.length) (e : vr l i = vr l j) : i = j := by
  rcases Nat.lt_trichotomy i j with h1 | h1 | h1
  · have := vr_lt h h1 hj; omega
  · exact h1
  · have := vr_lt h h1 hi; omega
theorem hasB_gv (hz : SzOk S) (h : AsOk S l) (hv : v < S.length) (hx : 0 ≤ x ∧ x < ix S v) : hasB (gvL S l) (smN S v + x) = agB l v x := by
  rw [Bool.eq_iff_iff, hasB_iff, gv_at hz h hv hx, agB_iff]
  constructor
  · rintro ⟨k, hk, e1, e2⟩; exact ⟨k, hk, by rw [h.v k hk, e1], e2⟩
  · rintro ⟨k, hk, e1, e2⟩; exact ⟨k, hk, by have := h.v k hk; omega, e2⟩
theorem hasB_ot (hz : SzOk S) (h : AsOk S l) (hv : v < S.length) (hx : 0 ≤ x ∧ x < ix S v) : hasB (otL S l) (smN S v + x) = (vsB l v && !agB l v x) := by
  rw [Bool.eq_iff_iff, hasB_iff, ot_at hz h hv hx, Bool.and_eq_true, Bool.not_eq_true', vsB_iff]
  constructor
  · rintro ⟨k, hk, e1, e2⟩
    refine ⟨⟨k, hk, by rw [h.v k hk, e1]⟩, ?_⟩
    cases hb : agB l v x
    · rfl
    · obtain ⟨j, hj, f1, f2⟩ := agB_iff.1 hb
      obtain rfl := vr_inj h hk hj (by have := h.v j hj; omega)
      exact absurd f2 e2
  · rintro ⟨⟨k, hk, e1⟩, e2⟩
    refine ⟨k, hk, by have := h.v k hk; omega, fun e => ?_⟩
    rw [agB_iff.2 ⟨k, hk, e1, e⟩] at e2
    cases e2
theorem in_at {s : List Int} (hz : SzOk S) (hs : msB S s = true) (hv : v < S.length) (hx : 0 ≤ x ∧ x < ix S v) : smN S v + x ∈ inN S s S.length ↔ ix s v = x := by
  rw [mem_in]
  constructor
  · rintro ⟨u, hu, e⟩
    have := ms_at hs (k := u) (by rw [ms_len hs]; exact hu)
    obtain ⟨rfl, e2⟩ := fct_inj hz hv hu hx (by omega) e
    exact e2.symm
  · rintro rfl; exact ⟨v, hv, rfl⟩
theorem hasB_in {s : List Int} (hz : SzOk S) (hs : msB S s = true) (hv : v < S.length) (hx : 0 ≤ x ∧ x < ix S v) : hasB (inN S s S.length) (smN S v + x) = decide (ix s v = x) := by
  rw [Bool.eq_iff_iff, hasB_iff, in_at hz hs hv hx, decide_eq_true_iff]
theorem dis_ga (hz : SzOk S) (h : AsOk S l) : disB (gvL S l) (otL S l) = true := by
  rw [disB_iff]
  intro y hy
  obtain ⟨k, hk, rfl⟩ := mem_gv.1 hy
  rw [ot_at hz h (h.lt k hk) (as_x h hk)]
  rintro ⟨j, hj, e1, e2⟩
  obtain rfl := vr_inj h hj hk e1
  exact e2 rfl
end
/-- The task of Strips is in order. -/
theorem strips_valid {x : MT} (hv : MVal x) (h24 : smN x.sizes x.sizes.length ≤ 24) {y : Tsk} (h1 : y.n = smN x.sizes x.sizes.length) (h2 : y.init = inN x.sizes x.init x.sizes.length) (h3 : y.goal = gvL x.sizes x.goal) (h4 : y.ops = x.ops.map (opS x.sizes)) : tkF y = (0, 0) := by
  have h0 := (smN_le hv.sz _ (Nat.le_refl _)).1
  have ho : ∀ k, k < x.ops.length → opr (x.ops.map (opS x.sizes)) k = opS x.sizes (mop x.ops k) := fun k hk => by simp [opr, mop, List.getD, hk]
  rw [tkF_loop (by omega) (by omega) (by rw [h2, h1]; exact setB_iff.2 (isS_in hv.sz hv.init)) (by rw [h3, h1]; exact setB_iff.2 (isS_gv hv.sz hv.goal)) (by rw [h4, List.length_map]; exact hv.m)]
  refine firstF_miss fun j hj => ?_
  rw [h4, List.length_map] at hj
  unfold opF
  rw [h4, ho j hj, h1]
  have a1 := setB_iff.2 (isS_gv hv.sz (hv.pre j hj))
  have a2 := setB_iff.2 (isS_gv hv.sz (hv.post j hj))
  have a3 := setB_iff.2 (isS_ot hv.sz (hv.post j hj))
  have a4 := dis_ga hv.sz (hv.post j hj)
  have a5 := hv.cost j hj
  unfold opCode opS
  simp only [a1, a2, a3, a4]
  rw [if_neg (by simp), if_neg (by omega)]
end Go.Proofs.YtenmegkokclolaaDoor

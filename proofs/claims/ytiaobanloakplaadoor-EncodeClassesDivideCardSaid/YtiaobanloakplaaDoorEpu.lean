/- Package encode: pure facts on values, roles and operators. -/
import Derived.Test.YtiaobanloakplaaDoorEmm
import Derived.Test.YtiaobanloakplaaDoorMA
import Derived.Test.YtiaobanloakplaaDoorVgp
namespace Go.Proofs.YtiaobanloakplaaDoor
open Go.RowKit
set_option linter.unusedSimpArgs false
set_option linter.unusedVariables false
set_option maxRecDepth 100000

/-- The places of a list at which an element of another stands. -/
def valL (c fs : List Int) : List Int := facs c.length (fun i => decide (ix c i ∈ fs))
theorem mem_valL {c fs : List Int} {x : Int} : x ∈ valL c fs ↔ 0 ≤ x ∧ x < c.length ∧ ix c x.toNat ∈ fs := by
  unfold valL; rw [mem_facs, decide_eq_true_eq]
theorem valL_sorted (c fs : List Int) : (valL c fs).Pairwise (· < ·) := facs_sorted _ _
theorem valL_le (c fs : List Int) : (valL c fs).length ≤ c.length := facs_len _ _
theorem facs_cnt (c fs : List Int) : ∀ n, n ≤ c.length → (facs n (fun i => decide (ix c i ∈ fs))).length = cntB (c.take n) fs
  | 0, _ => rfl
  | n + 1, h => by
    have ih := facs_cnt c fs n (by omega)
    rw [cnt_take (by omega), ← ih]
    by_cases hm : ix c n ∈ fs
    · rw [facs_succ_yes (decide_eq_true hm), if_pos hm, List.length_append]; rfl
    · rw [facs_succ_no (decide_eq_false hm), if_neg hm]; rfl
theorem valL_cnt (c fs : List Int) : (valL c fs).length = cntB c fs := by
  have := facs_cnt c fs c.length (Nat.le_refl _)
  rwa [List.take_length] at this
/-- The value of a list in another. -/
def valu (c s : List Int) : Int := if (valL c s).length = 0 then c.length else ix (valL c s) 0
theorem ix_zero {l : List Int} : ix l 0 = l.headD 0 := by cases l <;> simp [ix]
theorem valL_head (c s : List Int) : (valL c s).head? = ((List.range c.length).find? (fun i => decide (ix c i ∈ s))).map Int.ofNat := by
  unfold valL facs
  rw [List.head?_map, List.head?_filter]
theorem valu_hit {c s : List Int} {k : Nat} (hk : k < c.length) (h : ix c k ∈ s) (hj : ∀ j, j < k → ix c j ∉ s) : valu c s = k := by
  have hf : (List.range c.length).find? (fun i => decide (ix c i ∈ s)) = some k := by
    rw [List.find?_range_eq_some]
    refine ⟨by simpa using h, by simpa using hk, fun j hjk => ?_⟩
    simp [hj j hjk]
  have hh := valL_head c s
  rw [hf] at hh
  unfold valu
  cases hv : valL c s with
  | nil => rw [hv] at hh; simp at hh
  | cons a l =>
    rw [hv] at hh
    simp at hh
    simp [ix, hh]
theorem valu_miss {c s : List Int} (hj : ∀ j, j < c.length → ix c j ∉ s) : valu c s = c.length := by
  have hf : valL c s = [] := by
    rw [List.eq_nil_iff_forall_not_mem]
    intro x hx
    obtain ⟨h0, h1, h2⟩ := mem_valL.1 hx
    exact hj x.toNat (by omega) h2
  unfold valu
  rw [hf]; rfl
theorem valu_bd (c s : List Int) : 0 ≤ valu c s ∧ valu c s ≤ c.length := by
  unfold valu
  split
  · omega
  · rename_i h
    have hm : ix (valL c s) 0 ∈ valL c s := ix_mem (by omega)
    have := mem_valL.1 hm
    omega
theorem valL_one {c s : List Int} (h : (valL c s).length ≤ 1) : valL c s = if (valL c s).length = 0 then [] else [valu c s] := by
  unfold valu
  match hv : valL c s with
  | [] => rfl
  | [a] => simp [ix]
  | a :: b :: l => rw [hv] at h; simp at h

/-- The assignments of the first n lists. -/
def asgN (cs : List (List Int)) (fs : List Int) : Nat → List Asg
  | 0 => []
  | n + 1 => asgN cs fs n ++ (valL (rw_ cs n) fs).map (fun x => ⟨(n : Int), x⟩)
/-- Two elements of one list are there. -/
def crB (cs : List (List Int)) (fs : List Int) : Bool := (List.range cs.length).any (fun k => decide (1 < (valL (rw_ cs k) fs).length))
def asgR (cs : List (List Int)) (fs : List Int) : List Asg := if crB cs fs then [] else asgN cs fs cs.length
theorem crB_bad {cs : List (List Int)} {fs : List Int} {k : Nat} (hk : k < cs.length) (h : 1 < (valL (rw_ cs k) fs).length) : crB cs fs = true := by
  unfold crB
  rw [List.any_eq_true]
  exact ⟨k, by simpa using hk, by simpa using h⟩
theorem crB_false {cs : List (List Int)} {fs : List Int} : crB cs fs = false ↔ ∀ k, k < cs.length → (valL (rw_ cs k) fs).length ≤ 1 := by
  unfold crB
  rw [List.any_eq_false]
  constructor
  · intro h k hk
    have := h k (by simpa using hk)
    simpa using this
  · intro h k hk
    have := h k (by simpa using hk)
    simpa using this
theorem asgN_le (cs : List (List Int)) (fs : List Int) : ∀ n, (∀ k, k < n → (valL (rw_ cs k) fs).length ≤ 1) → (asgN cs fs n).length ≤ n
  | 0, _ => by simp [asgN]
  | n + 1, h => by
    have := asgN_le cs fs n (fun k hk => h k (by omega))
    have := h n (by omega)
    simp [asgN]; omega
def stV (cs : List (List Int)) (s : List Int) : List Int := cs.map (fun c => valu c s)
def lens (cs : List (List Int)) : List Int := cs.map (fun c => (c.length : Int))
theorem rw_cons0 {c : List Int} {cs : List (List Int)} : rw_ (c :: cs) 0 = c := rfl
theorem ix_mapl {cs : List (List Int)} {f : List Int → Int} {k : Nat} (hk : k < cs.length) : ix (cs.map f) k = f (rw_ cs k) := by
  simp [ix, rw_, List.getD, hk]
theorem aft_nil (s : List Int) : aft s [] = s := rfl
theorem aft_fold (s : List Int) (l : List Asg) : aft s l = l.foldl (fun t a => t.set a.v.toNat a.x) s := by unfold aft aftN; rw [List.take_length]
theorem aft_app (s : List Int) (a b : List Asg) : aft s (a ++ b) = aft (aft s a) b := by rw [aft_fold, aft_fold, aft_fold, List.foldl_append]
theorem aft_asgN {cs : List (List Int)} {s : List Int} : ∀ n, n ≤ cs.length → (∀ k, k < n → (valL (rw_ cs k) s).length ≤ 1) →
    ∀ k, k < cs.length → ix (aft (lens cs) (asgN cs s n)) k = if k < n then valu (rw_ cs k) s else (rw_ cs k).length
  | 0, _, _, k, hk => by rw [asgN, aft_nil, if_neg (by omega)]; exact ix_mapl hk
  | n + 1, hn, h, k, hk => by
    have ih := aft_asgN n (by omega) (fun k hk => h k (by omega)) k hk
    have h1 := h n (by omega)
    have hlen : (aft (lens cs) (asgN cs s n)).length = cs.length := by rw [aft_len]; simp [lens]
    rw [asgN, aft_app, valL_one h1]
    by_cases e : (valL (rw_ cs n) s).length = 0
    · rw [if_pos e, List.map_nil, aft_nil, ih]
      by_cases e2 : k < n
      · rw [if_pos e2, if_pos (by omega)]
      · rw [if_neg e2]
        by_cases e3 : k = n
        · subst e3
          rw [if_pos (by omega)]
          unfold valu; rw [if_pos e]
        · rw [if_neg (by omega)]
    · rw [if_neg e, List.map_singleton, aft_fold, List.foldl_cons, List.foldl_nil]
      rw [show (({ v := (n : Int), x := valu (rw_ cs n) s } : Asg).v.toNat) = n from by simp, ix_set (by omega)]
      by_cases e3 : k = n
      · subst e3; rw [if_pos rfl, if_pos (by omega)]
      · rw [if_neg e3, ih]
        by_cases e2 : k < n
        · rw [if_pos e2, if_pos (by omega)]
        · rw [if_neg e2, if_neg (by omega)]
theorem ext_ix {a b : List Int} (hl : a.length = b.length) (h : ∀ k, k < a.length → ix a k = ix b k) : a = b := by
  have := eqL_good hl h
  unfold eqL at this
  exact of_decide_eq_true this
theorem aft_stV {cs : List (List Int)} {s : List Int} (h : crB cs s = false) : aft (lens cs) (asgR cs s) = stV cs s := by
  unfold asgR
  rw [h]
  have hlen : (aft (lens cs) (asgN cs s cs.length)).length = cs.length := by rw [aft_len]; simp [lens]
  refine ext_ix (by simp [stV, hlen]) (fun k hk => ?_)
  have hk2 : k < cs.length := by simpa [hlen] using hk
  refine (aft_asgN cs.length (Nat.le_refl _) (crB_false.1 h) k hk2).trans ?_
  rw [if_pos hk2]
  exact (ix_mapl (f := fun c => valu c s) hk2).symm
theorem asgN_mem {cs : List (List Int)} {fs : List Int} : ∀ {n : Nat} {a : Asg}, a ∈ asgN cs fs n → ∃ k, k < n ∧ a.v = (k : Int) ∧ a.x ∈ valL (rw_ cs k) fs
  | 0, a, h => by simp [asgN] at h
  | n + 1, a, h => by
    rw [asgN, List.mem_append] at h
    rcases h with h | h
    · obtain ⟨k, hk, e, hx⟩ := asgN_mem h
      exact ⟨k, by omega, e, hx⟩
    · rw [List.mem_map] at h
      obtain ⟨x, hx, rfl⟩ := h
      exact ⟨n, by omega, rfl, hx⟩
theorem asgR_mem {cs : List (List Int)} {fs : List Int} {a : Asg} (h : a ∈ asgR cs fs) : ∃ k, k < cs.length ∧ a.v = (k : Int) ∧ a.x ∈ valL (rw_ cs k) fs := by
  unfold asgR at h
  split at h
  · simp at h
  · exact asgN_mem h

/-- The role of a list in an operator: what is assumed, what is added and deleted, the value of none. -/
structure Rol where
  asm : List Int
  add : List Int
  del : List Int
  non : Int
def rolB (o : Opr) (c : List Int) : Bool := decide ((valL c o.pre).length ≤ 1) && decide ((valL c o.add).length ≤ 1)
def cntL (n : Nat) : List Int := facs n (fun _ => true)
theorem cntL_succ (n : Nat) : cntL (n + 1) = cntL n ++ [(n : Int)] := facs_succ_yes rfl
theorem cntL_len : ∀ n, (cntL n).length = n
  | 0 => rfl
  | n + 1 => by rw [cntL_succ, List.length_append, cntL_len n]; rfl
theorem mem_cntL {n : Nat} {x : Int} : x ∈ cntL n ↔ 0 ≤ x ∧ x < n := by unfold cntL; rw [mem_facs]; simp
def asmL (o : Opr) (c : List Int) : List Int :=
  if 0 < (valL c o.pre).length then valL c o.pre else if (valL c o.add).length = 0 ∧ 0 < (valL c o.del).length then cntL (c.length + 1) else [-1]
def rolOf (o : Opr) (c : List Int) : Rol := ⟨asmL o c, valL c o.add, valL c o.del, c.length⟩
def aftR (r : Rol) (b : Int) : Int := if 0 < r.add.length then ix r.add 0 else if b ∈ r.del then r.non else b
def rol (l : List Rol) (k : Nat) : Rol := l.getD k ⟨[], [], [], 0⟩
def rols (o : Opr) (cs : List (List Int)) : List Rol := cs.map (rolOf o)
def rolsB (o : Opr) (cs : List (List Int)) : Bool := (List.range cs.length).all (fun k => rolB o (rw_ cs k))
theorem rol_rols {o : Opr} {cs : List (List Int)} {k : Nat} (hk : k < cs.length) : rol (rols o cs) k = rolOf o (rw_ cs k) := by
  simp [rol, rols, rw_, List.getD, hk]
theorem rols_len (o : Opr) (cs : List (List Int)) : (rols o cs).length = cs.length := by simp [rols]
theorem rolsB_bad {o : Opr} {cs : List (List Int)} {k : Nat} (hk : k < cs.length) (h : rolB o (rw_ cs k) = false) : rolsB o cs = false := by
  unfold rolsB
  rw [List.all_eq_false]
  exact ⟨k, by simpa using hk, by simp [h]⟩
theorem rolsB_good {o : Opr} {cs : List (List Int)} : rolsB o cs = true ↔ ∀ k, k < cs.length → rolB o (rw_ cs k) = true := by
  unfold rolsB
  rw [List.all_eq_true]
  exact ⟨fun h k hk => h k (by simpa using hk), fun h k hk => h k (by simpa using hk)⟩
theorem asmL_len {o : Opr} {c : List Int} (h : rolB o c = true) : 1 ≤ (asmL o c).length ∧ (asmL o c).length ≤ c.length + 1 := by
  unfold asmL
  split
  · have := valL_le c o.pre; omega
  · split
    · rw [cntL_len]; omega
    · simp
/-- The number of combinations of the first n roles; the combinations; the operator under one. -/
def numN (rs : List Rol) : Nat → Nat
  | 0 => 1
  | n + 1 => numN rs n * (rol rs n).asm.length
def cmbN (rs : List Rol) : Nat → List (List Int)
  | 0 => [[]]
  | n + 1 => (cmbN rs n).flatMap (fun s => (rol rs n).asm.map (fun v => s ++ [v]))
theorem sum_rep (k : Nat) : ∀ n, (List.replicate n k).sum = n * k
  | 0 => by simp
  | n + 1 => by rw [List.replicate_succ, List.sum_cons, sum_rep k n, Nat.add_mul]; omega
theorem cmbN_len (rs : List Rol) : ∀ n, (cmbN rs n).length = numN rs n
  | 0 => rfl
  | n + 1 => by
    rw [cmbN, numN, List.length_flatMap, ← cmbN_len rs n]
    simp only [List.length_map]
    rw [List.map_const', sum_rep]
theorem cmbN_mem {rs : List Rol} : ∀ {n : Nat} {b : List Int}, b ∈ cmbN rs n → b.length = n ∧ ∀ k, k < n → ix b k ∈ (rol rs k).asm
  | 0, b, h => by
    have : b = [] := by simpa [cmbN] using h
    subst this
    exact ⟨rfl, fun k hk => by omega⟩
  | n + 1, b, h => by
    rw [cmbN, List.mem_flatMap] at h
    obtain ⟨s, hs, hb⟩ := h
    rw [List.mem_map] at hb
    obtain ⟨v, hv, rfl⟩ := hb
    obtain ⟨h1, h2⟩ := cmbN_mem hs
    refine ⟨by simp [h1], fun k hk => ?_⟩
    by_cases e : k < n
    · have : ix (s ++ [v]) k = ix s k := by simp [ix, List.getD, List.getElem?_append, h1, e]
      rw [this]; exact h2 k e
    · obtain rfl : k = n := by omega
      have : ix (s ++ [v]) k = v := by simp [ix, List.getD, List.getElem?_append, h1]
      rw [this]; exact hv
theorem numN_bd {rs : List Rol} : ∀ {n : Nat}, (∀ k, k < n → 1 ≤ (rol rs k).asm.length ∧ (rol rs k).asm.length ≤ 6) → 1 ≤ numN rs n ∧ numN rs n ≤ 6 ^ n
  | 0, _ => by simp [numN]
  | n + 1, h => by
    obtain ⟨h1, h2⟩ := numN_bd (n := n) (fun k hk => h k (by omega))
    obtain ⟨h3, h4⟩ := h n (by omega)
    rw [numN, Nat.pow_succ]
    exact ⟨Nat.mul_pos h1 h3, Nat.mul_le_mul h2 h4⟩
def undN (rs : List Rol) (b : List Int) (c : Int) : Nat → MOp
  | 0 => ⟨[], [], c⟩
  | n + 1 => ⟨(undN rs b c n).pre ++ (if ix b n = -1 then [] else [⟨(n : Int), ix b n⟩]), (undN rs b c n).post ++ (if aftR (rol rs n) (ix b n) = ix b n then [] else [⟨(n : Int), aftR (rol rs n) (ix b n)⟩]), c⟩
def und (rs : List Rol) (c : Int) (b : List Int) : MOp := undN rs b c rs.length
theorem undN_len (rs : List Rol) (b : List Int) (c : Int) : ∀ n, (undN rs b c n).pre.length ≤ n ∧ (undN rs b c n).post.length ≤ n ∧ (undN rs b c n).cost = c
  | 0 => by simp [undN]
  | n + 1 => by
    obtain ⟨h1, h2, _⟩ := undN_len rs b c n
    refine ⟨?_, ?_, rfl⟩
    · simp only [undN, List.length_append]; split <;> simp <;> omega
    · simp only [undN, List.length_append]; split <;> simp <;> omega
/-- The operators made of the first n, each with where it comes from; none: too many. -/
def mkN (os : List Opr) (cs : List (List Int)) : Nat → Option (List MOp × List Int)
  | 0 => some ([], [])
  | k + 1 => match mkN os cs k with
    | none => none
    | some (ms, fr) => if rolsB (opr os k) cs = true then
        (if 40 < ms.length + numN (rols (opr os k) cs) cs.length then none
        else some (ms ++ (cmbN (rols (opr os k) cs) cs.length).map (und (rols (opr os k) cs) (opr os k).cost), fr ++ List.replicate (numN (rols (opr os k) cs) cs.length) (k : Int)))
      else some (ms, fr)
theorem mkN_none {os : List Opr} {cs : List (List Int)} {k n : Nat} (h : k ≤ n) (hk : mkN os cs k = none) : mkN os cs n = none := by
  induction h with
  | refl => exact hk
  | step _ ih => simp [mkN, ih]
theorem mkN_len {os : List Opr} {cs : List (List Int)} : ∀ {k : Nat} {ms : List MOp} {fr : List Int}, mkN os cs k = some (ms, fr) → ms.length = fr.length ∧ ms.length ≤ 40
  | 0, ms, fr, h => by
    simp [mkN] at h
    obtain ⟨rfl, rfl⟩ := h
    simp
  | k + 1, ms, fr, h => by
    rw [mkN] at h
    split at h
    · cases h
    · rename_i ms2 fr2 h2
      have ih := mkN_len h2
      split at h
      · split at h
        · cases h
        · injection h with h
          injection h with h3 h4
          subst h3 h4
          rw [List.length_append, List.length_append, List.length_map, cmbN_len, List.length_replicate]
          omega
      · injection h with h
        injection h with h3 h4
        subst h3 h4
        exact ih

/-- The classes of the first n of some lists, and what they cover. -/
def uniL (a b : List Int) : List Int := facs 24 (fun p => decide ((p : Int) ∈ a) || decide ((p : Int) ∈ b))
def covN (L : List (List Int)) : Nat → List (List Int) × List Int
  | 0 => ([], [])
  | n + 1 => if difL (rw_ L n) (covN L n).2 = [] then covN L n else ((covN L n).1 ++ [difL (rw_ L n) (covN L n).2], uniL (covN L n).2 (difL (rw_ L n) (covN L n).2))
theorem uniL_isS (a b : List Int) : IsS (uniL a b) 24 := facs_isS _ _
theorem mem_uniL {a b : List Int} (ha : IsS a 24) (hb : IsS b 24) {x : Int} : x ∈ uniL a b ↔ x ∈ a ∨ x ∈ b := by
  unfold uniL
  rw [mem_facs, Bool.or_eq_true, decide_eq_true_eq, decide_eq_true_eq]
  constructor
  · rintro ⟨h0, h1, h2⟩
    rw [Int.toNat_of_nonneg h0] at h2
    exact h2
  · intro h
    have hr : 0 ≤ x ∧ x < 24 := by rcases h with h | h; exact ha.2 x h; exact hb.2 x h
    rw [Int.toNat_of_nonneg hr.1]
    exact ⟨hr.1, hr.2, h⟩
theorem uni_bits {a b : List Int} (ha : IsS a 24) (hb : IsS b 24) : bits .or .u64 (mask a : Int) (mask b : Int) = (mask (uniL a b) : Int) := by
  rw [u64_or_nat _ _ (mask_lt64 ha) (mask_lt64 hb)]
  congr 1
  apply Nat.eq_of_testBit_eq
  intro p
  rw [Nat.testBit_or, mask_bit (fun x hx => (ha.2 x hx).1), mask_bit (fun x hx => (hb.2 x hx).1), mask_bit (fun x hx => ((uniL_isS a b).2 x hx).1)]
  rw [Bool.eq_iff_iff, Bool.or_eq_true, decide_eq_true_eq, decide_eq_true_eq, decide_eq_true_eq, mem_uniL ha hb]
theorem covN_isS (L : List (List Int)) : ∀ n, IsS (covN L n).2 24
  | 0 => isS_nil _
  | n + 1 => by
    rw [covN]
    split
    · exact covN_isS L n
    · exact uniL_isS _ _
theorem covN_len (L : List (List Int)) : ∀ n, (covN L n).1.length ≤ n
  | 0 => by simp [covN]
  | n + 1 => by
    have := covN_len L n
    rw [covN]
    split
    · omega
    · simp; omega
/-- The lists of a cover: the groups, and each fact. -/
def covS (gs : List (List Int)) (n : Nat) : List (List Int) := gs ++ (List.range n).map (fun p : Nat => [(p : Int)])
def cov (gs : List (List Int)) (n : Nat) : List (List Int) := (covN (covS gs n) (gs.length + n)).1
theorem covS_left {gs : List (List Int)} {n k : Nat} (h : k < gs.length) : rw_ (covS gs n) k = rw_ gs k := by
  unfold covS rw_ List.getD; rw [List.getElem?_append_left h]
theorem covS_right {gs : List (List Int)} {n k : Nat} (h : k < n) : rw_ (covS gs n) (gs.length + k) = [(k : Int)] := by
  unfold covS rw_ List.getD
  rw [List.getElem?_append_right (by omega), Nat.add_sub_cancel_left, List.getElem?_map, List.getElem?_range h]; rfl
end Go.Proofs.YtiaobanloakplaaDoor

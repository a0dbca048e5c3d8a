/- The chain of supertypes, and the iterator that yields it. -/
import Derived.RangeFuncNested
import Derived.RangeFuncBound
import Derived.RangeFuncCalls
import Derived.RangeFuncLeaves
import Derived.RangeFuncFrom
import Derived.Shelf.Abstract
import Derived.Shelf.RegionOpen
import Derived.OwnWalkIn
import Derived.TacticsInMore
import Derived.LoopNIn
import Derived.LoopIn
import Derived.Test.YtjmkilmpfaapbaaTwith
namespace Go.Proofs.Ytjmkilmpfaapbaa
open Go.RowKit Go.Shelf
set_option linter.unusedSimpArgs false
set_option linter.unusedVariables false
set_option maxRecDepth 100000

attribute [local go_sem] Oper.semAt_some

/-- Each parent comes before its type. -/
def Ordered (ts : List Ent) : Prop := ∀ k, k < ts.length → -1 ≤ pr ts k ∧ pr ts k < k
def par (ts : List Ent) (a : Int) : Int := pr ts a.toNat
/-- The supertypes of a, with fuel. -/
def chain (ts : List Ent) : Nat → Int → List Int
  | 0, _ => [-1]
  | f + 1, a => if a < 0 then [-1] else a :: chain ts f (par ts a)
def sup (ts : List Ent) (a : Int) : List Int := chain ts (a + 1).toNat a

theorem ordered_of {ts : List Ent} (h : (tyFault ts).1 = 0) : Ordered ts := by
  intro k hk
  unfold tyFault at h
  split at h
  · cases h
  · unfold firstF at h
    cases e : (List.range ts.length).find? (fun i => tyCode ts i != 0) with
    | some i =>
      rw [e] at h
      have := List.find?_some e
      simp at this
      exact absurd h this
    | none =>
      rw [List.find?_eq_none] at e
      have h0 : tyCode ts k = 0 := by simpa using e k (by simpa using hk)
      unfold tyCode ecode at h0
      split at h0
      · cases h0
      · split at h0
        · cases h0
        · split at h0
          · cases h0
          · rename_i hi
            simp [istB] at hi
            omega

theorem chain_fuel {ts : List Ent} (ho : Ordered ts) : ∀ (f g : Nat) (a : Int), a < ts.length → (a + 1).toNat ≤ f → (a + 1).toNat ≤ g → chain ts f a = chain ts g a := by
  intro f
  induction f with
  | zero =>
    intro g a _ hf _
    have ha : a < 0 := by omega
    cases g with
    | zero => rfl
    | succ g => simp [chain, ha]
  | succ f ih =>
    intro g a hn hf hg
    by_cases ha : a < 0
    · cases g with
      | zero => simp [chain, ha]
      | succ g => simp [chain, ha]
    · cases g with
      | zero => omega
      | succ g =>
        have hp := ho a.toNat (by omega)
        simp only [chain, if_neg ha]
        rw [ih g (par ts a) (by unfold par; omega) (by unfold par; omega) (by unfold par; omega)]

theorem sup_neg {ts : List Ent} {a : Int} (h : a < 0) : sup ts a = [-1] := by
  unfold sup
  have : (a + 1).toNat = 0 := by omega
  rw [this]; rfl
theorem sup_cons {ts : List Ent} (ho : Ordered ts) {a : Int} (h0 : 0 ≤ a) (hn : a < ts.length) : sup ts a = a :: sup ts (par ts a) := by
  unfold sup
  have e : (a + 1).toNat = a.toNat + 1 := by omega
  have hp := ho a.toNat (by omega)
  rw [e, chain, if_neg (by omega)]
  congr 1
  exact chain_fuel ho _ _ _ (by unfold par; omega) (by unfold par; omega) (Nat.le_refl _)

set_option maxRecDepth 100000 in
set_option maxHeartbeats 1000000 in
theorem supers1_in (F : Fence) (n : Nat) (h36 : F.fn 36) (hro : F.round = none) (hn : 1 ≤ n) (l Bt Bs n₀ c : Nat) (A : Option Addr) (ts : List Ent) (a : Int) (ho : Ordered ts) (hlen : ts.length ≤ maxLen)
    (ha0 : -1 ≤ a) (han : a < ts.length) (J Jx : List Int → World → Prop)
    (hY : ∀ pre x W, J pre W → pre.length < (sup ts a).length → YieldAt F (n - 1) Try.prog l #[.int .i64 x] W fun e W' =>
      (e = .returned (.bool true) ∧ J (pre ++ [x]) W' ∧ Below n₀ W W') ∨ (e = .returned (.bool false) ∧ Jx (pre ++ [x]) W'))
    (W : World) (hBt : W.cell? ⟨Bt, 0, none⟩ = some (.int .i64 a)) (hBs : W.cell? ⟨Bs, 0, none⟩ = some (.slice A ts.length c)) (hlt : Bs < n₀) (hE : Ents W n₀ A ts) (h0 : J [] W) :
    CallsIn F n Try.prog 36 #[.func (.yield l) #[] #[], .pointer (some ⟨Bt, 0, none⟩), .pointer (some ⟨Bs, 0, none⟩)] W fun e W' => (∃ v, e = .returned v) ∧
      ((∃ ys, ys = sup ts a ∧ J ys W') ∨ (∃ pre, pre <+: sup ts a ∧ Jx pre W')) := by
  unfold maxLen at hlen
  refine callsIn_of_wp Try.func36 rfl h36 ?_ hro
  simp only [Try.ntmps36, List.size_toArray, List.length_cons, List.length_nil, Nat.reduceAdd, Nat.reduceSub, Array.replicate_succ, Array.replicate_zero, List.push_toArray, List.append_toArray, List.nil_append, List.cons_append]
  gi_wp2
  gi_loopw [4] (fun p wr => ∃ (pre : List Int) (s : Int), p = .int .i64 s ∧ sup ts a = pre ++ sup ts s ∧ -1 ≤ s ∧ s < ts.length ∧ wr.cell? ⟨Bs, 0, none⟩ = some (.slice A ts.length c) ∧ Ents wr n₀ A ts ∧ J pre wr)
    (fun p _ => (intOf p + 1).toNat)
  case atStart => exact ⟨[], a, rfl, rfl, ha0, han, hBs, hE, h0⟩
  case round =>
    obtain ⟨pre, s, rfl, hx, hs0, hsn, hbs, hEr, hJs⟩ := hrel
    have HX := Lib.hid hx
    clear hx
    have HE := Lib.hid hEr
    clear hEr hE
    by_cases hs : s = -1
    · subst hs
      have hx2 := HX.out
      rw [sup_neg (ts := ts) (a := -1) (by omega)] at hx2
      have HX2 := Lib.hid hx2
      clear hx2
      obtain ⟨fn, tmps, assign, body, hy, hR⟩ := hY pre (-1) wr hJs (by rw [HX2.out]; simp)
      gi_wp2
      refine hR.mono ?_
      rintro e W3 (⟨rfl, hJ3, hk3⟩ | ⟨rfl, hJx3⟩)
      · gi_wp2
        go_end0
        exact ⟨⟨_, rfl⟩, .inl ⟨_, HX2.out.symm, hJ3⟩⟩
      · gi_wp2
        go_end0
        exact ⟨⟨_, rfl⟩, .inr ⟨_, by rw [HX2.out]; exact List.prefix_rfl, hJx3⟩⟩
    · have hp := ho s.toNat (by omega)
      have hx2 := HX.out
      rw [sup_cons (ts := ts) (a := s) ho (by omega) hsn] at hx2
      have HX2 := Lib.hid hx2
      clear hx2
      have hne : (s != -1) = true := by simpa using hs
      obtain ⟨fn, tmps, assign, body, hy, hR⟩ := hY pre s wr hJs (by rw [HX2.out]; simp)
      have hs1 : 0 ≤ s := by omega
      clear hs
      gi_wp2
      refine hR.mono ?_
      rintro e W3 (⟨rfl, hJ3, hk3⟩ | ⟨rfl, hJx3⟩)
      · have hbs3 : W3.cell? ⟨Bs, 0, none⟩ = some (.slice A ts.length c) := (hk3.cell (p := ⟨Bs, 0, none⟩) hlt).trans hbs
        obtain ⟨b, o, rfl, hbl, _, hpar, _⟩ := (HE.out.below hk3).at_ (k := s.toNat) (by omega)
        gi_wp2
        go_roundw
        case rel => exact ⟨pre ++ [s], par ts s, rfl, by rw [HX2.out]; simp, hp.1, by unfold par; omega, hbs3, HE.out.below hk3, hJ3⟩
        case measure => simp [intOf, par]; omega
      · gi_wp2
        refine bodyPost_ret (results_none rfl _ _ _) rfl ?_
        exact ⟨⟨_, rfl⟩, .inr ⟨pre ++ [s], ⟨sup ts (par ts s), by rw [HX2.out]; simp⟩, hJx3⟩⟩

end Go.Proofs.Ytjmkilmpfaapbaa

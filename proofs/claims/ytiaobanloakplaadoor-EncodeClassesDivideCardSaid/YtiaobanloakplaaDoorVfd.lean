/- Vlg, Vlw, Vcm, Vfd in one text. -/
import Derived.Test.YtiaobanloakplaaDoorVip
import Derived.Test.YtiaobanloakplaaDoorKpl
import Derived.Test.YtiaobanloakplaaDoorKA

/- Package invariant: largest. -/
section
namespace Go.Proofs.YtiaobanloakplaaDoor
open Go.RowKit
set_option linter.unusedSimpArgs false
set_option linter.unusedVariables false
set_option maxRecDepth 100000

/-- The slice at a holds the masks of the lists ls, below block B. -/
def Msk (w : World) (B : Nat) (a : Option Addr) (ls : List (List Int)) : Prop :=
  0 < ls.length → ∃ b o, a = some ⟨b, o, none⟩ ∧ b < B ∧ ∀ k, k < ls.length → w.cell? ⟨b, o + k, none⟩ = some (.int .u64 (mask (rw_ ls k)))
def mkv (ls : List (List Int)) : List Value := ls.map (fun g => Value.int .u64 (mask g))
theorem mkv_len (ls : List (List Int)) : (mkv ls).length = ls.length := by simp [mkv]
theorem msk_own {W : World} {base : Nat} {v : Value} {ls : List (List Int)} (h : W.ownsRow base 67 1 v ls.length (mkv ls)) : ∃ a c, v = .slice a ls.length c ∧ Msk W W.heap.size a ls ∧ ls.length ≤ c ∧ c ≤ maxLen := by
  rcases h.2 with ⟨rfl, h0⟩ | ⟨g, cap, cur, rfl, hg, hh, hn, hcap, hcs, hx⟩
  · exact ⟨none, 0, by rw [h0], fun h => by omega, by omega, by simp [maxLen]⟩
  · refine ⟨_, cap, rfl, fun h0 => ⟨g, 0, rfl, (Array.getElem?_eq_some_iff.1 hh).1, fun k hk => ?_⟩, hn, hcap⟩
    have := h.cells (g := g) rfl k (.int .u64 (mask (rw_ ls k))) (by simp [mkv, rw_, List.getD, List.getElem?_map, List.getElem?_eq_getElem hk])
    simpa [Addr.add_lit] using this

def partB (ls : List (List Int)) (g : List Int) : Bool := (List.range ls.length).any (fun j => subB g (rw_ ls j))
/-- The set of round i, and what is found in the rounds before i. -/
def grL (n i : Nat) : List Int := facs n (2 ^ n - 1 - i).testBit
def lgB (x : Tsk) (ls : List (List Int)) (g : List Int) : Bool := decide (1 < g.length) && !partB ls g && indB x g
def lgs (x : Tsk) (n : Nat) : Nat → List (List Int)
  | 0 => []
  | i + 1 => if lgB x (lgs x n i) (grL n i) then lgs x n i ++ [grL n i] else lgs x n i
theorem grL_isS (n i : Nat) : IsS (grL n i) n := facs_isS _ _
theorem mask_facs {n m : Nat} (hm : m < 2 ^ n) : mask (facs n m.testBit) = m := by
  apply Nat.eq_of_testBit_eq
  intro p
  rw [mask_bit (fun x hx => ((facs_isS n _).2 x hx).1), Bool.eq_iff_iff, decide_eq_true_eq, mem_facs]
  constructor
  · rintro ⟨_, _, h⟩; simpa using h
  · intro h
    refine ⟨by omega, ?_, by simpa using h⟩
    rcases Nat.lt_or_ge p n with h1 | h1
    · omega
    · rw [Nat.testBit_lt_two_pow (Nat.lt_of_lt_of_le hm (Nat.pow_le_pow_right (by omega) h1))] at h
      cases h
theorem mask_grL {n i : Nat} (hi : i < 2 ^ n) : mask (grL n i) = 2 ^ n - 1 - i := mask_facs (by omega)
theorem lgs_mem {x : Tsk} {n : Nat} : ∀ {k : Nat} {g : List Int}, g ∈ lgs x n k → ∃ i, i < k ∧ g = grL n i
  | 0, g, h => by simp [lgs] at h
  | k + 1, g, h => by
    unfold lgs at h
    split at h
    · rcases List.mem_append.1 h with h | h
      · obtain ⟨i, hi, e⟩ := lgs_mem h; exact ⟨i, by omega, e⟩
      · exact ⟨k, by omega, by simpa using h⟩
    · obtain ⟨i, hi, e⟩ := lgs_mem h; exact ⟨i, by omega, e⟩
theorem lgs_len {x : Tsk} {n : Nat} : ∀ k : Nat, (lgs x n k).length ≤ k
  | 0 => by simp [lgs]
  | k + 1 => by
    have := lgs_len (x := x) (n := n) k
    unfold lgs
    split
    · rw [List.length_append]; simp; omega
    · omega
theorem rw_mem {ls : List (List Int)} {k : Nat} (h : k < ls.length) : rw_ ls k ∈ ls := by
  simp [rw_, List.getD, List.getElem?_eq_getElem h]
end Go.Proofs.YtiaobanloakplaaDoor
end

/- Package invariant: largest's walk. -/
section
namespace Go.Proofs.YtiaobanloakplaaDoor
open Go.RowKit
set_option linter.unusedSimpArgs false
set_option linter.unusedVariables false
set_option maxRecDepth 100000

theorem info_set : (Tryd.prog.info? 67).map (fun i => (i.zero, i.size, i.bytes)) = some (some (.int .u64 0), 1, 8) := by kernel_rfl
theorem msk_to {w w' : World} {B : Nat} {a : Option Addr} {ls : List (List Int)} (h : Msk w B a ls) (hb : Below B w w') (hB : B ≤ w'.heap.size) : Msk w' w'.heap.size a ls := by
  intro h0
  obtain ⟨b, o, e, hlt, hc⟩ := h h0
  exact ⟨b, o, e, by omega, fun k hk => (hb.cell (p := ⟨b, o + k, none⟩) hlt).trans (hc k hk)⟩
/-- What largest hands back: a row of its own that holds the sets. -/
def LgPost (w : World) (ls : List (List Int)) (e : Ending) (w' : World) : Prop := ∃ v, e = .returned v ∧ w'.ownsRow (w.heap.size + 1) 67 1 v ls.length (mkv ls) ∧ Below w.heap.size w w'
end Go.Proofs.YtiaobanloakplaaDoor
end

/- slices.Compare over lists of int. -/
section
namespace Go.Proofs.YtiaobanloakplaaDoor
open Go.RowKit
set_option linter.unusedSimpArgs false
set_option linter.unusedVariables false
set_option maxRecDepth 100000

def cmpI (x y : Int) : Int := if x < y then -1 else if y < x then 1 else 0
def cmpL : List Int → List Int → Int
  | [], [] => 0
  | [], _ :: _ => -1
  | _ :: _, [] => 1
  | x :: xs, y :: ys => if x < y then -1 else if y < x then 1 else cmpL xs ys
theorem ix_drop {l : List Int} {k : Nat} (h : k < l.length) : l.drop k = ix l k :: l.drop (k + 1) := by
  rw [List.drop_eq_getElem_cons h]
  simp [ix, List.getD, List.getElem?_eq_getElem h]
theorem cmpL_step {a b : List Int} {k : Nat} (ha : k < a.length) (hb : k < b.length) (h : cmpL a b = cmpL (a.drop k) (b.drop k)) (he : cmpI (ix a k) (ix b k) = 0) : cmpL a b = cmpL (a.drop (k + 1)) (b.drop (k + 1)) := by
  rw [h, ix_drop ha, ix_drop hb]
  unfold cmpI at he
  split at he
  · cases he
  · rename_i h1
    split at he
    · cases he
    · rename_i h2
      rw [cmpL, if_neg h1, if_neg h2]
theorem cmpL_here {a b : List Int} {k : Nat} (ha : k < a.length) (hb : k < b.length) (h : cmpL a b = cmpL (a.drop k) (b.drop k)) (he : cmpI (ix a k) (ix b k) ≠ 0) : cmpL a b = cmpI (ix a k) (ix b k) := by
  rw [h, ix_drop ha, ix_drop hb]
  unfold cmpI at he ⊢
  rw [cmpL]
  split
  · rfl
  · rename_i h1
    split
    · rfl
    · rename_i h2
      rw [if_neg h1, if_neg h2] at he
      exact absurd rfl he
theorem cmpL_long {a b : List Int} {k : Nat} (ha : k < a.length) (hb : b.length ≤ k) (h : cmpL a b = cmpL (a.drop k) (b.drop k)) : cmpL a b = 1 := by
  rw [h, ix_drop ha, List.drop_eq_nil_of_le hb]
  rfl
theorem cmpL_short {a b : List Int} (hb : a.length < b.length) (h : cmpL a b = cmpL (a.drop a.length) (b.drop a.length)) : cmpL a b = -1 := by
  rw [h, ix_drop hb, List.drop_eq_nil_of_le (Nat.le_refl _)]
  rfl
theorem cmpL_same {a b : List Int} (hb : b.length = a.length) (h : cmpL a b = cmpL (a.drop a.length) (b.drop a.length)) : cmpL a b = 0 := by
  rw [h, List.drop_eq_nil_of_le (Nat.le_refl _), List.drop_eq_nil_of_le (by omega)]
  rfl

/-- The order of lists is total and strict. -/
theorem cmpL_refl : ∀ a : List Int, cmpL a a = 0
  | [] => rfl
  | x :: xs => by unfold cmpL; rw [if_neg (by omega), if_neg (by omega)]; exact cmpL_refl xs
theorem cmpL_zero : ∀ {a b : List Int}, cmpL a b = 0 → a = b
  | [], [], _ => rfl
  | [], _ :: _, h => by cases h
  | _ :: _, [], h => by cases h
  | x :: xs, y :: ys, h => by
    unfold cmpL at h
    split at h
    · cases h
    · split at h
      · cases h
      · have e : x = y := by omega
        rw [e, cmpL_zero h]
theorem cmpL_swap : ∀ a b : List Int, cmpL a b = - cmpL b a
  | [], [] => rfl
  | [], _ :: _ => rfl
  | _ :: _, [] => rfl
  | x :: xs, y :: ys => by
    unfold cmpL
    by_cases h1 : x < y
    · rw [if_pos h1, if_neg (by omega), if_pos h1]
    · by_cases h2 : y < x
      · rw [if_neg h1, if_pos h2, if_pos h2]; rfl
      · rw [if_neg h1, if_neg h2, if_neg h2, if_neg h1]; exact cmpL_swap xs ys
theorem cmpL_trans : ∀ {a b c : List Int}, cmpL a b < 0 → cmpL b c < 0 → cmpL a c < 0
  | [], [], _, h, _ => by simp [cmpL] at h
  | [], _ :: _, [], _, h => by simp [cmpL] at h
  | [], _ :: _, _ :: _, _, _ => by simp [cmpL]
  | _ :: _, [], _, h, _ => by simp [cmpL] at h
  | _ :: _, _ :: _, [], _, h => by simp [cmpL] at h
  | x :: xs, y :: ys, z :: zs, h1, h2 => by
    unfold cmpL at h1 h2 ⊢
    by_cases a1 : x < y
    · by_cases b1 : y < z
      · rw [if_pos (by omega)]; omega
      · rw [if_neg b1] at h2
        by_cases b2 : z < y
        · rw [if_pos b2] at h2; omega
        · rw [if_pos (by omega)]; omega
    · rw [if_neg a1] at h1
      by_cases a2 : y < x
      · rw [if_pos a2] at h1; omega
      · rw [if_neg a2] at h1
        by_cases b1 : y < z
        · rw [if_pos (by omega)]; omega
        · rw [if_neg b1] at h2
          by_cases b2 : z < y
          · rw [if_pos b2] at h2; omega
          · rw [if_neg b2] at h2
            rw [if_neg (by omega), if_neg (by omega)]
            exact cmpL_trans h1 h2
end Go.Proofs.YtiaobanloakplaaDoor
end

/- Package invariant: Find up to the sort. -/
section
namespace Go.Proofs.YtiaobanloakplaaDoor
open Go.RowKit
set_option linter.unusedSimpArgs false
set_option linter.unusedVariables false
set_option maxRecDepth 100000

theorem Own2.snoc0 {W w1 : World} {base : Nat} {v v' u : Value} {ls : List (List Int)} {t : List Int} {vals : List Value} {tmp : Obj} (hv : W.ownsRow base 22 1 v ls.length vals) (hl : vals.length = ls.length)
    (hk : ∀ k, k < ls.length → ∃ u, vals[k]? = some u ∧ W.ownsRow base 3 1 u (rw_ ls k).length ((rw_ ls k).map (Value.int .i64))) (hu : W.ownsRow base 3 1 u t.length (t.map (Value.int .i64)))
    (hown : w1.ownsRow base 22 1 v' (ls.length + 1) (vals ++ [u])) (hg : (W.alloc tmp).grownBy w1 v.ownBlock) : Own2 w1 base v' (ls ++ [t]) := by
  have key : ∀ {n : Nat} {q : Value} {xs : List Value}, W.ownsRow base 3 1 q n xs → w1.ownsRow base 3 1 q n xs := by
    intro n q xs hq
    exact (hq.alloc tmp).kept hg (rows_ne (by decide) (hv.alloc tmp) (hq.alloc tmp))
  refine ⟨vals ++ [u], by simpa using hown, by simp [hl], fun k hlt => ?_⟩
  simp only [List.length_append, List.length_cons, List.length_nil] at hlt
  by_cases e : k < ls.length
  · obtain ⟨q, hq, hoq⟩ := hk k e
    refine ⟨q, by rw [List.getElem?_append_left (by omega)]; exact hq, ?_⟩
    rw [rw_snoc_lt e]
    exact key hoq
  · obtain rfl : k = ls.length := by omega
    refine ⟨u, by rw [← hl]; simp, ?_⟩
    rw [rw_snoc_last]
    exact key hu
theorem Own2.mono {W : World} {base b0 : Nat} {v : Value} {ls : List (List Int)} (h : Own2 W base v ls) (hb : b0 ≤ base) : Own2 W b0 v ls := by
  obtain ⟨vals, ho, hl, hr⟩ := h
  exact ⟨vals, own_mono ho hb, hl, fun k hk => by obtain ⟨u, hu, hou⟩ := hr k hk; exact ⟨u, hu, own_mono hou hb⟩⟩

def fdF (x : Tsk) : Int × Int := if (tkF x).1 ≠ 0 then tkF x else if 10 < x.n then (10, -8) else (0, 0)
/-- All that is found, in the order of the search. -/
def fdL (x : Tsk) : List (List Int) := lgs x x.n.toNat (2 ^ x.n.toNat)
def SortedL (ls : List (List Int)) : Prop := ls.Pairwise (fun a b => ¬ cmpL b a < 0)
def FdPost (w : World) (x : Tsk) (e : Ending) (w' : World) : Prop :=
  ∃ v ls, e = .returned (.tuple #[v, faultV (fdF x)]) ∧ Fresh2 w' w.heap.size v ls ∧ Below w.heap.size w w' ∧ ((fdF x).1 = 0 → ls.Perm (fdL x) ∧ SortedL ls) ∧ ((fdF x).1 ≠ 0 → ls = [])
theorem setCell_other_block (W : World) {p : Addr} (u : Value) {b : Nat} (h : p.block ≠ b) : (W.setCell p u).heap[b]? = W.heap[b]? := by
  unfold World.setCell
  simp [Array.getElem?_modify, h]
theorem Fresh2.mono {W : World} {base b0 : Nat} {v : Value} {ls : List (List Int)} (h : Fresh2 W base v ls) (hb : b0 ≤ base) : Fresh2 W b0 v ls :=
  fun W2 hw hs => h W2 (fun b h1 h2 => hw b (by omega) h2) hs
theorem Fresh2.far {W : World} {base : Nat} {v : Value} {ls : List (List Int)} (h : Fresh2 W base v ls) {p : Addr} (hp : p.block < base) (u : Value) : Fresh2 (W.setCell p u) base v ls := by
  intro W2 hw hs
  refine h W2 (fun b h1 h2 => ?_) (by simpa using hs)
  rw [hw b h1 (by simpa using h2)]
  exact setCell_other_block W u (by omega)

theorem take_rw {ls : List (List Int)} {k : Nat} (h : k < ls.length) : ls.take (k + 1) = ls.take k ++ [rw_ ls k] := by
  rw [List.take_add_one, List.getElem?_eq_getElem h]
  simp [rw_, List.getD, List.getElem?_eq_getElem h]
theorem Fr1.to2 {w W W' W0 : World} {x : Tsk} {u v : Int} (h : Fr1 w W x u v) (hb : Below W0.heap.size W W') (h0 : Fr1 w W0 x u v) : Fr1 w W' x u v :=
  ⟨h.below.trans (hb.mono h0.below.size), h.box.to hb h0.box.lt, h.two.to hb h0.two.lt⟩
end Go.Proofs.YtiaobanloakplaaDoor
end

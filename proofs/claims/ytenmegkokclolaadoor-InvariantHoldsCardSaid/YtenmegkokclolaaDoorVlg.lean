/- Package invariant: largest. -/
import Derived.Test.YtenmegkokclolaaDoorVip
import Derived.Test.YtenmegkokclolaaDoorKpl
namespace Go.Proofs.YtenmegkokclolaaDoor
open Go.RowKit
set_option linter.unusedSimpArgs false
set_option linter.unusedVariables false
set_option maxRecDepth 100000

/-- The slice at a holds the masks of the lists ls, below block B. -/
def Msk (w : World) (B : Nat) (a : Option Addr) (ls : List (List Int)) : Prop :=
  0 < ls.length → ∃ b o, a = some ⟨b, o, none⟩ ∧ b < B ∧ ∀ k, k < ls.length → w.cell? ⟨b, o + k, none⟩ = some (.int .u64 (mask (rw_ ls k)))
def mkv (ls : List (List Int)) : List Value := ls.map (fun g => Value.int .u64 (mask g))
theorem mkv_len (ls : List (List Int)) : (mkv ls).length = ls.length := by simp [mkv]
theorem msk_own {W : World} {base : Nat} {v : Value} {ls : List (List Int)} (h : W.ownsRow base 58 1 v ls.length (mkv ls)) : ∃ a c, v = .slice a ls.length c ∧ Msk W W.heap.size a ls ∧ ls.length ≤ c ∧ c ≤ maxLen := by
  rcases h.2 with ⟨rfl, h0⟩ | ⟨g, cap, cur, rfl, hg, hh, hn, hcap, hcs, hx⟩
  · exact ⟨none, 0, by rw [h0], fun h => by omega, by omega, by simp [maxLen]⟩
  · refine ⟨_, cap, rfl, fun h0 => ⟨g, 0, rfl, (Array.getElem?_eq_some_iff.1 hh).1, fun k hk => ?_⟩, hn, hcap⟩
    have := h.cells (g := g) rfl k (.int .u64 (mask (rw_ ls k))) (by simp [mkv, rw_, List.getD, List.getElem?_map, List.getElem?_eq_getElem hk])
    simpa [Addr.add_lit] using this

set_option maxHeartbeats 400000 in
theorem lgCl_any (l g : List Int) (gb : Nat) (w : World) (hl : IsS l 24) (hg : IsS g 24) (hgc : w.cell? ⟨gb, 0, none⟩ = some (.int .u64 (mask g))) :
    Calls Tryd.prog 48 #[.int .u64 (mask l), .pointer (some ⟨gb, 0, none⟩)] w fun e w' => e = .returned (.bool (subB g l)) ∧ w = w' := by
  have HC := contains_any l g w hl hg
  clear hl hg
  go_enter Tryd.func48, Tryd.ntmps48
  go_wp2_with (go_at_call 49; (with_reducible refine HC.mono ?_); rintro e w2 ⟨rfl, rfl⟩)
  go_ret
  exact ⟨rfl, rfl⟩
set_option maxHeartbeats 1000000 in
theorem indexS_any (A : Option Addr) (C : Nat) (ls : List (List Int)) (g : List Int) (hl : ∀ k, k < ls.length → IsS (rw_ ls k) 24) (hg : IsS g 24) (gb : Nat) (w : World) (h1 : Msk w w.heap.size A ls) (hln : ls.length ≤ maxLen)
    (hgc : w.cell? ⟨gb, 0, none⟩ = some (.int .u64 (mask g))) :
    Calls Tryd.prog 65 #[.slice A ls.length C, .func (.func 48) #[] #[.pointer (some ⟨gb, 0, none⟩)]] w fun e w' => e = .returned (.int .i64 (idxB (fun j => subB g (rw_ ls j)) ls.length)) ∧ w = w' := by
  unfold maxLen at hln
  have HL := Lib.hid hl
  have HS := Lib.hid hg
  have H1 := Lib.hid h1
  clear hl hg h1
  go_enter Tryd.func65, Tryd.ntmps65
  go_wp2
  go_loop [8] (fun i => ∃ k : Nat, k ≤ ls.length ∧ i = .int .i64 k ∧ ∀ j, j < k → subB g (rw_ ls j) = false) (fun i => ls.length - (intOf i).toNat)
  case atStart => exact ⟨0, by omega, rfl, by omega⟩
  case round =>
    obtain ⟨k, hk, rfl, hj⟩ := hrel
    have HJ := Lib.hid hj
    clear hj
    by_cases hlt : k < ls.length
    · obtain ⟨b, o, hA, hbl, hq⟩ := H1.out (by omega)
      subst hA
      have hc := hq k hlt
      clear hq
      have hE := lgCl_any (rw_ ls k) g gb w (HL.out k hlt) HS.out hgc
      cases hi : subB g (rw_ ls k)
      · rw [hi] at hE
        have HE := Lib.hid hE
        have HI := Lib.hid hi
        clear hE
        go_wp2_with (go_at_call 48; (with_reducible refine HE.out.mono ?_); rintro e w2 ⟨rfl, rfl⟩)
        go_round
        case rel => exact ⟨k + 1, by omega, by go_num, all_stepF HJ.out HI.out⟩
        case measure => simp [intOf]; omega
      · rw [hi] at hE
        have HE := Lib.hid hE
        have HI := Lib.hid hi
        clear hE
        go_wp2_with (go_at_call 48; (with_reducible refine HE.out.mono ?_); rintro e w2 ⟨rfl, rfl⟩)
        go_ret
        exact ⟨ret_int2 (idxB_hit hlt HI.out HJ.out).symm, rfl⟩
    · have hge : ¬ ((k : Int) < ls.length) := by omega
      go_wp2
      go_ret
      exact ⟨ret_int2 (idxB_miss (fun j h => HJ.out j (by omega))).symm, rfl⟩
def partB (ls : List (List Int)) (g : List Int) : Bool := (List.range ls.length).any (fun j => subB g (rw_ ls j))
set_option maxHeartbeats 400000 in
theorem containsS_any (A : Option Addr) (C : Nat) (ls : List (List Int)) (g : List Int) (hl : ∀ k, k < ls.length → IsS (rw_ ls k) 24) (hg : IsS g 24) (gb : Nat) (w : World) (h1 : Msk w w.heap.size A ls) (hln : ls.length ≤ maxLen)
    (hgc : w.cell? ⟨gb, 0, none⟩ = some (.int .u64 (mask g))) :
    Calls Tryd.prog 47 #[.slice A ls.length C, .func (.func 48) #[] #[.pointer (some ⟨gb, 0, none⟩)]] w fun e w' => e = .returned (.bool (partB ls g)) ∧ w = w' := by
  have HR := indexS_any A C ls g hl hg gb w h1 hln hgc
  have hI := idxB_has (fun j => subB g (rw_ ls j)) ls.length
  clear hl hg h1
  go_enter Tryd.func47, Tryd.ntmps47
  go_wp2_with (go_at_call 65; refine HR.mono ?_; rintro e w' ⟨rfl, rfl⟩)
  go_ret
  exact ⟨rfl, rfl⟩

/-- The set of round i, and what is found in the rounds before i. -/
def grL (n i : Nat) : List Int := facs n (2 ^ n - 1 - i).testBit
def lgB (x : Tsk) (ls : List (List Int)) (g : List Int) : Bool := decide (1 < g.length) && !partB ls g && indB x g
def lgs (x : Tsk) (n : Nat) : Nat → List (List Int)
  | 0 => []
  | i + 1 => if lgB x (lgs x n i) (grL n i) then lgs x n i ++ [grL n i] else lgs x n i
theorem grL_isS (n i : Nat) : IsS (grL n i) n := facs_isS _ _
theorem mask_facs {n m : Nat} (hm : m < 2 ^ n) : mask (facs n m.testBit) = m := by
  apply Nat.eq_of_testBit_eq
  intro p
  rw [mask_bit (fun x hx => ((facs_isS n _).2 x hx).1), Bool.eq_iff_iff, decide_eq_true_eq, mem_facs]
  constructor
  · rintro ⟨_, _, h⟩; simpa using h
  · intro h
    refine ⟨by omega, ?_, by simpa using h⟩
    rcases Nat.lt_or_ge p n with h1 | h1
    · omega
    · rw [Nat.testBit_lt_two_pow (Nat.lt_of_lt_of_le hm (Nat.pow_le_pow_right (by omega) h1))] at h
      cases h
theorem mask_grL {n i : Nat} (hi : i < 2 ^ n) : mask (grL n i) = 2 ^ n - 1 - i := mask_facs (by omega)
theorem lgs_mem {x : Tsk} {n : Nat} : ∀ {k : Nat} {g : List Int}, g ∈ lgs x n k → ∃ i, i < k ∧ g = grL n i
  | 0, g, h => by simp [lgs] at h
  | k + 1, g, h => by
    unfold lgs at h
    split at h
    · rcases List.mem_append.1 h with h | h
      · obtain ⟨i, hi, e⟩ := lgs_mem h; exact ⟨i, by omega, e⟩
      · exact ⟨k, by omega, by simpa using h⟩
    · obtain ⟨i, hi, e⟩ := lgs_mem h; exact ⟨i, by omega, e⟩
theorem lgs_len {x : Tsk} {n : Nat} : ∀ k : Nat, (lgs x n k).length ≤ k
  | 0 => by simp [lgs]
  | k + 1 => by
    have := lgs_len (x := x) (n := n) k
    unfold lgs
    split
    · rw [List.length_append]; simp; omega
    · omega
theorem rw_mem {ls : List (List Int)} {k : Nat} (h : k < ls.length) : rw_ ls k ∈ ls := by
  simp [rw_, List.getD, List.getElem?_eq_getElem h]
end Go.Proofs.YtenmegkokclolaaDoor

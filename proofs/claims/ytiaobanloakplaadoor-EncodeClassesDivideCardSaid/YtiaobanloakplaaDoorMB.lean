/- Maf, Mso, Mza in one text. -/
import Derived.Test.YtiaobanloakplaaDoorMA

/- MultiAfter of the reference. -/
section
namespace Go.Proofs.YtiaobanloakplaaDoor
open Go.RowKit
set_option linter.unusedSimpArgs false
set_option linter.unusedVariables false
set_option maxRecDepth 100000

theorem own_some1 {W : World} {base n : Nat} {e : TypeId} {v : Value} {xs : List Value} (h : W.ownsRow base e 1 v n xs) (hn : 1 ≤ n) : ∃ g cap, v = .slice (some ⟨g, 0, none⟩) n cap ∧ base ≤ g ∧ g < W.heap.size := by
  rcases h.2 with ⟨_, h0⟩ | ⟨g, cap, cur, rfl, hb, hh, _⟩
  · omega
  · exact ⟨g, cap, rfl, hb, (Array.getElem?_eq_some_iff.1 hh).1⟩
/-- A state in a row of its own. -/
abbrev Row (W : World) (base g cap : Nat) (s : List Int) : Prop := W.ownsRow base 3 1 (.slice (some ⟨g, 0, none⟩) s.length cap) s.length (s.map (Value.int .i64))
theorem row_cell {W : World} {base g cap : Nat} {s : List Int} (h : Row W base g cap s) {m : Nat} (hm : m < s.length) : W.cell? ⟨g, m, none⟩ = some (.int .i64 (ix s m)) ∧ W.frozen? ⟨g, m, none⟩ = false := by
  have z1 := h.cellAt m (by omega)
  have z2 := h.frozenAt m
  have hz : (s.map (Value.int .i64))[m]? = some (.int .i64 (ix s m)) := by simp [ix, List.getD, hm]
  rw [hz] at z1
  exact ⟨z1, z2⟩
theorem row_put {W : World} {base g cap : Nat} {s : List Int} (h : Row W base g cap s) (m : Nat) (z : Int) : Row (W.setCell ⟨g, m, none⟩ (.int .i64 z)) base g cap (s.set m z) := by
  have h1 := (h.stored m (.int .i64 z)).1
  rw [← List.map_set] at h1
  unfold Row
  rw [List.length_set]
  exact h1
theorem row_to {W W' : World} {base g cap : Nat} {s : List Int} (h : Row W base g cap s) (hb : Below W.heap.size W W') : Row W' base g cap s := own_to h hb
theorem BxM.set {w W : World} {x : MT} (h : BxM w W x) {g m : Nat} (hg : w.heap.size < g) (v : Value) : BxM w (W.setCell ⟨g, m, none⟩ v) x := ⟨h.below.setCell (by show w.heap.size ≤ g; omega) _, h.box.far (by show g ≠ w.heap.size; omega) _⟩
end Go.Proofs.YtiaobanloakplaaDoor
end

/- MultiSolves of the reference. -/
section
namespace Go.Proofs.YtiaobanloakplaaDoor
open Go.RowKit
set_option linter.unusedSimpArgs false
set_option linter.unusedVariables false
set_option maxRecDepth 100000

/-- A state in memory. -/
structure StM (W : World) (s : Value) (t : List Int) : Prop where
  ex : ∃ a c, s = .slice a t.length c ∧ Lst W W.heap.size a c t ∧ (a = none → c = 0)
theorem StM.to {W W' : World} {s : Value} {t : List Int} (h : StM W s t) (hb : Below W.heap.size W W') : StM W' s t := by
  obtain ⟨a, c, e, hl, h0⟩ := h.ex
  exact ⟨a, c, e, hl.to hb hb.size, h0⟩
theorem stM_own {W : World} {base : Nat} {v : Value} {t : List Int} (h : W.ownsRow base 3 1 v t.length (t.map (Value.int .i64))) : StM W v t := by
  obtain ⟨a, c, e, hl, h0⟩ := own_lst h
  exact ⟨a, c, e, hl, h0⟩
end Go.Proofs.YtiaobanloakplaaDoor
end

/- Validate and what it stands on. -/
section
namespace Go.Proofs.YtiaobanloakplaaDoor
open Go.RowKit
set_option linter.unusedSimpArgs false
set_option linter.unusedVariables false
set_option maxRecDepth 100000

/-- The first place before n at which p is true, or -1. -/
def idxB (p : Nat → Bool) (n : Nat) : Int := match (List.range n).find? p with
  | some j => j
  | none => -1
theorem idxB_has (p : Nat → Bool) (n : Nat) : decide (0 ≤ idxB p n) = (List.range n).any p := by
  unfold idxB
  cases h : (List.range n).find? p with
  | none =>
    rw [List.find?_eq_none] at h
    have : (List.range n).any p = false := by
      rw [List.any_eq_false]
      exact fun x hx => h x hx
    rw [this]
    rfl
  | some j =>
    have h1 := List.find?_some h
    have h2 := List.mem_of_find?_eq_some h
    have : (List.range n).any p = true := List.any_eq_true.2 ⟨j, h2, h1⟩
    rw [this]
    simp
theorem idxB_hit {p : Nat → Bool} {n k : Nat} (hk : k < n) (h : p k = true) (hj : ∀ j, j < k → p j = false) : idxB p n = k := by
  unfold idxB
  have : (List.range n).find? p = some k := by
    rw [List.find?_range_eq_some]
    refine ⟨h, by simpa using hk, fun j hjk => ?_⟩
    simp [hj j hjk]
  rw [this]
theorem idxB_miss {p : Nat → Bool} {n : Nat} (hj : ∀ j, j < n → p j = false) : idxB p n = -1 := by
  unfold idxB
  have : (List.range n).find? p = none := by
    rw [List.find?_eq_none]
    intro j h
    simp [hj j (by simpa using h)]
  rw [this]
theorem ret_int2 {k : IntKind} {a b : Int} (h : a = b) : Ending.returned (.int k a) = Ending.returned (.int k b) := by rw [h]

def nsB (S : List Int) (j : Nat) : Bool := !inB (ix S j) 1 6
theorem szB_any (S : List Int) : szB S = !(List.range S.length).any (nsB S) := by
  unfold szB allB nsB
  rw [Bool.eq_iff_iff]
  simp
set_option maxHeartbeats 400000 in
theorem noSize_any (z : Int) (w : World) : Calls Tryd.prog 54 #[.int .i64 z] w fun e w' => e = .returned (.bool (!inB z 1 6)) ∧ w = w' := by
  by_cases h1 : z < 1
  · have h := inB_no (x := z) (a := 1) (b := 6) (by omega)
    have hd : decide (z < 1) = true := decide_eq_true h1
    go_enter Tryd.func54, Tryd.ntmps54
    go_wp2
    go_ret
    first | exact ⟨rfl, rfl⟩ | exact ⟨ret_val (by rw [h]; rfl), rfl⟩
  have hd : decide (z < 1) = false := decide_eq_false h1
  by_cases h2 : 6 < z
  · have h := inB_no (x := z) (a := 1) (b := 6) (by omega)
    have hd2 : decide (6 < z) = true := decide_eq_true h2
    go_enter Tryd.func54, Tryd.ntmps54
    go_wp2
    go_ret
    first | exact ⟨rfl, rfl⟩ | exact ⟨ret_val (by rw [h]; rfl), rfl⟩
  · have h := inB_iff (x := z) (a := 1) (b := 6).2 (by omega)
    have hd2 : decide (6 < z) = false := decide_eq_false h2
    go_enter Tryd.func54, Tryd.ntmps54
    go_wp2
    go_ret
    first | exact ⟨rfl, rfl⟩ | exact ⟨ret_val (by rw [h]; rfl), rfl⟩
set_option maxHeartbeats 1000000 in
theorem indexI_any (A : Option Addr) (c : Nat) (l : List Int) (w : World) (hL : Lst w w.heap.size A c l) :
    Calls Tryd.prog 79 #[.slice A l.length c, .func (.func 54) #[] #[]] w fun e w' => e = .returned (.int .i64 (idxB (nsB l) l.length)) ∧ w = w' := by
  have hln := hL.len
  unfold maxLen at hln
  have HL := Lib.hid hL
  clear hL
  go_enter Tryd.func79, Tryd.ntmps79
  go_wp2
  go_loop [8] (fun i => ∃ k : Nat, k ≤ l.length ∧ i = .int .i64 k ∧ ∀ j, j < k → nsB l j = false) (fun i => l.length - (intOf i).toNat)
  case atStart => exact ⟨0, by omega, rfl, by omega⟩
  case round =>
    obtain ⟨k, hk, rfl, hj⟩ := hrel
    have HJ := Lib.hid hj
    clear hj
    by_cases hlt : k < l.length
    · obtain ⟨b, o, rfl, _, hcc⟩ := HL.out.nums.at_ hlt
      have HR := noSize_any (ix l k) w
      cases hi : nsB l k
      · have HI := Lib.hid hi
        unfold nsB at hi
        rw [hi] at HR
        go_wp2_with (go_at_call 54; refine HR.mono ?_; rintro e w' ⟨rfl, rfl⟩)
        go_round
        case rel => exact ⟨k + 1, by omega, by go_num, all_step HJ.out HI.out⟩
        case measure => simp [intOf]; omega
      · have HI := Lib.hid hi
        unfold nsB at hi
        rw [hi] at HR
        go_wp2_with (go_at_call 54; refine HR.mono ?_; rintro e w' ⟨rfl, rfl⟩)
        go_ret
        exact ⟨ret_int2 (idxB_hit hlt HI.out HJ.out).symm, rfl⟩
    · have hge : ¬ ((k : Int) < l.length) := by omega
      go_wp2
      go_ret
      exact ⟨ret_int2 (idxB_miss (fun j h => HJ.out j (by omega))).symm, rfl⟩
set_option maxHeartbeats 400000 in
theorem containsI_any (A : Option Addr) (c : Nat) (l : List Int) (w : World) (hL : Lst w w.heap.size A c l) :
    Calls Tryd.prog 55 #[.slice A l.length c, .func (.func 54) #[] #[]] w fun e w' => e = .returned (.bool (!szB l)) ∧ w = w' := by
  have HR := indexI_any A c l w hL
  have hI := idxB_has (nsB l) l.length
  have HS := Lib.hid (szB_any l)
  clear hL
  go_enter Tryd.func55, Tryd.ntmps55
  go_wp2_with (go_at_call 79; refine HR.mono ?_; rintro e w' ⟨rfl, rfl⟩)
  go_ret
  exact ⟨ret_val (by rw [HS.out, Bool.not_not]; rfl), rfl⟩

set_option maxHeartbeats 1000000 in
theorem isState_any (A A2 : Option Addr) (c c2 : Nat) (S s : List Int) (w : World) (hS : Lst w w.heap.size A c S) (hL : Lst w w.heap.size A2 c2 s) :
    Calls Tryd.prog 56 #[.slice A S.length c, .slice A2 s.length c2] w fun e w' => e = .returned (.bool (msB S s)) ∧ w = w' := by
  have hln := hL.len
  have hls := hS.len
  unfold maxLen at hln hls
  have HL := Lib.hid hL
  have HS := Lib.hid hS
  clear hL hS
  by_cases e : s.length = S.length
  case neg =>
    have hne : ((s.length : Int) == (S.length : Int)) = false := by rw [beq_len, decide_eq_false e]
    have hne2 : ((s.length : Int) != (S.length : Int)) = true := by simp; omega
    have H := Lib.hid (show msB S s = false by unfold msB; rw [decide_eq_false e]; rfl)
    clear e
    go_enter Tryd.func56, Tryd.ntmps56
    go_wp2
    go_ret
    exact ⟨ret_val (by rw [H.out]; rfl), rfl⟩
  have hne : ((s.length : Int) == (S.length : Int)) = true := by rw [beq_len, decide_eq_true e]
  have hne2 : ((s.length : Int) != (S.length : Int)) = false := by simp; omega
  have HE := Lib.hid e
  clear e
  go_enter Tryd.func56, Tryd.ntmps56
  go_wp2
  go_loop [14] (fun i => ∃ k : Nat, k ≤ s.length ∧ i = .int .i64 k ∧ ∀ j, j < k → st1 S s j = true) (fun i => s.length - (intOf i).toNat)
  case atStart => exact ⟨0, by omega, rfl, by omega⟩
  case round =>
    obtain ⟨k, hk, rfl, hj⟩ := hrel
    have HJ := Lib.hid hj
    clear hj
    by_cases hlt : k < s.length
    case neg =>
      have hge : ¬ ((k : Int) < s.length) := by omega
      have HG := Lib.hid (st_good HE.out (fun j hj => HJ.out j (by omega)))
      go_wp2
      go_ret
      exact ⟨ret_val (by rw [HG.out]; rfl), rfl⟩
    obtain ⟨b, o, rfl, _, hc⟩ := HL.out.nums.at_ hlt
    have hlt2 : k < S.length := by have := HE.out; omega
    obtain ⟨b2, o2, rfl, _, hc2⟩ := HS.out.nums.at_ hlt2
    have hs1 : st1 S s k = inB (ix s k) 0 (ix S k - 1) := rfl
    by_cases h1 : ix s k < 0
    · have HB := Lib.hid (st_bad hlt (by rw [hs1]; exact inB_no (by omega)))
      have hd : decide (ix s k < 0) = true := decide_eq_true h1
      clear hs1
      go_wp2
      go_ret
      exact ⟨ret_val (by rw [HB.out]; rfl), rfl⟩
    have hd : decide (ix s k < 0) = false := decide_eq_false h1
    by_cases h2 : ix S k ≤ ix s k
    · have HB := Lib.hid (st_bad hlt (by rw [hs1]; exact inB_no (by omega)))
      have hd2 : decide (ix S k ≤ ix s k) = true := decide_eq_true h2
      clear hs1
      go_wp2
      go_ret
      exact ⟨ret_val (by rw [HB.out]; rfl), rfl⟩
    · have HI := Lib.hid (show st1 S s k = true by rw [hs1]; exact inB_iff.2 (by omega))
      have hd2 : decide (ix S k ≤ ix s k) = false := decide_eq_false h2
      clear hs1
      go_wp2
      go_round
      case rel => exact ⟨k + 1, by omega, by go_num, all_step HJ.out HI.out⟩
      case measure => simp [intOf]; omega

end Go.Proofs.YtiaobanloakplaaDoor
end

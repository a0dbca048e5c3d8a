/- isWithin and isList of package numeric. -/
import Derived.Test.YtiafplmaigpmeaaNex
namespace Go.Proofs.Ytiafplmaigpmeaa
open Go.RowKit
set_option linter.unusedSimpArgs false
set_option linter.unusedVariables false
set_option maxRecDepth 100000

/-- The first place before n at which p is true, or -1. -/
def idxB (p : Nat → Bool) (n : Nat) : Int := match (List.range n).find? p with
  | some j => j
  | none => -1
theorem idxB_has (p : Nat → Bool) (n : Nat) : decide (0 ≤ idxB p n) = (List.range n).any p := by
  unfold idxB
  cases h : (List.range n).find? p with
  | none =>
    rw [List.find?_eq_none] at h
    have : (List.range n).any p = false := by
      rw [List.any_eq_false]
      exact fun x hx => h x hx
    rw [this]
    rfl
  | some j =>
    have h1 := List.find?_some h
    have h2 := List.mem_of_find?_eq_some h
    have : (List.range n).any p = true := List.any_eq_true.2 ⟨j, h2, h1⟩
    rw [this]
    simp
theorem idxB_hit {p : Nat → Bool} {n k : Nat} (hk : k < n) (h : p k = true) (hj : ∀ j, j < k → p j = false) : idxB p n = k := by
  unfold idxB
  have : (List.range n).find? p = some k := by
    rw [List.find?_range_eq_some]
    refine ⟨h, by simpa using hk, fun j hjk => ?_⟩
    simp [hj j hjk]
  rw [this]
theorem idxB_miss {p : Nat → Bool} {n : Nat} (hj : ∀ j, j < n → p j = false) : idxB p n = -1 := by
  unfold idxB
  have : (List.range n).find? p = none := by
    rw [List.find?_eq_none]
    intro j h
    simp [hj j (by simpa using h)]
  rw [this]
theorem ret_int2 {k : IntKind} {a b : Int} (h : a = b) : Ending.returned (.int k a) = Ending.returned (.int k b) := by rw [h]
theorem okL_any {m : Int} {n : Nat} {l : List Int} : okL m n l = (decide (l.length = n) && !(List.range l.length).any (fun j => !inB (ix l j) (-m) m)) := by
  have : l.all (fun x => inB x (-m) m) = !(List.range l.length).any (fun j => !inB (ix l j) (-m) m) := by
    rw [Bool.eq_iff_iff]
    simp only [List.all_eq_true, Bool.not_eq_true', List.any_eq_false, Bool.not_eq_false', Bool.not_not, List.mem_range]
    constructor
    · intro h j hj
      simpa using h _ (ix_mem hj)
    · intro h x hx
      obtain ⟨k, hk, rfl⟩ := mem_ix hx
      simpa using h k hk
  unfold okL
  rw [this, Bool.and_comm]

theorem inB_no' {x a b : Int} (h : ¬ (a ≤ x ∧ x ≤ b)) : inB x a b = false := by
  cases e : inB x a b
  · rfl
  · exact absurd (inB_iff.1 e) h
set_option maxHeartbeats 400000 in
theorem within_any (n m : Int) (hm : 0 ≤ m) (hm2 : m ≤ 1000000000) (w : World) :
    Calls Try.prog 40 #[.int .i64 n, .int .i64 m] w fun e w' => e = .returned (.bool (inB n (-m) m)) ∧ w = w' := by
  have hw1 : IntKind.i64.wrap (-m) = -m := IntWalk.i64_in _ (by omega)
  have hw2 : IntKind.i64.wrap (0 - m) = -m := by rw [Int.zero_sub]; exact hw1
  by_cases h1 : -m ≤ n
  · go_enter Try.func40, Try.ntmps40
    go_wp2
    go_ret
    exact ⟨ret_val (by simp [inB, h1]), rfl⟩
  · go_enter Try.func40, Try.ntmps40
    go_wp2
    go_ret
    exact ⟨ret_val (by rw [inB_no' (by omega)]; rfl), rfl⟩
set_option maxHeartbeats 400000 in
theorem exceeds_any (n m : Int) (hm : 0 ≤ m) (hm2 : m ≤ 1000000000) (bx : Nat) (w : World) (hb : bx < w.heap.size) (hc : w.cell? ⟨bx, 0, none⟩ = some (.int .i64 m)) :
    Calls Try.prog 39 #[.int .i64 n, .pointer (some ⟨bx, 0, none⟩)] w fun e w' => e = .returned (.bool (!inB n (-m) m)) ∧ w = w' := by
  have HW := Lib.hid (within_any n m hm hm2)
  go_enter Try.func39, Try.ntmps39
  go_wp2_with (go_at_call 40; refine (HW.out _).mono ?_; rintro e w' ⟨rfl, rfl⟩)
  go_ret
  exact ⟨rfl, rfl⟩
set_option maxHeartbeats 1000000 in
theorem indexI_any (A : Option Addr) (c : Nat) (l : List Int) (m : Int) (hm : 0 ≤ m) (hm2 : m ≤ 1000000000) (bx : Nat) (w : World) (hL : Lst w w.heap.size A c l) (hb : bx < w.heap.size) (hc : w.cell? ⟨bx, 0, none⟩ = some (.int .i64 m)) :
    Calls Try.prog 49 #[.slice A l.length c, .func (.func 39) #[] #[.pointer (some ⟨bx, 0, none⟩)]] w fun e w' => e = .returned (.int .i64 (idxB (fun j => !inB (ix l j) (-m) m) l.length)) ∧ w = w' := by
  have hln := hL.len
  unfold maxLen at hln
  have HL := Lib.hid hL
  have HX := Lib.hid (fun n => exceeds_any n m hm hm2 bx w hb hc)
  clear hL hc
  go_enter Try.func49, Try.ntmps49
  go_wp2
  go_loop [8] (fun i => ∃ k : Nat, k ≤ l.length ∧ i = .int .i64 k ∧ ∀ j, j < k → inB (ix l j) (-m) m = true) (fun i => l.length - (intOf i).toNat)
  case atStart => exact ⟨0, by omega, rfl, by omega⟩
  case round =>
    obtain ⟨k, hk, rfl, hj⟩ := hrel
    have HJ := Lib.hid hj
    clear hj
    by_cases hlt : k < l.length
    · obtain ⟨b, o, rfl, _, hcc⟩ := HL.out.nums.at_ hlt
      cases hi : inB (ix l k) (-m) m
      · have HI := Lib.hid hi
        have HR := HX.out (ix l k)
        rw [hi] at HR
        go_wp2_with (go_at_call 39; refine HR.mono ?_; rintro e w' ⟨rfl, rfl⟩)
        go_ret
        exact ⟨ret_int2 (idxB_hit hlt (by rw [HI.out]; rfl) (fun j h => by rw [HJ.out j h]; rfl)).symm, rfl⟩
      · have HI := Lib.hid hi
        have HR := HX.out (ix l k)
        rw [hi] at HR
        go_wp2_with (go_at_call 39; refine HR.mono ?_; rintro e w' ⟨rfl, rfl⟩)
        go_round
        case rel => exact ⟨k + 1, by omega, by go_num, all_step HJ.out HI.out⟩
        case measure => simp [intOf]; omega
    · have hge : ¬ ((k : Int) < l.length) := by omega
      go_wp2
      go_ret
      exact ⟨ret_int2 (idxB_miss (fun j h => by rw [HJ.out j (by omega)]; rfl)).symm, rfl⟩
set_option maxHeartbeats 400000 in
theorem containsI_any (A : Option Addr) (c : Nat) (l : List Int) (m : Int) (hm : 0 ≤ m) (hm2 : m ≤ 1000000000) (bx : Nat) (w : World) (hL : Lst w w.heap.size A c l) (hb : bx < w.heap.size) (hc : w.cell? ⟨bx, 0, none⟩ = some (.int .i64 m)) :
    Calls Try.prog 41 #[.slice A l.length c, .func (.func 39) #[] #[.pointer (some ⟨bx, 0, none⟩)]] w fun e w' => e = .returned (.bool ((List.range l.length).any (fun j => !inB (ix l j) (-m) m))) ∧ w = w' := by
  have HR := indexI_any A c l m hm hm2 bx w hL hb hc
  have hI := idxB_has (fun j => !inB (ix l j) (-m) m) l.length
  clear hL hc
  go_enter Try.func41, Try.ntmps41
  go_wp2_with (go_at_call 49; refine HR.mono ?_; rintro e w' ⟨rfl, rfl⟩)
  go_ret
  exact ⟨rfl, rfl⟩
set_option maxHeartbeats 1000000 in
theorem isList_any (A : Option Addr) (c : Nat) (l : List Int) (n : Nat) (m : Int) (hm : 0 ≤ m) (hm2 : m ≤ 1000000000) (w : World) (hL : Lst w w.heap.size A c l) :
    Calls Try.prog 27 #[.slice A l.length c, .int .i64 n, .int .i64 m] w fun e w' => e = .returned (.bool (okL m n l)) ∧ Below w.heap.size w w' := by
  have hq := beq_len l.length n
  have HR := Lib.hid (fun (W : World) (hb : Below w.heap.size w W) (hs : w.heap.size < W.heap.size) (hc : W.cell? ⟨w.heap.size, 0, none⟩ = some (.int .i64 m)) => containsI_any A c l m hm hm2 w.heap.size W (hL.to hb hb.size) hs hc)
  have HO := Lib.hid (okL_any (m := m) (n := n) (l := l))
  have hR1 := HR.out (w.alloc (.cells #[.int .i64 m] 3)) (by go_grown) (by simp) (by simp)
  clear hL
  by_cases h : l.length = n
  · rw [decide_eq_true h] at HO
    clear hq
    subst h
    go_enter Try.func27, Try.ntmps27
    go_wp2_with (go_at_call 41; refine hR1.mono ?_; rintro e w' ⟨rfl, rfl⟩)
    go_ret
    exact ⟨ret_val (by rw [HO.out]; simp), by go_grown⟩
  · rw [decide_eq_false h] at HO hq
    clear h
    go_enter Try.func27, Try.ntmps27
    go_wp2
    go_ret
    exact ⟨ret_val (by rw [HO.out]; simp), by go_grown⟩
end Go.Proofs.Ytiafplmaigpmeaa

/- Leaves of package strips and of the reference: isSet, setOf, contains, Has, Subset, Disjoint, IsSet. -/
import Derived.Test.YtenmegkokclolaaDoorKmem
import Derived.Laws.BitsAllLaws
namespace Go.Proofs.YtenmegkokclolaaDoor
open Go.RowKit
set_option linter.unusedSimpArgs false
set_option linter.unusedVariables false
set_option maxRecDepth 100000

theorem quiet_same {P : Program} {f : FuncId} {args : Array Value} {w : World} {n : Nat} {v : Value}
    (h : Calls P f args (w.drewN n) fun e w' => e = .returned v ∧ w.drewN n = w') : Calls P f args (w.drewN n) fun e w'' => e = .returned v ∧ ∃ m, w'' = w.drewN m :=
  h.mono fun _ _ ⟨he, hm⟩ => ⟨he, n, hm.symm⟩
theorem Nums.drewN {w : World} {B : Nat} {a : Option Addr} {xs : List Int} (h : Nums w B a xs) (n : Nat) : Nums (w.drewN n) B a xs := h

def lst0 (l : List Int) (k : Nat) : Int := if k = 0 then 0 else ix l (k - 1) + 1
theorem lst0_succ (l : List Int) (k : Nat) : lst0 l (k + 1) = ix l k + 1 := by simp [lst0]
theorem lst0_ok {l : List Int} {n : Int} {k : Nat} (h : ∀ j, j < k → okAt l n j = true) : 0 ≤ lst0 l k := by
  unfold lst0
  split
  · omega
  · have := (okAt_iff.1 (h (k - 1) (by omega))).1
    omega
theorem okAt_low {l : List Int} {n : Int} {k : Nat} (h : ix l k < lst0 l k) : okAt l n k = false := by
  rw [← Bool.not_eq_true, okAt_iff]
  rintro ⟨h0, _, h2⟩
  unfold lst0 at h
  split at h
  · omega
  · rename_i hk
    rcases h2 with h2 | h2
    · exact hk h2
    · omega
theorem okAt_high {l : List Int} {n : Int} {k : Nat} (h : n ≤ ix l k) : okAt l n k = false := by
  rw [← Bool.not_eq_true, okAt_iff]
  rintro ⟨_, h1, _⟩
  omega
theorem okAt_yes {l : List Int} {n : Int} {k : Nat} (h0 : 0 ≤ lst0 l k) (h1 : lst0 l k ≤ ix l k) (h2 : ix l k < n) : okAt l n k = true := by
  rw [okAt_iff]
  refine ⟨by omega, h2, ?_⟩
  unfold lst0 at h1
  split at h1
  · exact .inl ‹_›
  · exact .inr (by omega)

set_option maxHeartbeats 1000000 in
theorem isSet_any (A : Option Addr) (c : Nat) (l : List Int) (n : Int) (w : World) (hn : n ≤ 24) (hL : Nums w w.heap.size A l) (hlen : l.length ≤ maxLen) :
    Calls Tryd.prog 25 #[.slice A l.length c, .int .i64 n] w fun e w' => e = .returned (.bool (setB l n)) ∧ w = w' := by
  unfold maxLen at hlen
  have HL := Lib.hid hL
  clear hL
  go_enter Tryd.func25, Tryd.ntmps25
  go_wp2
  go_loop [5, 10] (fun v i => ∃ k : Nat, k ≤ l.length ∧ i = .int .i64 k ∧ v = .int .i64 (lst0 l k) ∧ ∀ j, j < k → okAt l n j = true) (fun _ i => l.length - (intOf i).toNat)
  case atStart => exact ⟨0, by omega, rfl, rfl, by omega⟩
  case round =>
    obtain ⟨k, hk, rfl, rfl, hj⟩ := hrel
    have h0 := lst0_ok hj
    have HJ := Lib.hid hj
    clear hj
    by_cases hlt : k < l.length
    · obtain ⟨b, o, rfl, _, hc⟩ := HL.out.at_ hlt
      rcases Int.lt_or_le (ix l k) (lst0 l k) with h1 | h1
      · have HB := Lib.hid (okAt_low (n := n) h1)
        go_wp2
        go_ret
        exact ⟨ret_bool (setB_bad hlt HB.out).symm, rfl⟩
      · rcases Int.lt_or_le (ix l k) n with h2 | h2
        · have HB := Lib.hid (okAt_yes h0 h1 h2)
          have HS := Lib.hid (lst0_succ l k)
          go_wp2
          go_round
          case rel => exact ⟨k + 1, by omega, by go_num, by rw [HS.out], okAt_step HJ.out HB.out⟩
          case measure => simp [intOf]; omega
        · have HB := Lib.hid (okAt_high (l := l) (n := n) h2)
          go_wp2
          go_ret
          exact ⟨ret_bool (setB_bad hlt HB.out).symm, rfl⟩
    · have hge : ¬ ((k : Int) < l.length) := by omega
      go_wp2
      go_ret
      exact ⟨ret_bool (setB_good (fun j hj => HJ.out j (by omega))).symm, rfl⟩

theorem pow_cast (n : Nat) : ((2 : Int) ^ n) = ((2 ^ n : Nat) : Int) := by simp
theorem pow_lt64 {x : Int} (h1 : x < 64) : 2 ^ x.toNat < 18446744073709551616 := by
  have h2 : (2 : Nat) ^ x.toNat < 2 ^ 64 := Nat.pow_lt_pow_right (by omega) (by omega)
  omega
theorem or_pow (m : Nat) (x : Int) (hm : m < 18446744073709551616) (h1 : x < 64) :
    bits .or .u64 (m : Int) (IntKind.u64.wrap (2 ^ x.toNat)) = ((m ||| 2 ^ x.toNat : Nat) : Int) := by
  have hp := pow_lt64 h1
  have e : IntKind.u64.wrap (2 ^ x.toNat) = ((2 ^ x.toNat : Nat) : Int) := by
    rw [IntKind.wrap_u64, pow_cast]
    generalize 2 ^ x.toNat = q at hp ⊢
    omega
  rw [e]
  exact u64_or_nat _ _ hm hp

theorem wrap_small {x : Int} (h0 : 0 ≤ x) (h1 : x < 24) : IntKind.u64.wrap x = x := by
  rw [IntKind.wrap_u64]; omega

set_option maxHeartbeats 1000000 in
theorem setOf_any (A : Option Addr) (c : Nat) (l : List Int) (w : World) (hS : IsS l 24) (hL : Nums w w.heap.size A l) :
    Calls Tryd.prog 27 #[.slice A l.length c] w fun e w' => e = .returned (.int .u64 (mask l)) ∧ w = w' := by
  have hlen : l.length ≤ 24 := isS_len (n := 24) hS
  have HL := Lib.hid hL
  clear hL
  have HS := Lib.hid hS
  clear hS
  go_enter Tryd.func27, Tryd.ntmps27
  go_wp2
  go_loop [3, 8] (fun v i => ∃ k : Nat, k ≤ l.length ∧ i = .int .i64 k ∧ v = .int .u64 (mask (l.take k))) (fun _ i => l.length - (intOf i).toNat)
  case atStart => exact ⟨0, by omega, rfl, rfl⟩
  case round =>
    obtain ⟨k, hk, rfl, rfl⟩ := hrel
    by_cases hlt : k < l.length
    · obtain ⟨b, o, rfl, _, hc⟩ := HL.out.at_ hlt
      obtain ⟨h0, h1⟩ := HS.out.2 _ (ix_mem hlt)
      have hm : mask (l.take k) < 18446744073709551616 := mask_lt64 ⟨HS.out.1.sublist (List.take_sublist _ _), fun x hx => HS.out.2 x (List.mem_of_mem_take hx)⟩
      have HO := Lib.hid (or_pow (mask (l.take k)) (ix l k) hm (by omega))
      have HM := Lib.hid (mask_take hlt)
      have HW := Lib.hid (wrap_small h0 h1)
      go_wp2
      go_round
      case rel => exact ⟨k + 1, by omega, by go_num, by rw [HM.out, HO.out]⟩
      case measure => simp [intOf]; omega
    · have hge : ¬ ((k : Int) < l.length) := by omega
      go_wp2
      go_ret
      exact ⟨ret_int (by rw [List.take_of_length_le (by omega)]), rfl⟩

theorem zero_cast (m : Nat) : ((m : Int) == 0) = (m == 0) := by
  rw [Bool.eq_iff_iff, beq_iff_eq, beq_iff_eq]; omega

set_option maxHeartbeats 400000 in
theorem contains_any (s l : List Int) (w : World) (hs : IsS s 24) (hl : IsS l 24) :
    Calls Tryd.prog 49 #[.int .u64 (mask s), .int .u64 (mask l)] w fun e w' => e = .returned (.bool (subB l s)) ∧ w = w' := by
  have H := Lib.hid (show (bits .andNot .u64 (mask l : Int) (mask s : Int) == 0) = subB l s by rw [u64_andNot_nat _ _ (mask_lt64 hl) (mask_lt64 hs), zero_cast, andNot_zero hl hs])
  clear hs hl
  go_enter Tryd.func49, Tryd.ntmps49
  go_wp2
  go_ret
  exact ⟨ret_bool H.out, rfl⟩

def hasB (l : List Int) (x : Int) : Bool := decide (x ∈ l)
theorem hasB_hit {l : List Int} {k : Nat} {x : Int} (hk : k < l.length) (h : ix l k = x) : hasB l x = true := by
  subst h; exact decide_eq_true (ix_mem hk)
theorem hasB_miss {l : List Int} {x : Int} (h : ∀ j, j < l.length → ix l j ≠ x) : hasB l x = false := by
  refine decide_eq_false (fun hx => ?_)
  obtain ⟨k, hk, e⟩ := mem_ix hx
  exact h k hk e

set_option maxHeartbeats 1000000 in
theorem has_any (A : Option Addr) (c : Nat) (l : List Int) (x : Int) (w : World) (hL : Nums w w.heap.size A l) (hlen : l.length ≤ maxLen) :
    Calls Tryd.prog 19 #[.slice A l.length c, .int .i64 x] w fun e w' => e = .returned (.bool (hasB l x)) ∧ w = w' := by
  unfold maxLen at hlen
  have HL := Lib.hid hL
  clear hL
  go_enter Tryd.func19, Tryd.ntmps19
  go_wp2
  go_loop [5] (fun i => ∃ k : Nat, k ≤ l.length ∧ i = .int .i64 k ∧ ∀ j, j < k → ix l j ≠ x) (fun i => l.length - (intOf i).toNat)
  case atStart => exact ⟨0, by omega, rfl, by omega⟩
  case round =>
    obtain ⟨k, hk, rfl, hj⟩ := hrel
    have HJ := Lib.hid hj
    clear hj
    by_cases hlt : k < l.length
    · obtain ⟨b, o, rfl, _, hc⟩ := HL.out.at_ hlt
      by_cases he : ix l k = x
      · have HQ := Lib.hid (hasB_hit hlt he)
        have hq : (ix l k == x) = true := by simpa using he
        clear he
        go_wp2
        go_ret
        exact ⟨ret_bool HQ.out.symm, rfl⟩
      · have HQ := Lib.hid he
        have hq : (ix l k == x) = false := by simpa using he
        clear he
        go_wp2
        go_round
        case rel => exact ⟨k + 1, by omega, by go_num, fun j hj => by
          by_cases e : j = k
          · subst e; exact HQ.out
          · exact HJ.out j (by omega)⟩
        case measure => simp [intOf]; omega
    · have hge : ¬ ((k : Int) < l.length) := by omega
      go_wp2
      go_ret
      exact ⟨ret_bool (hasB_miss (fun j hj => HJ.out j (by omega))).symm, rfl⟩

theorem subB_bad {a b : List Int} {k : Nat} (hk : k < a.length) (h : hasB b (ix a k) = false) : subB a b = false := by
  rw [← Bool.not_eq_true, subB_iff]
  intro hx
  exact of_decide_eq_false h (hx _ (ix_mem hk))
theorem subB_good {a b : List Int} (h : ∀ j, j < a.length → hasB b (ix a j) = true) : subB a b = true := by
  rw [subB_iff]
  intro x hx
  obtain ⟨k, hk, rfl⟩ := mem_ix hx
  exact of_decide_eq_true (h k hk)
theorem disB_bad {a b : List Int} {k : Nat} (hk : k < a.length) (h : hasB b (ix a k) = true) : disB a b = false := by
  rw [← Bool.not_eq_true, disB_iff]
  intro hx
  exact hx _ (ix_mem hk) (of_decide_eq_true h)
theorem disB_good {a b : List Int} (h : ∀ j, j < a.length → hasB b (ix a j) = false) : disB a b = true := by
  rw [disB_iff]
  intro x hx
  obtain ⟨k, hk, rfl⟩ := mem_ix hx
  exact of_decide_eq_false (h k hk)

set_option maxHeartbeats 1000000 in
theorem subset_any (A A2 : Option Addr) (c c2 : Nat) (a l : List Int) (w : World) (hA : Nums w w.heap.size A a) (hL : Nums w w.heap.size A2 l) (ha : a.length ≤ maxLen) (hlen : l.length ≤ maxLen) :
    Calls Tryd.prog 21 #[.slice A a.length c, .slice A2 l.length c2] w fun e w' => e = .returned (.bool (subB a l)) ∧ w = w' := by
  have HC := Lib.hid (fun x => has_any A2 c2 l x w hL hlen)
  unfold maxLen at hlen ha
  have HA := Lib.hid hA
  clear hL hA
  go_enter Tryd.func21, Tryd.ntmps21
  go_wp2
  go_loop [5] (fun i => ∃ k : Nat, k ≤ a.length ∧ i = .int .i64 k ∧ ∀ j, j < k → hasB l (ix a j) = true) (fun i => a.length - (intOf i).toNat)
  case atStart => exact ⟨0, by omega, rfl, by omega⟩
  case round =>
    obtain ⟨k, hk, rfl, hj⟩ := hrel
    have HJ := Lib.hid hj
    clear hj
    by_cases hlt : k < a.length
    · obtain ⟨b, o, rfl, _, hc⟩ := HA.out.at_ hlt
      cases he : hasB l (ix a k)
      · have HQ := Lib.hid (subB_bad hlt he)
        go_wp2_with (go_at_call 19; refine (HC.out _).mono ?_; rintro e w' ⟨rfl, rfl⟩)
        go_ret
        exact ⟨ret_bool HQ.out.symm, rfl⟩
      · have HQ := Lib.hid he
        go_wp2_with (go_at_call 19; refine (HC.out _).mono ?_; rintro e w' ⟨rfl, rfl⟩)
        go_round
        case rel => exact ⟨k + 1, by omega, by go_num, fun j hj => by
          by_cases e : j = k
          · subst e; exact HQ.out
          · exact HJ.out j (by omega)⟩
        case measure => simp [intOf]; omega
    · have hge : ¬ ((k : Int) < a.length) := by omega
      go_wp2
      go_ret
      exact ⟨ret_bool (subB_good (fun j hj => HJ.out j (by omega))).symm, rfl⟩

set_option maxHeartbeats 1000000 in
theorem disjoint_any (A A2 : Option Addr) (c c2 : Nat) (a l : List Int) (w : World) (hA : Nums w w.heap.size A a) (hL : Nums w w.heap.size A2 l) (ha : a.length ≤ maxLen) (hlen : l.length ≤ maxLen) :
    Calls Tryd.prog 23 #[.slice A a.length c, .slice A2 l.length c2] w fun e w' => e = .returned (.bool (disB a l)) ∧ w = w' := by
  have HC := Lib.hid (fun x => has_any A2 c2 l x w hL hlen)
  unfold maxLen at hlen ha
  have HA := Lib.hid hA
  clear hL hA
  go_enter Tryd.func23, Tryd.ntmps23
  go_wp2
  go_loop [5] (fun i => ∃ k : Nat, k ≤ a.length ∧ i = .int .i64 k ∧ ∀ j, j < k → hasB l (ix a j) = false) (fun i => a.length - (intOf i).toNat)
  case atStart => exact ⟨0, by omega, rfl, by omega⟩
  case round =>
    obtain ⟨k, hk, rfl, hj⟩ := hrel
    have HJ := Lib.hid hj
    clear hj
    by_cases hlt : k < a.length
    · obtain ⟨b, o, rfl, _, hc⟩ := HA.out.at_ hlt
      cases he : hasB l (ix a k)
      case true =>
        have HQ := Lib.hid (disB_bad hlt he)
        go_wp2_with (go_at_call 19; refine (HC.out _).mono ?_; rintro e w' ⟨rfl, rfl⟩)
        go_ret
        exact ⟨ret_bool HQ.out.symm, rfl⟩
      case false =>
        have HQ := Lib.hid he
        go_wp2_with (go_at_call 19; refine (HC.out _).mono ?_; rintro e w' ⟨rfl, rfl⟩)
        go_round
        case rel => exact ⟨k + 1, by omega, by go_num, fun j hj => by
          by_cases e : j = k
          · subst e; exact HQ.out
          · exact HJ.out j (by omega)⟩
        case measure => simp [intOf]; omega
    · have hge : ¬ ((k : Int) < a.length) := by omega
      go_wp2
      go_ret
      exact ⟨ret_bool (disB_good (fun j hj => HJ.out j (by omega))).symm, rfl⟩

theorem okAt_in {l : List Int} {n : Int} {k : Nat} (h : inB (ix l k) 0 (n - 1) = false) : okAt l n k = false := by
  rw [← Bool.not_eq_true, okAt_iff]
  rintro ⟨h0, h1, _⟩
  unfold inB at h
  rw [decide_eq_false_iff_not] at h
  exact h ⟨h0, by omega⟩
theorem okAt_first {l : List Int} {n : Int} (h : inB (ix l 0) 0 (n - 1) = true) : okAt l n 0 = true := by
  unfold inB at h
  rw [decide_eq_true_eq] at h
  exact okAt_iff.2 ⟨h.1, by omega, .inl rfl⟩
theorem okAt_next {l : List Int} {n : Int} {k : Nat} (h : inB (ix l (k + 1)) 0 (n - 1) = true) (hl : ix l k < ix l (k + 1)) : okAt l n (k + 1) = true := by
  unfold inB at h
  rw [decide_eq_true_eq] at h
  exact okAt_iff.2 ⟨h.1, by omega, .inr (by simpa using hl)⟩
theorem okAt_not {l : List Int} {n : Int} {k : Nat} (hl : ix l (k + 1) ≤ ix l k) : okAt l n (k + 1) = false := by
  rw [← Bool.not_eq_true, okAt_iff]
  rintro ⟨_, _, h⟩
  simp at h
  omega
end Go.Proofs.YtenmegkokclolaaDoor

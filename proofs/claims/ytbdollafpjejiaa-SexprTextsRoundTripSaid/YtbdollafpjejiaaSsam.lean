/- SameSexpr of the reference. -/
import Derived.Test.YtbdollafpjejiaaSnode
namespace Go.Proofs.Ytbdollafpjejiaa
open Go.RowKit Go.Shelf
set_option linter.unusedSimpArgs false
set_option linter.unusedVariables false
set_option maxRecDepth 100000

/-- w' is w after some draws. -/
def Dr (w w' : World) : Prop := ∃ m, w' = w.drewN m
theorem Dr.refl (w : World) : Dr w w := ⟨0, rfl⟩
theorem Dr.step {w w' : World} (h : Dr w w') (n : Nat) : Dr w (w'.drewN n) := by
  obtain ⟨m, rfl⟩ := h
  exact ⟨m + n, World.drewN_drewN _ _ _⟩
theorem Dr.nums {w w' : World} {B : Nat} {A : Option Addr} {xs : List Int} (h : Dr w w') (hn : Nums w B A xs) : Nums w' B A xs := by
  obtain ⟨m, rfl⟩ := h
  exact hn
theorem Dr.nodes {w w' : World} {B : Nat} {A : Option Addr} {ns : List Nd} (h : Dr w w') (hn : Nodes w B A ns) : Nodes w' B A ns := by
  obtain ⟨m, rfl⟩ := h
  exact hn
theorem Dr.size {w w' : World} (h : Dr w w') : w'.heap.size = w.heap.size := by
  obtain ⟨m, rfl⟩ := h
  rfl
set_option maxHeartbeats 1000000 in
theorem ints_q (A A' : Option Addr) (c c' : Nat) (xs ys : List Int) (w : World) (hX : Nums w w.heap.size A xs) (hY : Nums w w.heap.size A' ys) (hx : xs.length ≤ maxLen) (hy : ys.length ≤ maxLen) :
    Calls Try.prog 16 #[.slice A xs.length c, .slice A' ys.length c'] w fun e w' => e = .returned (.bool (eqL xs ys)) ∧ Dr w w' := by
  unfold maxLen at hx hy
  have HX := Lib.hid hX
  have HY := Lib.hid hY
  clear hX hY
  by_cases hl : xs.length = ys.length
  · have HL := Lib.hid hl
    have hb : ((xs.length : Int) != ys.length) = false := by simp [hl]
    have hb2 : ((ys.length : Int) != ys.length) = false := by simp
    clear hl
    go_enter Try.func16, Try.ntmps16
    go_wp2
    go_loopw [5] (fun i wr => ∃ k : Nat, k ≤ xs.length ∧ i = .int .i64 k ∧ Dr w wr ∧ ∀ j, j < k → ix xs j = ix ys j) (fun i _ => xs.length - (intOf i).toNat)
    case atStart => exact ⟨0, by omega, rfl, Dr.refl _, by omega⟩
    case round =>
      obtain ⟨k, hk, rfl, hD, hj⟩ := hrel
      have HJ := Lib.hid hj
      have HD := Lib.hid hD
      clear hj hD
      by_cases hlt : k < xs.length
      · obtain ⟨b1, o1, rfl, _, hs1⟩ := (HD.out.nums HX.out).at_ hlt
        have hlt2 : k < ys.length := by have := HL.out; omega
        obtain ⟨b2, o2, rfl, _, hs2⟩ := (HD.out.nums HY.out).at_ hlt2
        have hi2 : (k : Int) < ys.length := by omega
        by_cases he : ix xs k = ix ys k
        · have HQ := Lib.hid he
          have hq : (ix xs k != ix ys k) = false := by simpa using he
          clear he
          go_wp2
          go_quiet (fail)
          go_wp2
          go_roundw
          case rel => exact ⟨k + 1, by omega, by go_num, HD.out.step _, ix_step HJ.out HQ.out⟩
          case measure => simp [intOf]; omega
        · have HQ := Lib.hid he
          have hq : (ix xs k != ix ys k) = true := by simpa using he
          clear he
          go_wp2
          go_quiet (fail)
          go_wp2
          go_ret
          exact ⟨ret_bool (eqL_bad HQ.out).symm, HD.out.step _⟩
      · have hge : ¬ ((k : Int) < xs.length) := by omega
        go_wp2
        go_ret
        exact ⟨ret_bool (eqL_good HL.out (fun j hj => HJ.out j (by omega))).symm, HD.out⟩
  · have HL := Lib.hid (eqL_len hl)
    have hb : ((xs.length : Int) != ys.length) = true := by simp; omega
    clear hl
    go_enter Try.func16, Try.ntmps16
    go_wp2
    go_ret
    exact ⟨ret_bool HL.out.symm, Dr.refl _⟩

def sameK (ns ms : List Nd) (k : Nat) : Bool := eqB (sy ns k) (sy ms k) && eqL (ch ns k) (ch ms k)
/-- Two lists of nodes are equal. -/
def sameN (ns ms : List Nd) : Bool := decide (ns.length = ms.length) && (List.range ns.length).all (sameK ns ms)
theorem same_len {ns ms : List Nd} (h : ns.length ≠ ms.length) : sameN ns ms = false := by simp [sameN, h]
theorem same_bad {ns ms : List Nd} {k : Nat} (hk : k < ns.length) (h : sameK ns ms k = false) : sameN ns ms = false := by
  unfold sameN
  have : (List.range ns.length).all (sameK ns ms) = false := by
    rw [List.all_eq_false]
    exact ⟨k, by simpa using hk, by simp [h]⟩
  rw [this, Bool.and_false]
theorem same_good {ns ms : List Nd} (hl : ns.length = ms.length) (h : ∀ k, k < ns.length → sameK ns ms k = true) : sameN ns ms = true := by
  unfold sameN
  rw [decide_eq_true hl, Bool.true_and, List.all_eq_true]
  intro k hk
  exact h k (by simpa using hk)
theorem same_step {ns ms : List Nd} {k : Nat} (h : ∀ j, j < k → sameK ns ms j = true) (hk : sameK ns ms k = true) : ∀ j, j < k + 1 → sameK ns ms j = true := by
  intro j hj
  by_cases e : j = k
  · subst e; exact hk
  · exact h j (by omega)
theorem same_refl (ns : List Nd) : sameN ns ns = true :=
  same_good rfl (fun k _ => by unfold sameK; rw [(eqB_iff _ _).2 rfl, Bool.true_and]; unfold eqL; simp)

set_option maxHeartbeats 1000000 in
theorem same_any (A A' : Option Addr) (c c' : Nat) (ns ms : List Nd) (w : World) (hX : Nodes w w.heap.size A ns) (hY : Nodes w w.heap.size A' ms) (hx : ns.length ≤ maxLen) (hy : ms.length ≤ maxLen) :
    Calls Try.prog 15 #[.slice A ns.length c, .slice A' ms.length c'] w fun e w' => e = .returned (.bool (sameN ns ms)) ∧ Dr w w' := by
  unfold maxLen at hx hy
  have HX := Lib.hid hX
  have HY := Lib.hid hY
  clear hX hY
  by_cases hl : ns.length = ms.length
  · have HL := Lib.hid hl
    have hb : ((ns.length : Int) != ms.length) = false := by simp [hl]
    have hb2 : ((ms.length : Int) != ms.length) = false := by simp
    clear hl
    go_enter Try.func15, Try.ntmps15
    go_wp2
    go_loopw [5] (fun i wr => ∃ k : Nat, k ≤ ns.length ∧ i = .int .i64 k ∧ Dr w wr ∧ ∀ j, j < k → sameK ns ms j = true) (fun i _ => ns.length - (intOf i).toNat)
    case atStart => exact ⟨0, by omega, rfl, Dr.refl _, by omega⟩
    case round =>
      obtain ⟨k, hk, rfl, hD, hj⟩ := hrel
      have HJ := Lib.hid hj
      have HD := Lib.hid hD
      clear hj hD
      by_cases hlt : k < ns.length
      · obtain ⟨b1, o1, Ak1, ck1, rfl, _, hs1, hs2, hN1, _, _, _, hm1⟩ := (HD.out.nodes HX.out).at_ hlt
        have hlt2 : k < ms.length := by have := HL.out; omega
        obtain ⟨b2, o2, Ak2, ck2, rfl, _, hs3, hs4, hN2, _, _, _, hm2⟩ := (HD.out.nodes HY.out).at_ hlt2
        have hi2 : (k : Int) < ms.length := by omega
        have hcall : ∀ n, Calls Try.prog 16 #[.slice Ak1 (ch ns k).length ck1, .slice Ak2 (ch ms k).length ck2] (wr.drewN n) fun e w' => e = .returned (.bool (eqL (ch ns k) (ch ms k))) ∧ ∃ q, w' = (wr.drewN n).drewN q := by
          intro n
          have hz := (HD.out.step n).size
          have h1 : Nums (wr.drewN n) (wr.drewN n).heap.size Ak1 (ch ns k) := by rw [hz]; exact hN1
          have h2 : Nums (wr.drewN n) (wr.drewN n).heap.size Ak2 (ch ms k) := by rw [hz]; exact hN2
          exact ints_q Ak1 Ak2 ck1 ck2 (ch ns k) (ch ms k) (wr.drewN n) h1 h2 hm1 hm2
        have HC := Lib.hid hcall
        clear hcall hN1 hN2 hm1 hm2
        cases he : eqB (sy ns k) (sy ms k)
        · have HQ := Lib.hid (show sameK ns ms k = false by unfold sameK; rw [he]; rfl)
          have hq1 : ((sy ns k).toList == (sy ms k).toList) = false := he
          have hq2 : ((sy ns k).toList != (sy ms k).toList) = true := by rw [bne, hq1]; rfl
          clear he
          go_wp2
          go_quiet (fail)
          go_wp2
          go_ret
          exact ⟨ret_bool (same_bad hlt HQ.out).symm, HD.out.step _⟩
        · have hq1 : ((sy ns k).toList == (sy ms k).toList) = true := he
          have hq2 : ((sy ns k).toList != (sy ms k).toList) = false := by rw [bne, hq1]; rfl
          cases he2 : eqL (ch ns k) (ch ms k)
          · have HQ := Lib.hid (show sameK ns ms k = false by unfold sameK; rw [he, he2]; rfl)
            rw [he2] at HC
            clear he he2
            go_wp2
            go_quiet ((go_at_call 16; exact Calls.quiet_of (HC.out _)))
            go_wp2
            go_ret
            exact ⟨ret_bool (same_bad hlt HQ.out).symm, HD.out.step _⟩
          · have HQ := Lib.hid (show sameK ns ms k = true by unfold sameK; rw [he, he2]; rfl)
            rw [he2] at HC
            clear he he2
            go_wp2
            go_quiet ((go_at_call 16; exact Calls.quiet_of (HC.out _)))
            go_wp2
            go_roundw
            case rel => exact ⟨k + 1, by omega, by go_num, HD.out.step _, same_step HJ.out HQ.out⟩
            case measure => simp [intOf]; omega
      · have hge : ¬ ((k : Int) < ns.length) := by omega
        go_wp2
        go_ret
        exact ⟨ret_bool (same_good HL.out (fun j hj => HJ.out j (by omega))).symm, HD.out⟩
  · have HL := Lib.hid (same_len hl)
    have hb : ((ns.length : Int) != ms.length) = true := by simp; omega
    clear hl
    go_enter Try.func15, Try.ntmps15
    go_wp2
    go_ret
    exact ⟨ret_bool HL.out.symm, Dr.refl _⟩
end Go.Proofs.Ytbdollafpjejiaa

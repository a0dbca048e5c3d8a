/- Package invariant: inductive, Inductive. -/
import Derived.Test.YtenmegkokclolaaDoorVbr
namespace Go.Proofs.YtenmegkokclolaaDoor
open Go.RowKit
set_option linter.unusedSimpArgs false
set_option linter.unusedVariables false
set_option maxRecDepth 100000

set_option maxHeartbeats 1000000 in
theorem inCl_any (o : Opr) (g : List Int) (a1 a2 a3 : Option Addr) (c1 c2 c3 : Nat) (gb : Nat) (w : World) (hO : OpS o 24) (hg : IsS g 24) (hV : OpV w w.heap.size o a1 a2 a3 c1 c2 c3)
    (hgl : gb < w.heap.size) (hgc : w.cell? ⟨gb, 0, none⟩ = some (.int .u64 (mask g))) :
    Calls Tryd.prog 45 #[.agg #[.slice a1 o.pre.length c1, .slice a2 o.add.length c2, .slice a3 o.del.length c3, .int .i64 o.cost], .pointer (some ⟨gb, 0, none⟩)] w fun e w' => e = .returned (.bool (brkB o g)) ∧ Below w.heap.size w w' := by
  have hb1 : Below w.heap.size w (w.alloc (.cells #[.slice a1 o.pre.length c1, .slice a2 o.add.length c2, .slice a3 o.del.length c3, .int .i64 o.cost] 55)) := by go_grown
  have HC := breaks_any o g a1 a2 a3 c1 c2 c3 _ hO hg (hV.to hb1 hb1.size)
  have HG : (w.alloc (.cells #[.slice a1 o.pre.length c1, .slice a2 o.add.length c2, .slice a3 o.del.length c3, .int .i64 o.cost] 55)).cell? ⟨gb, 0, none⟩ = some (.int .u64 (mask g)) := (hb1.cell (p := ⟨gb, 0, none⟩) hgl).trans hgc
  have HB := Lib.hid hb1
  clear hV hO hg hb1 hgc
  go_enter Tryd.func45, Tryd.ntmps45
  go_wp2_with (go_at_call 46; (with_reducible refine HC.mono ?_); rintro e w2 ⟨rfl, hb2⟩)
  go_ret
  exact ⟨rfl, HB.out.trans (hb2.mono HB.out.size)⟩

set_option maxHeartbeats 2000000 in
theorem all_stepF {p : Nat → Bool} {k : Nat} (h : ∀ j, j < k → p j = false) (hk : p k = false) : ∀ j, j < k + 1 → p j = false := by
  intro j hj
  rcases Nat.lt_or_ge j k with h1 | h1
  · exact h j h1
  · have e : j = k := by omega
    rw [e]; exact hk
set_option maxHeartbeats 2000000 in
theorem indexO_any (A : Option Addr) (C : Nat) (l : List Opr) (g : List Int) (hl : ∀ k, k < l.length → OpS (opr l k) 24) (hg : IsS g 24) (gb : Nat) (w : World) (h1 : Oprs w w.heap.size A l) (hln : l.length ≤ maxLen)
    (hgl : gb < w.heap.size) (hgc : w.cell? ⟨gb, 0, none⟩ = some (.int .u64 (mask g))) :
    Calls Tryd.prog 64 #[.slice A l.length C, .func (.func 45) #[] #[.pointer (some ⟨gb, 0, none⟩)]] w fun e w' => e = .returned (.int .i64 (idxB (fun j => brkB (opr l j) g) l.length)) ∧ Below w.heap.size w w' := by
  unfold maxLen at hln
  have HL := Lib.hid hl
  have HS := Lib.hid hg
  have H1 := Lib.hid (fun (W : World) (h : Below w.heap.size w W) => h1.to h h.size)
  have HG := Lib.hid (fun (W : World) (h : Below w.heap.size w W) => (h.cell (p := ⟨gb, 0, none⟩) hgl).trans hgc)
  clear hl hg h1 hgc
  go_enter Tryd.func64, Tryd.ntmps64
  go_wp2
  go_loopw [8] (fun i wr => ∃ k : Nat, k ≤ l.length ∧ i = .int .i64 k ∧ Below w.heap.size w wr ∧ ∀ j, j < k → brkB (opr l j) g = false) (fun i _ => l.length - (intOf i).toNat)
  case atStart => exact ⟨0, by omega, rfl, Below.refl _ _, by omega⟩
  case round =>
    obtain ⟨k, hk, rfl, hbw, hj⟩ := hrel
    have HJ := Lib.hid hj
    have HB := Lib.hid hbw
    clear hj hbw
    by_cases hlt : k < l.length
    · obtain ⟨b, p, a1, a2, a3, c1, c2, c3, hA, hbl, ⟨q0, q1, q2, q3⟩, hf⟩ := (H1.out _ HB.out).at_ hlt
      subst hA
      have hE := inCl_any (opr l k) g a1 a2 a3 c1 c2 c3 gb wr (HL.out k hlt) HS.out hf (Nat.lt_of_lt_of_le hgl HB.out.size) (HG.out _ HB.out)
      clear hf
      cases hi : brkB (opr l k) g
      · rw [hi] at hE
        have HE := Lib.hid hE
        have HI := Lib.hid hi
        clear hE
        go_wp2_with (go_at_call 45; (with_reducible refine HE.out.mono ?_); rintro e w2 ⟨rfl, hb2⟩; have HB2 := Lib.hid (HB.out.trans (hb2.mono HB.out.size)); clear hb2)
        go_roundw
        case rel => exact ⟨k + 1, by omega, by go_num, HB2.out, all_stepF HJ.out HI.out⟩
        case measure => simp [intOf]; omega
      · rw [hi] at hE
        have HE := Lib.hid hE
        have HI := Lib.hid hi
        clear hE
        go_wp2_with (go_at_call 45; (with_reducible refine HE.out.mono ?_); rintro e w2 ⟨rfl, hb2⟩; have HB2 := Lib.hid (HB.out.trans (hb2.mono HB.out.size)); clear hb2)
        go_ret
        exact ⟨ret_int2 (idxB_hit hlt HI.out HJ.out).symm, HB2.out⟩
    · have hge : ¬ ((k : Int) < l.length) := by omega
      go_wp2
      go_ret
      exact ⟨ret_int2 (idxB_miss (fun j h => HJ.out j (by omega))).symm, HB.out⟩
set_option maxHeartbeats 400000 in
theorem containsO_any (A : Option Addr) (C : Nat) (l : List Opr) (g : List Int) (hl : ∀ k, k < l.length → OpS (opr l k) 24) (hg : IsS g 24) (gb : Nat) (w : World) (h1 : Oprs w w.heap.size A l) (hln : l.length ≤ maxLen)
    (hgl : gb < w.heap.size) (hgc : w.cell? ⟨gb, 0, none⟩ = some (.int .u64 (mask g))) :
    Calls Tryd.prog 44 #[.slice A l.length C, .func (.func 45) #[] #[.pointer (some ⟨gb, 0, none⟩)]] w fun e w' => e = .returned (.bool ((List.range l.length).any (fun j => brkB (opr l j) g))) ∧ Below w.heap.size w w' := by
  have HR := indexO_any A C l g hl hg gb w h1 hln hgl hgc
  have hI := idxB_has (fun j => brkB (opr l j) g) l.length
  clear hl hg h1 hgc
  go_enter Tryd.func44, Tryd.ntmps44
  go_wp2_with (go_at_call 64; refine HR.mono ?_; rintro e w' ⟨rfl, hbw⟩)
  go_ret
  exact ⟨rfl, hbw⟩

def indB (x : Tsk) (g : List Int) : Bool := decide ((metL x.init g).length ≤ 1) && !(List.range x.ops.length).any (fun j => brkB (opr x.ops j) g)
theorem OpS.up {o : Opr} {n : Nat} (h : OpS o n) (hn : n ≤ 24) : OpS o 24 := ⟨h.pre.mono (by omega), h.add.mono (by omega), h.del.mono (by omega)⟩
theorem Val.ops24 {x : Tsk} {n : Nat} (h : Val x n) : ∀ k, k < x.ops.length → OpS (opr x.ops k) 24 := fun k hk => (h.ops k hk).1.up h.le
set_option maxHeartbeats 1000000 in
theorem inductive_any (x : Tsk) (g : List Int) (w : World) (hX : TskIn w w.heap.size x) (hI : IsS x.init 24) (hO : ∀ k, k < x.ops.length → OpS (opr x.ops k) 24) (hg : IsS g 24) :
    Calls Tryd.prog 26 #[.agg #[.int .i64 x.n, .slice x.ai x.init.length x.ci, .slice x.ag x.goal.length x.cg, .slice x.ao x.ops.length x.co], .int .u64 (mask g)] w fun e w' => e = .returned (.bool (indB x g)) ∧ Below w.heap.size w w' := by
  have hln := hX.len
  have hb1 : Below w.heap.size w ((w.alloc (.cells #[.int .i64 x.n, .slice x.ai x.init.length x.ci, .slice x.ag x.goal.length x.cg, .slice x.ao x.ops.length x.co] 25)).alloc (.cells #[.int .u64 (mask g)] 58)) := by go_grown
  have HX2 := Lib.hid (hX.to hb1 hb1.size)
  have HO := Lib.hid (fun (n : Nat) => containsO_any x.ao x.co x.ops g hO hg (w.heap.size + 1) (((w.alloc (.cells #[.int .i64 x.n, .slice x.ai x.init.length x.ci, .slice x.ag x.goal.length x.cg, .slice x.ao x.ops.length x.co] 25)).alloc (.cells #[.int .u64 (mask g)] 58)).drewN n) (hX.to (belowN hb1 n) (belowN hb1 n).size).ops hln (by simp) (by simp))
  have HI := Lib.hid hI
  have HG := Lib.hid hg
  have HB := Lib.hid hb1
  clear hX hO hI hg hb1 hln
  by_cases h1 : (metL x.init g).length ≤ 1
  · have H := Lib.hid (show indB x g = !(List.range x.ops.length).any (fun j => brkB (opr x.ops j) g) by unfold indB; rw [decide_eq_true h1]; rfl)
    have d1 : decide (((metL x.init g).length : Int) ≤ 1) = true := decide_eq_true (by omega)
    clear h1
    go_enter Tryd.func26, Tryd.ntmps26
    go_wp2
    go_quiet (first | (go_at_call 27; (with_reducible refine quiet_same (setOf_any x.ai x.ci x.init _ HI.out ?_)); exact HX2.out.init.nums))
    go_wp2_with (first | (go_at_call 43; (with_reducible refine (lenM_any HI.out HG.out _).mono ?_); rintro e w' ⟨rfl, rfl⟩) | (go_at_call 44; (with_reducible refine (HO.out _).mono ?_); rintro e w2 ⟨rfl, hb2⟩))
    go_ret
    exact ⟨ret_val (by rw [H.out]; rfl), (belowN HB.out _).trans (hb2.mono (belowN HB.out _).size)⟩
  · have H := Lib.hid (show indB x g = false by unfold indB; rw [decide_eq_false h1]; rfl)
    have d1 : decide (((metL x.init g).length : Int) ≤ 1) = false := decide_eq_false (by omega)
    clear h1
    go_enter Tryd.func26, Tryd.ntmps26
    go_wp2
    go_quiet (first | (go_at_call 27; (with_reducible refine quiet_same (setOf_any x.ai x.ci x.init _ HI.out ?_)); exact HX2.out.init.nums))
    go_wp2_with (first | (go_at_call 43; (with_reducible refine (lenM_any HI.out HG.out _).mono ?_); rintro e w' ⟨rfl, rfl⟩) | (go_at_call 44; (with_reducible refine (HO.out _).mono ?_); rintro e w2 ⟨rfl, hb2⟩))
    go_ret
    exact ⟨ret_val (by rw [H.out]; rfl), belowN HB.out _⟩
end Go.Proofs.YtenmegkokclolaaDoor

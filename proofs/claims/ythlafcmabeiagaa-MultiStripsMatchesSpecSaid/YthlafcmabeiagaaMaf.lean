/- MultiAfter of the reference. -/
import Derived.Test.YthlafcmabeiagaaMft
namespace Go.Proofs.Ythlafcmabeiagaa
open Go.RowKit
set_option linter.unusedSimpArgs false
set_option linter.unusedVariables false
set_option maxRecDepth 100000

theorem own_some1 {W : World} {base n : Nat} {e : TypeId} {v : Value} {xs : List Value} (h : W.ownsRow base e 1 v n xs) (hn : 1 ≤ n) : ∃ g cap, v = .slice (some ⟨g, 0, none⟩) n cap ∧ base ≤ g ∧ g < W.heap.size := by
  rcases h.2 with ⟨_, h0⟩ | ⟨g, cap, cur, rfl, hb, hh, _⟩
  · omega
  · exact ⟨g, cap, rfl, hb, (Array.getElem?_eq_some_iff.1 hh).1⟩
/-- A state in a row of its own. -/
abbrev Row (W : World) (base g cap : Nat) (s : List Int) : Prop := W.ownsRow base 3 1 (.slice (some ⟨g, 0, none⟩) s.length cap) s.length (s.map (Value.int .i64))
theorem row_cell {W : World} {base g cap : Nat} {s : List Int} (h : Row W base g cap s) {m : Nat} (hm : m < s.length) : W.cell? ⟨g, m, none⟩ = some (.int .i64 (ix s m)) ∧ W.frozen? ⟨g, m, none⟩ = false := by
  have z1 := h.cellAt m (by omega)
  have z2 := h.frozenAt m
  have hz : (s.map (Value.int .i64))[m]? = some (.int .i64 (ix s m)) := by simp [ix, List.getD, hm]
  rw [hz] at z1
  exact ⟨z1, z2⟩
theorem row_put {W : World} {base g cap : Nat} {s : List Int} (h : Row W base g cap s) (m : Nat) (z : Int) : Row (W.setCell ⟨g, m, none⟩ (.int .i64 z)) base g cap (s.set m z) := by
  have h1 := (h.stored m (.int .i64 z)).1
  rw [← List.map_set] at h1
  unfold Row
  rw [List.length_set]
  exact h1
theorem row_to {W W' : World} {base g cap : Nat} {s : List Int} (h : Row W base g cap s) (hb : Below W.heap.size W W') : Row W' base g cap s := own_to h hb
theorem BxM.set {w W : World} {x : MT} (h : BxM w W x) {g m : Nat} (hg : w.heap.size < g) (v : Value) : BxM w (W.setCell ⟨g, m, none⟩ v) x := ⟨h.below.setCell (by show w.heap.size ≤ g; omega) _, h.box.far (by show g ≠ w.heap.size; omega) _⟩
set_option maxHeartbeats 2000000 in
theorem mafter_any (x : MT) (S : List Int) (A : Option Addr) (c : Nat) (s : List Int) (op : Nat) (hop : op < x.ops.length) (hl : AsOk S (mop x.ops op).post) (hs : s.length = S.length) (h1 : 1 ≤ s.length) (h8 : s.length ≤ 8) (h0 : A = none → c = 0)
    (w : World) (hX : MTIn w w.heap.size x) (hL : Lst w w.heap.size A c s) :
    Calls Try.prog 17 #[.agg #[.slice x.az x.sizes.length x.cz, .slice x.ai x.init.length x.ci, .slice x.ag x.goal.length x.cg, .slice x.ao x.ops.length x.co], .slice A s.length c, .int .i64 op] w (CopyPost w (aft s (mop x.ops op).post)) := by
  have hno := Nat.le_trans hX.ops.le hX.ops.max
  unfold maxLen at hno
  have HX := Lib.hid (bxM_new w x 26)
  obtain ⟨b, p, a1, a2, c1, c2, hao, hbl, hoc, hpre, hpost⟩ := hX.ops.at_ hop
  have HOC := Lib.hid (fun (W : World) (h : Below w.heap.size w W) => hoc.to h hbl)
  have HPO := Lib.hid (fun (W : World) (h : Below w.heap.size w W) => hpost.to h h.size)
  have hlp := hpost.len
  unfold maxLen at hlp
  have HCP := Lib.hid (copy_any A c s _ (hL.to HX.out.below HX.out.below.size) h0 (by omega))
  have HAO := Lib.hid hao
  have HLN := Lib.hid (aftN_len s (mop x.ops op).post)
  have HS := Lib.hid hs
  have HL8 := Lib.hid h8
  clear hX hL hoc hpre hpost h0 hs h8 hao
  generalize hpo : (mop x.ops op).post = l at *
  have hw : w.heap.size < (w.alloc (.cells #[.slice x.az x.sizes.length x.cz, .slice x.ai x.init.length x.ci, .slice x.ag x.goal.length x.cg, .slice x.ao x.ops.length x.co] 26)).heap.size := by simp
  go_enter Try.func17, Try.ntmps17
  go_wp2_with (go_at_call 41; (with_reducible refine HCP.out.mono ?_); rintro e w1 ⟨v, rfl, ho, hb⟩; obtain ⟨g, cap, rfl, hg, hgl⟩ := own_some1 ho h1; have HO := Lib.hid ho; have HG := Lib.hid hg; have HX1 := Lib.hid (HX.out.to hb); clear ho hb hg hgl)
  have HGW := Lib.hid (show w.heap.size < g by have := HG.out; simp at this; omega)
  clear hw
  have HB0 := Lib.hid (show w.heap.size ≤ (w.alloc (.cells #[.slice x.az x.sizes.length x.cz, .slice x.ai x.init.length x.ci, .slice x.ag x.goal.length x.cg, .slice x.ao x.ops.length x.co] 26)).heap.size by simp)
  generalize (w.alloc (.cells #[.slice x.az x.sizes.length x.cz, .slice x.ai x.init.length x.ci, .slice x.ag x.goal.length x.cg, .slice x.ao x.ops.length x.co] 26)).heap.size = base at *
  go_loopw [8] (fun i wr => ∃ k : Nat, k ≤ l.length ∧ i = .int .i64 k ∧ Row wr base g cap (aftN s l k) ∧ BxM w wr x) (fun i _ => l.length - (intOf i).toNat)
  case atStart => exact ⟨0, by omega, rfl, HO.out, HX1.out⟩
  case round =>
    obtain ⟨k, hk, rfl, hr, hx⟩ := hrel
    have HR := Lib.hid hr
    have HX2 := Lib.hid hx
    clear hr hx
    obtain ⟨_, ⟨_, t0, t1, t2, t3⟩⟩ := HX2.out
    rw [HAO.out] at t3
    obtain ⟨q0, q1, q2⟩ := HOC.out _ HX2.out.below
    rw [hpo] at q1
    by_cases hlt : k < l.length
    case neg =>
      obtain rfl : k = l.length := by omega
      have hge : ¬ ((l.length : Int) < l.length) := by omega
      have HLL := Lib.hid (HLN.out l.length (Nat.le_refl _))
      have HOR := Lib.hid HR.out
      go_wp2
      go_ret
      refine ⟨_, rfl, ?_, HX2.out.below⟩
      have h9 := own_mono HR.out HB0.out
      unfold aft
      rw [HLL.out] at h9 ⊢
      exact h9
    case pos =>
      obtain ⟨b2, p2, hz2, _, ⟨r0, r1⟩⟩ := (HPO.out _ HX2.out.below).at_ hlt
      have HZ2 := Lib.hid hz2
      rw [hz2] at q1
      clear hz2
      have hv := hl.v k hlt
      have hlt2 : vr l k < s.length := by have := hl.lt k hlt; have := HS.out; omega
      rw [hv] at r0
      have hlk := HLN.out k (by omega)
      obtain ⟨z0, z1⟩ := row_cell HR.out (m := vr l k) (by omega)
      have HST := Lib.hid (aftN_succ (s := s) hlt)
      clear hv hlk
      go_wp2
      refine wp_region_still_tail 22 (by kernel_rfl) (by kernel_rfl) ?_
      simp only [List.take_succ_cons, List.take_zero, List.drop_succ_cons, List.drop_zero]
      change wpStill _ _ wr.drew _ _ _
      repeat still_step
      try refine wpStill_nil ?_
      change wpList _ _ _ _ _ wr.drew
      go_wp2
      go_roundw
      case rel =>
        refine ⟨k + 1, by omega, by go_num, ?_, (HX2.out.to (Below.refl _ _).drew).set HGW.out _⟩
        rw [HST.out]
        exact row_put (row_to HR.out (Below.refl _ _).drew) _ _
      case measure => simp [intOf]; omega
end Go.Proofs.Ythlafcmabeiagaa

/- NumericSolves of the reference. -/
import Derived.Test.YtiafplmaigpmeaaNna
namespace Go.Proofs.Ytiafplmaigpmeaa
open Go.RowKit
set_option linter.unusedSimpArgs false
set_option linter.unusedVariables false
set_option maxRecDepth 100000

def nrun (x : NT) (plan : List Int) : Nat → Option (List Int)
  | 0 => some x.init
  | k + 1 => match nrun x plan k with
    | none => none
    | some v => if (naf (nop x.ops (ix plan k).toNat) v).2 = 0 then some (naf (nop x.ops (ix plan k).toNat) v).1 else none
def nsol (x : NT) (plan : List Int) : Bool := match nrun x plan plan.length with
  | none => false
  | some v => sat x.goal v
theorem nrun_step {x : NT} {plan v : List Int} {k : Nat} (h : nrun x plan k = some v) : nrun x plan (k + 1) = if (naf (nop x.ops (ix plan k).toNat) v).2 = 0 then some (naf (nop x.ops (ix plan k).toNat) v).1 else none := by
  simp only [nrun, h]
theorem nrun_none {x : NT} {plan : List Int} {k : Nat} (h : nrun x plan k = none) : ∀ j, k ≤ j → nrun x plan j = none := by
  intro j hj
  induction j with
  | zero => obtain rfl : k = 0 := by omega
            exact h
  | succ j ih =>
    by_cases e : k = j + 1
    · subst e; exact h
    · simp only [nrun, ih (by omega)]
theorem naf_len {o : NOp} {v : List Int} (h : (naf o v).2 = 0) : (naf o v).1.length = v.length := (naf_vok h).len
theorem nrun_vok {x : NT} (hv : NVal x) {plan : List Int} : ∀ (k : Nat) (v : List Int), nrun x plan k = some v → VOk x.init.length v
  | 0, v, h => by
    simp only [nrun, Option.some.injEq] at h
    subst h
    exact ⟨rfl, hv.init⟩
  | k + 1, v, h => by
    cases hr : nrun x plan k with
    | none => rw [nrun_none hr (k + 1) (by omega)] at h; cases h
    | some u =>
      rw [nrun_step hr] at h
      have hu := nrun_vok hv k u hr
      split at h
      · rename_i h0
        injection h with h
        subst h
        have := naf_vok h0
        rw [hu.len] at this
        exact this
      · cases h
theorem last5n {P1 P2 P3 P4 Q : Prop} (h : P1 ∧ P2 ∧ P3 ∧ P4 ∧ Q) : Q := h.2.2.2.2
theorem bel_up {U V V' : World} (h : Below U.heap.size U V) (h2 : Below V.heap.size V V') : Below U.heap.size U V' := h.trans (h2.mono h.size)
set_option maxHeartbeats 4000000 in
theorem numericSolves_any (x : NT) (hv : NVal x) (a3 : Option Addr) (c3 : Nat) (plan : List Int) (hpl : planB x.ops.length plan = true) (w : World) (hX : NTIn w w.heap.size x) (hP : Lst w w.heap.size a3 c3 plan) :
    Calls Try.prog 13 #[.agg #[.slice x.ai x.init.length x.ci, .slice x.ag x.goal.length x.cg, .slice x.ao x.ops.length x.co], .slice a3 plan.length c3] w fun e w' => e = .returned (.bool (nsol x plan)) ∧ Below w.heap.size w w' := by
  have hln := hP.len
  unfold maxLen at hln
  have HV := Lib.hid hv
  have HPL := Lib.hid hpl
  have HX0 := Lib.hid (fun (W : World) (h : Below w.heap.size w W) => hX.to h h.size)
  have HP0 := Lib.hid (fun (W : World) (h : Below w.heap.size w W) => hP.to h h.size)
  have HB0 := Lib.hid (show Below w.heap.size w (w.alloc (.cells #[.slice x.ai x.init.length x.ci, .slice x.ag x.goal.length x.cg, .slice x.ao x.ops.length x.co] 26)) by go_grown)
  have HBX := Lib.hid (nbox_new w x 26)
  clear hv hpl hX hP
  go_enter Try.func13, Try.ntmps13
  go_wp2
  go_loopw [5, 6] (fun s i wr => ∃ (k : Nat) (u : List Int) (a : Option Addr) (c : Nat), k ≤ plan.length ∧ i = .int .i64 k ∧ s = .slice a u.length c ∧ nrun x plan k = some u ∧ Lst wr wr.heap.size a c u ∧ NBox wr w.heap.size x ∧ Below w.heap.size w wr) (fun _ i _ => plan.length - (intOf i).toNat)
  case atStart => exact ⟨0, x.init, x.ai, x.ci, by omega, rfl, rfl, rfl, (HX0.out _ HB0.out).init, HBX.out, HB0.out⟩
  case round =>
    obtain ⟨k, u, a, c, hk, rfl, rfl, hru, hl, hbox, hb⟩ := hrel
    have HR := Lib.hid hru
    have HL := Lib.hid hl
    have HBX1 := Lib.hid hbox
    have HB1 := Lib.hid hb
    clear hru hl hbox hb
    by_cases hlt : k < plan.length
    case neg =>
      obtain rfl : k = plan.length := by omega
      have hge : ¬ ((plan.length : Int) < plan.length) := by omega
      have HS := Lib.hid (show nsol x plan = sat x.goal u by unfold nsol; rw [HR.out])
      have hn8 := HV.out.n8
      have HST := Lib.hid (satisfied_any x.init.length hn8 x.ag a x.cg c x.goal u HV.out.goal.2 (nrun_vok HV.out _ _ HR.out) wr (HX0.out _ HB1.out).goal HL.out)
      obtain ⟨_, t0, t1, t2⟩ := HBX1.out
      go_wp2_with (go_at_call 34; (with_reducible refine HST.out.mono ?_); rintro e w5 ⟨rfl, hb5⟩)
      go_ret
      exact ⟨ret_val (by rw [HS.out]; rfl), HB1.out.trans (hb5.mono HB1.out.size)⟩
    case pos =>
      obtain ⟨b, o, rfl, hbl, hc0⟩ := (HP0.out _ HB1.out).nums.at_ hlt
      obtain ⟨g0, g1⟩ := planB_at HPL.out hlt
      have hstep := nrun_step HR.out
      obtain ⟨m, hm⟩ := Int.eq_ofNat_of_zero_le g0
      rw [hm, Int.toNat_natCast] at hstep
      rw [hm] at g1 hc0
      have hmo : m < x.ops.length := by omega
      generalize hop : ((m : Nat) : Int) = op at hc0
      have HC0 := Lib.hid hc0
      have HNA := Lib.hid (fun (V : World) (h : Below wr.heap.size wr V) => numericAfter_any x HV.out a c u (nrun_vok HV.out _ _ HR.out) m hmo V (HX0.out _ (HB1.out.trans (h.mono HB1.out.size))) (HL.out.to h h.size))
      rw [hop] at HNA
      have HSO := Lib.hid (fun (V : World) (h : Below wr.heap.size wr V) => (⟨(HBX1.out.to h HBX1.out.lt).c0, (HBX1.out.to h HBX1.out.lt).c1, (HBX1.out.to h HBX1.out.lt).c2, (h.cell (p := ⟨b, o + k, none⟩) hbl).trans HC0.out, h⟩ : V.cell? ⟨w.heap.size, 0, none⟩ = some (.slice x.ai x.init.length x.ci) ∧ V.cell? ⟨w.heap.size, 1, none⟩ = some (.slice x.ag x.goal.length x.cg) ∧ V.cell? ⟨w.heap.size, 2, none⟩ = some (.slice x.ao x.ops.length x.co) ∧ V.cell? ⟨b, o + k, none⟩ = some (.int .i64 op) ∧ Below wr.heap.size wr V))
      have HBL := Lib.hid hbl
      have hww := Below.refl wr.heap.size wr
      have hwk : IntKind.i64.wrap ((k : Int) + 1) = (k : Int) + 1 := IntWalk.i64_in _ (by omega)
      generalize naf (nop x.ops m) u = r at *
      have HS := Lib.hid hstep
      obtain ⟨_, t0, t1, t2⟩ := HBX1.out
      clear hm g0 g1 hstep hop hbl
      go_wp2
      go_region_held3 (fun V => V.cell? ⟨w.heap.size, 0, none⟩ = some (.slice x.ai x.init.length x.ci) ∧ V.cell? ⟨w.heap.size, 1, none⟩ = some (.slice x.ag x.goal.length x.cg) ∧ V.cell? ⟨w.heap.size, 2, none⟩ = some (.slice x.ao x.ops.length x.co) ∧ V.cell? ⟨b, o + k, none⟩ = some (.int .i64 op) ∧ Below wr.heap.size wr V) (first | (refine ⟨?_, ?_, ?_, ?_, ?_⟩ <;> assumption) | (exact HSO.out _ hww.drew) | (exact HSO.out _ hww) | (exact HSO.out _ (bel_up (last5n (by assumption)) (by assumption)))) (first | (go_at_call 17; refine (HNA.out _ ?_).mono ?_; (exact last5n (by assumption)); rintro e w' ⟨a5, c5, rfl, hl5, _, hb⟩; have HL5 := Lib.hid hl5; clear hl5))
      all_goals
        have hb9 : Below wr.heap.size wr w' := last5n (by assumption)
        have HB9 := Lib.hid (HB1.out.trans (hb9.mono HB1.out.size))
        have HBX9 := Lib.hid (HBX1.out.to hb9 HBX1.out.lt)
        clear hb9
        by_cases h0 : r.2 = 0
        · have HS2 := Lib.hid (show nrun x plan (k + 1) = some r.1 by rw [HS.out, if_pos h0])
          have hq : (r.2 != 0) = false := by simpa using h0
          have hq2 : (r.2 == 0) = true := by simpa using h0
          clear h0
          go_wp2
          go_roundw
          case rel => exact ⟨k + 1, r.1, a5, c5, by omega, by go_num, rfl, HS2.out, HL5.out, HBX9.out, HB9.out⟩
          case measure => simp [intOf]; omega
        · have HS2 := Lib.hid (show nsol x plan = false by
            unfold nsol
            rw [nrun_none (k := k + 1) (by rw [HS.out, if_neg h0]) plan.length (by omega)])
          have hq : (r.2 != 0) = true := by simpa using h0
          have hq2 : (r.2 == 0) = false := by simpa using h0
          clear h0
          go_wp2
          go_ret
          exact ⟨ret_val (by rw [HS2.out]; rfl), HB9.out⟩
end Go.Proofs.Ytiafplmaigpmeaa

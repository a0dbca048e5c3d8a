/- Package encode: assignments. -/
import Derived.Test.YtiaobanloakplaaDoorEvl
namespace Go.Proofs.YtiaobanloakplaaDoor
open Go.RowKit
set_option linter.unusedSimpArgs false
set_option linter.unusedVariables false
set_option maxRecDepth 100000

theorem info_as : (Tryd.prog.info? 73).map (fun i => (i.zero, i.size, i.bytes)) = some (some (.agg #[.int .i64 0, .int .i64 0]), 2, 16) := by kernel_rfl
theorem cell_two_new (w : World) (x y : Value) (t : TypeId) : ∀ j u, [x, y][j]? = some u → (w.alloc (.cells #[x, y] t)).cell? ((⟨w.heap.size, 0, none⟩ : Addr).add j) = some u := by
  intro j u hj
  match j, hj with
  | 0, hj => simp at hj; subst hj; simp [Addr.add]
  | 1, hj => simp at hj; subst hj; simp [Addr.add]
def asgC (l : List Asg) : List Value := l.flatMap (fun a => [.int .i64 a.v, .int .i64 a.x])
theorem asgC_app (a b : List Asg) : asgC (a ++ b) = asgC a ++ asgC b := by simp [asgC]
theorem asgC_len : ∀ l : List Asg, (asgC l).length = l.length * 2
  | [] => rfl
  | a :: l => by have := asgC_len l; simp only [asgC, List.flatMap_cons, List.length_append] at this ⊢; rw [this]; simp; omega
theorem asgC_at : ∀ {l : List Asg} {k : Nat}, k < l.length → (asgC l)[k * 2]? = some (.int .i64 (asg l k).v) ∧ (asgC l)[k * 2 + 1]? = some (.int .i64 (asg l k).x)
  | [], k, h => by simp at h
  | a :: l, 0, _ => by simp [asgC, asg]
  | a :: l, k + 1, h => by
    have ih := asgC_at (l := l) (k := k) (by simpa using h)
    have e : asgC (a :: l) = .int .i64 a.v :: .int .i64 a.x :: asgC l := by simp [asgC]
    have e2 : asg (a :: l) (k + 1) = asg l k := by simp [asg, List.getD]
    rw [e, e2, show (k + 1) * 2 = k * 2 + 1 + 1 by omega]
    simpa using ih
theorem own_asgL {W : World} {base : Nat} {v : Value} {l : List Asg} (h : W.ownsRow base 73 2 v l.length (asgC l)) : ∃ a c, v = .slice a l.length c ∧ AsgL W W.heap.size a c l ∧ (a = none → c = 0) := by
  rcases h.2 with ⟨rfl, h0⟩ | ⟨g, cap, cur, rfl, hg, hh, hn, hcap, hcs, hx⟩
  · exact ⟨none, 0, by rw [h0], ⟨fun h => by omega, by omega, by simp [maxLen]⟩, fun _ => rfl⟩
  · refine ⟨_, cap, rfl, ⟨fun h0 => ⟨g, 0, rfl, (Array.getElem?_eq_some_iff.1 hh).1, fun k hk => ?_⟩, hn, hcap⟩, fun e => by cases e⟩
    obtain ⟨q1, q2⟩ := asgC_at hk
    have c1 := h.cells (g := g) rfl _ _ q1
    have c2 := h.cells (g := g) rfl _ _ q2
    exact ⟨by simpa [Addr.add_lit] using c1, by simpa [Addr.add_lit, Nat.add_assoc] using c2⟩
theorem own_nums {W : World} {base : Nat} {a : Option Addr} {n c : Nat} {xs : List Int} (h : W.ownsRow base 3 1 (.slice a n c) xs.length (xs.map (Value.int .i64))) : LstN W a c xs := by
  obtain ⟨a2, c2, e, hl⟩ := slL_own h
  injection e with e1 e2 e3
  subst e1 e3
  exact hl
def AsPost (w : World) (l : List Asg) (b : Bool) (e : Ending) (w' : World) : Prop := ∃ v, e = .returned (.tuple #[v, .bool b]) ∧ w'.ownsRow w.heap.size 73 2 v l.length (asgC l) ∧ Below w.heap.size w w'
theorem asgN_step {cs : List (List Int)} {fs vs : List Int} {k : Nat} (h : valL (rw_ cs k) fs = vs) : asgN cs fs (k + 1) = asgN cs fs k ++ (vs.take vs.length).map (fun x => ⟨(k : Int), x⟩) := by
  rw [List.take_length, ← h]; rfl
theorem vs_step {vs : List Int} {k j : Nat} {p : List Asg} (h : j < vs.length) : p ++ (vs.take (j + 1)).map (fun x => (⟨(k : Int), x⟩ : Asg)) = (p ++ (vs.take j).map (fun x => ⟨(k : Int), x⟩)) ++ [⟨(k : Int), ix vs j⟩] := by
  rw [take_succ_ix h, List.map_append, List.append_assoc]; rfl
set_option maxHeartbeats 4000000 in
theorem assignments_any (A B : Option Addr) (c d : Nat) (cs : List (List Int)) (fs : List Int) (w : World) (hA : Rws w w.heap.size A cs) (hB : Lst w w.heap.size B d fs) (hlc : cs.length ≤ 48) (h24 : ∀ k, k < cs.length → (rw_ cs k).length ≤ 24) :
    Calls Tryd.prog 49 #[.slice A cs.length c, .slice B fs.length d] w (AsPost w (asgR cs fs) (!crB cs fs)) := by
  have HA := Lib.hid (fun (W : World) (h : Below w.heap.size w W) => hA.to h h.size)
  have HB := Lib.hid (fun (W : World) (h : Below w.heap.size w W) => hB.to h h.size)
  have H24 := Lib.hid h24
  clear hA hB h24
  obtain ⟨j0, hja, hy0, hy1, hy2⟩ := info_parts info_as
  go_enter Tryd.func49, Tryd.ntmps49
  go_wp2
  go_loopw [6, 14] (fun v i wr => ∃ k : Nat, k ≤ cs.length ∧ i = .int .i64 k ∧ Below w.heap.size w wr ∧ wr.ownsRow w.heap.size 73 2 v (asgN cs fs k).length (asgC (asgN cs fs k)) ∧ ∀ j, j < k → (valL (rw_ cs j) fs).length ≤ 1) (fun _ i _ => cs.length - (intOf i).toNat)
  case atStart => exact ⟨0, by omega, rfl, Below.refl _ _, World.ownsRow_nil _ _ _ _, by omega⟩
  case round =>
    obtain ⟨k, hk, rfl, hbw, hown, hj⟩ := hrel
    have HW := Lib.hid hbw
    have HO := Lib.hid hown
    have HJ := Lib.hid hj
    clear hbw hown hj
    by_cases hlt : k < cs.length
    case neg =>
      have hge : ¬ ((k : Int) < cs.length) := by omega
      obtain rfl : k = cs.length := by omega
      have H := Lib.hid (show crB cs fs = false from crB_false.2 (fun j hj => HJ.out j hj))
      have H2 := Lib.hid (show asgR cs fs = asgN cs fs cs.length by unfold asgR; rw [H.out]; rfl)
      go_wp2
      go_ret2
      exact ⟨_, by rw [H.out]; rfl, by rw [H2.out]; exact HO.out, HW.out⟩
    have hlen := asgN_le cs fs k HJ.out
    obtain ⟨b, o, ak, ck, rfl, hbl, hcell, hlst⟩ := (HA.out _ HW.out).at_ hlt
    have HV := Lib.hid (valuesOf_any ak B ck d (rw_ cs k) fs wr hlst (HB.out _ HW.out) (H24.out k hlt))
    have HBAD := Lib.hid (fun h => crB_bad (fs := fs) hlt h)
    have HST := Lib.hid (fun vs (h : valL (rw_ cs k) fs = vs) => asgN_step h)
    have HJ2 := Lib.hid (fun h => all_step (p := fun j => (valL (rw_ cs j) fs).length ≤ 1) HJ.out h)
    clear hlst HJ
    obtain ⟨vs, hvs⟩ : ∃ vs, valL (rw_ cs k) fs = vs := ⟨_, rfl⟩
    rw [hvs] at HV HBAD HJ2
    have HS := Lib.hid (HST.out vs hvs)
    clear HST hvs
    by_cases hc : 1 < vs.length
    · have H := Lib.hid (HBAD.out hc)
      have H2 := Lib.hid (show asgR cs fs = [] by unfold asgR; rw [H.out]; rfl)
      have d1 : decide ((1 : Int) < (vs.length : Int)) = true := decide_eq_true (by omega)
      clear hc HBAD HJ2 HS
      go_wp2_with (go_at_call 74; (with_reducible refine HV.out.mono ?_); rintro e w1 ⟨v1, rfl, ho1, hb1⟩; have hs1 := slL_own ho1; obtain ⟨a1, c1, rfl, hn1⟩ := hs1; clear hn1; have HB1 := Lib.hid hb1; have HO1 := Lib.hid ho1; clear hb1 ho1)
      go_ret2
      exact ⟨_, by rw [H.out]; rfl, by rw [H2.out]; exact World.ownsRow_nil _ _ _ _, HW.out.trans (HB1.out.mono HW.out.size)⟩
    have d1 : decide ((1 : Int) < (vs.length : Int)) = false := decide_eq_false (by omega)
    have HJ3 := Lib.hid (HJ2.out (by omega))
    have hv1 : vs.length ≤ 1 := by omega
    clear hc HBAD HJ2
    generalize asgN cs fs k = p at *
    go_wp2_with (go_at_call 74; (with_reducible refine HV.out.mono ?_); rintro e w1 ⟨v1, rfl, ho1, hb1⟩; have hs1 := slL_own ho1; obtain ⟨a1, c1, rfl, hn1⟩ := hs1; clear hn1; have HB1 := Lib.hid hb1; have HO1 := Lib.hid ho1; clear hb1 ho1)
    have HO2 := Lib.hid (own_to HO.out HB1.out)
    have HW2 := Lib.hid (HW.out.trans (HB1.out.mono HW.out.size))
    obtain ⟨s1, hs1⟩ : ∃ s, wr.heap.size = s := ⟨_, rfl⟩
    rw [hs1] at HO1
    clear HO HB1 hs1 hcell
    rename World => wo
    go_loopw [6, 27] (fun v i wr => ∃ j : Nat, j ≤ vs.length ∧ i = .int .i64 j ∧ Below w.heap.size w wr ∧ wr.ownsRow w.heap.size 73 2 v (p ++ (vs.take j).map (fun x => (⟨(k : Int), x⟩ : Asg))).length (asgC (p ++ (vs.take j).map (fun x => (⟨(k : Int), x⟩ : Asg)))) ∧ wr.ownsRow s1 3 1 (.slice a1 vs.length c1) vs.length (vs.map (Value.int .i64))) (fun _ i _ => vs.length - (intOf i).toNat)
    case atStart => exact ⟨0, by omega, rfl, HW2.out, by simpa using HO2.out, HO1.out⟩
    case round =>
      obtain ⟨j, hj, rfl, hbw, hown, hown2⟩ := hrel
      have HW3 := Lib.hid hbw
      have HO3 := Lib.hid hown
      have HO4 := Lib.hid hown2
      clear hbw hown hown2
      by_cases hlt2 : j < vs.length
      case neg =>
        have hge : ¬ ((j : Int) < vs.length) := by omega
        have H := Lib.hid (show j = vs.length by omega)
        go_wp2
        go_roundw
        case rel => exact ⟨k + 1, by omega, by go_num, HW3.out, by rw [HS.out, ← H.out]; exact HO3.out, HJ3.out⟩
        case measure => simp [intOf]; omega
      have HQ := Lib.hid (vs_step (k := k) (p := p) hlt2)
      obtain ⟨b2, o2, rfl, hb2, hc2⟩ := (own_nums HO4.out).lst.nums.at_ hlt2
      have hle : (p ++ (vs.take j).map (fun x => (⟨(k : Int), x⟩ : Asg))).length ≤ k + 1 := by simp; omega
      have hsz := HW3.out.size
      generalize p ++ (vs.take j).map (fun x => (⟨(k : Int), x⟩ : Asg)) = q at *
      go_wp2_with (at_builtin; refine wpList_append_own_at _ rfl _ _ 35 rfl (w.heap.size) 73 j0 (.agg #[.int .i64 0, .int .i64 0]) 2 16 Tryd.underlying35 hja hy0 hy1 hy2 rfl (by decide) _ _ _ rfl (HO3.out.alloc _) ⟨wr.heap.size, 0, none⟩ 1 1 [.int .i64 k, .int .i64 (ix vs j)] rfl rfl ?d1 ?d2 ?d3 ?d4 ?d5 ?_)
      case d1 => exact cell_two_new _ _ _ _
      case d2 => simp [Value.oneCell']
      case d3 => unfold maxLen; omega
      case d4 => omega
      case d5 => simp; omega
      intro v2 w2 hown2 hgrow _ _
      have HW4 := Lib.hid (HW3.out.trans (Below.grown (B := w.heap.size) ((Below.refl _ _).alloc hsz _) hgrow (by simp; omega) (fun q hq => (HO3.out.lt q hq).1)))
      have HO5 := Lib.hid ((HO4.out.alloc (.cells #[.int .i64 k, .int .i64 (ix vs j)] 73)).kept hgrow (rows_ne (by decide) (HO3.out.alloc (.cells #[.int .i64 k, .int .i64 (ix vs j)] 73)) (HO4.out.alloc (.cells #[.int .i64 k, .int .i64 (ix vs j)] 73))))
      have HO6 := Lib.hid hown2
      clear hgrow hown2
      go_wp2
      go_roundw
      case rel => exact ⟨j + 1, by omega, by go_num, HW4.out, by rw [HQ.out, asgC_app, List.length_append]; exact HO6.out, HO5.out⟩
      case measure => simp [intOf]; omega
end Go.Proofs.YtiaobanloakplaaDoor

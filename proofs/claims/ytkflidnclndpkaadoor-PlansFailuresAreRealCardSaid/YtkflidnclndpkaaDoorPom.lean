/- omitted of the reference: a plan without a step and what cannot be executed then. -/
import Derived.Test.YtkflidnclndpkaaDoorPpa
import Derived.Deep.AppendLies
import Derived.Deep.RegionHeld3
namespace Go.Proofs.YtkflidnclndpkaaDoor
open Go.RowKit
set_option linter.unusedSimpArgs false
set_option linter.unusedVariables false
set_option maxRecDepth 100000

/-- A list comes back. -/
def LsPost (w : World) (l : List Int) (e : Ending) (w' : World) : Prop := ∃ a c, e = .returned (.slice a l.length c) ∧ Lst w' w'.heap.size a c l ∧ (a = none → c = 0) ∧ Below w.heap.size w w'
theorem own_lst {w : World} {base : Nat} {v : Value} {l : List Int} (h : w.ownsRow base 3 1 v l.length (l.map (Value.int .i64))) : ∃ a c, v = .slice a l.length c ∧ Lst w w.heap.size a c l ∧ (a = none → c = 0) := by
  obtain ⟨a, c, rfl, hl⟩ := (sliceOf_own h).set
  refine ⟨a, c, rfl, hl, ?_⟩
  rintro rfl
  rcases h.2 with ⟨e, _⟩ | ⟨g, cap, cur, e, _⟩
  · injection e
  · injection e with e1
    cases e1
theorem have_one {G : Prop} {V wY : World} {g : Nat} {u : Value} (hb : Below V.heap.size V wY) (h : V.cell? ⟨g, 0, none⟩ = some u) (hg : g < V.heap.size) (k : wY.cell? ⟨g, 0, none⟩ = some u → G) : G := k ((hb.cell (p := ⟨g, 0, none⟩) hg).trans h)
theorem news1 {w : World} {g : Nat} {v : Value} (h : w.cell? ⟨g, 0, none⟩ = some v) : ∀ j u, ([v] : List Value)[j]? = some u → w.cell? ((⟨g, 0, none⟩ : Addr).add j) = some u := by
  intro j u hu
  match j with
  | 0 =>
    have : v = u := by simpa using hu
    subst this
    rw [show (⟨g, 0, none⟩ : Addr).add 0 = ⟨g, 0, none⟩ from by unfold Addr.add; split <;> simp_all]
    exact h
  | j + 1 => simp at hu
theorem al6 {U V : World} {o : Obj} (h : Below U.heap.size U V) : Below U.heap.size U (V.alloc o) := h.alloc h.size o
theorem bel_le {U V : World} (h : Below U.heap.size U V) : U.heap.size ≤ V.heap.size := h.size
theorem bel_dn {w U V : World} (h0 : Below w.heap.size w U) (h : Below U.heap.size U V) : Below w.heap.size U V := h.mono h0.size
theorem gr6 {U V V' : World} {v : Value} {n : Nat} {xs : List Value} {W : World} (h : Below U.heap.size U V) (ho : W.ownsRow U.heap.size 3 1 v n xs) (hg : V.grownBy V' v.ownBlock) : Below U.heap.size U V' :=
  h.grown hg h.size (fun k hk => (ho.lt k hk).1)
theorem lst_app {W : World} {base g cap : Nat} {l : List Int} {z : Int} (h : W.ownsRow base 3 1 (.slice (some ⟨g, 0, none⟩) (l.length + 1) cap) (l.length + 1) (l.map (Value.int .i64) ++ [.int .i64 z])) : Lst W W.heap.size (some ⟨g, 0, none⟩) cap (l ++ [z]) := by
  have h2 : W.ownsRow base 3 1 (.slice (some ⟨g, 0, none⟩) (l ++ [z]).length cap) (l ++ [z]).length ((l ++ [z]).map (Value.int .i64)) := by simpa using h
  obtain ⟨a, c, e, hl, _⟩ := own_lst h2
  cases e
  exact hl
set_option maxHeartbeats 8000000 in
theorem omitted_any (x : Tsk) (n : Nat) (hv : Val x n) (a3 : Option Addr) (c3 : Nat) (plan : List Int) (h0 : a3 = none → c3 = 0) (hpl : planB x.ops.length plan = true) (h60 : plan.length ≤ 60) (i : Nat) (hi : i < plan.length) (w : World) (hX : TskIn w w.heap.size x) (hL : Lst w w.heap.size a3 c3 plan) :
    Calls Tryd.prog 33 #[.agg #[.int .i64 x.n, .slice x.ai x.init.length x.ci, .slice x.ag x.goal.length x.cg, .slice x.ao x.ops.length x.co], .slice a3 plan.length c3, .int .i64 i] w (LsPost w (omL x n plan i)) := by
  have HX0 := Lib.hid (fun (W : World) (h : Below w.heap.size w W) => hX.to h h.size)
  have HL0 := Lib.hid (fun (W : World) (h : Below w.heap.size w W) => hL.to h h.size)
  have HPL := Lib.hid hpl
  have HV := Lib.hid hv
  have HA3 := Lib.hid h0
  obtain ⟨b, o, rfl, hbw, _⟩ := hL.nums.at_ hi
  have hcap := hL.le
  have hmax := hL.max
  unfold maxLen at hmax
  obtain ⟨i0, hi0, hz0, hz1, hz2⟩ := info_parts info_int
  have HB0 := Lib.hid (tbox_new w x 25)
  have hB1 : Below w.heap.size w (w.alloc (.cells #[.int .i64 x.n, .slice x.ai x.init.length x.ci, .slice x.ag x.goal.length x.cg, .slice x.ao x.ops.length x.co] 25)) := by go_grown
  have HB1 := Lib.hid hB1
  have HC0 := Lib.hid (copy_any (some ⟨b, o, none⟩) c3 (plan.take i) _ (lst_take (HL0.out _ hB1) (by omega)) h0 (by rw [take_len (by omega)]; omega))
  rw [take_len (by omega : i ≤ plan.length)] at HC0
  have HTL := Lib.hid (take_len (by omega : i ≤ plan.length))
  have hwi : IntKind.i64.wrap ((i : Int) + 1) = (i : Int) + 1 := IntWalk.i64_in _ (by omega)
  have hi1 : (i : Int) ≤ c3 := by omega
  have hi2 : (0 : Int) ≤ (i : Int) := by omega
  have hi3 : ((i : Int)).toNat = i := by omega
  clear hX hL hv hpl h0 hB1
  go_enter Tryd.func33, Tryd.ntmps33
  go_wp2_with (go_at_call 23; (with_reducible refine HC0.out.mono ?_); rintro e w1 ⟨v0, rfl, hown, hb⟩; have HO1 := Lib.hid hown; have HBB := Lib.hid hb; clear hown hb)
  go_loopw [7, 8] (fun v k wr => ∃ m kk : Nat, kk = i + 1 + m ∧ kk ≤ plan.length ∧ k = .int .i64 (kk : Int) ∧ wr.ownsRow (w.heap.size + 1) 3 1 v (omK x n plan i m).length ((omK x n plan i m).map (Value.int .i64)) ∧ Below w.heap.size w wr ∧ TBox wr w.heap.size x) (fun _ k _ => plan.length - (intOf k).toNat)
  case atStart =>
    refine ⟨0, i + 1, by omega, by omega, by go_num, ?_, HB1.out.trans (HBB.out.mono HB1.out.size), HB0.out.to HBB.out HB0.out.lt⟩
    have h := HO1.out
    rw [HTL.out] at h
    rw [omK_zero, HTL.out]
    exact own_mono h (by simp)
  case round =>
    obtain ⟨m, kk, hkk, hm, rfl, hown, hbe, hbox⟩ := hrel
    have HKK := Lib.hid hkk
    have HOW := Lib.hid hown
    have HBW := Lib.hid hbe
    have HBX := Lib.hid hbox
    obtain ⟨ao, co, rfl, hlo, hno⟩ := own_lst hown
    have HLO := Lib.hid (fun (V : World) (h : Below wr.heap.size wr V) => hlo.to h h.size)
    have HNO := Lib.hid hno
    have HLN := Lib.hid (Nat.le_trans (omK_len (x := x) (n := n) (plan := plan) (i := i) (m := m)) h60)
    have HCp := Lib.hid (fun (V : World) (h : Lst V V.heap.size ao co (omK x n plan i m)) => copy_any ao co (omK x n plan i m) V h hno (by have := HLN.out; omega))
    clear hown hbe hbox hlo hno hkk
    obtain ⟨_, t0, t1, t2, t3⟩ := HBX.out
    by_cases hlt : kk < plan.length
    case neg =>
      have HE := Lib.hid (omK_all (x := x) (n := n) (plan := plan) (i := i) (m := m) (by have := HKK.out; omega))
      have hd : decide ((kk : Int) < (plan.length : Int)) = false := by simp; omega
      go_wp2
      go_ret
      refine ⟨ao, co, by rw [← HE.out]; rfl, ?_, HNO.out, HBW.out⟩
      rw [← HE.out]
      exact HLO.out _ (Below.refl _ _)
    case pos =>
      have hd : decide ((kk : Int) < (plan.length : Int)) = true := by simp; omega
      obtain ⟨b', o', e', _, hc0⟩ := (HL0.out _ HBW.out).nums.at_ hlt
      cases e'
      have hww := Below.refl wr.heap.size wr
      have hpo : planB x.ops.length ((omK x n plan i m) ++ [(ix plan kk)]) = true := by
        refine planB_join (planB_sub HPL.out ((om_sub x n _ _).trans ((List.Sublist.append_left (List.take_sublist _ _) _).trans (cut_sub plan i)))) (planB_mem.2 (fun y hy => ?_))
        obtain rfl := List.mem_singleton.1 hy
        exact planB_at HPL.out hlt
      have hos := omK_succ (x := x) (n := n) (plan := plan) (i := i) (m := m) (by rw [← HKK.out]; exact hlt)
      rw [← HKK.out] at hos
      have HOS := Lib.hid hos
      clear hos
      have HEn := Lib.hid (fun (V : World) (aX : Option Addr) (cX : Nat) (hXV : TskIn V V.heap.size x) (hLV : Lst V V.heap.size aX cX ((omK x n plan i m) ++ [(ix plan kk)])) => ends_any x n HV.out x.ai aX x.ci cX x.init ((omK x n plan i m) ++ [(ix plan kk)]) hpo V hXV hXV.init hLV)
      have HSO := Lib.hid (fun (V : World) (h : Below wr.heap.size wr V) => (⟨(HBX.out.to h HBX.out.lt).c0, (HBX.out.to h HBX.out.lt).c1, (HBX.out.to h HBX.out.lt).c2, (HBX.out.to h HBX.out.lt).c3, (h.cell (p := ⟨b, o + kk, none⟩) (Nat.lt_of_lt_of_le hbw HBW.out.size)).trans hc0, h⟩ : V.cell? ⟨w.heap.size, 0, none⟩ = some (.int .i64 x.n) ∧ V.cell? ⟨w.heap.size, 1, none⟩ = some (.slice x.ai x.init.length x.ci) ∧ V.cell? ⟨w.heap.size, 2, none⟩ = some (.slice x.ag x.goal.length x.cg) ∧ V.cell? ⟨w.heap.size, 3, none⟩ = some (.slice x.ao x.ops.length x.co) ∧ V.cell? ⟨b, o + kk, none⟩ = some (.int .i64 (ix plan kk)) ∧ Below wr.heap.size wr V))
      have hwk : IntKind.i64.wrap ((kk : Int) + 1) = (kk : Int) + 1 := IntWalk.i64_in _ (by omega)
      generalize hr : runTo x n x.init ((omK x n plan i m) ++ [(ix plan kk)]) ((omK x n plan i m) ++ [(ix plan kk)]).length = r at HEn
      have HR := Lib.hid hr
      rw [List.length_append, List.length_singleton] at HEn
      clear hr hpo
      have hcs : wr.heap.size = wr.heap.size := rfl
      cases r with
      | none =>
        have HN := Lib.hid (show omK x n plan i (m + 1) = (omK x n plan i m) by
          have he : exB x n ((omK x n plan i m) ++ [(ix plan kk)]) = false := by unfold exB; rw [HR.out]; rfl
          have h1 := HOS.out
          unfold omS at h1
          rw [he] at h1
          exact h1)
        go_wp2
        go_region_held3 (fun V => V.cell? ⟨w.heap.size, 0, none⟩ = some (.int .i64 x.n) ∧ V.cell? ⟨w.heap.size, 1, none⟩ = some (.slice x.ai x.init.length x.ci) ∧ V.cell? ⟨w.heap.size, 2, none⟩ = some (.slice x.ag x.goal.length x.cg) ∧ V.cell? ⟨w.heap.size, 3, none⟩ = some (.slice x.ao x.ops.length x.co) ∧ V.cell? ⟨b, o + kk, none⟩ = some (.int .i64 (ix plan kk)) ∧ Below wr.heap.size wr V) (first | (refine ⟨?_, ?_, ?_, ?_, ?_, ?_⟩ <;> assumption) | (exact HSO.out _ hww.drew) | (exact HSO.out _ hww) | (exact HSO.out _ (bel_step (last6 (by assumption)) (by assumption))) | (exact HSO.out _ (al6 (last6 (by assumption)))) | (exact HSO.out _ (al6 (last6 (by assumption))).drew) | (exact HSO.out _ (gr6 (last6 (by assumption)) HOC.out hgrow))) (first | (go_at_call 23; refine (HCp.out _ ?_).mono ?_; (exact HLO.out _ (last6 (by assumption))); rintro e wC ⟨vc, rfl, hown, hb⟩; have HOC := Lib.hid (own_mono hown (bel_le (last6 (by assumption)))); have HBS := Lib.hid (Nat.le_trans (bel_le (last6 (by assumption))) hb.size); (first | (refine have_one (g := wr.heap.size) (u := .int .i64 (ix plan kk)) hb ?_ ?_ (fun hz => ?_); (first | exact (cell_new _ _ _).1); (focus simp)) | skip)) | (refine step_append_lies _ (by rfl) _ _ _ (by rfl) wr.heap.size 3 i0 (.int .i64 0) 1 8 Tryd.underlying22 hi0 hz0 hz1 hz2 rfl (by omega) vc (omK x n plan i m).length ((omK x n plan i m).map (Value.int .i64)) (by rfl) ?_ _ 1 1 [.int .i64 (ix plan kk)] (by rfl) (by rfl) ?_ (by simp [Value.oneCell']) (by omega) (by have := HLN.out; unfold maxLen; omega) (by have := HLN.out; omega) ?_ _ rfl ?_; (first | exact HOC.out | exact HOC.out.alloc _ | exact (HOC.out.alloc _).drew | exact (HOC.out.drew.alloc _) | exact HOC.out.drew); (first | exact cell_one_new _ _ _ | exact news1 hz); (have := HBS.out; simp; omega); intro gg cap w1 hown1 hgrow hat hlt1; have HON := Lib.hid hown1) | (go_at_call 28; refine (HEn.out _ _ _ ?_ ?_).mono ?_; (exact HX0.out _ (HBW.out.trans (bel_dn HBW.out (last6 (by assumption))))); (exact lst_app HON.out); rintro e w' ⟨ve, rfl, hse, hb⟩))
        all_goals
          have HB9 := Lib.hid (show Below wr.heap.size wr w' from (last6 (by assumption)))
          go_wp2
          go_roundw
          case rel =>
            refine ⟨m + 1, kk + 1, by have := HKK.out; omega, hlt, by go_num, ?_, HBW.out.trans (HB9.out.mono HBW.out.size), HBX.out.to HB9.out HBX.out.lt⟩
            rw [HN.out]
            exact own_to HOW.out HB9.out
          case measure => simp [intOf]; omega
      | some t =>
        have HN := Lib.hid (show omK x n plan i (m + 1) = (omK x n plan i m) ++ [(ix plan kk)] by
          have he : exB x n ((omK x n plan i m) ++ [(ix plan kk)]) = true := by unfold exB; rw [HR.out]; rfl
          have h1 := HOS.out
          unfold omS at h1
          rw [he] at h1
          exact h1)
        go_wp2
        go_region_held3 (fun V => V.cell? ⟨w.heap.size, 0, none⟩ = some (.int .i64 x.n) ∧ V.cell? ⟨w.heap.size, 1, none⟩ = some (.slice x.ai x.init.length x.ci) ∧ V.cell? ⟨w.heap.size, 2, none⟩ = some (.slice x.ag x.goal.length x.cg) ∧ V.cell? ⟨w.heap.size, 3, none⟩ = some (.slice x.ao x.ops.length x.co) ∧ V.cell? ⟨b, o + kk, none⟩ = some (.int .i64 (ix plan kk)) ∧ Below wr.heap.size wr V) (first | (refine ⟨?_, ?_, ?_, ?_, ?_, ?_⟩ <;> assumption) | (exact HSO.out _ hww.drew) | (exact HSO.out _ hww) | (exact HSO.out _ (bel_step (last6 (by assumption)) (by assumption))) | (exact HSO.out _ (al6 (last6 (by assumption)))) | (exact HSO.out _ (al6 (last6 (by assumption))).drew) | (exact HSO.out _ (gr6 (last6 (by assumption)) HOC.out hgrow))) (first | (go_at_call 23; refine (HCp.out _ ?_).mono ?_; (exact HLO.out _ (last6 (by assumption))); rintro e wC ⟨vc, rfl, hown, hb⟩; have HOC := Lib.hid (own_mono hown (bel_le (last6 (by assumption)))); have HBS := Lib.hid (Nat.le_trans (bel_le (last6 (by assumption))) hb.size); (first | (refine have_one (g := wr.heap.size) (u := .int .i64 (ix plan kk)) hb ?_ ?_ (fun hz => ?_); (first | exact (cell_new _ _ _).1); (focus simp)) | skip)) | (refine step_append_lies _ (by rfl) _ _ _ (by rfl) wr.heap.size 3 i0 (.int .i64 0) 1 8 Tryd.underlying22 hi0 hz0 hz1 hz2 rfl (by omega) vc (omK x n plan i m).length ((omK x n plan i m).map (Value.int .i64)) (by rfl) ?_ _ 1 1 [.int .i64 (ix plan kk)] (by rfl) (by rfl) ?_ (by simp [Value.oneCell']) (by omega) (by have := HLN.out; unfold maxLen; omega) (by have := HLN.out; omega) ?_ _ rfl ?_; (first | exact HOC.out | exact HOC.out.alloc _ | exact (HOC.out.alloc _).drew | exact (HOC.out.drew.alloc _) | exact HOC.out.drew); (first | exact cell_one_new _ _ _ | exact news1 hz); (have := HBS.out; simp; omega); intro gg cap w1 hown1 hgrow hat hlt1; have HON := Lib.hid hown1) | (go_at_call 28; refine (HEn.out _ _ _ ?_ ?_).mono ?_; (exact HX0.out _ (HBW.out.trans (bel_dn HBW.out (last6 (by assumption))))); (exact lst_app HON.out); rintro e w' ⟨ve, rfl, hse, hb⟩))
        all_goals
          have HB9 := Lib.hid (show Below wr.heap.size wr w' from (last6 (by assumption)))
          have HO9 := Lib.hid (own_to HOW.out HB9.out)
          have hc9 : w'.cell? ⟨b, o + kk, none⟩ = some (.int .i64 (ix plan kk)) := (HB9.out.cell (p := ⟨b, o + kk, none⟩) (Nat.lt_of_lt_of_le hbw HBW.out.size)).trans hc0
          go_wp2_with (at_builtin; refine wpList_append_own _ rfl _ _ 22 rfl (w.heap.size + 1) 3 i0 (.int .i64 0) 1 8 Tryd.underlying22 hi0 hz0 hz1 hz2 rfl (by decide) _ _ _ rfl (HO9.out.alloc _) ⟨w'.heap.size, 0, none⟩ 1 1 [.int .i64 (ix plan kk)] rfl rfl ?c1 ?c2 ?c3 ?c4 ?c5 ?_)
          case c1 => exact cell_one_new _ _ _
          case c2 => simp [Value.oneCell']
          case c3 => have := HLN.out; unfold maxLen; omega
          case c4 => have := HLN.out; omega
          case c5 => have := HBX.out.lt; have := HB9.out.size; simp; omega
          intro v6 w6 hown6 hgrow6 _
          have HO6 := Lib.hid hown6
          have hsz : w.heap.size + 1 ≤ w'.heap.size := by have := HBX.out.lt; have := HB9.out.size; omega
          have HB6 := Lib.hid (((Below.refl (w.heap.size + 1) w').alloc hsz _).grown hgrow6 (by simp; omega) (fun q hq => (HO9.out.lt q hq).1))
          clear hown6 hgrow6 hsz
          go_wp2
          go_roundw
          case rel =>
            refine ⟨m + 1, kk + 1, by have := HKK.out; omega, hlt, by go_num, ?_, (HBW.out.trans (HB9.out.mono HBW.out.size)).trans (HB6.out.mono (by omega)), (HBX.out.to HB9.out HBX.out.lt).to HB6.out (by omega)⟩
            rw [HN.out]
            simpa using HO6.out
          case measure => simp [intOf]; omega
end Go.Proofs.YtkflidnclndpkaaDoor

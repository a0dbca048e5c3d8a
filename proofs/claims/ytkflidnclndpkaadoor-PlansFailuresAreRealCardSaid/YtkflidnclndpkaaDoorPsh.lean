/- shorter and MinimalOf of the reference. -/
import Derived.Test.YtkflidnclndpkaaDoorPre
namespace Go.Proofs.YtkflidnclndpkaaDoor
open Go.RowKit
set_option linter.unusedSimpArgs false
set_option linter.unusedVariables false
set_option maxRecDepth 100000

theorem lst_drop1 {w : World} {B b o c : Nat} {a : Int} {tl : List Int} (h : Lst w B (some ⟨b, o, none⟩) c (a :: tl)) : Lst w B (some ⟨b, o + 1, none⟩) (c - 1) tl := by
  refine ⟨fun h0 => ?_, by have := h.le; simp at this; omega, by have := h.max; omega⟩
  obtain ⟨b', o', e, hb, hc⟩ := h.nums (by simp)
  cases e
  refine ⟨b, o + 1, rfl, hb, fun k hk => ?_⟩
  have := hc (k + 1) (by simp; omega)
  rw [show o + 1 + k = o + (k + 1) by omega, this]
  simp [ix, List.getD]
/-- A truth value comes back. -/
def BoPost (w : World) (q : Bool) (e : Ending) (w' : World) : Prop := e = .returned (.bool q) ∧ Below w.heap.size w w'
set_option maxHeartbeats 8000000 in
theorem shorter_any (x : Tsk) (n : Nat) (hv : Val x n) : ∀ (ts head : List Int) (left : Bool) (ah aT : Option Addr) (ch cT : Nat) (w : World), planB x.ops.length head = true → planB x.ops.length ts = true → head.length + ts.length ≤ 60 → (ah = none → ch = 0) → TskIn w w.heap.size x → Lst w w.heap.size ah ch head → Lst w w.heap.size aT cT ts →
    Calls Tryd.prog 35 #[.agg #[.int .i64 x.n, .slice x.ai x.init.length x.ci, .slice x.ag x.goal.length x.cg, .slice x.ao x.ops.length x.co], .slice ah head.length ch, .slice aT ts.length cT, .bool left] w (BoPost w (shL x n head ts left)) := by
  intro ts
  induction ts with
  | nil =>
    intro head left ah aT ch cT w hph hpt h60 hA hX hH hT
    have HV := Lib.hid hv
    have HPH := Lib.hid hph
    have hP := Lib.hid (Alive.cons (boxS w.heap.size x) (tbox_new w x 25) ((Alive.cons (tskS x) hX (Alive.cons (lstS ah ch head) hH (Alive.cons (belS w) (Below.refl _ w) (Alive.nil w)))).to ((Below.refl _ _).alloc (Nat.le_refl _) (.cells #[.int .i64 x.n, .slice x.ai x.init.length x.ci, .slice x.ag x.goal.length x.cg, .slice x.ao x.ops.length x.co] 25))))
    clear hX hH hT hv hph hpt hA
    cases left with
    | false =>
      go_enter Tryd.func35, Tryd.ntmps35
      go_wp2
      go_ret
      exact ⟨rfl, hP.out (belS w) (by simp)⟩
    | true =>
      go_enter Tryd.func35, Tryd.ntmps35
      go_wp2_with (go_at_call 29; have hTk := Lib.hid (show TskIn _ _ x from hP.out (tskS x) (by simp)); have hLh := Lib.hid (show Lst _ _ ah ch head from hP.out (lstS ah ch head) (by simp)); (with_reducible refine (solves_any x n HV.out ah ch head HPH.out _ hTk.out hLh.out).mono ?_); rintro e w3 ⟨rfl, hb⟩; have hP := Lib.hid (hP.out.to hb); clear hb; obtain ⟨_, t0, t1, t2, t3⟩ := (show TBox _ _ x from hP.out (boxS w.heap.size x) (by simp)))
      go_ret
      exact ⟨by simp [shL], hP.out (belS w) (by simp)⟩
  | cons a tl ih =>
    intro head left ah aT ch cT w hph hpt h60 hA hX hH hT
    have HV := Lib.hid hv
    obtain ⟨b, o, rfl, hbw, hc0⟩ := hT.nums.at_ (k := 0) (by simp)
    rw [show ix (a :: tl) 0 = a from rfl, Nat.add_zero] at hc0
    have hcap := hT.le
    have hmax := hT.max
    unfold maxLen at hmax
    rw [List.length_cons] at hcap h60
    have hpt2 := planB_mem.1 hpt
    have hpa : planB x.ops.length (head ++ [a]) = true := planB_join hph (planB_mem.2 (fun y hy => by obtain rfl := List.mem_singleton.1 hy; exact hpt2 _ (List.mem_cons_self ..)))
    have hpl : planB x.ops.length tl = true := planB_mem.2 (fun y hy => hpt2 y (List.mem_cons_of_mem _ hy))
    have hB1 : Below w.heap.size w (w.alloc (.cells #[.int .i64 x.n, .slice x.ai x.init.length x.ci, .slice x.ag x.goal.length x.cg, .slice x.ao x.ops.length x.co] 25)) := by go_grown
    by_cases hq : cT = 1
    · have e0 : tl = [] := List.eq_nil_of_length_eq_zero (by omega)
      subst e0 hq
      have HR1 := Lib.hid (fun (aX : Option Addr) (cX : Nat) (W : World) (hA : aX = none → cX = 0) (hX : TskIn W W.heap.size x) (hH : Lst W W.heap.size aX cX (head ++ [a])) (hT : Lst W W.heap.size (some ⟨b, o, none⟩) 0 []) => ih (head ++ [a]) left aX (some ⟨b, o, none⟩) cX 0 W hpa (planB_mem.2 (fun y hy => by simp at hy)) (by simp; omega) hA hX hH hT)
      have HR2 := Lib.hid (fun (W : World) (hX : TskIn W W.heap.size x) (hH : Lst W W.heap.size ah ch head) (hT : Lst W W.heap.size (some ⟨b, o, none⟩) 0 []) => ih head true ah (some ⟨b, o, none⟩) ch 0 W hph (planB_mem.2 (fun y hy => by simp at hy)) (by first | omega | (simp at h60 ⊢; omega)) hA hX hH hT)
      have HCp := Lib.hid (fun (V : World) (h : Lst V V.heap.size ah ch head) => copy_any ah ch head V h hA (by omega))
      have HLN := Lib.hid h60
      obtain ⟨i0, hi0, hz0, hz1, hz2⟩ := info_parts info_int
      have hbx := tbox_new w x 25
      have hX1 := hX.to hB1 hB1.size
      have hH1 := hH.to hB1 hB1.size
      have hT1 : Lst (w.alloc (.cells #[.int .i64 x.n, .slice x.ai x.init.length x.ci, .slice x.ag x.goal.length x.cg, .slice x.ao x.ops.length x.co] 25)) (w.alloc (.cells #[.int .i64 x.n, .slice x.ai x.init.length x.ci, .slice x.ag x.goal.length x.cg, .slice x.ao x.ops.length x.co] 25)).heap.size (some ⟨b, o, none⟩) 0 [] := ⟨nums_nil _ _ _, by simp, by simp [maxLen]⟩
      have hc1 := (hB1.cell (p := ⟨b, o, none⟩) hbw).trans hc0
      clear hX hH hT hpt hpt2 ih hph hv hA hc0
      rw [List.length_append, List.length_singleton] at HR1
      rw [List.length_nil] at HR1 HR2
      go_enter Tryd.func35, Tryd.ntmps35
      go_wp2
      generalize hU : w.alloc (.cells #[.int .i64 x.n, .slice x.ai x.init.length x.ci, .slice x.ag x.goal.length x.cg, .slice x.ao x.ops.length x.co] 25) = U at hB1 hbx hX1 hH1 hT1 hc1 ⊢
      clear hU
      have HX0 := Lib.hid (fun (V : World) (h : Below U.heap.size U V) => hX1.to h h.size)
      have HLH := Lib.hid (fun (V : World) (h : Below U.heap.size U V) => hH1.to h h.size)
      have HTL := Lib.hid (fun (V : World) (h : Below U.heap.size U V) => hT1.to h h.size)
      have HBU := Lib.hid hB1
      have hbU : b < U.heap.size := Nat.lt_of_lt_of_le hbw hB1.size
      have HSO := Lib.hid (fun (V : World) (h : Below U.heap.size U V) => (⟨(hbx.to h hbx.lt).c0, (hbx.to h hbx.lt).c1, (hbx.to h hbx.lt).c2, (hbx.to h hbx.lt).c3, (h.cell (p := ⟨b, o, none⟩) hbU).trans hc1, h⟩ : V.cell? ⟨w.heap.size, 0, none⟩ = some (.int .i64 x.n) ∧ V.cell? ⟨w.heap.size, 1, none⟩ = some (.slice x.ai x.init.length x.ci) ∧ V.cell? ⟨w.heap.size, 2, none⟩ = some (.slice x.ag x.goal.length x.cg) ∧ V.cell? ⟨w.heap.size, 3, none⟩ = some (.slice x.ao x.ops.length x.co) ∧ V.cell? ⟨b, o, none⟩ = some (.int .i64 a) ∧ Below U.heap.size U V))
      have hww := Below.refl U.heap.size U
      obtain ⟨_, t0, t1, t2, t3⟩ := hbx
      clear hX1 hH1 hT1 hB1
      cases hr1 : shL x n (head ++ [a]) [] left with
      | true =>
        rw [hr1] at HR1
        have HE := Lib.hid (show shL x n head (a :: []) left = true by show (shL x n (head ++ [a]) [] left || shL x n head [] true) = true; rw [hr1]; rfl)
        clear hr1
        refine wp_region_noPanic ?_
        refine wp_region_held_drew (S := (fun V => V.cell? ⟨w.heap.size, 0, none⟩ = some (.int .i64 x.n) ∧ V.cell? ⟨w.heap.size, 1, none⟩ = some (.slice x.ai x.init.length x.ci) ∧ V.cell? ⟨w.heap.size, 2, none⟩ = some (.slice x.ag x.goal.length x.cg) ∧ V.cell? ⟨w.heap.size, 3, none⟩ = some (.slice x.ao x.ops.length x.co) ∧ V.cell? ⟨b, o, none⟩ = some (.int .i64 a) ∧ Below U.heap.size U V)) (by kernel_rfl) ?_ (fun hHeld => ?_)
        · exact HSO.out _ hww.drew
        refine wpAnyH_take (i := 0) (oi := _) (v := ?v1) rfl (by kernel_rfl) (by kernel_rfl) (by kernel_rfl) (fun _ _ _ h => h) (Or.inl ⟨by rfl, ?hy1⟩) (by assumption) ?rest1
        case hy1 => (intro w hSw; (try dsimp only at hSw); go_simp; try (with_reducible rfl))
        try simp only [Act.put, List.setIfInBounds_toArray, List.set_cons_zero, List.set_cons_succ]
        refine wpAnyH_take (i := 1) (oi := _) (v := ?v2) rfl (by kernel_rfl) (by kernel_rfl) (by kernel_rfl) (fun _ _ _ h => h) (Or.inl ⟨by rfl, ?hy2⟩) (by assumption) ?rest2
        case hy2 => (intro w hSw; (try dsimp only at hSw); go_simp; try (with_reducible rfl))
        try simp only [Act.put, List.setIfInBounds_toArray, List.set_cons_zero, List.set_cons_succ]
        refine wpAnyH_take (i := 3) (oi := _) (v := ?v3) rfl (by kernel_rfl) (by kernel_rfl) (by kernel_rfl) (fun _ _ _ h => h) (Or.inl ⟨by rfl, ?hy3⟩) (by assumption) ?rest3
        case hy3 => (intro w hSw; (try dsimp only at hSw); go_simp; try (with_reducible rfl))
        try simp only [Act.put, List.setIfInBounds_toArray, List.set_cons_zero, List.set_cons_succ]
        refine wpAnyH_take (i := 4) (oi := _) (v := ?v4) rfl (by kernel_rfl) (by kernel_rfl) (by kernel_rfl) (fun _ _ _ h => h) (Or.inl ⟨by rfl, ?hy4⟩) (by assumption) ?rest4
        case hy4 => (intro w hSw; (try dsimp only at hSw); go_simp; try (with_reducible rfl))
        try simp only [Act.put, List.setIfInBounds_toArray, List.set_cons_zero, List.set_cons_succ]
        refine wpAnyH_take (i := 5) (oi := _) (v := ?v5) rfl (by kernel_rfl) (by kernel_rfl) (by kernel_rfl) (fun _ _ _ h => h) (Or.inl ⟨by rfl, ?hy5⟩) (by assumption) ?rest5
        case hy5 => (intro w hSw; (try dsimp only at hSw); go_simp; try (with_reducible rfl))
        try simp only [Act.put, List.setIfInBounds_toArray, List.set_cons_zero, List.set_cons_succ]
        refine wpAnyH_take (i := 8) (oi := _) (v := ?v6) rfl (by kernel_rfl) (by kernel_rfl) (by kernel_rfl) (fun _ _ _ h => h) (Or.inl ⟨by rfl, ?hy6⟩) (by assumption) ?rest6
        case hy6 => (intro w hSw; (try dsimp only at hSw); go_simp; try (with_reducible rfl))
        try simp only [Act.put, List.setIfInBounds_toArray, List.set_cons_zero, List.set_cons_succ]
        refine wpAnyH_take (i := 9) (oi := _) (v := ?v7) rfl (by kernel_rfl) (by kernel_rfl) (by kernel_rfl) (fun _ _ _ h => h) (Or.inl ⟨by rfl, ?hy7⟩) (by assumption) ?rest7
        case hy7 => (intro w hSw; (try dsimp only at hSw); go_simp; try (with_reducible rfl))
        try simp only [Act.put, List.setIfInBounds_toArray, List.set_cons_zero, List.set_cons_succ]
        refine wpAnyH_take (i := 10) (oi := _) (v := ?v8) rfl (by kernel_rfl) (by kernel_rfl) (by kernel_rfl) (fun _ _ _ h => h) (Or.inl ⟨by rfl, ?hy8⟩) (by assumption) ?rest8
        case hy8 => (intro w hSw; (try dsimp only at hSw); go_simp; try (with_reducible rfl))
        try simp only [Act.put, List.setIfInBounds_toArray, List.set_cons_zero, List.set_cons_succ]
        refine wpAnyH_ready (rs := [2, 6]) (by kernel_rfl) (by simp) ?_
        refine AllReadyH.cons (o := _) rfl (fun K1 hK1 => ?_) (AllReadyH.cons (o := _) rfl (fun K2 hK2 => ?_) AllReadyH.nil)
        · skip
          go_simp
          (go_at_call 23; refine (HCp.out _ ?_).mono ?_; (exact HLH.out _ (last6 (by assumption))); rintro e wC ⟨vc, rfl, hown, hb⟩; have HOC := Lib.hid (own_mono hown (bel_le (last6 (by assumption)))); have HBS := Lib.hid (Nat.le_trans (bel_le (last6 (by assumption))) hb.size); (first | (refine have_one (g := U.heap.size) (u := .int .i64 a) hb ?_ ?_ (fun hz => ?_); (first | exact (cell_new _ _ _).1); (focus simp)) | skip))
          refine hK1.out _ _ ?_ (fun hHeld => ?_)
          · (first | (refine ⟨?_, ?_, ?_, ?_, ?_, ?_⟩ <;> assumption) | (exact HSO.out _ hww.drew) | (exact HSO.out _ hww) | (exact HSO.out _ (bel_step (last6 (by assumption)) (by assumption))) | (exact HSO.out _ (al6 (last6 (by assumption)))) | (exact HSO.out _ (al6 (last6 (by assumption))).drew) | (exact HSO.out _ (gr6 (last6 (by assumption)) HOC.out hgrow)))
          clear hK1 K1
          try simp only [Act.put, List.setIfInBounds_toArray, List.set_cons_zero, List.set_cons_succ]
          refine wpAnyH_ready (rs := [6]) (by kernel_rfl) (by simp) ?_
          refine AllReadyH.cons (o := _) rfl (fun K9 hK9 => ?_) AllReadyH.nil
          go_simp
          refine hK9.out _ _ ?_ (fun hHeld => ?_)
          · (first | (refine ⟨?_, ?_, ?_, ?_, ?_, ?_⟩ <;> assumption) | (exact HSO.out _ hww.drew) | (exact HSO.out _ hww) | (exact HSO.out _ (bel_step (last6 (by assumption)) (by assumption))) | (exact HSO.out _ (al6 (last6 (by assumption)))) | (exact HSO.out _ (al6 (last6 (by assumption))).drew) | (exact HSO.out _ (gr6 (last6 (by assumption)) HOC.out hgrow)))
          clear hK9 K9
          try simp only [Act.put, List.setIfInBounds_toArray, List.set_cons_zero, List.set_cons_succ]
          refine wpAnyH_ready (rs := [7]) (by kernel_rfl) (by simp) ?_
          refine AllReadyH.cons (o := _) rfl (fun K10 hK10 => ?_) AllReadyH.nil
          (refine step_append_lies _ (by rfl) _ _ _ (by rfl) U.heap.size 3 i0 (.int .i64 0) 1 8 Tryd.underlying22 hi0 hz0 hz1 hz2 rfl (by omega) vc head.length (head.map (Value.int .i64)) (by rfl) ?_ _ 1 1 [.int .i64 a] (by rfl) (by rfl) ?_ (by simp [Value.oneCell']) (by omega) (by have := HLN.out; unfold maxLen; omega) (by have := HLN.out; omega) ?_ _ rfl ?_; (first | exact HOC.out | exact HOC.out.alloc _ | exact (HOC.out.alloc _).drew | exact (HOC.out.drew.alloc _) | exact HOC.out.drew); (first | exact cell_one_new _ _ _ | exact news1 hz); (have := HBS.out; simp; omega); intro gg cap w1 hown1 hgrow hat hlt1; have HON := Lib.hid hown1)
          refine hK10.out _ _ ?_ (fun hHeld => ?_)
          · (first | (refine ⟨?_, ?_, ?_, ?_, ?_, ?_⟩ <;> assumption) | (exact HSO.out _ hww.drew) | (exact HSO.out _ hww) | (exact HSO.out _ (bel_step (last6 (by assumption)) (by assumption))) | (exact HSO.out _ (al6 (last6 (by assumption)))) | (exact HSO.out _ (al6 (last6 (by assumption))).drew) | (exact HSO.out _ (gr6 (last6 (by assumption)) HOC.out hgrow)))
          clear hK10 K10
          try simp only [Act.put, List.setIfInBounds_toArray, List.set_cons_zero, List.set_cons_succ]
          refine wpAnyH_ready (rs := [11]) (by kernel_rfl) (by simp) ?_
          refine AllReadyH.cons (o := _) rfl (fun K11 hK11 => ?_) AllReadyH.nil
          go_simp
          (go_at_call 35; (with_reducible refine (HR1.out _ _ _ ?_ ?_ ?_ ?_).mono ?_); (intro hq; cases hq); (exact HX0.out _ (last6 (by assumption))); (exact lst_app HON.out); (exact HTL.out _ (last6 (by assumption))); rintro e wR ⟨rfl, hb⟩)
          refine hK11.out _ _ ?_ (fun hHeld => ?_)
          · (first | (refine ⟨?_, ?_, ?_, ?_, ?_, ?_⟩ <;> assumption) | (exact HSO.out _ hww.drew) | (exact HSO.out _ hww) | (exact HSO.out _ (bel_step (last6 (by assumption)) (by assumption))) | (exact HSO.out _ (al6 (last6 (by assumption)))) | (exact HSO.out _ (al6 (last6 (by assumption))).drew) | (exact HSO.out _ (gr6 (last6 (by assumption)) HOC.out hgrow)))
          clear hK11 K11
          try simp only [Act.put, List.setIfInBounds_toArray, List.set_cons_zero, List.set_cons_succ]
          refine wpAnyH_take (i := 12) (oi := _) (v := ?v12) rfl (by kernel_rfl) (by kernel_rfl) (by kernel_rfl) (fun _ _ _ h => h) (Or.inl ⟨by rfl, ?hy12⟩) (by assumption) ?rest12
          case hy12 => (intro w hSw; (try dsimp only at hSw); go_simp; try (with_reducible rfl))
          try simp only [Act.put, List.setIfInBounds_toArray, List.set_cons_zero, List.set_cons_succ]
          refine wpAnyH_take (i := 13) (oi := _) (v := undef) rfl (by kernel_rfl) (by kernel_rfl) (by kernel_rfl) (fun _ _ _ h => h) (Or.inr ⟨by rfl, rfl⟩) (by assumption) ?_
          try simp only [Act.put, List.setIfInBounds_toArray, List.set_cons_zero, List.set_cons_succ]
          refine wpAnyH_take (i := 14) (oi := _) (v := undef) rfl (by kernel_rfl) (by kernel_rfl) (by kernel_rfl) (fun _ _ _ h => h) (Or.inr ⟨by rfl, rfl⟩) (by assumption) ?_
          try simp only [Act.put, List.setIfInBounds_toArray, List.set_cons_zero, List.set_cons_succ]
          refine wpAnyH_take (i := 15) (oi := _) (v := undef) rfl (by kernel_rfl) (by kernel_rfl) (by kernel_rfl) (fun _ _ _ h => h) (Or.inr ⟨by rfl, rfl⟩) (by assumption) ?_
          try simp only [Act.put, List.setIfInBounds_toArray, List.set_cons_zero, List.set_cons_succ]
          refine wpAnyH_take (i := 16) (oi := _) (v := undef) rfl (by kernel_rfl) (by kernel_rfl) (by kernel_rfl) (fun _ _ _ h => h) (Or.inr ⟨by rfl, rfl⟩) (by assumption) ?_
          try simp only [Act.put, List.setIfInBounds_toArray, List.set_cons_zero, List.set_cons_succ]
          refine wpAnyH_ready (rs := [17]) (by kernel_rfl) (by simp) ?_
          refine AllReadyH.cons (o := _) rfl (fun KU hKU => ?_) AllReadyH.nil
          go_simp
          refine hKU.out _ _ ?_ (fun hHeld => ?_)
          · assumption
          clear hKU KU
          try simp only [Act.put, List.setIfInBounds_toArray, List.set_cons_zero, List.set_cons_succ]
          refine wpAnyH_take (i := 18) (oi := ⟨some 36, _, _, _, _, _⟩) (v := ?v13) rfl (by kernel_rfl) (by kernel_rfl) (by kernel_rfl) (fun _ _ _ h => h) (Or.inl ⟨by rfl, ?hy13⟩) (by assumption) ?rest13
          case hy13 => (intro w hSw; (try dsimp only at hSw); go_simp; try (with_reducible rfl))
          try simp only [Act.put, List.setIfInBounds_toArray, List.set_cons_zero, List.set_cons_succ]
          refine wpAnyH_take (i := 19) (oi := ⟨some 8, _, _, _, _, _⟩) (v := ?v14) rfl (by kernel_rfl) (by kernel_rfl) (by kernel_rfl) (fun _ _ _ h => h) (Or.inl ⟨by rfl, ?hy14⟩) (by assumption) ?rest14
          case hy14 => (intro w hSw; (try dsimp only at hSw); go_simp; try (with_reducible rfl))
          try simp only [Act.put, List.setIfInBounds_toArray, List.set_cons_zero, List.set_cons_succ]
          refine wpAnyH_done (by kernel_rfl) ?_ _
          refine NoPanic.normal ?_
          have HB9 := Lib.hid (show Below U.heap.size U wR from (last6 (by assumption)))
          go_wp2
          go_ret
          exact ⟨ret_bool HE.out.symm, HBU.out.trans (HB9.out.mono HBU.out.size)⟩
        · skip
          go_simp
          refine hK2.out _ _ ?_ (fun hHeld => ?_)
          · (first | (refine ⟨?_, ?_, ?_, ?_, ?_, ?_⟩ <;> assumption) | (exact HSO.out _ hww.drew) | (exact HSO.out _ hww) | (exact HSO.out _ (bel_step (last6 (by assumption)) (by assumption))) | (exact HSO.out _ (al6 (last6 (by assumption)))) | (exact HSO.out _ (al6 (last6 (by assumption))).drew) | (exact HSO.out _ (gr6 (last6 (by assumption)) HOC.out hgrow)))
          clear hK2 K2
          try simp only [Act.put, List.setIfInBounds_toArray, List.set_cons_zero, List.set_cons_succ]
          refine wpAnyH_ready (rs := [2]) (by kernel_rfl) (by simp) ?_
          refine AllReadyH.cons (o := _) rfl (fun K15 hK15 => ?_) AllReadyH.nil
          go_simp
          (go_at_call 23; refine (HCp.out _ ?_).mono ?_; (exact HLH.out _ (last6 (by assumption))); rintro e wC ⟨vc, rfl, hown, hb⟩; have HOC := Lib.hid (own_mono hown (bel_le (last6 (by assumption)))); have HBS := Lib.hid (Nat.le_trans (bel_le (last6 (by assumption))) hb.size); (first | (refine have_one (g := U.heap.size) (u := .int .i64 a) hb ?_ ?_ (fun hz => ?_); (first | exact (cell_new _ _ _).1); (focus simp)) | skip))
          refine hK15.out _ _ ?_ (fun hHeld => ?_)
          · (first | (refine ⟨?_, ?_, ?_, ?_, ?_, ?_⟩ <;> assumption) | (exact HSO.out _ hww.drew) | (exact HSO.out _ hww) | (exact HSO.out _ (bel_step (last6 (by assumption)) (by assumption))) | (exact HSO.out _ (al6 (last6 (by assumption)))) | (exact HSO.out _ (al6 (last6 (by assumption))).drew) | (exact HSO.out _ (gr6 (last6 (by assumption)) HOC.out hgrow)))
          clear hK15 K15
          try simp only [Act.put, List.setIfInBounds_toArray, List.set_cons_zero, List.set_cons_succ]
          refine wpAnyH_ready (rs := [7]) (by kernel_rfl) (by simp) ?_
          refine AllReadyH.cons (o := _) rfl (fun K16 hK16 => ?_) AllReadyH.nil
          (refine step_append_lies _ (by rfl) _ _ _ (by rfl) U.heap.size 3 i0 (.int .i64 0) 1 8 Tryd.underlying22 hi0 hz0 hz1 hz2 rfl (by omega) vc head.length (head.map (Value.int .i64)) (by rfl) ?_ _ 1 1 [.int .i64 a] (by rfl) (by rfl) ?_ (by simp [Value.oneCell']) (by omega) (by have := HLN.out; unfold maxLen; omega) (by have := HLN.out; omega) ?_ _ rfl ?_; (first | exact HOC.out | exact HOC.out.alloc _ | exact (HOC.out.alloc _).drew | exact (HOC.out.drew.alloc _) | exact HOC.out.drew); (first | exact cell_one_new _ _ _ | exact news1 hz); (have := HBS.out; simp; omega); intro gg cap w1 hown1 hgrow hat hlt1; have HON := Lib.hid hown1)
          refine hK16.out _ _ ?_ (fun hHeld => ?_)
          · (first | (refine ⟨?_, ?_, ?_, ?_, ?_, ?_⟩ <;> assumption) | (exact HSO.out _ hww.drew) | (exact HSO.out _ hww) | (exact HSO.out _ (bel_step (last6 (by assumption)) (by assumption))) | (exact HSO.out _ (al6 (last6 (by assumption)))) | (exact HSO.out _ (al6 (last6 (by assumption))).drew) | (exact HSO.out _ (gr6 (last6 (by assumption)) HOC.out hgrow)))
          clear hK16 K16
          try simp only [Act.put, List.setIfInBounds_toArray, List.set_cons_zero, List.set_cons_succ]
          refine wpAnyH_ready (rs := [11]) (by kernel_rfl) (by simp) ?_
          refine AllReadyH.cons (o := _) rfl (fun K17 hK17 => ?_) AllReadyH.nil
          go_simp
          (go_at_call 35; (with_reducible refine (HR1.out _ _ _ ?_ ?_ ?_ ?_).mono ?_); (intro hq; cases hq); (exact HX0.out _ (last6 (by assumption))); (exact lst_app HON.out); (exact HTL.out _ (last6 (by assumption))); rintro e wR ⟨rfl, hb⟩)
          refine hK17.out _ _ ?_ (fun hHeld => ?_)
          · (first | (refine ⟨?_, ?_, ?_, ?_, ?_, ?_⟩ <;> assumption) | (exact HSO.out _ hww.drew) | (exact HSO.out _ hww) | (exact HSO.out _ (bel_step (last6 (by assumption)) (by assumption))) | (exact HSO.out _ (al6 (last6 (by assumption)))) | (exact HSO.out _ (al6 (last6 (by assumption))).drew) | (exact HSO.out _ (gr6 (last6 (by assumption)) HOC.out hgrow)))
          clear hK17 K17
          try simp only [Act.put, List.setIfInBounds_toArray, List.set_cons_zero, List.set_cons_succ]
          refine wpAnyH_take (i := 12) (oi := _) (v := ?v18) rfl (by kernel_rfl) (by kernel_rfl) (by kernel_rfl) (fun _ _ _ h => h) (Or.inl ⟨by rfl, ?hy18⟩) (by assumption) ?rest18
          case hy18 => (intro w hSw; (try dsimp only at hSw); go_simp; try (with_reducible rfl))
          try simp only [Act.put, List.setIfInBounds_toArray, List.set_cons_zero, List.set_cons_succ]
          refine wpAnyH_take (i := 13) (oi := _) (v := undef) rfl (by kernel_rfl) (by kernel_rfl) (by kernel_rfl) (fun _ _ _ h => h) (Or.inr ⟨by rfl, rfl⟩) (by assumption) ?_
          try simp only [Act.put, List.setIfInBounds_toArray, List.set_cons_zero, List.set_cons_succ]
          refine wpAnyH_take (i := 14) (oi := _) (v := undef) rfl (by kernel_rfl) (by kernel_rfl) (by kernel_rfl) (fun _ _ _ h => h) (Or.inr ⟨by rfl, rfl⟩) (by assumption) ?_
          try simp only [Act.put, List.setIfInBounds_toArray, List.set_cons_zero, List.set_cons_succ]
          refine wpAnyH_take (i := 15) (oi := _) (v := undef) rfl (by kernel_rfl) (by kernel_rfl) (by kernel_rfl) (fun _ _ _ h => h) (Or.inr ⟨by rfl, rfl⟩) (by assumption) ?_
          try simp only [Act.put, List.setIfInBounds_toArray, List.set_cons_zero, List.set_cons_succ]
          refine wpAnyH_take (i := 16) (oi := _) (v := undef) rfl (by kernel_rfl) (by kernel_rfl) (by kernel_rfl) (fun _ _ _ h => h) (Or.inr ⟨by rfl, rfl⟩) (by assumption) ?_
          try simp only [Act.put, List.setIfInBounds_toArray, List.set_cons_zero, List.set_cons_succ]
          refine wpAnyH_ready (rs := [17]) (by kernel_rfl) (by simp) ?_
          refine AllReadyH.cons (o := _) rfl (fun KU hKU => ?_) AllReadyH.nil
          go_simp
          refine hKU.out _ _ ?_ (fun hHeld => ?_)
          · assumption
          clear hKU KU
          try simp only [Act.put, List.setIfInBounds_toArray, List.set_cons_zero, List.set_cons_succ]
          refine wpAnyH_take (i := 18) (oi := ⟨some 36, _, _, _, _, _⟩) (v := ?v19) rfl (by kernel_rfl) (by kernel_rfl) (by kernel_rfl) (fun _ _ _ h => h) (Or.inl ⟨by rfl, ?hy19⟩) (by assumption) ?rest19
          case hy19 => (intro w hSw; (try dsimp only at hSw); go_simp; try (with_reducible rfl))
          try simp only [Act.put, List.setIfInBounds_toArray, List.set_cons_zero, List.set_cons_succ]
          refine wpAnyH_take (i := 19) (oi := ⟨some 8, _, _, _, _, _⟩) (v := ?v20) rfl (by kernel_rfl) (by kernel_rfl) (by kernel_rfl) (fun _ _ _ h => h) (Or.inl ⟨by rfl, ?hy20⟩) (by assumption) ?rest20
          case hy20 => (intro w hSw; (try dsimp only at hSw); go_simp; try (with_reducible rfl))
          try simp only [Act.put, List.setIfInBounds_toArray, List.set_cons_zero, List.set_cons_succ]
          refine wpAnyH_done (by kernel_rfl) ?_ _
          refine NoPanic.normal ?_
          have HB9 := Lib.hid (show Below U.heap.size U wR from (last6 (by assumption)))
          go_wp2
          go_ret
          exact ⟨ret_bool HE.out.symm, HBU.out.trans (HB9.out.mono HBU.out.size)⟩
      | false =>
        rw [hr1] at HR1
        have HE := Lib.hid (show shL x n head (a :: []) left = shL x n head [] true by show (shL x n (head ++ [a]) [] left || shL x n head [] true) = _; rw [hr1]; rfl)
        clear hr1
        go_region_held3 (fun V => V.cell? ⟨w.heap.size, 0, none⟩ = some (.int .i64 x.n) ∧ V.cell? ⟨w.heap.size, 1, none⟩ = some (.slice x.ai x.init.length x.ci) ∧ V.cell? ⟨w.heap.size, 2, none⟩ = some (.slice x.ag x.goal.length x.cg) ∧ V.cell? ⟨w.heap.size, 3, none⟩ = some (.slice x.ao x.ops.length x.co) ∧ V.cell? ⟨b, o, none⟩ = some (.int .i64 a) ∧ Below U.heap.size U V) (first | (refine ⟨?_, ?_, ?_, ?_, ?_, ?_⟩ <;> assumption) | (exact HSO.out _ hww.drew) | (exact HSO.out _ hww) | (exact HSO.out _ (bel_step (last6 (by assumption)) (by assumption))) | (exact HSO.out _ (al6 (last6 (by assumption)))) | (exact HSO.out _ (al6 (last6 (by assumption))).drew) | (exact HSO.out _ (gr6 (last6 (by assumption)) HOC.out hgrow))) (first | (go_at_call 23; refine (HCp.out _ ?_).mono ?_; (exact HLH.out _ (last6 (by assumption))); rintro e wC ⟨vc, rfl, hown, hb⟩; have HOC := Lib.hid (own_mono hown (bel_le (last6 (by assumption)))); have HBS := Lib.hid (Nat.le_trans (bel_le (last6 (by assumption))) hb.size); (first | (refine have_one (g := U.heap.size) (u := .int .i64 a) hb ?_ ?_ (fun hz => ?_); (first | exact (cell_new _ _ _).1); (focus simp)) | skip)) | (refine step_append_lies _ (by rfl) _ _ _ (by rfl) U.heap.size 3 i0 (.int .i64 0) 1 8 Tryd.underlying22 hi0 hz0 hz1 hz2 rfl (by omega) vc head.length (head.map (Value.int .i64)) (by rfl) ?_ _ 1 1 [.int .i64 a] (by rfl) (by rfl) ?_ (by simp [Value.oneCell']) (by omega) (by have := HLN.out; unfold maxLen; omega) (by have := HLN.out; omega) ?_ _ rfl ?_; (first | exact HOC.out | exact HOC.out.alloc _ | exact (HOC.out.alloc _).drew | exact (HOC.out.drew.alloc _) | exact HOC.out.drew); (first | exact cell_one_new _ _ _ | exact news1 hz); (have := HBS.out; simp; omega); intro gg cap w1 hown1 hgrow hat hlt1; have HON := Lib.hid hown1) | (go_at_call 35; (with_reducible refine (HR1.out _ _ _ ?_ ?_ ?_ ?_).mono ?_); (intro hq; cases hq); (exact HX0.out _ (last6 (by assumption))); (exact lst_app HON.out); (exact HTL.out _ (last6 (by assumption))); rintro e wR ⟨rfl, hb⟩) | (go_at_call 35; (with_reducible refine (HR2.out _ ?_ ?_ ?_).mono ?_); (exact HX0.out _ (last6 (by assumption))); (exact HLH.out _ (last6 (by assumption))); (exact HTL.out _ (last6 (by assumption))); rintro e wS ⟨rfl, hb2⟩))
        all_goals
          have HB9 := Lib.hid (show Below U.heap.size U wS from (last6 (by assumption)))
          go_wp2
          go_ret
          exact ⟨ret_bool HE.out.symm, HBU.out.trans (HB9.out.mono HBU.out.size)⟩
    · skip
      have HR1 := Lib.hid (fun (aX : Option Addr) (cX : Nat) (W : World) (hA : aX = none → cX = 0) (hX : TskIn W W.heap.size x) (hH : Lst W W.heap.size aX cX (head ++ [a])) (hT : Lst W W.heap.size (some ⟨b, o + 1, none⟩) (cT - 1) tl) => ih (head ++ [a]) left aX (some ⟨b, o + 1, none⟩) cX (cT - 1) W hpa hpl (by simp; omega) hA hX hH hT)
      have HR2 := Lib.hid (fun (W : World) (hX : TskIn W W.heap.size x) (hH : Lst W W.heap.size ah ch head) (hT : Lst W W.heap.size (some ⟨b, o + 1, none⟩) (cT - 1) tl) => ih head true ah (some ⟨b, o + 1, none⟩) ch (cT - 1) W hph hpl (by first | omega | (simp at h60 ⊢; omega)) hA hX hH hT)
      have HCp := Lib.hid (fun (V : World) (h : Lst V V.heap.size ah ch head) => copy_any ah ch head V h hA (by omega))
      have HLN := Lib.hid h60
      obtain ⟨i0, hi0, hz0, hz1, hz2⟩ := info_parts info_int
      have hbx := tbox_new w x 25
      have hX1 := hX.to hB1 hB1.size
      have hH1 := hH.to hB1 hB1.size
      have hT1 := (lst_drop1 hT).to hB1 hB1.size
      have hc1 := (hB1.cell (p := ⟨b, o, none⟩) hbw).trans hc0
      clear hX hH hT hpt hpt2 ih hph hv hA hc0
      rw [List.length_append, List.length_singleton] at HR1
      go_enter Tryd.func35, Tryd.ntmps35
      go_wp2
      generalize hU : w.alloc (.cells #[.int .i64 x.n, .slice x.ai x.init.length x.ci, .slice x.ag x.goal.length x.cg, .slice x.ao x.ops.length x.co] 25) = U at hB1 hbx hX1 hH1 hT1 hc1 ⊢
      clear hU
      have HX0 := Lib.hid (fun (V : World) (h : Below U.heap.size U V) => hX1.to h h.size)
      have HLH := Lib.hid (fun (V : World) (h : Below U.heap.size U V) => hH1.to h h.size)
      have HTL := Lib.hid (fun (V : World) (h : Below U.heap.size U V) => hT1.to h h.size)
      have HBU := Lib.hid hB1
      have hbU : b < U.heap.size := Nat.lt_of_lt_of_le hbw hB1.size
      have HSO := Lib.hid (fun (V : World) (h : Below U.heap.size U V) => (⟨(hbx.to h hbx.lt).c0, (hbx.to h hbx.lt).c1, (hbx.to h hbx.lt).c2, (hbx.to h hbx.lt).c3, (h.cell (p := ⟨b, o, none⟩) hbU).trans hc1, h⟩ : V.cell? ⟨w.heap.size, 0, none⟩ = some (.int .i64 x.n) ∧ V.cell? ⟨w.heap.size, 1, none⟩ = some (.slice x.ai x.init.length x.ci) ∧ V.cell? ⟨w.heap.size, 2, none⟩ = some (.slice x.ag x.goal.length x.cg) ∧ V.cell? ⟨w.heap.size, 3, none⟩ = some (.slice x.ao x.ops.length x.co) ∧ V.cell? ⟨b, o, none⟩ = some (.int .i64 a) ∧ Below U.heap.size U V))
      have hww := Below.refl U.heap.size U
      have hn1 : (1 : Int) ≤ ((tl.length : Int) + 1) := by omega
      have hn2 : ((tl.length : Int) + 1) ≤ (cT : Int) := by omega
      have hn3 : 1 ≤ cT := by omega
      obtain ⟨_, t0, t1, t2, t3⟩ := hbx
      clear hX1 hH1 hT1 hB1
      cases hr1 : shL x n (head ++ [a]) tl left with
      | true =>
        rw [hr1] at HR1
        have HE := Lib.hid (show shL x n head (a :: tl) left = true by show (shL x n (head ++ [a]) tl left || shL x n head tl true) = true; rw [hr1]; rfl)
        clear hr1
        refine wp_region_noPanic ?_
        refine wp_region_held_drew (S := (fun V => V.cell? ⟨w.heap.size, 0, none⟩ = some (.int .i64 x.n) ∧ V.cell? ⟨w.heap.size, 1, none⟩ = some (.slice x.ai x.init.length x.ci) ∧ V.cell? ⟨w.heap.size, 2, none⟩ = some (.slice x.ag x.goal.length x.cg) ∧ V.cell? ⟨w.heap.size, 3, none⟩ = some (.slice x.ao x.ops.length x.co) ∧ V.cell? ⟨b, o, none⟩ = some (.int .i64 a) ∧ Below U.heap.size U V)) (by kernel_rfl) ?_ (fun hHeld => ?_)
        · exact HSO.out _ hww.drew
        refine wpAnyH_take (i := 0) (oi := _) (v := ?v21) rfl (by kernel_rfl) (by kernel_rfl) (by kernel_rfl) (fun _ _ _ h => h) (Or.inl ⟨by rfl, ?hy21⟩) (by assumption) ?rest21
        case hy21 => (intro w hSw; (try dsimp only at hSw); go_simp; try (with_reducible rfl))
        try simp only [Act.put, List.setIfInBounds_toArray, List.set_cons_zero, List.set_cons_succ]
        refine wpAnyH_take (i := 1) (oi := _) (v := ?v22) rfl (by kernel_rfl) (by kernel_rfl) (by kernel_rfl) (fun _ _ _ h => h) (Or.inl ⟨by rfl, ?hy22⟩) (by assumption) ?rest22
        case hy22 => (intro w hSw; (try dsimp only at hSw); go_simp; try (with_reducible rfl))
        try simp only [Act.put, List.setIfInBounds_toArray, List.set_cons_zero, List.set_cons_succ]
        refine wpAnyH_take (i := 3) (oi := _) (v := ?v23) rfl (by kernel_rfl) (by kernel_rfl) (by kernel_rfl) (fun _ _ _ h => h) (Or.inl ⟨by rfl, ?hy23⟩) (by assumption) ?rest23
        case hy23 => (intro w hSw; (try dsimp only at hSw); go_simp; try (with_reducible rfl))
        try simp only [Act.put, List.setIfInBounds_toArray, List.set_cons_zero, List.set_cons_succ]
        refine wpAnyH_take (i := 4) (oi := _) (v := ?v24) rfl (by kernel_rfl) (by kernel_rfl) (by kernel_rfl) (fun _ _ _ h => h) (Or.inl ⟨by rfl, ?hy24⟩) (by assumption) ?rest24
        case hy24 => (intro w hSw; (try dsimp only at hSw); go_simp; try (with_reducible rfl))
        try simp only [Act.put, List.setIfInBounds_toArray, List.set_cons_zero, List.set_cons_succ]
        refine wpAnyH_take (i := 5) (oi := _) (v := ?v25) rfl (by kernel_rfl) (by kernel_rfl) (by kernel_rfl) (fun _ _ _ h => h) (Or.inl ⟨by rfl, ?hy25⟩) (by assumption) ?rest25
        case hy25 => (intro w hSw; (try dsimp only at hSw); go_simp; try (with_reducible rfl))
        try simp only [Act.put, List.setIfInBounds_toArray, List.set_cons_zero, List.set_cons_succ]
        refine wpAnyH_take (i := 8) (oi := _) (v := ?v26) rfl (by kernel_rfl) (by kernel_rfl) (by kernel_rfl) (fun _ _ _ h => h) (Or.inl ⟨by rfl, ?hy26⟩) (by assumption) ?rest26
        case hy26 => (intro w hSw; (try dsimp only at hSw); go_simp; try (with_reducible rfl))
        try simp only [Act.put, List.setIfInBounds_toArray, List.set_cons_zero, List.set_cons_succ]
        refine wpAnyH_take (i := 9) (oi := _) (v := ?v27) rfl (by kernel_rfl) (by kernel_rfl) (by kernel_rfl) (fun _ _ _ h => h) (Or.inl ⟨by rfl, ?hy27⟩) (by assumption) ?rest27
        case hy27 => (intro w hSw; (try dsimp only at hSw); go_simp; try (with_reducible rfl))
        try simp only [Act.put, List.setIfInBounds_toArray, List.set_cons_zero, List.set_cons_succ]
        refine wpAnyH_take (i := 10) (oi := _) (v := ?v28) rfl (by kernel_rfl) (by kernel_rfl) (by kernel_rfl) (fun _ _ _ h => h) (Or.inl ⟨by rfl, ?hy28⟩) (by assumption) ?rest28
        case hy28 => (intro w hSw; (try dsimp only at hSw); go_simp; try (with_reducible rfl))
        try simp only [Act.put, List.setIfInBounds_toArray, List.set_cons_zero, List.set_cons_succ]
        refine wpAnyH_ready (rs := [2, 6]) (by kernel_rfl) (by simp) ?_
        refine AllReadyH.cons (o := _) rfl (fun K1 hK1 => ?_) (AllReadyH.cons (o := _) rfl (fun K2 hK2 => ?_) AllReadyH.nil)
        · skip
          go_simp
          (go_at_call 23; refine (HCp.out _ ?_).mono ?_; (exact HLH.out _ (last6 (by assumption))); rintro e wC ⟨vc, rfl, hown, hb⟩; have HOC := Lib.hid (own_mono hown (bel_le (last6 (by assumption)))); have HBS := Lib.hid (Nat.le_trans (bel_le (last6 (by assumption))) hb.size); (first | (refine have_one (g := U.heap.size) (u := .int .i64 a) hb ?_ ?_ (fun hz => ?_); (first | exact (cell_new _ _ _).1); (focus simp)) | skip))
          refine hK1.out _ _ ?_ (fun hHeld => ?_)
          · (first | (refine ⟨?_, ?_, ?_, ?_, ?_, ?_⟩ <;> assumption) | (exact HSO.out _ hww.drew) | (exact HSO.out _ hww) | (exact HSO.out _ (bel_step (last6 (by assumption)) (by assumption))) | (exact HSO.out _ (al6 (last6 (by assumption)))) | (exact HSO.out _ (al6 (last6 (by assumption))).drew) | (exact HSO.out _ (gr6 (last6 (by assumption)) HOC.out hgrow)))
          clear hK1 K1
          try simp only [Act.put, List.setIfInBounds_toArray, List.set_cons_zero, List.set_cons_succ]
          refine wpAnyH_ready (rs := [6]) (by kernel_rfl) (by simp) ?_
          refine AllReadyH.cons (o := _) rfl (fun K29 hK29 => ?_) AllReadyH.nil
          go_simp
          refine hK29.out _ _ ?_ (fun hHeld => ?_)
          · (first | (refine ⟨?_, ?_, ?_, ?_, ?_, ?_⟩ <;> assumption) | (exact HSO.out _ hww.drew) | (exact HSO.out _ hww) | (exact HSO.out _ (bel_step (last6 (by assumption)) (by assumption))) | (exact HSO.out _ (al6 (last6 (by assumption)))) | (exact HSO.out _ (al6 (last6 (by assumption))).drew) | (exact HSO.out _ (gr6 (last6 (by assumption)) HOC.out hgrow)))
          clear hK29 K29
          try simp only [Act.put, List.setIfInBounds_toArray, List.set_cons_zero, List.set_cons_succ]
          refine wpAnyH_ready (rs := [7]) (by kernel_rfl) (by simp) ?_
          refine AllReadyH.cons (o := _) rfl (fun K30 hK30 => ?_) AllReadyH.nil
          (refine step_append_lies _ (by rfl) _ _ _ (by rfl) U.heap.size 3 i0 (.int .i64 0) 1 8 Tryd.underlying22 hi0 hz0 hz1 hz2 rfl (by omega) vc head.length (head.map (Value.int .i64)) (by rfl) ?_ _ 1 1 [.int .i64 a] (by rfl) (by rfl) ?_ (by simp [Value.oneCell']) (by omega) (by have := HLN.out; unfold maxLen; omega) (by have := HLN.out; omega) ?_ _ rfl ?_; (first | exact HOC.out | exact HOC.out.alloc _ | exact (HOC.out.alloc _).drew | exact (HOC.out.drew.alloc _) | exact HOC.out.drew); (first | exact cell_one_new _ _ _ | exact news1 hz); (have := HBS.out; simp; omega); intro gg cap w1 hown1 hgrow hat hlt1; have HON := Lib.hid hown1)
          refine hK30.out _ _ ?_ (fun hHeld => ?_)
          · (first | (refine ⟨?_, ?_, ?_, ?_, ?_, ?_⟩ <;> assumption) | (exact HSO.out _ hww.drew) | (exact HSO.out _ hww) | (exact HSO.out _ (bel_step (last6 (by assumption)) (by assumption))) | (exact HSO.out _ (al6 (last6 (by assumption)))) | (exact HSO.out _ (al6 (last6 (by assumption))).drew) | (exact HSO.out _ (gr6 (last6 (by assumption)) HOC.out hgrow)))
          clear hK30 K30
          try simp only [Act.put, List.setIfInBounds_toArray, List.set_cons_zero, List.set_cons_succ]
          refine wpAnyH_ready (rs := [11]) (by kernel_rfl) (by simp) ?_
          refine AllReadyH.cons (o := _) rfl (fun K31 hK31 => ?_) AllReadyH.nil
          go_simp
          (go_at_call 35; (with_reducible refine (HR1.out _ _ _ ?_ ?_ ?_ ?_).mono ?_); (intro hq; cases hq); (exact HX0.out _ (last6 (by assumption))); (exact lst_app HON.out); (exact HTL.out _ (last6 (by assumption))); rintro e wR ⟨rfl, hb⟩)
          refine hK31.out _ _ ?_ (fun hHeld => ?_)
          · (first | (refine ⟨?_, ?_, ?_, ?_, ?_, ?_⟩ <;> assumption) | (exact HSO.out _ hww.drew) | (exact HSO.out _ hww) | (exact HSO.out _ (bel_step (last6 (by assumption)) (by assumption))) | (exact HSO.out _ (al6 (last6 (by assumption)))) | (exact HSO.out _ (al6 (last6 (by assumption))).drew) | (exact HSO.out _ (gr6 (last6 (by assumption)) HOC.out hgrow)))
          clear hK31 K31
          try simp only [Act.put, List.setIfInBounds_toArray, List.set_cons_zero, List.set_cons_succ]
          refine wpAnyH_take (i := 12) (oi := _) (v := ?v32) rfl (by kernel_rfl) (by kernel_rfl) (by kernel_rfl) (fun _ _ _ h => h) (Or.inl ⟨by rfl, ?hy32⟩) (by assumption) ?rest32
          case hy32 => (intro w hSw; (try dsimp only at hSw); go_simp; try (with_reducible rfl))
          try simp only [Act.put, List.setIfInBounds_toArray, List.set_cons_zero, List.set_cons_succ]
          refine wpAnyH_take (i := 13) (oi := _) (v := undef) rfl (by kernel_rfl) (by kernel_rfl) (by kernel_rfl) (fun _ _ _ h => h) (Or.inr ⟨by rfl, rfl⟩) (by assumption) ?_
          try simp only [Act.put, List.setIfInBounds_toArray, List.set_cons_zero, List.set_cons_succ]
          refine wpAnyH_take (i := 14) (oi := _) (v := undef) rfl (by kernel_rfl) (by kernel_rfl) (by kernel_rfl) (fun _ _ _ h => h) (Or.inr ⟨by rfl, rfl⟩) (by assumption) ?_
          try simp only [Act.put, List.setIfInBounds_toArray, List.set_cons_zero, List.set_cons_succ]
          refine wpAnyH_take (i := 15) (oi := _) (v := undef) rfl (by kernel_rfl) (by kernel_rfl) (by kernel_rfl) (fun _ _ _ h => h) (Or.inr ⟨by rfl, rfl⟩) (by assumption) ?_
          try simp only [Act.put, List.setIfInBounds_toArray, List.set_cons_zero, List.set_cons_succ]
          refine wpAnyH_take (i := 16) (oi := _) (v := undef) rfl (by kernel_rfl) (by kernel_rfl) (by kernel_rfl) (fun _ _ _ h => h) (Or.inr ⟨by rfl, rfl⟩) (by assumption) ?_
          try simp only [Act.put, List.setIfInBounds_toArray, List.set_cons_zero, List.set_cons_succ]
          refine wpAnyH_ready (rs := [17]) (by kernel_rfl) (by simp) ?_
          refine AllReadyH.cons (o := _) rfl (fun KU hKU => ?_) AllReadyH.nil
          go_simp
          refine hKU.out _ _ ?_ (fun hHeld => ?_)
          · assumption
          clear hKU KU
          try simp only [Act.put, List.setIfInBounds_toArray, List.set_cons_zero, List.set_cons_succ]
          refine wpAnyH_take (i := 18) (oi := ⟨some 36, _, _, _, _, _⟩) (v := ?v33) rfl (by kernel_rfl) (by kernel_rfl) (by kernel_rfl) (fun _ _ _ h => h) (Or.inl ⟨by rfl, ?hy33⟩) (by assumption) ?rest33
          case hy33 => (intro w hSw; (try dsimp only at hSw); go_simp; try (with_reducible rfl))
          try simp only [Act.put, List.setIfInBounds_toArray, List.set_cons_zero, List.set_cons_succ]
          refine wpAnyH_take (i := 19) (oi := ⟨some 8, _, _, _, _, _⟩) (v := ?v34) rfl (by kernel_rfl) (by kernel_rfl) (by kernel_rfl) (fun _ _ _ h => h) (Or.inl ⟨by rfl, ?hy34⟩) (by assumption) ?rest34
          case hy34 => (intro w hSw; (try dsimp only at hSw); go_simp; try (with_reducible rfl))
          try simp only [Act.put, List.setIfInBounds_toArray, List.set_cons_zero, List.set_cons_succ]
          refine wpAnyH_done (by kernel_rfl) ?_ _
          refine NoPanic.normal ?_
          have HB9 := Lib.hid (show Below U.heap.size U wR from (last6 (by assumption)))
          go_wp2
          go_ret
          exact ⟨ret_bool HE.out.symm, HBU.out.trans (HB9.out.mono HBU.out.size)⟩
        · skip
          go_simp
          refine hK2.out _ _ ?_ (fun hHeld => ?_)
          · (first | (refine ⟨?_, ?_, ?_, ?_, ?_, ?_⟩ <;> assumption) | (exact HSO.out _ hww.drew) | (exact HSO.out _ hww) | (exact HSO.out _ (bel_step (last6 (by assumption)) (by assumption))) | (exact HSO.out _ (al6 (last6 (by assumption)))) | (exact HSO.out _ (al6 (last6 (by assumption))).drew) | (exact HSO.out _ (gr6 (last6 (by assumption)) HOC.out hgrow)))
          clear hK2 K2
          try simp only [Act.put, List.setIfInBounds_toArray, List.set_cons_zero, List.set_cons_succ]
          refine wpAnyH_ready (rs := [2]) (by kernel_rfl) (by simp) ?_
          refine AllReadyH.cons (o := _) rfl (fun K35 hK35 => ?_) AllReadyH.nil
          go_simp
          (go_at_call 23; refine (HCp.out _ ?_).mono ?_; (exact HLH.out _ (last6 (by assumption))); rintro e wC ⟨vc, rfl, hown, hb⟩; have HOC := Lib.hid (own_mono hown (bel_le (last6 (by assumption)))); have HBS := Lib.hid (Nat.le_trans (bel_le (last6 (by assumption))) hb.size); (first | (refine have_one (g := U.heap.size) (u := .int .i64 a) hb ?_ ?_ (fun hz => ?_); (first | exact (cell_new _ _ _).1); (focus simp)) | skip))
          refine hK35.out _ _ ?_ (fun hHeld => ?_)
          · (first | (refine ⟨?_, ?_, ?_, ?_, ?_, ?_⟩ <;> assumption) | (exact HSO.out _ hww.drew) | (exact HSO.out _ hww) | (exact HSO.out _ (bel_step (last6 (by assumption)) (by assumption))) | (exact HSO.out _ (al6 (last6 (by assumption)))) | (exact HSO.out _ (al6 (last6 (by assumption))).drew) | (exact HSO.out _ (gr6 (last6 (by assumption)) HOC.out hgrow)))
          clear hK35 K35
          try simp only [Act.put, List.setIfInBounds_toArray, List.set_cons_zero, List.set_cons_succ]
          refine wpAnyH_ready (rs := [7]) (by kernel_rfl) (by simp) ?_
          refine AllReadyH.cons (o := _) rfl (fun K36 hK36 => ?_) AllReadyH.nil
          (refine step_append_lies _ (by rfl) _ _ _ (by rfl) U.heap.size 3 i0 (.int .i64 0) 1 8 Tryd.underlying22 hi0 hz0 hz1 hz2 rfl (by omega) vc head.length (head.map (Value.int .i64)) (by rfl) ?_ _ 1 1 [.int .i64 a] (by rfl) (by rfl) ?_ (by simp [Value.oneCell']) (by omega) (by have := HLN.out; unfold maxLen; omega) (by have := HLN.out; omega) ?_ _ rfl ?_; (first | exact HOC.out | exact HOC.out.alloc _ | exact (HOC.out.alloc _).drew | exact (HOC.out.drew.alloc _) | exact HOC.out.drew); (first | exact cell_one_new _ _ _ | exact news1 hz); (have := HBS.out; simp; omega); intro gg cap w1 hown1 hgrow hat hlt1; have HON := Lib.hid hown1)
          refine hK36.out _ _ ?_ (fun hHeld => ?_)
          · (first | (refine ⟨?_, ?_, ?_, ?_, ?_, ?_⟩ <;> assumption) | (exact HSO.out _ hww.drew) | (exact HSO.out _ hww) | (exact HSO.out _ (bel_step (last6 (by assumption)) (by assumption))) | (exact HSO.out _ (al6 (last6 (by assumption)))) | (exact HSO.out _ (al6 (last6 (by assumption))).drew) | (exact HSO.out _ (gr6 (last6 (by assumption)) HOC.out hgrow)))
          clear hK36 K36
          try simp only [Act.put, List.setIfInBounds_toArray, List.set_cons_zero, List.set_cons_succ]
          refine wpAnyH_ready (rs := [11]) (by kernel_rfl) (by simp) ?_
          refine AllReadyH.cons (o := _) rfl (fun K37 hK37 => ?_) AllReadyH.nil
          go_simp
          (go_at_call 35; (with_reducible refine (HR1.out _ _ _ ?_ ?_ ?_ ?_).mono ?_); (intro hq; cases hq); (exact HX0.out _ (last6 (by assumption))); (exact lst_app HON.out); (exact HTL.out _ (last6 (by assumption))); rintro e wR ⟨rfl, hb⟩)
          refine hK37.out _ _ ?_ (fun hHeld => ?_)
          · (first | (refine ⟨?_, ?_, ?_, ?_, ?_, ?_⟩ <;> assumption) | (exact HSO.out _ hww.drew) | (exact HSO.out _ hww) | (exact HSO.out _ (bel_step (last6 (by assumption)) (by assumption))) | (exact HSO.out _ (al6 (last6 (by assumption)))) | (exact HSO.out _ (al6 (last6 (by assumption))).drew) | (exact HSO.out _ (gr6 (last6 (by assumption)) HOC.out hgrow)))
          clear hK37 K37
          try simp only [Act.put, List.setIfInBounds_toArray, List.set_cons_zero, List.set_cons_succ]
          refine wpAnyH_take (i := 12) (oi := _) (v := ?v38) rfl (by kernel_rfl) (by kernel_rfl) (by kernel_rfl) (fun _ _ _ h => h) (Or.inl ⟨by rfl, ?hy38⟩) (by assumption) ?rest38
          case hy38 => (intro w hSw; (try dsimp only at hSw); go_simp; try (with_reducible rfl))
          try simp only [Act.put, List.setIfInBounds_toArray, List.set_cons_zero, List.set_cons_succ]
          refine wpAnyH_take (i := 13) (oi := _) (v := undef) rfl (by kernel_rfl) (by kernel_rfl) (by kernel_rfl) (fun _ _ _ h => h) (Or.inr ⟨by rfl, rfl⟩) (by assumption) ?_
          try simp only [Act.put, List.setIfInBounds_toArray, List.set_cons_zero, List.set_cons_succ]
          refine wpAnyH_take (i := 14) (oi := _) (v := undef) rfl (by kernel_rfl) (by kernel_rfl) (by kernel_rfl) (fun _ _ _ h => h) (Or.inr ⟨by rfl, rfl⟩) (by assumption) ?_
          try simp only [Act.put, List.setIfInBounds_toArray, List.set_cons_zero, List.set_cons_succ]
          refine wpAnyH_take (i := 15) (oi := _) (v := undef) rfl (by kernel_rfl) (by kernel_rfl) (by kernel_rfl) (fun _ _ _ h => h) (Or.inr ⟨by rfl, rfl⟩) (by assumption) ?_
          try simp only [Act.put, List.setIfInBounds_toArray, List.set_cons_zero, List.set_cons_succ]
          refine wpAnyH_take (i := 16) (oi := _) (v := undef) rfl (by kernel_rfl) (by kernel_rfl) (by kernel_rfl) (fun _ _ _ h => h) (Or.inr ⟨by rfl, rfl⟩) (by assumption) ?_
          try simp only [Act.put, List.setIfInBounds_toArray, List.set_cons_zero, List.set_cons_succ]
          refine wpAnyH_ready (rs := [17]) (by kernel_rfl) (by simp) ?_
          refine AllReadyH.cons (o := _) rfl (fun KU hKU => ?_) AllReadyH.nil
          go_simp
          refine hKU.out _ _ ?_ (fun hHeld => ?_)
          · assumption
          clear hKU KU
          try simp only [Act.put, List.setIfInBounds_toArray, List.set_cons_zero, List.set_cons_succ]
          refine wpAnyH_take (i := 18) (oi := ⟨some 36, _, _, _, _, _⟩) (v := ?v39) rfl (by kernel_rfl) (by kernel_rfl) (by kernel_rfl) (fun _ _ _ h => h) (Or.inl ⟨by rfl, ?hy39⟩) (by assumption) ?rest39
          case hy39 => (intro w hSw; (try dsimp only at hSw); go_simp; try (with_reducible rfl))
          try simp only [Act.put, List.setIfInBounds_toArray, List.set_cons_zero, List.set_cons_succ]
          refine wpAnyH_take (i := 19) (oi := ⟨some 8, _, _, _, _, _⟩) (v := ?v40) rfl (by kernel_rfl) (by kernel_rfl) (by kernel_rfl) (fun _ _ _ h => h) (Or.inl ⟨by rfl, ?hy40⟩) (by assumption) ?rest40
          case hy40 => (intro w hSw; (try dsimp only at hSw); go_simp; try (with_reducible rfl))
          try simp only [Act.put, List.setIfInBounds_toArray, List.set_cons_zero, List.set_cons_succ]
          refine wpAnyH_done (by kernel_rfl) ?_ _
          refine NoPanic.normal ?_
          have HB9 := Lib.hid (show Below U.heap.size U wR from (last6 (by assumption)))
          go_wp2
          go_ret
          exact ⟨ret_bool HE.out.symm, HBU.out.trans (HB9.out.mono HBU.out.size)⟩
      | false =>
        rw [hr1] at HR1
        have HE := Lib.hid (show shL x n head (a :: tl) left = shL x n head tl true by show (shL x n (head ++ [a]) tl left || shL x n head tl true) = _; rw [hr1]; rfl)
        clear hr1
        go_region_held3 (fun V => V.cell? ⟨w.heap.size, 0, none⟩ = some (.int .i64 x.n) ∧ V.cell? ⟨w.heap.size, 1, none⟩ = some (.slice x.ai x.init.length x.ci) ∧ V.cell? ⟨w.heap.size, 2, none⟩ = some (.slice x.ag x.goal.length x.cg) ∧ V.cell? ⟨w.heap.size, 3, none⟩ = some (.slice x.ao x.ops.length x.co) ∧ V.cell? ⟨b, o, none⟩ = some (.int .i64 a) ∧ Below U.heap.size U V) (first | (refine ⟨?_, ?_, ?_, ?_, ?_, ?_⟩ <;> assumption) | (exact HSO.out _ hww.drew) | (exact HSO.out _ hww) | (exact HSO.out _ (bel_step (last6 (by assumption)) (by assumption))) | (exact HSO.out _ (al6 (last6 (by assumption)))) | (exact HSO.out _ (al6 (last6 (by assumption))).drew) | (exact HSO.out _ (gr6 (last6 (by assumption)) HOC.out hgrow))) (first | (go_at_call 23; refine (HCp.out _ ?_).mono ?_; (exact HLH.out _ (last6 (by assumption))); rintro e wC ⟨vc, rfl, hown, hb⟩; have HOC := Lib.hid (own_mono hown (bel_le (last6 (by assumption)))); have HBS := Lib.hid (Nat.le_trans (bel_le (last6 (by assumption))) hb.size); (first | (refine have_one (g := U.heap.size) (u := .int .i64 a) hb ?_ ?_ (fun hz => ?_); (first | exact (cell_new _ _ _).1); (focus simp)) | skip)) | (refine step_append_lies _ (by rfl) _ _ _ (by rfl) U.heap.size 3 i0 (.int .i64 0) 1 8 Tryd.underlying22 hi0 hz0 hz1 hz2 rfl (by omega) vc head.length (head.map (Value.int .i64)) (by rfl) ?_ _ 1 1 [.int .i64 a] (by rfl) (by rfl) ?_ (by simp [Value.oneCell']) (by omega) (by have := HLN.out; unfold maxLen; omega) (by have := HLN.out; omega) ?_ _ rfl ?_; (first | exact HOC.out | exact HOC.out.alloc _ | exact (HOC.out.alloc _).drew | exact (HOC.out.drew.alloc _) | exact HOC.out.drew); (first | exact cell_one_new _ _ _ | exact news1 hz); (have := HBS.out; simp; omega); intro gg cap w1 hown1 hgrow hat hlt1; have HON := Lib.hid hown1) | (go_at_call 35; (with_reducible refine (HR1.out _ _ _ ?_ ?_ ?_ ?_).mono ?_); (intro hq; cases hq); (exact HX0.out _ (last6 (by assumption))); (exact lst_app HON.out); (exact HTL.out _ (last6 (by assumption))); rintro e wR ⟨rfl, hb⟩) | (go_at_call 35; (with_reducible refine (HR2.out _ ?_ ?_ ?_).mono ?_); (exact HX0.out _ (last6 (by assumption))); (exact HLH.out _ (last6 (by assumption))); (exact HTL.out _ (last6 (by assumption))); rintro e wS ⟨rfl, hb2⟩))
        all_goals
          have HB9 := Lib.hid (show Below U.heap.size U wS from (last6 (by assumption)))
          go_wp2
          go_ret
          exact ⟨ret_bool HE.out.symm, HBU.out.trans (HB9.out.mono HBU.out.size)⟩
set_option maxHeartbeats 2000000 in
theorem minimalOf_any (x : Tsk) (n : Nat) (hv : Val x n) (a3 : Option Addr) (c3 : Nat) (plan : List Int) (hpl : planB x.ops.length plan = true) (h60 : plan.length ≤ 60) (w : World) (hX : TskIn w w.heap.size x) (hL : Lst w w.heap.size a3 c3 plan) :
    Calls Tryd.prog 18 #[.agg #[.int .i64 x.n, .slice x.ai x.init.length x.ci, .slice x.ag x.goal.length x.cg, .slice x.ao x.ops.length x.co], .slice a3 plan.length c3] w fun e w' => e = .returned (.bool (minL x n plan)) ∧ Below w.heap.size w w' := by
  have hB1 : Below w.heap.size w (w.alloc (.cells #[.int .i64 x.n, .slice x.ai x.init.length x.ci, .slice x.ag x.goal.length x.cg, .slice x.ao x.ops.length x.co] 25)) := by go_grown
  have HE := Lib.hid (shorter_any x n hv plan [] false none a3 0 c3 _ (planB_mem.2 (fun y hy => by simp at hy)) hpl (by simpa using h60) (fun _ => rfl) (hX.to hB1 hB1.size) (lst_nil _ _) (hL.to hB1 hB1.size))
  have HB1 := Lib.hid hB1
  clear hX hL hB1
  rw [List.length_nil] at HE
  go_enter Tryd.func18, Tryd.ntmps18
  go_wp2_with (go_at_call 35; (with_reducible refine HE.out.mono ?_); rintro e w1 ⟨rfl, hb⟩)
  go_ret
  exact ⟨rfl, HB1.out.trans (hb.mono HB1.out.size)⟩
end Go.Proofs.YtkflidnclndpkaaDoor

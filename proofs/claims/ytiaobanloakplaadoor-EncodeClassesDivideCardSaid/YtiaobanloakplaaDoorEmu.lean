/- Package encode: what Multi needs: large classes, the answers, its box. -/
import Derived.Test.YtiaobanloakplaaDoorEss
namespace Go.Proofs.YtiaobanloakplaaDoor
open Go.RowKit
set_option linter.unusedSimpArgs false
set_option linter.unusedVariables false
set_option maxRecDepth 100000

def bgB (cs : List (List Int)) (k : Nat) : Bool := decide (6 ≤ (rw_ cs k).length)
def bgA (cs : List (List Int)) : Bool := (List.range cs.length).any (bgB cs)
theorem bgA_false {cs : List (List Int)} : bgA cs = false ↔ ∀ k, k < cs.length → (rw_ cs k).length ≤ 5 := by
  unfold bgA
  rw [List.any_eq_false]
  constructor
  · intro h k hk
    have := h k (by simpa using hk)
    unfold bgB at this
    simp at this
    omega
  · intro h k hk
    have := h k (by simpa using hk)
    unfold bgB
    simp
    omega
set_option maxHeartbeats 400000 in
theorem isLarge_any (a : Option Addr) (c : Nat) (l : List Int) (w : World) (hl : l.length ≤ 24) : Calls Tryd.prog 47 #[.slice a l.length c] w fun e w' => e = .returned (.bool (decide (6 ≤ l.length))) ∧ w = w' := by
  by_cases h : 6 ≤ l.length
  · have d1 : decide ((6 : Int) ≤ (l.length : Int)) = true := decide_eq_true (by omega)
    have d0 : decide (6 ≤ l.length) = true := decide_eq_true h
    go_enter Tryd.func47, Tryd.ntmps47
    go_wp2
    go_ret
    exact ⟨ret_val (by first | rfl | (rw [d0]; rfl)), rfl⟩
  · have d1 : decide ((6 : Int) ≤ (l.length : Int)) = false := decide_eq_false (by omega)
    have d0 : decide (6 ≤ l.length) = false := decide_eq_false h
    go_enter Tryd.func47, Tryd.ntmps47
    go_wp2
    go_ret
    exact ⟨ret_val (by first | rfl | (rw [d0]; rfl)), rfl⟩
set_option maxHeartbeats 1000000 in
theorem indexLg_any (A : Option Addr) (c : Nat) (cs : List (List Int)) (w : World) (hA : Rws w w.heap.size A cs) (hcl : cs.length ≤ 48) (h24 : ∀ k, k < cs.length → (rw_ cs k).length ≤ 24) :
    Calls Tryd.prog 73 #[.slice A cs.length c, .func (.func 47) #[] #[]] w fun e w' => e = .returned (.int .i64 (idxB (bgB cs) cs.length)) ∧ w = w' := by
  have HA := Lib.hid hA
  have H24 := Lib.hid h24
  clear hA h24
  go_enter Tryd.func73, Tryd.ntmps73
  go_wp2
  go_loop [8] (fun i => ∃ k : Nat, k ≤ cs.length ∧ i = .int .i64 k ∧ ∀ j, j < k → bgB cs j = false) (fun i => cs.length - (intOf i).toNat)
  case atStart => exact ⟨0, by omega, rfl, by omega⟩
  case round =>
    obtain ⟨k, hk, rfl, hj⟩ := hrel
    have HJ := Lib.hid hj
    clear hj
    by_cases hlt : k < cs.length
    · obtain ⟨b, o, ak, ck, rfl, _, hcc, _⟩ := HA.out.at_ hlt
      have HR := isLarge_any ak ck (rw_ cs k) w (H24.out k hlt)
      have hlg : decide (6 ≤ (rw_ cs k).length) = bgB cs k := rfl
      rw [hlg] at HR
      clear hlg
      cases hi : bgB cs k
      · have HI := Lib.hid hi
        rw [hi] at HR
        clear hi
        have HRH := Lib.hid HR
        clear HR
        go_wp2_with (go_at_call 47; (with_reducible refine HRH.out.mono ?_); rintro e w' ⟨rfl, rfl⟩)
        go_round
        case rel => exact ⟨k + 1, by omega, by go_num, all_stepF HJ.out HI.out⟩
        case measure => simp [intOf]; omega
      · have HI := Lib.hid hi
        rw [hi] at HR
        clear hi
        have HRH := Lib.hid HR
        clear HR
        go_wp2_with (go_at_call 47; (with_reducible refine HRH.out.mono ?_); rintro e w' ⟨rfl, rfl⟩)
        go_ret
        exact ⟨ret_int2 (idxB_hit hlt HI.out HJ.out).symm, rfl⟩
    · have hge : ¬ ((k : Int) < cs.length) := by omega
      go_wp2
      go_ret
      exact ⟨ret_int2 (idxB_miss (fun j h => HJ.out j (by omega))).symm, rfl⟩
set_option maxHeartbeats 400000 in
theorem containsLg_any (A : Option Addr) (c : Nat) (cs : List (List Int)) (w : World) (hA : Rws w w.heap.size A cs) (hcl : cs.length ≤ 48) (h24 : ∀ k, k < cs.length → (rw_ cs k).length ≤ 24) :
    Calls Tryd.prog 48 #[.slice A cs.length c, .func (.func 47) #[] #[]] w fun e w' => e = .returned (.bool (bgA cs)) ∧ w = w' := by
  have HR := Lib.hid (indexLg_any A c cs w hA hcl h24)
  have hI := idxB_has (bgB cs) cs.length
  have hI2 : (List.range cs.length).any (bgB cs) = bgA cs := rfl
  rw [hI2] at hI
  clear hA h24 hI2
  go_enter Tryd.func48, Tryd.ntmps48
  go_wp2_with (go_at_call 73; (with_reducible refine HR.out.mono ?_); rintro e w' ⟨rfl, rfl⟩)
  go_ret
  exact ⟨rfl, rfl⟩

/-- The answers of Multi. -/
def muF (x : Tsk) (gs : List (List Int)) : Int × Int :=
  if (gfF x gs).1 ≠ 0 then gfF x gs else if (covR x gs).length = 0 ∨ 8 < (covR x gs).length ∨ bgA (covR x gs) = true then (10, -9) else if crB (covR x gs) x.goal = true then (15, -9)
  else if (mkN x.ops (covR x gs) x.ops.length).isNone then (10, -9) else (0, 0)
structure MuT where
  sizes : List Int
  init : List Int
  goal : List Asg
  ops : List MOp
  frm : List Int
def muT (x : Tsk) (gs : List (List Int)) : MuT :=
  if (muF x gs).1 ≠ 0 then ⟨[], [], [], [], []⟩ else match mkN x.ops (covR x gs) x.ops.length with
  | none => ⟨[], [], [], [], []⟩
  | some (ms, fr) => ⟨(covR x gs).map (fun c => (c.length : Int) + 1), stR (covR x gs) x.init, asgR (covR x gs) x.goal, ms, fr⟩
def MuP (w : World) (x : Tsk) (gs : List (List Int)) (e : Ending) (w' : World) : Prop :=
  ∃ vz vi vg vo vf, e = .returned (.tuple #[.agg #[vz, vi, vg, vo], vf, faultV (muF x gs)]) ∧ Below w.heap.size w w' ∧
    On (Rg w.heap.size w'.heap.size) w' (fun W => SlL (muT x gs).sizes vz W ∧ SlL (muT x gs).init vi W ∧ SlA (muT x gs).goal vg W ∧ SlM (muT x gs).ops vo W ∧ SlL (muT x gs).frm vf W)
theorem muP_bad {w W : World} {x : Tsk} {gs : List (List Int)} {r : Int × Int} (h : muF x gs = r) (hr : r.1 ≠ 0) (hb : Below w.heap.size w W) :
    MuP w x gs (.returned (.tuple #[.agg #[.slice none 0 0, .slice none 0 0, .slice none 0 0, .slice none 0 0], .slice none 0 0, faultV r])) W := by
  refine ⟨_, _, _, _, _, by rw [h], hb, ?_⟩
  have e : muT x gs = ⟨[], [], [], [], []⟩ := by unfold muT; rw [if_pos (by rw [h]; exact hr)]
  rw [e]
  exact On.always fun W => ⟨(slL_nil (fun _ => True) W).out, (slL_nil (fun _ => True) W).out, ⟨none, 0, rfl, fun h => by simp at h, by simp, by simp [maxLen]⟩, ⟨none, 0, rfl, fun h => by simp at h, by simp, by simp [maxLen]⟩, (slL_nil (fun _ => True) W).out⟩
section
variable {fn : Func} {R : Ending → World → Prop} {tmps : Array Value} {W : World} {s t u : Tmp} {g g2 : Nat} {x y a b c d : Value}
theorem post_multi (hres : fn.results = #[.cell s 38, .tmp t, .cell u 28]) (hs : tmps.getD s undef = .pointer (some ⟨g2, 0, none⟩)) (hu : tmps.getD u undef = .pointer (some ⟨g, 0, none⟩))
    (h0 : W.cell? ⟨g2, 0, none⟩ = some a) (h1 : W.cell? ⟨g2, 1, none⟩ = some b) (h2 : W.cell? ⟨g2, 2, none⟩ = some c) (h3 : W.cell? ⟨g2, 3, none⟩ = some d) (hT : Two W g x y) (hR : R (.returned (.tuple #[.agg #[a, b, c, d], tmps.getD t undef, .agg #[x, y]])) W) :
    bodyPost Tryd.prog fn R .ret { tmps := tmps, defers := [] } W := by
  refine bodyPost_ret (v := .tuple #[.agg #[a, b, c, d], tmps.getD t undef, .agg #[x, y]]) ?_ rfl hR
  simp only [results, hres]
  rw [Array.getD_eq_getD_getElem?] at hs hu
  simp [go_sem, hs, hu, hT.fst, hT.snd, h0, h1, h2, h3]
end
end Go.Proofs.YtiaobanloakplaaDoor

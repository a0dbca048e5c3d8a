/- Package encode: state. -/
import Derived.Test.YtiaobanloakplaaDoorEas
import Derived.Test.YtiaobanloakplaaDoorMB
namespace Go.Proofs.YtiaobanloakplaaDoor
open Go.RowKit
set_option linter.unusedSimpArgs false
set_option linter.unusedVariables false
set_option maxRecDepth 100000

theorem lens_step {cs : List (List Int)} {k : Nat} (h : k < cs.length) : (lens cs).take (k + 1) = (lens cs).take k ++ [((rw_ cs k).length : Int)] := by
  rw [take_succ_ix (by simpa [lens] using h)]
  congr 2
  exact ix_mapl (f := fun c => (c.length : Int)) h
theorem lens_len (cs : List (List Int)) : (lens cs).length = cs.length := by simp [lens]
def stR (cs : List (List Int)) (s : List Int) : List Int := if crB cs s then [] else stV cs s
theorem asgR_le {cs : List (List Int)} {fs : List Int} : (asgR cs fs).length ≤ cs.length := by
  unfold asgR
  split
  · simp
  · rename_i h
    exact asgN_le cs fs cs.length (crB_false.1 (by simpa using h))
theorem asgR_vr {cs : List (List Int)} {fs : List Int} {k : Nat} (h : k < (asgR cs fs).length) : (asg (asgR cs fs) k).v = (vr (asgR cs fs) k : Int) ∧ vr (asgR cs fs) k < cs.length := by
  obtain ⟨j, hj, e, _⟩ := asgR_mem (asg_mem h)
  unfold vr
  rw [e]
  exact ⟨by simp, by simpa using hj⟩
def VbPost (w : World) (xs : List Int) (b : Bool) (e : Ending) (w' : World) : Prop := ∃ v, e = .returned (.tuple #[v, .bool b]) ∧ w'.ownsRow w.heap.size 3 1 v xs.length (xs.map (Value.int .i64)) ∧ Below w.heap.size w w'
set_option maxHeartbeats 4000000 in
theorem state_any (A B : Option Addr) (c d : Nat) (cs : List (List Int)) (fs : List Int) (w : World) (hA : Rws w w.heap.size A cs) (hB : Lst w w.heap.size B d fs) (hlc : cs.length ≤ 48) (h24 : ∀ k, k < cs.length → (rw_ cs k).length ≤ 24) :
    Calls Tryd.prog 51 #[.slice A cs.length c, .slice B fs.length d] w (VbPost w (stR cs fs) (!crB cs fs)) := by
  have hS := assignments_any A B c d cs fs w hA hB hlc h24
  have HA := Lib.hid (fun (W : World) (h : Below w.heap.size w W) => hA.to h h.size)
  have H24 := Lib.hid h24
  clear hA hB h24
  cases hcr : crB cs fs
  case true =>
    rw [hcr] at hS
    have H := Lib.hid (show stR cs fs = [] by unfold stR; rw [hcr]; rfl)
    have HS := Lib.hid hS
    clear hcr hS
    go_enter Tryd.func51, Tryd.ntmps51
    go_wp2_with (go_at_call 49; (with_reducible refine HS.out.mono ?_); rintro e w1 ⟨v1, rfl, ho1, hb1⟩; have hs1 := own_asgL ho1; obtain ⟨a1, c1, rfl, hl1, hn1⟩ := hs1; clear hn1; have HB1 := Lib.hid hb1; have HO1 := Lib.hid ho1; have HL1 := Lib.hid hl1; clear hb1 ho1 hl1)
    go_ret2
    exact ⟨_, rfl, by rw [H.out]; exact World.ownsRow_nil _ _ _ _, HB1.out⟩
  rw [hcr] at hS
  have H := Lib.hid (show stR cs fs = aft (lens cs) (asgR cs fs) by unfold stR; rw [hcr]; exact (aft_stV hcr).symm)
  have HS := Lib.hid hS
  have HLE := Lib.hid (asgR_le (cs := cs) (fs := fs))
  have HVR := Lib.hid (fun k (h : k < (asgR cs fs).length) => asgR_vr h)
  clear hcr hS
  generalize asgR cs fs = l at *
  have hl24 : l.length ≤ 48 := Nat.le_trans HLE.out hlc
  obtain ⟨i0, hi, hz0, hz1, hz2⟩ := info_parts info_int
  go_enter Tryd.func51, Tryd.ntmps51
  go_wp2_with (go_at_call 49; (with_reducible refine HS.out.mono ?_); rintro e w1 ⟨v1, rfl, ho1, hb1⟩; have hs1 := own_asgL ho1; obtain ⟨a1, c1, rfl, hl1, hn1⟩ := hs1; clear hn1; have HB1 := Lib.hid hb1; have HO1 := Lib.hid ho1; have HL1 := Lib.hid hl1; clear hb1 ho1 hl1)
  have HKP := Lib.hid (fun (W : World) (h : Below w1.heap.size w1 W) => HL1.out.to h h.size)
  have HAP := Lib.hid (fun (W : World) (h : Below w1.heap.size w1 W) => HA.out W (HB1.out.trans (h.mono HB1.out.size)))
  go_loopw [8, 23] (fun v i wr => ∃ k : Nat, k ≤ cs.length ∧ i = .int .i64 k ∧ Below w1.heap.size w1 wr ∧ wr.ownsRow w1.heap.size 3 1 v ((lens cs).take k).length (((lens cs).take k).map (Value.int .i64))) (fun _ i _ => cs.length - (intOf i).toNat)
  case atStart => exact ⟨0, by omega, rfl, Below.refl _ _, World.ownsRow_nil _ _ _ _⟩
  case round =>
    obtain ⟨k, hk, rfl, hbw, hown⟩ := hrel
    have HW := Lib.hid hbw
    have HO := Lib.hid hown
    clear hbw hown
    have hsz := HW.out.size
    by_cases hlt : k < cs.length
    case pos =>
      obtain ⟨b, o, ak, ck, rfl, hbl, hcell, hlst⟩ := (HAP.out _ HW.out).at_ hlt
      have HST := Lib.hid (lens_step hlt)
      have hlk : ((lens cs).take k).length ≤ k := List.length_take_le _ _
      clear hlst
      generalize (lens cs).take k = q at *
      go_wp2_with (at_builtin; refine wpList_append_own_at _ rfl _ _ 22 rfl (w1.heap.size) 3 i0 (.int .i64 0) 1 8 Tryd.underlying22 hi hz0 hz1 hz2 rfl (by decide) _ _ _ rfl (HO.out.alloc _) ⟨wr.heap.size, 0, none⟩ 1 1 [.int .i64 ((rw_ cs k).length : Int)] rfl rfl ?c1 ?c2 ?c3 ?c4 ?c5 ?_)
      case c1 => exact cell_one_new _ _ _
      case c2 => simp [Value.oneCell']
      case c3 => unfold maxLen; omega
      case c4 => omega
      case c5 => simp; omega
      intro v2 w2 hown2 hgrow _ _
      have HW2 := Lib.hid (HW.out.trans (Below.grown (B := w1.heap.size) ((Below.refl _ _).alloc hsz _) hgrow (by simp; omega) (fun q hq => (HO.out.lt q hq).1)))
      have HO2 := Lib.hid hown2
      clear hgrow hown2
      go_wp2
      go_roundw
      case rel => exact ⟨k + 1, by omega, by go_num, HW2.out, by rw [HST.out]; simpa using HO2.out⟩
      case measure => simp [intOf]; omega
    have hge : ¬ ((k : Int) < cs.length) := by omega
    have HE := Lib.hid (show (lens cs).take k = aftN (lens cs) l 0 by rw [List.take_of_length_le (by rw [lens_len]; omega)]; rfl)
    rw [HE.out] at HO
    clear hge
    have hge2 : decide ((k : Int) < cs.length) = false := decide_eq_false (by omega)
    go_wp2
    have HOW := Lib.hid (⟨HW.out, HO.out⟩ : Below w1.heap.size w1 wr ∧ wr.ownsRow w1.heap.size 3 1 u8 (aftN (lens cs) l 0).length ((aftN (lens cs) l 0).map (Value.int .i64)))
    clear HO HW hsz HE
    rename World => wo
    go_loopw [35] (fun i wr => ∃ j : Nat, j ≤ l.length ∧ i = .int .i64 j ∧ Below w1.heap.size w1 wr ∧ wr.ownsRow w1.heap.size 3 1 u8 (aftN (lens cs) l j).length ((aftN (lens cs) l j).map (Value.int .i64))) (fun i _ => l.length - (intOf i).toNat)
    case atStart => exact ⟨0, by omega, rfl, HOW.out.1, HOW.out.2⟩
    case round =>
      obtain ⟨j, hj, rfl, hbw, hown⟩ := hrel
      have HW := Lib.hid hbw
      have HO := Lib.hid hown
      clear hbw hown
      by_cases hlt2 : j < l.length
      case neg =>
        obtain rfl : j = l.length := by omega
        have hge : ¬ ((l.length : Int) < l.length) := by omega
        go_wp2
        go_ret2
        refine ⟨_, rfl, ?_, HB1.out.trans (HW.out.mono HB1.out.size)⟩
        rw [H.out]
        exact own_mono HO.out HB1.out.size
      obtain ⟨b2, p2, hz2, _, ⟨r0, r1⟩⟩ := (HKP.out _ HW.out).at_ hlt2
      obtain ⟨hv, hvl⟩ := HVR.out j hlt2
      have hal : (aftN (lens cs) l j).length = cs.length := by rw [aftN_len _ _ _ (by omega), lens_len]
      have HST := Lib.hid (aftN_succ (s := lens cs) hlt2)
      subst hz2
      rw [hv] at r0
      obtain ⟨g, cap, rfl, hg, hgl⟩ := own_some1 HO.out (by omega)
      have hlt3 : vr l j < (aftN (lens cs) l j).length := by omega
      obtain ⟨z0, z1⟩ := row_cell HO.out hlt3
      have hne : ¬ (wr.heap.size = g) := by omega
      have hzs := HW.out.size
      clear hv
      go_wp2
      go_roundw
      case rel =>
        refine ⟨j + 1, by omega, by go_num, ?_, ?_⟩
        · exact (HW.out.setCell (p := ⟨g, vr l j, none⟩) hg _).alloc (by simpa [World.setCell] using hzs) _
        · rw [HST.out, List.length_set]
          have := row_put HO.out (vr l j) (asg l j).x
          unfold Row at this
          rw [List.length_set] at this
          exact this.alloc _
      case measure => simp [intOf]; omega
end Go.Proofs.YtiaobanloakplaaDoor

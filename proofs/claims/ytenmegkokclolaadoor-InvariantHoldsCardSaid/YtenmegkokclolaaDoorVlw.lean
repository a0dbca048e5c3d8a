/- Package invariant: largest's walk. -/
import Derived.Test.YtenmegkokclolaaDoorVlg
namespace Go.Proofs.YtenmegkokclolaaDoor
open Go.RowKit
set_option linter.unusedSimpArgs false
set_option linter.unusedVariables false
set_option maxRecDepth 100000

theorem info_set : (Tryd.prog.info? 58).map (fun i => (i.zero, i.size, i.bytes)) = some (some (.int .u64 0), 1, 8) := by kernel_rfl
theorem msk_to {w w' : World} {B : Nat} {a : Option Addr} {ls : List (List Int)} (h : Msk w B a ls) (hb : Below B w w') (hB : B ≤ w'.heap.size) : Msk w' w'.heap.size a ls := by
  intro h0
  obtain ⟨b, o, e, hlt, hc⟩ := h h0
  exact ⟨b, o, e, by omega, fun k hk => (hb.cell (p := ⟨b, o + k, none⟩) hlt).trans (hc k hk)⟩
/-- What largest hands back: a row of its own that holds the sets. -/
def LgPost (w : World) (ls : List (List Int)) (e : Ending) (w' : World) : Prop := ∃ v, e = .returned v ∧ w'.ownsRow (w.heap.size + 1) 58 1 v ls.length (mkv ls) ∧ Below w.heap.size w w'
set_option maxHeartbeats 2000000 in
theorem largest_any (x : Tsk) (n : Nat) (hn : x.n = (n : Int)) (h10 : n ≤ 10) (w : World) (hX : TskIn w w.heap.size x) (hI : IsS x.init 24) (hO : ∀ k, k < x.ops.length → OpS (opr x.ops k) 24) :
    Calls Tryd.prog 30 #[.agg #[.int .i64 x.n, .slice x.ai x.init.length x.ci, .slice x.ag x.goal.length x.cg, .slice x.ao x.ops.length x.co]] w (LgPost w (lgs x n (2 ^ n))) := by
  have HX := Lib.hid (fun (W : World) (h : Below w.heap.size w W) => hX.to h h.size)
  have HIN := Lib.hid (fun (W : World) (h : Below w.heap.size w W) (g : List Int) (hg : IsS g 24) => inductive_any x g W (hX.to h h.size) hI hO hg)
  clear hX hI hO
  obtain ⟨i0, hi, hz0, hz1, hz2⟩ := info_parts info_set
  have HT0 := tbox_new w x 25
  rw [hn] at HT0
  go_enter Tryd.func30, Tryd.ntmps30
  have hK1 : 1 ≤ 2 ^ n := Nat.one_le_two_pow
  have hK2 : 2 ^ n ≤ 1024 := Nat.le_trans (Nat.pow_le_pow_right (by omega) h10) (by decide)
  have hmg : ∀ k, k < 2 ^ n → mask (grL n k) = 2 ^ n - 1 - k := fun k hk => mask_grL hk
  go_wp2
  rw [show ((2 : Int) ^ n) = ((2 ^ n : Nat) : Int) by simp]
  have HLN : ∀ k, (lgs x n k).length ≤ k := fun k => lgs_len k
  generalize 2 ^ n = K at *
  clear hn
  rw [show wrap64 (K : Int) = (K : Int) by unfold wrap64; omega, show IntKind.u64.wrap (K : Int) = (K : Int) by rw [IntKind.wrap_u64]; omega, show IntKind.u64.wrap ((K : Int) - 1) = ((K - 1 : Nat) : Int) by rw [IntKind.wrap_u64]; omega]
  go_loopw [3, 15] (fun v i wr => ∃ k : Nat, k ≤ K ∧ i = .int .i64 k ∧ TBox wr w.heap.size x ∧ Below w.heap.size w wr ∧ wr.ownsRow (w.heap.size + 1) 58 1 v (lgs x n k).length (mkv (lgs x n k))) (fun _ i _ => K - (intOf i).toNat)
  case atStart => exact ⟨0, by omega, rfl, HT0, by go_grown, World.ownsRow_nil _ _ _ _⟩
  case round =>
    obtain ⟨k, hk, rfl, hbx, hbw, hown⟩ := hrel
    obtain ⟨a, c, rfl, hmsk, hle, hmx⟩ := msk_own hown
    have HB := Lib.hid hbw
    have HBX := Lib.hid hbx
    have HOW := Lib.hid hown
    clear hbw hbx hown
    by_cases hlt : k < K
    case neg =>
      obtain rfl : k = K := by omega
      have hge : ¬ ((k : Int) < k) := by omega
      go_wp2
      go_ret
      exact ⟨_, rfl, HOW.out, HB.out⟩
    obtain ⟨_, t0, t1, t2, t3⟩ := HBX.out
    have HGM := Lib.hid (show ((K - 1 : Nat) : Int) - (k : Int) = (mask (grL n k) : Int) by rw [hmg k hlt]; omega)
    have HGS := Lib.hid (show IsS (grL n k) 24 from (grL_isS n k).mono (by omega))
    have hbA : Below wr.heap.size wr (wr.alloc (.cells #[.int .u64 (((K - 1 : Nat) : Int) - (k : Int))] 58)) := (Below.refl _ _).alloc (Nat.le_refl _) _
    have HCT := Lib.hid (containsS_any a c (lgs x n k) (grL n k) (fun j hj => by obtain ⟨i, _, e⟩ := lgs_mem (rw_mem hj); rw [e]; exact (grL_isS n i).mono (by omega)) HGS.out wr.heap.size (wr.alloc (.cells #[.int .u64 (((K - 1 : Nat) : Int) - (k : Int))] 58)) (msk_to hmsk hbA hbA.size) (by omega) (by rw [← HGM.out]; simp))
    have HLE := Lib.hid (show ∀ W, Calls Tryd.prog 43 #[.int .u64 (((K - 1 : Nat) : Int) - (k : Int))] W fun e w' => e = .returned (.int .i64 (grL n k).length) ∧ W = w' from fun W => by rw [HGM.out]; exact len_any _ W HGS.out)
    have HLL := HLN k
    have HID := Lib.hid (show ∀ W, Below w.heap.size w W → Calls Tryd.prog 26 #[.agg #[.int .i64 x.n, .slice x.ai x.init.length x.ci, .slice x.ag x.goal.length x.cg, .slice x.ao x.ops.length x.co], .int .u64 (((K - 1 : Nat) : Int) - (k : Int))] W fun e w' => e = .returned (.bool (indB x (grL n k))) ∧ Below W.heap.size W w' from fun W h => by rw [HGM.out]; exact HIN.out W h _ HGS.out)
    have HBA := Lib.hid (HB.out.alloc HB.out.size (.cells #[.int .u64 (((K - 1 : Nat) : Int) - (k : Int))] 58))
    by_cases h1 : 1 < (grL n k).length
    case neg =>
      have d1 : decide ((1 : Int) < (grL n k).length) = false := decide_eq_false (by omega)
      have HQ := Lib.hid (show lgs x n (k + 1) = lgs x n k by simp only [lgs]; rw [if_neg]; simp [lgB, h1])
      go_wp2_with (first | (go_at_call 47; (with_reducible refine HCT.out.mono ?_); rintro e w2 ⟨rfl, rfl⟩) | (go_at_call 43; (with_reducible refine (HLE.out _).mono ?_); rintro e w3 ⟨rfl, rfl⟩) | (go_at_call 26; (with_reducible refine (HID.out _ HBA.out).mono ?_); rintro e w4 ⟨rfl, hb4⟩; have hc4 := (hb4.cell (p := ⟨wr.heap.size, 0, none⟩) (by simp)).trans (cell_new wr (.int .u64 (((K - 1 : Nat) : Int) - (k : Int))) 58).1))
      go_roundw
      case rel => exact ⟨k + 1, by omega, by go_num, HBX.out.alloc _, HBA.out, by rw [HQ.out]; exact HOW.out.alloc _⟩
      case measure => simp [intOf]; omega
    have d1 : decide ((1 : Int) < (grL n k).length) = true := decide_eq_true (by omega)
    cases hp : partB (lgs x n k) (grL n k)
    case true =>
      have HQ := Lib.hid (show lgs x n (k + 1) = lgs x n k by simp only [lgs]; rw [if_neg]; simp [lgB, hp])
      have HCT := Lib.hid (show _ from hp ▸ HCT.out)
      go_wp2_with (first | (go_at_call 47; (with_reducible refine HCT.out.mono ?_); rintro e w2 ⟨rfl, rfl⟩) | (go_at_call 43; (with_reducible refine (HLE.out _).mono ?_); rintro e w3 ⟨rfl, rfl⟩) | (go_at_call 26; (with_reducible refine (HID.out _ HBA.out).mono ?_); rintro e w4 ⟨rfl, hb4⟩; have hc4 := (hb4.cell (p := ⟨wr.heap.size, 0, none⟩) (by simp)).trans (cell_new wr (.int .u64 (((K - 1 : Nat) : Int) - (k : Int))) 58).1))
      go_roundw
      case rel => exact ⟨k + 1, by omega, by go_num, HBX.out.alloc _, HBA.out, by rw [HQ.out]; exact HOW.out.alloc _⟩
      case measure => simp [intOf]; omega
    have HCT := Lib.hid (show _ from hp ▸ HCT.out)
    cases hq : indB x (grL n k)
    case false =>
      have HQ := Lib.hid (show lgs x n (k + 1) = lgs x n k by simp only [lgs]; rw [if_neg]; simp [lgB, hq])
      rw [hq] at HID
      go_wp2_with (first | (go_at_call 47; (with_reducible refine HCT.out.mono ?_); rintro e w2 ⟨rfl, rfl⟩) | (go_at_call 43; (with_reducible refine (HLE.out _).mono ?_); rintro e w3 ⟨rfl, rfl⟩) | (go_at_call 26; (with_reducible refine (HID.out _ HBA.out).mono ?_); rintro e w4 ⟨rfl, hb4⟩; have hc4 := (hb4.cell (p := ⟨wr.heap.size, 0, none⟩) (by simp)).trans (cell_new wr (.int .u64 (((K - 1 : Nat) : Int) - (k : Int))) 58).1))
      go_roundw
      case rel => exact ⟨k + 1, by omega, by go_num, (HBX.out.alloc _).to hb4 (by simp; have := HBX.out.lt; omega), HBA.out.trans (hb4.mono HBA.out.size), by rw [HQ.out]; exact own_to (HOW.out.alloc _) hb4⟩
      case measure => simp [intOf]; omega
    case true =>
      have HQ := Lib.hid (show lgs x n (k + 1) = lgs x n k ++ [grL n k] by simp only [lgs]; rw [if_pos]; simp [lgB, hp, hq, h1])
      rw [hq] at HID
      go_wp2_with (first | (go_at_call 47; (with_reducible refine HCT.out.mono ?_); rintro e w2 ⟨rfl, rfl⟩) | (go_at_call 43; (with_reducible refine (HLE.out _).mono ?_); rintro e w3 ⟨rfl, rfl⟩) | (go_at_call 26; (with_reducible refine (HID.out _ HBA.out).mono ?_); rintro e w4 ⟨rfl, hb4⟩; have hc4 := (hb4.cell (p := ⟨wr.heap.size, 0, none⟩) (by simp)).trans (cell_new wr (.int .u64 (((K - 1 : Nat) : Int) - (k : Int))) 58).1) | (at_builtin; refine wpList_append_own _ rfl _ _ 62 rfl (w.heap.size + 1) 58 i0 (.int .u64 0) 1 8 Tryd.underlying62 hi hz0 hz1 hz2 rfl (by decide) _ _ _ rfl ((own_to (HOW.out.alloc _) hb4).alloc _) ⟨w4.heap.size, 0, none⟩ 1 1 [.int .u64 (((K - 1 : Nat) : Int) - (k : Int))] rfl rfl ?c1 ?c2 ?c3 ?c4 ?c5 ?_))
      case c1 => exact cell_one_new _ _ _
      case c2 => simp [Value.oneCell']
      case c3 => unfold maxLen; omega
      case c4 => omega
      case c5 => (have h4 := hb4.size; have h5 := HBX.out.lt; simp at h4 ⊢; omega)
      intro v' w6 hown6 hgrow _
      have HG := Lib.hid hgrow
      clear hgrow
      have hb6 : Below (w.heap.size + 1) w4 w6 := Below.grown ((Below.refl _ _).alloc (by have := (HBA.out.trans (hb4.mono HBA.out.size)).size; have := HBX.out.lt; have := hb4.size; simp at this; omega) _) HG.out (by have := hb4.size; have := HBX.out.lt; simp at *; omega) (fun q hq => (HOW.out.lt q hq).1)
      go_wp2
      go_roundw
      case rel => exact ⟨k + 1, by omega, by go_num, ((HBX.out.alloc _).to hb4 (by simp; have := HBX.out.lt; omega)).to hb6 (by omega), (HBA.out.trans (hb4.mono HBA.out.size)).trans (hb6.mono (by omega)), by rw [HQ.out]; simpa [mkv, HGM.out] using hown6⟩
      case measure => simp [intOf]; omega
end Go.Proofs.YtenmegkokclolaaDoor

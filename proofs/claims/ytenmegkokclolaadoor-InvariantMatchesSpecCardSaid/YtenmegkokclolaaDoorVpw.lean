/- The reference's Preserved and Group: walks. -/
import Derived.Test.YtenmegkokclolaaDoorVpr
namespace Go.Proofs.YtenmegkokclolaaDoor
open Go.RowKit
set_option linter.unusedSimpArgs false
set_option linter.unusedVariables false
set_option maxRecDepth 100000

def ivl : Nat → Int
  | 0 => -1
  | m + 1 => m
theorem trC_succ (o : Opr) (g s : List Int) (k : Nat) : trC o g s (k + 1) = (trC o g s k && (!hasB g (ix o.pre k) || hasB s (ix o.pre k))) := by
  unfold trC
  rw [List.range_succ, List.all_append]
  simp
theorem has_nil (y : Int) (w : World) : Calls Tryd.prog 19 #[.slice none 0 0, .int .i64 y] w fun e w' => e = .returned (.bool (hasB [] y)) ∧ w = w' :=
  has_any none 0 [] y w (nums_nil _ _ _) (by simp [maxLen])
theorem has_one (y z : Int) (w w' : World) (h : Below (w.heap.size + 1) (w.alloc (.cells #[.int .i64 z] 3)) w') : Calls Tryd.prog 19 #[.slice (some ⟨w.heap.size, 0, none⟩) 1 1, .int .i64 y] w' fun e w2 => e = .returned (.bool (hasB [z] y)) ∧ w' = w2 := by
  have hl : Nums (w.alloc (.cells #[.int .i64 z] 3)) (w.heap.size + 1) (some ⟨w.heap.size, 0, none⟩) [z] := by
    intro _
    refine ⟨w.heap.size, 0, rfl, by omega, fun k hk => ?_⟩
    have : k = 0 := by simpa using hk
    subst this
    simp [ix]
  have := h.size
  exact has_any (some ⟨w.heap.size, 0, none⟩) 1 [z] y w' (hl.to h (by simp at this; omega)) (by simp [maxLen])
set_option maxHeartbeats 8000000 in
theorem preserved_any (o : Opr) (g : List Int) (a1 a2 a3 A : Option Addr) (c1 c2 c3 c : Nat) (w : World) (hO : OpS o 24) (hg : IsS g 24) (hV : OpV w w.heap.size o a1 a2 a3 c1 c2 c3) (hG : Lst w w.heap.size A c g) :
    Calls Tryd.prog 29 #[.agg #[.slice a1 o.pre.length c1, .slice a2 o.add.length c2, .slice a3 o.del.length c3, .int .i64 o.cost], .slice A g.length c] w fun e w' => e = .returned (.bool (prB o g)) ∧ Below w.heap.size w w' := by
  have hb1 : Below w.heap.size w (w.alloc (.cells #[.slice a1 o.pre.length c1, .slice a2 o.add.length c2, .slice a3 o.del.length c3, .int .i64 o.cost] 55)) := by go_grown
  have HX := Lib.hid (fun (W : World) (h : Below (w.heap.size + 1) (w.alloc (.cells #[.slice a1 o.pre.length c1, .slice a2 o.add.length c2, .slice a3 o.del.length c3, .int .i64 o.cost] 55)) W) => (⟨(h.cell (p := ⟨w.heap.size, 0, none⟩) (by show w.heap.size < _; omega)).trans (by simp), (h.cell (p := ⟨w.heap.size, 1, none⟩) (by show w.heap.size < _; omega)).trans (by simp), (h.cell (p := ⟨w.heap.size, 2, none⟩) (by show w.heap.size < _; omega)).trans (by simp)⟩ : W.cell? ⟨w.heap.size, 0, none⟩ = some (.slice a1 o.pre.length c1) ∧ W.cell? ⟨w.heap.size, 1, none⟩ = some (.slice a2 o.add.length c2) ∧ W.cell? ⟨w.heap.size, 2, none⟩ = some (.slice a3 o.del.length c3)))
  have HBW := Lib.hid (fun (W : World) (h : Below (w.heap.size + 1) (w.alloc (.cells #[.slice a1 o.pre.length c1, .slice a2 o.add.length c2, .slice a3 o.del.length c3, .int .i64 o.cost] 55)) W) => hb1.trans (h.mono (by omega)))
  have HV := Lib.hid (fun (W : World) (h : Below w.heap.size w W) => hV.to h h.size)
  have HG := Lib.hid (fun (W : World) (h : Below w.heap.size w W) => hG.to h h.size)
  have hlg : g.length ≤ 24 := isS_len (n := 24) hg
  have hlp : o.pre.length ≤ 24 := isS_len (n := 24) (show IsS o.pre 24 from hO.pre)
  have hla : o.add.length ≤ 24 := isS_len (n := 24) (show IsS o.add 24 from hO.add)
  have hcl := cnt_le o.add g
  clear hV hG hO hg hb1
  go_enter Tryd.func29, Tryd.ntmps29
  go_wp2
  go_loopw [5] (fun i wr => ∃ m : Nat, m ≤ g.length + 1 ∧ i = .int .i64 (ivl m) ∧ Below (w.heap.size + 1) (w.alloc (.cells #[.slice a1 o.pre.length c1, .slice a2 o.add.length c2, .slice a3 o.del.length c3, .int .i64 o.cost] 55)) wr ∧ ∀ j, j < m → trB o g j = false) (fun i _ => ((g.length : Int) - intOf i).toNat)
  case atStart => exact ⟨0, by omega, rfl, Below.refl _ _, by omega⟩
  case round =>
    obtain ⟨m, hm, rfl, hbw, hj⟩ := hrel
    have HJ := Lib.hid hj
    have HB := Lib.hid hbw
    clear hj hbw
    rename World => wo
    by_cases hlt : m ≤ g.length
    case neg =>
      obtain rfl : m = g.length + 1 := by omega
      have hiv : ivl (g.length + 1) = (g.length : Int) := rfl
      have hge : ¬ ((g.length : Int) < g.length) := by omega
      have H := Lib.hid (show prB o g = true by
        unfold prB
        rw [Bool.not_eq_true', List.any_eq_false]
        intro j hj
        rw [HJ.out j (by simpa using hj)]; simp)
      rw [hiv]
      go_wp2
      go_ret
      exact ⟨by rw [H.out]; rfl, HBW.out _ HB.out⟩
    cases m with
    | zero =>
      have hiv : ivl 0 = -1 := rfl
      rw [hiv]
      have hge0 : ((-1 : Int) < g.length) := by omega
      go_wp2
      have HB2 := Lib.hid HB.out
      have HSS := Lib.hid (fun y : Int => has_nil y wo)
      have hgg := HG.out _ (HBW.out _ HB2.out)
      have hvv := HV.out _ (HBW.out _ HB2.out)
      have HGG := Lib.hid (fun y : Int => has_any A c g y wo hgg.nums hgg.len)
      have HCN := Lib.hid (countIn_any a2 A c2 c o.add g wo hvv.add.nums hgg.nums (by omega) hgg.len)
      obtain ⟨x0, x1, x2⟩ := HX.out _ HB2.out
      clear hgg
      have HPR := Lib.hid hvv.pre
      go_loop [7, 8] (fun cv kv => ∃ k : Nat, k ≤ o.pre.length ∧ kv = .int .i64 k ∧ cv = .bool (trC o g [] k)) (fun _ kv => o.pre.length - (intOf kv).toNat)
      case atStart => exact ⟨0, by omega, rfl, rfl⟩
      case round =>
        obtain ⟨k, hk, rfl, rfl⟩ := hrel
        by_cases hkl : k < o.pre.length
        · obtain ⟨b, p, rfl, _, hcp⟩ := HPR.out.nums.at_ hkl
          have HT := Lib.hid (trC_succ o g [] k)
          have HG1 := HGG.out (ix o.pre k)
          have HS1 := HSS.out (ix o.pre k)
          cases h1 : hasB g (ix o.pre k)
          · rw [h1] at HG1
            go_wp2_with (go_at_call 19; (with_reducible refine HG1.mono ?_); rintro e w' ⟨rfl, rfl⟩)
            go_round
            case rel => exact ⟨k + 1, by omega, by go_num, by rw [HT.out, h1]; simp⟩
            case measure => simp [intOf]; omega
          · rw [h1] at HG1
            cases h2 : hasB [] (ix o.pre k)
            · rw [h2] at HS1
              go_wp2_with (first | (go_at_call 19; (with_reducible refine HG1.mono ?_); rintro e w' ⟨rfl, rfl⟩) | (go_at_call 19; (with_reducible refine HS1.mono ?_); rintro e w' ⟨rfl, rfl⟩))
              go_round
              case rel => exact ⟨k + 1, by omega, by go_num, by rw [HT.out, h1, h2]; simp⟩
              case measure => simp [intOf]; omega
            · rw [h2] at HS1
              go_wp2_with (first | (go_at_call 19; (with_reducible refine HG1.mono ?_); rintro e w' ⟨rfl, rfl⟩) | (go_at_call 19; (with_reducible refine HS1.mono ?_); rintro e w' ⟨rfl, rfl⟩))
              go_round
              case rel => exact ⟨k + 1, by omega, by go_num, by rw [HT.out, h1, h2]; simp⟩
              case measure => simp [intOf]; omega
        have hke : k = o.pre.length := by omega
        have hge : ¬ ((k : Int) < o.pre.length) := by omega
        have hcv : trC o g [] k = trC o g [] o.pre.length := by rw [hke]
        rw [hcv]
        clear hke hcv
        have hx : trX o g 0 = false := by simp [trX]
        have HN := Lib.hid (show trN o g 0 = cntB o.add g by unfold trN; rw [if_neg (by simp [hx])]; rfl)
        generalize cntB o.add g = cn at *
        cases hc : trC o g [] o.pre.length
        · have HF := Lib.hid (show trB o g 0 = false by unfold trB; rw [show trS g 0 = [] from rfl, hc]; rfl)
          go_wp2_with (go_at_call 17; (with_reducible refine HCN.out.mono ?_); rintro e w' ⟨rfl, rfl⟩)
          go_quiet (first | fail)
          go_wp2
          go_roundw
          case rel => exact ⟨0 + 1, by omega, (by first | rfl | (simp [ivl]; done) | go_num), belowN HB2.out _, all_stepF HJ.out HF.out⟩
          case measure => (first | (simp [intOf, ivl]; done) | (simp [intOf, ivl]; omega))
        · by_cases hn : 1 < cn
          · have HF := Lib.hid (show prB o g = false by
              unfold prB
              rw [Bool.not_eq_false', List.any_eq_true]
              exact ⟨0, (by first | (simp; done) | (simp; omega)), by unfold trB; rw [show trS g 0 = [] from rfl, hc, HN.out, decide_eq_true hn]; rfl⟩)
            have d1 : decide ((1 : Int) < (cn : Int)) = true := decide_eq_true (by omega)
            go_wp2_with (go_at_call 17; (with_reducible refine HCN.out.mono ?_); rintro e w' ⟨rfl, rfl⟩)
            go_quiet (first | fail)
            go_wp2
            go_ret
            exact ⟨by rw [HF.out]; rfl, belowN (HBW.out _ HB2.out) _⟩
          · have HF := Lib.hid (show trB o g 0 = false by unfold trB; rw [HN.out, decide_eq_false hn]; simp)
            have d1 : decide ((1 : Int) < (cn : Int)) = false := decide_eq_false (by omega)
            go_wp2_with (go_at_call 17; (with_reducible refine HCN.out.mono ?_); rintro e w' ⟨rfl, rfl⟩)
            go_quiet (first | fail)
            go_wp2
            go_roundw
            case rel => exact ⟨0 + 1, by omega, (by first | rfl | (simp [ivl]; done) | go_num), belowN HB2.out _, all_stepF HJ.out HF.out⟩
            case measure => (first | (simp [intOf, ivl]; done) | (simp [intOf, ivl]; omega))
    | succ m =>
      have hiv : ivl (m + 1) = (m : Int) := rfl
      rw [hiv]
      have hmm : m < g.length := by omega
      have hge0 : ((m : Int) < g.length) := by omega
      obtain ⟨bg, og, rfl, _, hcg⟩ := (HG.out _ (HBW.out _ HB.out)).nums.at_ hmm
      go_wp2
      generalize hW2 : wo.alloc (.cells #[.int .i64 (ix g m)] 3) = W2
      have HB2 := Lib.hid (show Below (w.heap.size + 1) (w.alloc (.cells #[.slice a1 o.pre.length c1, .slice a2 o.add.length c2, .slice a3 o.del.length c3, .int .i64 o.cost] 55)) W2 by rw [← hW2]; exact HB.out.alloc (by have := HB.out.size; simp at this; omega) _)
      have HSS := Lib.hid (fun y : Int => has_one y (ix g m) wo W2 (by rw [← hW2]; exact Below.refl _ _))
      clear hW2
      have hgg := HG.out _ (HBW.out _ HB2.out)
      have hvv := HV.out _ (HBW.out _ HB2.out)
      have HGG := Lib.hid (fun y : Int => has_any (some ⟨bg, og, none⟩) c g y W2 hgg.nums hgg.len)
      have HCN := Lib.hid (countIn_any a2 (some ⟨bg, og, none⟩) c2 c o.add g W2 hvv.add.nums hgg.nums (by omega) hgg.len)
      obtain ⟨x0, x1, x2⟩ := HX.out _ HB2.out
      clear hgg
      have HPR := Lib.hid hvv.pre
      go_loop [7, 8] (fun cv kv => ∃ k : Nat, k ≤ o.pre.length ∧ kv = .int .i64 k ∧ cv = .bool (trC o g [ix g m] k)) (fun _ kv => o.pre.length - (intOf kv).toNat)
      case atStart => exact ⟨0, by omega, rfl, rfl⟩
      case round =>
        obtain ⟨k, hk, rfl, rfl⟩ := hrel
        by_cases hkl : k < o.pre.length
        · obtain ⟨b, p, rfl, _, hcp⟩ := HPR.out.nums.at_ hkl
          have HT := Lib.hid (trC_succ o g [ix g m] k)
          have HG1 := HGG.out (ix o.pre k)
          have HS1 := HSS.out (ix o.pre k)
          cases h1 : hasB g (ix o.pre k)
          · rw [h1] at HG1
            go_wp2_with (go_at_call 19; (with_reducible refine HG1.mono ?_); rintro e w' ⟨rfl, rfl⟩)
            go_round
            case rel => exact ⟨k + 1, by omega, by go_num, by rw [HT.out, h1]; simp⟩
            case measure => simp [intOf]; omega
          · rw [h1] at HG1
            cases h2 : hasB [ix g m] (ix o.pre k)
            · rw [h2] at HS1
              go_wp2_with (first | (go_at_call 19; (with_reducible refine HG1.mono ?_); rintro e w' ⟨rfl, rfl⟩) | (go_at_call 19; (with_reducible refine HS1.mono ?_); rintro e w' ⟨rfl, rfl⟩))
              go_round
              case rel => exact ⟨k + 1, by omega, by go_num, by rw [HT.out, h1, h2]; simp⟩
              case measure => simp [intOf]; omega
            · rw [h2] at HS1
              go_wp2_with (first | (go_at_call 19; (with_reducible refine HG1.mono ?_); rintro e w' ⟨rfl, rfl⟩) | (go_at_call 19; (with_reducible refine HS1.mono ?_); rintro e w' ⟨rfl, rfl⟩))
              go_round
              case rel => exact ⟨k + 1, by omega, by go_num, by rw [HT.out, h1, h2]; simp⟩
              case measure => simp [intOf]; omega
        have hke : k = o.pre.length := by omega
        have hge : ¬ ((k : Int) < o.pre.length) := by omega
        have hcv : trC o g [ix g m] k = trC o g [ix g m] o.pre.length := by rw [hke]
        rw [hcv]
        clear hke hcv
        have hmm : m < g.length := by omega
        have HA1 := Lib.hid (fun n : Nat => has_any a2 c2 o.add (ix g m) (W2.drewN n) (hvv.add.to (belowN (Below.refl W2.heap.size W2) n) (belowN (Below.refl W2.heap.size W2) n).size).nums hvv.add.len)
        have HD1 := Lib.hid (fun n : Nat => has_any a3 c3 o.del (ix g m) (W2.drewN n) (hvv.del.to (belowN (Below.refl W2.heap.size W2) n) (belowN (Below.refl W2.heap.size W2) n).size).nums hvv.del.len)
        have hgg := HG.out _ (HBW.out _ HB2.out)
        obtain ⟨bg', og', hAg, _, hcg⟩ := hgg.nums.at_ hmm
        clear hgg hvv
        cases hAg
        cases h1 : hasB o.add (ix g m)
        · cases h2 : hasB o.del (ix g m)
          · have hx : trX o g (m + 1) = true := by simp [trX, h1, h2]
            rw [h1] at HA1
            rw [h2] at HD1
            have HN := Lib.hid (show trN o g (m + 1) = cntB o.add g + 1 by unfold trN; rw [if_pos hx])
            generalize cntB o.add g = cn at *
            cases hc : trC o g [ix g m] o.pre.length
            · have HF := Lib.hid (show trB o g (m + 1) = false by unfold trB; rw [show trS g (m + 1) = [ix g m] from rfl, hc]; rfl)
              go_wp2_with (go_at_call 17; (with_reducible refine HCN.out.mono ?_); rintro e w' ⟨rfl, rfl⟩)
              go_quiet (first | (go_at_call 19; (with_reducible refine quiet_same (HA1.out _))) | (go_at_call 19; (with_reducible refine quiet_same (HD1.out _))))
              go_wp2
              go_roundw
              case rel => exact ⟨(m + 1) + 1, by omega, (by first | rfl | (simp [ivl]; done) | go_num), belowN HB2.out _, all_stepF HJ.out HF.out⟩
              case measure => (first | (simp [intOf, ivl]; done) | (simp [intOf, ivl]; omega))
            · by_cases hn : 1 < cn + 1
              · have HF := Lib.hid (show prB o g = false by
                  unfold prB
                  rw [Bool.not_eq_false', List.any_eq_true]
                  exact ⟨(m + 1), (by first | (simp; done) | (simp; omega)), by unfold trB; rw [show trS g (m + 1) = [ix g m] from rfl, hc, HN.out, decide_eq_true hn]; rfl⟩)
                have d1 : decide ((1 : Int) < (cn : Int) + 1) = true := decide_eq_true (by omega)
                go_wp2_with (go_at_call 17; (with_reducible refine HCN.out.mono ?_); rintro e w' ⟨rfl, rfl⟩)
                go_quiet (first | (go_at_call 19; (with_reducible refine quiet_same (HA1.out _))) | (go_at_call 19; (with_reducible refine quiet_same (HD1.out _))))
                go_wp2
                go_ret
                exact ⟨by rw [HF.out]; rfl, belowN (HBW.out _ HB2.out) _⟩
              · have HF := Lib.hid (show trB o g (m + 1) = false by unfold trB; rw [HN.out, decide_eq_false hn]; simp)
                have d1 : decide ((1 : Int) < (cn : Int) + 1) = false := decide_eq_false (by omega)
                go_wp2_with (go_at_call 17; (with_reducible refine HCN.out.mono ?_); rintro e w' ⟨rfl, rfl⟩)
                go_quiet (first | (go_at_call 19; (with_reducible refine quiet_same (HA1.out _))) | (go_at_call 19; (with_reducible refine quiet_same (HD1.out _))))
                go_wp2
                go_roundw
                case rel => exact ⟨(m + 1) + 1, by omega, (by first | rfl | (simp [ivl]; done) | go_num), belowN HB2.out _, all_stepF HJ.out HF.out⟩
                case measure => (first | (simp [intOf, ivl]; done) | (simp [intOf, ivl]; omega))
          · have hx : trX o g (m + 1) = false := by simp [trX, h1, h2]
            rw [h1] at HA1
            rw [h2] at HD1
            have HN := Lib.hid (show trN o g (m + 1) = cntB o.add g by unfold trN; rw [if_neg (by simp [hx])]; rfl)
            generalize cntB o.add g = cn at *
            cases hc : trC o g [ix g m] o.pre.length
            · have HF := Lib.hid (show trB o g (m + 1) = false by unfold trB; rw [show trS g (m + 1) = [ix g m] from rfl, hc]; rfl)
              go_wp2_with (go_at_call 17; (with_reducible refine HCN.out.mono ?_); rintro e w' ⟨rfl, rfl⟩)
              go_quiet (first | (go_at_call 19; (with_reducible refine quiet_same (HA1.out _))) | (go_at_call 19; (with_reducible refine quiet_same (HD1.out _))))
              go_wp2
              go_roundw
              case rel => exact ⟨(m + 1) + 1, by omega, (by first | rfl | (simp [ivl]; done) | go_num), belowN HB2.out _, all_stepF HJ.out HF.out⟩
              case measure => (first | (simp [intOf, ivl]; done) | (simp [intOf, ivl]; omega))
            · by_cases hn : 1 < cn
              · have HF := Lib.hid (show prB o g = false by
                  unfold prB
                  rw [Bool.not_eq_false', List.any_eq_true]
                  exact ⟨(m + 1), (by first | (simp; done) | (simp; omega)), by unfold trB; rw [show trS g (m + 1) = [ix g m] from rfl, hc, HN.out, decide_eq_true hn]; rfl⟩)
                have d1 : decide ((1 : Int) < (cn : Int)) = true := decide_eq_true (by omega)
                go_wp2_with (go_at_call 17; (with_reducible refine HCN.out.mono ?_); rintro e w' ⟨rfl, rfl⟩)
                go_quiet (first | (go_at_call 19; (with_reducible refine quiet_same (HA1.out _))) | (go_at_call 19; (with_reducible refine quiet_same (HD1.out _))))
                go_wp2
                go_ret
                exact ⟨by rw [HF.out]; rfl, belowN (HBW.out _ HB2.out) _⟩
              · have HF := Lib.hid (show trB o g (m + 1) = false by unfold trB; rw [HN.out, decide_eq_false hn]; simp)
                have d1 : decide ((1 : Int) < (cn : Int)) = false := decide_eq_false (by omega)
                go_wp2_with (go_at_call 17; (with_reducible refine HCN.out.mono ?_); rintro e w' ⟨rfl, rfl⟩)
                go_quiet (first | (go_at_call 19; (with_reducible refine quiet_same (HA1.out _))) | (go_at_call 19; (with_reducible refine quiet_same (HD1.out _))))
                go_wp2
                go_roundw
                case rel => exact ⟨(m + 1) + 1, by omega, (by first | rfl | (simp [ivl]; done) | go_num), belowN HB2.out _, all_stepF HJ.out HF.out⟩
                case measure => (first | (simp [intOf, ivl]; done) | (simp [intOf, ivl]; omega))
        · have hx : trX o g (m + 1) = false := by simp [trX, h1]
          rw [h1] at HA1
          have HN := Lib.hid (show trN o g (m + 1) = cntB o.add g by unfold trN; rw [if_neg (by simp [hx])]; rfl)
          generalize cntB o.add g = cn at *
          cases hc : trC o g [ix g m] o.pre.length
          · have HF := Lib.hid (show trB o g (m + 1) = false by unfold trB; rw [show trS g (m + 1) = [ix g m] from rfl, hc]; rfl)
            go_wp2_with (go_at_call 17; (with_reducible refine HCN.out.mono ?_); rintro e w' ⟨rfl, rfl⟩)
            go_quiet (first | (go_at_call 19; (with_reducible refine quiet_same (HA1.out _))) | (go_at_call 19; (with_reducible refine quiet_same (HD1.out _))))
            go_wp2
            go_roundw
            case rel => exact ⟨(m + 1) + 1, by omega, (by first | rfl | (simp [ivl]; done) | go_num), belowN HB2.out _, all_stepF HJ.out HF.out⟩
            case measure => (first | (simp [intOf, ivl]; done) | (simp [intOf, ivl]; omega))
          · by_cases hn : 1 < cn
            · have HF := Lib.hid (show prB o g = false by
                unfold prB
                rw [Bool.not_eq_false', List.any_eq_true]
                exact ⟨(m + 1), (by first | (simp; done) | (simp; omega)), by unfold trB; rw [show trS g (m + 1) = [ix g m] from rfl, hc, HN.out, decide_eq_true hn]; rfl⟩)
              have d1 : decide ((1 : Int) < (cn : Int)) = true := decide_eq_true (by omega)
              go_wp2_with (go_at_call 17; (with_reducible refine HCN.out.mono ?_); rintro e w' ⟨rfl, rfl⟩)
              go_quiet (first | (go_at_call 19; (with_reducible refine quiet_same (HA1.out _))) | (go_at_call 19; (with_reducible refine quiet_same (HD1.out _))))
              go_wp2
              go_ret
              exact ⟨by rw [HF.out]; rfl, belowN (HBW.out _ HB2.out) _⟩
            · have HF := Lib.hid (show trB o g (m + 1) = false by unfold trB; rw [HN.out, decide_eq_false hn]; simp)
              have d1 : decide ((1 : Int) < (cn : Int)) = false := decide_eq_false (by omega)
              go_wp2_with (go_at_call 17; (with_reducible refine HCN.out.mono ?_); rintro e w' ⟨rfl, rfl⟩)
              go_quiet (first | (go_at_call 19; (with_reducible refine quiet_same (HA1.out _))) | (go_at_call 19; (with_reducible refine quiet_same (HD1.out _))))
              go_wp2
              go_roundw
              case rel => exact ⟨(m + 1) + 1, by omega, (by first | rfl | (simp [ivl]; done) | go_num), belowN HB2.out _, all_stepF HJ.out HF.out⟩
              case measure => (first | (simp [intOf, ivl]; done) | (simp [intOf, ivl]; omega))
end Go.Proofs.YtenmegkokclolaaDoor

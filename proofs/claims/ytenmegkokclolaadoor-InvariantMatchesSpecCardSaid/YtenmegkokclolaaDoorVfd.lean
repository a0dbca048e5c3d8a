/- Vlg, Vlw, Vcm, Vfd in one text. -/
import Derived.Test.YtenmegkokclolaaDoorVip
import Derived.Test.YtenmegkokclolaaDoorKpl
import Derived.Test.YtenmegkokclolaaDoorKlf

/- Package invariant: largest. -/
section
namespace Go.Proofs.YtenmegkokclolaaDoor
open Go.RowKit
set_option linter.unusedSimpArgs false
set_option linter.unusedVariables false
set_option maxRecDepth 100000

/-- The slice at a holds the masks of the lists ls, below block B. -/
def Msk (w : World) (B : Nat) (a : Option Addr) (ls : List (List Int)) : Prop :=
  0 < ls.length → ∃ b o, a = some ⟨b, o, none⟩ ∧ b < B ∧ ∀ k, k < ls.length → w.cell? ⟨b, o + k, none⟩ = some (.int .u64 (mask (rw_ ls k)))
def mkv (ls : List (List Int)) : List Value := ls.map (fun g => Value.int .u64 (mask g))
theorem mkv_len (ls : List (List Int)) : (mkv ls).length = ls.length := by simp [mkv]
theorem msk_own {W : World} {base : Nat} {v : Value} {ls : List (List Int)} (h : W.ownsRow base 58 1 v ls.length (mkv ls)) : ∃ a c, v = .slice a ls.length c ∧ Msk W W.heap.size a ls ∧ ls.length ≤ c ∧ c ≤ maxLen := by
  rcases h.2 with ⟨rfl, h0⟩ | ⟨g, cap, cur, rfl, hg, hh, hn, hcap, hcs, hx⟩
  · exact ⟨none, 0, by rw [h0], fun h => by omega, by omega, by simp [maxLen]⟩
  · refine ⟨_, cap, rfl, fun h0 => ⟨g, 0, rfl, (Array.getElem?_eq_some_iff.1 hh).1, fun k hk => ?_⟩, hn, hcap⟩
    have := h.cells (g := g) rfl k (.int .u64 (mask (rw_ ls k))) (by simp [mkv, rw_, List.getD, List.getElem?_map, List.getElem?_eq_getElem hk])
    simpa [Addr.add_lit] using this

set_option maxHeartbeats 400000 in
theorem lgCl_any (l g : List Int) (gb : Nat) (w : World) (hl : IsS l 24) (hg : IsS g 24) (hgc : w.cell? ⟨gb, 0, none⟩ = some (.int .u64 (mask g))) :
    Calls Tryd.prog 48 #[.int .u64 (mask l), .pointer (some ⟨gb, 0, none⟩)] w fun e w' => e = .returned (.bool (subB g l)) ∧ w = w' := by
  have HC := contains_any l g w hl hg
  clear hl hg
  go_enter Tryd.func48, Tryd.ntmps48
  go_wp2_with (go_at_call 49; (with_reducible refine HC.mono ?_); rintro e w2 ⟨rfl, rfl⟩)
  go_ret
  exact ⟨rfl, rfl⟩
set_option maxHeartbeats 1000000 in
theorem indexS_any (A : Option Addr) (C : Nat) (ls : List (List Int)) (g : List Int) (hl : ∀ k, k < ls.length → IsS (rw_ ls k) 24) (hg : IsS g 24) (gb : Nat) (w : World) (h1 : Msk w w.heap.size A ls) (hln : ls.length ≤ maxLen)
    (hgc : w.cell? ⟨gb, 0, none⟩ = some (.int .u64 (mask g))) :
    Calls Tryd.prog 65 #[.slice A ls.length C, .func (.func 48) #[] #[.pointer (some ⟨gb, 0, none⟩)]] w fun e w' => e = .returned (.int .i64 (idxB (fun j => subB g (rw_ ls j)) ls.length)) ∧ w = w' := by
  unfold maxLen at hln
  have HL := Lib.hid hl
  have HS := Lib.hid hg
  have H1 := Lib.hid h1
  clear hl hg h1
  go_enter Tryd.func65, Tryd.ntmps65
  go_wp2
  go_loop [8] (fun i => ∃ k : Nat, k ≤ ls.length ∧ i = .int .i64 k ∧ ∀ j, j < k → subB g (rw_ ls j) = false) (fun i => ls.length - (intOf i).toNat)
  case atStart => exact ⟨0, by omega, rfl, by omega⟩
  case round =>
    obtain ⟨k, hk, rfl, hj⟩ := hrel
    have HJ := Lib.hid hj
    clear hj
    by_cases hlt : k < ls.length
    · obtain ⟨b, o, hA, hbl, hq⟩ := H1.out (by omega)
      subst hA
      have hc := hq k hlt
      clear hq
      have hE := lgCl_any (rw_ ls k) g gb w (HL.out k hlt) HS.out hgc
      cases hi : subB g (rw_ ls k)
      · rw [hi] at hE
        have HE := Lib.hid hE
        have HI := Lib.hid hi
        clear hE
        go_wp2_with (go_at_call 48; (with_reducible refine HE.out.mono ?_); rintro e w2 ⟨rfl, rfl⟩)
        go_round
        case rel => exact ⟨k + 1, by omega, by go_num, all_stepF HJ.out HI.out⟩
        case measure => simp [intOf]; omega
      · rw [hi] at hE
        have HE := Lib.hid hE
        have HI := Lib.hid hi
        clear hE
        go_wp2_with (go_at_call 48; (with_reducible refine HE.out.mono ?_); rintro e w2 ⟨rfl, rfl⟩)
        go_ret
        exact ⟨ret_int2 (idxB_hit hlt HI.out HJ.out).symm, rfl⟩
    · have hge : ¬ ((k : Int) < ls.length) := by omega
      go_wp2
      go_ret
      exact ⟨ret_int2 (idxB_miss (fun j h => HJ.out j (by omega))).symm, rfl⟩
def partB (ls : List (List Int)) (g : List Int) : Bool := (List.range ls.length).any (fun j => subB g (rw_ ls j))
set_option maxHeartbeats 400000 in
theorem containsS_any (A : Option Addr) (C : Nat) (ls : List (List Int)) (g : List Int) (hl : ∀ k, k < ls.length → IsS (rw_ ls k) 24) (hg : IsS g 24) (gb : Nat) (w : World) (h1 : Msk w w.heap.size A ls) (hln : ls.length ≤ maxLen)
    (hgc : w.cell? ⟨gb, 0, none⟩ = some (.int .u64 (mask g))) :
    Calls Tryd.prog 47 #[.slice A ls.length C, .func (.func 48) #[] #[.pointer (some ⟨gb, 0, none⟩)]] w fun e w' => e = .returned (.bool (partB ls g)) ∧ w = w' := by
  have HR := indexS_any A C ls g hl hg gb w h1 hln hgc
  have hI := idxB_has (fun j => subB g (rw_ ls j)) ls.length
  clear hl hg h1
  go_enter Tryd.func47, Tryd.ntmps47
  go_wp2_with (go_at_call 65; refine HR.mono ?_; rintro e w' ⟨rfl, rfl⟩)
  go_ret
  exact ⟨rfl, rfl⟩

/-- The set of round i, and what is found in the rounds before i. -/
def grL (n i : Nat) : List Int := facs n (2 ^ n - 1 - i).testBit
def lgB (x : Tsk) (ls : List (List Int)) (g : List Int) : Bool := decide (1 < g.length) && !partB ls g && indB x g
def lgs (x : Tsk) (n : Nat) : Nat → List (List Int)
  | 0 => []
  | i + 1 => if lgB x (lgs x n i) (grL n i) then lgs x n i ++ [grL n i] else lgs x n i
theorem grL_isS (n i : Nat) : IsS (grL n i) n := facs_isS _ _
theorem mask_facs {n m : Nat} (hm : m < 2 ^ n) : mask (facs n m.testBit) = m := by
  apply Nat.eq_of_testBit_eq
  intro p
  rw [mask_bit (fun x hx => ((facs_isS n _).2 x hx).1), Bool.eq_iff_iff, decide_eq_true_eq, mem_facs]
  constructor
  · rintro ⟨_, _, h⟩; simpa using h
  · intro h
    refine ⟨by omega, ?_, by simpa using h⟩
    rcases Nat.lt_or_ge p n with h1 | h1
    · omega
    · rw [Nat.testBit_lt_two_pow (Nat.lt_of_lt_of_le hm (Nat.pow_le_pow_right (by omega) h1))] at h
      cases h
theorem mask_grL {n i : Nat} (hi : i < 2 ^ n) : mask (grL n i) = 2 ^ n - 1 - i := mask_facs (by omega)
theorem lgs_mem {x : Tsk} {n : Nat} : ∀ {k : Nat} {g : List Int}, g ∈ lgs x n k → ∃ i, i < k ∧ g = grL n i
  | 0, g, h => by simp [lgs] at h
  | k + 1, g, h => by
    unfold lgs at h
    split at h
    · rcases List.mem_append.1 h with h | h
      · obtain ⟨i, hi, e⟩ := lgs_mem h; exact ⟨i, by omega, e⟩
      · exact ⟨k, by omega, by simpa using h⟩
    · obtain ⟨i, hi, e⟩ := lgs_mem h; exact ⟨i, by omega, e⟩
theorem lgs_len {x : Tsk} {n : Nat} : ∀ k : Nat, (lgs x n k).length ≤ k
  | 0 => by simp [lgs]
  | k + 1 => by
    have := lgs_len (x := x) (n := n) k
    unfold lgs
    split
    · rw [List.length_append]; simp; omega
    · omega
theorem rw_mem {ls : List (List Int)} {k : Nat} (h : k < ls.length) : rw_ ls k ∈ ls := by
  simp [rw_, List.getD, List.getElem?_eq_getElem h]
end Go.Proofs.YtenmegkokclolaaDoor
end

/- Package invariant: largest's walk. -/
section
namespace Go.Proofs.YtenmegkokclolaaDoor
open Go.RowKit
set_option linter.unusedSimpArgs false
set_option linter.unusedVariables false
set_option maxRecDepth 100000

theorem info_set : (Tryd.prog.info? 58).map (fun i => (i.zero, i.size, i.bytes)) = some (some (.int .u64 0), 1, 8) := by kernel_rfl
theorem msk_to {w w' : World} {B : Nat} {a : Option Addr} {ls : List (List Int)} (h : Msk w B a ls) (hb : Below B w w') (hB : B ≤ w'.heap.size) : Msk w' w'.heap.size a ls := by
  intro h0
  obtain ⟨b, o, e, hlt, hc⟩ := h h0
  exact ⟨b, o, e, by omega, fun k hk => (hb.cell (p := ⟨b, o + k, none⟩) hlt).trans (hc k hk)⟩
/-- What largest hands back: a row of its own that holds the sets. -/
def LgPost (w : World) (ls : List (List Int)) (e : Ending) (w' : World) : Prop := ∃ v, e = .returned v ∧ w'.ownsRow (w.heap.size + 1) 58 1 v ls.length (mkv ls) ∧ Below w.heap.size w w'
set_option maxHeartbeats 2000000 in
theorem largest_any (x : Tsk) (n : Nat) (hn : x.n = (n : Int)) (h10 : n ≤ 10) (w : World) (hX : TskIn w w.heap.size x) (hI : IsS x.init 24) (hO : ∀ k, k < x.ops.length → OpS (opr x.ops k) 24) :
    Calls Tryd.prog 30 #[.agg #[.int .i64 x.n, .slice x.ai x.init.length x.ci, .slice x.ag x.goal.length x.cg, .slice x.ao x.ops.length x.co]] w (LgPost w (lgs x n (2 ^ n))) := by
  have HX := Lib.hid (fun (W : World) (h : Below w.heap.size w W) => hX.to h h.size)
  have HIN := Lib.hid (fun (W : World) (h : Below w.heap.size w W) (g : List Int) (hg : IsS g 24) => inductive_any x g W (hX.to h h.size) hI hO hg)
  clear hX hI hO
  obtain ⟨i0, hi, hz0, hz1, hz2⟩ := info_parts info_set
  have HT0 := tbox_new w x 25
  rw [hn] at HT0
  go_enter Tryd.func30, Tryd.ntmps30
  have hK1 : 1 ≤ 2 ^ n := Nat.one_le_two_pow
  have hK2 : 2 ^ n ≤ 1024 := Nat.le_trans (Nat.pow_le_pow_right (by omega) h10) (by decide)
  have hmg : ∀ k, k < 2 ^ n → mask (grL n k) = 2 ^ n - 1 - k := fun k hk => mask_grL hk
  go_wp2
  rw [show ((2 : Int) ^ n) = ((2 ^ n : Nat) : Int) by simp]
  have HLN : ∀ k, (lgs x n k).length ≤ k := fun k => lgs_len k
  generalize 2 ^ n = K at *
  clear hn
  rw [show wrap64 (K : Int) = (K : Int) by unfold wrap64; omega, show IntKind.u64.wrap (K : Int) = (K : Int) by rw [IntKind.wrap_u64]; omega, show IntKind.u64.wrap ((K : Int) - 1) = ((K - 1 : Nat) : Int) by rw [IntKind.wrap_u64]; omega]
  go_loopw [3, 15] (fun v i wr => ∃ k : Nat, k ≤ K ∧ i = .int .i64 k ∧ TBox wr w.heap.size x ∧ Below w.heap.size w wr ∧ wr.ownsRow (w.heap.size + 1) 58 1 v (lgs x n k).length (mkv (lgs x n k))) (fun _ i _ => K - (intOf i).toNat)
  case atStart => exact ⟨0, by omega, rfl, HT0, by go_grown, World.ownsRow_nil _ _ _ _⟩
  case round =>
    obtain ⟨k, hk, rfl, hbx, hbw, hown⟩ := hrel
    obtain ⟨a, c, rfl, hmsk, hle, hmx⟩ := msk_own hown
    have HB := Lib.hid hbw
    have HBX := Lib.hid hbx
    have HOW := Lib.hid hown
    clear hbw hbx hown
    by_cases hlt : k < K
    case neg =>
      obtain rfl : k = K := by omega
      have hge : ¬ ((k : Int) < k) := by omega
      go_wp2
      go_ret
      exact ⟨_, rfl, HOW.out, HB.out⟩
    obtain ⟨_, t0, t1, t2, t3⟩ := HBX.out
    have HGM := Lib.hid (show ((K - 1 : Nat) : Int) - (k : Int) = (mask (grL n k) : Int) by rw [hmg k hlt]; omega)
    have HGS := Lib.hid (show IsS (grL n k) 24 from (grL_isS n k).mono (by omega))
    have hbA : Below wr.heap.size wr (wr.alloc (.cells #[.int .u64 (((K - 1 : Nat) : Int) - (k : Int))] 58)) := (Below.refl _ _).alloc (Nat.le_refl _) _
    have HCT := Lib.hid (containsS_any a c (lgs x n k) (grL n k) (fun j hj => by obtain ⟨i, _, e⟩ := lgs_mem (rw_mem hj); rw [e]; exact (grL_isS n i).mono (by omega)) HGS.out wr.heap.size (wr.alloc (.cells #[.int .u64 (((K - 1 : Nat) : Int) - (k : Int))] 58)) (msk_to hmsk hbA hbA.size) (by omega) (by rw [← HGM.out]; simp))
    have HLE := Lib.hid (show ∀ W, Calls Tryd.prog 43 #[.int .u64 (((K - 1 : Nat) : Int) - (k : Int))] W fun e w' => e = .returned (.int .i64 (grL n k).length) ∧ W = w' from fun W => by rw [HGM.out]; exact len_any _ W HGS.out)
    have HLL := HLN k
    have HID := Lib.hid (show ∀ W, Below w.heap.size w W → Calls Tryd.prog 26 #[.agg #[.int .i64 x.n, .slice x.ai x.init.length x.ci, .slice x.ag x.goal.length x.cg, .slice x.ao x.ops.length x.co], .int .u64 (((K - 1 : Nat) : Int) - (k : Int))] W fun e w' => e = .returned (.bool (indB x (grL n k))) ∧ Below W.heap.size W w' from fun W h => by rw [HGM.out]; exact HIN.out W h _ HGS.out)
    have HBA := Lib.hid (HB.out.alloc HB.out.size (.cells #[.int .u64 (((K - 1 : Nat) : Int) - (k : Int))] 58))
    by_cases h1 : 1 < (grL n k).length
    case neg =>
      have d1 : decide ((1 : Int) < (grL n k).length) = false := decide_eq_false (by omega)
      have HQ := Lib.hid (show lgs x n (k + 1) = lgs x n k by simp only [lgs]; rw [if_neg]; simp [lgB, h1])
      go_wp2_with (first | (go_at_call 47; (with_reducible refine HCT.out.mono ?_); rintro e w2 ⟨rfl, rfl⟩) | (go_at_call 43; (with_reducible refine (HLE.out _).mono ?_); rintro e w3 ⟨rfl, rfl⟩) | (go_at_call 26; (with_reducible refine (HID.out _ HBA.out).mono ?_); rintro e w4 ⟨rfl, hb4⟩; have hc4 := (hb4.cell (p := ⟨wr.heap.size, 0, none⟩) (by simp)).trans (cell_new wr (.int .u64 (((K - 1 : Nat) : Int) - (k : Int))) 58).1))
      go_roundw
      case rel => exact ⟨k + 1, by omega, by go_num, HBX.out.alloc _, HBA.out, by rw [HQ.out]; exact HOW.out.alloc _⟩
      case measure => simp [intOf]; omega
    have d1 : decide ((1 : Int) < (grL n k).length) = true := decide_eq_true (by omega)
    cases hp : partB (lgs x n k) (grL n k)
    case true =>
      have HQ := Lib.hid (show lgs x n (k + 1) = lgs x n k by simp only [lgs]; rw [if_neg]; simp [lgB, hp])
      have HCT := Lib.hid (show _ from hp ▸ HCT.out)
      go_wp2_with (first | (go_at_call 47; (with_reducible refine HCT.out.mono ?_); rintro e w2 ⟨rfl, rfl⟩) | (go_at_call 43; (with_reducible refine (HLE.out _).mono ?_); rintro e w3 ⟨rfl, rfl⟩) | (go_at_call 26; (with_reducible refine (HID.out _ HBA.out).mono ?_); rintro e w4 ⟨rfl, hb4⟩; have hc4 := (hb4.cell (p := ⟨wr.heap.size, 0, none⟩) (by simp)).trans (cell_new wr (.int .u64 (((K - 1 : Nat) : Int) - (k : Int))) 58).1))
      go_roundw
      case rel => exact ⟨k + 1, by omega, by go_num, HBX.out.alloc _, HBA.out, by rw [HQ.out]; exact HOW.out.alloc _⟩
      case measure => simp [intOf]; omega
    have HCT := Lib.hid (show _ from hp ▸ HCT.out)
    cases hq : indB x (grL n k)
    case false =>
      have HQ := Lib.hid (show lgs x n (k + 1) = lgs x n k by simp only [lgs]; rw [if_neg]; simp [lgB, hq])
      rw [hq] at HID
      go_wp2_with (first | (go_at_call 47; (with_reducible refine HCT.out.mono ?_); rintro e w2 ⟨rfl, rfl⟩) | (go_at_call 43; (with_reducible refine (HLE.out _).mono ?_); rintro e w3 ⟨rfl, rfl⟩) | (go_at_call 26; (with_reducible refine (HID.out _ HBA.out).mono ?_); rintro e w4 ⟨rfl, hb4⟩; have hc4 := (hb4.cell (p := ⟨wr.heap.size, 0, none⟩) (by simp)).trans (cell_new wr (.int .u64 (((K - 1 : Nat) : Int) - (k : Int))) 58).1))
      go_roundw
      case rel => exact ⟨k + 1, by omega, by go_num, (HBX.out.alloc _).to hb4 (by simp; have := HBX.out.lt; omega), HBA.out.trans (hb4.mono HBA.out.size), by rw [HQ.out]; exact own_to (HOW.out.alloc _) hb4⟩
      case measure => simp [intOf]; omega
    case true =>
      have HQ := Lib.hid (show lgs x n (k + 1) = lgs x n k ++ [grL n k] by simp only [lgs]; rw [if_pos]; simp [lgB, hp, hq, h1])
      rw [hq] at HID
      go_wp2_with (first | (go_at_call 47; (with_reducible refine HCT.out.mono ?_); rintro e w2 ⟨rfl, rfl⟩) | (go_at_call 43; (with_reducible refine (HLE.out _).mono ?_); rintro e w3 ⟨rfl, rfl⟩) | (go_at_call 26; (with_reducible refine (HID.out _ HBA.out).mono ?_); rintro e w4 ⟨rfl, hb4⟩; have hc4 := (hb4.cell (p := ⟨wr.heap.size, 0, none⟩) (by simp)).trans (cell_new wr (.int .u64 (((K - 1 : Nat) : Int) - (k : Int))) 58).1) | (at_builtin; refine wpList_append_own _ rfl _ _ 62 rfl (w.heap.size + 1) 58 i0 (.int .u64 0) 1 8 Tryd.underlying62 hi hz0 hz1 hz2 rfl (by decide) _ _ _ rfl ((own_to (HOW.out.alloc _) hb4).alloc _) ⟨w4.heap.size, 0, none⟩ 1 1 [.int .u64 (((K - 1 : Nat) : Int) - (k : Int))] rfl rfl ?c1 ?c2 ?c3 ?c4 ?c5 ?_))
      case c1 => exact cell_one_new _ _ _
      case c2 => simp [Value.oneCell']
      case c3 => unfold maxLen; omega
      case c4 => omega
      case c5 => (have h4 := hb4.size; have h5 := HBX.out.lt; simp at h4 ⊢; omega)
      intro v' w6 hown6 hgrow _
      have HG := Lib.hid hgrow
      clear hgrow
      have hb6 : Below (w.heap.size + 1) w4 w6 := Below.grown ((Below.refl _ _).alloc (by have := (HBA.out.trans (hb4.mono HBA.out.size)).size; have := HBX.out.lt; have := hb4.size; simp at this; omega) _) HG.out (by have := hb4.size; have := HBX.out.lt; simp at *; omega) (fun q hq => (HOW.out.lt q hq).1)
      go_wp2
      go_roundw
      case rel => exact ⟨k + 1, by omega, by go_num, ((HBX.out.alloc _).to hb4 (by simp; have := HBX.out.lt; omega)).to hb6 (by omega), (HBA.out.trans (hb4.mono HBA.out.size)).trans (hb6.mono (by omega)), by rw [HQ.out]; simpa [mkv, HGM.out] using hown6⟩
      case measure => simp [intOf]; omega
end Go.Proofs.YtenmegkokclolaaDoor
end

/- slices.Compare over lists of int. -/
section
namespace Go.Proofs.YtenmegkokclolaaDoor
open Go.RowKit
set_option linter.unusedSimpArgs false
set_option linter.unusedVariables false
set_option maxRecDepth 100000

def cmpI (x y : Int) : Int := if x < y then -1 else if y < x then 1 else 0
def cmpL : List Int → List Int → Int
  | [], [] => 0
  | [], _ :: _ => -1
  | _ :: _, [] => 1
  | x :: xs, y :: ys => if x < y then -1 else if y < x then 1 else cmpL xs ys
theorem ix_drop {l : List Int} {k : Nat} (h : k < l.length) : l.drop k = ix l k :: l.drop (k + 1) := by
  rw [List.drop_eq_getElem_cons h]
  simp [ix, List.getD, List.getElem?_eq_getElem h]
theorem cmpL_step {a b : List Int} {k : Nat} (ha : k < a.length) (hb : k < b.length) (h : cmpL a b = cmpL (a.drop k) (b.drop k)) (he : cmpI (ix a k) (ix b k) = 0) : cmpL a b = cmpL (a.drop (k + 1)) (b.drop (k + 1)) := by
  rw [h, ix_drop ha, ix_drop hb]
  unfold cmpI at he
  split at he
  · cases he
  · rename_i h1
    split at he
    · cases he
    · rename_i h2
      rw [cmpL, if_neg h1, if_neg h2]
theorem cmpL_here {a b : List Int} {k : Nat} (ha : k < a.length) (hb : k < b.length) (h : cmpL a b = cmpL (a.drop k) (b.drop k)) (he : cmpI (ix a k) (ix b k) ≠ 0) : cmpL a b = cmpI (ix a k) (ix b k) := by
  rw [h, ix_drop ha, ix_drop hb]
  unfold cmpI at he ⊢
  rw [cmpL]
  split
  · rfl
  · rename_i h1
    split
    · rfl
    · rename_i h2
      rw [if_neg h1, if_neg h2] at he
      exact absurd rfl he
theorem cmpL_long {a b : List Int} {k : Nat} (ha : k < a.length) (hb : b.length ≤ k) (h : cmpL a b = cmpL (a.drop k) (b.drop k)) : cmpL a b = 1 := by
  rw [h, ix_drop ha, List.drop_eq_nil_of_le hb]
  rfl
theorem cmpL_short {a b : List Int} (hb : a.length < b.length) (h : cmpL a b = cmpL (a.drop a.length) (b.drop a.length)) : cmpL a b = -1 := by
  rw [h, ix_drop hb, List.drop_eq_nil_of_le (Nat.le_refl _)]
  rfl
theorem cmpL_same {a b : List Int} (hb : b.length = a.length) (h : cmpL a b = cmpL (a.drop a.length) (b.drop a.length)) : cmpL a b = 0 := by
  rw [h, List.drop_eq_nil_of_le (Nat.le_refl _), List.drop_eq_nil_of_le (by omega)]
  rfl

theorem isNaN_any (x : Int) (w : World) : Calls Tryd.prog 76 #[.int .i64 x] w fun e w' => e = .returned (.bool false) ∧ w = w' := by
  go_enter Tryd.func76, Tryd.ntmps76
  go_wp2
  go_ret
  exact ⟨by simp, rfl⟩
set_option maxHeartbeats 1000000 in
theorem compareI_any (x y : Int) (w : World) : Calls Tryd.prog 53 #[.int .i64 x, .int .i64 y] w fun e w' => e = .returned (.int .i64 (cmpI x y)) ∧ w = w' := by
  have HX := isNaN_any x w
  have HY := isNaN_any y w
  by_cases h1 : x < y
  · have H := Lib.hid (show cmpI x y = -1 by simp [cmpI, h1])
    have d1 : decide (x < y) = true := decide_eq_true h1
    go_enter Tryd.func53, Tryd.ntmps53
    go_wp2_with (first | (go_at_call 76; (with_reducible refine HX.mono ?_); rintro e w' ⟨rfl, rfl⟩) | (go_at_call 76; (with_reducible refine HY.mono ?_); rintro e w' ⟨rfl, rfl⟩))
    go_ret
    exact ⟨by rw [H.out]; rfl, rfl⟩
  have d1 : decide (x < y) = false := decide_eq_false h1
  by_cases h2 : y < x
  · have H := Lib.hid (show cmpI x y = 1 by simp [cmpI, h1, h2])
    have d2 : decide (y < x) = true := decide_eq_true h2
    go_enter Tryd.func53, Tryd.ntmps53
    go_wp2_with (first | (go_at_call 76; (with_reducible refine HX.mono ?_); rintro e w' ⟨rfl, rfl⟩) | (go_at_call 76; (with_reducible refine HY.mono ?_); rintro e w' ⟨rfl, rfl⟩))
    go_ret
    exact ⟨by rw [H.out]; rfl, rfl⟩
  · have H := Lib.hid (show cmpI x y = 0 by simp [cmpI, h1, h2])
    have d2 : decide (y < x) = false := decide_eq_false h2
    go_enter Tryd.func53, Tryd.ntmps53
    go_wp2_with (first | (go_at_call 76; (with_reducible refine HX.mono ?_); rintro e w' ⟨rfl, rfl⟩) | (go_at_call 76; (with_reducible refine HY.mono ?_); rintro e w' ⟨rfl, rfl⟩))
    go_ret
    exact ⟨by rw [H.out]; rfl, rfl⟩

set_option maxHeartbeats 2000000 in
theorem compare_any (A B : Option Addr) (c d : Nat) (a b : List Int) (w : World) (hA : Nums w w.heap.size A a) (hB : Nums w w.heap.size B b) (hla : a.length ≤ maxLen) (hlb : b.length ≤ maxLen) :
    Calls Tryd.prog 33 #[.slice A a.length c, .slice B b.length d] w fun e w' => e = .returned (.int .i64 (cmpL a b)) ∧ w = w' := by
  unfold maxLen at hla hlb
  have HA := Lib.hid hA
  have HB := Lib.hid hB
  clear hA hB
  go_enter Tryd.func33, Tryd.ntmps33
  go_wp2
  go_loop [11] (fun i => ∃ k : Nat, k ≤ a.length ∧ k ≤ b.length ∧ i = .int .i64 k ∧ cmpL a b = cmpL (a.drop k) (b.drop k)) (fun i => a.length - (intOf i).toNat)
  case atStart => exact ⟨0, by omega, by omega, rfl, rfl⟩
  case round =>
    obtain ⟨k, hk, hkb, rfl, hj⟩ := hrel
    have HJ := Lib.hid hj
    clear hj
    by_cases hlt : k < a.length
    case neg =>
      obtain rfl : k = a.length := by omega
      have hge : ¬ ((a.length : Int) < a.length) := by omega
      by_cases hs : a.length < b.length
      · have H := Lib.hid (cmpL_short hs HJ.out)
        go_wp2
        go_ret
        exact ⟨by rw [H.out]; rfl, rfl⟩
      · have H := Lib.hid (cmpL_same (by omega) HJ.out)
        go_wp2
        go_ret
        exact ⟨by rw [H.out]; rfl, rfl⟩
    obtain ⟨b1, o1, rfl, _, hc1⟩ := HA.out.at_ hlt
    by_cases hl2 : k < b.length
    case neg =>
      have H := Lib.hid (cmpL_long hlt (by omega) HJ.out)
      go_wp2
      go_ret
      exact ⟨by rw [H.out]; rfl, rfl⟩
    obtain ⟨b2, o2, rfl, _, hc2⟩ := HB.out.at_ hl2
    have HC := Lib.hid (compareI_any (ix a k) (ix b k) w)
    by_cases he : cmpI (ix a k) (ix b k) = 0
    · have H := Lib.hid (cmpL_step hlt hl2 HJ.out he)
      rw [he] at HC
      clear he
      go_wp2_with (go_at_call 53; (with_reducible refine HC.out.mono ?_); rintro e w' ⟨rfl, rfl⟩)
      go_round
      case rel => exact ⟨k + 1, by omega, by omega, by go_num, H.out⟩
      case measure => simp [intOf]; omega
    · have H := Lib.hid (cmpL_here hlt hl2 HJ.out he)
      have hne : (cmpI (ix a k) (ix b k) != 0) = true := by simpa using he
      have hne2 : (cmpI (ix a k) (ix b k) == 0) = false := by simpa using he
      clear he
      generalize cmpI (ix a k) (ix b k) = q at *
      go_wp2_with (go_at_call 53; (with_reducible refine HC.out.mono ?_); rintro e w' ⟨rfl, rfl⟩)
      go_ret
      exact ⟨by rw [H.out]; rfl, rfl⟩

/-- The order of lists is total and strict. -/
theorem cmpL_refl : ∀ a : List Int, cmpL a a = 0
  | [] => rfl
  | x :: xs => by unfold cmpL; rw [if_neg (by omega), if_neg (by omega)]; exact cmpL_refl xs
theorem cmpL_zero : ∀ {a b : List Int}, cmpL a b = 0 → a = b
  | [], [], _ => rfl
  | [], _ :: _, h => by cases h
  | _ :: _, [], h => by cases h
  | x :: xs, y :: ys, h => by
    unfold cmpL at h
    split at h
    · cases h
    · split at h
      · cases h
      · have e : x = y := by omega
        rw [e, cmpL_zero h]
theorem cmpL_swap : ∀ a b : List Int, cmpL a b = - cmpL b a
  | [], [] => rfl
  | [], _ :: _ => rfl
  | _ :: _, [] => rfl
  | x :: xs, y :: ys => by
    unfold cmpL
    by_cases h1 : x < y
    · rw [if_pos h1, if_neg (by omega), if_pos h1]
    · by_cases h2 : y < x
      · rw [if_neg h1, if_pos h2, if_pos h2]; rfl
      · rw [if_neg h1, if_neg h2, if_neg h2, if_neg h1]; exact cmpL_swap xs ys
theorem cmpL_trans : ∀ {a b c : List Int}, cmpL a b < 0 → cmpL b c < 0 → cmpL a c < 0
  | [], [], _, h, _ => by simp [cmpL] at h
  | [], _ :: _, [], _, h => by simp [cmpL] at h
  | [], _ :: _, _ :: _, _, _ => by simp [cmpL]
  | _ :: _, [], _, h, _ => by simp [cmpL] at h
  | _ :: _, _ :: _, [], _, h => by simp [cmpL] at h
  | x :: xs, y :: ys, z :: zs, h1, h2 => by
    unfold cmpL at h1 h2 ⊢
    by_cases a1 : x < y
    · by_cases b1 : y < z
      · rw [if_pos (by omega)]; omega
      · rw [if_neg b1] at h2
        by_cases b2 : z < y
        · rw [if_pos b2] at h2; omega
        · rw [if_pos (by omega)]; omega
    · rw [if_neg a1] at h1
      by_cases a2 : y < x
      · rw [if_pos a2] at h1; omega
      · rw [if_neg a2] at h1
        by_cases b1 : y < z
        · rw [if_pos (by omega)]; omega
        · rw [if_neg b1] at h2
          by_cases b2 : z < y
          · rw [if_pos b2] at h2; omega
          · rw [if_neg b2] at h2
            rw [if_neg (by omega), if_neg (by omega)]
            exact cmpL_trans h1 h2
end Go.Proofs.YtenmegkokclolaaDoor
end

/- Package invariant: Find up to the sort. -/
section
namespace Go.Proofs.YtenmegkokclolaaDoor
open Go.RowKit
set_option linter.unusedSimpArgs false
set_option linter.unusedVariables false
set_option maxRecDepth 100000

theorem Own2.snoc0 {W w1 : World} {base : Nat} {v v' u : Value} {ls : List (List Int)} {t : List Int} {vals : List Value} {tmp : Obj} (hv : W.ownsRow base 22 1 v ls.length vals) (hl : vals.length = ls.length)
    (hk : ∀ k, k < ls.length → ∃ u, vals[k]? = some u ∧ W.ownsRow base 3 1 u (rw_ ls k).length ((rw_ ls k).map (Value.int .i64))) (hu : W.ownsRow base 3 1 u t.length (t.map (Value.int .i64)))
    (hown : w1.ownsRow base 22 1 v' (ls.length + 1) (vals ++ [u])) (hg : (W.alloc tmp).grownBy w1 v.ownBlock) : Own2 w1 base v' (ls ++ [t]) := by
  have key : ∀ {n : Nat} {q : Value} {xs : List Value}, W.ownsRow base 3 1 q n xs → w1.ownsRow base 3 1 q n xs := by
    intro n q xs hq
    exact (hq.alloc tmp).kept hg (rows_ne (by decide) (hv.alloc tmp) (hq.alloc tmp))
  refine ⟨vals ++ [u], by simpa using hown, by simp [hl], fun k hlt => ?_⟩
  simp only [List.length_append, List.length_cons, List.length_nil] at hlt
  by_cases e : k < ls.length
  · obtain ⟨q, hq, hoq⟩ := hk k e
    refine ⟨q, by rw [List.getElem?_append_left (by omega)]; exact hq, ?_⟩
    rw [rw_snoc_lt e]
    exact key hoq
  · obtain rfl : k = ls.length := by omega
    refine ⟨u, by rw [← hl]; simp, ?_⟩
    rw [rw_snoc_last]
    exact key hu
theorem Own2.mono {W : World} {base b0 : Nat} {v : Value} {ls : List (List Int)} (h : Own2 W base v ls) (hb : b0 ≤ base) : Own2 W b0 v ls := by
  obtain ⟨vals, ho, hl, hr⟩ := h
  exact ⟨vals, own_mono ho hb, hl, fun k hk => by obtain ⟨u, hu, hou⟩ := hr k hk; exact ⟨u, hu, own_mono hou hb⟩⟩

def fdF (x : Tsk) : Int × Int := if (tkF x).1 ≠ 0 then tkF x else if 10 < x.n then (10, -8) else (0, 0)
/-- All that is found, in the order of the search. -/
def fdL (x : Tsk) : List (List Int) := lgs x x.n.toNat (2 ^ x.n.toNat)
def SortedL (ls : List (List Int)) : Prop := ls.Pairwise (fun a b => ¬ cmpL b a < 0)
def FdPost (w : World) (x : Tsk) (e : Ending) (w' : World) : Prop :=
  ∃ v ls, e = .returned (.tuple #[v, faultV (fdF x)]) ∧ Fresh2 w' w.heap.size v ls ∧ Below w.heap.size w w' ∧ ((fdF x).1 = 0 → ls.Perm (fdL x) ∧ SortedL ls) ∧ ((fdF x).1 ≠ 0 → ls = [])
theorem setCell_other_block (W : World) {p : Addr} (u : Value) {b : Nat} (h : p.block ≠ b) : (W.setCell p u).heap[b]? = W.heap[b]? := by
  unfold World.setCell
  simp [Array.getElem?_modify, h]
theorem Fresh2.mono {W : World} {base b0 : Nat} {v : Value} {ls : List (List Int)} (h : Fresh2 W base v ls) (hb : b0 ≤ base) : Fresh2 W b0 v ls :=
  fun W2 hw hs => h W2 (fun b h1 h2 => hw b (by omega) h2) hs
theorem Fresh2.far {W : World} {base : Nat} {v : Value} {ls : List (List Int)} (h : Fresh2 W base v ls) {p : Addr} (hp : p.block < base) (u : Value) : Fresh2 (W.setCell p u) base v ls := by
  intro W2 hw hs
  refine h W2 (fun b h1 h2 => ?_) (by simpa using hs)
  rw [hw b h1 (by simpa using h2)]
  exact setCell_other_block W u (by omega)

/-- What the sort does to a row of lists that stand in new blocks. -/
def SortC : Prop := ∀ (W : World) (base : Nat) (v : Value) (ls : List (List Int)), Own2 W base v ls → base ≤ W.heap.size → ls.length ≤ 2000 →
  Calls Tryd.prog 32 #[v, .func (.func 33) #[] #[]] W fun e w' => e = .returned (.tuple #[]) ∧ ∃ ls', ls'.Perm ls ∧ SortedL ls' ∧ Fresh2 w' base v ls' ∧ Below base W w'

theorem take_rw {ls : List (List Int)} {k : Nat} (h : k < ls.length) : ls.take (k + 1) = ls.take k ++ [rw_ ls k] := by
  rw [List.take_add_one, List.getElem?_eq_getElem h]
  simp [rw_, List.getD, List.getElem?_eq_getElem h]
theorem Fr1.to2 {w W W' W0 : World} {x : Tsk} {u v : Int} (h : Fr1 w W x u v) (hb : Below W0.heap.size W W') (h0 : Fr1 w W0 x u v) : Fr1 w W' x u v :=
  ⟨h.below.trans (hb.mono h0.below.size), h.box.to hb h0.box.lt, h.two.to hb h0.two.lt⟩
set_option maxHeartbeats 4000000 in
theorem find_any (HSC : SortC) (x : Tsk) (w : World) (hX : TskIn w w.heap.size x) (hT : TabIn w) :
    Calls Tryd.prog 13 #[.agg #[.int .i64 x.n, .slice x.ai x.init.length x.ci, .slice x.ag x.goal.length x.cg, .slice x.ao x.ops.length x.co]] w (FdPost w x) := by
  have hB2 : Below w.heap.size w ((w.alloc (.cells #[.int .i64 x.n, .slice x.ai x.init.length x.ci, .slice x.ag x.goal.length x.cg, .slice x.ao x.ops.length x.co] 25)).alloc (.cells #[.int .i64 0, .int .i64 0] 27)) := by go_grown
  have HC := validate_any x _ (hX.to hB2 hB2.size)
  have HX := Lib.hid (fun (W : World) (h : Below w.heap.size w W) => hX.to h h.size)
  have HT := Lib.hid (fun (W : World) (h : Below w.heap.size w W) => hT.to h (Nat.le_refl _))
  have HSO := Lib.hid HSC
  clear hX hB2 hT HSC
  have hF0 := Lib.hid (fr1_new w x 25 27)
  by_cases ht : (tkF x).1 = 0
  case neg =>
    have H := Lib.hid (show fdF x = tkF x by simp [fdF, ht])
    have H0 := Lib.hid ht
    have hne : ((tkF x).1 != 0) = true := by simpa using ht
    have hne2 : ((tkF x).1 == 0) = false := by simpa using ht
    clear ht
    go_enter Tryd.func13, Tryd.ntmps13
    go_wp2_with (go_at_call 24; (with_reducible refine HC.mono ?_); rintro e w1 ⟨rfl, hbw⟩; have hF := Lib.hid (hF0.out.to hbw); obtain ⟨_, ⟨_, t0, t1, t2, t3⟩, ⟨_, k0, k1, f0, f1⟩⟩ := hF.out)
    go_region
    all_goals
      go_wp2
      have htw := hF.out.two
      have hbe := hF.out.below
      refine post_with_fault (g := w.heap.size + 1) (x := .int .i64 (tkF x).1) (y := .int .i64 (tkF x).2) Tryd.results13 rfl ?_ ?_
      · (repeat' (first | (with_reducible assumption) | (with_reducible exact two_new _ _ _ _) | (with_reducible exact (two_new _ _ _ _).pair) | (with_reducible exact Two.pair ‹_›) | (with_reducible refine Pair.set ?_ _ _) | (with_reducible refine Two.alloc ?_ _) | (with_reducible refine Pair.alloc ?_ _) | (with_reducible refine two1 ?_) | (with_reducible refine twoN ?_ _) | (with_reducible refine Pair.drew ?_) | (with_reducible refine Pair.drewN ?_ _) | (with_reducible refine Two.far ?_ ?_ _) | (with_reducible refine Pair.far ?_ ?_ _) | (simp; omega)))
      · refine ⟨_, [], by rw [H.out]; rfl, fresh2_nil _ _, ?_, fun h => absurd (by rw [H.out] at h; exact h) H0.out, fun _ => rfl⟩
        (repeat' (first | (with_reducible assumption) | (with_reducible exact Below.refl _ _) | (with_reducible refine belowN ?_ _) | (with_reducible refine Below.alloc ?_ ?_ _) | (with_reducible refine Below.drew ?_) | (with_reducible refine Below.setCell ?_ ?_ _) | go_size))
  have hv := tkF_val ht
  have hn0 : 0 ≤ x.n ∧ x.n ≤ 24 := by have := hv.eq; have := hv.le; omega
  have HV := Lib.hid hv
  rw [tkF_fst ht] at HC
  by_cases h10 : 10 < x.n
  · have H := Lib.hid (show fdF x = (10, -8) by simp [fdF, ht, h10])
    have d1 : decide (10 < x.n) = true := decide_eq_true h10
    clear ht hv hn0 h10
    go_enter Tryd.func13, Tryd.ntmps13
    go_wp2_with (go_at_call 24; (with_reducible refine HC.mono ?_); rintro e w1 ⟨rfl, hbw⟩; have hF := Lib.hid (hF0.out.to hbw); obtain ⟨_, ⟨_, t0, t1, t2, t3⟩, ⟨_, k0, k1, f0, f1⟩⟩ := hF.out)
    have htw := hF.out.two
    have hbe := hF.out.below
    refine post_with_fault (g := w.heap.size + 1) (x := .int .i64 10) (y := .int .i64 (-8)) Tryd.results13 rfl ?_ ?_
    · (repeat' (first | (with_reducible assumption) | (with_reducible exact two_new _ _ _ _) | (with_reducible exact (two_new _ _ _ _).pair) | (with_reducible exact Two.pair ‹_›) | (with_reducible refine Pair.set ?_ _ _) | (with_reducible refine Two.alloc ?_ _) | (with_reducible refine Pair.alloc ?_ _) | (with_reducible refine two1 ?_) | (with_reducible refine twoN ?_ _) | (with_reducible refine Pair.drew ?_) | (with_reducible refine Pair.drewN ?_ _) | (with_reducible refine Two.far ?_ ?_ _) | (with_reducible refine Pair.far ?_ ?_ _) | (simp; omega)))
    · refine ⟨_, [], by rw [H.out]; rfl, fresh2_nil _ _, ?_, fun h => absurd (by rw [H.out] at h; exact h) (by decide), fun _ => rfl⟩
      (repeat' (first | (with_reducible assumption) | (with_reducible exact Below.refl _ _) | (with_reducible refine belowN ?_ _) | (with_reducible refine Below.alloc ?_ ?_ _) | (with_reducible refine Below.drew ?_) | (with_reducible refine Below.setCell ?_ ?_ _) | go_size))
  have H := Lib.hid (show fdF x = (0, 0) by simp [fdF, ht, h10])
  have d1 : decide (10 < x.n) = false := decide_eq_false h10
  have HLG := Lib.hid (fun (W : World) (h : Below w.heap.size w W) => largest_any x x.n.toNat (by omega) (by omega) W (HX.out W h) (hv.init.mono (by have := hv.le; omega)) hv.ops24)
  have HLL := lgs_len (x := x) (n := x.n.toNat) (2 ^ x.n.toNat)
  have hK : 2 ^ x.n.toNat ≤ 1024 := Nat.le_trans (Nat.pow_le_pow_right (by omega) (show x.n.toNat ≤ 10 by omega)) (by decide)
  have HMS := Lib.hid (show ∀ l, l ∈ lgs x x.n.toNat (2 ^ x.n.toNat) → IsS l 24 from fun l hl => by obtain ⟨i, _, e⟩ := lgs_mem hl; rw [e]; exact (grL_isS _ i).mono (by omega))
  have HFD := Lib.hid (show fdL x = lgs x x.n.toNat (2 ^ x.n.toNat) from rfl)
  generalize lgs x x.n.toNat (2 ^ x.n.toNat) = ls at *
  clear ht hv hn0 h10
  obtain ⟨i0, hi, hz0, hz1, hz2⟩ := info_parts info_sl
  go_enter Tryd.func13, Tryd.ntmps13
  go_wp2_with (first | (go_at_call 24; (with_reducible refine HC.mono ?_); rintro e w1 ⟨rfl, hbw⟩; have hF := Lib.hid (hF0.out.to hbw); obtain ⟨_, ⟨_, t0, t1, t2, t3⟩, ⟨_, k0, k1, f0, f1⟩⟩ := hF.out) | (go_at_call 30; (with_reducible refine (HLG.out _ ?_).mono ?_); (exact (hF.out.alloc _).below); rintro e w2 ⟨v2, rfl, how2, hb2⟩; obtain ⟨a, c, rfl, hmsk, hle, hmx⟩ := msk_own how2; have HF2 := Lib.hid ((hF.out.alloc (.cells #[.int .i64 0, .int .i64 0] 27)).to hb2); have HM2 := Lib.hid hmsk; clear hmsk how2 hb2))
  go_loopw [5, 21] (fun v i wr => ∃ k : Nat, k ≤ ls.length ∧ i = .int .i64 k ∧ Below w2.heap.size w2 wr ∧ Own2 wr w2.heap.size v (ls.take k)) (fun _ i _ => ls.length - (intOf i).toNat)
  case atStart => exact ⟨0, by omega, rfl, Below.refl _ _, by simpa using Own2.nil _ _⟩
  case round =>
    obtain ⟨k, hk, rfl, hbw, hown⟩ := hrel
    have HB := Lib.hid hbw
    have HFW := Lib.hid (HF2.out.to hbw)
    clear hbw
    by_cases hlt : k < ls.length
    case neg =>
      obtain rfl : k = ls.length := by omega
      have hge : ¬ ((ls.length : Int) < ls.length) := by omega
      rw [List.take_length] at hown
      have HS := Lib.hid (HSO.out wr w2.heap.size _ ls hown HB.out.size (by omega))
      clear hown
      go_wp2_with (go_at_call 32; (with_reducible refine HS.out.mono ?_); rintro e w6 ⟨rfl, ls', hp, hs, hfr, hb6⟩; have HF6 := Lib.hid (HFW.out.to2 hb6 HF2.out); obtain ⟨_, _, ⟨_, m0, m1, h0, h1⟩⟩ := HF6.out)
      have hz := HF2.out.two.lt
      refine post_with_fault (g := w.heap.size + 1) (x := .int .i64 0) (y := .int .i64 0) Tryd.results13 rfl (HF6.out.two.set _ _) ?_
      refine ⟨_, ls', by rw [H.out]; rfl, ((hfr.far (by show w.heap.size + 1 < _; omega) _).far (by show w.heap.size + 1 < _; omega) _).mono (by omega), (HF6.out.below.setCell (by simp) _).setCell (by simp) _, fun _ => ⟨by rw [HFD.out]; exact hp, hs⟩, fun h => absurd (by rw [H.out]) h⟩
    obtain ⟨b, o, rfl, hbl, hcm⟩ := HM2.out (by omega)
    have hc := (HB.out.cell (p := ⟨b, o + k, none⟩) hbl).trans (hcm k hlt)
    clear hcm
    have HIS := Lib.hid (HMS.out _ (rw_mem hlt))
    have HLI := Lib.hid (show Calls Tryd.prog 31 #[.int .u64 (mask (rw_ ls k))] wr (ListPost wr (rw_ ls k)) from by
      have := list_any (mask (rw_ ls k)) (mask_lt64 HIS.out) wr (HT.out _ HFW.out.below)
      rwa [els_mask HIS.out] at this)
    have HO := Lib.hid hown
    clear hown
    have hll := isS_len (n := 24) HIS.out
    go_wp2_with (first | (go_at_call 31; (with_reducible refine HLI.out.mono ?_); rintro e w5 ⟨u, rfl, hou, hb5⟩; obtain ⟨ak, ck, rfl, _⟩ := (sliceOf_own hou).set; obtain ⟨vals, hov, hvl, hvk⟩ := HO.out.to hb5) | (at_builtin; refine wpList_append_own _ rfl _ _ 35 rfl w2.heap.size 22 i0 (.slice none 0 0) 1 24 Tryd.underlying35 hi hz0 hz1 hz2 rfl (by decide) _ _ _ rfl (hov.alloc _) ⟨w5.heap.size, 0, none⟩ 1 1 [.slice ak (rw_ ls k).length ck] rfl rfl ?c1 ?c2 ?c3 ?c4 ?c5 ?_))
    case c1 => exact cell_one_new _ _ _
    case c2 => simp [Value.oneCell']
    case c3 => unfold maxLen; simp; omega
    case c4 => simp; omega
    case c5 => (have h4 := hb5.size; have h5 := HB.out.size; simp at h4 h5 ⊢; omega)
    intro v' w6 hown6 hgrow _
    have HG := Lib.hid hgrow
    have hb6 : Below w2.heap.size w5 w6 := Below.grown ((Below.refl _ _).alloc (by have := HB.out.size; have := hb5.size; omega) _) hgrow (by have := HB.out.size; have := hb5.size; simp; omega) (fun q hq => (hov.lt q hq).1)
    have HO6 := Lib.hid (Own2.snoc0 (t := rw_ ls k) hov hvl hvk (own_mono hou HB.out.size) (show w6.ownsRow w2.heap.size 22 1 v' ((ls.take k).length + 1) _ from by rw [List.length_take, Nat.min_eq_left (by omega)]; exact hown6) hgrow)
    clear hgrow
    go_wp2
    go_roundw
    case rel => exact ⟨k + 1, by omega, by go_num, (HB.out.trans (hb5.mono HB.out.size)).trans hb6, by rw [take_rw hlt]; exact HO6.out⟩
    case measure => simp [intOf]; omega
end Go.Proofs.YtenmegkokclolaaDoor
end

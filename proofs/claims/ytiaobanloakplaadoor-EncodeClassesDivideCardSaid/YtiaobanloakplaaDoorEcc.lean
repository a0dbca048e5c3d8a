/- Package encode: combinations. -/
import Derived.Test.YtiaobanloakplaaDoorEcb
namespace Go.Proofs.YtiaobanloakplaaDoor
open Go.RowKit
set_option linter.unusedSimpArgs false
set_option linter.unusedVariables false
set_option maxRecDepth 100000

def flN (L : List (List Int)) (A : List Int) (i : Nat) : List (List Int) := (L.take i).flatMap (fun s => A.map (fun v => s ++ [v]))
theorem flN_step {L : List (List Int)} {A : List Int} {i : Nat} (h : i < L.length) : flN L A (i + 1) = flN L A i ++ A.map (fun v => rw_ L i ++ [v]) := by
  unfold flN
  rw [List.take_add_one, List.flatMap_append]
  congr 1
  simp [rw_, List.getD, h]
theorem flN_len (L : List (List Int)) (A : List Int) : ∀ i, i ≤ L.length → (flN L A i).length = i * A.length
  | 0, _ => by simp [flN]
  | i + 1, h => by rw [flN_step (by omega), List.length_append, List.length_map, flN_len L A i (by omega), Nat.add_mul, Nat.one_mul]
theorem flN_all (rs : List Rol) (k : Nat) : flN (cmbN rs k) (rol rs k).asm (cmbN rs k).length = cmbN rs (k + 1) := by unfold flN; rw [List.take_length]; rfl
theorem in_step {A : List Int} {p : List (List Int)} {s : List Int} {j : Nat} (h : j < A.length) : p ++ (A.take (j + 1)).map (fun v => s ++ [v]) = (p ++ (A.take j).map (fun v => s ++ [v])) ++ [s ++ [ix A j]] := by
  rw [take_succ_ix h, List.map_append, List.append_assoc]; rfl
/-- A new slice of lists comes back. -/
def LlPost (w : World) (ls : List (List Int)) (e : Ending) (w' : World) : Prop := ∃ v, e = .returned v ∧ ListsR w' w.heap.size v ls ∧ Below w.heap.size w w'
theorem lists_one (w : World) : ListsR (w.alloc (.cells #[.slice none 0 0] 22)) w.heap.size (.slice (some ⟨w.heap.size, 0, none⟩) 1 1) [[]] := by
  have h := World.ownsRow_lit (base := w.heap.size) (e := 22) (size := 1) w #[.slice none 0 0] 1 (Nat.le_refl _) (by simp [maxLen]) rfl
  refine ⟨[.slice none 0 0], by simpa using h, On.always fun W k hk => ?_⟩
  have : k = 0 := by simpa using hk
  subst this
  exact ⟨_, rfl, none, 0, rfl, ⟨nums_nil _ _ _, by simp [rw_], by simp [maxLen]⟩, fun _ => rfl⟩
set_option maxHeartbeats 4000000 in
theorem combinations_any (rs : List Rol) (a : Option Addr) (c : Nat) (w : World) (hR : SlRs rs (.slice a rs.length c) w) (h8 : rs.length ≤ 8) (hbd : ∀ k, k < rs.length → 1 ≤ (rol rs k).asm.length ∧ (rol rs k).asm.length ≤ 6) :
    Calls Tryd.prog 77 #[.slice a rs.length c] w (LlPost w (cmbN rs rs.length)) := by
  have HR := Lib.hid (fun (W : World) (h : Below w.heap.size w W) => hR.to h)
  have HBD := Lib.hid (fun k (hk : k ≤ rs.length) => (⟨(numN_bd (n := k) (fun j hj => hbd j (by omega))).1, Nat.le_trans (numN_bd (n := k) (fun j hj => hbd j (by omega))).2 (pow6_le (by omega))⟩ : 1 ≤ numN rs k ∧ numN rs k ≤ 1679616))
  have HB1 := Lib.hid hbd
  clear hR hbd
  obtain ⟨i0, hi, hz0, hz1, hz2⟩ := info_parts info_int
  obtain ⟨l0, hli, hlz0, hlz1, hlz2⟩ := info_parts info_sl
  go_enter Tryd.func77, Tryd.ntmps77
  go_wp2
  go_loopw [3, 14] (fun v i wr => ∃ k : Nat, k ≤ rs.length ∧ i = .int .i64 k ∧ ListsR wr w.heap.size v (cmbN rs k) ∧ Below w.heap.size w wr) (fun _ i _ => rs.length - (intOf i).toNat)
  case atStart => exact ⟨0, by omega, rfl, lists_one w, by go_grown⟩
  case round =>
    obtain ⟨k, hk, rfl, hls, hbw⟩ := hrel
    have HW := Lib.hid hbw
    have HL := Lib.hid hls
    clear hbw hls
    have hsz := HW.out.size
    by_cases hlt : k < rs.length
    case neg =>
      have hge : ¬ ((k : Int) < rs.length) := by omega
      have H := Lib.hid (show k = rs.length by omega)
      go_wp2
      go_ret
      exact ⟨_, rfl, by have := HL.out; rw [H.out] at this; exact this, HW.out⟩
    obtain ⟨aL, cL, e, hrn, hle, hmx⟩ := HL.out.slice
    subst e
    obtain ⟨a2, c2, e, _, _, hc⟩ := HR.out _ HW.out
    obtain ⟨b, o, va, vf, q1, q2, q3, q4, ⟨sa, sc, rfl, hsa⟩, hvf⟩ := hc k hlt
    have hvf2 := hvf
    obtain ⟨g1, g2, g3, v1, v2, rfl, _⟩ := hvf2
    injection e with e1 e2 e3
    subst e1
    subst q1
    have hbb := HB1.out k hlt
    have hnk := HBD.out k (by omega)
    have HN1 := Lib.hid (HBD.out (k + 1) (by omega))
    have HLL := Lib.hid (cmbN_len rs k)
    have HMM := Lib.hid (fun b (h : b ∈ cmbN rs k) => (cmbN_mem h).1)
    have HALL := Lib.hid (flN_all rs k)
    have hlm : (cmbN rs k).length ≤ 1679616 := by rw [cmbN_len]; omega
    have HNN := Lib.hid (show numN rs (k + 1) = numN rs k * (rol rs k).asm.length from rfl)
    clear hc e2 e3 hvf
    have hbU : Below wr.heap.size wr (wr.alloc (.cells #[.slice sa (rol rs k).asm.length sc, .func (.func 96) #[] #[.pointer (some ⟨g1, 0, none⟩), .pointer (some ⟨g2, 0, none⟩), .pointer (some ⟨g3, 0, none⟩)]] 130)) := (Below.refl _ _).alloc (Nat.le_refl _) _
    have hcU : (wr.alloc (.cells #[.slice sa (rol rs k).asm.length sc, .func (.func 96) #[] #[.pointer (some ⟨g1, 0, none⟩), .pointer (some ⟨g2, 0, none⟩), .pointer (some ⟨g3, 0, none⟩)]] 130)).cell? ⟨wr.heap.size, 0, none⟩ = some (.slice sa (rol rs k).asm.length sc) := by simp
    go_wp2
    generalize (wr.alloc (.cells #[.slice sa (rol rs k).asm.length sc, .func (.func 96) #[] #[.pointer (some ⟨g1, 0, none⟩), .pointer (some ⟨g2, 0, none⟩), .pointer (some ⟨g3, 0, none⟩)]] 130)) = U at *
    have HWU := Lib.hid (HW.out.trans (hbU.mono hsz))
    have HRN := Lib.hid (fun (W : World) (h : Below U.heap.size U W) => hrn.to (hbU.trans (h.mono hbU.size)))
    have HSA := Lib.hid (fun (W : World) (h : Below U.heap.size U W) => hsa.to (hbU.trans (h.mono hbU.size)))
    have HCU := Lib.hid (fun (W : World) (h : Below U.heap.size U W) => cell_to hcU h)
    clear hbU hcU hrn hsa HL HW hsz q2 q3 q4 hmx hle
    generalize (rol rs k).asm = A at *
    generalize cmbN rs k = L at *
    have HFL := Lib.hid (fun i (hi : i ≤ L.length) => flN_len L A i hi)
    generalize wr.heap.size = g at *
    go_loopw [6, 20] (fun v i wr => ∃ m : Nat, m ≤ L.length ∧ i = .int .i64 m ∧ ListsR wr U.heap.size v (flN L A m) ∧ Below U.heap.size U wr) (fun _ i _ => L.length - (intOf i).toNat)
    case atStart => exact ⟨0, by omega, rfl, ListsR.nil _ _, Below.refl _ _⟩
    case round =>
      obtain ⟨m, hm, rfl, hls, hbw⟩ := hrel
      have HW := Lib.hid hbw
      have HL := Lib.hid hls
      clear hbw hls
      by_cases hlt2 : m < L.length
      case neg =>
        have hge : ¬ ((m : Int) < L.length) := by omega
        have H := Lib.hid (show m = L.length by omega)
        go_wp2
        go_roundw
        case rel => exact ⟨k + 1, by omega, by go_num, by have := HL.out.mono HWU.out.size; rw [H.out, HALL.out] at this; exact this, HWU.out.trans (HW.out.mono HWU.out.size)⟩
        case measure => simp [intOf]; omega
      obtain ⟨b2, o2, ak, ck, rfl, hb2, hc2, hl2⟩ := (HRN.out U (Below.refl _ _)).at_ hlt2
      have hcu := HCU.out _ HW.out
      have HSN := Lib.hid (fun (W : World) (h : Below U.heap.size U W) => hl2.to h)
      have hc2 := cell_to hc2 HW.out
      have hs8 : (rw_ L m).length ≤ 8 := by rw [HMM.out _ (by simp [rw_, List.getD, hlt2])]; omega
      have HST := Lib.hid (flN_step (A := A) hlt2)
      have HFM := HFL.out m (by omega)
      go_wp2
      go_loopw [6, 27] (fun v i wr => ∃ j : Nat, j ≤ A.length ∧ i = .int .i64 j ∧ ListsR wr U.heap.size v (flN L A m ++ (A.take j).map (fun v => rw_ L m ++ [v])) ∧ Below U.heap.size U wr) (fun _ i _ => A.length - (intOf i).toNat)
      case atStart => exact ⟨0, by omega, rfl, by simpa using HL.out, HW.out⟩
      case round =>
        clear hc2 hl2 hcu hb2
        obtain ⟨j, hj, rfl, hls, hbw⟩ := hrel
        have HW := Lib.hid hbw
        have HL := Lib.hid hls
        clear hbw hls
        by_cases hlt3 : j < A.length
        case neg =>
          have hge : ¬ ((j : Int) < A.length) := by omega
          have H := Lib.hid (show flN L A m ++ (A.take j).map (fun v => rw_ L m ++ [v]) = flN L A (m + 1) by rw [HST.out, List.take_of_length_le (by omega)])
          go_wp2
          go_roundw
          case rel => exact ⟨m + 1, by omega, by go_num, by have := HL.out; rw [H.out] at this; exact this, HW.out⟩
          case measure => simp [intOf]; omega
        have hl2 := HSN.out _ HW.out
        obtain ⟨b3, o3, hz3, hb3, hc3⟩ := (HSA.out _ HW.out).lst.nums.at_ hlt3
        subst hz3
        have HCL := Lib.hid (clone_any ak ck (rw_ L m) wr hl2.lst hl2.nil (by omega))
        have HIN := Lib.hid (in_step (p := flN L A m) (s := rw_ L m) hlt3)
        have hln : (flN L A m ++ (A.take j).map (fun v => rw_ L m ++ [v])).length ≤ 1679616 := by
          have h1 : (m + 1) * A.length ≤ L.length * A.length := Nat.mul_le_mul_right _ (by omega)
          have h2 : L.length * A.length ≤ 1679616 := by rw [HLL.out, ← HNN.out]; exact HN1.out.2
          rw [Nat.add_mul] at h1
          rw [List.length_append, List.length_map, List.length_take, HFM]
          omega
        have hsz := HW.out.size
        clear hl2
        generalize flN L A m ++ (A.take j).map (fun v => rw_ L m ++ [v]) = M at *
        generalize rw_ L m = s at *
        obtain ⟨xs, hgr⟩ := HL.out
        have HG := Lib.hid hgr
        clear hgr
        go_wp2_with (first | (go_at_call 60; (with_reducible refine HCL.out.mono ?_); rintro e w1 ⟨v1, rfl, ho1, hb1⟩; have HB1 := Lib.hid hb1; have HO1 := Lib.hid ho1; clear hb1 ho1) | (at_builtin; refine wpList_append_own_at _ rfl _ _ 22 rfl (wr.heap.size) 3 i0 (.int .i64 0) 1 8 Tryd.underlying22 hi hz0 hz1 hz2 rfl (by decide) _ _ _ rfl (HO1.out.alloc _) ⟨w1.heap.size, 0, none⟩ 1 1 [.int .i64 (ix A j)] rfl rfl ?c1 ?c2 ?c3 ?c4 ?c5 ?_))
        case c1 => exact cell_one_new _ _ _
        case c2 => simp [Value.oneCell']
        case c3 => unfold maxLen; omega
        case c4 => omega
        case c5 => (have := HB1.out.size; simp; omega)
        intro v2 w2 hown2 hgrow _ hat
        have hb2 : Below wr.heap.size wr w2 := HB1.out.trans (Below.grown (B := wr.heap.size) ((Below.refl _ _).alloc HB1.out.size _) hgrow (by have := HB1.out.size; simp; omega) (fun q hq => (HO1.out.lt q hq).1))
        have HB2 := Lib.hid hb2
        have HON := Lib.hid (show On (Rg wr.heap.size w2.heap.size) w2 (SlL (s ++ [ix A j]) v2) from slL_on (by have := hown2; simpa using this))
        have hs2 := HON.out.out
        obtain ⟨s2, m2, e, _⟩ := hs2
        have e2 : v2 = .slice s2 (s.length + 1) m2 := by rw [e, List.length_append, List.length_singleton]
        clear e
        subst e2
        have hz2' := hb2.size
        have HG2 := Lib.hid ((HG.out.to hb2).to ((Below.refl _ _).alloc (Nat.le_refl _) (.cells #[.slice s2 (s.length + 1) m2] 22)))
        clear hgrow hown2 hb2 hat
        go_wp2_with (at_builtin; refine wpList_append_own_at _ rfl _ _ 26 rfl (U.heap.size) 22 l0 (.slice none 0 0) 1 24 Tryd.underlying26 hli hlz0 hlz1 hlz2 rfl (by decide) _ _ _ rfl (HG2.out.own) ⟨w2.heap.size, 0, none⟩ 1 1 [(.slice s2 (s.length + 1) m2)] rfl rfl ?f1 ?f2 ?f3 ?f4 ?f5 ?_)
        case f1 => exact cell_one_new _ _ _
        case f2 => simp [Value.oneCell']
        case f3 => unfold maxLen; omega
        case f4 => omega
        case f5 => simp; omega
        intro v3 w3 hown3 hgrow3 _ hat3
        have hb3 : Below w2.heap.size w2 (w2.alloc (.cells #[.slice s2 (s.length + 1) m2] 22)) := (Below.refl _ _).alloc (Nat.le_refl _) _
        have HL3 := Lib.hid (listsR_app HG2.out ((HON.out.below hb3 (fun b q => q.2)).imp (fun b q => ⟨Nat.le_trans hsz q.1, Nat.lt_of_lt_of_le q.2 hb3.size, fun e => absurd (HG.out.lt b e).2 (Nat.not_lt.2 q.1)⟩)) hown3 hgrow3 (by simpa using hat3))
        have HW3 := Lib.hid (HW.out.trans (Below.grown (B := U.heap.size) ((HB2.out.mono hsz).trans (hb3.mono (Nat.le_trans hsz hz2'))) hgrow3 (Nat.le_trans hsz (Nat.le_trans hz2' hb3.size)) (fun q hq => (HG.out.lt q hq).1)))
        clear hown3 hgrow3 hat3 hb3
        go_wp2
        go_roundw
        case rel => exact ⟨j + 1, by omega, by go_num, by rw [HIN.out]; exact HL3.out, HW3.out⟩
        case measure => simp [intOf]; omega
end Go.Proofs.YtiaobanloakplaaDoor

/- Package encode: numberOf, combinations. -/
import Derived.Test.YtiaobanloakplaaDoorErs
import Derived.Test.YtiaobanloakplaaDoorMC
namespace Go.Proofs.YtiaobanloakplaaDoor
open Go.RowKit
set_option linter.unusedSimpArgs false
set_option linter.unusedVariables false
set_option maxRecDepth 100000

theorem cell_lt {W : World} {g o : Nat} {v : Value} (h : W.cell? ⟨g, o, none⟩ = some v) : g < W.heap.size := by
  rcases Nat.lt_or_ge g W.heap.size with h1 | h1
  · exact h1
  · simp [World.cell?, Array.getElem?_eq_none h1] at h
theorem cell_to {W W2 : World} {g o : Nat} {v : Value} (h : W.cell? ⟨g, o, none⟩ = some v) (hb : Below W.heap.size W W2) : W2.cell? ⟨g, o, none⟩ = some v := (hb.cell (p := ⟨g, o, none⟩) (cell_lt h)).trans h
theorem RolF.to {W W2 : World} {r : Rol} {vf : Value} (h : RolF r vf W) (hb : Below W.heap.size W W2) : RolF r vf W2 := by
  obtain ⟨g1, g2, g3, v1, v2, e, h1, h2, h3, h4, h5⟩ := h
  exact ⟨g1, g2, g3, v1, v2, e, cell_to h1 hb, h2.to hb, cell_to h3 hb, h4.to hb, cell_to h5 hb⟩
theorem SlRs.to {W W2 : World} {rs : List Rol} {v : Value} (h : SlRs rs v W) (hb : Below W.heap.size W W2) : SlRs rs v W2 := by
  obtain ⟨a, c, e, h1, h2, hk⟩ := h
  refine ⟨a, c, e, h1, h2, fun k hlt => ?_⟩
  obtain ⟨b, o, va, vf, q1, q2, q3, q4, q5, q6⟩ := hk k hlt
  exact ⟨b, o, va, vf, q1, Nat.lt_of_lt_of_le q2 hb.size, cell_to q3 hb, cell_to q4 hb, q5.to hb, q6.to hb⟩
theorem pow6_le : ∀ {n : Nat}, n ≤ 8 → 6 ^ n ≤ 1679616 := fun h => Nat.le_trans (Nat.pow_le_pow_right (by omega) h) (by decide)
set_option maxHeartbeats 1000000 in
theorem numberOf_any (rs : List Rol) (a : Option Addr) (c : Nat) (w : World) (hR : SlRs rs (.slice a rs.length c) w) (h8 : rs.length ≤ 8) (hbd : ∀ k, k < rs.length → 1 ≤ (rol rs k).asm.length ∧ (rol rs k).asm.length ≤ 6) :
    Calls Tryd.prog 76 #[.slice a rs.length c] w fun e w' => e = .returned (.int .i64 (numN rs rs.length)) ∧ Below w.heap.size w w' := by
  have HR := Lib.hid (fun (W : World) (h : Below w.heap.size w W) => hR.to h)
  have HBD := Lib.hid (fun k (hk : k ≤ rs.length) => (⟨(numN_bd (n := k) (fun j hj => hbd j (by omega))).1, Nat.le_trans (numN_bd (n := k) (fun j hj => hbd j (by omega))).2 (pow6_le (by omega))⟩ : 1 ≤ numN rs k ∧ numN rs k ≤ 1679616))
  have HB1 := Lib.hid hbd
  clear hR hbd
  go_enter Tryd.func76, Tryd.ntmps76
  go_wp2
  go_loopw [3, 8] (fun n i wr => ∃ k : Nat, k ≤ rs.length ∧ i = .int .i64 k ∧ n = .int .i64 (numN rs k) ∧ Below w.heap.size w wr) (fun _ i _ => rs.length - (intOf i).toNat)
  case atStart => exact ⟨0, by omega, rfl, rfl, Below.refl _ _⟩
  case round =>
    obtain ⟨k, hk, rfl, rfl, hbw⟩ := hrel
    have HW := Lib.hid hbw
    clear hbw
    have hsz := HW.out.size
    by_cases hlt : k < rs.length
    case neg =>
      have hge : ¬ ((k : Int) < rs.length) := by omega
      have H := Lib.hid (show k = rs.length by omega)
      go_wp2
      go_ret
      exact ⟨by rw [H.out]; rfl, HW.out⟩
    obtain ⟨a2, c2, e, _, _, hc⟩ := HR.out _ HW.out
    obtain ⟨b, o, va, vf, q1, q2, q3, q4, ⟨sa, sc, rfl, _⟩, g1, g2, g3, v1, v2, rfl, _⟩ := hc k hlt
    injection e with e1 e2 e3
    subst e1
    subst q1
    have hn := HBD.out k (by omega)
    have hn1 := HBD.out (k + 1) (by omega)
    have hb1 := HB1.out k hlt
    have HM := Lib.hid (show ((numN rs k : Nat) : Int) * ((rol rs k).asm.length : Int) = ((numN rs (k + 1) : Nat) : Int) by rw [numN]; simp)
    have hm1 : ((numN rs k : Nat) : Int) * ((rol rs k).asm.length : Int) ≤ 1679616 := by rw [HM.out]; omega
    have hm0 : 0 ≤ ((numN rs k : Nat) : Int) * ((rol rs k).asm.length : Int) := by rw [HM.out]; omega
    clear hc e2 e3
    go_wp2
    go_roundw
    case rel => exact ⟨k + 1, by omega, by go_num, by rw [HM.out], HW.out.alloc hsz _⟩
    case measure => simp [intOf]; omega
end Go.Proofs.YtiaobanloakplaaDoor

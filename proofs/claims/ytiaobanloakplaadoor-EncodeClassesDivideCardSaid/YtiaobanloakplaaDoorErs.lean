/- Package encode: rolesOf. -/
import Derived.Test.YtiaobanloakplaaDoorErl
namespace Go.Proofs.YtiaobanloakplaaDoor
open Go.RowKit
set_option linter.unusedSimpArgs false
set_option linter.unusedVariables false
set_option maxRecDepth 100000

theorem info_rt : (Tryd.prog.info? 130).map (fun i => (i.zero, i.size, i.bytes)) = some (some (.agg #[.slice none 0 0, .nilFunc]), 2, 32) := by kernel_rfl
def RsP (xs : List Value) (rs : List Rol) (W : World) : Prop := ∀ k, k < rs.length → ∃ va vf, xs[k * 2]? = some va ∧ xs[k * 2 + 1]? = some vf ∧ SlL (rol rs k).asm va W ∧ RolF (rol rs k) vf W
def RolesR (W : World) (base : Nat) (v : Value) (rs : List Rol) : Prop := ∃ xs, GRow W base 130 2 v rs.length xs (RsP xs rs)
theorem rol_left {a : List Rol} {r : Rol} {k : Nat} (h : k < a.length) : rol (a ++ [r]) k = rol a k := by simp [rol, List.getD, List.getElem?_append, h]
theorem rol_last (a : List Rol) (r : Rol) : rol (a ++ [r]) a.length = r := by simp [rol, List.getD]
theorem rsP_snoc {xs : List Value} {rs : List Rol} {r : Rol} {va vf : Value} (hl : xs.length = rs.length * 2) {W : World} (h : RsP xs rs W ∧ SlL r.asm va W ∧ RolF r vf W) : RsP (xs ++ [va, vf]) (rs ++ [r]) W := by
  intro k hk
  rw [List.length_append, List.length_singleton] at hk
  by_cases e : k < rs.length
  · obtain ⟨ua, uf, h1, h2, h3⟩ := h.1 k e
    exact ⟨ua, uf, by rw [List.getElem?_append_left (by omega)]; exact h1, by rw [List.getElem?_append_left (by omega)]; exact h2, by rw [rol_left e]; exact h3⟩
  · obtain rfl : k = rs.length := by omega
    refine ⟨va, vf, ?_, ?_, by rw [rol_last]; exact h.2⟩
    · rw [List.getElem?_append_right (by omega)]; simp [hl]
    · rw [List.getElem?_append_right (by omega)]; simp [hl]
theorem rolesR_app {W W2 : World} {base : Nat} {v v2 : Value} {rs : List Rol} {xs : List Value} {r : Rol} {va vf : Value} (h : GRow W base 130 2 v rs.length xs (RsP xs rs)) (hq : On (Rx base W.heap.size v) W (fun W => SlL r.asm va W ∧ RolF r vf W))
    (hown : W2.ownsRow base 130 2 v2 (rs.length + 1) (xs ++ [va, vf])) (hg : W.grownBy W2 v.ownBlock) (hat : v2.ownBlock = v.ownBlock ∨ v2.ownBlock = some W.heap.size) : RolesR W2 base v2 (rs ++ [r]) := by
  have hl : xs.length = rs.length * 2 := h.own.1
  refine ⟨xs ++ [va, vf], ?_⟩
  rw [List.length_append, List.length_singleton]
  exact (h.app hq hown hg hat).map fun W3 q => rsP_snoc hl q
theorem RolesR.to {W W2 : World} {base : Nat} {v : Value} {rs : List Rol} (h : RolesR W base v rs) (hb : Below W.heap.size W W2) : RolesR W2 base v rs := by obtain ⟨xs, h⟩ := h; exact ⟨xs, h.to hb⟩
/-- A slice of roles, to be read. -/
def SlRs (rs : List Rol) (v : Value) (W : World) : Prop := ∃ a c, v = .slice a rs.length c ∧ rs.length ≤ c ∧ c ≤ maxLen ∧ ∀ k, k < rs.length → ∃ b o va vf, a = some ⟨b, o, none⟩ ∧ b < W.heap.size ∧ W.cell? ⟨b, o + k * 2, none⟩ = some va ∧ W.cell? ⟨b, o + k * 2 + 1, none⟩ = some vf ∧ SlL (rol rs k).asm va W ∧ RolF (rol rs k) vf W
theorem RolesR.on {W : World} {base : Nat} {v : Value} {rs : List Rol} (h : RolesR W base v rs) : On (Rg base W.heap.size) W (SlRs rs v) := by
  obtain ⟨xs, h⟩ := h
  refine h.on.map fun W2 q => ?_
  obtain ⟨ho, hp⟩ := q
  rcases ho.2 with ⟨rfl, h0⟩ | ⟨g, cap, cur, rfl, hg, hh, hn, hcap, hcs, hx⟩
  · exact ⟨none, 0, by rw [h0], by omega, by simp [maxLen], fun k hk => by omega⟩
  · refine ⟨_, cap, rfl, hn, hcap, fun k hk => ?_⟩
    obtain ⟨va, vf, h1, h2, h3, h4⟩ := hp k hk
    refine ⟨g, 0, va, vf, rfl, (Array.getElem?_eq_some_iff.1 hh).1, ?_, ?_, h3, h4⟩
    · have := ho.cells (g := g) rfl _ _ h1
      simpa [Addr.add_lit] using this
    · have := ho.cells (g := g) rfl _ _ h2
      simpa [Addr.add_lit, Nat.add_assoc] using this
def RsPost (w : World) (rs : List Rol) (b : Bool) (e : Ending) (w' : World) : Prop := ∃ v, e = .returned (.tuple #[v, .bool b]) ∧ Below w.heap.size w w' ∧ (b = true → On (Rg w.heap.size w'.heap.size) w' (SlRs rs v))
theorem rols_step {o : Opr} {cs : List (List Int)} {k : Nat} (h : k < cs.length) : (rols o cs).take (k + 1) = (rols o cs).take k ++ [rolOf o (rw_ cs k)] := by
  rw [List.take_add_one]
  congr 1
  simp [rols, rw_, List.getD, h]
set_option maxHeartbeats 4000000 in
theorem rolesOf_any (o : Opr) (a1 a2 a3 A : Option Addr) (c1 c2 c3 c : Nat) (cs : List (List Int)) (w : World) (hV : OpV w w.heap.size o a1 a2 a3 c1 c2 c3) (hA : Rws w w.heap.size A cs) (hlc : cs.length ≤ 24) (h24 : ∀ k, k < cs.length → (rw_ cs k).length ≤ 24) :
    Calls Tryd.prog 75 #[.agg #[.slice a1 o.pre.length c1, .slice a2 o.add.length c2, .slice a3 o.del.length c3, .int .i64 o.cost], .slice A cs.length c] w (RsPost w (rols o cs) (rolsB o cs)) := by
  have hb0 : Below w.heap.size w (World.alloc w (.cells #[.slice a1 o.pre.length c1, .slice a2 o.add.length c2, .slice a3 o.del.length c3, .int .i64 o.cost] 79)) := by go_grown
  have HV := Lib.hid (fun (W : World) (h : Below ((World.alloc w (.cells #[.slice a1 o.pre.length c1, .slice a2 o.add.length c2, .slice a3 o.del.length c3, .int .i64 o.cost] 79))).heap.size (World.alloc w (.cells #[.slice a1 o.pre.length c1, .slice a2 o.add.length c2, .slice a3 o.del.length c3, .int .i64 o.cost] 79)) W) => hV.to (hb0.trans (h.mono hb0.size)) (Nat.le_trans hb0.size h.size))
  have HA := Lib.hid (fun (W : World) (h : Below ((World.alloc w (.cells #[.slice a1 o.pre.length c1, .slice a2 o.add.length c2, .slice a3 o.del.length c3, .int .i64 o.cost] 79))).heap.size (World.alloc w (.cells #[.slice a1 o.pre.length c1, .slice a2 o.add.length c2, .slice a3 o.del.length c3, .int .i64 o.cost] 79)) W) => hA.to (hb0.trans (h.mono hb0.size)) (Nat.le_trans hb0.size h.size))
  have hoc : OpC (World.alloc w (.cells #[.slice a1 o.pre.length c1, .slice a2 o.add.length c2, .slice a3 o.del.length c3, .int .i64 o.cost] 79)) w.heap.size 0 o a1 a2 a3 c1 c2 c3 := ⟨by simp, by simp, by simp, by simp⟩
  have HOC := Lib.hid (fun (W : World) (h : Below ((World.alloc w (.cells #[.slice a1 o.pre.length c1, .slice a2 o.add.length c2, .slice a3 o.del.length c3, .int .i64 o.cost] 79))).heap.size (World.alloc w (.cells #[.slice a1 o.pre.length c1, .slice a2 o.add.length c2, .slice a3 o.del.length c3, .int .i64 o.cost] 79)) W) => hoc.to h (by simp))
  have HB0 := Lib.hid hb0
  have H24 := Lib.hid h24
  clear hV hA hoc h24 hb0
  obtain ⟨j0, hja, hy0, hy1, hy2⟩ := info_parts info_rt
  have hUl : w.heap.size < ((World.alloc w (.cells #[.slice a1 o.pre.length c1, .slice a2 o.add.length c2, .slice a3 o.del.length c3, .int .i64 o.cost] 79))).heap.size := by simp
  go_enter Tryd.func75, Tryd.ntmps75
  go_wp2
  generalize (World.alloc w (.cells #[.slice a1 o.pre.length c1, .slice a2 o.add.length c2, .slice a3 o.del.length c3, .int .i64 o.cost] 79)) = U at *
  go_loopw [6, 13] (fun v i wr => ∃ k : Nat, k ≤ cs.length ∧ i = .int .i64 k ∧ Below U.heap.size U wr ∧ RolesR wr U.heap.size v ((rols o cs).take k) ∧ ∀ j, j < k → rolB o (rw_ cs j) = true) (fun _ i _ => cs.length - (intOf i).toNat)
  case atStart => exact ⟨0, by omega, rfl, Below.refl _ _, ⟨[], GRow.nil _ _ _ _ fun _ k h => by simp at h⟩, by omega⟩
  case round =>
    obtain ⟨k, hk, rfl, hbw, hro, hj⟩ := hrel
    have HW := Lib.hid hbw
    have HO := Lib.hid hro
    have HJ := Lib.hid hj
    clear hbw hro hj
    by_cases hlt : k < cs.length
    case neg =>
      have hge : ¬ ((k : Int) < cs.length) := by omega
      have H := Lib.hid (show rolsB o cs = true from rolsB_good.2 (fun j hj => HJ.out j (by omega)))
      have H2 := Lib.hid (show (rols o cs).take k = rols o cs from List.take_of_length_le (by rw [rols_len]; omega))
      go_wp2
      go_ret2
      refine ⟨_, by rw [H.out]; rfl, HB0.out.trans (HW.out.mono HB0.out.size), fun _ => ?_⟩
      have h9 := HO.out.on.wide (a2 := w.heap.size) (b2 := wr.heap.size) HB0.out.size (Nat.le_refl _)
      rw [H2.out] at h9
      exact h9
    obtain ⟨b, ob, ak, ck, rfl, hbl, hcell, hlst⟩ := (HA.out _ HW.out).at_ hlt
    obtain ⟨t0, t1, t2, t3⟩ := HOC.out _ HW.out
    have HR := Lib.hid (roleOf_any o (rw_ cs k) a1 a2 a3 ak c1 c2 c3 ck wr (HV.out _ HW.out) hlst (H24.out k hlt))
    have HBAD := Lib.hid (fun h => rolsB_bad (o := o) hlt h)
    have HJ2 := Lib.hid (fun h => all_step (p := fun j => rolB o (rw_ cs j) = true) HJ.out h)
    have HST := Lib.hid (rols_step (o := o) hlt)
    have hsz := HW.out.size
    clear hlst HJ
    cases hrb : rolB o (rw_ cs k)
    case false =>
      rw [hrb] at HR
      have H := Lib.hid (HBAD.out hrb)
      clear hrb HBAD HJ2 HST
      go_wp2_with (go_at_call 91; (with_reducible refine HR.out.mono ?_); rintro e w1 ⟨va, vf, rfl, hb1, hon1, hff⟩; obtain ⟨rfl, rfl⟩ := hff rfl; have HB1 := Lib.hid hb1; clear hb1 hon1)
      go_ret2
      exact ⟨_, by rw [H.out]; rfl, (HB0.out.trans ((HW.out.trans (HB1.out.mono hsz)).mono HB0.out.size)).alloc (by have := HB1.out.size; have := HB0.out.size; omega) _, fun h => by rw [H.out] at h; cases h⟩
    rw [hrb] at HR
    have HJ3 := Lib.hid (HJ2.out hrb)
    clear hrb HBAD HJ2
    have hln : ((rols o cs).take k).length ≤ k := List.length_take_le _ _
    generalize (rols o cs).take k = q at *
    obtain ⟨xs, hgr⟩ := HO.out
    have HG := Lib.hid hgr
    clear hgr
    go_wp2_with (first | (((go_at_call 91; (with_reducible refine HR.out.mono ?_); rintro e w1 ⟨va, vf, rfl, hb1, hon1, hff⟩; clear hff; have hon2 := hon1 rfl; have hou := hon2.out; obtain ⟨⟨s1, m1, rfl, _⟩, g1, g2, g3, z1, z2, rfl, _⟩ := hou; have HB1 := Lib.hid hb1; have HN1 := Lib.hid hon2; have hz1 := hb1.size; clear hb1 hon1 hon2)); have HG1 := Lib.hid (HG.out.to HB1.out)) | (at_builtin; refine wpList_append_own_at _ rfl _ _ 109 rfl U.heap.size 130 j0 (.agg #[.slice none 0 0, .nilFunc]) 2 32 Tryd.underlying109 hja hy0 hy1 hy2 rfl (by decide) _ _ _ rfl ((HG1.out.own.alloc _).alloc _) ⟨w1.heap.size + 1, 0, none⟩ 1 1 [.slice s1 (rolOf o (rw_ cs k)).asm.length m1, .func (.func 96) #[] #[.pointer (some ⟨g1, 0, none⟩), .pointer (some ⟨g2, 0, none⟩), .pointer (some ⟨g3, 0, none⟩)]] rfl rfl ?d1 ?d2 ?d3 ?d4 ?d5 ?_))
    case d1 => have h9 := cell_two_new (World.alloc w1 (.cells #[.slice s1 (rolOf o (rw_ cs k)).asm.length m1, .func (.func 96) #[] #[.pointer (some ⟨g1, 0, none⟩), .pointer (some ⟨g2, 0, none⟩), .pointer (some ⟨g3, 0, none⟩)]] 130)) (.slice s1 (rolOf o (rw_ cs k)).asm.length m1) (.func (.func 96) #[] #[.pointer (some ⟨g1, 0, none⟩), .pointer (some ⟨g2, 0, none⟩), .pointer (some ⟨g3, 0, none⟩)]) 130; rw [World.size_alloc] at h9; exact h9
    case d2 => simp [Value.oneCell']
    case d3 => unfold maxLen; omega
    case d4 => omega
    case d5 => exact Nat.le_trans hsz (Nat.le_trans hz1 (by first | (simp; done) | (simp; omega) | omega | (simp [World.setCell]; done) | (simp [World.setCell]; omega)))
    intro v2 w2 hown2 hgrow _ hat
    have hb3 : Below w1.heap.size w1 ((World.alloc w1 (.cells #[.slice s1 (rolOf o (rw_ cs k)).asm.length m1, .func (.func 96) #[] #[.pointer (some ⟨g1, 0, none⟩), .pointer (some ⟨g2, 0, none⟩), .pointer (some ⟨g3, 0, none⟩)]] 130)).alloc (.cells #[.slice s1 (rolOf o (rw_ cs k)).asm.length m1, .func (.func 96) #[] #[.pointer (some ⟨g1, 0, none⟩), .pointer (some ⟨g2, 0, none⟩), .pointer (some ⟨g3, 0, none⟩)]] 130)) := ((Below.refl _ _).alloc (Nat.le_refl _) _).alloc (by first | (simp; done) | (simp; omega) | omega | (simp [World.setCell]; done) | (simp [World.setCell]; omega)) _
    have HR2 := Lib.hid (rolesR_app (HG1.out.to hb3) ((HN1.out.below hb3 (fun b q => q.2)).imp (fun b q => ⟨Nat.le_trans hsz q.1, Nat.lt_of_lt_of_le q.2 hb3.size, fun e => absurd (HG.out.lt b e).2 (Nat.not_lt.2 q.1)⟩)) hown2 hgrow (by simpa using hat))
    have HB2 := Lib.hid (HW.out.trans (Below.grown (B := U.heap.size) ((HB1.out.mono hsz).trans (hb3.mono (Nat.le_trans hsz hz1))) hgrow (Nat.le_trans hsz (Nat.le_trans hz1 hb3.size)) (fun q hq => (HG.out.lt q hq).1)))
    clear hown2 hgrow hat hb3
    go_wp2
    go_roundw
    case rel => exact ⟨k + 1, by omega, by go_num, HB2.out, by rw [HST.out]; exact HR2.out, HJ3.out⟩
    case measure => simp [intOf]; omega
end Go.Proofs.YtiaobanloakplaaDoor

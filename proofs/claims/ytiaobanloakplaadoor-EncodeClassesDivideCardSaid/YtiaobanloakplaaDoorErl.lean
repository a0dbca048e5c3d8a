/- Package encode: roleOf. -/
import Derived.Test.YtiaobanloakplaaDoorEro
import Derived.Laws.EntriesVeiled
namespace Go.Proofs.YtiaobanloakplaaDoor
open Go.RowKit
set_option linter.unusedSimpArgs false
set_option linter.unusedVariables false
set_option maxRecDepth 100000

theorem on_cell {W : World} {a e b o : Nat} {v : Value} (h : W.cell? ⟨b, o, none⟩ = some v) (h1 : a ≤ b) (h2 : b < e) : On (Rg a e) W (fun W2 => W2.cell? ⟨b, o, none⟩ = some v) := by
  intro W2 hw _
  rw [World.cell?_of_block (hw b ⟨h1, h2⟩)]; exact h
theorem On.mv {W W2 : World} {a b : Nat} {P : World → Prop} (h : On (Rg a b) W P) (e : Eqr a b W W2) : On (Rg a b) W2 P :=
  fun W3 h2 hs => h W3 (fun k hk => (h2 k hk).trans (e.eq k hk.1 hk.2)) (Nat.le_trans e.size hs)
/-- Behind the first region: the values that are needed, and the two variables. -/
theorem Eqr.drew {W W2 : World} {a b : Nat} (h : Eqr a b W W2) : Eqr a b W W2.drew := ⟨h.eq, h.size⟩
def RoC (U : World) (o : Opr) (cl : List Int) (v p7 p8 : Value) (wx : World) : Prop :=
  ∃ a1 c1 b7 b8 v7 v8, v = .slice a1 (valL cl o.pre).length c1 ∧ p7 = .pointer (some ⟨b7, 0, none⟩) ∧ p8 = .pointer (some ⟨b8, 0, none⟩) ∧ U.heap.size ≤ b7 ∧ b7 < wx.heap.size ∧ U.heap.size ≤ b8 ∧ b8 < wx.heap.size ∧ Below U.heap.size U wx ∧
    On (Rg U.heap.size wx.heap.size) wx (fun W => SlL (valL cl o.pre) v W ∧ W.cell? ⟨b7, 0, none⟩ = some v7 ∧ SlL (valL cl o.add) v7 W ∧ W.cell? ⟨b8, 0, none⟩ = some v8 ∧ SlL (valL cl o.del) v8 W)
theorem roC_mk {U W1 W2 W3 wx : World} {o : Opr} {cl : List Int} {s1 s2 s3 : Option Addr} {m1 m2 m3 b7 b8 x1 x2 x3 y1 y2 y3 : Nat}
    (h1 : On (Rg x1 y1) W1 (SlL (valL cl o.pre) (.slice s1 (valL cl o.pre).length m1))) (h2 : On (Rg x2 y2) W2 (SlL (valL cl o.add) (.slice s2 (valL cl o.add).length m2))) (h3 : On (Rg x3 y3) W3 (SlL (valL cl o.del) (.slice s3 (valL cl o.del).length m3)))
    (e1 : Eqr x1 y1 W1 wx) (e2 : Eqr x2 y2 W2 wx) (e3 : Eqr x3 y3 W3 wx) (b1 : U.heap.size ≤ x1) (b2 : U.heap.size ≤ x2) (b3 : U.heap.size ≤ x3) (s1' : y1 ≤ wx.heap.size) (s2' : y2 ≤ wx.heap.size) (s3' : y3 ≤ wx.heap.size)
    (hb : Below U.heap.size U wx) (l7 : U.heap.size ≤ b7) (m7 : b7 < wx.heap.size) (l8 : U.heap.size ≤ b8) (m8 : b8 < wx.heap.size)
    (c7 : wx.cell? ⟨b7, 0, none⟩ = some (.slice s2 (valL cl o.add).length m2)) (c8 : wx.cell? ⟨b8, 0, none⟩ = some (.slice s3 (valL cl o.del).length m3)) :
    RoC U o cl (.slice s1 (valL cl o.pre).length m1) (.pointer (some ⟨b7, 0, none⟩)) (.pointer (some ⟨b8, 0, none⟩)) wx :=
  ⟨s1, m1, b7, b8, _, _, rfl, rfl, rfl, l7, m7, l8, m8, hb,
    ((h1.mv e1).wide b1 s1').and ((on_cell c7 l7 m7).and (((h2.mv e2).wide b2 s2').and ((on_cell c8 l8 m8).and ((h3.mv e3).wide b3 s3'))))⟩
section
variable {fn : Func} {R : Ending → World → Prop} {tmps : Array Value} {W : World} {s t : Tmp} {g : Nat} {x y : Value}
theorem post_role (hres : fn.results = #[.cell s 130, .tmp t]) (ht : tmps.getD s undef = .pointer (some ⟨g, 0, none⟩)) (hT : Two W g x y) (hR : R (.returned (.tuple #[.agg #[x, y], tmps.getD t undef])) W) :
    bodyPost Tryd.prog fn R .ret { tmps := tmps, defers := [] } W := by
  refine bodyPost_ret (v := .tuple #[.agg #[x, y], tmps.getD t undef]) ?_ rfl hR
  simp only [results, hres]
  rw [Array.getD_eq_getD_getElem?] at ht
  simp [go_sem, ht, hT.fst, hT.snd]
end
theorem ro_on {w U wc W : World} {o : Opr} {cl asm P1 P2 P3 : List Int} {v1 v2 v3 va : Value} {b7 b8 z : Nat} (h : rolOf o cl = ⟨asm, P2, P3, cl.length⟩) (hU : w.heap.size + 2 ≤ U.heap.size) (hz0 : z = wc.heap.size)
    (hO : On (Rg U.heap.size wc.heap.size) wc (fun W => SlL P1 v1 W ∧ W.cell? ⟨b7, 0, none⟩ = some v2 ∧ SlL P2 v2 W ∧ W.cell? ⟨b8, 0, none⟩ = some v3 ∧ SlL P3 v3 W))
    (hq : Eqr U.heap.size wc.heap.size wc W) (hz : z < W.heap.size) (hc : W.cell? ⟨z, 0, none⟩ = some (.int .i64 cl.length)) (hUw : U.heap.size ≤ wc.heap.size) (ha : On (Rg w.heap.size W.heap.size) W (SlL asm va)) :
    On (Rg w.heap.size W.heap.size) W (fun W => SlL (rolOf o cl).asm va W ∧ RolF (rolOf o cl) (.func (.func 96) #[] #[.pointer (some ⟨b7, 0, none⟩), .pointer (some ⟨b8, 0, none⟩), .pointer (some ⟨z, 0, none⟩)]) W) := by
  rw [h]
  refine ((ha.and ((hO.mv hq).wide (by omega) hq.size)).and (on_cell hc (by omega) hz)).map fun W2 q => ⟨q.1.1, b7, b8, z, v2, v3, rfl, q.1.2.2.1, q.1.2.2.2.1, q.1.2.2.2.2.1, q.1.2.2.2.2.2, q.2⟩
theorem lz_yes {n : Nat} (h : n = 0) : ((n : Int) == 0) = true := by subst h; rfl
theorem lz_no {n : Nat} (h : ¬ n = 0) : ((n : Int) == 0) = false := by simp; omega
theorem cell_al {W : World} {z : Nat} (h : z = W.heap.size) (u : Value) (t : TypeId) : (W.alloc (.cells #[u] t)).cell? ⟨z, 0, none⟩ = some u := by subst h; simp
theorem cell_far {W : World} {z o : Nat} {ob : Obj} (h : z < W.heap.size) : (W.alloc ob).cell? ⟨z, o, none⟩ = W.cell? ⟨z, o, none⟩ := ((Below.refl W.heap.size W).alloc (Nat.le_refl _) ob).cell (p := ⟨z, o, none⟩) h
def RoPost (w : World) (r : Rol) (b : Bool) (e : Ending) (w' : World) : Prop :=
  ∃ va vf, e = .returned (.tuple #[.agg #[va, vf], .bool b]) ∧ Below w.heap.size w w' ∧ (b = true → On (Rg w.heap.size w'.heap.size) w' (fun W => SlL r.asm va W ∧ RolF r vf W)) ∧ (b = false → va = .slice none 0 0 ∧ vf = .nilFunc)
theorem bcellE {W w1 : World} (hb : Below W.heap.size W w1) : (∀ b o, b < W.heap.size → w1.cell? ⟨b, o, none⟩ = W.cell? ⟨b, o, none⟩) ∧ (∀ b o, b < W.heap.size → w1.frozen? ⟨b, o, none⟩ = W.frozen? ⟨b, o, none⟩) :=
  ⟨fun b o h => hb.cell (p := ⟨b, o, none⟩) h, fun b o h => hb.frozen (p := ⟨b, o, none⟩) h⟩
theorem have_oneE {G : Prop} {V wY : World} {g : Nat} {u : Value} (hb : Below V.heap.size V wY) (h : One V g u) (k : One wY g u → G) : G := k (one_to h hb)
theorem last4 {P1 P2 P3 Q : Prop} (h : P1 ∧ P2 ∧ P3 ∧ Q) : Q := h.2.2.2
theorem bel_goE {U V V2 : World} (h : Below U.heap.size U V) (h2 : Below V.heap.size V V2) : Below U.heap.size U V2 := h.trans (h2.mono h.size)
theorem bel_alE {U V : World} (h : Below U.heap.size U V) (o : Obj) : Below U.heap.size U (V.alloc o) := h.alloc h.size o
set_option maxHeartbeats 8000000 in
theorem roleOf_any (o : Opr) (cl : List Int) (a1 a2 a3 A : Option Addr) (c1 c2 c3 c : Nat) (w : World) (hV : OpV w w.heap.size o a1 a2 a3 c1 c2 c3) (hC : Lst w w.heap.size A c cl) (hc24 : cl.length ≤ 24) :
    Calls Tryd.prog 91 #[.agg #[.slice a1 o.pre.length c1, .slice a2 o.add.length c2, .slice a3 o.del.length c3, .int .i64 o.cost], .slice A cl.length c] w (RoPost w (rolOf o cl) (rolB o cl)) := by
  have hb0 : Below w.heap.size w ((w.alloc (.cells #[.slice a1 o.pre.length c1, .slice a2 o.add.length c2, .slice a3 o.del.length c3, .int .i64 o.cost] 79)).alloc (.cells #[.slice none 0 0, .nilFunc] 130)) := by go_grown
  have k0 : (((w.alloc (.cells #[.slice a1 o.pre.length c1, .slice a2 o.add.length c2, .slice a3 o.del.length c3, .int .i64 o.cost] 79)).alloc (.cells #[.slice none 0 0, .nilFunc] 130))).cell? ⟨w.heap.size, 0, none⟩ = some (.slice a1 o.pre.length c1) := by simp
  have k1 : (((w.alloc (.cells #[.slice a1 o.pre.length c1, .slice a2 o.add.length c2, .slice a3 o.del.length c3, .int .i64 o.cost] 79)).alloc (.cells #[.slice none 0 0, .nilFunc] 130))).cell? ⟨w.heap.size, 1, none⟩ = some (.slice a2 o.add.length c2) := by simp
  have k2 : (((w.alloc (.cells #[.slice a1 o.pre.length c1, .slice a2 o.add.length c2, .slice a3 o.del.length c3, .int .i64 o.cost] 79)).alloc (.cells #[.slice none 0 0, .nilFunc] 130))).cell? ⟨w.heap.size, 2, none⟩ = some (.slice a3 o.del.length c3) := by simp
  have hz : (((w.alloc (.cells #[.slice a1 o.pre.length c1, .slice a2 o.add.length c2, .slice a3 o.del.length c3, .int .i64 o.cost] 79)).alloc (.cells #[.slice none 0 0, .nilFunc] 130))).heap.size = w.heap.size + 2 := by simp
  have hTw : Two (((w.alloc (.cells #[.slice a1 o.pre.length c1, .slice a2 o.add.length c2, .slice a3 o.del.length c3, .int .i64 o.cost] 79)).alloc (.cells #[.slice none 0 0, .nilFunc] 130))) (w.heap.size + 1) (.slice none 0 0) .nilFunc := ⟨by simp, by simp, by simp, by simp, by simp⟩
  have HP := fun (W : World) (h : Below w.heap.size w W) => valuesOf_any A a1 c c1 cl o.pre W (hC.to h h.size) (hV.pre.to h h.size) hc24
  have HA := fun (W : World) (h : Below w.heap.size w W) => valuesOf_any A a2 c c2 cl o.add W (hC.to h h.size) (hV.add.to h h.size) hc24
  have HD := fun (W : World) (h : Below w.heap.size w W) => valuesOf_any A a3 c c3 cl o.del W (hC.to h h.size) (hV.del.to h h.size) hc24
  clear hV hC
  go_enter Tryd.func91, Tryd.ntmps91
  go_wp2
  generalize hU : ((w.alloc (.cells #[.slice a1 o.pre.length c1, .slice a2 o.add.length c2, .slice a3 o.del.length c3, .int .i64 o.cost] 79)).alloc (.cells #[.slice none 0 0, .nilFunc] 130)) = U at *
  clear hU
  have hU0 : Below U.heap.size U U := Below.refl _ _
  have HB0 := Lib.hid hb0
  have hlt : w.heap.size < U.heap.size := by omega
  have SS := Lib.hid (fun (V : World) (h : Below U.heap.size U V) => (⟨(h.cell (p := ⟨w.heap.size, 0, none⟩) hlt).trans k0, (h.cell (p := ⟨w.heap.size, 1, none⟩) hlt).trans k1, (h.cell (p := ⟨w.heap.size, 2, none⟩) hlt).trans k2, h⟩ : V.cell? ⟨w.heap.size, 0, none⟩ = some (.slice a1 o.pre.length c1) ∧ V.cell? ⟨w.heap.size, 1, none⟩ = some (.slice a2 o.add.length c2) ∧ V.cell? ⟨w.heap.size, 2, none⟩ = some (.slice a3 o.del.length c3) ∧ Below U.heap.size U V))
  have HP := Lib.hid (fun (W : World) (h : Below U.heap.size U W) => HP W (HB0.out.trans (h.mono HB0.out.size)))
  have HA := Lib.hid (fun (W : World) (h : Below U.heap.size U W) => HA W (HB0.out.trans (h.mono HB0.out.size)))
  have HD := Lib.hid (fun (W : World) (h : Below U.heap.size U W) => HD W (HB0.out.trans (h.mono HB0.out.size)))
  have hS0 := SS.out U hU0
  have HTw := Lib.hid (fun (V : World) (h : Below U.heap.size U V) => hTw.to h (by omega))
  clear hb0 k0 k1 k2 hTw
  have HZ := Lib.hid hz
  clear hz
  go_cut [6, 7, 8] from 11 to 22 (fun v p7 p8 wx => RoC U o cl v p7 p8 wx)
  case first =>
    go_region_held3 (fun V => V.cell? ⟨w.heap.size, 0, none⟩ = some (.slice a1 o.pre.length c1) ∧ V.cell? ⟨w.heap.size, 1, none⟩ = some (.slice a2 o.add.length c2) ∧ V.cell? ⟨w.heap.size, 2, none⟩ = some (.slice a3 o.del.length c3) ∧ Below U.heap.size U V) (first | assumption | (refine ⟨?_, ?_, ?_, ?_⟩ <;> assumption) | (refine SS.out _ ?_; (repeat' (first | (with_reducible exact hU0) | (with_reducible refine bel_alE ?_ _) | (with_reducible refine Below.drew ?_) | (with_reducible refine Below.setCell ?_ ?_ _) | (with_reducible refine bel_goE ?_ hb3) | (with_reducible refine bel_goE ?_ hb2) | (with_reducible refine bel_goE ?_ hb1) | (simp; done) | (simp; omega) | omega)); done)) (first | (go_at_call 74; (with_reducible refine (HP.out _ ?_).mono ?_); (first | exact (last4 (by assumption)) | exact (bel_alE (last4 (by assumption)) _) | exact (Below.drew (last4 (by assumption)))); rintro e w1 ⟨v1, rfl, ho1, hb1⟩; obtain ⟨s1, m1, rfl, _⟩ := slL_own ho1; have hz1 := hb1.size; (try simp at hz1); (first | (refine have_oneE (g := U.heap.size) (u := .slice none 0 0) hb1 ?_ (fun a1 => ?_); (first | exact ⟨by assumption, by assumption, by assumption⟩ | exact One.alloc ⟨by assumption, by assumption, by assumption⟩ _ | exact One.alloc (One.alloc ⟨by assumption, by assumption, by assumption⟩ _) _ | (refine ⟨?_, ?_, ?_⟩ <;> (first | assumption | (simp; done) | (simp; omega) | (simp; assumption)))); have Za1 := Lib.hid a1; obtain ⟨pa1, qa1, ra1⟩ := a1) | skip); (first | (refine have_oneE (g := U.heap.size + 1) (u := .slice none 0 0) hb1 ?_ (fun b1 => ?_); (first | exact ⟨by assumption, by assumption, by assumption⟩ | exact One.alloc ⟨by assumption, by assumption, by assumption⟩ _ | exact One.alloc (One.alloc ⟨by assumption, by assumption, by assumption⟩ _) _ | (refine ⟨?_, ?_, ?_⟩ <;> (first | assumption | (simp; done) | (simp; omega) | (simp; assumption)))); have Zb1 := Lib.hid b1; obtain ⟨pb1, qb1, rb1⟩ := b1) | skip)) | (go_at_call 74; (with_reducible refine (HA.out _ ?_).mono ?_); (first | exact (last4 (by assumption)) | exact (bel_alE (last4 (by assumption)) _) | exact (Below.drew (last4 (by assumption)))); rintro e w2 ⟨v2, rfl, ho2, hb2⟩; obtain ⟨s2, m2, rfl, _⟩ := slL_own ho2; have hz2 := hb2.size; (try simp at hz2); (first | (refine have_oneE (g := U.heap.size) (u := .slice none 0 0) hb2 ?_ (fun a2 => ?_); (first | exact ⟨by assumption, by assumption, by assumption⟩ | exact One.alloc ⟨by assumption, by assumption, by assumption⟩ _ | exact One.alloc (One.alloc ⟨by assumption, by assumption, by assumption⟩ _) _ | (refine ⟨?_, ?_, ?_⟩ <;> (first | assumption | (simp; done) | (simp; omega) | (simp; assumption)))); have Za2 := Lib.hid a2; obtain ⟨pa2, qa2, ra2⟩ := a2) | skip); (first | (refine have_oneE (g := U.heap.size + 1) (u := .slice none 0 0) hb2 ?_ (fun b2 => ?_); (first | exact ⟨by assumption, by assumption, by assumption⟩ | exact One.alloc ⟨by assumption, by assumption, by assumption⟩ _ | exact One.alloc (One.alloc ⟨by assumption, by assumption, by assumption⟩ _) _ | (refine ⟨?_, ?_, ?_⟩ <;> (first | assumption | (simp; done) | (simp; omega) | (simp; assumption)))); have Zb2 := Lib.hid b2; obtain ⟨pb2, qb2, rb2⟩ := b2) | skip); (first | (refine have_oneE (g := w1.heap.size) (u := .slice none 0 0) hb2 ?_ (fun c2 => ?_); (first | exact ⟨by assumption, by assumption, by assumption⟩ | exact One.alloc ⟨by assumption, by assumption, by assumption⟩ _ | exact One.alloc (One.alloc ⟨by assumption, by assumption, by assumption⟩ _) _ | (refine ⟨?_, ?_, ?_⟩ <;> (first | assumption | (simp; done) | (simp; omega) | (simp; assumption)))); have Zc2 := Lib.hid c2; obtain ⟨pc2, qc2, rc2⟩ := c2) | skip); (first | (refine have_oneE (g := w1.heap.size + 1) (u := .slice none 0 0) hb2 ?_ (fun d2 => ?_); (first | exact ⟨by assumption, by assumption, by assumption⟩ | exact One.alloc ⟨by assumption, by assumption, by assumption⟩ _ | exact One.alloc (One.alloc ⟨by assumption, by assumption, by assumption⟩ _) _ | (refine ⟨?_, ?_, ?_⟩ <;> (first | assumption | (simp; done) | (simp; omega) | (simp; assumption)))); have Zd2 := Lib.hid d2; obtain ⟨pd2, qd2, rd2⟩ := d2) | skip)) | (go_at_call 74; (with_reducible refine (HD.out _ ?_).mono ?_); (first | exact (last4 (by assumption)) | exact (bel_alE (last4 (by assumption)) _) | exact (Below.drew (last4 (by assumption)))); rintro e w3 ⟨v3, rfl, ho3, hb3⟩; obtain ⟨s3, m3, rfl, _⟩ := slL_own ho3; have hz3 := hb3.size; (try simp at hz3); (first | (refine have_oneE (g := U.heap.size) (u := .slice none 0 0) hb3 ?_ (fun a3 => ?_); (first | exact ⟨by assumption, by assumption, by assumption⟩ | exact One.alloc ⟨by assumption, by assumption, by assumption⟩ _ | exact One.alloc (One.alloc ⟨by assumption, by assumption, by assumption⟩ _) _ | (refine ⟨?_, ?_, ?_⟩ <;> (first | assumption | (simp; done) | (simp; omega) | (simp; assumption)))); have Za3 := Lib.hid a3; obtain ⟨pa3, qa3, ra3⟩ := a3) | skip); (first | (refine have_oneE (g := U.heap.size + 1) (u := .slice none 0 0) hb3 ?_ (fun b3 => ?_); (first | exact ⟨by assumption, by assumption, by assumption⟩ | exact One.alloc ⟨by assumption, by assumption, by assumption⟩ _ | exact One.alloc (One.alloc ⟨by assumption, by assumption, by assumption⟩ _) _ | (refine ⟨?_, ?_, ?_⟩ <;> (first | assumption | (simp; done) | (simp; omega) | (simp; assumption)))); have Zb3 := Lib.hid b3; obtain ⟨pb3, qb3, rb3⟩ := b3) | skip); (first | (refine have_oneE (g := w1.heap.size) (u := .slice none 0 0) hb3 ?_ (fun c3 => ?_); (first | exact ⟨by assumption, by assumption, by assumption⟩ | exact One.alloc ⟨by assumption, by assumption, by assumption⟩ _ | exact One.alloc (One.alloc ⟨by assumption, by assumption, by assumption⟩ _) _ | (refine ⟨?_, ?_, ?_⟩ <;> (first | assumption | (simp; done) | (simp; omega) | (simp; assumption)))); have Zc3 := Lib.hid c3; obtain ⟨pc3, qc3, rc3⟩ := c3) | skip); (first | (refine have_oneE (g := w1.heap.size + 1) (u := .slice none 0 0) hb3 ?_ (fun d3 => ?_); (first | exact ⟨by assumption, by assumption, by assumption⟩ | exact One.alloc ⟨by assumption, by assumption, by assumption⟩ _ | exact One.alloc (One.alloc ⟨by assumption, by assumption, by assumption⟩ _) _ | (refine ⟨?_, ?_, ?_⟩ <;> (first | assumption | (simp; done) | (simp; omega) | (simp; assumption)))); have Zd3 := Lib.hid d3; obtain ⟨pd3, qd3, rd3⟩ := d3) | skip); (first | (refine have_oneE (g := w2.heap.size) (u := .slice none 0 0) hb3 ?_ (fun e3 => ?_); (first | exact ⟨by assumption, by assumption, by assumption⟩ | exact One.alloc ⟨by assumption, by assumption, by assumption⟩ _ | exact One.alloc (One.alloc ⟨by assumption, by assumption, by assumption⟩ _) _ | (refine ⟨?_, ?_, ?_⟩ <;> (first | assumption | (simp; done) | (simp; omega) | (simp; assumption)))); have Ze3 := Lib.hid e3; obtain ⟨pe3, qe3, re3⟩ := e3) | skip); (first | (refine have_oneE (g := w2.heap.size + 1) (u := .slice none 0 0) hb3 ?_ (fun f3 => ?_); (first | exact ⟨by assumption, by assumption, by assumption⟩ | exact One.alloc ⟨by assumption, by assumption, by assumption⟩ _ | exact One.alloc (One.alloc ⟨by assumption, by assumption, by assumption⟩ _) _ | (refine ⟨?_, ?_, ?_⟩ <;> (first | assumption | (simp; done) | (simp; omega) | (simp; assumption)))); have Zf3 := Lib.hid f3; obtain ⟨pf3, qf3, rf3⟩ := f3) | skip)))
    all_goals
      go_wp2
      go_meet
      have n12 : w1.heap.size ≤ w2.heap.size := (by omega)
      have n23 : w2.heap.size ≤ w3.heap.size := (by omega)
      refine roC_mk (slL_on ho1) (slL_on ho2) (slL_on ho3) ?_ ?_ ?_ ?_ ?_ ?_ ?_ ?_ ?_ ?_ ?_ ?_ ?_ ?_ ?_ ?_
      all_goals first
        | ((repeat' (first | (with_reducible exact Eqr.refl _ _ _) | (with_reducible refine Eqr.set ?_ ?_ _) | (with_reducible refine Eqr.alloc ?_ ?_ _) | (with_reducible refine Eqr.drewN ?_ _) | (with_reducible refine Eqr.drew ?_) | (with_reducible refine Eqr.below ?_ hb3 ?_) | (with_reducible refine Eqr.below ?_ hb2 ?_) | (simp; done) | (simp; omega) | omega)); done)
        | ((repeat' (first | (with_reducible exact hU0) | (with_reducible refine bel_alE ?_ _) | (with_reducible refine Below.drew ?_) | (with_reducible refine Below.setCell ?_ ?_ _) | (with_reducible refine bel_goE ?_ hb3) | (with_reducible refine bel_goE ?_ hb2) | (with_reducible refine bel_goE ?_ hb1) | (simp; done) | (simp; omega) | omega)); done)
        | (simp; done)
        | (simp; omega)
        | (go_simp; done)
        | (simp [*]; done)
  case rest =>
    obtain ⟨s1, m1, b7, b8, v7, v8, rfl, rfl, rfl, l7, m7, l8, m8, hbU, hOn⟩ := hcut
    obtain ⟨q1, q2, q3, q4, q5⟩ := hOn.out
    obtain ⟨s2, m2, rfl, _⟩ := q3
    obtain ⟨s3, m3, rfl, _⟩ := q5
    clear q1
    have HON := Lib.hid hOn
    have HBU := Lib.hid hbU
    have hsz := hbU.size
    obtain ⟨_, t0, t1, f0, f1⟩ := HTw.out _ hbU
    have hz2 : w.heap.size + 2 ≤ U.heap.size := Nat.le_of_eq HZ.out.symm
    have hz3 : w.heap.size + 1 < wc.heap.size := (by first | (simp; done) | (simp; omega) | omega | (simp [World.setCell]; done) | (simp [World.setCell]; omega))
    have hz0 : w.heap.size < wc.heap.size := (by omega)
    have hn7 : ¬ (b7 = w.heap.size + 1) := (by first | (simp; done) | (simp; omega) | omega | (simp [World.setCell]; done) | (simp [World.setCell]; omega))
    have hn8 : ¬ (b8 = w.heap.size + 1) := (by first | (simp; done) | (simp; omega) | omega | (simp [World.setCell]; done) | (simp [World.setCell]; omega))
    have HR := Lib.hid (show rolB o cl = (decide ((valL cl o.pre).length ≤ 1) && decide ((valL cl o.add).length ≤ 1)) from rfl)
    have HRO := Lib.hid (show rolOf o cl = ⟨if 0 < (valL cl o.pre).length then valL cl o.pre else if (valL cl o.add).length = 0 ∧ 0 < (valL cl o.del).length then cntL (cl.length + 1) else [-1], valL cl o.add, valL cl o.del, cl.length⟩ from rfl)
    clear HP HA HD SS hOn hbU hU0 hS0
    generalize valL cl o.pre = P1 at *
    generalize valL cl o.add = P2 at *
    generalize valL cl o.del = P3 at *
    have HTC := Lib.hid (HTw.out _ HBU.out)
    have HBW := Lib.hid (HB0.out.trans (HBU.out.mono HB0.out.size))
    clear HP HA HD
    by_cases h1 : 1 < P1.length
    · have d1 : decide ((1 : Int) < (P1.length : Int)) = true := decide_eq_true (by first | (simp; done) | (simp; omega) | omega | (simp [World.setCell]; done) | (simp [World.setCell]; omega))
      have e1 : decide (1 < P1.length) = true := decide_eq_true h1
      have H := Lib.hid (show rolB o cl = false by rw [HR.out, decide_eq_false (by first | (simp; done) | (simp; omega) | omega | (simp [World.setCell]; done) | (simp [World.setCell]; omega))]; rfl)
      clear h1
      go_wp2
      refine post_role (g := w.heap.size + 1) (x := .slice none 0 0) (y := .nilFunc) Tryd.results91 rfl ((HTC.out.set _ _).alloc _) ?_
      exact ⟨_, _, by rw [H.out]; rfl, ((HBW.out.setCell (by first | (simp; done) | (simp; omega) | omega | (simp [World.setCell]; done) | (simp [World.setCell]; omega)) _).setCell (by first | (simp; done) | (simp; omega) | omega | (simp [World.setCell]; done) | (simp [World.setCell]; omega)) _).alloc (by first | (simp; done) | (simp; omega) | omega | (simp [World.setCell]; done) | (simp [World.setCell]; omega)) _, (fun h => by rw [H.out] at h; cases h), fun _ => ⟨rfl, rfl⟩⟩
    have d1 : decide ((1 : Int) < (P1.length : Int)) = false := decide_eq_false (by first | (simp; done) | (simp; omega) | omega | (simp [World.setCell]; done) | (simp [World.setCell]; omega))
    have e1 : decide (1 < P1.length) = false := decide_eq_false h1
    by_cases h2 : 1 < P2.length
    · have d2 : decide ((1 : Int) < (P2.length : Int)) = true := decide_eq_true (by first | (simp; done) | (simp; omega) | omega | (simp [World.setCell]; done) | (simp [World.setCell]; omega))
      have e2 : decide (1 < P2.length) = true := decide_eq_true h2
      have H := Lib.hid (show rolB o cl = false by rw [HR.out, decide_eq_false (p := P2.length ≤ 1) (by first | (simp; done) | (simp; omega) | omega | (simp [World.setCell]; done) | (simp [World.setCell]; omega)), Bool.and_false])
      clear h1 h2
      go_wp2
      refine post_role (g := w.heap.size + 1) (x := .slice none 0 0) (y := .nilFunc) Tryd.results91 rfl ((HTC.out.set _ _).alloc _) ?_
      exact ⟨_, _, by rw [H.out]; rfl, ((HBW.out.setCell (by first | (simp; done) | (simp; omega) | omega | (simp [World.setCell]; done) | (simp [World.setCell]; omega)) _).setCell (by first | (simp; done) | (simp; omega) | omega | (simp [World.setCell]; done) | (simp [World.setCell]; omega)) _).alloc (by first | (simp; done) | (simp; omega) | omega | (simp [World.setCell]; done) | (simp [World.setCell]; omega)) _, (fun h => by rw [H.out] at h; cases h), fun _ => ⟨rfl, rfl⟩⟩
    have d2 : decide ((1 : Int) < (P2.length : Int)) = false := decide_eq_false (by first | (simp; done) | (simp; omega) | omega | (simp [World.setCell]; done) | (simp [World.setCell]; omega))
    have e2 : decide (1 < P2.length) = false := decide_eq_false h2
    have HT := Lib.hid (show rolB o cl = true by rw [HR.out, decide_eq_true (by first | (simp; done) | (simp; omega) | omega | (simp [World.setCell]; done) | (simp [World.setCell]; omega)), decide_eq_true (by first | (simp; done) | (simp; omega) | omega | (simp [World.setCell]; done) | (simp [World.setCell]; omega))]; rfl)
    have HCU := Lib.hid (fun (W : World) (asm : List Int) (va : Value) (h : rolOf o cl = ⟨asm, P2, P3, cl.length⟩) (hq : Eqr U.heap.size wc.heap.size wc W) (hz : wc.heap.size < W.heap.size) (hc : W.cell? ⟨wc.heap.size, 0, none⟩ = some (.int .i64 cl.length)) (ha : On (Rg w.heap.size W.heap.size) W (SlL asm va)) => ro_on h hz2 rfl HON.out hq hz hc hsz ha)
    by_cases h3 : 0 < P1.length
    · have d3 : decide ((0 : Int) < (P1.length : Int)) = true := decide_eq_true (by first | (simp; done) | (simp; omega) | omega | (simp [World.setCell]; done) | (simp [World.setCell]; omega))
      have e3 : decide (0 < P1.length) = true := decide_eq_true h3
      have H := Lib.hid (show rolOf o cl = ⟨P1, P2, P3, cl.length⟩ by rw [HRO.out, if_pos h3])
      clear h1 h2 h3
      go_wp2
      refine post_role (g := w.heap.size + 1) (x := .slice s1 P1.length m1) (y := _) Tryd.results91 rfl ((HTC.out.set _ _).alloc _) ?_
      refine ⟨_, _, by rw [HT.out]; rfl, ((HBW.out.setCell (by first | (simp; done) | (simp; omega) | omega | (simp [World.setCell]; done) | (simp [World.setCell]; omega)) _).setCell (by first | (simp; done) | (simp; omega) | omega | (simp [World.setCell]; done) | (simp [World.setCell]; omega)) _).alloc (by first | (simp; done) | (simp; omega) | omega | (simp [World.setCell]; done) | (simp [World.setCell]; omega)) _, fun _ => HCU.out _ P1 _ H.out ?_ ?_ ?_ ?_, fun h => by rw [HT.out] at h; cases h⟩
      · exact (((Eqr.refl _ _ _).set (.inl (by first | (simp; done) | (simp; omega) | omega | (simp [World.setCell]; done) | (simp [World.setCell]; omega))) _).set (.inl (by first | (simp; done) | (simp; omega) | omega | (simp [World.setCell]; done) | (simp [World.setCell]; omega))) _).alloc (by first | (simp; done) | (simp; omega) | omega | (simp [World.setCell]; done) | (simp [World.setCell]; omega)) _
      · exact (by first | (simp; done) | (simp; omega) | omega | (simp [World.setCell]; done) | (simp [World.setCell]; omega))
      · exact cell_al (by first | (simp; done) | (simp; omega) | omega | (simp [World.setCell]; done) | (simp [World.setCell]; omega)) _ _
      · exact ((HON.out.map fun W q => q.1).mv ((((Eqr.refl _ _ _).set (.inl (by first | (simp; done) | (simp; omega) | omega | (simp [World.setCell]; done) | (simp [World.setCell]; omega))) _).set (.inl (by first | (simp; done) | (simp; omega) | omega | (simp [World.setCell]; done) | (simp [World.setCell]; omega))) _).alloc (by first | (simp; done) | (simp; omega) | omega | (simp [World.setCell]; done) | (simp [World.setCell]; omega)) _)).wide (by first | (simp; done) | (simp; omega) | omega | (simp [World.setCell]; done) | (simp [World.setCell]; omega)) (by first | (simp; done) | (simp; omega) | omega | (simp [World.setCell]; done) | (simp [World.setCell]; omega))
    have d3 : decide ((0 : Int) < (P1.length : Int)) = false := decide_eq_false (by first | (simp; done) | (simp; omega) | omega | (simp [World.setCell]; done) | (simp [World.setCell]; omega))
    have e3 : decide (0 < P1.length) = false := decide_eq_false h3
    by_cases h4 : P2.length = 0 ∧ 0 < P3.length
    · have d4 : ((P2.length : Int) == 0) = true := lz_yes h4.1
      have d5 : decide ((0 : Int) < (P3.length : Int)) = true := decide_eq_true (by first | (simp; done) | (simp; omega) | omega | (simp [World.setCell]; done) | (simp [World.setCell]; omega))
      have e5 : decide (0 < P3.length) = true := decide_eq_true h4.2
      have H := Lib.hid (show rolOf o cl = ⟨cntL (cl.length + 1), P2, P3, cl.length⟩ by rw [HRO.out, if_neg h3, if_pos h4])
      have HFN := Lib.hid (fun (W : World) => show Calls Tryd.prog 97 #[.int .i64 ((cl.length : Int) + 1)] W (IntsPost W (cntL (cl.length + 1))) from firstNumbers_any (cl.length + 1) W (by first | (simp; done) | (simp; omega) | omega | (simp [World.setCell]; done) | (simp [World.setCell]; omega)))
      clear h1 h2 h3 h4
      go_wp2_with (go_at_call 97; (with_reducible refine (HFN.out _).mono ?_); rintro e w4 ⟨v4, rfl, ho4, hb4⟩; have HO4 := Lib.hid ho4; have hs4 := slL_own ho4; obtain ⟨a4, c4, rfl, _⟩ := hs4; have HB4 := Lib.hid hb4; have hz4 := hb4.size; simp at hz4; have HT4 := Lib.hid ((HTC.out.alloc _).to hb4 (by first | (simp; done) | (simp; omega) | omega | (simp [World.setCell]; done) | (simp [World.setCell]; omega))); clear hb4 ho4; obtain ⟨_, p0, p1, g0, g1⟩ := HT4.out)
      refine post_role (g := w.heap.size + 1) (x := _) (y := _) Tryd.results91 rfl (HT4.out.set _ _) ?_
      refine ⟨_, _, by rw [HT.out]; rfl, ?_, fun _ => HCU.out _ _ _ H.out ?_ ?_ ?_ ?_, fun h => by rw [HT.out] at h; cases h⟩
      · exact (((HBW.out.alloc (by first | (simp; done) | (simp; omega) | omega | (simp [World.setCell]; done) | (simp [World.setCell]; omega)) _).trans (HB4.out.mono (by first | (simp; done) | (simp; omega) | omega | (simp [World.setCell]; done) | (simp [World.setCell]; omega)))).setCell (by first | (simp; done) | (simp; omega) | omega | (simp [World.setCell]; done) | (simp [World.setCell]; omega)) _).setCell (by first | (simp; done) | (simp; omega) | omega | (simp [World.setCell]; done) | (simp [World.setCell]; omega)) _
      · exact ((((Eqr.refl _ _ _).alloc (Nat.le_refl _) _).below HB4.out (by first | (simp; done) | (simp; omega) | omega | (simp [World.setCell]; done) | (simp [World.setCell]; omega))).set (.inl (by first | (simp; done) | (simp; omega) | omega | (simp [World.setCell]; done) | (simp [World.setCell]; omega))) _).set (.inl (by first | (simp; done) | (simp; omega) | omega | (simp [World.setCell]; done) | (simp [World.setCell]; omega))) _
      · exact (by first | (simp; done) | (simp; omega) | omega | (simp [World.setCell]; done) | (simp [World.setCell]; omega))
      · rw [World.cell?_setCell_other _ _ _ _ (by first | (simp; done) | (simp; omega) | omega | (simp [World.setCell]; done) | (simp [World.setCell]; omega)), World.cell?_setCell_other _ _ _ _ (by first | (simp; done) | (simp; omega) | omega | (simp [World.setCell]; done) | (simp [World.setCell]; omega))]
        rw [HB4.out.cell (p := ⟨wc.heap.size, 0, none⟩) (by first | (simp; done) | (simp; omega) | omega | (simp [World.setCell]; done) | (simp [World.setCell]; omega))]
        simp
      · exact (((slL_on HO4.out).mv (((Eqr.refl _ _ _).set (.inl (by first | (simp; done) | (simp; omega) | omega | (simp [World.setCell]; done) | (simp [World.setCell]; omega))) _).set (.inl (by first | (simp; done) | (simp; omega) | omega | (simp [World.setCell]; done) | (simp [World.setCell]; omega))) _)).wide (by first | (simp; done) | (simp; omega) | omega | (simp [World.setCell]; done) | (simp [World.setCell]; omega)) (by first | (simp; done) | (simp; omega) | omega | (simp [World.setCell]; done) | (simp [World.setCell]; omega)))
    · have H := Lib.hid (show rolOf o cl = ⟨[-1], P2, P3, cl.length⟩ by rw [HRO.out, if_neg h3, if_neg h4])
      have hcs : ((P2.length : Int) == 0) = false ∨ (((P2.length : Int) == 0) = true ∧ decide ((0 : Int) < (P3.length : Int)) = false ∧ decide (0 < P3.length) = false) := by
        by_cases hp : P2.length = 0
        · right
          have : ¬ 0 < P3.length := fun h => h4 ⟨hp, h⟩
          exact ⟨lz_yes hp, decide_eq_false (by first | (simp; done) | (simp; omega) | omega | (simp [World.setCell]; done) | (simp [World.setCell]; omega)), decide_eq_false this⟩
        · left; exact lz_no hp
      clear h1 h2 h3 h4
      have key : ∀ (WF : World), WF = (((wc.setCell ⟨w.heap.size + 1, 0, none⟩ (.slice (some ⟨wc.heap.size + 1, 0, none⟩) 1 1)).setCell ⟨w.heap.size + 1, 1, none⟩ (.func (.func 96) #[] #[.pointer (some ⟨b7, 0, none⟩), .pointer (some ⟨b8, 0, none⟩), .pointer (some ⟨wc.heap.size, 0, none⟩)])).alloc (.cells #[.int .i64 cl.length] 3)).alloc (.cells #[.int .i64 (-1)] 3) →
          RoPost w (rolOf o cl) (rolB o cl) (.returned (.tuple #[.agg #[.slice (some ⟨wc.heap.size + 1, 0, none⟩) 1 1, .func (.func 96) #[] #[.pointer (some ⟨b7, 0, none⟩), .pointer (some ⟨b8, 0, none⟩), .pointer (some ⟨wc.heap.size, 0, none⟩)]], .bool true])) WF := by
        rintro WF rfl
        refine ⟨_, _, by rw [HT.out], (((HBW.out.setCell (by first | (simp; done) | (simp; omega) | omega | (simp [World.setCell]; done) | (simp [World.setCell]; omega)) _).setCell (by first | (simp; done) | (simp; omega) | omega | (simp [World.setCell]; done) | (simp [World.setCell]; omega)) _).alloc (by first | (simp; done) | (simp; omega) | omega | (simp [World.setCell]; done) | (simp [World.setCell]; omega)) _).alloc (by first | (simp; done) | (simp; omega) | omega | (simp [World.setCell]; done) | (simp [World.setCell]; omega)) _, fun _ => HCU.out _ [-1] _ H.out ?_ ?_ ?_ ?_, fun h => by rw [HT.out] at h; cases h⟩
        · exact ((((Eqr.refl _ _ _).set (.inl (by first | (simp; done) | (simp; omega) | omega | (simp [World.setCell]; done) | (simp [World.setCell]; omega))) _).set (.inl (by first | (simp; done) | (simp; omega) | omega | (simp [World.setCell]; done) | (simp [World.setCell]; omega))) _).alloc (by first | (simp; done) | (simp; omega) | omega | (simp [World.setCell]; done) | (simp [World.setCell]; omega)) _).alloc (by first | (simp; done) | (simp; omega) | omega | (simp [World.setCell]; done) | (simp [World.setCell]; omega)) _
        · exact (by first | (simp; done) | (simp; omega) | omega | (simp [World.setCell]; done) | (simp [World.setCell]; omega))
        · exact (cell_far (by first | (simp; done) | (simp; omega) | omega | (simp [World.setCell]; done) | (simp [World.setCell]; omega))).trans (cell_al (by first | (simp; done) | (simp; omega) | omega | (simp [World.setCell]; done) | (simp [World.setCell]; omega)) _ _)
        · have ho := own_one (((wc.setCell ⟨w.heap.size + 1, 0, none⟩ (.slice (some ⟨wc.heap.size + 1, 0, none⟩) 1 1)).setCell ⟨w.heap.size + 1, 1, none⟩ (.func (.func 96) #[] #[.pointer (some ⟨b7, 0, none⟩), .pointer (some ⟨b8, 0, none⟩), .pointer (some ⟨wc.heap.size, 0, none⟩)])).alloc (.cells #[.int .i64 cl.length] 3)) (.int .i64 (-1))
          have hon := (slL_on (l := [-1]) ho).wide (a2 := w.heap.size) (by first | (simp; done) | (simp; omega) | omega | (simp [World.setCell]; done) | (simp [World.setCell]; omega)) (Nat.le_refl _)
          simpa using hon
      have hT2 : ∀ x y, Two ((((wc.setCell ⟨w.heap.size + 1, 0, none⟩ x).setCell ⟨w.heap.size + 1, 1, none⟩ y).alloc (.cells #[.int .i64 cl.length] 3)).alloc (.cells #[.int .i64 (-1)] 3)) (w.heap.size + 1) x y := fun x y => ((HTC.out.set _ _).alloc _).alloc _
      have KEY := Lib.hid key
      have HT2 := Lib.hid hT2
      clear key hT2
      rcases hcs with d4 | ⟨d4, d5, e5⟩
      all_goals
        go_wp2
        refine post_role (g := w.heap.size + 1) (x := _) (y := _) Tryd.results91 rfl (HT2.out _ _) ?_
        exact KEY.out _ rfl
end Go.Proofs.YtiaobanloakplaaDoor

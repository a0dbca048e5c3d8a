/- Package encode: under, the walk. -/
import Derived.Test.YtiaobanloakplaaDoorEun
namespace Go.Proofs.YtiaobanloakplaaDoor
open Go.RowKit
set_option linter.unusedSimpArgs false
set_option linter.unusedVariables false
set_option maxRecDepth 100000

def UCut (w wr : World) (vf v1 : Value) (p q : List Asg) (c : Int) (wx : World) : Prop := ∃ v0, UL w wx v0 v1 v0 v1 p q c ∧ wx.cell? ⟨wr.heap.size, 1, none⟩ = some vf ∧ wr.heap.size < wx.heap.size
section
variable {fn : Func} {R : Ending → World → Prop} {tmps : Array Value} {W : World} {s : Tmp} {g : Nat} {x y z : Value}
theorem post_mop (hres : fn.results = #[.cell s 75]) (ht : tmps.getD s undef = .pointer (some ⟨g, 0, none⟩)) (h0 : W.cell? ⟨g, 0, none⟩ = some x) (h1 : W.cell? ⟨g, 1, none⟩ = some y) (h2 : W.cell? ⟨g, 2, none⟩ = some z) (hR : R (.returned (.agg #[x, y, z])) W) :
    bodyPost Tryd.prog fn R .ret { tmps := tmps, defers := [] } W := by
  refine bodyPost_ret (v := .agg #[x, y, z]) ?_ rfl hR
  simp only [results, hres]
  rw [Array.getD_eq_getD_getElem?] at ht
  simp [go_sem, ht, h0, h1, h2]
end
theorem un_mk {w W : World} {rs : List Rol} {b : List Int} {cost : Int} {k : Nat} {v0 v1 : Value} (h : (undN rs b cost rs.length).pre = prN rs b rs.length ∧ (undN rs b cost rs.length).post = poN rs b rs.length ∧ (undN rs b cost rs.length).cost = cost)
    (hk : k = rs.length) (hb : Below w.heap.size w W) (hO : On (Rg w.heap.size W.heap.size) W (fun W => SlA (prN rs b k) v0 W ∧ SlA (poN rs b k) v1 W)) : UnPost w (und rs cost b) (.returned (.agg #[v0, v1, .int .i64 cost])) W := by
  obtain ⟨e1, e2, e3⟩ := h
  subst hk
  refine ⟨v0, v1, ?_, hb, ?_⟩
  · show _ = Ending.returned (.agg #[_, _, .int .i64 (undN rs b cost rs.length).cost]); rw [e3]
  · show On _ _ (fun W => SlA (undN rs b cost rs.length).pre _ W ∧ SlA (undN rs b cost rs.length).post _ W)
    rw [e1, e2]
    exact hO
set_option maxHeartbeats 4000000 in
theorem under_any (rs : List Rol) (b : List Int) (cost : Int) (a B : Option Addr) (c d : Nat) (w : World) (hR : SlRs rs (.slice a rs.length c) w) (hB : Lst w w.heap.size B d b) (hlb : b.length = rs.length) (h8 : rs.length ≤ 8) :
    Calls Tryd.prog 78 #[.slice a rs.length c, .slice B b.length d, .int .i64 cost] w (UnPost w (und rs cost b)) := by
  have HR := Lib.hid hR
  have HB := Lib.hid (fun (W : World) (h : Below w.heap.size w W) => hB.to h h.size)
  have HB0 := Lib.hid hB
  have HLB := Lib.hid hlb
  have HE := Lib.hid (und_pp rs b cost rs.length)
  clear hR hB hlb
  obtain ⟨j0, hja, hy0, hy1, hy2⟩ := info_parts info_as
  go_enter Tryd.func78, Tryd.ntmps78
  go_wp2
  go_loopw [15] (fun i wr => ∃ (k : Nat) (v0 v1 : Value), k ≤ rs.length ∧ i = .int .i64 k ∧ UL w wr v0 v1 v0 v1 (prN rs b k) (poN rs b k) cost) (fun i _ => rs.length - (intOf i).toNat)
  case atStart =>
    refine ⟨0, .slice none 0 0, .slice none 0 0, by omega, rfl, ?_⟩
    exact ⟨by go_grown, by simp, by simp, by simp, by simp, by simp, by simp, by simp, by simp, by simp, by simp, by simp, by simp, World.ownsRow_nil _ _ _ _, World.ownsRow_nil _ _ _ _, .inl rfl⟩
  case round =>
    obtain ⟨k, v0, v1, hk, rfl, hu⟩ := hrel
    have HU := Lib.hid hu
    clear hu
    by_cases hlt : k < rs.length
    case neg =>
      have hge : ¬ ((k : Int) < rs.length) := by omega
      have H := Lib.hid (show k = rs.length by omega)
      obtain ⟨hb, hl, r0, r1, r2, g0, g1, g2, c0, c1, c2, f0, f1, o0, o1, ne⟩ := HU.out
      have s0 := slA_on o0
      have s1 := slA_on o1
      have hv0 := s0.out
      obtain ⟨a0, m0, rfl, _⟩ := hv0
      have hv1 := s1.out
      obtain ⟨a1, m1, rfl, _⟩ := hv1
      have HS := Lib.hid (s0.and s1)
      have HBB := Lib.hid hb
      clear s0 s1 o0 o1 ne hb
      go_wp2
      have HR0 := Lib.hid (⟨r0, r1, r2⟩ : wr.cell? ⟨w.heap.size, 0, none⟩ = some (.slice none 0 0) ∧ wr.cell? ⟨w.heap.size, 1, none⟩ = some (.slice none 0 0) ∧ wr.cell? ⟨w.heap.size, 2, none⟩ = some (.int .i64 0))
      refine post_mop (g := w.heap.size) (x := .slice a0 (prN rs b k).length m0) (y := .slice a1 (poN rs b k).length m1) (z := .int .i64 cost) Tryd.results78 rfl ?_ ?_ ?_ ?_
      · rw [World.cell?_setCell_other _ _ _ _ (by simp), World.cell?_setCell_other _ _ _ _ (by simp)]; exact World.cell?_setCell_same' _ _ _ (by rw [HR0.out.1]; rfl)
      · rw [World.cell?_setCell_other _ _ _ _ (by simp)]; exact World.cell?_setCell_same' _ _ _ (by rw [World.cell?_setCell_other _ _ _ _ (by simp), HR0.out.2.1]; rfl)
      · exact World.cell?_setCell_same' _ _ _ (by rw [World.cell?_setCell_other _ _ _ _ (by simp), World.cell?_setCell_other _ _ _ _ (by simp), HR0.out.2.2]; rfl)
      exact un_mk HE.out H.out (((HBB.out.setCell (by simp) _).setCell (by simp) _).setCell (by simp) _) ((HS.out.mv ((((Eqr.refl _ _ _).set (.inl (by first | (simp; done) | (simp; omega) | omega | (simp [World.setCell]; done) | (simp [World.setCell]; omega))) _).set (.inl (by first | (simp; done) | (simp; omega) | omega | (simp [World.setCell]; done) | (simp [World.setCell]; omega))) _).set (.inl (by first | (simp; done) | (simp; omega) | omega | (simp [World.setCell]; done) | (simp [World.setCell]; omega))) _)).wide (by first | (simp; done) | (simp; omega) | omega | (simp [World.setCell]; done) | (simp [World.setCell]; omega)) (by first | (simp; done) | (simp; omega) | omega | (simp [World.setCell]; done) | (simp [World.setCell]; omega)))
    obtain ⟨a2, c2, e, _, _, hc⟩ := HR.out
    obtain ⟨b3, o3, va, vf, q1, q2, q3, q4, ⟨sa, sc, rfl, hsa⟩, hrf⟩ := hc k hlt
    have hrf2 := hrf
    obtain ⟨g1, g2, g3, z1, z2, rfl, _⟩ := hrf2
    injection e with e1 e2 e3
    subst e1
    subst q1
    have q3w := (HU.out.below.cell (p := ⟨b3, o3 + k * 2, none⟩) q2).trans q3
    have q4w := (HU.out.below.cell (p := ⟨b3, o3 + k * 2 + 1, none⟩) q2).trans q4
    have HRF := Lib.hid (fun (W : World) (h : Below w.heap.size w W) => hrf.to h)
    have hltb : k < b.length := by have := HLB.out; omega
    obtain ⟨bb, ob, rfl, hbb, hcb⟩ := HB0.out.nums.at_ hltb
    have hcw := (HU.out.below.cell (p := ⟨bb, ob + k, none⟩) hbb).trans hcb
    have HCB := Lib.hid (fun (W : World) (h : Below w.heap.size w W) => (h.cell (p := ⟨bb, ob + k, none⟩) hbb).trans hcb)
    have HU1 := Lib.hid (HU.out.to ((Below.refl _ _).alloc (Nat.le_refl _) (.cells #[.slice sa (rol rs k).asm.length sc, .func (.func 96) #[] #[.pointer (some ⟨g1, 0, none⟩), .pointer (some ⟨g2, 0, none⟩), .pointer (some ⟨g3, 0, none⟩)]] 130)))
    have hbx : ((World.alloc wr (.cells #[.slice sa (rol rs k).asm.length sc, .func (.func 96) #[] #[.pointer (some ⟨g1, 0, none⟩), .pointer (some ⟨g2, 0, none⟩), .pointer (some ⟨g3, 0, none⟩)]] 130))).cell? ⟨wr.heap.size, 1, none⟩ = some (.func (.func 96) #[] #[.pointer (some ⟨g1, 0, none⟩), .pointer (some ⟨g2, 0, none⟩), .pointer (some ⟨g3, 0, none⟩)]) := by simp
    have hbz : wr.heap.size < ((World.alloc wr (.cells #[.slice sa (rol rs k).asm.length sc, .func (.func 96) #[] #[.pointer (some ⟨g1, 0, none⟩), .pointer (some ⟨g2, 0, none⟩), .pointer (some ⟨g3, 0, none⟩)]] 130))).heap.size := by simp
    have hltbi : (k : Int) < b.length := by omega
    have hbbw : bb < wr.heap.size := Nat.lt_of_lt_of_le hbb HU.out.below.size
    clear hc e2 e3 hrf hcb q3 q4
    go_upto_if 24 with fail
    generalize (World.alloc wr (.cells #[.slice sa (rol rs k).asm.length sc, .func (.func 96) #[] #[.pointer (some ⟨g1, 0, none⟩), .pointer (some ⟨g2, 0, none⟩), .pointer (some ⟨g3, 0, none⟩)]] 130)) = U at *
    go_cut [] from 24 to 35 (fun wx => UCut w wr (.func (.func 96) #[] #[.pointer (some ⟨g1, 0, none⟩), .pointer (some ⟨g2, 0, none⟩), .pointer (some ⟨g3, 0, none⟩)]) v1 (prN rs b (k + 1)) (poN rs b k) cost wx)
    case first =>
      by_cases e1 : ix b k = -1
      · have d1 : (ix b k != -1) = false := by simp [e1]
        have HP := Lib.hid (prN_no (rs := rs) e1)
        clear e1
        go_wp2
        go_meet
        exact ⟨v0, by rw [HP.out]; exact HU1.out, hbx, hbz⟩
      have d1 : (ix b k != -1) = true := by simpa using e1
      have HP := Lib.hid (prN_yes (rs := rs) e1)
      clear e1
      have HS0 := Lib.hid (fun (V : World) (h : UL w V v0 v1 v0 v1 (prN rs b k) (poN rs b k) cost) => show V.cell? ⟨w.heap.size + 1, 0, none⟩ = some v0 ∧ V.frozen? ⟨w.heap.size + 1, 0, none⟩ = false ∧ V.cell? ⟨bb, ob + k, none⟩ = some (.int .i64 (ix b k)) from ⟨h.c0, h.f0, HCB.out V h.below⟩)
      have HU2 := Lib.hid ((HU1.out.to (Below.refl _ _).drew).to ((Below.refl _ _).alloc (Nat.le_refl _) (.cells #[.int .i64 k, .int .i64 (ix b k)] 73)))
      have hle := prN_le rs b k
      go_wp2
      refine wp_region_F (S := (fun V => V.cell? ⟨w.heap.size + 1, 0, none⟩ = some v0 ∧ V.frozen? ⟨w.heap.size + 1, 0, none⟩ = false ∧ V.cell? ⟨bb, ob + k, none⟩ = some (.int .i64 (ix b k)))) 11 (by kernel_rfl) ?_ (fun hHeld => ?_)
      · exact HS0.out _ (HU1.out.to (Below.refl _ _).drew)
      refine wpAnyF_take (i := 0) (oi := _) (v := ?zv1) rfl (by kernel_rfl) (by kernel_rfl) (by kernel_rfl) (by kernel_rfl) (by kernel_rfl) (by kernel_rfl) (by kernel_rfl) (by kernel_rfl) (fun _ _ _ h => h) (Or.inl ⟨by rfl, ?zy1⟩) (by assumption) ?zr1
      case zy1 => (intro w hSw; (try dsimp only at hSw); go_simp; try (with_reducible rfl))
      try simp only [Act.put, List.setIfInBounds_toArray, List.set_cons_zero, List.set_cons_succ]
      refine wpAnyF_take (i := 1) (oi := _) (v := ?zv2) rfl (by kernel_rfl) (by kernel_rfl) (by kernel_rfl) (by kernel_rfl) (by kernel_rfl) (by kernel_rfl) (by kernel_rfl) (by kernel_rfl) (fun _ _ _ h => h) (Or.inl ⟨by rfl, ?zy2⟩) (by assumption) ?zr2
      case zy2 => (intro w hSw; (try dsimp only at hSw); go_simp; try (with_reducible rfl))
      try simp only [Act.put, List.setIfInBounds_toArray, List.set_cons_zero, List.set_cons_succ]
      refine wpAnyF_take (i := 2) (oi := _) (v := ?zv3) rfl (by kernel_rfl) (by kernel_rfl) (by kernel_rfl) (by kernel_rfl) (by kernel_rfl) (by kernel_rfl) (by kernel_rfl) (by kernel_rfl) (fun _ _ _ h => h) (Or.inl ⟨by rfl, ?zy3⟩) (by assumption) ?zr3
      case zy3 => (intro w hSw; (try dsimp only at hSw); go_simp; try (with_reducible rfl))
      try simp only [Act.put, List.setIfInBounds_toArray, List.set_cons_zero, List.set_cons_succ]
      refine wpAnyF_take (i := 3) (oi := _) (v := ?zv4) rfl (by kernel_rfl) (by kernel_rfl) (by kernel_rfl) (by kernel_rfl) (by kernel_rfl) (by kernel_rfl) (by kernel_rfl) (by kernel_rfl) (fun _ _ _ h => h) (Or.inl ⟨by rfl, ?zy4⟩) (by assumption) ?zr4
      case zy4 => (intro w hSw; (try dsimp only at hSw); go_simp; try (with_reducible rfl))
      try simp only [Act.put, List.setIfInBounds_toArray, List.set_cons_zero, List.set_cons_succ]
      refine wpAnyF_take (i := 4) (oi := _) (v := ?zv5) rfl (by kernel_rfl) (by kernel_rfl) (by kernel_rfl) (by kernel_rfl) (by kernel_rfl) (by kernel_rfl) (by kernel_rfl) (by kernel_rfl) (fun _ _ _ h => h) (Or.inl ⟨by rfl, ?zy5⟩) (by assumption) ?zr5
      case zy5 => (intro w hSw; (try dsimp only at hSw); go_simp; try (with_reducible rfl))
      try simp only [Act.put, List.setIfInBounds_toArray, List.set_cons_zero, List.set_cons_succ]
      refine wpAnyF_take (i := 5) (oi := _) (v := ?zv6) rfl (by kernel_rfl) (by kernel_rfl) (by kernel_rfl) (by kernel_rfl) (by kernel_rfl) (by kernel_rfl) (by kernel_rfl) (by kernel_rfl) (fun _ _ _ h => h) (Or.inl ⟨by rfl, ?zy6⟩) (by assumption) ?zr6
      case zy6 => (intro w hSw; (try dsimp only at hSw); go_simp; try (with_reducible rfl))
      try simp only [Act.put, List.setIfInBounds_toArray, List.set_cons_zero, List.set_cons_succ]
      refine wpAnyF_take (i := 6) (oi := _) (v := ?zv7) rfl (by kernel_rfl) (by kernel_rfl) (by kernel_rfl) (by kernel_rfl) (by kernel_rfl) (by kernel_rfl) (by kernel_rfl) (by kernel_rfl) (fun _ _ _ h => h) (Or.inl ⟨by rfl, ?zy7⟩) (by assumption) ?zr7
      case zy7 => (intro w hSw; (try dsimp only at hSw); go_simp; try (with_reducible rfl))
      try simp only [Act.put, List.setIfInBounds_toArray, List.set_cons_zero, List.set_cons_succ]
      refine wpAnyF_take (i := 7) (oi := _) (v := ?zv8) rfl (by kernel_rfl) (by kernel_rfl) (by kernel_rfl) (by kernel_rfl) (by kernel_rfl) (by kernel_rfl) (by kernel_rfl) (by kernel_rfl) (fun _ _ _ h => h) (Or.inl ⟨by rfl, ?zy8⟩) (by assumption) ?zr8
      case zy8 => (intro w hSw; (try dsimp only at hSw); go_simp; try (with_reducible rfl))
      try simp only [Act.put, List.setIfInBounds_toArray, List.set_cons_zero, List.set_cons_succ]
      refine wpAnyF_one (i := 8) (o := _) (by kernel_rfl) rfl (fun ZK9 hZK9 => ?_)
      go_simp
      refine hZK9.out _ _ ?_ (fun hHeld => ?_)
      · exact HS0.out _ HU2.out
      clear hZK9 ZK9
      try simp only [Act.put, List.setIfInBounds_toArray, List.set_cons_zero, List.set_cons_succ]
      refine wpAnyF_one (i := 9) (o := _) (by kernel_rfl) rfl (fun ZK10 hZK10 => ?_)
      (refine step_append_lies _ (by rfl) _ _ _ (by rfl) (w.heap.size + 2) 73 j0 (.agg #[.int .i64 0, .int .i64 0]) 2 16 Tryd.underlying35 hja hy0 hy1 hy2 rfl (by omega) v0 (prN rs b k).length (asgC (prN rs b k)) (by rfl) ?_ _ 1 1 [.int .i64 k, .int .i64 (ix b k)] (by rfl) (by rfl) ?_ (by simp [Value.oneCell']) (by omega) (by unfold maxLen; omega) (by omega) ?_ _ rfl ?_; (exact HU2.out.o0); (exact cell_two_new _ _ _ _); (have := HU2.out.lt; simp at this ⊢; omega); intro gg cap wA hown1 hgrow hat hlt1; have HA := Lib.hid (HU2.out.app0 hgrow (v2 := .slice (some ⟨gg, 0, none⟩) ((prN rs b k).length + 1) cap) (p2 := prN rs b k ++ [⟨(k : Int), ix b k⟩]) (by rcases hat with e | e; exact .inl e; exact .inr (by rw [e]; rfl)) (by rw [asgC_app, List.length_append]; exact hown1)); have HAG := Lib.hid hgrow)
      refine hZK10.out _ _ ?_ (fun hHeld => ?_)
      · exact ⟨HA.out.c0, HA.out.f0, HCB.out _ HA.out.below⟩
      clear hZK10 ZK10
      try simp only [Act.put, List.setIfInBounds_toArray, List.set_cons_zero, List.set_cons_succ]
      refine wpAnyF_take (i := 10) (oi := _) (v := ?zv11) rfl (by kernel_rfl) (by kernel_rfl) (by kernel_rfl) (by kernel_rfl) (by kernel_rfl) (by kernel_rfl) (by kernel_rfl) (by kernel_rfl) (fun _ _ _ h => h) (Or.inl ⟨by rfl, ?zy11⟩) (by assumption) ?zr11
      case zy11 => (intro w hSw; (try dsimp only at hSw); go_simp; try (with_reducible rfl))
      try simp only [Act.put, List.setIfInBounds_toArray, List.set_cons_zero, List.set_cons_succ]
      refine wpAnyF_end (o := _) (by kernel_rfl) rfl (by kernel_rfl) (fun ZK12 hZK12 => ?_)
      go_simp
      refine hZK12.out _ _ ?_
      clear hZK12 ZK12
      try simp only [Act.put, List.setIfInBounds_toArray, List.set_cons_zero, List.set_cons_succ]
      go_wp2
      go_meet
      have hlU := HU.out.lt
      have hbA : wA.cell? ⟨wr.heap.size, 1, none⟩ = some (.func (.func 96) #[] #[.pointer (some ⟨g1, 0, none⟩), .pointer (some ⟨g2, 0, none⟩), .pointer (some ⟨g3, 0, none⟩)]) := HAG.out.cell (cell_to (cell_to hbx (Below.refl _ _).drew) ((Below.refl _ _).alloc (Nat.le_refl _) _)) (fun e => by have := (HU.out.o0.lt _ e.symm).2; exact absurd this (Nat.lt_irrefl _))
      refine ⟨_, by rw [HP.out]; exact HA.out.put0, ?_, Nat.lt_of_lt_of_le hbz (by have h9 := HAG.out.size; have h8 : (wA.setCell ⟨w.heap.size + 1, 0, none⟩ (.slice (some ⟨gg, 0, none⟩) ((prN rs b k).length + 1) cap)).heap.size = wA.heap.size := (by simp [World.setCell]); rw [h8]; exact Nat.le_trans ((Below.refl _ _).drew.trans ((Below.refl _ _).alloc (Nat.le_refl _) _)).size h9)⟩
      rw [World.cell?_setCell_other _ _ _ _ (by first | (simp; done) | (simp; omega) | omega | (simp [World.setCell]; done) | (simp [World.setCell]; omega))]
      exact hbA
    case rest =>
      obtain ⟨v2, hu2, hbx2, hbz2⟩ := hcut
      have HU3 := Lib.hid hu2
      have hcb := HCB.out _ hu2.below
      obtain ⟨g1', g2', g3', y1, y2, e, k1, k2, k3, k4, k5⟩ := HRF.out _ hu2.below
      injection e with _ _ e4
      injection e4 with e4
      injection e4 with e4 e5
      injection e5 with e5 e6
      injection e6 with e6 _
      injection e4 with e4
      injection e4 with e4
      injection e4 with e4
      injection e5 with e5
      injection e5 with e5
      injection e5 with e5
      injection e6 with e6
      injection e6 with e6
      injection e6 with e6
      subst e4 e5 e6
      have HAR := Lib.hid (fun (n : Nat) => after_role (rol rs k) (ix b k) g1 g2 g3 y1 y2 (wc.drewN n) k1 (k2.to (dr_b _ _)) k3 (k4.to (dr_b _ _)) k5)
      clear k1 k2 k3 k4 k5 hu2
      generalize hav : aftR (rol rs k) (ix b k) = av at *
      have hpl := poN_le rs b k
      by_cases e2 : av = ix b k
      · have d2 : (av != ix b k) = false := by simp [e2]
        have HP := Lib.hid (poN_no (rs := rs) (hav.trans e2))
        clear e2 hav
        go_wp2
        go_quiet ((go_at_call 96; exact quiet_same (HAR.out _)))
        go_wp2
        go_roundw
        case rel => exact ⟨k + 1, _, _, by omega, by go_num, by rw [HP.out]; exact HU3.out.to (dr_b _ _)⟩
        case measure => simp [intOf]; omega
      have d2 : (av != ix b k) = true := by simpa using e2
      have HP := Lib.hid (poN_yes (rs := rs) (by rw [hav]; exact e2))
      rw [hav] at HP
      clear e2 hav
      go_wp2
      go_quiet ((go_at_call 96; exact quiet_same (HAR.out _)))
      have HU4 := Lib.hid ((HU3.out.to (dr_b wc nq)).to ((Below.refl _ _).alloc (Nat.le_refl _) (.cells #[.int .i64 k, .int .i64 av] 73)))
      have hc1 := HU3.out.c1
      have hf1 := HU3.out.f1
      have hlt4 := HU3.out.lt
      go_wp2_with (at_builtin; refine wpList_append_own_at _ rfl _ _ 35 rfl ((w.heap.size + 2)) 73 j0 (.agg #[.int .i64 0, .int .i64 0]) 2 16 Tryd.underlying35 hja hy0 hy1 hy2 rfl (by decide) _ _ _ rfl (HU4.out.o1) ⟨wc.heap.size, 0, none⟩ 1 1 [.int .i64 k, .int .i64 av] rfl rfl ?d1 ?d2 ?d3 ?d4 ?d5 ?_)
      case d1 => exact cell_two_new _ _ _ _
      case d2 => simp [Value.oneCell']
      case d3 => unfold maxLen; omega
      case d4 => omega
      case d5 => simp; omega
      intro v4 w4 hown4 hgrow4 _ hat4
      have HU5 := Lib.hid (HU4.out.app1 hgrow4 (p2 := poN rs b k ++ [⟨(k : Int), av⟩]) (by rcases hat4 with e | e; exact .inl e.symm; exact .inr (by rw [e]; simp)) (by rw [asgC_app, List.length_append]; exact hown4))
      have hs5 := (slA_on HU5.out.o1).out
      obtain ⟨a5, c5, rfl, _⟩ := hs5
      have hc5 := HU5.out.c1
      have hf5 := HU5.out.f1
      clear hc1 hf1 hown4 hgrow4 hat4
      go_wp2
      go_roundw
      case rel => exact ⟨k + 1, _, _, by omega, by go_num, by rw [HP.out]; have h9 := HU5.out.put1; rw [List.length_append, List.length_singleton] at h9; exact h9⟩
      case measure => simp [intOf]; omega
end Go.Proofs.YtiaobanloakplaaDoor

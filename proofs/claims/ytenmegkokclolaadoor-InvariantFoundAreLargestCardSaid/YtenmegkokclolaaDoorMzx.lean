/- Strips: the walk of what goes well. -/
import Derived.Test.YtenmegkokclolaaDoorMzf
namespace Go.Proofs.YtenmegkokclolaaDoor
open Go.RowKit
set_option linter.unusedSimpArgs false
set_option linter.unusedVariables false
set_option maxRecDepth 100000

set_option maxHeartbeats 8000000 in
theorem strips_b (x : MT) (w : World) (hX : MTIn w w.heap.size x) (hn : (msF x).1 = 0) : Calls Tryd.prog 22 #[.agg #[.slice x.az x.sizes.length x.cz, .slice x.ai x.init.length x.ci, .slice x.ag x.goal.length x.cg, .slice x.ao x.ops.length x.co]] w (StrP w x) := by
  have hQ := Lib.hid (qs_new w x 50 25 27)
  have HVA := Lib.hid (mvalidate_any x _ (hX.to hQ.out.below hQ.out.below.size))
  have HX0 := Lib.hid (fun (W : World) (h : Below w.heap.size w W) => hX.to h h.size)
  clear hX
  by_cases h1 : (mfF x).1 = 0
  case neg => unfold msF at hn; rw [if_pos h1] at hn; exact absurd hn h1
  obtain ⟨hv, hz⟩ := mf_val h1
  rw [hz] at HVA
  have h24 : ¬ 24 < smN x.sizes x.sizes.length := by
    unfold msF at hn
    rw [if_neg (by simp [h1])] at hn
    split at hn
    · cases hn
    · assumption
  have H := Lib.hid (show msF x = (0, 0) by unfold msF; rw [if_neg (by simp [h1]), if_neg h24])
  have HFF := Lib.hid (fun (W : World) (h : Below w.heap.size w W) => firstFacts_any x.sizes hv.sz x.az x.cz W (HX0.out W h).sizes)
  have HGG := Lib.hid (fun (aF : Option Addr) (cF bf : Nat) (W : World) (h : Below w.heap.size w W) (hf : FBx W bf x.sizes aF cF) => given_any x.sizes hv.sz x.ag aF x.cg cF bf x.goal hv.goal W (HX0.out W h).goal hf)
  have hd : decide (24 < smN x.sizes x.sizes.length) = false := decide_eq_false h24
  have HV := Lib.hid hv
  have h8 := hv.sz.n8
  have HML := Lib.hid (ms_len hv.init)
  obtain ⟨i0, hi0, hz0, hz1, hz2⟩ := info_parts info_int
  obtain ⟨bI, oI, haI, hbI, _⟩ := (HX0.out w (Below.refl _ _)).init.nums.at_ (k := 0) (by have := hv.sz.n1; have := ms_len hv.init; omega)
  have HCI := Lib.hid (fun (W : World) (h : Below w.heap.size w W) k (hk : k < x.init.length) => show W.cell? ⟨bI, oI + k, none⟩ = some (.int .i64 (ix x.init k)) by
    obtain ⟨b', o', e', _, hc⟩ := (HX0.out W h).init.nums.at_ hk
    rw [haI] at e'; cases e'; exact hc)
  have HAI := Lib.hid haI
  clear haI
  clear h1 hn hz hv h24
  go_enter Tryd.func22, Tryd.ntmps22
  go_wp2_with (first | (go_at_call 38; (with_reducible refine HVA.out.mono ?_); rintro e w1 ⟨rfl, hb1⟩; have hQ := Lib.hid ((hQ.out.to hb1).to (al_b w1 (.cells #[.int .i64 0, .int .i64 0] 27))); clear hb1; obtain ⟨_, ⟨_, t0, t1, t2, t3⟩, ⟨_, r0, r1, r2, r3, z0, z1, z2, z3⟩, ⟨_, k0, k1, f0, f1⟩⟩ := hQ.out) | (go_at_call 39; (with_reducible refine (HFF.out _ hQ.out.below).mono ?_); rintro e w2 ⟨aF, cF, rfl, hlF, hb2⟩; have hQ := Lib.hid ((hQ.out.to hb2).to (al_b w2 (.cells #[.slice aF x.sizes.length cF] 22))); have HLF := Lib.hid hlF; clear hb2 hlF; obtain ⟨_, ⟨_, t0, t1, t2, t3⟩, ⟨_, r0, r1, r2, r3, z0, z1, z2, z3⟩, ⟨_, k0, k1, f0, f1⟩⟩ := hQ.out) | (go_at_call 40; (with_reducible refine (HGG.out aF cF w2.heap.size _ hQ.out.below (show FBx (w2.alloc (.cells #[.slice aF x.sizes.length cF] 22)) w2.heap.size x.sizes aF cF from ⟨by simp, (cell_new _ _ _).1, HLF.out.to (al_b _ _) (al_b _ _).size⟩)).mono ?_); rintro e w3 ⟨vG, rfl, hoG, hb3⟩; have hbG := hQ.out.two.lt; obtain ⟨ag, cg, rfl, hapG⟩ := apB_own (bt := w.heap.size + 2) hoG (r := none) (fun q h => by cases h) hbG; have hQ3 := Lib.hid (hQ.out.to hb3); have HFB := Lib.hid ((show FBx (w2.alloc (.cells #[.slice aF x.sizes.length cF] 22)) w2.heap.size x.sizes aF cF from ⟨by simp, (cell_new _ _ _).1, HLF.out.to (al_b _ _) (al_b _ _).size⟩).to hb3); have HAG := Lib.hid hapG; clear hb3 hapG hoG hbG; clear hQ; have hQ := hQ3; obtain ⟨_, ⟨_, t0, t1, t2, t3⟩, ⟨_, r0, r1, r2, r3, z0, z1, z2, z3⟩, ⟨_, k0, k1, f0, f1⟩⟩ := hQ.out; rw [HAI.out] at t1))
  have HI := Lib.hid (show LpI w3 w3.heap.size (smN x.sizes x.sizes.length) (.slice ag (gvL x.sizes x.goal).length cg) (.slice none 0 0) (.slice none 0 0) (inN x.sizes x.init 0) (w3.alloc (.cells #[.int .i64 (smN x.sizes x.sizes.length), .slice none 0 0, .slice ag (gvL x.sizes x.goal).length cg, .slice none 0 0] 25)) from ⟨al_b _ _, by simp, by simp, by simp, by simp, by simp, by simp, by simp, World.ownsRow_nil _ _ _ _⟩)
  obtain ⟨bt, hbt⟩ : ∃ bt, w3.heap.size = bt := ⟨_, rfl⟩
  rw [hbt] at HI
  have HBT := Lib.hid (Nat.le_of_eq hbt)
  have HQB := Lib.hid (show w.heap.size + 3 ≤ bt from by have := hQ.out.two.lt; omega)
  have HGO := Lib.hid (show ∀ V, Below bt w3 V → QS w V x from fun V h => hQ.out.toB h HQB.out)
  have HFO := Lib.hid (show ∀ V, Below bt w3 V → FBx V w2.heap.size x.sizes aF cF from fun V h => HFB.out.to (hbt ▸ h))
  rw [hbt]
  clear hbt
  clear t0 t1 t2 t3 r0 r1 r2 r3 z0 z1 z2 z3 k0 k1 f0 f1
  clear hQ
  go_loopw [42] (fun i wr => ∃ (k : Nat) (v : Value), k ≤ x.init.length ∧ i = .int .i64 k ∧ LpI w3 bt (smN x.sizes x.sizes.length) (.slice ag (gvL x.sizes x.goal).length cg) v v (inN x.sizes x.init k) wr) (fun i _ => x.init.length - (intOf i).toNat)
  case atStart => exact ⟨0, _, by omega, rfl, HI.out⟩
  case round =>
    clear HI
    obtain ⟨k, vv, hk, rfl, hi⟩ := hrel
    have HI := Lib.hid hi
    clear hi
    by_cases hlt : k < x.init.length
    case pos =>
      have hlt2 : k < x.sizes.length := by have := HML.out; omega
      have hcI := (HCI.out _ (HGO.out _ HI.out.below).below) k hlt
      obtain ⟨bF, oF, haF, hbF, hcF⟩ := (HFO.out w3 (Below.refl _ _)).at_ hlt2
      subst haF
      have hms := ms_at HV.out.init hlt
      have hsz := HV.out.sz.r k hlt2
      have hsm := smN_le HV.out.sz k (by omega)
      have hw1 : IntKind.i64.wrap ((smN x.sizes k + ix x.init k)) = (smN x.sizes k + ix x.init k) := IntWalk.i64_in _ (by omega)
      have HSO := Lib.hid (fun (V : World) (v : Value) (l : List Int) (h : LpI w3 bt (smN x.sizes x.sizes.length) (.slice ag (gvL x.sizes x.goal).length cg) vv v l V) => show V.cell? ⟨bt, 1, none⟩ = some vv ∧ V.frozen? ⟨bt, 1, none⟩ = false ∧ V.cell? ⟨w2.heap.size, 0, none⟩ = some (.slice (some ⟨bF, oF, none⟩) x.sizes.length cF) ∧ V.cell? ⟨bF, oF + k, none⟩ = some (.int .i64 (smN x.sizes k)) from ⟨h.c1, h.f1, (HFO.out V h.below).cell, (h.below.cell (p := ⟨bF, oF + k, none⟩) (by show bF < bt; have := HBT.out; omega)).trans hcF⟩)
      clear hms hsz hsm hcF
      go_wp2
      refine wp_region_F (S := (fun V => V.cell? ⟨bt, 1, none⟩ = some vv ∧ V.frozen? ⟨bt, 1, none⟩ = false ∧ V.cell? ⟨w2.heap.size, 0, none⟩ = some (.slice (some ⟨bF, oF, none⟩) x.sizes.length cF) ∧ V.cell? ⟨bF, oF + k, none⟩ = some (.int .i64 (smN x.sizes k)))) 11 (by kernel_rfl) ?_ (fun hHeld => ?_)
      · exact HSO.out _ _ _ (HI.out.to (Below.refl _ _).drew HBT.out)
      refine wpAnyF_take (i := 0) (oi := _) (v := ?v1) rfl (by kernel_rfl) (by kernel_rfl) (by kernel_rfl) (by kernel_rfl) (by kernel_rfl) (by kernel_rfl) (by kernel_rfl) (by kernel_rfl) (fun _ _ _ h => h) (Or.inl ⟨by rfl, ?hy1⟩) (by assumption) ?rest1
      case hy1 => (intro w hSw; (try dsimp only at hSw); go_simp; try (with_reducible rfl))
      try simp only [Act.put, List.setIfInBounds_toArray, List.set_cons_zero, List.set_cons_succ]
      refine wpAnyF_take (i := 1) (oi := _) (v := ?v2) rfl (by kernel_rfl) (by kernel_rfl) (by kernel_rfl) (by kernel_rfl) (by kernel_rfl) (by kernel_rfl) (by kernel_rfl) (by kernel_rfl) (fun _ _ _ h => h) (Or.inl ⟨by rfl, ?hy2⟩) (by assumption) ?rest2
      case hy2 => (intro w hSw; (try dsimp only at hSw); go_simp; try (with_reducible rfl))
      try simp only [Act.put, List.setIfInBounds_toArray, List.set_cons_zero, List.set_cons_succ]
      refine wpAnyF_take (i := 2) (oi := _) (v := ?v3) rfl (by kernel_rfl) (by kernel_rfl) (by kernel_rfl) (by kernel_rfl) (by kernel_rfl) (by kernel_rfl) (by kernel_rfl) (by kernel_rfl) (fun _ _ _ h => h) (Or.inl ⟨by rfl, ?hy3⟩) (by assumption) ?rest3
      case hy3 => (intro w hSw; (try dsimp only at hSw); go_simp; try (with_reducible rfl))
      try simp only [Act.put, List.setIfInBounds_toArray, List.set_cons_zero, List.set_cons_succ]
      refine wpAnyF_take (i := 3) (oi := _) (v := ?v4) rfl (by kernel_rfl) (by kernel_rfl) (by kernel_rfl) (by kernel_rfl) (by kernel_rfl) (by kernel_rfl) (by kernel_rfl) (by kernel_rfl) (fun _ _ _ h => h) (Or.inl ⟨by rfl, ?hy4⟩) (by assumption) ?rest4
      case hy4 => (intro w hSw; (try dsimp only at hSw); go_simp; try (with_reducible rfl))
      try simp only [Act.put, List.setIfInBounds_toArray, List.set_cons_zero, List.set_cons_succ]
      refine wpAnyF_take (i := 4) (oi := _) (v := ?v5) rfl (by kernel_rfl) (by kernel_rfl) (by kernel_rfl) (by kernel_rfl) (by kernel_rfl) (by kernel_rfl) (by kernel_rfl) (by kernel_rfl) (fun _ _ _ h => h) (Or.inl ⟨by rfl, ?hy5⟩) (by assumption) ?rest5
      case hy5 => (intro w hSw; (try dsimp only at hSw); go_simp; try (with_reducible rfl))
      try simp only [Act.put, List.setIfInBounds_toArray, List.set_cons_zero, List.set_cons_succ]
      refine wpAnyF_take (i := 5) (oi := _) (v := ?v6) rfl (by kernel_rfl) (by kernel_rfl) (by kernel_rfl) (by kernel_rfl) (by kernel_rfl) (by kernel_rfl) (by kernel_rfl) (by kernel_rfl) (fun _ _ _ h => h) (Or.inl ⟨by rfl, ?hy6⟩) (by assumption) ?rest6
      case hy6 => (intro w hSw; (try dsimp only at hSw); go_simp; try (with_reducible rfl))
      try simp only [Act.put, List.setIfInBounds_toArray, List.set_cons_zero, List.set_cons_succ]
      refine wpAnyF_take (i := 6) (oi := _) (v := ?v7) rfl (by kernel_rfl) (by kernel_rfl) (by kernel_rfl) (by kernel_rfl) (by kernel_rfl) (by kernel_rfl) (by kernel_rfl) (by kernel_rfl) (fun _ _ _ h => h) (Or.inl ⟨by rfl, ?hy7⟩) (by assumption) ?rest7
      case hy7 => (intro w hSw; (try dsimp only at hSw); go_simp; try (with_reducible rfl))
      try simp only [Act.put, List.setIfInBounds_toArray, List.set_cons_zero, List.set_cons_succ]
      refine wpAnyF_take (i := 7) (oi := _) (v := ?v8) rfl (by kernel_rfl) (by kernel_rfl) (by kernel_rfl) (by kernel_rfl) (by kernel_rfl) (by kernel_rfl) (by kernel_rfl) (by kernel_rfl) (fun _ _ _ h => h) (Or.inl ⟨by rfl, ?hy8⟩) (by assumption) ?rest8
      case hy8 => (intro w hSw; (try dsimp only at hSw); go_simp; try (with_reducible rfl))
      try simp only [Act.put, List.setIfInBounds_toArray, List.set_cons_zero, List.set_cons_succ]
      refine wpAnyF_one (i := 8) (o := _) (by kernel_rfl) rfl (fun K9 hK9 => ?_)
      go_simp
      refine hK9.out _ _ ?_ (fun hHeld => ?_)
      · exact HSO.out _ _ _ (HI.out.to (al_b _ _).drew HBT.out)
      clear hK9 K9
      try simp only [Act.put, List.setIfInBounds_toArray, List.set_cons_zero, List.set_cons_succ]
      refine wpAnyF_one (i := 9) (o := _) (by kernel_rfl) rfl (fun K10 hK10 => ?_)
      (refine step_append_lies _ (by rfl) _ _ _ (by rfl) (bt + 1) 3 i0 (.int .i64 0) 1 8 Tryd.underlying22 hi0 hz0 hz1 hz2 rfl (by omega) vv (inN x.sizes x.init k).length ((inN x.sizes x.init k).map (Value.int .i64)) (by rfl) ?_ _ 1 1 [.int .i64 (smN x.sizes k + ix x.init k)] (by rfl) (by rfl) ?_ (by simp [Value.oneCell']) (by omega) (by rw [inN_len]; unfold maxLen; omega) (by rw [inN_len]; omega) ?_ _ rfl ?_; (exact (HI.out.to (al_b _ _).drew HBT.out).row); (exact news1 (by simp)); (have := HI.out.lt; simp; omega); intro gg cap w1 hown1 hgrow hat hlt1; have HA := Lib.hid ((HI.out.to (al_b _ _).drew HBT.out).app hgrow HBT.out hown1))
      refine hK10.out _ _ ?_ (fun hHeld => ?_)
      · exact HSO.out _ _ _ HA.out
      clear hK10 K10
      try simp only [Act.put, List.setIfInBounds_toArray, List.set_cons_zero, List.set_cons_succ]
      refine wpAnyF_take (i := 10) (oi := _) (v := ?v11) rfl (by kernel_rfl) (by kernel_rfl) (by kernel_rfl) (by kernel_rfl) (by kernel_rfl) (by kernel_rfl) (by kernel_rfl) (by kernel_rfl) (fun _ _ _ h => h) (Or.inl ⟨by rfl, ?hy11⟩) (by assumption) ?rest11
      case hy11 => (intro w hSw; (try dsimp only at hSw); go_simp; try (with_reducible rfl))
      try simp only [Act.put, List.setIfInBounds_toArray, List.set_cons_zero, List.set_cons_succ]
      refine wpAnyF_end (o := _) (by kernel_rfl) rfl (by kernel_rfl) (fun K12 hK12 => ?_)
      go_simp
      refine hK12.out _ _ ?_
      clear hK12 K12
      try simp only [Act.put, List.setIfInBounds_toArray, List.set_cons_zero, List.set_cons_succ]
      go_wp2
      go_roundw
      case rel => exact ⟨k + 1, _, by omega, by go_num, by rw [inN_succ]; exact HA.out.put HBT.out⟩
      case measure => simp [intOf]; omega
    case neg =>
      obtain rfl : k = x.init.length := by omega
      have hge : ¬ ((x.init.length : Int) < x.init.length) := by omega
      obtain ⟨ai, ci, rfl, hap⟩ := apB_own (bt := bt) HI.out.row (r := none) (fun q h => by cases h) (Nat.lt_succ_self bt)
      have HO := Lib.hid (show LpO w3 bt (smN x.sizes x.sizes.length) (.slice ag (gvL x.sizes x.goal).length cg) ai ci (inN x.sizes x.init x.init.length) (.slice none 0 0) (.slice none 0 0) (opsN x.sizes x.ops 0) wr from ⟨HI.out.below, HI.out.lt, HI.out.c0, HI.out.c1, HI.out.c2, HI.out.c3, HI.out.f3, hap, opsR_nil _ _ _⟩)
      have hQ := Lib.hid (HGO.out _ HI.out.below)
      have hno := HV.out.m
      clear hap
      clear HI
      obtain ⟨_, ⟨_, t0, t1, t2, t3⟩, ⟨_, r0, r1, r2, r3, z0, z1, z2, z3⟩, ⟨_, k0, k1, f0, f1⟩⟩ := hQ.out
      go_wp2
      clear t0 t1 t2 t3 r0 r1 r2 r3 z0 z1 z2 z3 k0 k1 f0 f1
      clear hQ
      go_loopw [62] (fun i wr => ∃ (k : Nat) (v : Value), k ≤ x.ops.length ∧ i = .int .i64 k ∧ LpO w3 bt (smN x.sizes x.sizes.length) (.slice ag (gvL x.sizes x.goal).length cg) ai ci (inN x.sizes x.init x.init.length) v v (opsN x.sizes x.ops k) wr) (fun i _ => x.ops.length - (intOf i).toNat)
      case atStart => exact ⟨0, _, by omega, rfl, HO.out⟩
      case round =>
        clear HO
        obtain ⟨k, vv, hk, rfl, ho⟩ := hrel
        have HO := Lib.hid ho
        clear ho
        by_cases hlt : k < x.ops.length
        case pos =>
          obtain ⟨b, p, a1, a2, c1, c2, hao, hbl, ⟨q0, q1, q2⟩, hpre, hpost⟩ := (HX0.out _ (HGO.out _ HO.out.below).below).ops.at_ hlt
          rw [hao]
          clear hao
          have HRB := Lib.hid (HO.out.row.own_lt)
          have hal := al_b wr (.cells #[.slice a1 (mop x.ops k).pre.length c1, .slice a2 (mop x.ops k).post.length c2, .int .i64 (mop x.ops k).cost] 78)
          have HL0 := Lib.hid (show LpQ w3 bt (smN x.sizes x.sizes.length) (.slice ag (gvL x.sizes x.goal).length cg) ai ci (inN x.sizes x.init x.init.length) vv vv (opsN x.sizes x.ops k) wr.heap.size (.slice a1 (mop x.ops k).pre.length c1) (.slice a2 (mop x.ops k).post.length c2) (.int .i64 (mop x.ops k).cost) (wr.alloc (.cells #[.slice a1 (mop x.ops k).pre.length c1, .slice a2 (mop x.ops k).post.length c2, .int .i64 (mop x.ops k).cost] 78)) from ⟨HO.out.to hal HBT.out, tri_new _ _ _ _ _, fun e => by have := (HRB.out _ e).2; omega⟩)
          have HL0 := Lib.hid (HL0.out.to (Below.refl _ _).drew HBT.out)
          have HSO := Lib.hid (fun (V : World) (v : Value) (os : List Opr) (h : LpQ w3 bt (smN x.sizes x.sizes.length) (.slice ag (gvL x.sizes x.goal).length cg) ai ci (inN x.sizes x.init x.init.length) vv v os wr.heap.size (.slice a1 (mop x.ops k).pre.length c1) (.slice a2 (mop x.ops k).post.length c2) (.int .i64 (mop x.ops k).cost) V) => show V.cell? ⟨bt, 3, none⟩ = some vv ∧ V.frozen? ⟨bt, 3, none⟩ = false ∧ V.cell? ⟨wr.heap.size, 0, none⟩ = some (.slice a1 (mop x.ops k).pre.length c1) ∧ V.cell? ⟨wr.heap.size, 1, none⟩ = some (.slice a2 (mop x.ops k).post.length c2) ∧ V.cell? ⟨wr.heap.size, 2, none⟩ = some (.int .i64 (mop x.ops k).cost) from ⟨h.lp.c3, h.lp.f3, h.tr.c0, h.tr.c1, h.tr.c2⟩)
          have HPA := Lib.hid (fun (V : World) (h : Below bt w3 V) (h2 : Below wr.heap.size wr V) => given_any x.sizes HV.out.sz a1 aF c1 cF w2.heap.size (mop x.ops k).pre (HV.out.pre k hlt) V (hpre.to h2 h2.size) (HFO.out V h))
          have HPB := Lib.hid (fun (V : World) (h : Below bt w3 V) (h2 : Below wr.heap.size wr V) => given_any x.sizes HV.out.sz a2 aF c2 cF w2.heap.size (mop x.ops k).post (HV.out.post k hlt) V (hpost.to h2 h2.size) (HFO.out V h))
          have HPC := Lib.hid (fun (V : World) (h : Below bt w3 V) (h2 : Below wr.heap.size wr V) => others_any x.sizes HV.out.sz a2 aF x.az c2 cF x.cz w2.heap.size w.heap.size (mop x.ops k).post (HV.out.post k hlt) V (hpost.to h2 h2.size) (HFO.out V h) (HX0.out V (HGO.out V h).below).sizes (HGO.out V h).box.lt (HGO.out V h).box.c0)
          have HW0 := Lib.hid (hal.drew)
          have hok := opsN_len (S := x.sizes) hk
          have HOK := Lib.hid hok
          have hwl := HO.out.lt
          clear hal hpre hpost hok
          go_wp2
          refine wp_region_F (S := (fun V => V.cell? ⟨bt, 3, none⟩ = some vv ∧ V.frozen? ⟨bt, 3, none⟩ = false ∧ V.cell? ⟨wr.heap.size, 0, none⟩ = some (.slice a1 (mop x.ops k).pre.length c1) ∧ V.cell? ⟨wr.heap.size, 1, none⟩ = some (.slice a2 (mop x.ops k).post.length c2) ∧ V.cell? ⟨wr.heap.size, 2, none⟩ = some (.int .i64 (mop x.ops k).cost))) 20 (by kernel_rfl) ?_ (fun hHeld => ?_)
          · exact HSO.out _ _ _ HL0.out
          refine wpAnyF_take (i := 0) (oi := _) (v := ?v101) rfl (by kernel_rfl) (by kernel_rfl) (by kernel_rfl) (by kernel_rfl) (by kernel_rfl) (by kernel_rfl) (by kernel_rfl) (by kernel_rfl) (fun _ _ _ h => h) (Or.inl ⟨by rfl, ?hy101⟩) (by assumption) ?rest101
          case hy101 => (intro w hSw; (try dsimp only at hSw); go_simp; try (with_reducible rfl))
          try simp only [Act.put, List.setIfInBounds_toArray, List.set_cons_zero, List.set_cons_succ]
          refine wpAnyF_take (i := 1) (oi := _) (v := ?v102) rfl (by kernel_rfl) (by kernel_rfl) (by kernel_rfl) (by kernel_rfl) (by kernel_rfl) (by kernel_rfl) (by kernel_rfl) (by kernel_rfl) (fun _ _ _ h => h) (Or.inl ⟨by rfl, ?hy102⟩) (by assumption) ?rest102
          case hy102 => (intro w hSw; (try dsimp only at hSw); go_simp; try (with_reducible rfl))
          try simp only [Act.put, List.setIfInBounds_toArray, List.set_cons_zero, List.set_cons_succ]
          refine wpAnyF_take (i := 2) (oi := _) (v := ?v103) rfl (by kernel_rfl) (by kernel_rfl) (by kernel_rfl) (by kernel_rfl) (by kernel_rfl) (by kernel_rfl) (by kernel_rfl) (by kernel_rfl) (fun _ _ _ h => h) (Or.inl ⟨by rfl, ?hy103⟩) (by assumption) ?rest103
          case hy103 => (intro w hSw; (try dsimp only at hSw); go_simp; try (with_reducible rfl))
          try simp only [Act.put, List.setIfInBounds_toArray, List.set_cons_zero, List.set_cons_succ]
          refine wpAnyF_take (i := 3) (oi := _) (v := ?v104) rfl (by kernel_rfl) (by kernel_rfl) (by kernel_rfl) (by kernel_rfl) (by kernel_rfl) (by kernel_rfl) (by kernel_rfl) (by kernel_rfl) (fun _ _ _ h => h) (Or.inl ⟨by rfl, ?hy104⟩) (by assumption) ?rest104
          case hy104 => (intro w hSw; (try dsimp only at hSw); go_simp; try (with_reducible rfl))
          try simp only [Act.put, List.setIfInBounds_toArray, List.set_cons_zero, List.set_cons_succ]
          refine wpAnyF_take (i := 4) (oi := _) (v := ?v105) rfl (by kernel_rfl) (by kernel_rfl) (by kernel_rfl) (by kernel_rfl) (by kernel_rfl) (by kernel_rfl) (by kernel_rfl) (by kernel_rfl) (fun _ _ _ h => h) (Or.inl ⟨by rfl, ?hy105⟩) (by assumption) ?rest105
          case hy105 => (intro w hSw; (try dsimp only at hSw); go_simp; try (with_reducible rfl))
          try simp only [Act.put, List.setIfInBounds_toArray, List.set_cons_zero, List.set_cons_succ]
          refine wpAnyF_take (i := 6) (oi := _) (v := ?v106) rfl (by kernel_rfl) (by kernel_rfl) (by kernel_rfl) (by kernel_rfl) (by kernel_rfl) (by kernel_rfl) (by kernel_rfl) (by kernel_rfl) (fun _ _ _ h => h) (Or.inl ⟨by rfl, ?hy106⟩) (by assumption) ?rest106
          case hy106 => (intro w hSw; (try dsimp only at hSw); go_simp; try (with_reducible rfl))
          try simp only [Act.put, List.setIfInBounds_toArray, List.set_cons_zero, List.set_cons_succ]
          refine wpAnyF_take (i := 7) (oi := _) (v := ?v107) rfl (by kernel_rfl) (by kernel_rfl) (by kernel_rfl) (by kernel_rfl) (by kernel_rfl) (by kernel_rfl) (by kernel_rfl) (by kernel_rfl) (fun _ _ _ h => h) (Or.inl ⟨by rfl, ?hy107⟩) (by assumption) ?rest107
          case hy107 => (intro w hSw; (try dsimp only at hSw); go_simp; try (with_reducible rfl))
          try simp only [Act.put, List.setIfInBounds_toArray, List.set_cons_zero, List.set_cons_succ]
          refine wpAnyF_take (i := 8) (oi := _) (v := ?v108) rfl (by kernel_rfl) (by kernel_rfl) (by kernel_rfl) (by kernel_rfl) (by kernel_rfl) (by kernel_rfl) (by kernel_rfl) (by kernel_rfl) (fun _ _ _ h => h) (Or.inl ⟨by rfl, ?hy108⟩) (by assumption) ?rest108
          case hy108 => (intro w hSw; (try dsimp only at hSw); go_simp; try (with_reducible rfl))
          try simp only [Act.put, List.setIfInBounds_toArray, List.set_cons_zero, List.set_cons_succ]
          refine wpAnyF_take (i := 10) (oi := _) (v := ?v109) rfl (by kernel_rfl) (by kernel_rfl) (by kernel_rfl) (by kernel_rfl) (by kernel_rfl) (by kernel_rfl) (by kernel_rfl) (by kernel_rfl) (fun _ _ _ h => h) (Or.inl ⟨by rfl, ?hy109⟩) (by assumption) ?rest109
          case hy109 => (intro w hSw; (try dsimp only at hSw); go_simp; try (with_reducible rfl))
          try simp only [Act.put, List.setIfInBounds_toArray, List.set_cons_zero, List.set_cons_succ]
          refine wpAnyF_take (i := 11) (oi := _) (v := ?v110) rfl (by kernel_rfl) (by kernel_rfl) (by kernel_rfl) (by kernel_rfl) (by kernel_rfl) (by kernel_rfl) (by kernel_rfl) (by kernel_rfl) (fun _ _ _ h => h) (Or.inl ⟨by rfl, ?hy110⟩) (by assumption) ?rest110
          case hy110 => (intro w hSw; (try dsimp only at hSw); go_simp; try (with_reducible rfl))
          try simp only [Act.put, List.setIfInBounds_toArray, List.set_cons_zero, List.set_cons_succ]
          refine wpAnyF_take (i := 12) (oi := _) (v := ?v111) rfl (by kernel_rfl) (by kernel_rfl) (by kernel_rfl) (by kernel_rfl) (by kernel_rfl) (by kernel_rfl) (by kernel_rfl) (by kernel_rfl) (fun _ _ _ h => h) (Or.inl ⟨by rfl, ?hy111⟩) (by assumption) ?rest111
          case hy111 => (intro w hSw; (try dsimp only at hSw); go_simp; try (with_reducible rfl))
          try simp only [Act.put, List.setIfInBounds_toArray, List.set_cons_zero, List.set_cons_succ]
          refine wpAnyF_take (i := 14) (oi := _) (v := ?v112) rfl (by kernel_rfl) (by kernel_rfl) (by kernel_rfl) (by kernel_rfl) (by kernel_rfl) (by kernel_rfl) (by kernel_rfl) (by kernel_rfl) (fun _ _ _ h => h) (Or.inl ⟨by rfl, ?hy112⟩) (by assumption) ?rest112
          case hy112 => (intro w hSw; (try dsimp only at hSw); go_simp; try (with_reducible rfl))
          try simp only [Act.put, List.setIfInBounds_toArray, List.set_cons_zero, List.set_cons_succ]
          refine wpAnyF_take (i := 15) (oi := _) (v := ?v113) rfl (by kernel_rfl) (by kernel_rfl) (by kernel_rfl) (by kernel_rfl) (by kernel_rfl) (by kernel_rfl) (by kernel_rfl) (by kernel_rfl) (fun _ _ _ h => h) (Or.inl ⟨by rfl, ?hy113⟩) (by assumption) ?rest113
          case hy113 => (intro w hSw; (try dsimp only at hSw); go_simp; try (with_reducible rfl))
          try simp only [Act.put, List.setIfInBounds_toArray, List.set_cons_zero, List.set_cons_succ]
          refine wpAnyF_one (i := 5) (o := _) (by kernel_rfl) rfl (fun K114 hK114 => ?_)
          go_simp
          go_at_call 40; (with_reducible refine (HPA.out _ HL0.out.lp.below HW0.out).mono ?_); rintro e wA ⟨vA, rfl, hoA, hbA⟩; obtain ⟨aA, cA, rfl, hapA⟩ := apB_own (bt := bt) hoA (r := vv.ownBlock) (fun q hq => by have h8 := HRB.out q hq; have h9 := HW0.out.size; simp at h9 ⊢; omega) (HL0.out.lp.lt); have HA := Lib.hid (fun (V : World) (h : Below wA.heap.size wA V) => hapA.to h); have HL1 := Lib.hid (HL0.out.to hbA HBT.out); have HW1 := Lib.hid (HW0.out.trans (hbA.mono HW0.out.size)); clear hoA hapA hbA
          refine hK114.out _ _ ?_ (fun hHeld => ?_)
          · exact HSO.out _ _ _ HL1.out
          clear hK114 K114
          try simp only [Act.put, List.setIfInBounds_toArray, List.set_cons_zero, List.set_cons_succ]
          refine wpAnyF_one (i := 9) (o := _) (by kernel_rfl) rfl (fun K115 hK115 => ?_)
          go_simp
          go_at_call 40; (with_reducible refine (HPB.out _ HL1.out.lp.below HW1.out).mono ?_); rintro e wB ⟨vB, rfl, hoB, hbB⟩; obtain ⟨aB, cB, rfl, hapB⟩ := apB_own (bt := bt) hoB (r := vv.ownBlock) (fun q hq => by have h8 := HRB.out q hq; have h9 := HW1.out.size; omega) (HL1.out.lp.lt); have HA := Lib.hid (fun (V : World) (h : Below wB.heap.size wB V) => HA.out V (hbB.trans (h.mono hbB.size))); have HB := Lib.hid (fun (V : World) (h : Below wB.heap.size wB V) => hapB.to h); have HL2 := Lib.hid (HL1.out.to hbB HBT.out); have HW2 := Lib.hid (HW1.out.trans (hbB.mono HW1.out.size)); clear hoB hapB hbB
          refine hK115.out _ _ ?_ (fun hHeld => ?_)
          · exact HSO.out _ _ _ HL2.out
          clear hK115 K115
          try simp only [Act.put, List.setIfInBounds_toArray, List.set_cons_zero, List.set_cons_succ]
          refine wpAnyF_one (i := 13) (o := _) (by kernel_rfl) rfl (fun K116 hK116 => ?_)
          go_simp
          go_at_call 41; (with_reducible refine (HPC.out _ HL2.out.lp.below HW2.out).mono ?_); rintro e wC ⟨vC, rfl, hoC, hbC⟩; obtain ⟨aC, cC, rfl, hapC⟩ := apB_own (bt := bt) hoC (r := vv.ownBlock) (fun q hq => by have h8 := HRB.out q hq; have h9 := HW2.out.size; omega) (HL2.out.lp.lt); have HA := Lib.hid (fun (V : World) (h : Below wC.heap.size wC V) => HA.out V (hbC.trans (h.mono hbC.size))); have HB := Lib.hid (fun (V : World) (h : Below wC.heap.size wC V) => HB.out V (hbC.trans (h.mono hbC.size))); have HC := Lib.hid (fun (V : World) (h : Below wC.heap.size wC V) => hapC.to h); have HL3 := Lib.hid (HL2.out.to hbC HBT.out); have HW3 := Lib.hid (HW2.out.trans (hbC.mono HW2.out.size)); clear hoC hapC hbC; have hal4 := al_b wC (.cells #[.slice aA (gvL x.sizes (mop x.ops k).pre).length cA, .slice aB (gvL x.sizes (mop x.ops k).post).length cB, .slice aC (otL x.sizes (mop x.ops k).post).length cC, .int .i64 (mop x.ops k).cost] 55); have HA4 := Lib.hid (HA.out _ hal4); have HB4 := Lib.hid (HB.out _ hal4); have HC4 := Lib.hid (HC.out _ hal4); have HL4 := Lib.hid (HL3.out.to hal4 HBT.out); clear hal4
          refine hK116.out _ _ ?_ (fun hHeld => ?_)
          · exact HSO.out _ _ _ HL3.out
          clear hK116 K116
          try simp only [Act.put, List.setIfInBounds_toArray, List.set_cons_zero, List.set_cons_succ]
          refine wpAnyF_take (i := 16) (oi := _) (v := ?v117) rfl (by kernel_rfl) (by kernel_rfl) (by kernel_rfl) (by kernel_rfl) (by kernel_rfl) (by kernel_rfl) (by kernel_rfl) (by kernel_rfl) (fun _ _ _ h => h) (Or.inl ⟨by rfl, ?hy117⟩) (by assumption) ?rest117
          case hy117 => (intro w hSw; (try dsimp only at hSw); go_simp; try (with_reducible rfl))
          try simp only [Act.put, List.setIfInBounds_toArray, List.set_cons_zero, List.set_cons_succ]
          refine wpAnyF_one (i := 17) (o := _) (by kernel_rfl) rfl (fun K118 hK118 => ?_)
          go_simp
          refine hK118.out _ _ ?_ (fun hHeld => ?_)
          · exact HSO.out _ _ _ HL4.out
          clear hK118 K118
          try simp only [Act.put, List.setIfInBounds_toArray, List.set_cons_zero, List.set_cons_succ]
          refine wpAnyF_one (i := 18) (o := _) (by kernel_rfl) rfl (fun K119 hK119 => ?_)
          obtain ⟨vs, hov, hvl, hvj⟩ := HL4.out.lp.row.ex; have HVL := Lib.hid hvl; have HVJ := Lib.hid hvj; have HOV := Lib.hid hov; clear hov hvl hvj; obtain ⟨j0, ji0, jz0, jz1, jz2⟩ := info_parts info_op; refine step_append_lies _ (by rfl) _ _ _ (by rfl) (bt + 1) 55 j0 (.agg #[.slice none 0 0, .slice none 0 0, .slice none 0 0, .int .i64 0]) 4 80 Tryd.underlying23 ji0 jz0 jz1 jz2 rfl (by omega) vv (opsN x.sizes x.ops k).length vs (by rfl) HOV.out _ 1 1 [.slice aA (gvL x.sizes (mop x.ops k).pre).length cA, .slice aB (gvL x.sizes (mop x.ops k).post).length cB, .slice aC (otL x.sizes (mop x.ops k).post).length cC, .int .i64 (mop x.ops k).cost] (by rfl) (by rfl) (four_news (by simp) (by simp) (by simp) (by simp)) (by simp [Value.oneCell']) (by omega) (by rw [HOK.out]; unfold maxLen; omega) (by rw [HOK.out]; omega) (by exact HL4.out.lp.lt) _ rfl ?_; intro gg cap w1 hown1 hgrow hat hlt1; have hat2 : (Value.slice (some ⟨gg, 0, none⟩) ((opsN x.sizes x.ops k).length + 1) cap).ownBlock = vv.ownBlock ∨ (Value.slice (some ⟨gg, 0, none⟩) ((opsN x.sizes x.ops k).length + 1) cap).ownBlock = some _ := hat.elim (fun e => .inl e.symm) (fun e => .inr (congrArg some e)); have HA6 := Lib.hid (HL4.out.app hgrow hat2 HBT.out (opsR_app (o := opS x.sizes (mop x.ops k)) HVL.out HVJ.out hown1 hgrow hat2 HA4.out HB4.out HC4.out))
          refine hK119.out _ _ ?_ (fun hHeld => ?_)
          · exact ⟨HA6.out.1.c3, HA6.out.1.f3, HA6.out.2.c0, HA6.out.2.c1, HA6.out.2.c2⟩
          clear hK119 K119
          try simp only [Act.put, List.setIfInBounds_toArray, List.set_cons_zero, List.set_cons_succ]
          refine wpAnyF_take (i := 19) (oi := _) (v := ?v120) rfl (by kernel_rfl) (by kernel_rfl) (by kernel_rfl) (by kernel_rfl) (by kernel_rfl) (by kernel_rfl) (by kernel_rfl) (by kernel_rfl) (fun _ _ _ h => h) (Or.inl ⟨by rfl, ?hy120⟩) (by assumption) ?rest120
          case hy120 => (intro w hSw; (try dsimp only at hSw); go_simp; try (with_reducible rfl))
          try simp only [Act.put, List.setIfInBounds_toArray, List.set_cons_zero, List.set_cons_succ]
          refine wpAnyF_end (o := _) (by kernel_rfl) rfl (by kernel_rfl) (fun K121 hK121 => ?_)
          go_simp
          refine hK121.out _ _ ?_
          clear hK121 K121
          try simp only [Act.put, List.setIfInBounds_toArray, List.set_cons_zero, List.set_cons_succ]
          go_wp2
          go_roundw
          case rel => exact ⟨k + 1, _, by omega, by go_num, by rw [opsN_succ hlt]; exact HA6.out.1.put HBT.out⟩
          case measure => simp [intOf]; omega
        case neg =>
          obtain rfl : k = x.ops.length := by omega
          have hge : ¬ ((x.ops.length : Int) < x.ops.length) := by omega
          have hQ := Lib.hid (HGO.out _ HO.out.below)
          have HB3 := Lib.hid (HO.out.below.mono HBT.out)
          obtain ⟨a0, c0, rfl, _, _, _⟩ := opsR_oprs HO.out.row
          obtain ⟨_, ⟨_, t0, t1, t2, t3⟩, ⟨_, r0, r1, r2, r3, z0, z1, z2, z3⟩, ⟨_, k0, k1, f0, f1⟩⟩ := hQ.out
          obtain ⟨_, s0, s1, s2, s3, _⟩ := HO.out.below |> fun _ => (⟨trivial, HO.out.c0, HO.out.c1, HO.out.c2, HO.out.c3, trivial⟩ : True ∧ wr.cell? ⟨bt, 0, none⟩ = _ ∧ wr.cell? ⟨bt, 1, none⟩ = _ ∧ wr.cell? ⟨bt, 2, none⟩ = _ ∧ wr.cell? ⟨bt, 3, none⟩ = _ ∧ True)
          go_wp2
          obtain ⟨h7, h8, h9⟩ := hQ.out.put (.int .i64 (smN x.sizes x.sizes.length)) (.slice ai (inN x.sizes x.init x.init.length).length ci) (.slice ag (gvL x.sizes x.goal).length cg) (.slice a0 (opsN x.sizes x.ops x.ops.length).length c0) (.int .i64 0) (.int .i64 0)
          have hi6 := put_apB HO.out.init (g := w.heap.size) (by have := HQB.out; omega) (.int .i64 (smN x.sizes x.sizes.length)) (.slice ai (inN x.sizes x.init x.init.length).length ci) (.slice ag (gvL x.sizes x.goal).length cg) (.slice a0 (opsN x.sizes x.ops x.ops.length).length c0) (.int .i64 0) (.int .i64 0)
          have hg6 := put_apB (HAG.out.to HB3.out) (g := w.heap.size) (Nat.le_refl _) (.int .i64 (smN x.sizes x.sizes.length)) (.slice ai (inN x.sizes x.init x.init.length).length ci) (.slice ag (gvL x.sizes x.goal).length cg) (.slice a0 (opsN x.sizes x.ops x.ops.length).length c0) (.int .i64 0) (.int .i64 0)
          have ho6 := put_ops HO.out.row (Nat.lt_succ_self bt) (g := w.heap.size) (by have := HQB.out; omega) (.int .i64 (smN x.sizes x.sizes.length)) (.slice ai (inN x.sizes x.init x.init.length).length ci) (.slice ag (gvL x.sizes x.goal).length cg) (.slice a0 (opsN x.sizes x.ops x.ops.length).length c0) (.int .i64 0) (.int .i64 0)
          obtain ⟨ao, co, e, hop, hle, hmx⟩ := opsR_oprs ho6
          refine post_task_fault (g := w.heap.size + 2) (g2 := w.heap.size + 1) Tryd.results22 rfl rfl h7 h8 ?_
          refine ⟨⟨smN x.sizes x.sizes.length, inN x.sizes x.init x.init.length, gvL x.sizes x.goal, opsN x.sizes x.ops x.ops.length, ai, ag, ao, ci, cg, co⟩, by rw [e, H.out], ⟨hi6.ap.lst, hg6.ap.lst, hop, hle, hmx⟩, h9, fun _ => ⟨rfl, by show inN _ _ _ = _; rw [HML.out], rfl, opsN_all _ _⟩, fun h => absurd (by rw [H.out]) h⟩
end Go.Proofs.YtenmegkokclolaaDoor

/- Strips: given (Strips$1). -/
import Derived.Test.YtenmegkokclolaaDoorMzp
namespace Go.Proofs.YtenmegkokclolaaDoor
open Go.RowKit
set_option linter.unusedSimpArgs false
set_option linter.unusedVariables false
set_option maxRecDepth 100000

/-- The box of the first facts. -/
structure FBx (W : World) (bf : Nat) (S : List Int) (a : Option Addr) (c : Nat) : Prop where
  lt : bf < W.heap.size
  cell : W.cell? ⟨bf, 0, none⟩ = some (.slice a S.length c)
  lst : Lst W W.heap.size a c (fsL S)
theorem FBx.to {W W' : World} {bf : Nat} {S : List Int} {a : Option Addr} {c : Nat} (h : FBx W bf S a c) (hb : Below W.heap.size W W') : FBx W' bf S a c :=
  ⟨Nat.lt_of_lt_of_le h.lt hb.size, (hb.cell (p := ⟨bf, 0, none⟩) h.lt).trans h.cell, h.lst.to hb hb.size⟩
theorem FBx.at_ {W : World} {bf : Nat} {S : List Int} {a : Option Addr} {c : Nat} (h : FBx W bf S a c) {k : Nat} (hk : k < S.length) : ∃ b o, a = some ⟨b, o, none⟩ ∧ b < W.heap.size ∧ W.cell? ⟨b, o + k, none⟩ = some (.int .i64 (smN S k)) := by
  obtain ⟨b, o, e, hb, hc⟩ := h.lst.nums.at_ (k := k) (by rw [fsL_len]; exact hk)
  rw [ix_fs hk] at hc
  exact ⟨b, o, e, hb, hc⟩
set_option maxHeartbeats 2000000 in
theorem given_any (S : List Int) (hz : SzOk S) (A aF : Option Addr) (c cF bf : Nat) (l : List Asg) (hl : AsOk S l) (w : World) (hL : AsgL w w.heap.size A c l) (hF : FBx w bf S aF cF) :
    Calls Tryd.prog 40 #[.slice A l.length c, .pointer (some ⟨bf, 0, none⟩)] w (CopyPost w (gvL S l)) := by
  have h8 := hz.n8
  have hll := as_len hl
  have HL := Lib.hid (fun (W : World) (h : Below w.heap.size w W) => hL.to h h.size)
  have HF := Lib.hid (fun (W : World) (h : Below w.heap.size w W) => hF.to h)
  obtain ⟨i0, hi0, hz0, hz1, hz2⟩ := info_parts info_int
  clear hL hF
  go_enter Tryd.func40, Tryd.ntmps40
  go_wp2
  go_loopw [4, 9] (fun v i wr => ∃ (k : Nat), k ≤ l.length ∧ i = .int .i64 k ∧ wr.ownsRow w.heap.size 3 1 v (gvN S l k).length ((gvN S l k).map (Value.int .i64)) ∧ Below w.heap.size w wr) (fun _ i _ => l.length - (intOf i).toNat)
  case atStart => exact ⟨0, by omega, rfl, World.ownsRow_nil _ _ _ _, Below.refl _ _⟩
  case round =>
    obtain ⟨k, hk, rfl, ho, hb⟩ := hrel
    have HO := Lib.hid ho
    have HB := Lib.hid hb
    clear ho hb
    by_cases hlt : k < l.length
    case neg =>
      obtain rfl : k = l.length := by omega
      have hge : ¬ ((l.length : Int) < l.length) := by omega
      go_wp2
      go_ret
      rw [← gvN_all]
      exact ⟨_, rfl, HO.out, HB.out⟩
    obtain ⟨av, cv, rfl, _, _⟩ := own_lst HO.out
    obtain ⟨b, o, rfl, hbl, ⟨q0, q1⟩⟩ := (HL.out _ HB.out).at_ hlt
    have hv := hl.v k hlt
    have hlt2 := hl.lt k hlt
    have hx := hl.x k hlt
    have hs := hz.r _ hlt2
    have h1 := smN_le hz (vr l k) (by omega)
    have hw1 : IntKind.i64.wrap (smN S (vr l k) + (asg l k).x) = smN S (vr l k) + (asg l k).x := IntWalk.i64_in _ (by omega)
    rw [hv] at q0
    have hal := al_b wr (.cells #[.int .i64 (vr l k : Int), .int .i64 (asg l k).x] 75)
    have HO5 := Lib.hid (own_to HO.out hal)
    have HB5 := Lib.hid (HB.out.trans (hal.mono HB.out.size))
    obtain ⟨_, f0, _⟩ := HF.out _ HB5.out
    obtain ⟨bF, oF, haF, _, hcF⟩ := (HF.out _ HB5.out).at_ hlt2
    rw [haF] at f0
    have HLN := Lib.hid (gvN_len (S := S) hk)
    have HST := Lib.hid (gvN_succ (S := S) hlt)
    have hbl0 : w.heap.size ≤ wr.heap.size := HB.out.size
    have hbF : bF < w.heap.size := by
      obtain ⟨bF', oF', haF', hbF', _⟩ := (HF.out _ (Below.refl _ _)).at_ hlt2
      rw [haF] at haF'; cases haF'; exact hbF'
    have hbf : bf < w.heap.size := (HF.out _ (Below.refl _ _)).lt
    have hvb : ∀ q, (Value.slice av (gvN S l k).length cv).ownBlock = some q → w.heap.size ≤ q ∧ q < wr.heap.size := fun q hq => HO.out.lt q hq
    have HS5 := Lib.hid (show (wr.alloc (.cells #[.int .i64 (vr l k : Int), .int .i64 (asg l k).x] 75)).cell? ⟨wr.heap.size, 0, none⟩ = some (.int .i64 (vr l k : Int)) ∧ (wr.alloc (.cells #[.int .i64 (vr l k : Int), .int .i64 (asg l k).x] 75)).cell? ⟨wr.heap.size, 1, none⟩ = some (.int .i64 (asg l k).x) ∧ (wr.alloc (.cells #[.int .i64 (vr l k : Int), .int .i64 (asg l k).x] 75)).cell? ⟨bf, 0, none⟩ = some (.slice (some ⟨bF, oF, none⟩) S.length cF) ∧ (wr.alloc (.cells #[.int .i64 (vr l k : Int), .int .i64 (asg l k).x] 75)).cell? ⟨bF, oF + vr l k, none⟩ = some (.int .i64 (smN S (vr l k))) ∧ Below w.heap.size w (wr.alloc (.cells #[.int .i64 (vr l k : Int), .int .i64 (asg l k).x] 75)) ∧ wr.heap.size < (wr.alloc (.cells #[.int .i64 (vr l k : Int), .int .i64 (asg l k).x] 75)).heap.size from ⟨by simp, by simp, f0, hcF, HB5.out, by simp⟩)
    have HSB := Lib.hid (fun (V V' : World) (h : V.cell? ⟨wr.heap.size, 0, none⟩ = some (.int .i64 (vr l k : Int)) ∧ V.cell? ⟨wr.heap.size, 1, none⟩ = some (.int .i64 (asg l k).x) ∧ V.cell? ⟨bf, 0, none⟩ = some (.slice (some ⟨bF, oF, none⟩) S.length cF) ∧ V.cell? ⟨bF, oF + vr l k, none⟩ = some (.int .i64 (smN S (vr l k))) ∧ Below w.heap.size w V ∧ wr.heap.size < V.heap.size) (hb : Below V.heap.size V V') => show V'.cell? ⟨wr.heap.size, 0, none⟩ = some (.int .i64 (vr l k : Int)) ∧ V'.cell? ⟨wr.heap.size, 1, none⟩ = some (.int .i64 (asg l k).x) ∧ V'.cell? ⟨bf, 0, none⟩ = some (.slice (some ⟨bF, oF, none⟩) S.length cF) ∧ V'.cell? ⟨bF, oF + vr l k, none⟩ = some (.int .i64 (smN S (vr l k))) ∧ Below w.heap.size w V' ∧ wr.heap.size < V'.heap.size from by
      obtain ⟨h1, h2, h3, h4, h5, h6⟩ := h
      have h7 := h5.size
      exact ⟨(hb.cell (p := ⟨wr.heap.size, 0, none⟩) h6).trans h1, (hb.cell (p := ⟨wr.heap.size, 1, none⟩) h6).trans h2, (hb.cell (p := ⟨bf, 0, none⟩) (by show bf < _; omega)).trans h3, (hb.cell (p := ⟨bF, oF + vr l k, none⟩) (by show bF < _; omega)).trans h4, h5.trans (hb.mono h7), Nat.lt_of_lt_of_le h6 hb.size⟩)
    have HSG := Lib.hid (fun (V V' : World) (h : V.cell? ⟨wr.heap.size, 0, none⟩ = some (.int .i64 (vr l k : Int)) ∧ V.cell? ⟨wr.heap.size, 1, none⟩ = some (.int .i64 (asg l k).x) ∧ V.cell? ⟨bf, 0, none⟩ = some (.slice (some ⟨bF, oF, none⟩) S.length cF) ∧ V.cell? ⟨bF, oF + vr l k, none⟩ = some (.int .i64 (smN S (vr l k))) ∧ Below w.heap.size w V ∧ wr.heap.size < V.heap.size) (hg : V.grownBy V' (Value.slice av (gvN S l k).length cv).ownBlock) => show V'.cell? ⟨wr.heap.size, 0, none⟩ = some (.int .i64 (vr l k : Int)) ∧ V'.cell? ⟨wr.heap.size, 1, none⟩ = some (.int .i64 (asg l k).x) ∧ V'.cell? ⟨bf, 0, none⟩ = some (.slice (some ⟨bF, oF, none⟩) S.length cF) ∧ V'.cell? ⟨bF, oF + vr l k, none⟩ = some (.int .i64 (smN S (vr l k))) ∧ Below w.heap.size w V' ∧ wr.heap.size < V'.heap.size from by
      obtain ⟨h1, h2, h3, h4, h5, h6⟩ := h
      have hne : ∀ q, w.heap.size ≤ q → q < wr.heap.size → q ≠ wr.heap.size ∧ q ≠ bf ∧ q ≠ bF := fun q _ _ => by omega
      have hN : ∀ b, (b = wr.heap.size ∨ b = bf ∨ b = bF) → some b ≠ (Value.slice av (gvN S l k).length cv).ownBlock := fun b hb e => by
        have h8 := hvb b e.symm
        have h9 := hne b h8.1 h8.2
        omega
      exact ⟨hg.cell h1 (hN _ (.inl rfl)), hg.cell h2 (hN _ (.inl rfl)), hg.cell h3 (hN _ (.inr (.inl rfl))), hg.cell h4 (hN _ (.inr (.inr rfl))), h5.grown hg h5.size (fun q hq => (hvb q hq).1), Nat.lt_of_lt_of_le h6 hg.size⟩)
    clear hv hx hs h1 hal hbl0 hbF hbf hvb f0 hcF
    go_wp2
    go_region_held3 (fun V => V.cell? ⟨wr.heap.size, 0, none⟩ = some (.int .i64 (vr l k : Int)) ∧ V.cell? ⟨wr.heap.size, 1, none⟩ = some (.int .i64 (asg l k).x) ∧ V.cell? ⟨bf, 0, none⟩ = some (.slice (some ⟨bF, oF, none⟩) S.length cF) ∧ V.cell? ⟨bF, oF + vr l k, none⟩ = some (.int .i64 (smN S (vr l k))) ∧ Below w.heap.size w V ∧ wr.heap.size < V.heap.size) (first | assumption | (refine ⟨?_, ?_, ?_, ?_, ?_, ?_⟩ <;> assumption) | (exact HS5.out) | (exact HSB.out _ _ HS5.out (Below.refl _ _).drew) | (exact HSB.out _ _ HS5.out (al_b _ _).drew) | (exact HSB.out _ _ (by assumption) (al_b _ _)) | (exact HSB.out _ _ (by assumption) (al_b _ _).drew) | (exact HSG.out _ _ (by assumption) hgrow) | (exact HSG.out _ _ (HSB.out _ _ (by assumption) (al_b _ _)) hgrow)) (first | go_loud ((refine step_append_lies _ (by rfl) _ _ _ (by rfl) w.heap.size 3 i0 (.int .i64 0) 1 8 Tryd.underlying22 hi0 hz0 hz1 hz2 rfl (by omega) (.slice av (gvN S l k).length cv) (gvN S l k).length ((gvN S l k).map (Value.int .i64)) (by rfl) ?_ _ 1 1 [.int .i64 (smN S (vr l k) + (asg l k).x)] (by rfl) (by rfl) ?_ (by simp [Value.oneCell']) (by omega) (by rw [HLN.out]; unfold maxLen; omega) (by rw [HLN.out]; omega) ?_ _ rfl ?_; (first | exact HO5.out | exact HO5.out.alloc _ | exact (HO5.out.alloc _).drew | exact (HO5.out.drew.alloc _) | exact HO5.out.drew); (first | exact cell_one_new _ _ _ | exact news1 (by simp)); (have := HB5.out.size; simp at this ⊢; omega); intro gg cap w1 hown1 hgrow hat hlt1; have HON := Lib.hid hown1)))
    all_goals
      have HK := Lib.hid (show w1.cell? ⟨wr.heap.size, 0, none⟩ = some (.int .i64 (vr l k : Int)) ∧ w1.cell? ⟨wr.heap.size, 1, none⟩ = some (.int .i64 (asg l k).x) ∧ w1.cell? ⟨bf, 0, none⟩ = some (.slice (some ⟨bF, oF, none⟩) S.length cF) ∧ w1.cell? ⟨bF, oF + vr l k, none⟩ = some (.int .i64 (smN S (vr l k))) ∧ Below w.heap.size w w1 ∧ wr.heap.size < w1.heap.size by assumption)
      go_wp2
      go_roundw
      case rel =>
        refine ⟨k + 1, by omega, by go_num, ?_, HK.out.2.2.2.2.1⟩
        rw [HST.out]
        simp only [List.length_append, List.length_singleton, List.map_append, List.map_cons, List.map_nil]
        exact HON.out
      case measure => simp [intOf]; omega

/-- The box of an assignment, apart from a row. -/
structure AgB (W : World) (q : Nat) (a : Asg) (r : Option Nat) : Prop where
  lt : q < W.heap.size
  cell : AsgC W q 0 a
  ne : r ≠ some q
theorem AgB.to {W W' : World} {q : Nat} {a : Asg} {r : Option Nat} (h : AgB W q a r) (hb : Below W.heap.size W W') : AgB W' q a r := ⟨Nat.lt_of_lt_of_le h.lt hb.size, h.cell.to hb h.lt, h.ne⟩
theorem AgB.grown {W W' : World} {q : Nat} {a : Asg} {r r' : Option Nat} (h : AgB W q a r) (hg : W.grownBy W' r) (hr : r' = r ∨ r' = some W.heap.size) : AgB W' q a r' := by
  have hn : some q ≠ r := fun e => h.ne e.symm
  refine ⟨Nat.lt_of_lt_of_le h.lt hg.size, ⟨hg.cell h.cell.c0 hn, hg.cell h.cell.c1 hn⟩, ?_⟩
  rcases hr with rfl | rfl
  · exact h.ne
  · intro e
    injection e with e
    have := h.lt
    omega
set_option maxHeartbeats 4000000 in
theorem others_any (S : List Int) (hz : SzOk S) (A aF az : Option Addr) (c cF cz bf bm : Nat) (l : List Asg) (hl : AsOk S l) (w : World) (hL : AsgL w w.heap.size A c l) (hF : FBx w bf S aF cF) (hS : Lst w w.heap.size az cz S) (hbm : bm < w.heap.size) (hcm : w.cell? ⟨bm, 0, none⟩ = some (.slice az S.length cz)) :
    Calls Tryd.prog 41 #[.slice A l.length c, .pointer (some ⟨bm, 0, none⟩), .pointer (some ⟨bf, 0, none⟩)] w (CopyPost w (otL S l)) := by
  have h8 := hz.n8
  have hll := as_len hl
  have HL := Lib.hid (fun (W : World) (h : Below w.heap.size w W) => hL.to h h.size)
  have HF := Lib.hid (fun (W : World) (h : Below w.heap.size w W) => hF.to h)
  have HS := Lib.hid (fun (W : World) (h : Below w.heap.size w W) => hS.to h h.size)
  have HM := Lib.hid (fun (W : World) (h : Below w.heap.size w W) => (h.cell (p := ⟨bm, 0, none⟩) hbm).trans hcm)
  obtain ⟨i0, hi0, hz0, hz1, hz2⟩ := info_parts info_int
  clear hL hF hS hcm
  go_enter Tryd.func41, Tryd.ntmps41
  go_wp2
  go_loopw [5, 11] (fun v i wr => ∃ (k : Nat), k ≤ l.length ∧ i = .int .i64 k ∧ wr.ownsRow w.heap.size 3 1 v (otN S l k).length ((otN S l k).map (Value.int .i64)) ∧ Below w.heap.size w wr) (fun _ i _ => l.length - (intOf i).toNat)
  case atStart => exact ⟨0, by omega, rfl, World.ownsRow_nil _ _ _ _, Below.refl _ _⟩
  case round =>
    obtain ⟨k, hk, rfl, ho, hb⟩ := hrel
    have HO := Lib.hid ho
    have HB := Lib.hid hb
    clear ho hb
    by_cases hlt : k < l.length
    case neg =>
      obtain rfl : k = l.length := by omega
      have hge : ¬ ((l.length : Int) < l.length) := by omega
      go_wp2
      go_ret
      rw [← otN_all]
      exact ⟨_, rfl, HO.out, HB.out⟩
    obtain ⟨b, o, rfl, hbl, ⟨q0, q1⟩⟩ := (HL.out _ HB.out).at_ hlt
    have hv := hl.v k hlt
    have hlt2 := hl.lt k hlt
    have hs := hz.r _ hlt2
    have h1 := smN_le hz (vr l k) (by omega)
    obtain ⟨n, hn⟩ := Int.eq_ofNat_of_zero_le (show 0 ≤ ix S (vr l k) by omega)
    have hn6 : n ≤ 6 := by omega
    have HLE0 := Lib.hid (otN_len hz hl k hk)
    have HSA := Lib.hid (show otA S (asg l k) = ot1 S (asg l k) n by unfold otA; rw [show (asg l k).v.toNat = vr l k from rfl, hn]; rfl)
    rw [hv] at q0
    have hal := al_b wr (.cells #[.int .i64 (vr l k : Int), .int .i64 (asg l k).x] 75)
    have HO5 := Lib.hid (own_to HO.out hal)
    have HB5 := Lib.hid (HB.out.trans (hal.mono HB.out.size))
    obtain ⟨bz, oz, haz, _, hcz⟩ := (HS.out _ HB5.out).nums.at_ hlt2
    have hm0 := HM.out _ HB5.out
    rw [haz] at hm0
    rw [hn] at hcz
    have HAG := Lib.hid (show AgB (wr.alloc (.cells #[.int .i64 (vr l k : Int), .int .i64 (asg l k).x] 75)) wr.heap.size (asg l k) u5.ownBlock from ⟨by simp, ⟨by rw [hv]; simp, by simp⟩, fun e => by have := (HO.out.lt _ e).2; omega⟩)
    obtain ⟨q, hq⟩ : ∃ q, wr.heap.size = q := ⟨_, rfl⟩
    have HAG := Lib.hid (hq ▸ HAG.out)
    have HST := Lib.hid (otN_succ (S := S) hlt)
    have HVV := Lib.hid hv
    have hvl : vr l k ≤ 8 := by omega
    clear hv hs hal hn
    go_wp2
    go_loopw [5, 21] (fun v i wv => ∃ (j : Nat), j ≤ n ∧ i = .int .i64 j ∧ wv.ownsRow w.heap.size 3 1 v (otN S l k ++ ot1 S (asg l k) j).length ((otN S l k ++ ot1 S (asg l k) j).map (Value.int .i64)) ∧ Below w.heap.size w wv ∧ AgB wv q (asg l k) v.ownBlock) (fun _ i _ => n - (intOf i).toNat)
    case atStart => exact ⟨0, by omega, rfl, by have := HO5.out; unfold ot1; simpa using this, HB5.out, HAG.out⟩
    case round =>
      clear hm0 hcz q0 q1 HO HO5 HAG
      obtain ⟨j, hj, rfl, ho, hb, hg⟩ := hrel
      have HO3 := Lib.hid ho
      have HB3 := Lib.hid hb
      have HG3 := Lib.hid hg
      clear ho hb hg
      obtain ⟨p0, p1⟩ := HG3.out.cell
      rw [HVV.out] at p0
      by_cases hlj : j < n
      case neg =>
        obtain rfl : j = n := by omega
        have hge : ¬ ((j : Int) < j) := by omega
        go_wp2
        go_roundw
        case rel => exact ⟨k + 1, by omega, by go_num, by rw [HST.out, HSA.out]; exact HO3.out, HB3.out⟩
        case measure => simp [intOf]; omega
      have HLE := Lib.hid (show ((otN S l k ++ ot1 S (asg l k) j)).length ≤ 60 by have h2 := HLE0.out; have h3 := ot1_len S (asg l k) j; rw [List.length_append]; omega)
      have hst := ot1_succ S (asg l k) j
      by_cases he : (j : Int) = (asg l k).x
      · have hd : ((j : Int) != (asg l k).x) = false := by simpa using he
        have hd2 : ((j : Int) == (asg l k).x) = true := by simpa using he
        rw [if_neg (by simpa using he)] at hst
        have HS1 := Lib.hid hst
        clear hst he
        go_wp2
        go_roundw
        case rel => exact ⟨j + 1, by omega, by go_num, by rw [HS1.out]; exact HO3.out, HB3.out, HG3.out⟩
        case measure => simp [intOf]; omega
      · have hd : ((j : Int) != (asg l k).x) = true := by simpa using he
        have hd2 : ((j : Int) == (asg l k).x) = false := by simpa using he
        rw [if_pos he] at hst
        have HS1 := Lib.hid (show otN S l k ++ ot1 S (asg l k) (j + 1) = (otN S l k ++ ot1 S (asg l k) j) ++ [smN S (vr l k) + (j : Int)] by rw [hst, List.append_assoc]; rfl)
        obtain ⟨_, f0, _⟩ := HF.out _ HB3.out
        obtain ⟨bF, oF, haF, _, hcF⟩ := (HF.out _ HB3.out).at_ hlt2
        rw [haF] at f0
        have hw1 : IntKind.i64.wrap (smN S (vr l k) + (j : Int)) = smN S (vr l k) + (j : Int) := IntWalk.i64_in _ (by omega)
        clear hst he haF
        go_wp2_with (at_builtin; refine wpList_append_own_at _ rfl _ _ 22 rfl w.heap.size 3 i0 (.int .i64 0) 1 8 Tryd.underlying22 hi0 hz0 hz1 hz2 rfl (by decide) _ _ _ rfl (own_to HO3.out (al_b wr _)) ⟨wr.heap.size, 0, none⟩ 1 1 [.int .i64 (smN S (vr l k) + (j : Int))] rfl rfl (news1 (cell_new _ _ _).1) (by simp [Value.oneCell']) (by have := HLE.out; unfold maxLen; omega) (by have := HLE.out; omega) (by have := HB3.out.size; simp; omega) ?_)
        intro v6 w6 hown6 hgrow6 _ hat6
        have hal6 := al_b wr (.cells #[.int .i64 (smN S (vr l k) + (j : Int))] 3)
        have hO6 : w6.ownsRow w.heap.size 3 1 v6 (otN S l k ++ ot1 S (asg l k) (j + 1)).length ((otN S l k ++ ot1 S (asg l k) (j + 1)).map (Value.int .i64)) := by rw [HS1.out]; simp only [List.length_append, List.length_singleton, List.map_append, List.map_cons, List.map_nil, List.append_assoc]; simpa [Nat.add_assoc] using hown6
        have HO6 := Lib.hid hO6
        have HB6 := Lib.hid (HB3.out.trans (((Below.refl w.heap.size wr).alloc HB3.out.size _).grown hgrow6 (by have := HB3.out.size; simp; omega) (fun q hq => (HO3.out.lt q hq).1)))
        have HG6 := Lib.hid ((HG3.out.to hal6).grown hgrow6 (by simpa using hat6))
        clear hown6 hgrow6 hat6 hal6 hO6
        go_wp2
        go_roundw
        case rel => exact ⟨j + 1, by omega, by go_num, HO6.out, HB6.out, HG6.out⟩
        case measure => simp [intOf]; omega
end Go.Proofs.YtenmegkokclolaaDoor

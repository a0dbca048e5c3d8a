/- Package invariant: Find up to the sort. -/
import Derived.Test.YtenmegkokclolaaDoorVlw
import Derived.Test.YtenmegkokclolaaDoorVcm
namespace Go.Proofs.YtenmegkokclolaaDoor
open Go.RowKit
set_option linter.unusedSimpArgs false
set_option linter.unusedVariables false
set_option maxRecDepth 100000

theorem Own2.snoc0 {W w1 : World} {base : Nat} {v v' u : Value} {ls : List (List Int)} {t : List Int} {vals : List Value} {tmp : Obj} (hv : W.ownsRow base 22 1 v ls.length vals) (hl : vals.length = ls.length)
    (hk : ∀ k, k < ls.length → ∃ u, vals[k]? = some u ∧ W.ownsRow base 3 1 u (rw_ ls k).length ((rw_ ls k).map (Value.int .i64))) (hu : W.ownsRow base 3 1 u t.length (t.map (Value.int .i64)))
    (hown : w1.ownsRow base 22 1 v' (ls.length + 1) (vals ++ [u])) (hg : (W.alloc tmp).grownBy w1 v.ownBlock) : Own2 w1 base v' (ls ++ [t]) := by
  have key : ∀ {n : Nat} {q : Value} {xs : List Value}, W.ownsRow base 3 1 q n xs → w1.ownsRow base 3 1 q n xs := by
    intro n q xs hq
    exact (hq.alloc tmp).kept hg (rows_ne (by decide) (hv.alloc tmp) (hq.alloc tmp))
  refine ⟨vals ++ [u], by simpa using hown, by simp [hl], fun k hlt => ?_⟩
  simp only [List.length_append, List.length_cons, List.length_nil] at hlt
  by_cases e : k < ls.length
  · obtain ⟨q, hq, hoq⟩ := hk k e
    refine ⟨q, by rw [List.getElem?_append_left (by omega)]; exact hq, ?_⟩
    rw [rw_snoc_lt e]
    exact key hoq
  · obtain rfl : k = ls.length := by omega
    refine ⟨u, by rw [← hl]; simp, ?_⟩
    rw [rw_snoc_last]
    exact key hu
theorem Own2.mono {W : World} {base b0 : Nat} {v : Value} {ls : List (List Int)} (h : Own2 W base v ls) (hb : b0 ≤ base) : Own2 W b0 v ls := by
  obtain ⟨vals, ho, hl, hr⟩ := h
  exact ⟨vals, own_mono ho hb, hl, fun k hk => by obtain ⟨u, hu, hou⟩ := hr k hk; exact ⟨u, hu, own_mono hou hb⟩⟩

def fdF (x : Tsk) : Int × Int := if (tkF x).1 ≠ 0 then tkF x else if 10 < x.n then (10, -8) else (0, 0)
/-- All that is found, in the order of the search. -/
def fdL (x : Tsk) : List (List Int) := lgs x x.n.toNat (2 ^ x.n.toNat)
def SortedL (ls : List (List Int)) : Prop := ls.Pairwise (fun a b => ¬ cmpL b a < 0)
def FdPost (w : World) (x : Tsk) (e : Ending) (w' : World) : Prop :=
  ∃ v ls, e = .returned (.tuple #[v, faultV (fdF x)]) ∧ Fresh2 w' w.heap.size v ls ∧ Below w.heap.size w w' ∧ ((fdF x).1 = 0 → ls.Perm (fdL x) ∧ SortedL ls) ∧ ((fdF x).1 ≠ 0 → ls = [])
theorem setCell_other_block (W : World) {p : Addr} (u : Value) {b : Nat} (h : p.block ≠ b) : (W.setCell p u).heap[b]? = W.heap[b]? := by
  unfold World.setCell
  simp [Array.getElem?_modify, h]
theorem Fresh2.mono {W : World} {base b0 : Nat} {v : Value} {ls : List (List Int)} (h : Fresh2 W base v ls) (hb : b0 ≤ base) : Fresh2 W b0 v ls :=
  fun W2 hw hs => h W2 (fun b h1 h2 => hw b (by omega) h2) hs
theorem Fresh2.far {W : World} {base : Nat} {v : Value} {ls : List (List Int)} (h : Fresh2 W base v ls) {p : Addr} (hp : p.block < base) (u : Value) : Fresh2 (W.setCell p u) base v ls := by
  intro W2 hw hs
  refine h W2 (fun b h1 h2 => ?_) (by simpa using hs)
  rw [hw b h1 (by simpa using h2)]
  exact setCell_other_block W u (by omega)

/-- What the sort does to a row of lists that stand in new blocks. -/
def SortC : Prop := ∀ (W : World) (base : Nat) (v : Value) (ls : List (List Int)), Own2 W base v ls → base ≤ W.heap.size → ls.length ≤ 2000 →
  Calls Tryd.prog 32 #[v, .func (.func 33) #[] #[]] W fun e w' => e = .returned (.tuple #[]) ∧ ∃ ls', ls'.Perm ls ∧ SortedL ls' ∧ Fresh2 w' base v ls' ∧ Below base W w'

theorem take_rw {ls : List (List Int)} {k : Nat} (h : k < ls.length) : ls.take (k + 1) = ls.take k ++ [rw_ ls k] := by
  rw [List.take_add_one, List.getElem?_eq_getElem h]
  simp [rw_, List.getD, List.getElem?_eq_getElem h]
theorem Fr1.to2 {w W W' W0 : World} {x : Tsk} {u v : Int} (h : Fr1 w W x u v) (hb : Below W0.heap.size W W') (h0 : Fr1 w W0 x u v) : Fr1 w W' x u v :=
  ⟨h.below.trans (hb.mono h0.below.size), h.box.to hb h0.box.lt, h.two.to hb h0.two.lt⟩
set_option maxHeartbeats 4000000 in
theorem find_any (HSC : SortC) (x : Tsk) (w : World) (hX : TskIn w w.heap.size x) (hT : TabIn w) :
    Calls Tryd.prog 13 #[.agg #[.int .i64 x.n, .slice x.ai x.init.length x.ci, .slice x.ag x.goal.length x.cg, .slice x.ao x.ops.length x.co]] w (FdPost w x) := by
  have hB2 : Below w.heap.size w ((w.alloc (.cells #[.int .i64 x.n, .slice x.ai x.init.length x.ci, .slice x.ag x.goal.length x.cg, .slice x.ao x.ops.length x.co] 25)).alloc (.cells #[.int .i64 0, .int .i64 0] 27)) := by go_grown
  have HC := validate_any x _ (hX.to hB2 hB2.size)
  have HX := Lib.hid (fun (W : World) (h : Below w.heap.size w W) => hX.to h h.size)
  have HT := Lib.hid (fun (W : World) (h : Below w.heap.size w W) => hT.to h (Nat.le_refl _))
  have HSO := Lib.hid HSC
  clear hX hB2 hT HSC
  have hF0 := Lib.hid (fr1_new w x 25 27)
  by_cases ht : (tkF x).1 = 0
  case neg =>
    have H := Lib.hid (show fdF x = tkF x by simp [fdF, ht])
    have H0 := Lib.hid ht
    have hne : ((tkF x).1 != 0) = true := by simpa using ht
    have hne2 : ((tkF x).1 == 0) = false := by simpa using ht
    clear ht
    go_enter Tryd.func13, Tryd.ntmps13
    go_wp2_with (go_at_call 24; (with_reducible refine HC.mono ?_); rintro e w1 ⟨rfl, hbw⟩; have hF := Lib.hid (hF0.out.to hbw); obtain ⟨_, ⟨_, t0, t1, t2, t3⟩, ⟨_, k0, k1, f0, f1⟩⟩ := hF.out)
    go_region
    all_goals
      go_wp2
      have htw := hF.out.two
      have hbe := hF.out.below
      refine post_with_fault (g := w.heap.size + 1) (x := .int .i64 (tkF x).1) (y := .int .i64 (tkF x).2) Tryd.results13 rfl ?_ ?_
      · (repeat' (first | (with_reducible assumption) | (with_reducible exact two_new _ _ _ _) | (with_reducible exact (two_new _ _ _ _).pair) | (with_reducible exact Two.pair ‹_›) | (with_reducible refine Pair.set ?_ _ _) | (with_reducible refine Two.alloc ?_ _) | (with_reducible refine Pair.alloc ?_ _) | (with_reducible refine two1 ?_) | (with_reducible refine twoN ?_ _) | (with_reducible refine Pair.drew ?_) | (with_reducible refine Pair.drewN ?_ _) | (with_reducible refine Two.far ?_ ?_ _) | (with_reducible refine Pair.far ?_ ?_ _) | (simp; omega)))
      · refine ⟨_, [], by rw [H.out]; rfl, fresh2_nil _ _, ?_, fun h => absurd (by rw [H.out] at h; exact h) H0.out, fun _ => rfl⟩
        (repeat' (first | (with_reducible assumption) | (with_reducible exact Below.refl _ _) | (with_reducible refine belowN ?_ _) | (with_reducible refine Below.alloc ?_ ?_ _) | (with_reducible refine Below.drew ?_) | (with_reducible refine Below.setCell ?_ ?_ _) | go_size))
  have hv := tkF_val ht
  have hn0 : 0 ≤ x.n ∧ x.n ≤ 24 := by have := hv.eq; have := hv.le; omega
  have HV := Lib.hid hv
  rw [tkF_fst ht] at HC
  by_cases h10 : 10 < x.n
  · have H := Lib.hid (show fdF x = (10, -8) by simp [fdF, ht, h10])
    have d1 : decide (10 < x.n) = true := decide_eq_true h10
    clear ht hv hn0 h10
    go_enter Tryd.func13, Tryd.ntmps13
    go_wp2_with (go_at_call 24; (with_reducible refine HC.mono ?_); rintro e w1 ⟨rfl, hbw⟩; have hF := Lib.hid (hF0.out.to hbw); obtain ⟨_, ⟨_, t0, t1, t2, t3⟩, ⟨_, k0, k1, f0, f1⟩⟩ := hF.out)
    have htw := hF.out.two
    have hbe := hF.out.below
    refine post_with_fault (g := w.heap.size + 1) (x := .int .i64 10) (y := .int .i64 (-8)) Tryd.results13 rfl ?_ ?_
    · (repeat' (first | (with_reducible assumption) | (with_reducible exact two_new _ _ _ _) | (with_reducible exact (two_new _ _ _ _).pair) | (with_reducible exact Two.pair ‹_›) | (with_reducible refine Pair.set ?_ _ _) | (with_reducible refine Two.alloc ?_ _) | (with_reducible refine Pair.alloc ?_ _) | (with_reducible refine two1 ?_) | (with_reducible refine twoN ?_ _) | (with_reducible refine Pair.drew ?_) | (with_reducible refine Pair.drewN ?_ _) | (with_reducible refine Two.far ?_ ?_ _) | (with_reducible refine Pair.far ?_ ?_ _) | (simp; omega)))
    · refine ⟨_, [], by rw [H.out]; rfl, fresh2_nil _ _, ?_, fun h => absurd (by rw [H.out] at h; exact h) (by decide), fun _ => rfl⟩
      (repeat' (first | (with_reducible assumption) | (with_reducible exact Below.refl _ _) | (with_reducible refine belowN ?_ _) | (with_reducible refine Below.alloc ?_ ?_ _) | (with_reducible refine Below.drew ?_) | (with_reducible refine Below.setCell ?_ ?_ _) | go_size))
  have H := Lib.hid (show fdF x = (0, 0) by simp [fdF, ht, h10])
  have d1 : decide (10 < x.n) = false := decide_eq_false h10
  have HLG := Lib.hid (fun (W : World) (h : Below w.heap.size w W) => largest_any x x.n.toNat (by omega) (by omega) W (HX.out W h) (hv.init.mono (by have := hv.le; omega)) hv.ops24)
  have HLL := lgs_len (x := x) (n := x.n.toNat) (2 ^ x.n.toNat)
  have hK : 2 ^ x.n.toNat ≤ 1024 := Nat.le_trans (Nat.pow_le_pow_right (by omega) (show x.n.toNat ≤ 10 by omega)) (by decide)
  have HMS := Lib.hid (show ∀ l, l ∈ lgs x x.n.toNat (2 ^ x.n.toNat) → IsS l 24 from fun l hl => by obtain ⟨i, _, e⟩ := lgs_mem hl; rw [e]; exact (grL_isS _ i).mono (by omega))
  have HFD := Lib.hid (show fdL x = lgs x x.n.toNat (2 ^ x.n.toNat) from rfl)
  generalize lgs x x.n.toNat (2 ^ x.n.toNat) = ls at *
  clear ht hv hn0 h10
  obtain ⟨i0, hi, hz0, hz1, hz2⟩ := info_parts info_sl
  go_enter Tryd.func13, Tryd.ntmps13
  go_wp2_with (first | (go_at_call 24; (with_reducible refine HC.mono ?_); rintro e w1 ⟨rfl, hbw⟩; have hF := Lib.hid (hF0.out.to hbw); obtain ⟨_, ⟨_, t0, t1, t2, t3⟩, ⟨_, k0, k1, f0, f1⟩⟩ := hF.out) | (go_at_call 30; (with_reducible refine (HLG.out _ ?_).mono ?_); (exact (hF.out.alloc _).below); rintro e w2 ⟨v2, rfl, how2, hb2⟩; obtain ⟨a, c, rfl, hmsk, hle, hmx⟩ := msk_own how2; have HF2 := Lib.hid ((hF.out.alloc (.cells #[.int .i64 0, .int .i64 0] 27)).to hb2); have HM2 := Lib.hid hmsk; clear hmsk how2 hb2))
  go_loopw [5, 21] (fun v i wr => ∃ k : Nat, k ≤ ls.length ∧ i = .int .i64 k ∧ Below w2.heap.size w2 wr ∧ Own2 wr w2.heap.size v (ls.take k)) (fun _ i _ => ls.length - (intOf i).toNat)
  case atStart => exact ⟨0, by omega, rfl, Below.refl _ _, by simpa using Own2.nil _ _⟩
  case round =>
    obtain ⟨k, hk, rfl, hbw, hown⟩ := hrel
    have HB := Lib.hid hbw
    have HFW := Lib.hid (HF2.out.to hbw)
    clear hbw
    by_cases hlt : k < ls.length
    case neg =>
      obtain rfl : k = ls.length := by omega
      have hge : ¬ ((ls.length : Int) < ls.length) := by omega
      rw [List.take_length] at hown
      have HS := Lib.hid (HSO.out wr w2.heap.size _ ls hown HB.out.size (by omega))
      clear hown
      go_wp2_with (go_at_call 32; (with_reducible refine HS.out.mono ?_); rintro e w6 ⟨rfl, ls', hp, hs, hfr, hb6⟩; have HF6 := Lib.hid (HFW.out.to2 hb6 HF2.out); obtain ⟨_, _, ⟨_, m0, m1, h0, h1⟩⟩ := HF6.out)
      have hz := HF2.out.two.lt
      refine post_with_fault (g := w.heap.size + 1) (x := .int .i64 0) (y := .int .i64 0) Tryd.results13 rfl (HF6.out.two.set _ _) ?_
      refine ⟨_, ls', by rw [H.out]; rfl, ((hfr.far (by show w.heap.size + 1 < _; omega) _).far (by show w.heap.size + 1 < _; omega) _).mono (by omega), (HF6.out.below.setCell (by simp) _).setCell (by simp) _, fun _ => ⟨by rw [HFD.out]; exact hp, hs⟩, fun h => absurd (by rw [H.out]) h⟩
    obtain ⟨b, o, rfl, hbl, hcm⟩ := HM2.out (by omega)
    have hc := (HB.out.cell (p := ⟨b, o + k, none⟩) hbl).trans (hcm k hlt)
    clear hcm
    have HIS := Lib.hid (HMS.out _ (rw_mem hlt))
    have HLI := Lib.hid (show Calls Tryd.prog 31 #[.int .u64 (mask (rw_ ls k))] wr (ListPost wr (rw_ ls k)) from by
      have := list_any (mask (rw_ ls k)) (mask_lt64 HIS.out) wr (HT.out _ HFW.out.below)
      rwa [els_mask HIS.out] at this)
    have HO := Lib.hid hown
    clear hown
    have hll := isS_len (n := 24) HIS.out
    go_wp2_with (first | (go_at_call 31; (with_reducible refine HLI.out.mono ?_); rintro e w5 ⟨u, rfl, hou, hb5⟩; obtain ⟨ak, ck, rfl, _⟩ := (sliceOf_own hou).set; obtain ⟨vals, hov, hvl, hvk⟩ := HO.out.to hb5) | (at_builtin; refine wpList_append_own _ rfl _ _ 35 rfl w2.heap.size 22 i0 (.slice none 0 0) 1 24 Tryd.underlying35 hi hz0 hz1 hz2 rfl (by decide) _ _ _ rfl (hov.alloc _) ⟨w5.heap.size, 0, none⟩ 1 1 [.slice ak (rw_ ls k).length ck] rfl rfl ?c1 ?c2 ?c3 ?c4 ?c5 ?_))
    case c1 => exact cell_one_new _ _ _
    case c2 => simp [Value.oneCell']
    case c3 => unfold maxLen; simp; omega
    case c4 => simp; omega
    case c5 => (have h4 := hb5.size; have h5 := HB.out.size; simp at h4 h5 ⊢; omega)
    intro v' w6 hown6 hgrow _
    have HG := Lib.hid hgrow
    have hb6 : Below w2.heap.size w5 w6 := Below.grown ((Below.refl _ _).alloc (by have := HB.out.size; have := hb5.size; omega) _) hgrow (by have := HB.out.size; have := hb5.size; simp; omega) (fun q hq => (hov.lt q hq).1)
    have HO6 := Lib.hid (Own2.snoc0 (t := rw_ ls k) hov hvl hvk (own_mono hou HB.out.size) (show w6.ownsRow w2.heap.size 22 1 v' ((ls.take k).length + 1) _ from by rw [List.length_take, Nat.min_eq_left (by omega)]; exact hown6) hgrow)
    clear hgrow
    go_wp2
    go_roundw
    case rel => exact ⟨k + 1, by omega, by go_num, (HB.out.trans (hb5.mono HB.out.size)).trans hb6, by rw [take_rw hlt]; exact HO6.out⟩
    case measure => simp [intOf]; omega
end Go.Proofs.YtenmegkokclolaaDoor

/- The reference's With, for a number that the list does not have. -/
import Derived.Test.YtenmegkokclolaaDoorVpu
namespace Go.Proofs.YtenmegkokclolaaDoor
open Go.RowKit
set_option linter.unusedSimpArgs false
set_option linter.unusedVariables false
set_option maxRecDepth 100000

def wthL (l : List Int) (p : Int) (k : Nat) : List Int := l.take k ++ [p] ++ l.drop k
/-- k is the place of p in l. -/
def Cut (l : List Int) (p : Int) (k : Nat) : Prop := k ≤ l.length ∧ (∀ j, j < k → ix l j < p) ∧ (∀ j, k ≤ j → j < l.length → p < ix l j)
def WithPost (w : World) (l : List Int) (p : Int) (e : Ending) (w' : World) : Prop := ∃ k v, e = .returned v ∧ Cut l p k ∧ w'.ownsRow w.heap.size 3 1 v (wthL l p k).length ((wthL l p k).map (Value.int .i64)) ∧ Below w.heap.size w w'
theorem cell_one_all (W : World) (v : Value) (t : TypeId) : ∀ j u, [v][j]? = some u → (W.alloc (.cells #[v] t)).cell? ((⟨W.heap.size, 0, none⟩ : Addr).add j) = some u := cell_one_new W v t
theorem news_from {W : World} {B b o c k : Nat} {l : List Int} (h : Lst W B (some ⟨b, o, none⟩) c l) : ∀ j u, ((l.drop k).map (Value.int .i64))[j]? = some u → W.cell? ((⟨b, o + k, none⟩ : Addr).add j) = some u := by
  intro j u hj
  rw [List.getElem?_map, List.getElem?_drop] at hj
  have hlt : k + j < l.length := by
    rcases Nat.lt_or_ge (k + j) l.length with h1 | h1
    · exact h1
    · rw [List.getElem?_eq_none h1] at hj; cases hj
  obtain ⟨b', o', e, _, hc⟩ := h.nums.at_ hlt
  cases e
  rw [List.getElem?_eq_getElem hlt] at hj
  have e2 : ix l (k + j) = l[k + j] := by simp [ix, List.getD, hlt]
  rw [e2] at hc
  simp only [Option.map_some, Option.some.injEq] at hj
  rw [← hj, ← hc, Addr.add_lit]
  congr 2
  omega
theorem own_slice {W : World} {base e n : Nat} {v : Value} {xs : List Value} (h : W.ownsRow base e 1 v n xs) : ∃ a c, v = .slice a n c := by
  rcases h.2 with ⟨rfl, rfl⟩ | ⟨g, cap, cur, rfl, _⟩
  · exact ⟨none, 0, rfl⟩
  · exact ⟨_, cap, rfl⟩
set_option maxHeartbeats 2000000 in
theorem with_any (A : Option Addr) (c : Nat) (l : List Int) (p : Int) (w : World) (hL : Lst w w.heap.size A c l) (h1 : 1 ≤ l.length) (h24 : l.length ≤ 24) (hs : l.Pairwise (· < ·)) (hp : p ∉ l) :
    Calls Tryd.prog 20 #[.slice A l.length c, .int .i64 p] w (WithPost w l p) := by
  obtain ⟨b, o, rfl, hbl, _⟩ := hL.nums.at_ (show 0 < l.length by omega)
  have HL := Lib.hid (fun (W : World) (h : Below w.heap.size w W) => hL.to h h.size)
  have hlc := hL.le
  have HPX := Lib.hid (fun j (h : j < l.length) (e : ix l j = p) => hp (e ▸ ix_mem h))
  have HS := Lib.hid hs
  clear hL hs hp
  obtain ⟨i0, hi, hz0, hz1, hz2⟩ := info_parts info_int
  go_enter Tryd.func20, Tryd.ntmps20
  go_wp2
  go_loopw [5, 6] (fun v i wr => ∃ k : Nat, k ≤ l.length ∧ i = .int .i64 k ∧ (∀ j, j < k → ix l j < p) ∧ Below w.heap.size w wr ∧ wr.ownsRow w.heap.size 3 1 v k ((l.take k).map (Value.int .i64))) (fun _ i _ => l.length - (intOf i).toNat)
  case atStart => exact ⟨0, by omega, rfl, by omega, Below.refl _ _, World.ownsRow_nil _ _ _ _⟩
  case round =>
    obtain ⟨k, hk, rfl, hj, hbw, hown⟩ := hrel
    have HJ := Lib.hid hj
    have HB := Lib.hid hbw
    clear hj hbw
    by_cases hgo : k < l.length ∧ ix l k < p
    case pos =>
      obtain ⟨hlt, hlp⟩ := hgo
      obtain ⟨b', o', e', _, hc⟩ := (HL.out _ HB.out).nums.at_ hlt
      cases e'
      have d1 : decide (ix l k < p) = true := decide_eq_true hlp
      have HT := Lib.hid (take_succ_ix hlt)
      go_wp2_with (at_builtin; refine wpList_append_own _ rfl _ _ 22 rfl w.heap.size 3 i0 (.int .i64 0) 1 8 Tryd.underlying22 hi hz0 hz1 hz2 rfl (by decide) _ _ _ rfl (hown.alloc _) ⟨wr.heap.size, 0, none⟩ 1 1 [.int .i64 (ix l k)] rfl rfl ?c1 ?c2 ?c3 ?c4 ?c5 ?_)
      case c1 => exact cell_one_new _ _ _
      case c2 => simp [Value.oneCell']
      case c3 => unfold maxLen; omega
      case c4 => omega
      case c5 => (have h5 := HB.out.size; simp at h5 ⊢; omega)
      intro v' w6 hown6 hgrow _
      have hb6 : Below w.heap.size wr w6 := Below.grown ((Below.refl _ _).alloc HB.out.size _) hgrow (by have := HB.out.size; simp; omega) (fun q hq => (hown.lt q hq).1)
      clear hgrow
      go_wp2
      go_roundw
      case rel => exact ⟨k + 1, by omega, by go_num, fun j hj => by
        rcases Nat.lt_or_ge j k with h | h
        · exact HJ.out j h
        · obtain rfl : j = k := by omega
          exact hlp, HB.out.trans hb6, by rw [HT.out]; simpa using hown6⟩
      case measure => simp [intOf]; omega
    have HC : Cut l p k := by
      refine ⟨hk, HJ.out, fun j h1 h2 => ?_⟩
      have hkl : k < l.length := by omega
      have h3 : ¬ ix l k < p := fun h => hgo ⟨hkl, h⟩
      have h4 : ix l k ≠ p := HPX.out k hkl
      have h5 : ix l k ≤ ix l j := by
        rcases Nat.lt_or_ge k j with h6 | h6
        · have := List.pairwise_iff_getElem.1 HS.out k j hkl h2 h6
          have e1 : ix l k = l[k] := by simp [ix, List.getD, hkl]
          have e2 : ix l j = l[j] := by simp [ix, List.getD, h2]
          omega
        · obtain rfl : k = j := by omega
          exact Int.le_refl _
      omega
    have HCU := Lib.hid HC
    clear HC
    have hcases : k = l.length ∨ (k < l.length ∧ ¬ ix l k < p ∧ ix l k ≠ p) := by
      rcases Nat.lt_or_ge k l.length with h | h
      · exact .inr ⟨h, fun h2 => hgo ⟨h, h2⟩, HPX.out k h⟩
      · exact .inl (by omega)
    clear hgo
    obtain ⟨av, cv, rfl⟩ := own_slice hown
    rcases hcases with hkl | ⟨hlt, hn1, hn2⟩
    · subst hkl
      have hge : ¬ ((l.length : Int) < l.length) := by omega
      go_wp2_with (at_builtin; refine wpList_append_own _ rfl _ _ 22 rfl w.heap.size 3 i0 (.int .i64 0) 1 8 Tryd.underlying22 hi hz0 hz1 hz2 rfl (by decide) _ _ _ rfl (hown.alloc _) ⟨wr.heap.size, 0, none⟩ 1 1 [.int .i64 p] rfl rfl ?c1 ?c2 ?c3 ?c4 ?c5 ?_)
      case c2 => simp [Value.oneCell']
      case c3 => unfold maxLen; omega
      case c4 => omega
      case c5 => (have h5 := HB.out.size; simp at h5 ⊢; omega)
      intro v' w6 hown6 hgrow _
      have hb6 : Below w.heap.size wr w6 := Below.grown ((Below.refl _ _).alloc HB.out.size _) hgrow (by have := HB.out.size; simp; omega) (fun q hq => (hown.lt q hq).1)
      clear hgrow
      obtain ⟨a6, c6, rfl⟩ := own_slice hown6
      rcases Nat.lt_or_ge l.length c with hcc | hcc
      · have hce : (l.length == c) = false := by simp; omega
        have hce2 : (c == l.length) = false := by simp; omega
        have hce3 : ¬ l.length = c := by omega
        have hce4 : ¬ c = l.length := by omega
        go_wp2_with (at_builtin; refine wpList_append_own _ rfl _ _ 22 rfl w.heap.size 3 i0 (.int .i64 0) 1 8 Tryd.underlying22 hi hz0 hz1 hz2 rfl (by decide) _ _ _ rfl hown6 _ _ _ [] rfl ?d1 ?d2 ?d3 ?d4 ?d5 ?d6 ?_)
        case d1 => rfl
        case d2 => intro j u hj; simp at hj
        case d3 => intro u hu; simp at hu
        case d4 => unfold maxLen; omega
        case d5 => omega
        case d6 => (have h5 := HB.out.size; have h6 := hb6.size; omega)
        intro v7 w7 hown7 hgrow7 _
        have hb7 : Below w.heap.size w6 w7 := Below.grown (Below.refl _ _) hgrow7 (Nat.le_trans HB.out.size hb6.size) (fun q hq => (hown6.lt q hq).1)
        go_wp2
        go_ret
        exact ⟨l.length, v7, rfl, HCU.out, by simpa [wthL] using hown7, (HB.out.trans hb6).trans hb7⟩
      · obtain rfl : c = l.length := by omega
        go_wp2_with (at_builtin; refine wpList_append_own _ rfl _ _ 22 rfl w.heap.size 3 i0 (.int .i64 0) 1 8 Tryd.underlying22 hi hz0 hz1 hz2 rfl (by decide) _ _ _ rfl hown6 _ _ _ [] rfl ?d1 ?d2 ?d3 ?d4 ?d5 ?d6 ?_)
        case d1 => rfl
        case d2 => intro j u hj; simp at hj
        case d3 => intro u hu; simp at hu
        case d4 => unfold maxLen; omega
        case d5 => omega
        case d6 => (have h5 := HB.out.size; have h6 := hb6.size; omega)
        intro v7 w7 hown7 hgrow7 _
        have hb7 : Below w.heap.size w6 w7 := Below.grown (Below.refl _ _) hgrow7 (Nat.le_trans HB.out.size hb6.size) (fun q hq => (hown6.lt q hq).1)
        go_wp2
        go_ret
        exact ⟨l.length, v7, rfl, HCU.out, by simpa [wthL] using hown7, (HB.out.trans hb6).trans hb7⟩
    · obtain ⟨b', o', e', _, hc⟩ := (HL.out _ HB.out).nums.at_ hlt
      cases e'
      have d1 : decide (ix l k < p) = false := decide_eq_false hn1
      have d2 : (ix l k == p) = false := by simpa using hn2
      have hcc : k < c := by omega
      have hce : (k == c) = false := by simp; omega
      have hce2 : (c == k) = false := by simp; omega
      have hce3 : ¬ k = c := by omega
      have hce4 : ¬ c = k := by omega
      go_wp2_with (at_builtin; refine wpList_append_own _ rfl _ _ 22 rfl w.heap.size 3 i0 (.int .i64 0) 1 8 Tryd.underlying22 hi hz0 hz1 hz2 rfl (by decide) _ _ _ rfl (hown.alloc _) ⟨wr.heap.size, 0, none⟩ 1 1 [.int .i64 p] rfl rfl ?c1 ?c2 ?c3 ?c4 ?c5 ?_)
      case c2 => simp [Value.oneCell']
      case c3 => unfold maxLen; omega
      case c4 => omega
      case c5 => (have h5 := HB.out.size; simp at h5 ⊢; omega)
      intro v' w6 hown6 hgrow _
      have hb6 : Below w.heap.size wr w6 := Below.grown ((Below.refl _ _).alloc HB.out.size _) hgrow (by have := HB.out.size; simp; omega) (fun q hq => (hown.lt q hq).1)
      clear hgrow
      obtain ⟨a6, c6, rfl⟩ := own_slice hown6
      have HL6 := Lib.hid (HL.out _ (HB.out.trans hb6))
      obtain ⟨b', o', e', _, hc6⟩ := HL6.out.nums.at_ hlt
      cases e'
      go_wp2_with (at_builtin; refine wpList_append_own _ rfl _ _ 22 rfl w.heap.size 3 i0 (.int .i64 0) 1 8 Tryd.underlying22 hi hz0 hz1 hz2 rfl (by decide) _ _ _ rfl hown6 _ _ _ ((l.drop k).map (Value.int .i64)) rfl ?e1 ?e2 ?e3 ?e4 ?e5 ?e6 ?_)
      case e1 => simp
      case e2 => exact news_from HL6.out
      case e3 => intro u hu; obtain ⟨q, _, rfl⟩ := List.mem_map.1 hu; rfl
      case e4 => unfold maxLen; omega
      case e5 => omega
      case e6 => (have h5 := HB.out.size; have h6 := hb6.size; omega)
      intro v7 w7 hown7 hgrow7 _
      have hb7 : Below w.heap.size w6 w7 := Below.grown (Below.refl _ _) hgrow7 (Nat.le_trans HB.out.size hb6.size) (fun q hq => (hown6.lt q hq).1)
      go_wp2
      go_ret
      refine ⟨k, v7, rfl, HCU.out, ?_, (HB.out.trans hb6).trans hb7⟩
      have e : (wthL l p k).length = k + 1 + (l.length - k) := by unfold wthL; simp; omega
      rw [e]
      simpa [wthL] using hown7
end Go.Proofs.YtenmegkokclolaaDoor

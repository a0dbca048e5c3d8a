/- The reference's subsets. -/
import Derived.Test.YtenmegkokclolaaDoorVgp
import Derived.Test.YtenmegkokclolaaDoorNb
import Derived.Test.YtenmegkokclolaaDoorVwi
namespace Go.Proofs.YtenmegkokclolaaDoor
open Go.RowKit
set_option linter.unusedSimpArgs false
set_option linter.unusedVariables false
set_option maxRecDepth 100000

def ssL : Nat → List Int → Int → List (List Int)
  | 0, h, _ => [h]
  | f + 1, h, p => ssL f (h ++ [p]) (p + 1) ++ ssL f h (p + 1)
theorem ssL_len : ∀ (f : Nat) (h : List Int) (p : Int), (ssL f h p).length = 2 ^ f
  | 0, _, _ => rfl
  | f + 1, h, p => by
    unfold ssL
    rw [List.length_append, ssL_len f, ssL_len f, Nat.pow_succ]
    omega
/-- A row that is owned from bR on, of lists that are owned from b0 on. -/
def OwnB (W : World) (bR b0 : Nat) (v : Value) (ls : List (List Int)) : Prop :=
  ∃ vals : List Value, W.ownsRow bR 22 1 v ls.length vals ∧ vals.length = ls.length ∧ ∀ k, k < ls.length → ∃ u, vals[k]? = some u ∧ W.ownsRow b0 3 1 u (rw_ ls k).length ((rw_ ls k).map (Value.int .i64))
theorem OwnB.to {W W' : World} {bR b0 : Nat} {v : Value} {ls : List (List Int)} (h : OwnB W bR b0 v ls) (hb : Below W.heap.size W W') : OwnB W' bR b0 v ls := by
  obtain ⟨vals, ho, hl, hr⟩ := h
  exact ⟨vals, own_to ho hb, hl, fun k hk => by obtain ⟨u, hu, hou⟩ := hr k hk; exact ⟨u, hu, own_to hou hb⟩⟩
theorem OwnB.mono {W : World} {bR bR' b0 : Nat} {v : Value} {ls : List (List Int)} (h : OwnB W bR b0 v ls) (hb : bR' ≤ bR) : OwnB W bR' b0 v ls := by
  obtain ⟨vals, ho, hl, hr⟩ := h
  exact ⟨vals, own_mono ho hb, hl, hr⟩
theorem OwnB.nil (W : World) (bR b0 : Nat) : OwnB W bR b0 (.slice none 0 0) [] := ⟨[], World.ownsRow_nil _ _ _ _, rfl, fun k h => by simp at h⟩
theorem OwnB.rws {W : World} {bR b0 : Nat} {v : Value} {ls : List (List Int)} (h : OwnB W bR b0 v ls) : SliceOf2 W v ls := by
  obtain ⟨vals, ho, hl, hr⟩ := h
  exact Own2.slice (base := 0) ⟨vals, own_mono ho (Nat.zero_le _), hl, fun k hk => by obtain ⟨u, hu, hou⟩ := hr k hk; exact ⟨u, hu, own_mono hou (Nat.zero_le _)⟩⟩
theorem rw_app {a b : List (List Int)} {k : Nat} : rw_ (a ++ b) k = if k < a.length then rw_ a k else rw_ b (k - a.length) := by
  unfold rw_ List.getD
  split
  · rename_i h; rw [List.getElem?_append_left h]
  · rename_i h; rw [List.getElem?_append_right (by omega)]
/-- Behind an append of lists that are owned elsewhere. -/
theorem OwnB.app {W w1 : World} {bR b0 : Nat} {v v' : Value} {a b : List (List Int)} {va vb : List Value}
    (ha : W.ownsRow bR 22 1 v a.length va) (hal : va.length = a.length) (hak : ∀ k, k < a.length → ∃ u, va[k]? = some u ∧ W.ownsRow b0 3 1 u (rw_ a k).length ((rw_ a k).map (Value.int .i64)))
    (hbl : vb.length = b.length) (hbk : ∀ k, k < b.length → ∃ u, vb[k]? = some u ∧ W.ownsRow b0 3 1 u (rw_ b k).length ((rw_ b k).map (Value.int .i64)))
    (hown : w1.ownsRow bR 22 1 v' (a.length + b.length) (va ++ vb)) (hg : W.grownBy w1 v.ownBlock) : OwnB w1 bR b0 v' (a ++ b) := by
  have key : ∀ {n : Nat} {q : Value} {xs : List Value}, W.ownsRow b0 3 1 q n xs → w1.ownsRow b0 3 1 q n xs := by
    intro n q xs hq
    exact hq.kept hg (rows_ne (by decide) ha hq)
  refine ⟨va ++ vb, by rw [List.length_append]; exact hown, by simp [hal, hbl], fun k hk => ?_⟩
  rw [List.length_append] at hk
  rw [rw_app]
  by_cases h : k < a.length
  · rw [if_pos h]
    obtain ⟨u, hu, hou⟩ := hak k h
    exact ⟨u, by rw [List.getElem?_append_left (by omega)]; exact hu, key hou⟩
  · rw [if_neg h]
    obtain ⟨u, hu, hou⟩ := hbk (k - a.length) (by omega)
    exact ⟨u, by rw [List.getElem?_append_right (by omega), hal]; exact hu, key hou⟩
theorem alloc_at (W : World) (o : Obj) : (W.alloc o).heap[W.heap.size]? = some o := by
  show (W.heap.push o)[W.heap.size]? = some o
  exact Array.getElem?_push_size
theorem ownS_one (W : World) (u : Value) (hu : u.oneCell' = true) : (W.alloc (.cells #[u] 22)).ownsRow W.heap.size 22 1 (.slice (some ⟨W.heap.size, 0, none⟩) 1 1) 1 [u] := by
  refine ⟨rfl, .inr ⟨W.heap.size, 1, #[u], rfl, Nat.le_refl _, alloc_at W _, by omega, by simp [maxLen], rfl, rfl⟩⟩
def SsPost (w : World) (b0 : Nat) (ls : List (List Int)) (e : Ending) (w' : World) : Prop := ∃ v, e = .returned v ∧ OwnB w' w.heap.size b0 v ls ∧ Below w.heap.size w w'
theorem ownS_lst {W : World} {b0 : Nat} {v : Value} {l : List Int} (h : W.ownsRow b0 3 1 v l.length (l.map (Value.int .i64))) : ∃ a c, v = .slice a l.length c ∧ Lst W W.heap.size a c l ∧ (a = none → c = 0) := by
  obtain ⟨a, c, e, hl⟩ := (sliceOf_own h).set
  refine ⟨a, c, e, hl, fun ha => ?_⟩
  rcases h.2 with ⟨e2, _⟩ | ⟨g, cap, cur, e2, _⟩
  · rw [e] at e2; injection e2
  · rw [e, ha] at e2; injection e2 with e3; cases e3
theorem own_ptr {W : World} {base e n : Nat} {v : Value} {xs : List Value} (h : W.ownsRow base e 1 v n xs) (hn : 1 ≤ n) : ∃ g c, v = .slice (some ⟨g, 0, none⟩) n c := by
  rcases h.2 with ⟨rfl, rfl⟩ | ⟨g, cap, cur, rfl, _⟩
  · omega
  · exact ⟨g, cap, rfl⟩
set_option maxHeartbeats 4000000 in
theorem subsets_any : ∀ (f : Nat) (h : List Int) (p n : Int) (b0 : Nat) (hv : Value) (w : World), w.ownsRow b0 3 1 hv h.length (h.map (Value.int .i64)) → p + f = n → 0 ≤ p → h.length + f ≤ 10 → b0 ≤ w.heap.size → n ≤ 10 →
    Calls Tryd.prog 35 #[hv, .int .i64 p, .int .i64 n] w (SsPost w b0 (ssL f h p))
  | 0, h, p, n, b0, hv, w, hh, hp, h0, hl, hbs, hn => by
    have hpn : p = n := by omega
    subst hpn
    obtain ⟨a, c, rfl, hlst, ha0⟩ := ownS_lst hh
    have heq : (p == p) = true := by simp
    go_enter Tryd.func35, Tryd.ntmps35
    go_wp2
    go_ret
    refine ⟨_, rfl, ⟨[.slice a h.length c], ownS_one w _ rfl, rfl, fun k hk => ?_⟩, by go_grown⟩
    have : k = 0 := by simp [ssL] at hk; omega
    subst this
    exact ⟨_, rfl, hh.alloc _⟩
  | f + 1, h, p, n, b0, hv, w, hh, hp, h0, hl, hbs, hn => by
    have IH := subsets_any f
    have hne : (p == n) = false := by simp; omega
    have hpu : p ≤ 9 := by omega
    have hw64 : wrap64 (p + 1) = p + 1 := by unfold wrap64; omega
    obtain ⟨a, c, rfl, hlst, ha0⟩ := ownS_lst hh
    have HCP := Lib.hid (copy_any a c h w hlst ha0 (by omega))
    have HH := Lib.hid hh
    obtain ⟨i0, hi, hz0, hz1, hz2⟩ := info_parts info_int
    obtain ⟨j0, hj, hy0, hy1, hy2⟩ := info_parts info_sl
    clear hlst ha0 hh
    go_enter Tryd.func35, Tryd.ntmps35
    go_wp2_with (first | (go_at_call 54; (with_reducible refine HCP.out.mono ?_); rintro e w4 ⟨v4, rfl, ho4, hb4⟩) | (at_builtin; refine wpList_append_own _ rfl _ _ 22 rfl w.heap.size 3 i0 (.int .i64 0) 1 8 Tryd.underlying22 hi hz0 hz1 hz2 rfl (by decide) _ _ _ rfl (ho4.alloc _) ⟨w4.heap.size, 0, none⟩ 1 1 [.int .i64 p] rfl rfl ?c1 ?c2 ?c3 ?c4 ?c5 ?_))
    case c1 => exact cell_one_new _ _ _
    case c2 => simp [Value.oneCell']
    case c3 => unfold maxLen; omega
    case c4 => omega
    case c5 => (have h5 := hb4.size; simp; omega)
    intro v5 w5 hown5 hgrow _
    have hb5 : Below w.heap.size w w5 := hb4.trans (Below.grown ((Below.refl _ _).alloc hb4.size _) hgrow (by have := hb4.size; simp; omega) (fun q hq => (ho4.lt q hq).1))
    clear hgrow ho4 hb4
    have hz5 := hb5.size
    have HB5 := Lib.hid hb5
    have hl1 := ssL_len f (h ++ [p]) (p + 1)
    have hl2 := ssL_len f h (p + 1)
    have hpw : 2 ^ f ≤ 1024 := Nat.le_trans (Nat.pow_le_pow_right (by omega) (show f ≤ 10 by omega)) (by decide)
    have hp1 : 1 ≤ 2 ^ f := Nat.one_le_two_pow
    have HI1 := IH (h ++ [p]) (p + 1) n b0 v5 w5 (by have := own_mono hown5 hbs; simpa using this) (by omega) (by omega) (by simp; omega) (by omega) hn
    have HI2 := fun (w6 : World) (hb6 : Below w5.heap.size w5 w6) => IH h (p + 1) n b0 (.slice a h.length c) w6 (own_to (own_to HH.out hb5) hb6) (by omega) (by omega) (by omega) (by have := hb6.size; omega) hn
    have HSS := Lib.hid (show ssL (f + 1) h p = ssL f (h ++ [p]) (p + 1) ++ ssL f h (p + 1) from rfl)
    generalize ssL f (h ++ [p]) (p + 1) = L1 at *
    generalize ssL f h (p + 1) = L2 at *
    rw [← hl1] at hpw hp1
    rw [← hl1] at hl2
    have hq1 : 1 ≤ L2.length := by omega
    have hq2 : L2.length ≤ 1024 := by omega
    clear hl2
    have HI1 := Lib.hid HI1
    have HI2 := Lib.hid HI2
    obtain ⟨g5, c5, rfl⟩ := own_ptr hown5 (by omega)
    clear hown5 hb5 IH hl1
    go_wp2_with (first | (go_at_call 35; (with_reducible refine HI1.out.mono ?_); rintro e w6 ⟨v6, rfl, ho6, hb6⟩; have HI3 := Lib.hid (HI2.out w6 hb6)) | (go_at_call 35; (with_reducible refine HI3.out.mono ?_); rintro e w7 ⟨v7, rfl, ho7, hb7⟩; have ho6b := OwnB.to ho6 hb7; unfold OwnB at ho6b ho7; obtain ⟨va, hva, hval, hvak⟩ := ho6b; obtain ⟨vb, hvb, hvbl, hvbk⟩ := ho7; have hs6 := own_slice hva; obtain ⟨a6, c6, rfl⟩ := hs6; have hp7 := own_ptr hvb (show 1 ≤ L2.length by omega); obtain ⟨g7, c7, rfl⟩ := hp7) | (at_builtin; refine wpList_append_own _ rfl _ _ 35 rfl w5.heap.size 22 j0 (.slice none 0 0) 1 24 Tryd.underlying35 hj hy0 hy1 hy2 rfl (by decide) _ _ _ rfl hva ⟨g7, 0, none⟩ L2.length c7 vb rfl ?d1 ?d2 ?d3 ?d4 ?d5 ?d6 ?_))
    case d1 => omega
    case d2 => exact fun j u hu => hvb.cells (g := g7) rfl j u hu
    case d3 =>
      intro u hu
      obtain ⟨j, hj, rfl⟩ := List.getElem_of_mem hu
      obtain ⟨u2, hu2, hou⟩ := hvbk j (by omega)
      rw [List.getElem?_eq_getElem hj] at hu2
      injection hu2 with hu2
      rw [hu2]
      obtain ⟨a9, c9, e⟩ := own_slice hou
      rw [e]; rfl
    case d4 => unfold maxLen; omega
    case d5 => omega
    case d6 => have h6 := hb6.size; have h7 := hb7.size; omega
    intro v8 w8 hown8 hgrow8 _
    have h6 := hb6.size
    have h7 := hb7.size
    have hb8 : Below w5.heap.size w7 w8 := Below.grown (Below.refl _ _) hgrow8 (by omega) (fun q hq => (hva.lt q hq).1)
    have HOB := Lib.hid (OwnB.app hva hval hvak hvbl hvbk hown8 hgrow8)
    clear hgrow8 hown8
    go_wp2
    go_ret
    refine ⟨v8, rfl, ?_, HB5.out.trans (((hb6.trans (hb7.mono h6)).trans hb8).mono hz5)⟩
    rw [HSS.out]
    exact HOB.out.mono hz5
end Go.Proofs.YtenmegkokclolaaDoor

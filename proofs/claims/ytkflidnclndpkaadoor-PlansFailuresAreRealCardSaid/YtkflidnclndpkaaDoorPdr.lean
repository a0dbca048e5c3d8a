/- Pdx, Pda, Pdc, Pdw, Pdr in one text. -/
import Derived.Test.YtkflidnclndpkaaDoorPsx
import Derived.Maps.AppendAt
import Derived.Lib.LazyBuf
import Derived.Test.YtkflidnclndpkaaDoorPlf

/- Clone, and lists that lie apart from a row that grows. -/
section
namespace Go.Proofs.YtkflidnclndpkaaDoor
open Go.RowKit
set_option linter.unusedSimpArgs false
set_option linter.unusedVariables false
set_option maxRecDepth 100000

theorem clone_any (A : Option Addr) (c : Nat) (l : List Int) (w : World) (hL : Lst w w.heap.size A c l) (h0 : A = none → c = 0) (hlen : l.length ≤ 200) :
    Calls Tryd.prog 31 #[.slice A l.length c] w (CopyPost w l) := by
  cases A with
  | none =>
    have hl0 : l = [] := by
      refine List.eq_nil_of_length_eq_zero ?_
      by_cases h1 : 0 < l.length
      · obtain ⟨b, o, e, _⟩ := hL.nums h1
        cases e
      · omega
    subst hl0
    clear hL
    have hq : ∀ W : World, (binOp .eql 22 (.slice none 0 c) (.slice none 0 0)).run Tryd.prog W = .ok (.bool true) W := fun W => run_eql_slice_nil W _ _ none 0 c Tryd.underlying22
    obtain rfl := h0 rfl
    go_enter Tryd.func31, Tryd.ntmps31
    go_wp2
    go_ret
    exact ⟨_, rfl, World.ownsRow_nil _ _ _ _, Below.refl _ _⟩
  | some ad =>
    have HB := Lib.hid (show Below w.heap.size w (w.alloc (.cells #[] 3)) by go_grown)
    have HL := Lib.hid (hL.to HB.out HB.out.size)
    have HO := Lib.hid (World.ownsRow_lit (base := w.heap.size) (e := 3) (size := 1) w #[] 0 (Nat.le_refl _) (by simp [maxLen]) rfl)
    clear hL h0
    have hq : ∀ W : World, (binOp .eql 22 (.slice (some ad) l.length c) (.slice none 0 0)).run Tryd.prog W = .ok (.bool false) W := fun W => run_eql_slice_nil W _ _ (some ad) l.length c Tryd.underlying22
    go_enter Tryd.func31, Tryd.ntmps31
    go_wp2_with (at_builtin; refine wpList_append_lst _ rfl _ _ rfl w.heap.size (.slice (some ⟨w.heap.size, 0, none⟩) 0 0) [] rfl HO.out (some ad) c l rfl HL.out (fun h => by cases h) (by simp; omega) (by simp) ?_)
    intro v' w1 hown hg
    have HO2 := Lib.hid hown
    have HG := Lib.hid hg
    clear hown hg
    go_wp2
    go_ret
    exact ⟨_, rfl, by simpa using HO2.out, HB.out.grown HG.out (by simp) (fun q hq => by simp [Value.ownBlock] at hq; omega)⟩

/-- A list that does not lie in the block r. -/
structure Apart (W : World) (r : Option Nat) (a : Option Addr) (c : Nat) (s : List Int) : Prop where
  lst : Lst W W.heap.size a c s
  ne : 0 < s.length → ∀ b o, a = some ⟨b, o, none⟩ → some b ≠ r
theorem Apart.to {W W' : World} {r : Option Nat} {a : Option Addr} {c : Nat} {s : List Int} (h : Apart W r a c s) (hb : Below W.heap.size W W') : Apart W' r a c s := ⟨h.lst.to hb hb.size, h.ne⟩
theorem Apart.grown {W W' : World} {r r' : Option Nat} {a : Option Addr} {c : Nat} {s : List Int} (h : Apart W r a c s) (hg : W.grownBy W' r) (hr : r' = r ∨ r' = some W.heap.size) : Apart W' r' a c s := by
  refine ⟨⟨fun h0 => ?_, h.lst.le, h.lst.max⟩, fun h0 b o e => ?_⟩
  · obtain ⟨b, o, e, hb, hc⟩ := h.lst.nums h0
    exact ⟨b, o, e, Nat.lt_of_lt_of_le hb hg.size, fun k hk => hg.cell (hc k hk) (h.ne h0 b o e)⟩
  · rcases hr with rfl | rfl
    · exact h.ne h0 b o e
    · obtain ⟨b', o', e', hb, _⟩ := h.lst.nums h0
      rw [e] at e'
      cases e'
      intro h
      injection h with h
      omega
theorem apart_own {W : World} {base : Nat} {v : Value} {s : List Int} (h : W.ownsRow base 3 1 v s.length (s.map (Value.int .i64))) {r : Option Nat} (hr : ∀ q, r = some q → q < base) : ∃ a c, v = .slice a s.length c ∧ Apart W r a c s := by
  obtain ⟨a, c, e, hl, hn⟩ := own_lst h
  refine ⟨a, c, e, hl, fun h0 b o ea eb => ?_⟩
  subst e ea
  have h1 := (h.lt b rfl).1
  have h2 := hr b eb.symm
  omega
theorem put_cell (W : World) (r o : Nat) (u : Value) (h : r < W.heap.size) : (W.putObj r (.deferred none)).cell? ⟨r, o, none⟩ ≠ some u := by
  have : (W.putObj r (.deferred none)).heap[r]? = some (.deferred none) := World.putObj_heap_same h
  simp [World.cell?, this]
theorem fresh2_apart {W : World} {base : Nat} {v : Value} {ls : List (List Int)} (h : Fresh2 W base v ls) {r : Option Nat} (hr : ∀ q, r = some q → q < base) {k : Nat} (hk : k < ls.length) :
    ∃ b o ak ck c, v = .slice (some ⟨b, o, none⟩) ls.length c ∧ b < W.heap.size ∧ W.cell? ⟨b, o + k, none⟩ = some (.slice ak (rw_ ls k).length ck) ∧ Apart W r ak ck (rw_ ls k) ∧ ls.length ≤ c ∧ c ≤ maxLen := by
  obtain ⟨a, c, rfl, hR, h1, h2⟩ := h.slice
  obtain ⟨b, o, ak, ck, rfl, hb, hc, hL⟩ := hR.at_ hk
  refine ⟨b, o, ak, ck, c, rfl, hb, hc, ⟨hL, fun h0 b' o' e e2 => ?_⟩, h1, h2⟩
  subst e
  obtain ⟨b3, o3, e3, hlt, _⟩ := hL.nums h0
  cases e3
  have hq := hr b' e2.symm
  obtain ⟨a2, c2, e3, hR2, _, _⟩ := h (W.putObj b' (.deferred none)) (fun q hq2 _ => World.putObj_heap_other (by omega)) (by simp)
  injection e3 with e4 e5 e6
  subst e4
  obtain ⟨b4, o4, ak4, ck4, e7, _, hc4, hL4⟩ := hR2.at_ hk
  cases e7
  by_cases hbb : b = b'
  · subst hbb
    exact put_cell _ _ _ _ hlt hc4
  · have h8 : (W.putObj b' (.deferred none)).cell? ⟨b, o + k, none⟩ = W.cell? ⟨b, o + k, none⟩ := World.cell?_of_block (a := ⟨b, o + k, none⟩) (World.putObj_heap_other (by omega))
    rw [h8, hc] at hc4
    injection hc4 with hc5
    injection hc5 with hc6
    subst hc6
    obtain ⟨b9, o9, e9, _, hc9⟩ := hL4.nums h0
    cases e9
    exact put_cell _ _ _ _ hlt (hc9 0 h0)
/-- What is left of a list behind s[k:]. -/
theorem lst_drop {W : World} {B : Nat} {b o c : Nat} {l : List Int} (h : Lst W B (some ⟨b, o, none⟩) c l) {k : Nat} (hk : k < l.length) : Lst W B (some ⟨b, o + k, none⟩) (c - k) (l.drop k) := by
  obtain ⟨b', o', e, hb, hc⟩ := h.nums (by omega)
  cases e
  refine ⟨fun h0 => ⟨b, o + k, rfl, hb, fun j hj => ?_⟩, by rw [List.length_drop]; have := h.le; omega, by have := h.max; omega⟩
  rw [List.length_drop] at hj
  have := hc (k + j) (by omega)
  rw [show o + k + j = o + (k + j) by omega, this]
  simp [ix, List.getD]
end Go.Proofs.YtkflidnclndpkaaDoor
end

/- Apply of package strips: the state that it returns lies in a row of its own. -/
section
namespace Go.Proofs.YtkflidnclndpkaaDoor
open Go.RowKit
set_option linter.unusedSimpArgs false
set_option linter.unusedVariables false
set_option maxRecDepth 100000

def SlO (w : World) (f : Int × Int) (xs : List Int) (e : Ending) (w' : World) : Prop := ∃ v, e = .returned (.tuple #[v, faultV f]) ∧ w'.ownsRow w.heap.size 3 1 v xs.length (xs.map (Value.int .i64)) ∧ Below w.heap.size w w'
set_option maxHeartbeats 4000000 in
theorem apply_own (x : Tsk) (a2 : Option Addr) (c2 : Nat) (s : List Int) (op : Int) (w : World) (hX : TskIn w w.heap.size x) (hS : Lst w w.heap.size a2 c2 s) (hT : TabIn w) :
    Calls Tryd.prog 46 #[.agg #[.int .i64 x.n, .slice x.ai x.init.length x.ci, .slice x.ag x.goal.length x.cg, .slice x.ao x.ops.length x.co], .slice a2 s.length c2, .int .i64 op] w (SlO w (ayF x s op) (ayL x s op)) := by
  have hB2 : Below w.heap.size w (((w.alloc (.cells #[.int .i64 x.n, .slice x.ai x.init.length x.ci, .slice x.ag x.goal.length x.cg, .slice x.ao x.ops.length x.co] 25)).alloc (.cells #[.int .i64 0, .int .i64 0] 27)).alloc (.cells #[.int .i64 op] 3)) := by go_grown
  have hon := one_new ((w.alloc (.cells #[.int .i64 x.n, .slice x.ai x.init.length x.ci, .slice x.ag x.goal.length x.cg, .slice x.ao x.ops.length x.co] 25)).alloc (.cells #[.int .i64 0, .int .i64 0] 27)) (.int .i64 op) 3
  simp only [World.size_alloc] at hon
  have HC := check_o x a2 c2 s op (w.heap.size + 1 + 1) _ (hX.to hB2 hB2.size) (hS.to hB2 hB2.size) hon.lt hon.fst
  clear hon
  have HX := Lib.hid (fun (W : World) (h : Below w.heap.size w W) => hX.to h h.size)
  have HS := Lib.hid (fun (W : World) (h : Below w.heap.size w W) => hS.to h h.size)
  have HT := Lib.hid (fun (W : World) (h : Below w.heap.size w W) => hT.to h (Nat.le_refl _))
  clear hX hS hB2 hT
  have hF0 := Lib.hid ((fr1_new w x 25 27).alloc (.cells #[.int .i64 op] 3))
  by_cases ht : (ckF x s [op]).1 = 0
  case neg =>
    have H := show ayF x s op = ckF x s [op] by simp [ayF, ht]
    rw [H]
    clear H
    have H2 := Lib.hid (show ayL x s op = [] by simp [ayL, ayF, ht])
    have hne : ((ckF x s [op]).1 != 0) = true := by simpa using ht
    have hne2 : ((ckF x s [op]).1 == 0) = false := by simpa using ht
    clear ht
    go_enter Tryd.func46, Tryd.ntmps46
    go_wp2_with (go_at_call 36; (with_reducible refine HC.mono ?_); rintro e w1 ⟨rfl, hbw⟩; have hF := Lib.hid (hF0.out.to hbw); obtain ⟨_, ⟨_, t0, t1, t2, t3⟩, ⟨_, k0, k1, f0, f1⟩⟩ := hF.out)
    go_region
    all_goals
      go_wp2
      have htw := hF.out.two
      have hbe := hF.out.below
      refine post_with_fault (g := w.heap.size + 1) (x := .int .i64 (ckF x s [op]).1) (y := .int .i64 (ckF x s [op]).2) Tryd.results46 rfl ?_ ?_
      · (repeat' (first | (with_reducible assumption) | (with_reducible exact two_new _ _ _ _) | (with_reducible exact (two_new _ _ _ _).pair) | (with_reducible exact Two.pair ‹_›) | (with_reducible refine Pair.set ?_ _ _) | (with_reducible refine Two.alloc ?_ _) | (with_reducible refine Pair.alloc ?_ _) | (with_reducible refine two1 ?_) | (with_reducible refine twoN ?_ _) | (with_reducible refine Pair.drew ?_) | (with_reducible refine Pair.drewN ?_ _) | (with_reducible refine Two.far ?_ ?_ _) | (with_reducible refine Pair.far ?_ ?_ _) | (simp; omega)))
      · refine ⟨_, rfl, by rw [H2.out]; exact World.ownsRow_nil _ _ _ _, ?_⟩
        (repeat' (first | (with_reducible assumption) | (with_reducible exact Below.refl _ _) | (with_reducible refine belowN ?_ _) | (with_reducible refine Below.alloc ?_ ?_ _) | (with_reducible refine Below.drew ?_) | (with_reducible refine Below.setCell ?_ ?_ _) | go_size))
  case pos =>
    obtain ⟨h1, h2, h3, h4⟩ := ckF_op ht
    obtain ⟨hv, hs⟩ := stF_val h2
    have hs24 : IsS s 24 := hs.mono (by have := hv.le; omega)
    rw [h1] at HC
    have HV := Lib.hid hv
    have HS24 := Lib.hid hs24
    have HSN := Lib.hid hs
    obtain ⟨k, rfl⟩ := Int.eq_ofNat_of_zero_le h3
    have hlt : k < x.ops.length := by omega
    have HO := Lib.hid (hv.ops k hlt).1
    have H0 := Lib.hid (show ayF x s k = if subB (opr x.ops k).pre s then (0, 0) else (11, (k : Int)) by unfold ayF opn; rw [if_neg (by simpa using ht)]; rfl)
    have H1 := Lib.hid (show ayL x s k = if subB (opr x.ops k).pre s then aftL x.n.toNat (opr x.ops k).add (opr x.ops k).del s else [] by
      unfold ayL; rw [H0.out]; cases subB (opr x.ops k).pre s <;> simp [opn])
    clear ht hv hs hs24 h1 h2
    go_enter Tryd.func46, Tryd.ntmps46
    go_wp2_with (go_at_call 36; (with_reducible refine HC.mono ?_); rintro e w1 ⟨rfl, hbw⟩; have hF := Lib.hid (hF0.out.to hbw); obtain ⟨_, ⟨_, t0, t1, t2, t3⟩, ⟨_, k0, k1, f0, f1⟩⟩ := hF.out)
    have hF2 := Lib.hid (hF.out.alloc (.cells #[.int .i64 0, .int .i64 0] 27))
    generalize hW : w1.alloc (.cells #[.int .i64 0, .int .i64 0] 27) = W at hF2 ⊢
    clear hW t0 t1 t2 t3 k0 k1 f0 f1
    obtain ⟨_, ⟨_, t0, t1, t2, t3⟩, ⟨_, k0, k1, f0, f1⟩⟩ := hF2.out
    obtain ⟨b, p, a1, a2', a3', c1, c2', c3', hao, hbl, ⟨q0, q1, q2, q3⟩, hOV⟩ := (HX.out _ hF2.out.below).ops.at_ hlt
    rw [hao] at t3
    have HW2 := Lib.hid (fun (V : World) (h : Below W.heap.size W V) => (⟨hF2.out.to h, hOV.to h h.size⟩ : Fr1 w V x 0 0 ∧ OpV V V.heap.size (opr x.ops k) a1 a2' a3' c1 c2' c3'))
    have hbw2 : w.heap.size < W.heap.size := by have := hF2.out.below.size; have := hF2.out.box.lt; omega
    have HSZ := Lib.hid hbw2
    have HBL := Lib.hid hbl
    clear hbw2 hbl hOV k0 k1 f0 f1
    have hWW := Below.refl W.heap.size W
    go_region_held3 (fun V => V.cell? ⟨w.heap.size, 3, none⟩ = some (.slice (some ⟨b, p, none⟩) x.ops.length x.co) ∧ V.cell? ⟨b, p + k * 4, none⟩ = some (.slice a1 (opr x.ops k).pre.length c1) ∧ V.cell? ⟨b, p + k * 4 + 1, none⟩ = some (.slice a2' (opr x.ops k).add.length c2') ∧ V.cell? ⟨b, p + k * 4 + 2, none⟩ = some (.slice a3' (opr x.ops k).del.length c3') ∧ V.cell? ⟨b, p + k * 4 + 3, none⟩ = some (.int .i64 (opr x.ops k).cost) ∧ Below W.heap.size W V)
      (first | (refine ⟨?_, ?_, ?_, ?_, ?_, ?_⟩ <;> assumption) | (exact ⟨t3, q0, q1, q2, q3, hWW.drew⟩) | (exact rd_step HSZ.out HBL.out (by assumption) (by assumption)))
      (first
        | (go_at_call 39; refine (setOf_any a2 c2 s _ HS24.out ?_).mono ?_; (exact (HS.out _ (HW2.out _ (rd_below (by assumption))).1.below).nums); rintro e w' ⟨rfl, rfl⟩)
        | (go_at_call 51; refine (after_any x.n.toNat HV.out.le (opr x.ops k) a1 a2' a3' c1 c2' c3' s _ HO.out HSN.out ?_).mono ?_; (exact (HW2.out _ (rd_below (by assumption))).2); rintro e w' ⟨rfl, hb⟩))
    all_goals
      have hh := HW2.out _ (rd_below (by assumption))
      have hF3 := Lib.hid hh.1
      clear hh
      have hbb : Below w.heap.size w w' := hF3.out.below
      have HBB := Lib.hid hbb
      clear hbb
      obtain ⟨_, _, ⟨_, k0, k1, f0, f1⟩⟩ := hF3.out
      cases hsub : subB (opr x.ops k).pre s
      · have HE := Lib.hid (show ayF x s k = (11, (k : Int)) by rw [H0.out, hsub]; rfl)
        have HL := Lib.hid (show ayL x s k = [] by rw [H1.out, hsub]; rfl)
        go_wp2
        refine post_with_fault (g := w.heap.size + 1) (x := .int .i64 11) (y := .int .i64 k) Tryd.results46 rfl (hF3.out.two.set _ _) ?_
        refine ⟨_, by rw [HE.out], ?_, (hF3.out.below.setCell (by simp) _).setCell (by simp) _⟩
        rw [HL.out]
        exact World.ownsRow_nil _ _ _ _
      · have HE := Lib.hid (show ayF x s k = (0, 0) by rw [H0.out, hsub]; rfl)
        have HL := Lib.hid (show ayL x s k = els (aftW x.n.toNat (opr x.ops k) s) by
          rw [H1.out, hsub, if_pos rfl, aftW, if_pos hsub, els_mask ((aftL_isS _ _ _ _).mono (by have := HV.out.le; omega))])
        have HM := Lib.hid (show aftW x.n.toNat (opr x.ops k) s < 18446744073709551616 by
          rw [aftW, if_pos hsub]; exact mask_lt64 ((aftL_isS _ _ _ _).mono (by have := HV.out.le; omega)))
        go_wp2_with (go_at_call 40; refine (list_any _ HM.out _ (HT.out _ HBB.out)).mono ?_; rintro e w5 ⟨v, rfl, hsl, hb5⟩; have hF4 := Lib.hid (hF3.out.to hb5); have HSL := Lib.hid hsl; clear hsl; obtain ⟨_, _, ⟨_, k0, k1, f0, f1⟩⟩ := hF4.out)
        refine post_with_fault (g := w.heap.size + 1) (x := .int .i64 0) (y := .int .i64 0) Tryd.results46 rfl (hF4.out.two.set _ _) ?_
        refine ⟨_, by rw [HE.out], ?_, (hF4.out.below.setCell (by simp) _).setCell (by simp) _⟩
        rw [HL.out]
        have hlt2 := hF3.out.two.lt
        exact own_mono (ownsRow_setCell_below (ownsRow_setCell_below HSL.out (by simpa using hlt2) _) (by simpa using hlt2) _) (by have := hF3.out.below.size; omega)
end Go.Proofs.YtkflidnclndpkaaDoor
end

/- checkSolution and Failure of package plans. -/
section
namespace Go.Proofs.YtkflidnclndpkaaDoor
open Go.RowKit
set_option linter.unusedSimpArgs false
set_option linter.unusedVariables false
set_option maxRecDepth 100000

set_option maxHeartbeats 4000000 in
theorem csol_any (x : Tsk) (a3 : Option Addr) (c3 : Nat) (plan : List Int) (w : World) (hX : TskIn w w.heap.size x) (hP : Lst w w.heap.size a3 c3 plan) :
    Calls Tryd.prog 30 #[.agg #[.int .i64 x.n, .slice x.ai x.init.length x.ci, .slice x.ag x.goal.length x.cg, .slice x.ao x.ops.length x.co], .slice a3 plan.length c3] w fun e w' => e = .returned (faultV (soF x plan)) ∧ Below w.heap.size w w' := by
  have hB2 : Below w.heap.size w ((w.alloc (.cells #[.int .i64 x.n, .slice x.ai x.init.length x.ci, .slice x.ag x.goal.length x.cg, .slice x.ao x.ops.length x.co] 25)).alloc (.cells #[.int .i64 0, .int .i64 0] 27)) := by go_grown
  have HC := Lib.hid (ssolves_any x a3 c3 plan _ (hX.to hB2 hB2.size) (hP.to hB2 hB2.size))
  clear hX hP hB2
  have hF0 := Lib.hid (fr1_new w x 25 27)
  by_cases ht : (plF x plan).1 = 0
  case neg =>
    have H := Lib.hid (show soF x plan = plF x plan by unfold soF; rw [if_pos ht])
    have hne : ((plF x plan).1 != 0) = true := by simpa using ht
    have hne2 : ((plF x plan).1 == 0) = false := by simpa using ht
    have hsv : svB x plan = false := by simp [svB, ht]
    rw [hsv] at HC
    clear ht hsv
    go_enter Tryd.func30, Tryd.ntmps30
    go_wp2_with (go_at_call 19; (with_reducible refine HC.out.mono ?_); rintro e w1 ⟨rfl, hbw⟩; have hF := Lib.hid (hF0.out.to hbw); have hl9 := hF.out.two.lt; have hF2 := Lib.hid (hF.out.alloc (.cells #[.int .i64 (plF x plan).1, .int .i64 (plF x plan).2] 27)); have hT2 := Lib.hid (two_new w1 (.int .i64 (plF x plan).1) (.int .i64 (plF x plan).2) 27); obtain ⟨_, ⟨_, t0, t1, t2, t3⟩, ⟨_, k0, k1, f0, f1⟩⟩ := hF.out)
    have htw := hF.out.two
    have hbe := hF2.out.below
    have h1 := hF.out.two.lt
    refine post_fault (g := w.heap.size + 1) (x := .int .i64 (plF x plan).1) (y := .int .i64 (plF x plan).2) Tryd.results30 rfl ?_ ?_
    · (repeat' (first | (with_reducible assumption) | (with_reducible exact two_new _ _ _ _) | (with_reducible exact (two_new _ _ _ _).pair) | (with_reducible exact Two.pair ‹_›) | (with_reducible refine Pair.set ?_ _ _) | (with_reducible refine Two.alloc ?_ _) | (with_reducible refine Pair.alloc ?_ _) | (with_reducible refine two1 ?_) | (with_reducible refine twoN ?_ _) | (with_reducible refine Pair.drew ?_) | (with_reducible refine Pair.drewN ?_ _) | (with_reducible refine Two.far ?_ ?_ _) | (with_reducible refine Pair.far ?_ ?_ _) | (simp; omega)))
    · refine ⟨ret_val (by rw [H.out]), ?_⟩
      (repeat' (first | (with_reducible assumption) | (with_reducible exact Below.refl _ _) | (with_reducible refine belowN ?_ _) | (with_reducible refine Below.alloc ?_ ?_ _) | (with_reducible refine Below.drew ?_) | (with_reducible refine Below.setCell ?_ ?_ _) | go_size))
  case pos =>
    have hz := (plF_zero ht).1
    have hsv : svB x plan = solB x x.n.toNat x.init plan := by simp [svB, ht]
    rw [hsv, hz] at HC
    cases hs : solB x x.n.toNat x.init plan
    case true =>
      have H := Lib.hid (show soF x plan = (0, 0) by unfold soF; rw [if_neg (by simpa using ht), if_pos hs])
      rw [hs] at HC
      clear ht hz hsv
      go_enter Tryd.func30, Tryd.ntmps30
      go_wp2_with (go_at_call 19; (with_reducible refine HC.out.mono ?_); rintro e w1 ⟨rfl, hbw⟩; have hF := Lib.hid (hF0.out.to hbw); have hl9 := hF.out.two.lt; have hF2 := Lib.hid (hF.out.alloc (.cells #[.int .i64 0, .int .i64 0] 27)); have hT2 := Lib.hid (two_new w1 (.int .i64 0) (.int .i64 0) 27); obtain ⟨_, ⟨_, t0, t1, t2, t3⟩, ⟨_, k0, k1, f0, f1⟩⟩ := hF.out)
      refine post_fault (g := w.heap.size + 1) (x := .int .i64 0) (y := .int .i64 0) Tryd.results30 rfl ?_ ?_
      · have htw := hF.out.two
        (repeat' (first | (with_reducible assumption) | (with_reducible exact two_new _ _ _ _) | (with_reducible exact (two_new _ _ _ _).pair) | (with_reducible exact Two.pair ‹_›) | (with_reducible refine Pair.set ?_ _ _) | (with_reducible refine Two.alloc ?_ _) | (with_reducible refine Pair.alloc ?_ _) | (with_reducible refine two1 ?_) | (with_reducible refine twoN ?_ _) | (with_reducible refine Pair.drew ?_) | (with_reducible refine Pair.drewN ?_ _) | (with_reducible refine Two.far ?_ ?_ _) | (with_reducible refine Pair.far ?_ ?_ _) | (simp; omega)))
      · refine ⟨ret_val (by rw [H.out]), ?_⟩
        have hbe := hF2.out.below
        (repeat' (first | (with_reducible assumption) | (with_reducible exact Below.refl _ _) | (with_reducible refine belowN ?_ _) | (with_reducible refine Below.alloc ?_ ?_ _) | (with_reducible refine Below.drew ?_) | (with_reducible refine Below.setCell ?_ ?_ _) | go_size))
    case false =>
      have H := Lib.hid (show soF x plan = (11, -8) by unfold soF; rw [if_neg (by simpa using ht), if_neg (by simp [hs])])
      rw [hs] at HC
      clear ht hz hsv
      go_enter Tryd.func30, Tryd.ntmps30
      go_wp2_with (go_at_call 19; (with_reducible refine HC.out.mono ?_); rintro e w1 ⟨rfl, hbw⟩; have hF := Lib.hid (hF0.out.to hbw); have hl9 := hF.out.two.lt; have hF2 := Lib.hid (hF.out.alloc (.cells #[.int .i64 0, .int .i64 0] 27)); have hT2 := Lib.hid (two_new w1 (.int .i64 0) (.int .i64 0) 27); obtain ⟨_, ⟨_, t0, t1, t2, t3⟩, ⟨_, k0, k1, f0, f1⟩⟩ := hF.out)
      have htw := hF.out.two
      have hbe := hF2.out.below
      refine post_fault (g := w.heap.size + 1) (x := .int .i64 11) (y := .int .i64 (-8)) Tryd.results30 rfl ?_ ?_
      · (repeat' (first | (with_reducible assumption) | (with_reducible exact two_new _ _ _ _) | (with_reducible exact (two_new _ _ _ _).pair) | (with_reducible exact Two.pair ‹_›) | (with_reducible refine Pair.set ?_ _ _) | (with_reducible refine Two.alloc ?_ _) | (with_reducible refine Pair.alloc ?_ _) | (with_reducible refine two1 ?_) | (with_reducible refine twoN ?_ _) | (with_reducible refine Pair.drew ?_) | (with_reducible refine Pair.drewN ?_ _) | (with_reducible refine Two.far ?_ ?_ _) | (with_reducible refine Pair.far ?_ ?_ _) | (simp; omega)))
      · refine ⟨ret_val (by rw [H.out]), ?_⟩
        (repeat' (first | (with_reducible assumption) | (with_reducible exact Below.refl _ _) | (with_reducible refine belowN ?_ _) | (with_reducible refine Below.alloc ?_ ?_ _) | (with_reducible refine Below.drew ?_) | (with_reducible refine Below.setCell ?_ ?_ _) | go_size))

theorem fail_sol {x : Tsk} {n : Nat} {plan : List Int} (h : solB x n x.init plan = true) : failF x n plan = -1 := by
  rcases fail_cases x n plan with ⟨k, hk, _, _, h1⟩ | ⟨_, h1⟩
  · have := sol_ex h
    unfold exB at this
    rw [runTo_none h1 plan.length (by omega)] at this
    cases this
  · rw [h1, if_pos h]
/-- Where Play stops is where the plan fails. -/
theorem fail_play {x : Tsk} {plan : List Int} (h0 : (plF x plan).1 = 0) (hs : solB x x.n.toNat x.init plan = false) :
    (∃ k : Nat, failF x x.n.toNat plan = k ∧ plyF x x.init plan = (11, (k : Int))) ∨ (failF x x.n.toNat plan = plan.length ∧ plyF x x.init plan = (0, 0)) := by
  have hc := ck_init h0
  rcases fail_cases x x.n.toNat plan with ⟨k, hk, h1, h2, h3⟩ | ⟨h1, h2⟩
  · exact .inl ⟨k, h1, plyF_stop hc hk h2 h3⟩
  · exact .inr ⟨by rw [h2, hs, if_neg (by simp)], plyF_end hc h1⟩

set_option maxHeartbeats 4000000 in
theorem failure_any : FlC := by
  intro x a3 c3 plan w hX hP _ hT
  have hB2 : Below w.heap.size w ((w.alloc (.cells #[.int .i64 x.n, .slice x.ai x.init.length x.ci, .slice x.ag x.goal.length x.cg, .slice x.ao x.ops.length x.co] 25)).alloc (.cells #[.int .i64 0, .int .i64 0] 27)) := by go_grown
  have HC := Lib.hid (ssolves_any x a3 c3 plan _ (hX.to hB2 hB2.size) (hP.to hB2 hB2.size))
  have HPY := Lib.hid (fun (W : World) (h : Below w.heap.size w W) => play_any x x.ai a3 x.ci c3 x.init plan W (hX.to h h.size) (hX.to h h.size).init (hP.to h h.size) (hT.to h (Nat.le_refl _)))
  clear hX hP hB2 hT
  have hF0 := Lib.hid (fr1_new w x 25 27)
  by_cases ht : (plF x plan).1 = 0
  case neg =>
    have H := Lib.hid (show flI x plan = 0 by unfold flI; rw [if_neg ht])
    have hne : ((plF x plan).1 != 0) = true := by simpa using ht
    have hne2 : ((plF x plan).1 == 0) = false := by simpa using ht
    have hsv : svB x plan = false := by simp [svB, ht]
    rw [hsv] at HC
    clear ht hsv HPY
    go_enter Tryd.func9, Tryd.ntmps9
    go_wp2_with (go_at_call 19; (with_reducible refine HC.out.mono ?_); rintro e w1 ⟨rfl, hbw⟩; have hF := Lib.hid (hF0.out.to hbw); have hl9 := hF.out.two.lt; have hF2 := Lib.hid (hF.out.alloc (.cells #[.int .i64 (plF x plan).1, .int .i64 (plF x plan).2] 27)); have hT2 := Lib.hid (two_new w1 (.int .i64 (plF x plan).1) (.int .i64 (plF x plan).2) 27); obtain ⟨_, ⟨_, t0, t1, t2, t3⟩, ⟨_, k0, k1, f0, f1⟩⟩ := hF.out)
    go_region
    all_goals
      go_wp2
      have htw := hF.out.two
      have hbe := hF2.out.below
      refine post_with_fault (g := w.heap.size + 1) (x := .int .i64 (plF x plan).1) (y := .int .i64 (plF x plan).2) Tryd.results9 rfl ?_ ?_
      · (repeat' (first | (with_reducible assumption) | (with_reducible exact two_new _ _ _ _) | (with_reducible exact (two_new _ _ _ _).pair) | (with_reducible exact Two.pair ‹_›) | (with_reducible refine Pair.set ?_ _ _) | (with_reducible refine Two.alloc ?_ _) | (with_reducible refine Pair.alloc ?_ _) | (with_reducible refine two1 ?_) | (with_reducible refine twoN ?_ _) | (with_reducible refine Pair.drew ?_) | (with_reducible refine Pair.drewN ?_ _) | (with_reducible refine Two.far ?_ ?_ _) | (with_reducible refine Pair.far ?_ ?_ _) | (simp; omega)))
      · refine ⟨by rw [H.out]; rfl, ?_⟩
        (repeat' (first | (with_reducible assumption) | (with_reducible exact Below.refl _ _) | (with_reducible refine belowN ?_ _) | (with_reducible refine Below.alloc ?_ ?_ _) | (with_reducible refine Below.drew ?_) | (with_reducible refine Below.setCell ?_ ?_ _) | go_size))
  case pos =>
    have hz := (plF_zero ht).1
    have hsv : svB x plan = solB x x.n.toNat x.init plan := by simp [svB, ht]
    rw [hsv, hz] at HC
    cases hs : solB x x.n.toNat x.init plan
    case true =>
      have H := Lib.hid (show flI x plan = -1 by unfold flI; rw [if_pos ht, fail_sol hs])
      rw [hs] at HC
      have HZ := Lib.hid hz
      clear ht hz hsv HPY
      go_enter Tryd.func9, Tryd.ntmps9
      go_wp2_with (go_at_call 19; (with_reducible refine HC.out.mono ?_); rintro e w1 ⟨rfl, hbw⟩; have hF := Lib.hid (hF0.out.to hbw); have hl9 := hF.out.two.lt; have hF2 := Lib.hid (hF.out.alloc (.cells #[.int .i64 0, .int .i64 0] 27)); have hT2 := Lib.hid (two_new w1 (.int .i64 0) (.int .i64 0) 27); obtain ⟨_, ⟨_, t0, t1, t2, t3⟩, ⟨_, k0, k1, f0, f1⟩⟩ := hF.out)
      have htw := hF.out.two
      have hbe := hF2.out.below
      refine post_with_fault (g := w.heap.size + 1) (x := .int .i64 0) (y := .int .i64 0) Tryd.results9 rfl ?_ ?_
      · (repeat' (first | (with_reducible assumption) | (with_reducible exact two_new _ _ _ _) | (with_reducible exact (two_new _ _ _ _).pair) | (with_reducible exact Two.pair ‹_›) | (with_reducible refine Pair.set ?_ _ _) | (with_reducible refine Two.alloc ?_ _) | (with_reducible refine Pair.alloc ?_ _) | (with_reducible refine two1 ?_) | (with_reducible refine twoN ?_ _) | (with_reducible refine Pair.drew ?_) | (with_reducible refine Pair.drewN ?_ _) | (with_reducible refine Two.far ?_ ?_ _) | (with_reducible refine Pair.far ?_ ?_ _) | (simp; omega)))
      · refine ⟨by rw [H.out, HZ.out]; rfl, ?_⟩
        (repeat' (first | (with_reducible assumption) | (with_reducible exact Below.refl _ _) | (with_reducible refine belowN ?_ _) | (with_reducible refine Below.alloc ?_ ?_ _) | (with_reducible refine Below.drew ?_) | (with_reducible refine Below.setCell ?_ ?_ _) | go_size))
    case false =>
      rw [hs] at HC
      have hfi : flI x plan = failF x x.n.toNat plan := by unfold flI; rw [if_pos ht]
      rcases fail_play ht hs with ⟨k, hk, hp⟩ | ⟨hk, hp⟩
      · have H := Lib.hid (show flI x plan = k by rw [hfi, hk])
        have HZ := Lib.hid hz
        rw [hp] at HPY
        clear ht hz hsv hfi hk hp
        go_enter Tryd.func9, Tryd.ntmps9
        go_wp2_with (first | (go_at_call 19; (with_reducible refine HC.out.mono ?_); rintro e w1 ⟨rfl, hbw⟩; have hF := Lib.hid (hF0.out.to hbw); have hl9 := hF.out.two.lt; have hF2 := Lib.hid (hF.out.alloc (.cells #[.int .i64 0, .int .i64 0] 27)); have hT2 := Lib.hid (two_new w1 (.int .i64 0) (.int .i64 0) 27); obtain ⟨_, ⟨_, t0, t1, t2, t3⟩, ⟨_, k0, k1, f0, f1⟩⟩ := hF.out) | (go_at_call 24; (with_reducible refine (HPY.out _ hF2.out.below).mono ?_); rintro e w2 ⟨v2, rfl, _, hb2⟩; have hF3 := Lib.hid (hF2.out.to hb2); have hl8 := hF3.out.two.lt; have hF4 := Lib.hid (hF3.out.alloc (.cells #[.int .i64 0, .int .i64 0] 27)); have hT4 := Lib.hid (two_new w2 (.int .i64 0) (.int .i64 0) 27); obtain ⟨_, ⟨_, t0, t1, t2, t3⟩, ⟨_, k0, k1, f0, f1⟩⟩ := hF3.out))
        have htw := hF3.out.two
        have hbe := hF4.out.below
        refine post_with_fault (g := w.heap.size + 1) (x := .int .i64 0) (y := .int .i64 0) Tryd.results9 rfl ?_ ?_
        · (repeat' (first | (with_reducible assumption) | (with_reducible exact two_new _ _ _ _) | (with_reducible exact (two_new _ _ _ _).pair) | (with_reducible exact Two.pair ‹_›) | (with_reducible refine Pair.set ?_ _ _) | (with_reducible refine Two.alloc ?_ _) | (with_reducible refine Pair.alloc ?_ _) | (with_reducible refine two1 ?_) | (with_reducible refine twoN ?_ _) | (with_reducible refine Pair.drew ?_) | (with_reducible refine Pair.drewN ?_ _) | (with_reducible refine Two.far ?_ ?_ _) | (with_reducible refine Pair.far ?_ ?_ _) | (simp; omega)))
        · refine ⟨by rw [H.out, HZ.out]; rfl, ?_⟩
          (repeat' (first | (with_reducible assumption) | (with_reducible exact Below.refl _ _) | (with_reducible refine belowN ?_ _) | (with_reducible refine Below.alloc ?_ ?_ _) | (with_reducible refine Below.drew ?_) | (with_reducible refine Below.setCell ?_ ?_ _) | go_size))
      · have H := Lib.hid (show flI x plan = plan.length by rw [hfi, hk])
        have HZ := Lib.hid hz
        rw [hp] at HPY
        clear ht hz hsv hfi hk hp
        go_enter Tryd.func9, Tryd.ntmps9
        go_wp2_with (first | (go_at_call 19; (with_reducible refine HC.out.mono ?_); rintro e w1 ⟨rfl, hbw⟩; have hF := Lib.hid (hF0.out.to hbw); have hl9 := hF.out.two.lt; have hF2 := Lib.hid (hF.out.alloc (.cells #[.int .i64 0, .int .i64 0] 27)); have hT2 := Lib.hid (two_new w1 (.int .i64 0) (.int .i64 0) 27); obtain ⟨_, ⟨_, t0, t1, t2, t3⟩, ⟨_, k0, k1, f0, f1⟩⟩ := hF.out) | (go_at_call 24; (with_reducible refine (HPY.out _ hF2.out.below).mono ?_); rintro e w2 ⟨v2, rfl, _, hb2⟩; have hF3 := Lib.hid (hF2.out.to hb2); have hl8 := hF3.out.two.lt; have hF4 := Lib.hid (hF3.out.alloc (.cells #[.int .i64 0, .int .i64 0] 27)); have hT4 := Lib.hid (two_new w2 (.int .i64 0) (.int .i64 0) 27); obtain ⟨_, ⟨_, t0, t1, t2, t3⟩, ⟨_, k0, k1, f0, f1⟩⟩ := hF3.out))
        have htw := hF3.out.two
        have hbe := hF4.out.below
        refine post_with_fault (g := w.heap.size + 1) (x := .int .i64 0) (y := .int .i64 0) Tryd.results9 rfl ?_ ?_
        · (repeat' (first | (with_reducible assumption) | (with_reducible exact two_new _ _ _ _) | (with_reducible exact (two_new _ _ _ _).pair) | (with_reducible exact Two.pair ‹_›) | (with_reducible refine Pair.set ?_ _ _) | (with_reducible refine Two.alloc ?_ _) | (with_reducible refine Pair.alloc ?_ _) | (with_reducible refine two1 ?_) | (with_reducible refine twoN ?_ _) | (with_reducible refine Pair.drew ?_) | (with_reducible refine Pair.drewN ?_ _) | (with_reducible refine Two.far ?_ ?_ _) | (with_reducible refine Pair.far ?_ ?_ _) | (simp; omega)))
        · refine ⟨by rw [H.out, HZ.out]; rfl, ?_⟩
          (repeat' (first | (with_reducible assumption) | (with_reducible exact Below.refl _ _) | (with_reducible refine belowN ?_ _) | (with_reducible refine Below.alloc ?_ ?_ _) | (with_reducible refine Below.drew ?_) | (with_reducible refine Below.setCell ?_ ?_ _) | go_size))
end Go.Proofs.YtkflidnclndpkaaDoor
end

/- without of package plans. -/
section
namespace Go.Proofs.YtkflidnclndpkaaDoor
open Go.RowKit
set_option linter.unusedSimpArgs false
set_option linter.unusedVariables false
set_option maxRecDepth 100000

theorem post_two {fn : Func} {R : Ending → World → Prop} {tmps : Array Value} {W : World} {s t : Tmp} (hres : fn.results = #[.tmp s, .tmp t]) (hR : R (.returned (.tuple #[tmps.getD s undef, tmps.getD t undef])) W) :
    bodyPost Tryd.prog fn R .ret { tmps := tmps, defers := [] } W := by
  refine bodyPost_ret (v := .tuple #[tmps.getD s undef, tmps.getD t undef]) ?_ rfl hR
  simp only [results, hres]
  simp [go_sem]
theorem ay_ok {x : Tsk} {plan s : List Int} {op : Int} (h0 : (plF x plan).1 = 0) (hs : IsS s x.n.toNat) (h1 : 0 ≤ op) (h2 : op < x.ops.length) : ayF x s op = if subB (opn x op).pre s then (0, 0) else (11, op) := by
  have hv := (plF_val h0).1
  have hst : (stF x s).1 = 0 := by
    unfold stF
    rw [if_neg (by simpa using (plF_zero h0).2.1), if_pos (by rw [hv.eq]; exact setB_iff.2 hs)]
  have hc : (ckF x s [op]).1 = 0 := ck_split hst (by simp) (planB_mem.2 (fun y hy => by obtain rfl := List.mem_singleton.1 hy; exact ⟨h1, h2⟩))
  unfold ayF
  rw [if_neg (by simpa using hc)]
theorem om_next {x : Tsk} {n : Nat} {plan s : List Int} {i m : Nat} (h : i + 1 + m < plan.length) (hr : runTo x n x.init (omK x n plan i m) (omK x n plan i m).length = some s) :
    if subB (opn x (ix plan (i + 1 + m))).pre s then omK x n plan i (m + 1) = omK x n plan i m ++ [ix plan (i + 1 + m)] ∧ runTo x n x.init (omK x n plan i m ++ [ix plan (i + 1 + m)]) (omK x n plan i m ++ [ix plan (i + 1 + m)]).length = some (aftL n (opn x (ix plan (i + 1 + m))).add (opn x (ix plan (i + 1 + m))).del s)
    else omK x n plan i (m + 1) = omK x n plan i m := by
  have h1 := omK_succ (x := x) (n := n) h
  generalize omK x n plan i m = out at *
  generalize ix plan (i + 1 + m) = op at *
  have h2 := runTo_app2 (b := [op]) hr 1
  have h3 : runTo x n s [op] 1 = if subB (opn x op).pre s then some (aftL n (opn x op).add (opn x op).del s) else none := by simp [runTo, ix]
  rw [h3] at h2
  have h4 : (out ++ [op]).length = out.length + 1 := by simp
  unfold omS exB at h1
  rw [h4, h2] at h1
  rw [h4]
  cases hs : subB (opn x op).pre s
  · rw [hs] at h1
    simpa using h1
  · rw [hs] at h1 h2
    exact ⟨by simpa using h1, by simpa using h2⟩
theorem om_sl {x : Tsk} {n : Nat} {plan : List Int} {i m : Nat} : (omK x n plan i m).Sublist plan :=
  (om_sub x n _ _).trans ((List.Sublist.append_left (List.take_sublist _ _) _).trans (cut_sub plan i))
def WoPost (x : Tsk) (plan : List Int) (i : Nat) (w : World) (e : Ending) (w' : World) : Prop :=
  ∃ v, e = .returned (.tuple #[v, .bool (solB x x.n.toNat x.init (omL x x.n.toNat plan i))]) ∧ w'.ownsRow w.heap.size 3 1 v (omL x x.n.toNat plan i).length ((omL x x.n.toNat plan i).map (Value.int .i64)) ∧ Below w.heap.size w w'
set_option maxHeartbeats 4000000 in
theorem without_any (x : Tsk) (a3 : Option Addr) (c3 : Nat) (plan : List Int) (w : World) (hX : TskIn w w.heap.size x) (hL : Lst w w.heap.size a3 c3 plan) (h0 : a3 = none → c3 = 0) (hT : TabIn w) (hso : (soF x plan).1 = 0) (i : Nat) (hi : i < plan.length) :
    Calls Tryd.prog 32 #[.agg #[.int .i64 x.n, .slice x.ai x.init.length x.ci, .slice x.ag x.goal.length x.cg, .slice x.ao x.ops.length x.co], .slice a3 plan.length c3, .int .i64 i] w (WoPost x plan i w) := by
  obtain ⟨_, hpf, hsol⟩ := soF_zero hso
  obtain ⟨hv, h60, hpl⟩ := plF_val hpf
  have HX0 := Lib.hid (fun (W : World) (h : Below w.heap.size w W) => hX.to h h.size)
  have HL0 := Lib.hid (fun (W : World) (h : Below w.heap.size w W) => hL.to h h.size)
  have HT0 := Lib.hid (fun (W : World) (h : Below w.heap.size w W) => hT.to h (Nat.le_refl _))
  have HPF := Lib.hid hpf
  have HV := Lib.hid hv
  have HPL := Lib.hid hpl
  obtain ⟨b, o, rfl, hbw, _⟩ := hL.nums.at_ hi
  have hcap := hL.le
  have hmax := hL.max
  unfold maxLen at hmax
  obtain ⟨i0, hi0, hz0, hz1, hz2⟩ := info_parts info_int
  have HB0 := Lib.hid (tbox_new w x 25)
  have hB1 : Below w.heap.size w ((w.alloc (.cells #[.int .i64 x.n, .slice x.ai x.init.length x.ci, .slice x.ag x.goal.length x.cg, .slice x.ao x.ops.length x.co] 25))) := by go_grown
  have HB1 := Lib.hid hB1
  have HC0 := Lib.hid (clone_any (some ⟨b, o, none⟩) c3 (plan.take i) _ (lst_take (HL0.out _ hB1) (by omega)) h0 (by rw [take_len (by omega)]; omega))
  rw [take_len (by omega : i ≤ plan.length)] at HC0
  have HTL := Lib.hid (take_len (by omega : i ≤ plan.length))
  have hri : (runTo x x.n.toNat x.init plan i).isSome = true := by
    have := sol_ex hsol
    unfold exB at this
    obtain ⟨t, ht⟩ := Option.isSome_iff_exists.1 this
    obtain ⟨u, hu⟩ := runTo_le ht (k := i) (by omega)
    rw [hu]; rfl
  have hpt := ply_take hpf (by omega : i ≤ plan.length) hri
  have HLEN := Lib.hid (show (plyL x x.init (plan.take i)).length = i + 1 by rw [plyL_len (by rw [hpt]), HTL.out])
  have HS0 := Lib.hid (show runTo x x.n.toNat x.init (plan.take i) (plan.take i).length = some (rw_ (plyL x x.init (plan.take i)) i) by
    rw [HTL.out]; exact plyL_at (by rw [hpt]) (by rw [HTL.out]; omega))
  have HPY := Lib.hid (fun (W : World) (h : Below w.heap.size w W) (a0 : Option Addr) (c0 : Nat) (hl : Lst W W.heap.size a0 c0 (plan.take i)) => play_any x x.ai a0 x.ci c0 x.init (plan.take i) W (hX.to h h.size) (hX.to h h.size).init hl (hT.to h (Nat.le_refl _)))
  rw [hpt] at HPY
  rw [HTL.out] at HPY
  have hwi : IntKind.i64.wrap ((i : Int) + 1) = (i : Int) + 1 := IntWalk.i64_in _ (by omega)
  have hi1 : (i : Int) ≤ c3 := by omega
  have hi2 : (0 : Int) ≤ (i : Int) := by omega
  have hi3 : ((i : Int)).toNat = i := by omega
  have hj1 : (i : Int) + 1 ≤ plan.length := by omega
  have hj2 : (0 : Int) ≤ (i : Int) + 1 := by omega
  have hj3 : ((i : Int) + 1).toNat = i + 1 := by omega
  clear hX hL hv hpl h0 hB1 hT hso hpf hpt hri hsol
  go_enter Tryd.func32, Tryd.ntmps32
  go_wp2_with (first | (go_at_call 31; (with_reducible refine HC0.out.mono ?_); rintro e w1 ⟨v0, rfl, hown, hb⟩; obtain ⟨a0, c0, rfl, hl0, hn0⟩ := own_lst hown; rw [HTL.out] at hown; (try rw [HTL.out]); have HO1 := Lib.hid hown; have HBB := Lib.hid (HB1.out.trans (hb.mono HB1.out.size)); have HL1 := Lib.hid hl0; have HBX1 := Lib.hid (HB0.out.to hb HB0.out.lt); clear hown hb hl0; obtain ⟨_, t0, t1, t2, t3⟩ := HBX1.out) | (go_at_call 24; (with_reducible refine (HPY.out _ HBB.out _ _ HL1.out).mono ?_); rintro e w2 ⟨vs, rfl, hfr, hb2⟩; obtain ⟨bs, os, as_, cs, cc, rfl, hbs, hcs, hap, hle, hmx⟩ := fresh2_apart hfr (r := (Value.slice a0 i c0).ownBlock) (fun q e => (HO1.out.lt q e).2) (k := i) (by rw [HLEN.out]; omega); rw [HLEN.out] at hle; (try rw [HLEN.out]); have HAP := Lib.hid hap; have HB2 := Lib.hid (HBB.out.trans (hb2.mono HBB.out.size)); have HB2' := Lib.hid hb2; have HBX2 := Lib.hid (HBX1.out.to hb2 HBX1.out.lt); clear hap hb2 hfr t0 t1 t2 t3; obtain ⟨_, t0, t1, t2, t3⟩ := HBX2.out))
  case inl =>
    have hfin := show plan.length ≤ i + 1 by omega
    go_loopw [8, 11, 39] (fun v sv k wr => ∃ (m : Nat) (as' : Option Addr) (cs' : Nat) (s : List Int), k = .int .i64 m ∧ m ≤ plan.length - (i + 1) ∧ sv = .slice as' s.length cs' ∧ wr.ownsRow (w.heap.size + 1) 3 1 v (omK x x.n.toNat plan i m).length ((omK x x.n.toNat plan i m).map (Value.int .i64)) ∧ runTo x x.n.toNat x.init (omK x x.n.toNat plan i m) (omK x x.n.toNat plan i m).length = some s ∧ Apart wr v.ownBlock as' cs' s ∧ Below w.heap.size w wr ∧ TBox wr w.heap.size x) (fun _ _ k _ => (plan.length - (i + 1)) - (intOf k).toNat)
    case atStart =>
      have hal : Below w2.heap.size w2 (w2.alloc (.cells #[.int .i64 0, .int .i64 0] 27)) := (Below.refl _ _).alloc (Nat.le_refl _) _
      refine ⟨0, as_, cs, _, by go_num, by omega, rfl, ?_, ?_, HAP.out.to hal, HB2.out.trans (hal.mono HB2.out.size), HBX2.out.to hal HBX2.out.lt⟩
      · rw [omK_zero, HTL.out]
        exact own_mono (own_to (own_to HO1.out HB2'.out) hal) (by simp)
      · rw [omK_zero]
        exact HS0.out
    case round =>
      obtain ⟨m, as', cs', s, rfl, hm, rfl, hown, hrun, hap, hbe, hbox⟩ := hrel
      have HOW := Lib.hid hown
      have HRU := Lib.hid hrun
      have HAP9 := Lib.hid hap
      have HBW := Lib.hid hbe
      have HBX := Lib.hid hbox
      obtain ⟨ap, cp, rfl, hlp, _⟩ := own_lst hown
      have HLP := Lib.hid hlp
      clear hown hrun hap hbe hbox hlp
      obtain ⟨_, t0, t1, t2, t3⟩ := HBX.out
      by_cases hlt : m < plan.length - (i + 1)
      case neg =>
        have HE := Lib.hid (omK_all (x := x) (n := x.n.toNat) (plan := plan) (i := i) (m := m) (by omega))
        have hz9 := plF_sub HPF.out (om_sl (x := x) (n := x.n.toNat) (plan := plan) (i := i) (m := m))
        have HSV := Lib.hid (ssolves_any x ap cp (omK x x.n.toNat plan i m) wr (HX0.out _ HBW.out) HLP.out)
        rw [hz9, svB_of (by rw [hz9])] at HSV
        clear hz9
        have hd : decide ((m : Int) < ((plan.length - (i + 1) : Nat) : Int)) = false := by simp; omega
        go_wp2_with (go_at_call 19; (with_reducible refine HSV.out.mono ?_); rintro e w7 ⟨rfl, hb7⟩; have HB7 := Lib.hid hb7; clear hb7)
        have hal : Below w7.heap.size w7 (w7.alloc (.cells #[.int .i64 0, .int .i64 0] 27)) := (Below.refl _ _).alloc (Nat.le_refl _) _
        refine post_two Tryd.results32 ?_
        refine ⟨.slice ap (omK x x.n.toNat plan i m).length cp, by rw [HE.out]; rfl, ?_, HBW.out.trans ((HB7.out.trans (hal.mono HB7.out.size)).mono HBW.out.size)⟩
        rw [← HE.out]
        exact own_mono (own_to (own_to HOW.out HB7.out) hal) (by omega)
      case pos =>
        exfalso; omega
  case inr =>
    go_loopw [8, 11, 39] (fun v sv k wr => ∃ (m : Nat) (as' : Option Addr) (cs' : Nat) (s : List Int), k = .int .i64 m ∧ m ≤ plan.length - (i + 1) ∧ sv = .slice as' s.length cs' ∧ wr.ownsRow (w.heap.size + 1) 3 1 v (omK x x.n.toNat plan i m).length ((omK x x.n.toNat plan i m).map (Value.int .i64)) ∧ runTo x x.n.toNat x.init (omK x x.n.toNat plan i m) (omK x x.n.toNat plan i m).length = some s ∧ Apart wr v.ownBlock as' cs' s ∧ Below w.heap.size w wr ∧ TBox wr w.heap.size x) (fun _ _ k _ => (plan.length - (i + 1)) - (intOf k).toNat)
    case atStart =>
      have hal : Below w2.heap.size w2 (w2.alloc (.cells #[.int .i64 0, .int .i64 0] 27)) := (Below.refl _ _).alloc (Nat.le_refl _) _
      refine ⟨0, as_, cs, _, by go_num, by omega, rfl, ?_, ?_, HAP.out.to hal, HB2.out.trans (hal.mono HB2.out.size), HBX2.out.to hal HBX2.out.lt⟩
      · rw [omK_zero, HTL.out]
        exact own_mono (own_to (own_to HO1.out HB2'.out) hal) (by simp)
      · rw [omK_zero]
        exact HS0.out
    case round =>
      obtain ⟨m, as', cs', s, rfl, hm, rfl, hown, hrun, hap, hbe, hbox⟩ := hrel
      have HOW := Lib.hid hown
      have HRU := Lib.hid hrun
      have HAP9 := Lib.hid hap
      have HBW := Lib.hid hbe
      have HBX := Lib.hid hbox
      obtain ⟨ap, cp, rfl, hlp, _⟩ := own_lst hown
      have HLP := Lib.hid hlp
      clear hown hrun hap hbe hbox hlp
      obtain ⟨_, t0, t1, t2, t3⟩ := HBX.out
      by_cases hlt : m < plan.length - (i + 1)
      case neg =>
        have HE := Lib.hid (omK_all (x := x) (n := x.n.toNat) (plan := plan) (i := i) (m := m) (by omega))
        have hz9 := plF_sub HPF.out (om_sl (x := x) (n := x.n.toNat) (plan := plan) (i := i) (m := m))
        have HSV := Lib.hid (ssolves_any x ap cp (omK x x.n.toNat plan i m) wr (HX0.out _ HBW.out) HLP.out)
        rw [hz9, svB_of (by rw [hz9])] at HSV
        clear hz9
        have hd : decide ((m : Int) < ((plan.length - (i + 1) : Nat) : Int)) = false := by simp; omega
        go_wp2_with (go_at_call 19; (with_reducible refine HSV.out.mono ?_); rintro e w7 ⟨rfl, hb7⟩; have HB7 := Lib.hid hb7; clear hb7)
        have hal : Below w7.heap.size w7 (w7.alloc (.cells #[.int .i64 0, .int .i64 0] 27)) := (Below.refl _ _).alloc (Nat.le_refl _) _
        refine post_two Tryd.results32 ?_
        refine ⟨.slice ap (omK x x.n.toNat plan i m).length cp, by rw [HE.out]; rfl, ?_, HBW.out.trans ((HB7.out.trans (hal.mono HB7.out.size)).mono HBW.out.size)⟩
        rw [← HE.out]
        exact own_mono (own_to (own_to HOW.out HB7.out) hal) (by omega)
      case pos =>
        have hlt2 : i + 1 + m < plan.length := by omega
        obtain ⟨b', o', e', _, hc0⟩ := (HL0.out _ HBW.out).nums.at_ hlt2
        cases e'
        have hcr : wr.cell? ⟨b, o + (i + 1) + m, none⟩ = some (.int .i64 (ix plan (i + 1 + m))) := by rw [show o + (i + 1) + m = o + (i + 1 + m) by omega]; exact hc0
        obtain ⟨g0, g1⟩ := planB_at HPL.out hlt2
        have HN := Lib.hid (om_next hlt2 HRU.out)
        have HIS := Lib.hid (runTo_isS HV.out.init _ _ HRU.out)
        have hay := ay_ok HPF.out HIS.out g0 g1
        generalize hop : ix plan (i + 1 + m) = op at *
        have hd : decide ((m : Int) < ((plan.length - (i + 1) : Nat) : Int)) = true := by simp; omega
        have HAY := Lib.hid (apply_own x as' cs' s op wr (HX0.out _ HBW.out) HAP9.out.lst (HT0.out _ HBW.out))
        rw [hay] at HAY
        have hwk : IntKind.i64.wrap ((m : Int) + 1) = (m : Int) + 1 := IntWalk.i64_in _ (by omega)
        cases hsub : subB (opn x op).pre s
        case false =>
          rw [hsub] at HAY HN
          have HM := Lib.hid (show omK x x.n.toNat plan i (m + 1) = (omK x x.n.toNat plan i m) by simpa using HN.out)
          rw [if_neg (by simp)] at HAY
          clear hay
          go_wp2_with (go_at_call 46; (with_reducible refine HAY.out.mono ?_); rintro e w5 ⟨v5, rfl, _, hb5⟩; have HB5 := Lib.hid hb5; clear hb5)
          go_roundw
          case rel =>
            have hal : Below w5.heap.size w5 (w5.alloc (.cells #[.int .i64 11, .int .i64 op] 27)) := (Below.refl _ _).alloc (Nat.le_refl _) _
            have h9 : Below wr.heap.size wr (w5.alloc (.cells #[.int .i64 11, .int .i64 op] 27)) := HB5.out.trans (hal.mono HB5.out.size)
            refine ⟨m + 1, as', cs', s, by go_num, by omega, rfl, ?_, ?_, HAP9.out.to h9, HBW.out.trans (h9.mono HBW.out.size), HBX.out.to h9 HBX.out.lt⟩
            · rw [HM.out]; exact own_to HOW.out h9
            · rw [HM.out]; exact HRU.out
          case measure => simp [intOf]; omega
        case true =>
          rw [hsub] at HAY HN
          have HM := Lib.hid HN.out.1
          have HM2 := Lib.hid HN.out.2
          rw [if_pos rfl] at HAY
          have HLY := Lib.hid (show ayL x s op = aftL x.n.toNat (opn x op).add (opn x op).del s by unfold ayL; rw [hay, hsub]; rfl)
          clear hay
          go_wp2_with (first
            | (go_at_call 46; (with_reducible refine HAY.out.mono ?_); rintro e w5 ⟨v5, rfl, hov, hb5⟩; obtain ⟨a5, c5, rfl, ha5⟩ := apart_own hov (r := (Value.slice ap (omK x x.n.toNat plan i m).length cp).ownBlock) (fun q e => (HOW.out.lt q e).2); have HA5 := Lib.hid ha5; have HB5 := Lib.hid hb5; have HO5 := Lib.hid (own_to HOW.out hb5); have hsz5 := Nat.lt_of_lt_of_le HBX.out.lt hb5.size; have HSZ5 := Lib.hid hsz5; clear hb5 hov ha5 hsz5)
            | (at_builtin; refine wpList_append_own_at _ rfl _ _ 22 rfl (w.heap.size + 1) 3 i0 (.int .i64 0) 1 8 Tryd.underlying22 hi0 hz0 hz1 hz2 rfl (by decide) _ _ _ rfl ((HO5.out.alloc _).alloc _) ⟨w5.heap.size + 1, 0, none⟩ 1 1 [.int .i64 op] rfl rfl ?c1 ?c2 ?c3 ?c4 ?c5 ?_))
          case c1 => exact news1 (by have h := (cell_new (w5.alloc (.cells #[.int .i64 0, .int .i64 0] 27)) (.int .i64 op) 3).1; rw [World.size_alloc] at h; exact h)
          case c2 => simp [Value.oneCell']
          case c3 => have := (om_sl (x := x) (n := x.n.toNat) (plan := plan) (i := i) (m := m)).length_le; unfold maxLen; omega
          case c4 => have := (om_sl (x := x) (n := x.n.toNat) (plan := plan) (i := i) (m := m)).length_le; omega
          case c5 => have := HSZ5.out; simp; omega
          intro v6 w6 hown6 hgrow6 _ hat6
          have HO6 := Lib.hid hown6
          have hal : Below w5.heap.size w5 ((w5.alloc (.cells #[.int .i64 0, .int .i64 0] 27)).alloc (.cells #[.int .i64 op] 3)) := ((Below.refl _ _).alloc (Nat.le_refl _) _).alloc (by simp) _
          have HA6 := Lib.hid ((HA5.out.to hal).grown hgrow6 (by rw [World.size_alloc, World.size_alloc]; exact hat6))
          have hsz := HSZ5.out
          have HB6 := Lib.hid ((hal.mono (B' := w.heap.size + 1) (by omega)).grown hgrow6 (by simp; omega) (fun q hq => (HO5.out.lt q hq).1))
          clear hown6 hgrow6 hat6 hal hsz
          go_wp2
          go_roundw
          case rel =>
            have h9 := HB5.out.mono (B' := w.heap.size + 1) (by have := HBX.out.lt; omega)
            refine ⟨m + 1, a5, c5, _, by go_num, by omega, by rw [HLY.out], ?_, ?_, by rw [← HLY.out]; exact HA6.out, HBW.out.trans ((h9.trans HB6.out).mono (by omega)), HBX.out.to (h9.trans HB6.out) (by omega)⟩
            · rw [HM.out]; simpa using HO6.out
            · rw [HM.out]; exact HM2.out
          case measure => simp [intOf]; omega
end Go.Proofs.YtkflidnclndpkaaDoor
end

/- Reduce of package plans. -/
section
namespace Go.Proofs.YtkflidnclndpkaaDoor
open Go.RowKit
set_option linter.unusedSimpArgs false
set_option linter.unusedVariables false
set_option maxRecDepth 100000

def slen : Value → Nat
  | .slice _ n _ => n
  | _ => 0
theorem soF_of {x : Tsk} {l : List Int} (h : (plF x l).1 = 0) (hs : solB x x.n.toNat x.init l = true) : soF x l = (0, 0) := by
  unfold soF
  rw [if_neg (by simpa using h), if_pos hs]
theorem omL_sl {x : Tsk} {n : Nat} {plan : List Int} {i : Nat} : (omL x n plan i).Sublist plan := omL_sub.trans (cut_sub plan i)
theorem set_grown (W : World) (p : Addr) (u : Value) : W.grownBy (W.setCell p u) (some p.block) :=
  ⟨rfl, rfl, rfl, by simp [World.setCell], fun k _ hk => Below.heap_setCell _ _ _ _ (fun e => hk (by simp [e]))⟩
set_option maxHeartbeats 4000000 in
theorem reduce_any : RdC := by
  intro x a3 c3 plan w hX hP h03 hT
  have hB2 : Below w.heap.size w ((w.alloc (.cells #[.int .i64 x.n, .slice x.ai x.init.length x.ci, .slice x.ag x.goal.length x.cg, .slice x.ao x.ops.length x.co] 25)).alloc (.cells #[.int .i64 0, .int .i64 0] 27)) := by go_grown
  have HC := Lib.hid (csol_any x a3 c3 plan _ (hX.to hB2 hB2.size) (hP.to hB2 hB2.size))
  have hF0 := Lib.hid (fr1_new w x 25 27)
  by_cases ht : (soF x plan).1 = 0
  case neg =>
    have H := Lib.hid (show rdL x plan = [] by unfold rdL; rw [if_neg ht])
    have hne : ((soF x plan).1 != 0) = true := by simpa using ht
    have hne2 : ((soF x plan).1 == 0) = false := by simpa using ht
    clear ht hX hP hB2 hT
    go_enter Tryd.func13, Tryd.ntmps13
    go_wp2_with (go_at_call 30; (with_reducible refine HC.out.mono ?_); rintro e w1 ⟨rfl, hbw⟩; have hF := Lib.hid (hF0.out.to hbw); have hl9 := hF.out.two.lt; have hF2 := Lib.hid (hF.out.alloc (.cells #[.int .i64 (soF x plan).1, .int .i64 (soF x plan).2] 27)); have hT2 := Lib.hid (two_new w1 (.int .i64 (soF x plan).1) (.int .i64 (soF x plan).2) 27); obtain ⟨_, ⟨_, t0, t1, t2, t3⟩, ⟨_, k0, k1, f0, f1⟩⟩ := hF.out)
    obtain ⟨_, q0, q1, g0, g1⟩ := hT2.out
    go_region
    all_goals
      go_wp2
      have htw := hF.out.two
      have hbe := hF2.out.below
      refine post_with_fault (g := w.heap.size + 1) (x := .int .i64 (soF x plan).1) (y := .int .i64 (soF x plan).2) Tryd.results13 rfl ?_ ?_
      · (repeat' (first | (with_reducible assumption) | (with_reducible exact two_new _ _ _ _) | (with_reducible exact (two_new _ _ _ _).pair) | (with_reducible exact Two.pair ‹_›) | (with_reducible refine Pair.set ?_ _ _) | (with_reducible refine Two.alloc ?_ _) | (with_reducible refine Pair.alloc ?_ _) | (with_reducible refine two1 ?_) | (with_reducible refine twoN ?_ _) | (with_reducible refine Pair.drew ?_) | (with_reducible refine Pair.drewN ?_ _) | (with_reducible refine Two.far ?_ ?_ _) | (with_reducible refine Pair.far ?_ ?_ _) | (simp; omega)))
      · refine ⟨none, 0, by rw [H.out]; rfl, by rw [H.out]; exact lst_nil _ _, fun _ => rfl, ?_⟩
        (repeat' (first | (with_reducible assumption) | (with_reducible exact Below.refl _ _) | (with_reducible refine belowN ?_ _) | (with_reducible refine Below.alloc ?_ ?_ _) | (with_reducible refine Below.drew ?_) | (with_reducible refine Below.setCell ?_ ?_ _) | go_size))
  case pos =>
    obtain ⟨hz, hpf, hsol⟩ := soF_zero ht
    obtain ⟨hv, h60, hpl⟩ := plF_val hpf
    have HZ := Lib.hid hz
    have HT := Lib.hid ht
    have HPF := Lib.hid hpf
    have HRD := Lib.hid (show rdL x plan = redL x x.n.toNat plan by unfold rdL; rw [if_pos ht])
    rw [hz] at HC
    have HX0 := Lib.hid (fun (W : World) (h : Below w.heap.size w W) => hX.to h h.size)
    have HT0 := Lib.hid (fun (W : World) (h : Below w.heap.size w W) => hT.to h (Nat.le_refl _))
    have HCL := Lib.hid (fun (W : World) (h : Below w.heap.size w W) => clone_any a3 c3 plan W (hP.to h h.size) h03 (by omega))
    clear hX hP hB2 hT ht hz hpf hsol hv hpl h03
    go_enter Tryd.func13, Tryd.ntmps13
    go_wp2_with (first | (go_at_call 30; (with_reducible refine HC.out.mono ?_); rintro e w1 ⟨rfl, hbw⟩; have hF := Lib.hid (hF0.out.to hbw); have hl9 := hF.out.two.lt; have hF2 := Lib.hid (hF.out.alloc (.cells #[.int .i64 0, .int .i64 0] 27))) | (go_at_call 31; (with_reducible refine (HCL.out _ hF2.out.below).mono ?_); rintro e w2 ⟨v2, rfl, hown, hb2⟩; obtain ⟨a2, c2, rfl, _, hn2⟩ := own_lst hown; obtain ⟨a2', c2', e9, hl2⟩ := apart_own hown (r := some (w.heap.size + 1)) (fun q e => by injection e with e; simp; omega); cases e9; have HL2 := Lib.hid hl2; have HN2 := Lib.hid hn2; have hF3 := Lib.hid (hF2.out.to hb2); clear hown hb2 hl2 hn2))
    go_loopw [7, 8] (fun r k wr => ∃ (i : Nat) (a : Option Addr) (c : Nat) (l : List Int), k = .int .i64 i ∧ r = .slice a l.length c ∧ Apart wr (some (w.heap.size + 1)) a c l ∧ (a = none → c = 0) ∧ (soF x l).1 = 0 ∧ (∀ f, l.length - i ≤ f → redN x x.n.toNat f l i = redL x x.n.toNat plan) ∧ l.length ≤ 60 ∧ Fr1 w wr x 0 0) (fun r k _ => 2 * slen r - (intOf k).toNat)
    case atStart => exact ⟨0, a2, c2, plan, rfl, rfl, HL2.out, HN2.out, HT.out, fun f hf => redN_any _ _ _ _ hf (by omega), h60, hF3.out⟩
    case round =>
      obtain ⟨i, a, c, l, rfl, rfl, hl, hn, hso, hred, hl60, hf⟩ := hrel
      have HL := Lib.hid hl
      have HN := Lib.hid hn
      have HSO := Lib.hid hso
      have HRE := Lib.hid hred
      have HF := Lib.hid hf
      clear hl hn hso hred hf
      obtain ⟨_, ⟨_, t0, t1, t2, t3⟩, ⟨_, k0, k1, f0, f1⟩⟩ := HF.out
      by_cases hlt : i < l.length
      case neg =>
        have HE := Lib.hid (show rdL x plan = l by rw [HRD.out, ← HRE.out l.length (by omega), redN_end (by omega)])
        have hd : decide ((i : Int) < (l.length : Int)) = false := by simp; omega
        go_wp2
        have htw := HF.out.two
        have hbe := HF.out.below
        refine post_with_fault (g := w.heap.size + 1) (x := .int .i64 0) (y := .int .i64 0) Tryd.results13 rfl ?_ ?_
        · (repeat' (first | (with_reducible assumption) | (with_reducible exact two_new _ _ _ _) | (with_reducible exact (two_new _ _ _ _).pair) | (with_reducible exact Two.pair ‹_›) | (with_reducible refine Pair.set ?_ _ _) | (with_reducible refine Two.alloc ?_ _) | (with_reducible refine Pair.alloc ?_ _) | (with_reducible refine two1 ?_) | (with_reducible refine twoN ?_ _) | (with_reducible refine Pair.drew ?_) | (with_reducible refine Pair.drewN ?_ _) | (with_reducible refine Two.far ?_ ?_ _) | (with_reducible refine Pair.far ?_ ?_ _) | (simp; omega)))
        · refine ⟨a, c, by rw [HE.out, HZ.out]; rfl, ?_, HN.out, ?_⟩
          · rw [HE.out]
            exact ((HL.out.grown (r' := some (w.heap.size + 1)) (set_grown _ _ _) (.inl rfl)).grown (r' := some (w.heap.size + 1)) (set_grown _ _ _) (.inl rfl)).lst
          · exact (HF.out.below.setCell (by simp) _).setCell (by simp) _
      case pos =>
        have hd : decide ((i : Int) < (l.length : Int)) = true := by simp; omega
        have HWO := Lib.hid (without_any x a c l wr (HX0.out _ HF.out.below) HL.out.lst HN.out (HT0.out _ HF.out.below) HSO.out i hlt)
        have hwk : IntKind.i64.wrap ((i : Int) + 1) = (i : Int) + 1 := IntWalk.i64_in _ (by omega)
        have hll := omL_len (x := x) (n := x.n.toNat) (plan := l) (i := i) hlt
        unfold WoPost at HWO
        cases hs : solB x x.n.toNat x.init (omL x x.n.toNat l i)
        case true =>
          rw [hs] at HWO
          have HS := Lib.hid hs
          go_wp2_with (go_at_call 32; (with_reducible refine HWO.out.mono ?_); rintro e w5 ⟨v5, rfl, hov, hb5⟩; obtain ⟨a5, c5, rfl, _, hn5⟩ := own_lst hov; obtain ⟨a5', c5', e9, hl5⟩ := apart_own hov (r := some (w.heap.size + 1)) (fun q e => by injection e with e; have := HF.out.two.lt; omega); cases e9; have HL5 := Lib.hid (hl5); have HN5 := Lib.hid hn5; have HF5 := Lib.hid (HF.out.to hb5); clear hov hl5 hn5 hb5)
          go_roundw
          case rel =>
            refine ⟨i, a5, c5, _, rfl, rfl, HL5.out, HN5.out, ?_, fun g hg => ?_, by omega, HF5.out⟩
            · rw [soF_of (by rw [plF_sub (soF_zero HSO.out).2.1 omL_sl]) HS.out]
            · rw [← HRE.out l.length (by omega)]
              exact (redN_yes hlt HS.out _ _ (by omega) hg).symm
          case measure => simp [intOf, slen]; omega
        case false =>
          rw [hs] at HWO
          have HS := Lib.hid hs
          go_wp2_with (go_at_call 32; (with_reducible refine HWO.out.mono ?_); rintro e w5 ⟨v5, rfl, hov, hb5⟩; have HF5 := Lib.hid (HF.out.to hb5); have HL5 := Lib.hid (HL.out.to hb5); clear hov hb5)
          go_roundw
          case rel =>
            refine ⟨i + 1, a, c, l, by go_num, rfl, HL5.out, HN.out, HSO.out, fun g hg => ?_, hl60, HF5.out⟩
            rw [← HRE.out l.length (by omega)]
            exact (redN_no hlt HS.out _ _ (by omega) hg).symm
          case measure => simp [intOf, slen]; omega
end Go.Proofs.YtkflidnclndpkaaDoor
end

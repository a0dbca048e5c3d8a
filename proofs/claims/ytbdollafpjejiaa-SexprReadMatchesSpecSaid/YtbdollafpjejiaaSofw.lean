/- The reference's stack of open lists in memory. -/
import Derived.Test.YtbdollafpjejiaaSrdl
import Derived.Laws.OwnMore
namespace Go.Proofs.Ytbdollafpjejiaa
open Go.RowKit Go.Shelf
set_option linter.unusedSimpArgs false
set_option linter.unusedVariables false
set_option maxRecDepth 100000

abbrev OT : TypeId := 35
def lst (op : List (List Int)) (k : Nat) : List Int := op.getD k []
/-- The open lists: a row of slices, each of which owns its numbers, no two in one row. -/
structure Stk (w : World) (B : Nat) (vo : Value) (os : List Value) (op : List (List Int)) : Prop where
  len : os.length = op.length
  own : w.ownsRow B OT 1 vo op.length os
  kid : ∀ k, k < op.length → w.ownsRow B IT 1 (kd os k) (lst op k).length ((lst op k).map (Value.int .i64))
  sep : ∀ j k b, j < op.length → k < op.length → j ≠ k → (kd os j).ownBlock = some b → (kd os k).ownBlock ≠ some b
/-- The blocks of the open lists. -/
def StX (os : List Value) (b : Nat) : Prop := ∃ k, k < os.length ∧ (kd os k).ownBlock = some b
theorem kd_lt {os ms : List Value} {k : Nat} (h : k < os.length) : kd (os ++ ms) k = kd os k := by simp [kd, List.getD, List.getElem?_append_left h]
theorem kd_at {os : List Value} {v : Value} : kd (os ++ [v]) os.length = v := by simp [kd, List.getD]
theorem lst_lt {op ms : List (List Int)} {k : Nat} (h : k < op.length) : lst (op ++ ms) k = lst op k := by simp [lst, List.getD, List.getElem?_append_left h]
theorem lst_at {op : List (List Int)} {cs : List Int} : lst (op ++ [cs]) op.length = cs := by simp [lst, List.getD]
section
variable {w w' : World} {B : Nat} {vo : Value} {os : List Value} {op : List (List Int)}
theorem stk_nil (w : World) (B : Nat) : Stk w B (.slice none 0 0) [] [] := ⟨rfl, World.ownsRow_nil _ _ _ _, fun k hk => by simp at hk, fun j k b hj => by simp at hj⟩
theorem Stk.kept {row : Option Nat} (h : Stk w B vo os op) (hg : w.grownBy w' row) (hr : ∀ k, row = some k → ∃ c T fz, w.heap[k]? = some (.cells c T fz) ∧ T ≠ OT ∧ T ≠ IT) : Stk w' B vo os op := by
  have ne : ∀ {e : TypeId} {size : Nat} {u : Value} {n : Nat} {xs : List Value}, w.ownsRow B e size u n xs → (e = OT ∨ e = IT) → u.ownBlock = none ∨ u.ownBlock ≠ row := by
    intro e size u n xs hu he
    cases hub : u.ownBlock with
    | none => exact .inl rfl
    | some q =>
      right
      intro e1
      obtain ⟨c, T, fz, h1, h2, h3⟩ := hr q e1.symm
      obtain ⟨c', fz', h4⟩ := own_kind hu q hub
      rw [h1] at h4
      simp at h4
      rcases he with he | he
      · exact h2 (h4.2.1.trans he)
      · exact h3 (h4.2.1.trans he)
  exact ⟨h.len, h.own.kept hg (ne h.own (.inl rfl)), fun k hk => (h.kid k hk).kept hg (ne (h.kid k hk) (.inr rfl)), h.sep⟩
theorem Stk.below (h : Stk w B vo os op) (hb : Below w.heap.size w w') : Stk w' B vo os op :=
  h.kept (row := none) ⟨hb.os, hb.tape, hb.output, hb.size, fun k hk _ => hb.block k hk⟩ (fun k hk => by cases hk)
theorem Stk.grownST (h : Stk w B vo os op) {u : Value} {n size : Nat} {xs : List Value} {B' : Nat} (hu : w.ownsRow B' ST size u n xs) (hg : w.grownBy w' u.ownBlock) : Stk w' B vo os op :=
  h.kept hg (fun k hk => by
    obtain ⟨c, fz, h1⟩ := own_kind hu k hk
    exact ⟨c, ST, fz, h1, by decide, by decide⟩)
theorem Stk.push (h : Stk w B vo os op) {vo' : Value} (hg : w.grownBy w' vo.ownBlock) (ho : w'.ownsRow B OT 1 vo' (op.length + 1) (os ++ [.slice none 0 0])) : Stk w' B vo' (os ++ [.slice none 0 0]) (op ++ [[]]) := by
  have hl := h.len
  refine ⟨by simp [hl], by simpa using ho, fun k hk => ?_, fun j k b hj hk hne hjb => ?_⟩
  · by_cases e : k = op.length
    · subst e
      rw [lst_at, ← hl, kd_at]
      exact World.ownsRow_nil _ _ _ _
    · have hlt : k < op.length := by simp at hk; omega
      rw [lst_lt hlt, kd_lt (by omega)]
      refine (h.kid k hlt).kept hg ?_
      cases hub : (kd os k).ownBlock with
      | none => exact .inl rfl
      | some q =>
        right
        intro e1
        obtain ⟨c, fz, h1⟩ := own_kind h.own q e1.symm
        obtain ⟨c', fz', h4⟩ := own_kind (h.kid k hlt) q hub
        rw [h1] at h4
        simp at h4
        exact absurd h4.2.1 (by decide)
  · simp at hj hk
    by_cases e : k = op.length
    · subst e
      rw [← hl, kd_at]
      simp [Value.ownBlock]
    · by_cases e2 : j = op.length
      · subst e2
        rw [← hl, kd_at] at hjb
        simp [Value.ownBlock] at hjb
      · rw [kd_lt (by omega)] at hjb ⊢
        exact h.sep j k b (by omega) (by omega) hne hjb
theorem StX.push {b : Nat} (h : StX (os ++ [.slice none 0 0]) b) : StX os b := by
  obtain ⟨k, hk, hb⟩ := h
  by_cases e : k = os.length
  · subst e
    rw [kd_at] at hb
    simp [Value.ownBlock] at hb
  · have hlt : k < os.length := by simp at hk; omega
    exact ⟨k, hlt, by rw [kd_lt hlt] at hb; exact hb⟩
theorem StX.mono {b : Nat} {v : Value} (h : StX os b) : StX (os ++ [v]) b := by
  obtain ⟨k, hk, hb⟩ := h
  exact ⟨k, by simp; omega, by rw [kd_lt hk]; exact hb⟩
/-- The stack without its last list; the last list. -/
theorem Stk.pop {op0 : List (List Int)} {cs : List Int} {g m cap : Nat} (h : Stk w B (.slice (some ⟨g, 0, none⟩) m cap) os (op0 ++ [cs])) :
    ∃ os0 kv, os = os0 ++ [kv] ∧ os0.length = op0.length ∧ m = op0.length + 1 ∧ Stk w B (.slice (some ⟨g, 0, none⟩) op0.length cap) os0 op0 ∧ w.ownsRow B IT 1 kv cs.length (cs.map (Value.int .i64)) ∧ (∀ b, kv.ownBlock = some b → ¬ StX os0 b) := by
  have hl := h.len
  rcases List.eq_nil_or_concat os with rfl | ⟨os0, kv, rfl⟩
  · simp at hl
  · rw [List.concat_eq_append] at h hl ⊢
    have hl0 : os0.length = op0.length := by simpa using hl
    refine ⟨os0, kv, rfl, hl0, ?_, ⟨hl0, ?_, fun k hk => ?_, fun j k b hj hk hne hjb => ?_⟩, ?_, fun b hb hx => ?_⟩
    · rcases h.own.2 with ⟨h1, _⟩ | ⟨g', cap', cur, h1, _⟩
      · simp at h1
      · simp at h1; omega
    · refine ⟨by simp [hl0], ?_⟩
      rcases h.own.2 with ⟨h1, _⟩ | ⟨g', cap', cur, h1, hb, hh, hn, hc, hs, ht⟩
      · simp at h1
      · simp at h1
        obtain ⟨rfl, _, rfl⟩ := h1
        simp at hn ht hs
        refine .inr ⟨g, cap, cur, rfl, hb, hh, by omega, hc, by simpa using hs, ?_⟩
        have e : (cur.toList.take (op0.length + 1)).take op0.length = (os0 ++ [kv]).take op0.length := by rw [ht]
        rw [List.take_take, Nat.min_eq_left (Nat.le_succ _), ← hl0, List.take_left] at e
        simpa [hl0] using e
    · have := h.kid k (by simp; omega)
      rw [lst_lt hk, kd_lt (by omega)] at this
      exact this
    · refine fun e2 => h.sep j k b (by simp; omega) (by simp; omega) hne (by rw [kd_lt (by omega)]; exact hjb) (by rw [kd_lt (by omega)]; exact e2)
    · have := h.kid op0.length (by simp)
      rw [lst_at, ← hl0, kd_at] at this
      exact this
    · obtain ⟨k, hk, hkb⟩ := hx
      refine h.sep k os0.length b (by simp; omega) (by simp; omega) (by omega) (by rw [kd_lt hk]; exact hkb) ?_
      rw [kd_at]; exact hb
/-- A number appended to the last list. -/
theorem Stk.top {os0 : List Value} {kv kv' : Value} {op0 : List (List Int)} {cs : List Int} {x : Int} {g cap : Nat} (h : Stk w B (.slice (some ⟨g, 0, none⟩) (op0.length + 1) cap) (os0 ++ [kv]) (op0 ++ [cs]))
    (hg : w.grownBy w' kv.ownBlock) (ho : w'.ownsRow B IT 1 kv' (cs.length + 1) (cs.map (Value.int .i64) ++ [.int .i64 x])) (hat : kv'.ownBlock = kv.ownBlock ∨ kv'.ownBlock = some w.heap.size) :
    Stk (w'.setCell ⟨g, op0.length, none⟩ kv') B (.slice (some ⟨g, 0, none⟩) (op0.length + 1) cap) (os0 ++ [kv']) (op0 ++ [cs ++ [x]]) := by
  have hl0 : os0.length = op0.length := by simpa using h.len
  have hkv : w.ownsRow B IT 1 kv cs.length (cs.map (Value.int .i64)) := by
    have := h.kid op0.length (by simp)
    rw [lst_at, ← hl0, kd_at] at this
    exact this
  have hown : w'.ownsRow B OT 1 (.slice (some ⟨g, 0, none⟩) (op0.length + 1) cap) (op0.length + 1) (os0 ++ [kv]) := by
    have h1 := h.own
    simp only [List.length_append, List.length_singleton] at h1
    refine h1.kept hg ?_
    right
    intro e1
    obtain ⟨c, fz, h2⟩ := own_kind hkv g e1.symm
    obtain ⟨c', fz', h4⟩ := own_kind h1 g rfl
    rw [h2] at h4
    simp at h4
    exact absurd h4.2.1 (by decide)
  obtain ⟨s1, s2⟩ := hown.stored op0.length kv'
  have keepIT : ∀ {u : Value} {n : Nat} {xs : List Value}, w'.ownsRow B IT 1 u n xs → (w'.setCell ⟨g, op0.length, none⟩ kv').ownsRow B IT 1 u n xs := by
    intro u n xs hu
    refine hu.kept s2 ?_
    cases hub : u.ownBlock with
    | none => exact .inl rfl
    | some q =>
      right
      intro e1
      have e2 : q = g := Option.some.inj e1
      subst e2
      obtain ⟨c, fz, h2⟩ := own_kind hu q hub
      obtain ⟨c', fz', h4⟩ := own_kind hown q rfl
      rw [h2] at h4
      simp at h4
      exact absurd h4.2.1 (by decide)
  have hset : (os0 ++ [kv]).set op0.length kv' = os0 ++ [kv'] := by rw [← hl0]; simp
  rw [hset] at s1
  refine ⟨by simp [hl0], by simpa using s1, fun k hk => ?_, fun j k b hj hk hne hjb => ?_⟩
  · by_cases e : k = op0.length
    · subst e
      rw [lst_at, show kd (os0 ++ [kv']) op0.length = kv' by rw [← hl0, kd_at]]
      have := keepIT ho
      simpa using this
    · have hlt : k < op0.length := by simp at hk; omega
      rw [lst_lt hlt, kd_lt (by omega)]
      have h1 := h.kid k (by simp; omega)
      rw [lst_lt hlt, kd_lt (by omega)] at h1
      refine keepIT (h1.kept hg ?_)
      cases hub : (kd os0 k).ownBlock with
      | none => exact .inl rfl
      | some q =>
        right
        intro e1
        refine h.sep k os0.length q (by simp; omega) (by simp; omega) (by omega) (by rw [kd_lt (by omega)]; exact hub) ?_
        rw [kd_at]; exact e1.symm
  · simp at hj hk
    have old : ∀ i, i < op0.length → ∀ q, (kd os0 i).ownBlock = some q → kv'.ownBlock ≠ some q := by
      intro i hi q hiq e1
      have hk0 := h.kid i (by simp; omega)
      rw [lst_lt hi, kd_lt (by omega)] at hk0
      have hlt := (hk0.lt q hiq).2
      rcases hat with h1 | h1
      · refine h.sep i os0.length q (by simp; omega) (by simp; omega) (by omega) (by rw [kd_lt (by omega)]; exact hiq) ?_
        rw [kd_at, ← h1]; exact e1
      · rw [e1] at h1
        have := Option.some.inj h1
        omega
    by_cases e : k = op0.length
    · subst e
      rw [← hl0, kd_at]
      rw [kd_lt (by omega)] at hjb
      exact old j (by omega) b hjb
    · by_cases e2 : j = op0.length
      · subst e2
        rw [← hl0, kd_at] at hjb
        rw [kd_lt (by omega)]
        exact fun e3 => old k (by omega) b e3 hjb
      · rw [kd_lt (by omega)] at hjb ⊢
        have := h.sep j k b (by simp; omega) (by simp; omega) hne
        rw [kd_lt (by omega), kd_lt (by omega)] at this
        exact this hjb
theorem nown_top {v : Value} {out : List Nd} {os0 : List Value} {kv kv' : Value} {g m n : Nat} {cap : Nat} {xs ys : List Value} (hN : NOwn w B v out (StX (os0 ++ [kv]))) (hkv : w.ownsRow B IT 1 kv n xs)
    (hO : w.ownsRow B OT 1 (.slice (some ⟨g, 0, none⟩) m cap) m ys) (hg : w.grownBy w' kv.ownBlock) (hat : kv'.ownBlock = kv.ownBlock ∨ kv'.ownBlock = some w.heap.size) (j : Nat) : NOwn (w'.setCell ⟨g, j, none⟩ kv') B v out (StX (os0 ++ [kv'])) := by
  have h1 := hN.weaken (Y := fun b => StX (os0 ++ [kv]) b ∨ kv'.ownBlock = some b) (fun b hb hy => by
    rcases hy with hy | hy
    · exact hy
    · rcases hat with h | h
      · exact ⟨os0.length, by simp, by rw [kd_at, ← h]; exact hy⟩
      · rw [hy] at h; have := Option.some.inj h; omega)
  have h2 := h1.grownX hkv hg (fun b hb => .inl ⟨os0.length, by simp, by rw [kd_at]; exact hb⟩)
  have hg2 : ∃ c fz, w'.heap[g]? = some (.cells c OT fz) := by
    obtain ⟨c, fz, h3⟩ := own_kind hO g rfl
    exact ⟨c, fz, kind_grown h3 hkv (by decide) hg⟩
  obtain ⟨c, fz, h3⟩ := hg2
  refine (h2.setCell (p := ⟨g, j, none⟩) h3 (by decide) (by decide) kv').weaken (fun b _ hy => ?_)
  obtain ⟨k, hk, hkb⟩ := hy
  by_cases e : k = os0.length
  · subst e
    rw [kd_at] at hkb
    exact .inr hkb
  · have hlt : k < os0.length := by simp at hk; omega
    rw [kd_lt hlt] at hkb
    exact .inl ⟨k, by simp; omega, by rw [kd_lt hlt]; exact hkb⟩
end
end Go.Proofs.Ytbdollafpjejiaa

/- slices.SortFunc over a row of lists: the memory. -/
import Derived.Test.YtenmegkokclolaaDoorVfd
import Derived.Shelf.SlSortCmp.Whole1
namespace Go.Proofs.YtenmegkokclolaaDoor
open Go.RowKit
set_option linter.unusedSimpArgs false
set_option linter.unusedVariables false
set_option maxRecDepth 100000

def encV (vals : List Value) (j : Nat) : Value := vals.getD j (.slice none 0 0)
def cfL (ls : List (List Int)) (i j : Nat) : Int := cmpL (rw_ ls i) (rw_ ls j)
theorem lt_cf (ls : List (List Int)) (i j : Nat) : ltOf (cfL ls) i j = decide (cmpL (rw_ ls i) (rw_ ls j) < 0) := rfl
theorem cmpL_not {a b c : List Int} (h1 : ¬ cmpL a b < 0) (h2 : ¬ cmpL b c < 0) : ¬ cmpL a c < 0 := by
  intro h
  by_cases h3 : cmpL c b < 0
  · exact h1 (cmpL_trans h h3)
  · have h4 := cmpL_swap b c
    have h5 : cmpL c b = 0 := by omega
    rw [cmpL_zero h5] at h
    exact h1 h
theorem swo_cf (ls : List (List Int)) : Go.Sort.SWO (ltOf (cfL ls)) where
  irrefl x := by rw [lt_cf, cmpL_refl]; rfl
  trans x y z h1 h2 := by
    rw [lt_cf, decide_eq_true_eq] at *
    exact cmpL_trans h1 h2
  ntrans x y z h1 h2 := by
    rw [lt_cf, decide_eq_false_iff_not] at *
    exact cmpL_not h1 h2

/-- The value u is a slice that holds l, in a block from base on that is not g. -/
def RowOk (W : World) (base g : Nat) (u : Value) (l : List Int) : Prop :=
  ∃ a c, u = .slice a l.length c ∧ l.length ≤ c ∧ c ≤ maxLen ∧ (0 < l.length → ∃ b o, a = some ⟨b, o, none⟩ ∧ base ≤ b ∧ b ≠ g ∧ b < W.heap.size ∧ ∀ j, j < l.length → W.cell? ⟨b, o + j, none⟩ = some (.int .i64 (ix l j)))
theorem rowOk_nil (W : World) (base g : Nat) : RowOk W base g (.slice none 0 0) [] := ⟨none, 0, rfl, by simp, by simp [maxLen], fun h => by simp at h⟩
theorem rowOk_own {W : World} {base g : Nat} {u : Value} {l : List Int} (h : W.ownsRow base 3 1 u l.length (l.map (Value.int .i64))) (hne : u.ownBlock = none ∨ u.ownBlock ≠ some g) : RowOk W base g u l := by
  have hcell := fun (g' : Nat) (e : u.ownBlock = some g') => h.cells e
  rcases h.2 with ⟨rfl, h0⟩ | ⟨b, cap, cur, rfl, hg, hh, hn, hcap, hcs, hx⟩
  · exact ⟨none, 0, by rw [h0], by omega, by simp [maxLen], fun h => by omega⟩
  · refine ⟨_, cap, rfl, hn, hcap, fun h0 => ⟨b, 0, rfl, hg, ?_, (Array.getElem?_eq_some_iff.1 hh).1, fun j hj => ?_⟩⟩
    · rcases hne with e | e
      · simp [Value.ownBlock] at e
      · simpa [Value.ownBlock] using e
    · have := hcell b rfl j (.int .i64 (ix l j)) (by simp [ix, List.getD, List.getElem?_map, List.getElem?_eq_getElem hj])
      simpa [Addr.add_lit] using this
theorem rowOk_heap {W W2 : World} {base g : Nat} {u : Value} {l : List Int} (h : RowOk W base g u l) (hs : W.heap.size ≤ W2.heap.size) (hb : ∀ b, base ≤ b → b ≠ g → b < W.heap.size → W2.heap[b]? = W.heap[b]?) : RowOk W2 base g u l := by
  obtain ⟨a, c, e, h1, h2, hr⟩ := h
  refine ⟨a, c, e, h1, h2, fun h0 => ?_⟩
  obtain ⟨b, o, e2, q1, q2, q3, q4⟩ := hr h0
  refine ⟨b, o, e2, q1, q2, by omega, fun j hj => ?_⟩
  rw [← q4 j hj]
  unfold World.cell?
  rw [hb b q1 q2 q3]
theorem RowOk.nums {W : World} {base g : Nat} {a : Option Addr} {c : Nat} {l : List Int} (h : RowOk W base g (.slice a l.length c) l) : Lst W W.heap.size a c l := by
  obtain ⟨a', c', e, h1, h2, hr⟩ := h
  injection e with e1 e2 e3
  subst e1 e3
  refine ⟨fun h0 => ?_, h1, h2⟩
  obtain ⟨b, o, e2, q1, q2, q3, q4⟩ := hr h0
  exact ⟨b, o, e2, q3, q4⟩

/-- A row at block g of lists that lie elsewhere. -/
structure GRow (W : World) (base g cap : Nat) (ls : List (List Int)) (vals : List Value) : Prop where
  own : W.ownsRow base 22 1 (.slice (some ⟨g, 0, none⟩) ls.length cap) ls.length vals
  len : vals.length = ls.length
  rows : ∀ j, RowOk W base g (encV vals j) (rw_ ls j)
theorem own2_row {W : World} {base : Nat} {v : Value} {ls : List (List Int)} (h : Own2 W base v ls) (h0 : 0 < ls.length) : ∃ g cap vals, v = .slice (some ⟨g, 0, none⟩) ls.length cap ∧ GRow W base g cap ls vals := by
  obtain ⟨vals, ho, hl, hr⟩ := h
  have ho' := ho
  rcases ho.2 with ⟨rfl, e⟩ | ⟨g, cap, cur, rfl, hg, hh, hn, hcap, hcs, hx⟩
  · omega
  · refine ⟨g, cap, vals, rfl, ho', hl, fun j => ?_⟩
    by_cases hj : j < ls.length
    · obtain ⟨u, hu, hou⟩ := hr j hj
      rw [show encV vals j = u by simp [encV, List.getD, hu]]
      refine rowOk_own hou ?_
      rcases rows_ne (by decide) ho' hou with e | e
      · exact .inl e
      · exact .inr (by simpa [Value.ownBlock] using e)
    · rw [show encV vals j = .slice none 0 0 by simp [encV, List.getD, List.getElem?_eq_none (show vals.length ≤ j by omega)], show rw_ ls j = [] by simp [rw_, List.getD, List.getElem?_eq_none (show ls.length ≤ j by omega)]]
      exact rowOk_nil _ _ _
theorem GRow.holds {W : World} {base g cap : Nat} {ls : List (List Int)} {vals : List Value} (h : GRow W base g cap ls vals) : Go.Sort.Holds (encV vals) W g 0 (Array.range ls.length) := by
  intro j hj
  have hj : j < ls.length := by simpa using hj
  have hjv : j < vals.length := by rw [h.len]; exact hj
  have e : (Array.range ls.length)[j]! = j := by rw [getElem!_pos _ j (by simpa using hj)]; simp
  rw [e]
  refine ⟨?_, ?_⟩
  · have := h.own.cells (g := g) rfl j (encV vals j) (by simp [encV, List.getD, List.getElem?_eq_getElem hjv])
    simpa [Addr.add_lit] using this
  · rcases h.own.2 with ⟨e, _⟩ | ⟨g', cap', cur, e, hg, hh, hn, hcap, hcs, hx⟩
    · cases e
    · injection e with e1 e2 e3
      injection e1 with e1
      injection e1 with e1
      subst e1
      unfold World.frozen?
      simp only [Nat.zero_add]
      rw [hh]
      simp
theorem GRow.lt {W : World} {base g cap : Nat} {ls : List (List Int)} {vals : List Value} (h : GRow W base g cap ls vals) : base ≤ g ∧ g < W.heap.size := h.own.lt g rfl

theorem heap_sort {α : Type} [Inhabited α] (enc : α → Value) (W : World) (g m : Nat) (d : Array α) (os : Array Obj) {b : Nat} (hb : b ≠ g) (hs : b < W.heap.size) : (sortWorld enc W g 0 m d os).heap[b]? = W.heap[b]? := by
  unfold sortWorld
  rw [Go.Sort.heap_grow_old _ _ (by simpa using hs)]
  unfold Go.Sort.putRow Go.Sort.mapBlock
  simp only [Go.Sort.heap_ahead]
  rw [Array.getElem?_modify, if_neg (fun e => hb e.symm)]
theorem size_sort {α : Type} [Inhabited α] (enc : α → Value) (W : World) (g m : Nat) (d : Array α) (os : Array Obj) : W.heap.size ≤ (sortWorld enc W g 0 m d os).heap.size := by
  unfold sortWorld
  simp
theorem below_sort {α : Type} [Inhabited α] (enc : α → Value) (W : World) (g m : Nat) (d : Array α) (os : Array Obj) {B : Nat} (hB : B ≤ g) (hs : B ≤ W.heap.size) : Below B W (sortWorld enc W g 0 m d os) :=
  ⟨rfl, rfl, rfl, size_sort _ _ _ _ _ _, fun k hk => heap_sort _ _ _ _ _ _ (by omega) (by omega)⟩

theorem GRow.lays {W : World} {base g cap : Nat} {ls : List (List Int)} {vals : List Value} (h : GRow W base g cap ls vals) : CmpLays1 Tryd.prog 33 #[] (encV vals) (cfL ls) g 0 (Array.range ls.length).size W := by
  intro m os dk _ x y
  have hx := rowOk_heap (h.rows x) (size_sort (encV vals) W g m dk os) (fun b _ q1 q2 => heap_sort (encV vals) W g m dk os q1 q2)
  have hy := rowOk_heap (h.rows y) (size_sort (encV vals) W g m dk os) (fun b _ q1 q2 => heap_sort (encV vals) W g m dk os q1 q2)
  obtain ⟨a1, c1, e1, _⟩ := hx
  have hx := rowOk_heap (h.rows x) (size_sort (encV vals) W g m dk os) (fun b _ q1 q2 => heap_sort (encV vals) W g m dk os q1 q2)
  obtain ⟨a2, c2, e2, _⟩ := hy
  have hy := rowOk_heap (h.rows y) (size_sort (encV vals) W g m dk os) (fun b _ q1 q2 => heap_sort (encV vals) W g m dk os q1 q2)
  rw [e1] at hx ⊢
  rw [e2] at hy ⊢
  refine (compare_any a1 a2 c1 c2 (rw_ ls x) (rw_ ls y) _ hx.nums.nums hy.nums.nums hx.nums.len hy.nums.len).mono ?_
  rintro e w' ⟨he, hw⟩
  exact ⟨he, 0, #[], by rw [← hw, Go.Sort.grow_empty]; rfl⟩

/-- Behind the sort: the same lists, in order. -/
theorem sorted_row {W : World} {base g cap : Nat} {ls : List (List Int)} {vals : List Value} (h : GRow W base g cap ls vals) {d' : Array Nat} {n : Nat} {os : Array Obj}
    (hp : Go.Sort.PermIn 0 (Array.range ls.length).size (Array.range ls.length) d') (hs : Go.Sort.SortedIn (ltOf (cfL ls)) 0 (Array.range ls.length).size d') :
    ∃ ls' : List (List Int), ls'.length = ls.length ∧ ls'.Perm ls ∧ ls'.Pairwise (fun a b => ¬ cmpL b a < 0) ∧ Fresh2 (sortWorld (encV vals) W g 0 n d' os) base (.slice (some ⟨g, 0, none⟩) ls.length cap) ls' := by
  have hsz : d'.size = ls.length := by have := hp.1; simpa using this
  have hperm : d'.toList.Perm (List.range ls.length) := by
    have h1 := hp.2.2
    have e1 : d'.extract 0 ls.length = d' := by rw [← hsz]; simp
    have e2 : (Array.range ls.length).extract 0 ls.length = Array.range ls.length := by simp
    rw [Array.size_range, e1, e2, Array.toList_range] at h1
    exact h1
  have hlen : (d'.toList.map (rw_ ls)).length = ls.length := by simp [hsz]
  have hat : ∀ k, k < ls.length → rw_ (d'.toList.map (rw_ ls)) k = rw_ ls d'[k]! := by
    intro k hk
    simp [rw_, List.getD, List.getElem?_map, hsz, hk]
  refine ⟨d'.toList.map (rw_ ls), hlen, ?_, ?_, ?_⟩
  · have h1 := hperm.map (rw_ ls)
    have h2 : (List.range ls.length).map (rw_ ls) = ls := by
      apply List.ext_getElem (by simp)
      intro i h1 h2
      simp [rw_, List.getD, List.getElem?_eq_getElem h2]
    rwa [h2] at h1
  · rw [List.pairwise_iff_getElem]
    intro i j hi hj hij
    have hi' : i < ls.length := by simpa [hsz] using hi
    have hj' : j < ls.length := by simpa [hsz] using hj
    have q := hs i j (by omega) hij (by simpa using hj')
    rw [lt_cf, decide_eq_false_iff_not] at q
    have e1 := hat i hi'
    have e2 := hat j hj'
    simp only [rw_, List.getD, List.getElem?_eq_getElem hi, List.getElem?_eq_getElem hj, Option.getD_some] at e1 e2
    rw [e1, e2]
    exact q
  · intro W2 hW hsW
    have hlt := h.lt
    have hown := h.own
    have hcm : ls.length ≤ cap ∧ cap ≤ maxLen := by
      rcases hown.2 with ⟨e, _⟩ | ⟨g', cap', cur, e, hg, hh, hn, hcap, hcs, hx⟩
      · cases e
      · injection e with e1 e2 e3
        subst e3
        exact ⟨hn, hcap⟩
    have hz := size_sort (encV vals) W g n d' os
    refine ⟨_, cap, by rw [hlen], fun h0 => ⟨g, 0, rfl, by omega, fun k hk => ?_⟩, by rw [hlen]; exact hcm.1, hcm.2⟩
    have hk' : k < ls.length := by rw [hlen] at hk; exact hk
    rw [hat k hk']
    have hR : RowOk W2 base g (encV vals d'[k]!) (rw_ ls d'[k]!) := rowOk_heap (h.rows _) (by omega) (fun b q0 q1 q2 => by
      rw [hW b q0 (by omega)]
      exact heap_sort _ _ _ _ _ _ q1 q2)
    obtain ⟨a1, c1, e1, _⟩ := id hR
    refine ⟨a1, c1, ?_, ?_⟩
    · have hc := (Go.Sort.holds_grow (encV vals) _ os g 0 d' (by simpa using hlt.2) (Go.Sort.holds_putRow (encV vals) (Go.Sort.ahead W n) g 0 _ d' (Go.Sort.holds_ahead _ _ _ _ _ _ h.holds) (by simp [hsz]))) k (by omega)
      have hc1 := hc.1
      rw [e1] at hc1
      unfold World.cell? at hc1 ⊢
      rw [hW g hlt.1 (by omega)]
      exact hc1
    · rw [e1] at hR
      have := hR.nums
      exact ⟨this.nums, this.le, this.max⟩
end Go.Proofs.YtenmegkokclolaaDoor

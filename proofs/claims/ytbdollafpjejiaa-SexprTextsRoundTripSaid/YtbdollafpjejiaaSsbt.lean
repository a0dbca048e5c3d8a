/- The closure of Subtrees, which keeps the starts of the nodes before. -/
import Derived.Test.YtbdollafpjejiaaSnode
import Derived.Deep.OwnRows
import Derived.Laws.AppendOwn
import Derived.Below
namespace Go.Proofs.Ytbdollafpjejiaa
open Go.RowKit
set_option linter.unusedSimpArgs false
set_option linter.unusedVariables false
set_option maxRecDepth 100000

theorem info_i : (Try.prog.info? 3).map (fun i => (i.zero, i.size, i.bytes)) = some (some (.int .i64 0), 1, 8) := by kernel_rfl
/-- The box g holds the numbers T in a row of its own at or behind base. -/
structure SEnv (w : World) (base g : Nat) (T : List Int) : Prop where
  ex : ∃ v, One w g v ∧ w.ownsRow base 3 1 v T.length (T.map (Value.int .i64))
  lt : g < base
  le : base ≤ w.heap.size
theorem SEnv.to {w w' : World} {base g : Nat} {T : List Int} (h : SEnv w base g T) (hb : Below w.heap.size w w') : SEnv w' base g T := by
  obtain ⟨v, h1, h2⟩ := h.ex
  refine ⟨⟨v, h1.to hb h1.lt, h2.1, ?_⟩, h.lt, Nat.le_trans h.le hb.size⟩
  rcases h2.2 with h0 | ⟨g', cap, cur, rfl, hb', hgg, h3⟩
  · exact .inl h0
  · exact .inr ⟨g', cap, cur, rfl, hb', by rw [hb.block g' (Array.getElem?_eq_some_iff.1 hgg).1]; exact hgg, h3⟩
theorem SEnv.set {w : World} {base g : Nat} {T : List Int} (h : SEnv w base g T) {a : Addr} (ha : a.block ≠ g) (hb : a.block < base) (u : Value) : SEnv (w.setCell a u) base g T := by
  obtain ⟨v, h1, h2⟩ := h.ex
  exact ⟨⟨v, h1.far ha u, ownsRow_setCell_below h2 hb u⟩, h.lt, by simpa using h.le⟩
theorem SEnv.drew {w : World} {base g : Nat} {T : List Int} (h : SEnv w base g T) : SEnv w.drew base g T := by
  obtain ⟨v, h1, h2⟩ := h.ex
  exact ⟨⟨v, one1 h1, h2⟩, h.lt, h.le⟩
theorem own_nums {w : World} {base : Nat} {v : Value} {T : List Int} (h : w.ownsRow base 3 1 v T.length (T.map (Value.int .i64))) : ∃ A c, v = .slice A T.length c ∧ Nums w w.heap.size A T := by
  rcases h.2 with ⟨rfl, h0⟩ | ⟨g, cap, cur, rfl, hb, hgg, hn, hm, hs, htake⟩
  · exact ⟨none, 0, by rw [h0], fun h1 => by omega⟩
  · refine ⟨some ⟨g, 0, none⟩, cap, rfl, fun _ => ⟨g, 0, rfl, (Array.getElem?_eq_some_iff.1 hgg).1, fun k hk => ?_⟩⟩
    have h1 := h.cells (g := g) rfl k (.int .i64 (ix T k)) (by simp [ix, List.getD, hk])
    have hadd : (⟨g, 0, none⟩ : Addr).add k = ⟨g, k, none⟩ := by unfold Addr.add; split <;> simp_all
    rw [hadd] at h1
    simpa using h1
theorem own_is {w : World} {base : Nat} {e : TypeId} {size n : Nat} {v : Value} {xs : List Value} (h : w.ownsRow base e size v n xs) : ∃ A c, v = .slice A n c := by
  rcases h.2 with ⟨rfl, rfl⟩ | ⟨g, cap, cur, rfl, _⟩
  · exact ⟨none, 0, rfl⟩
  · exact ⟨_, _, rfl⟩
theorem One.of_block {w w' : World} {g : Nat} {x : Value} (h : One w g x) (e : w'.heap[g]? = w.heap[g]?) (hs : w.heap.size ≤ w'.heap.size) : One w' g x :=
  ⟨Nat.lt_of_lt_of_le h.lt hs, (World.cell?_of_block e).trans h.fst, (World.frozen?_of_block e).trans h.ffst⟩

def SPost (base g : Nat) (T C : List Int) (w : World) (e : Ending) (w' : World) : Prop :=
  e = .returned (.tuple #[.int .i64 ((startOf T C).getD 0), .bool (startOf T C).isSome]) ∧ SEnv w' base g (T ++ [(startOf T C).getD 0]) ∧ Below g w w' ∧ (∀ k, g < k → k < base → w'.heap[k]? = w.heap[k]?) ∧ ∀ k o, w.heap[k]? = some o → k ≠ g → (¬ ∃ cur, o = .cells cur 3 (0, 0)) → w'.heap[k]? = some o
theorem spost_mk {w w6 : World} {base g : Nat} {T C : List Int} {v v' : Value} (o : Obj) (hE : SEnv w base g T) (hO : One w g v) (hown : w.ownsRow base 3 1 v T.length (T.map (Value.int .i64)))
    (h6 : w6.ownsRow base 3 1 v' (T.length + 1) (T.map (Value.int .i64) ++ [.int .i64 ((startOf T C).getD 0)])) (hg : (w.alloc o).grownBy w6 v.ownBlock) :
    SPost base g T C w (.returned (.tuple #[.int .i64 ((startOf T C).getD 0), .bool (startOf T C).isSome])) (w6.setCell ⟨g, 0, none⟩ v') := by
  have hgb := hE.lt
  have hle := hE.le
  have hs6 : w.heap.size + 1 ≤ w6.heap.size := by have := hg.size; simpa using this
  have hne : ∀ k, k < base → some k ≠ v.ownBlock := fun k hk e => by have := (hown.lt k e.symm).1; omega
  have hblk : ∀ k, k < base → w6.heap[k]? = w.heap[k]? := fun k hk => (hg.block k (by simp; omega) (hne k hk)).trans (heap_alloc_old _ _ (by omega))
  refine ⟨rfl, ⟨⟨v', (hO.of_block (hblk g hgb) (by omega)).set v', ?_⟩, hgb, by simp; omega⟩, ?_, fun k h1 h2 => ?_, fun k o' ho hk hno => ?_⟩
  · refine ownsRow_setCell_below ?_ hgb _
    simpa using h6
  · exact (((Below.refl g w).alloc (by omega) o).grown hg (by simp; omega) (fun k hk => by have := (hown.lt k hk).1; omega)).setCell (Nat.le_refl _) _
  · rw [Below.heap_setCell _ _ _ _ (by show k ≠ g; omega)]
    exact hblk k h2
  · have hk2 : k < w.heap.size := (Array.getElem?_eq_some_iff.1 ho).1
    rw [Below.heap_setCell _ _ _ _ (by show k ≠ g; omega)]
    refine (hg.block k (by simp; omega) (fun e => ?_)).trans ((heap_alloc_old _ _ hk2).trans ho)
    rcases hown.2 with ⟨rfl, _⟩ | ⟨g', cap, cur, rfl, _, hgg, _⟩
    · cases e
    · have e2 : k = g' := by simpa [Value.ownBlock] using e
      subst e2
      rw [hgg] at ho
      exact hno ⟨cur, (Option.some.inj ho).symm⟩

set_option maxHeartbeats 1000000 in
theorem sub1_any (A : Option Addr) (c : Nat) (C T : List Int) (base g : Nat) (w : World) (hS : Starts T) (hE : SEnv w base g T) (hN : Nums w w.heap.size A C) (hT : T.length ≤ 300) (hC : C.length ≤ maxLen) :
    Calls Try.prog 33 #[.slice A C.length c, .pointer (some ⟨g, 0, none⟩)] w (SPost base g T C w) := by
  obtain ⟨v, hO, hown⟩ := hE.ex
  obtain ⟨A1, c1, rfl, hN1⟩ := own_nums hown
  have HSub := Lib.hid (subtree_any A1 A c1 c T C w hS hN1 hN (by unfold maxLen; omega) hC)
  have HE := Lib.hid hE
  have HO := Lib.hid hO
  obtain ⟨_, k0, kf0⟩ := hO
  have HTL := Lib.hid hT
  obtain ⟨i0, hi, hz0, hz1, hz2⟩ := info_parts info_i
  clear hS hE hN hN1
  go_enter Try.func33, Try.ntmps33
  go_wp2_with (first
    | (go_at_call 34; refine HSub.out.mono ?_; rintro e w5 ⟨rfl, rfl⟩)
    | (at_builtin; refine wpList_append_own _ rfl _ _ 35 rfl base 3 i0 (.int .i64 0) 1 8 Try.underlying35 hi hz0 hz1 hz2 rfl (by decide) _ _ _ rfl (hown.alloc _) ⟨w.heap.size, 0, none⟩ 1 1 [.int .i64 ((startOf T C).getD 0)] rfl rfl ?c1 ?c2 ?c3 ?c4 ?c5 ?_))
  case c1 => exact cell_one_new _ _ _
  case c2 => simp [Value.oneCell']
  case c3 => have := HTL.out; unfold maxLen; omega
  case c4 => omega
  case c5 => have := HE.out.le; simp; omega
  intro v' w6 hown6 hgrow _
  obtain ⟨A6, c6, rfl⟩ := own_is hown6
  have hne : some g ≠ (Value.slice A1 T.length c1).ownBlock := fun e => by have := (hown.lt g e.symm).1; have := HE.out.lt; omega
  have hsz := hgrow.size
  have hO6 := ((HO.out.alloc (.cells #[.int .i64 ((startOf T C).getD 0)] 3)).of_block (hgrow.block g (by have := HO.out.lt; simp; omega) hne) hgrow.size)
  have HP := Lib.hid (spost_mk _ HE.out HO.out hown hown6 hgrow)
  obtain ⟨_, e0, ef0⟩ := hO6
  clear hown6 hgrow hown hsz hne
  go_wp2
  go_ret2
  exact HP.out

theorem subs_any (w : World) : Calls Try.prog 26 #[] w fun e w' => e = .returned (.func (.func 33) #[] #[.pointer (some ⟨w.heap.size, 0, none⟩)]) ∧ w' = w.alloc (.cells #[.slice none 0 0] 35) := by
  go_enter Try.func26, Try.ntmps26
  go_wp2
  go_ret
  exact ⟨rfl, rfl⟩
end Go.Proofs.Ytbdollafpjejiaa

/- Package encode: Cover. -/
import Derived.Test.YtiaobanloakplaaDoorEch
namespace Go.Proofs.YtiaobanloakplaaDoor
open Go.RowKit
set_option linter.unusedSimpArgs false
set_option linter.unusedVariables false
set_option maxRecDepth 100000

/-- The variables of Cover: u0 stands for the classes (the row of v), and what they cover. -/
structure CvS (U W : World) (u0 v : Value) (cs : List (List Int)) (u : List Int) : Prop where
  below : Below U.heap.size U W
  lt : U.heap.size + 1 < W.heap.size
  c7 : W.cell? ⟨U.heap.size, 0, none⟩ = some u0
  f7 : W.frozen? ⟨U.heap.size, 0, none⟩ = false
  c8 : W.cell? ⟨U.heap.size + 1, 0, none⟩ = some (.int .u64 (mask u))
  f8 : W.frozen? ⟨U.heap.size + 1, 0, none⟩ = false
  row : ListsR W (U.heap.size + 2) v cs
section
variable {U W W2 : World} {u0 v v2 : Value} {cs cs2 : List (List Int)} {u u2 : List Int}
theorem CvS.to (h : CvS U W u0 v cs u) (hb : Below W.heap.size W W2) : CvS U W2 u0 v cs u := by
  have hl := h.lt
  exact ⟨h.below.trans (hb.mono (by omega)), Nat.lt_of_lt_of_le h.lt hb.size, cell_to h.c7 hb, (hb.frozen (p := ⟨U.heap.size, 0, none⟩) (show U.heap.size < _ by omega)).trans h.f7, cell_to h.c8 hb, (hb.frozen (p := ⟨U.heap.size + 1, 0, none⟩) hl).trans h.f8, h.row.to hb⟩
theorem CvS.app (h : CvS U W u0 v cs u) (hg : W.grownBy W2 v.ownBlock) (hr : ListsR W2 (U.heap.size + 2) v2 cs2) : CvS U W2 u0 v2 cs2 u := by
  have hl := h.lt
  obtain ⟨xs, hx⟩ := h.row
  have hn : ∀ b, b < U.heap.size + 2 → some b ≠ v.ownBlock := fun b hb e => by have := (hx.lt b e.symm).1; omega
  exact ⟨h.below.grown hg (by omega) (fun k hk => by have := (hx.lt k hk).1; omega), Nat.lt_of_lt_of_le hl hg.size, hg.cell h.c7 (hn U.heap.size (by omega)), (hg.frozen_far ⟨U.heap.size, 0, none⟩ (show U.heap.size < _ by omega) (hn U.heap.size (by omega))).trans h.f7, hg.cell h.c8 (hn (U.heap.size + 1) (by omega)), (hg.frozen_far ⟨U.heap.size + 1, 0, none⟩ hl (hn (U.heap.size + 1) (by omega))).trans h.f8, hr⟩
theorem CvS.put7 (h : CvS U W u0 v cs u) : CvS U (W.setCell ⟨U.heap.size, 0, none⟩ v) v v cs u := by
  refine ⟨h.below.setCell (by simp) _, by simpa [World.setCell] using h.lt, World.cell?_setCell_same' _ _ _ (by rw [h.c7]; rfl), by rw [World.frozen?_setCell]; exact h.f7, ?_, by rw [World.frozen?_setCell]; exact h.f8, h.row.far (by simp) _⟩
  rw [World.cell?_setCell_other _ _ _ _ (by simp)]; exact h.c8
theorem CvS.put8 (h : CvS U W u0 v cs u) : CvS U (W.setCell ⟨U.heap.size + 1, 0, none⟩ (.int .u64 (mask u2))) u0 v cs u2 := by
  refine ⟨h.below.setCell (by simp) _, by simpa [World.setCell] using h.lt, ?_, by rw [World.frozen?_setCell]; exact h.f7, World.cell?_setCell_same' _ _ _ (by rw [h.c8]; rfl), by rw [World.frozen?_setCell]; exact h.f8, h.row.far (by simp) _⟩
  rw [World.cell?_setCell_other _ _ _ _ (by simp)]; exact h.c7
end
theorem mask_zero {l : List Int} (h : IsS l 24) : ((mask l : Int) != 0) = !decide (l = []) := by
  by_cases e : l = []
  · subst e; rfl
  · rw [decide_eq_false e]
    have : mask l ≠ 0 := fun h0 => e (by have h1 := els_mask h; rw [h0, els_zero] at h1; exact h1.symm)
    simpa using this
/-- What add makes of the classes and of what they cover. -/
def addR (g : List Int) (r : List (List Int) × List Int) : List (List Int) × List Int := if difL g r.2 = [] then r else (r.1 ++ [difL g r.2], uniL r.2 (difL g r.2))
theorem covN_add (L : List (List Int)) (n : Nat) : covN L (n + 1) = addR (rw_ L n) (covN L n) := rfl
def AddP (U : World) (cs : List (List Int)) (u : List Int) (e : Ending) (w' : World) : Prop := ∃ r v, e = .returned r ∧ CvS U w' v v cs u
set_option maxHeartbeats 4000000 in
theorem add_any (g u : List Int) (cs : List (List Int)) (v : Value) (U w : World) (hg : IsS g 24) (hu : IsS u 24) (hcl : cs.length ≤ 48) (hC : CvS U w v v cs u) (hT : TabIn w) :
    Calls Tryd.prog 38 #[.int .u64 (mask g), .pointer (some ⟨U.heap.size + 1, 0, none⟩), .pointer (some ⟨U.heap.size, 0, none⟩)] w (AddP U (addR g (cs, u)).1 (addR g (cs, u)).2) := by
  have HD : bits .andNot .u64 (mask g : Int) (mask u : Int) = (mask (difL g u) : Int) := dif_bits hg hu
  have HE : bits .or .u64 (mask u : Int) (mask (difL g u) : Int) = (mask (uniL u (difL g u)) : Int) := uni_bits hu (difL_isS g u)
  have HN := mask_zero (difL_isS g u)
  have HC := Lib.hid hC
  by_cases hd : difL g u = []
  · have H := Lib.hid (show addR g (cs, u) = (cs, u) by unfold addR; rw [if_pos hd])
    rw [decide_eq_true hd] at HN
    simp only [Bool.not_true] at HN
    obtain ⟨_, hl, c7, f7, c8, f8, _⟩ := hC
    clear hT hd HE
    go_enter Tryd.func38, Tryd.ntmps38
    go_wp2
    go_end0
    rw [H.out]
    exact ⟨_, v, rfl, HC.out⟩
  have H := Lib.hid (show addR g (cs, u) = (cs ++ [difL g u], uniL u (difL g u)) by unfold addR; rw [if_neg hd])
  rw [decide_eq_false hd] at HN
  simp only [Bool.not_false] at HN
  obtain ⟨_, hl, c7, f7, c8, f8, hrow⟩ := hC
  obtain ⟨xs, hx⟩ := hrow
  have HX := Lib.hid hx
  have HEL := Lib.hid (els_mask (difL_isS g u))
  have HLI := Lib.hid (list_any (mask (difL g u)) (mask_lt64 (difL_isS g u)) w.drew (hT.to (Below.refl _ _).drew (Nat.le_refl _)))
  have HC0 := Lib.hid (HC.out.to (Below.refl _ _).drew)
  obtain ⟨l0, hli, hlz0, hlz1, hlz2⟩ := info_parts info_sl
  clear hd hx hT
  go_enter Tryd.func38, Tryd.ntmps38
  go_wp2
  refine wp_region_F (S := (fun V => V.cell? ⟨U.heap.size, 0, none⟩ = some v ∧ V.frozen? ⟨U.heap.size, 0, none⟩ = false)) 5 (by kernel_rfl) ?_ (fun hHeld => ?_)
  · exact ⟨HC0.out.c7, HC0.out.f7⟩
  refine wpAnyF_take (i := 0) (oi := _) (v := ?zv1) rfl (by kernel_rfl) (by kernel_rfl) (by kernel_rfl) (by kernel_rfl) (by kernel_rfl) (by kernel_rfl) (by kernel_rfl) (by kernel_rfl) (fun _ _ _ h => h) (Or.inl ⟨by rfl, ?zy1⟩) (by assumption) ?zr1
  case zy1 => (intro w hSw; (try dsimp only at hSw); go_simp; try (with_reducible rfl))
  try simp only [Act.put, List.setIfInBounds_toArray, List.set_cons_zero, List.set_cons_succ]
  refine wpAnyF_take (i := 1) (oi := _) (v := ?zv2) rfl (by kernel_rfl) (by kernel_rfl) (by kernel_rfl) (by kernel_rfl) (by kernel_rfl) (by kernel_rfl) (by kernel_rfl) (by kernel_rfl) (fun _ _ _ h => h) (Or.inl ⟨by rfl, ?zy2⟩) (by assumption) ?zr2
  case zy2 => (intro w hSw; (try dsimp only at hSw); go_simp; try (with_reducible rfl))
  try simp only [Act.put, List.setIfInBounds_toArray, List.set_cons_zero, List.set_cons_succ]
  refine wpAnyF_one (i := 2) (o := _) (by kernel_rfl) rfl (fun ZK3 hZK3 => ?_)
  go_simp; (go_at_call 39; (with_reducible refine HLI.out.mono ?_); rintro e w1 ⟨v1, rfl, ho1, hb1⟩; rw [HEL.out] at ho1; have hs1 := slL_own ho1; obtain ⟨a1, c1, rfl, _⟩ := hs1; have HON := Lib.hid (slL_on ho1); have HC1 := Lib.hid (HC0.out.to hb1); have HB1 := Lib.hid hb1; have hz1 := hb1.size; clear hb1 ho1)
  refine hZK3.out _ _ ?_ (fun hHeld => ?_)
  · exact ⟨HC1.out.c7, HC1.out.f7⟩
  clear hZK3 ZK3
  try simp only [Act.put, List.setIfInBounds_toArray, List.set_cons_zero, List.set_cons_succ]
  have hb2 : Below w1.heap.size w1 (World.alloc w1 (.cells #[.slice a1 (difL g u).length c1] 22)) := (Below.refl _ _).alloc (Nat.le_refl _) _
  have HC2 := Lib.hid (HC1.out.to hb2)
  have HG2 := Lib.hid (((HX.out.to (Below.refl _ _).drew).to HB1.out).to hb2)
  have HON2 := Lib.hid ((HON.out.below hb2 (fun b q => q.2)).imp (fun b q => (⟨Nat.le_trans hl q.1, Nat.lt_of_lt_of_le q.2 hb2.size, fun e => absurd (HX.out.lt b e).2 (Nat.not_lt.2 q.1)⟩ : Rx (U.heap.size + 2) ((World.alloc w1 (.cells #[.slice a1 (difL g u).length c1] 22))).heap.size v b)))
  clear hb2
  refine wpAnyF_one (i := 3) (o := _) (by kernel_rfl) rfl (fun ZK4 hZK4 => ?_)
  go_simp
  refine hZK4.out _ _ ?_ (fun hHeld => ?_)
  · exact ⟨HC2.out.c7, HC2.out.f7⟩
  clear hZK4 ZK4
  try simp only [Act.put, List.setIfInBounds_toArray, List.set_cons_zero, List.set_cons_succ]
  refine wpAnyF_one (i := 4) (o := _) (by kernel_rfl) rfl (fun ZK5 hZK5 => ?_)
  (refine step_append_lies _ (by rfl) _ _ _ (by rfl) (U.heap.size + 2) 22 l0 (.slice none 0 0) 1 24 Tryd.underlying26 hli hlz0 hlz1 hlz2 rfl (by omega) v cs.length xs (by rfl) ?_ _ 1 1 [.slice a1 (difL g u).length c1] (by rfl) (by rfl) ?_ (by simp [Value.oneCell']) (by omega) (by unfold maxLen; omega) (by omega) ?_ _ rfl ?_; (exact HG2.out.own); (exact cell_one_new _ _ _); (have := HC2.out.lt; omega); intro gg cap wA hown1 hgrow hat hlt1; have HL2 := Lib.hid (listsR_app HG2.out HON2.out hown1 hgrow (by rcases hat with e | e; exact .inl e.symm; exact .inr (by rw [e]; rfl))); have HA := Lib.hid (HC2.out.app hgrow HL2.out); clear hown1 hgrow hat)
  refine hZK5.out _ _ ?_ (fun hHeld => ?_)
  · exact ⟨HA.out.c7, HA.out.f7⟩
  clear hZK5 ZK5
  try simp only [Act.put, List.setIfInBounds_toArray, List.set_cons_zero, List.set_cons_succ]
  refine wpAnyF_end (o := _) (by kernel_rfl) rfl (by kernel_rfl) (fun ZK6 hZK6 => ?_)
  go_simp
  refine hZK6.out _ _ ?_
  clear hZK6 ZK6
  try simp only [Act.put, List.setIfInBounds_toArray, List.set_cons_zero, List.set_cons_succ]
  have HP := Lib.hid HA.out.put7
  have hc8 := HP.out.c8
  have hf8 := HP.out.f8
  go_wp2
  go_end0
  rw [H.out]
  exact ⟨_, _, rfl, HP.out.put8⟩
end Go.Proofs.YtiaobanloakplaaDoor

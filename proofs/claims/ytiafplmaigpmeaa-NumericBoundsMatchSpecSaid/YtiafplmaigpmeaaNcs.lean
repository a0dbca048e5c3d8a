/- The closed example of the laws over package numeric. -/
import Derived.Test.YtiafplmaigpmeaaNcx
namespace Go.Proofs.Ytiafplmaigpmeaa
open Go.RowKit
set_option linter.unusedSimpArgs false
set_option linter.unusedVariables false
set_option maxRecDepth 100000

def prlS (a : Option Addr) (c : Nat) (b : List (Int × Int)) : SP := ⟨fun W => PrL W W.heap.size a c b, fun _ _ hb h => h.to hb hb.size⟩
theorem lst_new1 (w : World) (z : Int) : Lst (w.alloc (.cells #[.int .i64 z] 3)) (w.alloc (.cells #[.int .i64 z] 3)).heap.size (some ⟨w.heap.size, 0, none⟩) 1 [z] := lst_cell (by simp) (by simp) (by omega) (by simp [maxLen])
theorem al_b (w : World) (o : Obj) : Below w.heap.size w (w.alloc o) := (Below.refl _ _).alloc (Nat.le_refl _) _
section
variable {x : NT} {w : World} {g : Nat}
theorem ap_ex (hA : NaC) (hx : IsCt x) (hin : ∀ V, Below w.heap.size w V → NTIn V V.heap.size x) (hg : g = w.heap.size) :
    Calls Try.prog 18 #[.agg #[.slice x.ai x.init.length x.ci, .slice x.ag x.goal.length x.cg, .slice x.ao x.ops.length x.co], .slice (some ⟨g, 0, none⟩) 1 1, .int .i64 0] (w.alloc (.cells #[.int .i64 3] 3)) fun e w' => ∃ a c, e = .returned (.tuple #[.slice a 1 c, .agg #[.int .i64 0, .int .i64 0]]) ∧ Lst w' w'.heap.size a c [7] ∧ Below w.heap.size w w' := by
  subst hg
  have hb := al_b w (.cells #[.int .i64 3] 3)
  have h := hA x (some ⟨w.heap.size, 0, none⟩) 1 [3] 0 _ (hin _ hb) (lst_new1 w 3) (by intro h; cases h)
  rw [(ct1 hx).1, (ct1 hx).2] at h
  refine h.mono fun e w' ⟨v, he, ho, hb2⟩ => ?_
  obtain ⟨a, c, rfl, hl, _⟩ := own_lst ho
  exact ⟨a, c, he, hl, hb.trans (hb2.mono hb.size)⟩
theorem so_ex1 (hS : NsC) (hx : IsCt x) (hin : ∀ V, Below w.heap.size w V → NTIn V V.heap.size x) (hg : g = w.heap.size) :
    Calls Try.prog 12 #[.agg #[.slice x.ai x.init.length x.ci, .slice x.ag x.goal.length x.cg, .slice x.ao x.ops.length x.co], .slice (some ⟨g, 0, none⟩) 1 1] (w.alloc (.cells #[.int .i64 0] 3)) fun e w' => e = .returned (.tuple #[.bool true, .agg #[.int .i64 0, .int .i64 0]]) ∧ Below w.heap.size w w' := by
  subst hg
  have hb := al_b w (.cells #[.int .i64 0] 3)
  have h := hS x (some ⟨w.heap.size, 0, none⟩) 1 [0] _ (hin _ hb) (lst_new1 w 0)
  rw [(ct2 hx).1, (ct2 hx).2] at h
  exact h.mono fun e w' ⟨he, hb2⟩ => ⟨he, hb.trans (hb2.mono hb.size)⟩
theorem so_ex2 (hS : NsC) (hx : IsCt x) (hin : ∀ V, Below w.heap.size w V → NTIn V V.heap.size x) :
    Calls Try.prog 12 #[.agg #[.slice x.ai x.init.length x.ci, .slice x.ag x.goal.length x.cg, .slice x.ao x.ops.length x.co], .slice none 0 0] w fun e w' => e = .returned (.tuple #[.bool false, .agg #[.int .i64 0, .int .i64 0]]) ∧ Below w.heap.size w w' := by
  have h := hS x none 0 [] _ (hin _ (Below.refl _ _)) (lst_nil _ _)
  rw [(ct3 hx).1, (ct3 hx).2] at h
  exact h
theorem bd_ex (hB : NbC) (hx : IsCt x) (hin : ∀ V, Below w.heap.size w V → NTIn V V.heap.size x) :
    Calls Try.prog 21 #[.agg #[.slice x.ai x.init.length x.ci, .slice x.ag x.goal.length x.cg, .slice x.ao x.ops.length x.co], .int .i64 1] w fun e w' => ∃ a c, e = .returned (.tuple #[.slice a 1 c, .agg #[.int .i64 0, .int .i64 0]]) ∧ PrL w' w'.heap.size a c [(3, 7)] ∧ Below w.heap.size w w' := by
  have h := hB x 1 _ (hin _ (Below.refl _ _))
  rw [(ct4 hx).1, (ct4 hx).2] at h
  exact h.mono fun e w' ⟨a, c, he, hl, hb2⟩ => ⟨a, c, he, hl, hb2⟩
theorem in_ex {a : Option Addr} {c : Nat} (hl : Lst w w.heap.size a c [7]) (hg : g = w.heap.size) :
    Calls Try.prog 19 #[.slice a 1 c, .slice (some ⟨g, 0, none⟩) 1 1] (w.alloc (.cells #[.int .i64 7] 3)) fun e w' => e = .returned (.bool true) ∧ Below w.heap.size w w' := by
  subst hg
  have hb := al_b w (.cells #[.int .i64 7] 3)
  exact (ints_same a _ c 1 [7] [7] rfl _ (hl.to hb hb.size) (lst_new1 w 7)).mono fun e w' ⟨he, hb2⟩ => ⟨he, hb.trans (hb2.mono hb.size)⟩
theorem sb_ex {a : Option Addr} {c : Nat} (hl : PrL w w.heap.size a c [(3, 7)]) (hg : g = w.heap.size) :
    Calls Try.prog 22 #[.slice a 1 c, .slice (some ⟨g, 0, none⟩) 1 1] (w.alloc (.cells #[.int .i64 3, .int .i64 7] 50)) fun e w' => e = .returned (.bool true) ∧ Below w.heap.size w w' := by
  subst hg
  have hb := al_b w (.cells #[.int .i64 3, .int .i64 7] 50)
  refine (sameBounds_any a (some ⟨w.heap.size, 0, none⟩) c 1 [(3, 7)] [(3, 7)] _ (hl.to hb hb.size) ⟨fun _ => ⟨w.heap.size, 0, rfl, by simp, fun k hk => ?_⟩, by simp, by simp [maxLen]⟩).mono ?_
  · obtain rfl : k = 0 := by simp at hk; omega
    simp [prx]
  · rintro e w' ⟨he, m, hw⟩
    exact ⟨by rw [he]; rfl, by rw [hw]; exact belowN hb m⟩
end
set_option maxHeartbeats 4000000 in
theorem counts_any (hNv : NvC) (hNa : NaC) (hNs : NsC) (hNb : NbC) (w : World) : Calls Try.prog 9 #[] w fun e w' => e = .returned (.bool true) ∧ Below w.heap.size w w' := by
  have hP := Lib.hid (Alive.cons (belS w) (Below.refl _ w) (Alive.nil w))
  have hzf : nfF zeroNT = (2, -1) := zero_f
  go_enter Try.func9, Try.ntmps9
  go_wp2_with (first | (go_at_call 26; (with_reducible refine (counter_any _).mono ?_); rintro e wK ⟨x1, rfl, hc, hin, hb⟩; have HCT := Lib.hid hc; have HIN := Lib.hid (fun (V : World) (h : Below wK.heap.size wK V) => hin.to h h.size); have hP := Lib.hid (hP.out.to hb); clear hc hin hb) | (go_at_call 18; (with_reducible refine (ap_ex hNa HCT.out HIN.out rfl).mono ?_); rintro e wA ⟨aA, cA, rfl, hl, hb⟩; have hP := Lib.hid (Alive.cons (twoS wA.heap.size (.int .i64 0) (.int .i64 0)) (two_new wA _ _ 28) ((Alive.cons (lstS aA cA [7]) hl (hP.out.to hb)).to (al_b _ _))); clear hl hb) | (go_at_call 12; (with_reducible refine (so_ex1 hNs HCT.out HIN.out rfl).mono ?_); rintro e wS ⟨rfl, hb⟩; have hP := Lib.hid (Alive.cons (twoS wS.heap.size (.int .i64 0) (.int .i64 0)) (two_new wS _ _ 28) ((hP.out.to hb).to (al_b _ _))); clear hb) | (go_at_call 12; (with_reducible refine (so_ex2 hNs HCT.out HIN.out).mono ?_); rintro e wT ⟨rfl, hb⟩; have hP := Lib.hid (Alive.cons (twoS wT.heap.size (.int .i64 0) (.int .i64 0)) (two_new wT _ _ 28) ((hP.out.to hb).to (al_b _ _))); clear hb) | (go_at_call 21; (with_reducible refine (bd_ex hNb HCT.out HIN.out).mono ?_); rintro e wB ⟨aB, cB, rfl, hl, hb⟩; have hP := Lib.hid (Alive.cons (twoS wB.heap.size (.int .i64 0) (.int .i64 0)) (two_new wB _ _ 28) ((Alive.cons (prlS aB cB [(3, 7)]) hl (hP.out.to hb)).to (al_b _ _))); clear hl hb; obtain ⟨_, m0, _, _, _⟩ := (show Two _ wA.heap.size _ _ from hP.out (twoS wA.heap.size (.int .i64 0) (.int .i64 0)) (by simp)); obtain ⟨_, m1, _, _, _⟩ := (show Two _ wS.heap.size _ _ from hP.out (twoS wS.heap.size (.int .i64 0) (.int .i64 0)) (by simp)); obtain ⟨_, m2, _, _, _⟩ := (show Two _ wT.heap.size _ _ from hP.out (twoS wT.heap.size (.int .i64 0) (.int .i64 0)) (by simp))) | (go_at_call 19; have hLv := Lib.hid (show Lst _ _ aA cA [7] from hP.out (lstS aA cA [7]) (by simp)); (with_reducible refine (in_ex hLv.out (by first | rfl | simp)).mono ?_); rintro e wI ⟨rfl, hb⟩; have hP := Lib.hid (hP.out.to hb); clear hb) | (go_at_call 22; have hPv := Lib.hid (show PrL _ _ aB cB [(3, 7)] from hP.out (prlS aB cB [(3, 7)]) (by simp)); (with_reducible refine (sb_ex hPv.out (by first | rfl | simp)).mono ?_); rintro e wJ ⟨rfl, hb⟩; have hP := Lib.hid (hP.out.to hb); clear hb) | (go_at_call 10; refine (hNv zeroNT _ (zero_in _ _)).mono ?_; rintro e wV ⟨rfl, hb⟩; have hP := Lib.hid (hP.out.to hb); clear hb) | (go_at_call 15; refine (at_any _ _ _).mono ?_; rintro e wX ⟨rfl, hb⟩; have hP := Lib.hid (hP.out.to hb); clear hb))
  go_ret
  exact ⟨rfl, hP.out (belS w) (by simp)⟩
end Go.Proofs.Ytiafplmaigpmeaa

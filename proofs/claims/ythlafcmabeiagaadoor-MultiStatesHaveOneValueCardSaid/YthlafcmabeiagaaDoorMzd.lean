/- Applicable, Apply, Solves and Cost of package multi. -/
import Derived.Test.YthlafcmabeiagaaDoorMzv
import Derived.Test.YthlafcmabeiagaaDoorMzc
import Derived.Test.YthlafcmabeiagaaDoorMso
namespace Go.Proofs.YthlafcmabeiagaaDoor
open Go.RowKit
set_option linter.unusedSimpArgs false
set_option linter.unusedVariables false
set_option maxRecDepth 100000


theorem FrM.toB {w W W' : World} {x : MT} {u v : Int} {base : Nat} (h : FrM w W x u v) (hb : Below base W W') (hB : w.heap.size + 2 ≤ base) : FrM w W' x u v :=
  ⟨h.below.trans (hb.mono (by omega)), h.box.to hb (by omega), h.two.to hb (by omega)⟩
theorem own_far2 {W : World} {base : Nat} {e : TypeId} {size : Nat} {v : Value} {n : Nat} {xs : List Value} (h : W.ownsRow base e size v n xs) {p : Addr} (hp : p.block < base) (u : Value) : (W.setCell p u).ownsRow base e size v n xs := by
  refine h.kept (set_grown W p u) ?_
  cases hv : v.ownBlock with
  | none => exact .inl rfl
  | some q => exact .inr (fun e => by have := (h.lt q hv).1; cases e; omega)
theorem ck_ok {x : MT} {s plan : List Int} (h : (ckM x s plan).1 = 0) : MVal x ∧ msB x.sizes s = true ∧ planB x.ops.length plan = true ∧ plan.length ≤ 60 ∧ ckM x s plan = (0, 0) := by
  unfold ckM at h ⊢
  split at h
  · rename_i h1; exact absurd h h1
  rename_i h1
  split at h
  · cases h
  rename_i h2
  have h3 : planB x.ops.length plan = true ∧ plan.length ≤ 60 := by
    unfold spF at h
    split at h
    · cases h
    · rename_i h4
      split at h
      · rename_i h5; exact ⟨h5, by omega⟩
      · cases h
  refine ⟨(mf_val (by simpa using h1)).1, by simpa using h2, h3.1, h3.2, ?_⟩
  rw [if_neg h1, if_neg h2]
  unfold spF
  rw [if_neg (by omega), if_pos h3.1]

/-- The applicable operators among the first k. -/
def apN (ops : List MOp) (s : List Int) : Nat → List Int
  | 0 => []
  | k + 1 => if holdB s (mop ops k).pre then apN ops s k ++ [(k : Int)] else apN ops s k
theorem apN_len (ops : List MOp) (s : List Int) : ∀ k, (apN ops s k).length ≤ k
  | 0 => by simp [apN]
  | k + 1 => by
    have := apN_len ops s k
    simp only [apN]
    split <;> simp <;> omega
def apL (x : MT) (s : List Int) : List Int := if (ckM x s []).1 = 0 then apN x.ops s x.ops.length else []
/-- A list and a fault. -/
def LsF (w : World) (l : List Int) (f : Int × Int) (e : Ending) (w' : World) : Prop := ∃ v, e = .returned (.tuple #[v, faultV f]) ∧ w'.ownsRow w.heap.size 3 1 v l.length (l.map (Value.int .i64)) ∧ Below w.heap.size w w'
set_option maxHeartbeats 4000000 in
theorem mapplicable_any (x : MT) (A : Option Addr) (c : Nat) (s : List Int) (w : World) (hX : MTIn w w.heap.size x) (hS : Lst w w.heap.size A c s) :
    Calls Tryd.prog 14 #[.agg #[.slice x.az x.sizes.length x.cz, .slice x.ai x.init.length x.ci, .slice x.ag x.goal.length x.cg, .slice x.ao x.ops.length x.co], .slice A s.length c] w (LsF w (apL x s) (ckM x s [])) := by
  have hF := Lib.hid (frM_new w x 26 31)
  have HCK := Lib.hid (show Calls Tryd.prog 23 #[.agg #[.slice x.az x.sizes.length x.cz, .slice x.ai x.init.length x.ci, .slice x.ag x.goal.length x.cg, .slice x.ao x.ops.length x.co], .slice A s.length c, .slice none 0 0] _ fun e w' => e = .returned (faultV (ckM x s [])) ∧ _ from mcheck_any x A none c 0 s [] _ (hX.to hF.out.below hF.out.below.size) (hS.to hF.out.below hF.out.below.size) (lst_nil _ _))
  have HX0 := Lib.hid (fun (W : World) (h : Below w.heap.size w W) => hX.to h h.size)
  have HS0 := Lib.hid (fun (W : World) (h : Below w.heap.size w W) => hS.to h h.size)
  clear hX hS
  by_cases hn : (ckM x s []).1 = 0
  case neg =>
    have H := Lib.hid (show apL x s = [] by unfold apL; rw [if_neg hn])
    generalize ckM x s [] = r at *
    have hne : (r.1 != 0) = true := by simpa using hn
    have hne2 : (r.1 == 0) = false := by simpa using hn
    clear hn
    go_enter Tryd.func14, Tryd.ntmps14
    go_wp2_with (go_at_call 23; (with_reducible refine HCK.out.mono ?_); rintro e w1 ⟨rfl, hb1⟩; have hF := Lib.hid ((hF.out.to hb1).to (al_b w1 (.cells #[.int .i64 r.1, .int .i64 r.2] 31))); obtain ⟨_, ⟨_, t0, t1, t2, t3⟩, ⟨_, k0, k1, f0, f1⟩⟩ := hF.out; clear hb1)
    go_region
    all_goals
      go_wp2
      refine post_with_fault (g := w.heap.size + 1) (x := .int .i64 r.1) (y := .int .i64 r.2) Tryd.results14 rfl (two1 (hF.out.two.set _ _)) ?_
      rw [H.out]
      exact ⟨_, rfl, World.ownsRow_nil _ _ _ _, ((hF.out.below.setCell (by simp) _).setCell (by simp) _).drew⟩
  have H := Lib.hid (show apL x s = apN x.ops s x.ops.length by unfold apL; rw [if_pos hn])
  obtain ⟨hv, hm, _, _, hz⟩ := ck_ok hn
  rw [hz] at HCK ⊢
  have HV := Lib.hid hv
  have HM := Lib.hid (ms_len hm)
  have hno := hv.m
  obtain ⟨i0, hi0, hz0, hz1, hz2⟩ := info_parts info_int
  clear hn hz hv hm
  go_enter Tryd.func14, Tryd.ntmps14
  go_wp2_with (go_at_call 23; (with_reducible refine HCK.out.mono ?_); rintro e w1 ⟨rfl, hb1⟩; have hF := Lib.hid ((hF.out.to hb1).to (al_b w1 (.cells #[.int .i64 0, .int .i64 0] 31))); obtain ⟨_, ⟨_, t0, t1, t2, t3⟩, ⟨_, k0, k1, f0, f1⟩⟩ := hF.out; clear hb1)
  go_loopw [7, 20] (fun v i wr => ∃ (k : Nat), k ≤ x.ops.length ∧ i = .int .i64 k ∧ wr.ownsRow (w.heap.size + 2) 3 1 v (apN x.ops s k).length ((apN x.ops s k).map (Value.int .i64)) ∧ FrM w wr x 0 0) (fun _ i _ => x.ops.length - (intOf i).toNat)
  case atStart => exact ⟨0, by omega, rfl, World.ownsRow_nil _ _ _ _, hF.out⟩
  case round =>
    rename_i v _ wr
    clear t0 t1 t2 t3 k0 k1 f0 f1 HCK
    clear hF
    obtain ⟨k, hk, rfl, ho, hf⟩ := hrel
    have hO := Lib.hid ho
    have hF := Lib.hid hf
    clear ho hf
    obtain ⟨_, ⟨_, t0, t1, t2, t3⟩, ⟨_, k0, k1, f0, f1⟩⟩ := hF.out
    by_cases hlt : k < x.ops.length
    case neg =>
      obtain rfl : k = x.ops.length := by omega
      have hge : ¬ ((x.ops.length : Int) < x.ops.length) := by omega
      go_wp2
      refine post_with_fault (g := w.heap.size + 1) (x := .int .i64 0) (y := .int .i64 0) Tryd.results14 rfl (hF.out.two.set _ _) ?_
      rw [H.out]
      exact ⟨_, rfl, own_mono (own_far2 (own_far2 hO.out (p := ⟨w.heap.size + 1, 0, none⟩) (by simp) (.int .i64 0)) (p := ⟨w.heap.size + 1, 1, none⟩) (by simp) (.int .i64 0)) (by omega), (hF.out.below.setCell (by simp) _).setCell (by simp) _⟩
    obtain ⟨b, p, a1, a2, c1, c2, hao, hbl, ⟨q0, q1, q2⟩, hpre, hpost⟩ := (HX0.out _ hF.out.below).ops.at_ hlt
    rw [hao]
    have hal := al_b wr (.cells #[.slice a1 (mop x.ops k).pre.length c1, .slice a2 (mop x.ops k).post.length c2, .int .i64 (mop x.ops k).cost] 50)
    have HHO := Lib.hid (fun (W : World) (h : Below w.heap.size w W) (h2 : Below wr.heap.size wr W) => holds_any x.sizes A a1 c c1 s (mop x.ops k).pre (HV.out.pre k hlt) HM.out W (hpre.to h2 h2.size) (HS0.out W h))
    have hF := Lib.hid (hF.out.to hal)
    have hO := Lib.hid (own_to hO.out hal)
    have hln := apN_len x.ops s k
    have hN : apN x.ops s (k + 1) = if holdB s (mop x.ops k).pre then apN x.ops s k ++ [(k : Int)] else apN x.ops s k := rfl
    have HHO := Lib.hid (HHO.out _ hF.out.below hal)
    clear hal hpre hpost hao
    cases hh : holdB s (mop x.ops k).pre
    · rw [hh] at HHO hN
      have HN := Lib.hid (show apN x.ops s (k + 1) = apN x.ops s k from hN)
      clear hN hh
      go_wp2_with (go_at_call 31; (with_reducible refine HHO.out.mono ?_); rintro e w5 ⟨rfl, hb5⟩; have hF := Lib.hid (hF.out.to hb5); have hO := Lib.hid (own_to hO.out hb5); clear hb5; obtain ⟨_, ⟨_, t0, t1, t2, t3⟩, ⟨_, k0, k1, f0, f1⟩⟩ := hF.out)
      go_roundw
      case rel => exact ⟨k + 1, by omega, by go_num, by rw [HN.out]; exact hO.out, hF.out⟩
      case measure => simp [intOf]; omega
    · rw [hh] at HHO hN
      have HN := Lib.hid (show apN x.ops s (k + 1) = apN x.ops s k ++ [(k : Int)] from hN)
      clear hN hh
      go_wp2_with (first | (go_at_call 31; (with_reducible refine HHO.out.mono ?_); rintro e w5 ⟨rfl, hb5⟩; have hF := Lib.hid (hF.out.to hb5); have hO := Lib.hid (own_to hO.out hb5); clear hb5; obtain ⟨_, ⟨_, t0, t1, t2, t3⟩, ⟨_, k0, k1, f0, f1⟩⟩ := hF.out) | (at_builtin; refine wpList_append_own _ rfl _ _ 22 rfl (w.heap.size + 2) 3 i0 (.int .i64 0) 1 8 Tryd.underlying22 hi0 hz0 hz1 hz2 rfl (by decide) _ _ _ rfl (own_to hO.out (al_b w5 _)) ⟨w5.heap.size, 0, none⟩ 1 1 [.int .i64 (k : Int)] rfl rfl (news1 (cell_new _ _ _).1) (by simp [Value.oneCell']) (by unfold maxLen; omega) (by omega) (by have := hF.out.two.lt; simp; omega) ?_))
      intro v6 w6 hown6 hgrow6 _
      have hown7 : w6.ownsRow (w.heap.size + 2) 3 1 v6 (apN x.ops s (k + 1)).length ((apN x.ops s (k + 1)).map (Value.int .i64)) := by rw [HN.out]; simp only [List.length_append, List.length_singleton, List.map_append, List.map_cons, List.map_nil]; exact hown6
      have HO6 := Lib.hid hown7
      have hB6 : Below (w.heap.size + 2) w5 w6 := ((Below.refl (w.heap.size + 2) w5).alloc (by have := hF.out.two.lt; omega) _).grown hgrow6 (by have := hF.out.two.lt; simp; omega) (fun q hq => (hO.out.lt q hq).1)
      have hF6 := Lib.hid (hF.out.toB hB6 (by omega))
      clear hown6 hgrow6 hown7 hB6
      go_wp2
      go_roundw
      case rel => exact ⟨k + 1, by omega, by go_num, HO6.out, hF6.out⟩
      case measure => simp [intOf]; omega
end Go.Proofs.YthlafcmabeiagaaDoor

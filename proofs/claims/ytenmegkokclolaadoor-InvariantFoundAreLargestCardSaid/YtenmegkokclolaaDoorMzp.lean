/- Strips: pure facts; firstFacts, given and others. -/
import Derived.Test.YtenmegkokclolaaDoorMft
import Derived.Lib.SmallJoins
namespace Go.Proofs.YtenmegkokclolaaDoor
open Go.RowKit
set_option linter.unusedSimpArgs false
set_option linter.unusedVariables false
set_option maxRecDepth 100000

/-- The sum of the first k sizes. -/
def smN (S : List Int) : Nat → Int
  | 0 => 0
  | k + 1 => smN S k + ix S k
def fsN (S : List Int) (k : Nat) : List Int := (List.range k).map (smN S)
def fsL (S : List Int) : List Int := fsN S S.length
def gv1 (S : List Int) (a : Asg) : Int := smN S a.v.toNat + a.x
def gvN (S : List Int) (l : List Asg) (k : Nat) : List Int := (l.take k).map (gv1 S)
def gvL (S : List Int) (l : List Asg) : List Int := l.map (gv1 S)
def ot1 (S : List Int) (a : Asg) (n : Nat) : List Int := ((List.range n).filter (fun (j : Nat) => decide (((j : Nat) : Int) ≠ a.x))).map (fun (j : Nat) => smN S a.v.toNat + ((j : Nat) : Int))
def otA (S : List Int) (a : Asg) : List Int := ot1 S a (ix S a.v.toNat).toNat
def otN (S : List Int) (l : List Asg) (k : Nat) : List Int := (l.take k).flatMap (otA S)
def otL (S : List Int) (l : List Asg) : List Int := l.flatMap (otA S)
theorem smN_le {S : List Int} (h : SzOk S) : ∀ k, k ≤ S.length → (k : Int) ≤ smN S k ∧ smN S k ≤ 6 * k
  | 0, _ => by simp [smN]
  | k + 1, hk => by
    have ih := smN_le h k (by omega)
    have := h.r k (by omega)
    simp only [smN]; omega
theorem fsN_len (S : List Int) (k : Nat) : (fsN S k).length = k := by simp [fsN]
theorem fsL_len (S : List Int) : (fsL S).length = S.length := fsN_len _ _
theorem fsN_succ (S : List Int) (k : Nat) : fsN S (k + 1) = fsN S k ++ [smN S k] := by unfold fsN; rw [List.range_succ, List.map_append]; rfl
theorem ix_fs {S : List Int} {k : Nat} (hk : k < S.length) : ix (fsL S) k = smN S k := by unfold fsL fsN ix; simp [List.getD, hk]
theorem gvN_len {S : List Int} {l : List Asg} {k : Nat} (hk : k ≤ l.length) : (gvN S l k).length = k := by simp [gvN]; omega
theorem gvN_succ {S : List Int} {l : List Asg} {k : Nat} (hk : k < l.length) : gvN S l (k + 1) = gvN S l k ++ [smN S (vr l k) + (asg l k).x] := by
  unfold gvN; rw [take_asg hk, List.map_append]; rfl
theorem gvN_all (S : List Int) (l : List Asg) : gvN S l l.length = gvL S l := by unfold gvN gvL; rw [List.take_length]
theorem gvL_len (S : List Int) (l : List Asg) : (gvL S l).length = l.length := by simp [gvL]
theorem otN_succ {S : List Int} {l : List Asg} {k : Nat} (hk : k < l.length) : otN S l (k + 1) = otN S l k ++ otA S (asg l k) := by
  unfold otN; rw [take_asg hk, List.flatMap_append]; simp
theorem otN_all (S : List Int) (l : List Asg) : otN S l l.length = otL S l := by unfold otN otL; rw [List.take_length]
theorem ot1_succ (S : List Int) (a : Asg) (n : Nat) : ot1 S a (n + 1) = if ((n : Nat) : Int) ≠ a.x then ot1 S a n ++ [smN S a.v.toNat + (n : Int)] else ot1 S a n := by
  unfold ot1
  rw [List.range_succ, List.filter_append, List.map_append]
  by_cases h : ((n : Nat) : Int) = a.x
  · simp [h]
  · simp [h]
theorem ot1_len (S : List Int) (a : Asg) (n : Nat) : (ot1 S a n).length ≤ n := by
  unfold ot1; rw [List.length_map]; exact Nat.le_trans (List.length_filter_le _ _) (by simp)
theorem up_le {S : List Int} {l : List Asg} (h : AsOk S l) : ∀ k, k < l.length → k ≤ vr l k
  | 0, _ => by omega
  | k + 1, hk => by have := up_le h k (by omega); have := h.up k hk; omega
theorem as_len {S : List Int} {l : List Asg} (h : AsOk S l) : l.length ≤ S.length := by
  rcases Nat.eq_zero_or_pos l.length with e | e
  · omega
  · have h1 := up_le h (l.length - 1) (by omega)
    have h2 := h.lt (l.length - 1) (by omega)
    omega
theorem otN_len {S : List Int} (hz : SzOk S) {l : List Asg} (h : AsOk S l) : ∀ k, k ≤ l.length → (otN S l k).length ≤ 6 * k
  | 0, _ => by simp [otN]
  | k + 1, hk => by
    have ih := otN_len hz h k (by omega)
    rw [otN_succ (by omega), List.length_append]
    have h1 := ot1_len S (asg l k) (ix S (asg l k).v.toNat).toNat
    have h2 := hz.r _ (h.lt k (by omega))
    unfold vr at h2
    unfold otA
    omega

/-- firstFacts leaves the list and the number of all facts. -/
def FfP (w : World) (S : List Int) (e : Ending) (w' : World) : Prop := ∃ a c, e = .returned (.tuple #[.slice a S.length c, .int .i64 (smN S S.length)]) ∧ Lst w' w'.heap.size a c (fsL S) ∧ Below w.heap.size w w'
set_option maxHeartbeats 2000000 in
theorem firstFacts_any (S : List Int) (hz : SzOk S) (A : Option Addr) (c : Nat) (w : World) (hS : Lst w w.heap.size A c S) :
    Calls Tryd.prog 39 #[.slice A S.length c] w (FfP w S) := by
  have h8 := hz.n8
  have HS := Lib.hid (fun (W : World) (h : Below w.heap.size w W) => hS.to h h.size)
  obtain ⟨i0, hi0, hz0, hz1, hz2⟩ := info_parts info_int
  clear hS
  go_enter Tryd.func39, Tryd.ntmps39
  go_wp2
  go_loopw [2, 3, 8] (fun v y i wr => ∃ (k : Nat), k ≤ S.length ∧ i = .int .i64 k ∧ y = .int .i64 (smN S k) ∧ wr.ownsRow w.heap.size 3 1 v (fsN S k).length ((fsN S k).map (Value.int .i64)) ∧ Below w.heap.size w wr) (fun _ _ i _ => S.length - (intOf i).toNat)
  case atStart => exact ⟨0, by omega, rfl, rfl, World.ownsRow_nil _ _ _ _, Below.refl _ _⟩
  case round =>
    obtain ⟨k, hk, rfl, rfl, ho, hb⟩ := hrel
    have HO := Lib.hid ho
    have HB := Lib.hid hb
    clear ho hb
    by_cases hlt : k < S.length
    case neg =>
      obtain rfl : k = S.length := by omega
      have hge : ¬ ((S.length : Int) < S.length) := by omega
      obtain ⟨a, c', e9, hl, _⟩ := own_lst HO.out
      rw [fsN_len] at e9
      subst e9
      have HL := Lib.hid hl
      clear hl
      go_wp2
      refine post_two Tryd.results39 ?_
      exact ⟨_, _, rfl, HL.out, HB.out⟩
    obtain ⟨b, o, rfl, _, hc⟩ := (HS.out _ HB.out).nums.at_ hlt
    have h1 := smN_le hz k (by omega)
    have h2 := smN_le hz (k + 1) (by omega)
    have hst : smN S (k + 1) = smN S k + ix S k := rfl
    rw [hst] at h2
    have hw1 : IntKind.i64.wrap (smN S k + ix S k) = smN S k + ix S k := IntWalk.i64_in _ (by omega)
    have HST := Lib.hid hst
    clear h1 h2 hst
    go_wp2_with (at_builtin; refine wpList_append_own _ rfl _ _ 22 rfl w.heap.size 3 i0 (.int .i64 0) 1 8 Tryd.underlying22 hi0 hz0 hz1 hz2 rfl (by decide) _ _ _ rfl (own_to HO.out (al_b wr _)) ⟨wr.heap.size, 0, none⟩ 1 1 [.int .i64 (smN S k)] rfl rfl (news1 (cell_new _ _ _).1) (by simp [Value.oneCell']) (by rw [fsN_len]; unfold maxLen; omega) (by rw [fsN_len]; omega) (by have := HB.out.size; simp; omega) ?_)
    intro v6 w6 hown6 hgrow6 _
    have hown7 : w6.ownsRow w.heap.size 3 1 v6 (fsN S (k + 1)).length ((fsN S (k + 1)).map (Value.int .i64)) := by rw [fsN_succ]; simp only [List.length_append, List.length_singleton, List.map_append, List.map_cons, List.map_nil]; exact hown6
    have HO6 := Lib.hid hown7
    have HB6 := Lib.hid (HB.out.trans (((Below.refl w.heap.size wr).alloc HB.out.size _).grown hgrow6 (by have := HB.out.size; simp; omega) (fun q hq => (HO.out.lt q hq).1)))
    clear hown6 hgrow6 hown7
    go_wp2
    go_roundw
    case rel => exact ⟨k + 1, by omega, by go_num, by rw [HST.out], HO6.out, HB6.out⟩
    case measure => simp [intOf]; omega
end Go.Proofs.YtenmegkokclolaaDoor

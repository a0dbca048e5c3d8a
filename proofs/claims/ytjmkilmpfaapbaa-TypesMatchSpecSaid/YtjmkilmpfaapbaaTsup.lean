/- Supers, Sub and JoinOf of the reference. -/
import Derived.Test.YtjmkilmpfaapbaaTjoin
import Derived.Test.YtjmkilmpfaapbaaTmems
import Derived.Test.YtjmkilmpfaapbaaThasl
namespace Go.Proofs.Ytjmkilmpfaapbaa
open Go.RowKit
set_option linter.unusedSimpArgs false
set_option linter.unusedVariables false
set_option maxRecDepth 100000

def SupPost (w : World) (xs : List Int) (e : Ending) (w' : World) : Prop := ∃ v, e = .returned v ∧ SliceOf w' v xs ∧ Below w.heap.size w w'

theorem sup_len {ts : List Ent} (ho : Ordered ts) : ∀ a : Int, -1 ≤ a → a < ts.length → 1 ≤ (sup ts a).length ∧ ((sup ts a).length : Int) ≤ a + 2 := by
  have : ∀ (k : Nat) (a : Int), (a + 1).toNat = k → -1 ≤ a → a < ts.length → 1 ≤ (sup ts a).length ∧ ((sup ts a).length : Int) ≤ a + 2 := by
    intro k
    induction k using Nat.strongRecOn with
    | _ k ih =>
      intro a hk h0 hn
      by_cases ha : a < 0
      · rw [sup_neg ha]; simp; omega
      · have hp := ho a.toNat (by omega)
        have h := ih (par ts a + 1).toNat (by unfold par; omega) (par ts a) rfl (by unfold par; omega) (by unfold par; omega)
        rw [sup_cons ho (by omega) hn, List.length_cons]
        unfold par at h ⊢
        omega
  exact fun a => this _ a rfl

theorem own_one (w : World) (x : Value) : (w.alloc (.cells #[x] 3)).ownsRow w.heap.size 3 1 (.slice (some ⟨w.heap.size, 0, none⟩) 1 1) 1 [x] := by
  have h := World.ownsRow_lit (base := w.heap.size) (e := 3) (size := 1) w #[x] 1 (Nat.le_refl _) (by simp [maxLen]) rfl
  simpa using h
theorem nums_cells {w : World} {B : Nat} {b o : Nat} {xs : List Int} (h : ∀ k, k < xs.length → w.cell? ⟨b, o + k, none⟩ = some (.int .i64 (ix xs k))) : ∀ (j : Nat) (u : Value), (xs.map (Value.int .i64))[j]? = some u → w.cell? ((⟨b, o, none⟩ : Addr).add j) = some u := by
  intro j u hu
  rw [List.getElem?_map] at hu
  have hj : j < xs.length := by
    rcases Nat.lt_or_ge j xs.length with h | h
    · exact h
    · rw [List.getElem?_eq_none h] at hu; cases hu
  rw [List.getElem?_eq_getElem hj] at hu
  simp at hu
  rw [Addr.add_lit, h j hj, ← hu]
  simp [ix, List.getD, hj]

set_option maxHeartbeats 2000000 in
theorem rsupers_any (A : Option Addr) (c : Nat) (ts : List Ent) (ho : Ordered ts) (h8 : ts.length ≤ 8) : ∀ (k : Nat) (t : Int) (w : World), (t + 1).toNat = k → -1 ≤ t → t < ts.length → Ents w w.heap.size A ts →
    Calls Try.prog 30 #[.slice A ts.length c, .int .i64 t] w (SupPost w (sup ts t)) := by
  intro k
  induction k using Nat.strongRecOn with
  | _ k ih =>
    intro t w hk h0 hn hE
    by_cases ht : t < 0
    · have HS := Lib.hid (sup_neg (ts := ts) ht)
      go_enter Try.func30, Try.ntmps30
      go_wp2_with fail
      go_ret
      rw [HS.out]
      exact ⟨_, rfl, sliceOf_own (own_one w (.int .i64 (-1))), (Below.refl _ _).alloc (Nat.le_refl _) _⟩
    · have hp := ho t.toNat (by omega)
      have HS := Lib.hid (sup_cons ho (by omega) hn)
      have hle := sup_len ho (par ts t) (by unfold par; omega) (by unfold par; omega)
      obtain ⟨b, o, rfl, hbl, hs, hpp, _⟩ := hE.at_ (k := t.toNat) (by omega)
      have hrec := ih (par ts t + 1).toNat (by unfold par; omega) (par ts t) (w.alloc (.cells #[.int .i64 t] 3)) rfl (by unfold par; omega) (by unfold par; omega) (hE.to ((Below.refl _ _).alloc (Nat.le_refl _) _) (by simp))
      clear ih
      have ht0 : 0 ≤ t := by omega
      clear ht
      obtain ⟨i0, hi, hz0, hz1, hz2⟩ := info_parts info_int
      unfold par at hrec hle HS
      have HO := Lib.hid (own_one w (.int .i64 t))
      go_enter Try.func30, Try.ntmps30
      go_wp2_with (go_at_call 30; refine hrec.mono ?_)
      rintro e w1 ⟨v, rfl, ⟨A1, c1, rfl, hN1, hk1, hm1⟩, hb1⟩
      obtain ⟨b1, o1, rfl, hbl1, hc1⟩ := hN1 (by omega)
      have hcl := nums_cells (B := 0) hc1
      have HN := Lib.hid hcl
      have hown := own_to HO.out hb1
      have hz := hb1.size
      simp only [World.size_alloc] at hz
      clear hc1 hcl
      go_wp2_with (at_builtin; refine wpList_append_own _ rfl _ _ 36 rfl w.heap.size 3 i0 (.int .i64 0) 1 8 Try.underlying36 hi hz0 hz1 hz2 rfl (by decide) _ _ _ rfl hown ⟨b1, o1, none⟩ (sup ts (pr ts t.toNat)).length c1 ((sup ts (pr ts t.toNat)).map (Value.int .i64)) rfl ?c1 ?c2 ?c3 ?c4 ?c5 ?c6 ?_)
      case c1 => simp
      case c2 => exact HN.out
      case c3 => intro u hu; obtain ⟨z, _, rfl⟩ := List.mem_map.1 hu; rfl
      case c4 => unfold maxLen; omega
      case c5 => omega
      case c6 => omega
      intro v' w2 hown2 hgrow _
      have HG := Lib.hid hgrow
      clear hgrow
      go_wp2
      go_ret
      rw [HS.out]
      refine ⟨v', rfl, sliceOf_own (base := w.heap.size) (e := 3) ?_, ?_⟩
      · have : (t :: sup ts (pr ts t.toNat)).length = 1 + (sup ts (pr ts t.toNat)).length := by simp; omega
        rw [this]
        exact hown2
      · have hbb : Below w.heap.size w w1 := ((Below.refl _ _).alloc (Nat.le_refl _) _).trans (hb1.mono (by simp))
        exact hbb.grown HG.out hbb.size (fun q hq => (hown.lt q hq).1)

theorem rsup_any (A : Option Addr) (c : Nat) (ts : List Ent) (ho : Ordered ts) (h8 : ts.length ≤ 8) (t : Int) (w : World) (h0 : -1 ≤ t) (hn : t < ts.length) (hE : Ents w w.heap.size A ts) :
    Calls Try.prog 30 #[.slice A ts.length c, .int .i64 t] w (SupPost w (sup ts t)) := rsupers_any A c ts ho h8 _ t w rfl h0 hn hE

set_option maxHeartbeats 1000000 in
theorem rsub_any (A : Option Addr) (c : Nat) (ts : List Ent) (ho : Ordered ts) (h8 : ts.length ≤ 8) (a b : Int) (w : World) (h0 : -1 ≤ a) (hn : a < ts.length) (hE : Ents w w.heap.size A ts) :
    Calls Try.prog 13 #[.slice A ts.length c, .int .i64 a, .int .i64 b] w fun e w' => e = .returned (.bool (memB (sup ts a) b)) ∧ Below w.heap.size w w' := by
  have hcall := rsup_any A c ts ho h8 a w h0 hn hE
  have hl := (sup_len ho a h0 hn).2
  clear hE ho
  go_enter Try.func13, Try.ntmps13
  go_wp2_with fail
  refine hcall.mono ?_
  rintro e w1 ⟨v, rfl, ⟨A1, c1, rfl, hN1, hk1, hm1⟩, hb1⟩
  go_wp2_with (go_at_call 29; refine (hasl_any _ _ _ _ _ hN1 (by unfold maxLen; omega)).mono ?_; rintro e w' ⟨rfl, rfl⟩)
  go_ret
  exact ⟨rfl, hb1⟩

theorem joinM_at {ts : List Ent} {a b : Int} {k : Nat} (hk : k < (sup ts a).length) (hj : ∀ j, j < k → memB (sup ts b) (ix (sup ts a) j) = false) (h : memB (sup ts b) (ix (sup ts a) k) = true) : joinM ts a b = ix (sup ts a) k := by
  have e : ix (sup ts a) k = (sup ts a)[k] := by simp [ix, List.getD, hk]
  rw [e] at h ⊢
  refine joinM_hit (pre := (sup ts a).take k) ?_ (fun y hy => ?_) h
  · rw [← List.take_succ_eq_append_getElem hk]
    exact List.take_prefix _ _
  · obtain ⟨j, hjl, rfl⟩ := List.getElem_of_mem hy
    rw [List.length_take] at hjl
    have := hj j (by omega)
    simpa [ix, List.getD, show j < (sup ts a).length by omega] using this
theorem joinM_none {ts : List Ent} {a b : Int} (hj : ∀ j, j < (sup ts a).length → memB (sup ts b) (ix (sup ts a) j) = false) : joinM ts a b = -1 := by
  refine joinM_miss (fun y hy => ?_)
  obtain ⟨j, hjl, rfl⟩ := List.getElem_of_mem hy
  simpa [ix, List.getD, hjl] using hj j hjl
theorem not_step {xs ys : List Int} {k : Nat} (h : ∀ j, j < k → memB ys (ix xs j) = false) (hk : memB ys (ix xs k) = false) : ∀ j, j < k + 1 → memB ys (ix xs j) = false := by
  intro j hj
  by_cases e : j = k
  · subst e; exact hk
  · exact h j (by omega)

set_option maxHeartbeats 1000000 in
theorem rjoin_any (A : Option Addr) (c : Nat) (ts : List Ent) (ho : Ordered ts) (h8 : ts.length ≤ 8) (a b : Int) (w : World) (h0 : -1 ≤ a) (hn : a < ts.length) (h0b : -1 ≤ b) (hnb : b < ts.length) (hE : Ents w w.heap.size A ts) :
    Calls Try.prog 14 #[.slice A ts.length c, .int .i64 a, .int .i64 b] w fun e w' => e = .returned (.int .i64 (joinM ts a b)) ∧ Below w.heap.size w w' := by
  have hcall := rsup_any A c ts ho h8 a w h0 hn hE
  have HC := Lib.hid (fun (W : World) (h : Below w.heap.size w W) => rsup_any A c ts ho h8 b W h0b hnb (hE.to h h.size))
  have hl := (sup_len ho a h0 hn).2
  have hlb := (sup_len ho b h0b hnb).2
  clear hE ho
  go_enter Try.func14, Try.ntmps14
  go_wp2_with fail
  refine hcall.mono ?_
  rintro e w1 ⟨v, rfl, ⟨A1, c1, rfl, hN1, hk1, hm1⟩, hb1⟩
  go_wp2_with fail
  refine (HC.out _ hb1).mono ?_
  rintro e w2 ⟨v2, rfl, ⟨A2, c2, rfl, hN2, hk2, hm2⟩, hb2⟩
  have HN1 := Lib.hid (hN1.to hb2 hb2.size)
  have HN2 := Lib.hid hN2
  have HB := Lib.hid (hb1.trans (hb2.mono hb1.size))
  clear hN1 hN2
  go_wp2
  go_loop [9] (fun i => ∃ k : Nat, k ≤ (sup ts a).length ∧ i = .int .i64 k ∧ ∀ j, j < k → memB (sup ts b) (ix (sup ts a) j) = false) (fun i => (sup ts a).length - (intOf i).toNat)
  case atStart => exact ⟨0, by omega, rfl, by omega⟩
  case round =>
    obtain ⟨k, hk, rfl, hj⟩ := hrel
    have HJ := Lib.hid hj
    clear hj
    by_cases hlt : k < (sup ts a).length
    · obtain ⟨b1, o1, rfl, _, hs1⟩ := HN1.out.at_ hlt
      cases he : memB (sup ts b) (ix (sup ts a) k)
      · have HQ := Lib.hid he
        go_wp2_with (go_at_call 29; refine (hasl_any _ _ _ _ _ HN2.out (by unfold maxLen; omega)).mono ?_; rintro e w' ⟨rfl, rfl⟩)
        go_round
        case rel => exact ⟨k + 1, by omega, by go_num, not_step HJ.out HQ.out⟩
        case measure => simp [intOf]; omega
      · have HQ := Lib.hid he
        go_wp2_with (go_at_call 29; refine (hasl_any _ _ _ _ _ HN2.out (by unfold maxLen; omega)).mono ?_; rintro e w' ⟨rfl, rfl⟩)
        go_ret
        exact ⟨ret_int (joinM_at hlt HJ.out HQ.out).symm, HB.out⟩
    · have hge : ¬ ((k : Int) < (sup ts a).length) := by omega
      go_wp2
      go_ret
      exact ⟨ret_int (joinM_none (fun j hj => HJ.out j (by omega))).symm, HB.out⟩

end Go.Proofs.Ytjmkilmpfaapbaa

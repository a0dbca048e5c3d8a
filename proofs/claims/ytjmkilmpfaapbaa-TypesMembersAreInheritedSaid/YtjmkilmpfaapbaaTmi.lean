/- TypesMembersAreInherited: the walk, and the plain facts on members. -/
import Derived.Test.YtjmkilmpfaapbaaTord
import Derived.Test.YtjmkilmpfaapbaaThasl
namespace Go.Proofs.Ytjmkilmpfaapbaa
open Go.RowKit
set_option linter.unusedSimpArgs false
set_option linter.unusedVariables false
set_option maxRecDepth 100000

theorem mems_mem {ts os : List Ent} {t : Int} {k : Nat} {x : Int} : x ∈ mems ts os t k ↔ ∃ i : Nat, i < k ∧ memB (sup ts (pr os i)) t = true ∧ x = i := by
  unfold mems
  rw [List.mem_map]
  constructor
  · rintro ⟨i, hi, rfl⟩
    rw [List.mem_filter, List.mem_range] at hi
    exact ⟨i, hi.1, hi.2, rfl⟩
  · rintro ⟨i, h1, h2, rfl⟩
    exact ⟨i, by rw [List.mem_filter, List.mem_range]; exact ⟨h1, h2⟩, rfl⟩
theorem memF_zero {ts os : List Ent} {t : Int} (h : (memF ts os t).1 = 0) : (tyFault ts).1 = 0 ∧ Fine ts t ∧ memL ts os t = mems ts os t os.length ∧ ∀ i, i < os.length → Fine ts (pr os i) := by
  have h' := h
  unfold memF at h
  split at h
  · rename_i h1; exact absurd h h1
  · rename_i h1
    have h1 : (usedF ts [t]).1 = 0 := by simpa using h1
    obtain ⟨_, h2, h3⟩ := usedF_zero h1
    obtain ⟨_, _, h5⟩ := obFault_ok h
    refine ⟨h2, (istB_iff _ _).1 (by simpa using h3), by simp [memL, h'], fun i hi => (istB_iff _ _).1 (h5 i hi)⟩
theorem mems_all {ts os : List Ent} (h : (tyFault ts).1 = 0) (ho : ∀ i, i < os.length → Fine ts (pr os i)) : ∀ k, k ≤ os.length → (mems ts os (-1) k).length = k := by
  intro k
  induction k with
  | zero => intro _; rfl
  | succ k ih =>
    intro hk
    have hf := ho k (by omega)
    rw [mems_yes (memB_iff.2 (sup_last (ordered_of h) _ hf.1 hf.2)), List.length_append, ih (by omega)]
    rfl
theorem mems_sub {ts os : List Ent} {a b : Int} (h : (tyFault ts).1 = 0) (ha : Fine ts a) (hb : Fine ts b) (ho : ∀ i, i < os.length → Fine ts (pr os i)) (hab : subM ts a b = true) : subB (mems ts os a os.length) (mems ts os b os.length) = true := by
  rw [subM_fine h ha hb, memB_iff] at hab
  unfold subB
  rw [List.all_eq_true]
  intro x hx
  obtain ⟨i, hi, hm, rfl⟩ := mems_mem.1 hx
  have hf := ho i hi
  rw [memB_iff, mems_mem]
  exact ⟨i, hi, memB_iff.2 (sup_trans (ordered_of h) _ hf.1 hf.2 a (memB_iff.1 hm) b hab), rfl⟩
theorem memF_top {ts os : List Ent} {t : Int} (h : (memF ts os t).1 = 0) : (memF ts os (-1)).1 = 0 := by
  have h' := memF_zero h
  unfold memF at h
  split at h
  · rename_i h1; exact absurd h h1
  · have hi : istB ts.length (-1) = true := (istB_iff _ _).2 ⟨by omega, by omega⟩
    have hu : usedF ts [-1] = (0, 0) := by simp [usedF, h'.1, hi]
    simp [memF, hu, h]
theorem memL_len {ts os : List Ent} {t : Int} (h : ((memF ts os t).1 == 0) = false) : (((memL ts os t).length : Int) == 0) = true := by
  have h : (memF ts os t).1 ≠ 0 := by simpa using h
  simp [memL, h]

set_option maxRecDepth 100000 in
set_option maxHeartbeats 8000000 in
theorem inherited_any (A : Option Addr) (cp : Nat) (ts : List Ent) (A2 : Option Addr) (cp2 : Nat) (os : List Ent) (a b : Int) (w : World) (hE : Ents w w.heap.size A ts) (hn : ts.length ≤ maxLen) (hcap : ts.length ≤ cp) (hcm : cp ≤ maxLen)
    (hO : Ents w w.heap.size A2 os) (hon : os.length ≤ maxLen) (hocap : os.length ≤ cp2) (hocm : cp2 ≤ maxLen) :
    Calls Try.prog 6 #[.slice A ts.length cp, .slice A2 os.length cp2, .int .i64 a, .int .i64 b] w fun e w' => e = .returned (.bool true) ∧ Below w.heap.size w w' := by
  have HE2 := Lib.hid (fun (W : World) (h : Below w.heap.size w W) => hE.to (B' := W.heap.size) h h.size)
  have HO2 := Lib.hid (fun (W : World) (h : Below w.heap.size w W) => hO.to (B' := W.heap.size) h h.size)
  clear hE hO
  have hb := Below.refl w.heap.size w
  have hfld := run_code
  have x1 : ((memF ts os a).1 != 0) = !((memF ts os a).1 == 0) := rfl
  have x2 : ((memF ts os b).1 != 0) = !((memF ts os b).1 == 0) := rfl
  have x3 : ((memF ts os (-1)).1 != 0) = !((memF ts os (-1)).1 == 0) := rfl
  cases y1 : ((memF ts os a).1 == 0)
  case false =>
    have l1 := memL_len y1
    rw [y1] at x1
    cases y2 : ((memF ts os b).1 == 0)
    case false =>
      have l2 := memL_len y2
      rw [y2] at x2
      go_enter Try.func6, Try.ntmps6
      go_wp2_with fail
      refine (members_any A cp ts A2 cp2 os a w (HE2.out _ hb) hn hcap hcm (HO2.out _ hb) hon hocap hocm).mono ?_
      rintro e w1 ⟨v1, rfl, ⟨A1, c1, rfl, hN1, hk1, hm1⟩, hb1⟩
      go_wp2_with fail
      have hy1 : Below w.heap.size w (w1.alloc (.cells #[.int .i64 (memF ts os a).1, .int .i64 (memF ts os a).2] 26)) := hb1.alloc hb1.size _
      refine (members_any A cp ts A2 cp2 os b _ (HE2.out _ hy1) hn hcap hcm (HO2.out _ hy1) hon hocap hocm).mono ?_
      rintro e w2 ⟨v2, rfl, ⟨A3, c2, rfl, hN2, hk2, hm2⟩, hb2⟩
      have hz1 := hy1.size
      have hy2 : Below w.heap.size w w2 := hy1.trans (hb2.mono hz1)
      have t1 := two_to (two_new w1 (.int .i64 (memF ts os a).1) (.int .i64 (memF ts os a).2) 26) hb2
      have hM1 : Nums w2 w2.heap.size A1 (memL ts os a) := (hN1.to ((Below.refl _ _).alloc (Nat.le_refl _) (.cells #[.int .i64 (memF ts os a).1, .int .i64 (memF ts os a).2] 26)) (B' := (w1.alloc (.cells #[.int .i64 (memF ts os a).1, .int .i64 (memF ts os a).2] 26)).heap.size) (by simp)).to hb2 hb2.size
      go_wp2_with fail
      have hy3 : Below w.heap.size w (w2.alloc (.cells #[.int .i64 (memF ts os b).1, .int .i64 (memF ts os b).2] 26)) := hy2.alloc hy2.size _
      refine (members_any A cp ts A2 cp2 os (-1) _ (HE2.out _ hy3) hn hcap hcm (HO2.out _ hy3) hon hocap hocm).mono ?_
      rintro e w3 ⟨v3, rfl, ⟨A4, c3, rfl, hN3, hk3, hm3⟩, hb3⟩
      have hz3 := hy3.size
      have hy4 : Below w.heap.size w w3 := hy3.trans (hb3.mono hz3)
      have t12 := two_to (t1.alloc (.cells #[.int .i64 (memF ts os b).1, .int .i64 (memF ts os b).2] 26)) hb3
      have t2 := two_to (two_new w2 (.int .i64 (memF ts os b).1) (.int .i64 (memF ts os b).2) 26) hb3
      have hM2 : Nums w3 w3.heap.size A1 (memL ts os a) := (hM1.to ((Below.refl _ _).alloc (Nat.le_refl _) (.cells #[.int .i64 (memF ts os b).1, .int .i64 (memF ts os b).2] 26)) (B' := (w2.alloc (.cells #[.int .i64 (memF ts os b).1, .int .i64 (memF ts os b).2] 26)).heap.size) (by simp)).to hb3 hb3.size
      have hM3 : Nums w3 w3.heap.size A3 (memL ts os b) := (hN2.to ((Below.refl _ _).alloc (Nat.le_refl _) (.cells #[.int .i64 (memF ts os b).1, .int .i64 (memF ts os b).2] 26)) (B' := (w2.alloc (.cells #[.int .i64 (memF ts os b).1, .int .i64 (memF ts os b).2] 26)).heap.size) (by simp)).to hb3 hb3.size
      have hy5 : Below w.heap.size w (w3.alloc (.cells #[.int .i64 (memF ts os (-1)).1, .int .i64 (memF ts os (-1)).2] 26)) := hy4.alloc hy4.size _
      go_wp2_with fail
      refine (typed_any _).mono ?_
      rintro e w4 ⟨rfl, hb4⟩
      have t13 := two_to (t12.alloc (.cells #[.int .i64 (memF ts os (-1)).1, .int .i64 (memF ts os (-1)).2] 26)) hb4
      have t23 := two_to (t2.alloc (.cells #[.int .i64 (memF ts os (-1)).1, .int .i64 (memF ts os (-1)).2] 26)) hb4
      have t3 := two_to (two_new w3 (.int .i64 (memF ts os (-1)).1) (.int .i64 (memF ts os (-1)).2) 26) hb4
      have hM4 : Nums w4 w4.heap.size A1 (memL ts os a) := (hM2.to ((Below.refl _ _).alloc (Nat.le_refl _) (.cells #[.int .i64 (memF ts os (-1)).1, .int .i64 (memF ts os (-1)).2] 26)) (B' := (w3.alloc (.cells #[.int .i64 (memF ts os (-1)).1, .int .i64 (memF ts os (-1)).2] 26)).heap.size) (by simp)).to hb4 hb4.size
      have hM5 : Nums w4 w4.heap.size A3 (memL ts os b) := (hM3.to ((Below.refl _ _).alloc (Nat.le_refl _) (.cells #[.int .i64 (memF ts os (-1)).1, .int .i64 (memF ts os (-1)).2] 26)) (B' := (w3.alloc (.cells #[.int .i64 (memF ts os (-1)).1, .int .i64 (memF ts os (-1)).2] 26)).heap.size) (by simp)).to hb4 hb4.size
      have hz5 := hy5.size
      have hy6 : Below w.heap.size w w4 := hy5.trans (hb4.mono hz5)
      obtain ⟨_, g1, _, _, _⟩ := t13
      obtain ⟨_, g2, _, _, _⟩ := t23
      obtain ⟨_, g3, _, _, _⟩ := t3
      clear t1 t12 t2 hM1 hM2 hM3 hN1 hN2 hN3 hk1 hm1 hk2 hm2 hk3 hm3
      go_wp2
      go_ret
      exact ⟨rfl, hy6⟩
    case true =>
      rw [y2] at x2
      go_enter Try.func6, Try.ntmps6
      go_wp2_with fail
      refine (members_any A cp ts A2 cp2 os a w (HE2.out _ hb) hn hcap hcm (HO2.out _ hb) hon hocap hocm).mono ?_
      rintro e w1 ⟨v1, rfl, ⟨A1, c1, rfl, hN1, hk1, hm1⟩, hb1⟩
      go_wp2_with fail
      have hy1 : Below w.heap.size w (w1.alloc (.cells #[.int .i64 (memF ts os a).1, .int .i64 (memF ts os a).2] 26)) := hb1.alloc hb1.size _
      refine (members_any A cp ts A2 cp2 os b _ (HE2.out _ hy1) hn hcap hcm (HO2.out _ hy1) hon hocap hocm).mono ?_
      rintro e w2 ⟨v2, rfl, ⟨A3, c2, rfl, hN2, hk2, hm2⟩, hb2⟩
      have hz1 := hy1.size
      have hy2 : Below w.heap.size w w2 := hy1.trans (hb2.mono hz1)
      have t1 := two_to (two_new w1 (.int .i64 (memF ts os a).1) (.int .i64 (memF ts os a).2) 26) hb2
      have hM1 : Nums w2 w2.heap.size A1 (memL ts os a) := (hN1.to ((Below.refl _ _).alloc (Nat.le_refl _) (.cells #[.int .i64 (memF ts os a).1, .int .i64 (memF ts os a).2] 26)) (B' := (w1.alloc (.cells #[.int .i64 (memF ts os a).1, .int .i64 (memF ts os a).2] 26)).heap.size) (by simp)).to hb2 hb2.size
      go_wp2_with fail
      have hy3 : Below w.heap.size w (w2.alloc (.cells #[.int .i64 (memF ts os b).1, .int .i64 (memF ts os b).2] 26)) := hy2.alloc hy2.size _
      refine (members_any A cp ts A2 cp2 os (-1) _ (HE2.out _ hy3) hn hcap hcm (HO2.out _ hy3) hon hocap hocm).mono ?_
      rintro e w3 ⟨v3, rfl, ⟨A4, c3, rfl, hN3, hk3, hm3⟩, hb3⟩
      have hz3 := hy3.size
      have hy4 : Below w.heap.size w w3 := hy3.trans (hb3.mono hz3)
      have t12 := two_to (t1.alloc (.cells #[.int .i64 (memF ts os b).1, .int .i64 (memF ts os b).2] 26)) hb3
      have t2 := two_to (two_new w2 (.int .i64 (memF ts os b).1) (.int .i64 (memF ts os b).2) 26) hb3
      have hM2 : Nums w3 w3.heap.size A1 (memL ts os a) := (hM1.to ((Below.refl _ _).alloc (Nat.le_refl _) (.cells #[.int .i64 (memF ts os b).1, .int .i64 (memF ts os b).2] 26)) (B' := (w2.alloc (.cells #[.int .i64 (memF ts os b).1, .int .i64 (memF ts os b).2] 26)).heap.size) (by simp)).to hb3 hb3.size
      have hM3 : Nums w3 w3.heap.size A3 (memL ts os b) := (hN2.to ((Below.refl _ _).alloc (Nat.le_refl _) (.cells #[.int .i64 (memF ts os b).1, .int .i64 (memF ts os b).2] 26)) (B' := (w2.alloc (.cells #[.int .i64 (memF ts os b).1, .int .i64 (memF ts os b).2] 26)).heap.size) (by simp)).to hb3 hb3.size
      have hy5 : Below w.heap.size w (w3.alloc (.cells #[.int .i64 (memF ts os (-1)).1, .int .i64 (memF ts os (-1)).2] 26)) := hy4.alloc hy4.size _
      go_wp2_with fail
      refine (typed_any _).mono ?_
      rintro e w4 ⟨rfl, hb4⟩
      have t13 := two_to (t12.alloc (.cells #[.int .i64 (memF ts os (-1)).1, .int .i64 (memF ts os (-1)).2] 26)) hb4
      have t23 := two_to (t2.alloc (.cells #[.int .i64 (memF ts os (-1)).1, .int .i64 (memF ts os (-1)).2] 26)) hb4
      have t3 := two_to (two_new w3 (.int .i64 (memF ts os (-1)).1) (.int .i64 (memF ts os (-1)).2) 26) hb4
      have hM4 : Nums w4 w4.heap.size A1 (memL ts os a) := (hM2.to ((Below.refl _ _).alloc (Nat.le_refl _) (.cells #[.int .i64 (memF ts os (-1)).1, .int .i64 (memF ts os (-1)).2] 26)) (B' := (w3.alloc (.cells #[.int .i64 (memF ts os (-1)).1, .int .i64 (memF ts os (-1)).2] 26)).heap.size) (by simp)).to hb4 hb4.size
      have hM5 : Nums w4 w4.heap.size A3 (memL ts os b) := (hM3.to ((Below.refl _ _).alloc (Nat.le_refl _) (.cells #[.int .i64 (memF ts os (-1)).1, .int .i64 (memF ts os (-1)).2] 26)) (B' := (w3.alloc (.cells #[.int .i64 (memF ts os (-1)).1, .int .i64 (memF ts os (-1)).2] 26)).heap.size) (by simp)).to hb4 hb4.size
      have hz5 := hy5.size
      have hy6 : Below w.heap.size w w4 := hy5.trans (hb4.mono hz5)
      obtain ⟨_, g1, _, _, _⟩ := t13
      obtain ⟨_, g2, _, _, _⟩ := t23
      obtain ⟨_, g3, _, _, _⟩ := t3
      clear t1 t12 t2 hM1 hM2 hM3 hN1 hN2 hN3 hk1 hm1 hk2 hm2 hk3 hm3
      go_wp2
      go_ret
      exact ⟨rfl, hy6⟩
  case true =>
    rw [y1] at x1
    have y1' : (memF ts os a).1 = 0 := by simpa using y1
    obtain ⟨ht, hfa, hla, hof⟩ := memF_zero y1'
    have y3 : ((memF ts os (-1)).1 == 0) = true := by simpa using memF_top y1'
    rw [y3] at x3
    cases y2 : ((memF ts os b).1 == 0)
    case false =>
      have l2 := memL_len y2
      rw [y2] at x2
      clear ht hfa hla hof y1'
      go_enter Try.func6, Try.ntmps6
      go_wp2_with fail
      refine (members_any A cp ts A2 cp2 os a w (HE2.out _ hb) hn hcap hcm (HO2.out _ hb) hon hocap hocm).mono ?_
      rintro e w1 ⟨v1, rfl, ⟨A1, c1, rfl, hN1, hk1, hm1⟩, hb1⟩
      go_wp2_with fail
      have hy1 : Below w.heap.size w (w1.alloc (.cells #[.int .i64 (memF ts os a).1, .int .i64 (memF ts os a).2] 26)) := hb1.alloc hb1.size _
      refine (members_any A cp ts A2 cp2 os b _ (HE2.out _ hy1) hn hcap hcm (HO2.out _ hy1) hon hocap hocm).mono ?_
      rintro e w2 ⟨v2, rfl, ⟨A3, c2, rfl, hN2, hk2, hm2⟩, hb2⟩
      have hz1 := hy1.size
      have hy2 : Below w.heap.size w w2 := hy1.trans (hb2.mono hz1)
      have t1 := two_to (two_new w1 (.int .i64 (memF ts os a).1) (.int .i64 (memF ts os a).2) 26) hb2
      have hM1 : Nums w2 w2.heap.size A1 (memL ts os a) := (hN1.to ((Below.refl _ _).alloc (Nat.le_refl _) (.cells #[.int .i64 (memF ts os a).1, .int .i64 (memF ts os a).2] 26)) (B' := (w1.alloc (.cells #[.int .i64 (memF ts os a).1, .int .i64 (memF ts os a).2] 26)).heap.size) (by simp)).to hb2 hb2.size
      go_wp2_with fail
      have hy3 : Below w.heap.size w (w2.alloc (.cells #[.int .i64 (memF ts os b).1, .int .i64 (memF ts os b).2] 26)) := hy2.alloc hy2.size _
      refine (members_any A cp ts A2 cp2 os (-1) _ (HE2.out _ hy3) hn hcap hcm (HO2.out _ hy3) hon hocap hocm).mono ?_
      rintro e w3 ⟨v3, rfl, ⟨A4, c3, rfl, hN3, hk3, hm3⟩, hb3⟩
      have hz3 := hy3.size
      have hy4 : Below w.heap.size w w3 := hy3.trans (hb3.mono hz3)
      have t12 := two_to (t1.alloc (.cells #[.int .i64 (memF ts os b).1, .int .i64 (memF ts os b).2] 26)) hb3
      have t2 := two_to (two_new w2 (.int .i64 (memF ts os b).1) (.int .i64 (memF ts os b).2) 26) hb3
      have hM2 : Nums w3 w3.heap.size A1 (memL ts os a) := (hM1.to ((Below.refl _ _).alloc (Nat.le_refl _) (.cells #[.int .i64 (memF ts os b).1, .int .i64 (memF ts os b).2] 26)) (B' := (w2.alloc (.cells #[.int .i64 (memF ts os b).1, .int .i64 (memF ts os b).2] 26)).heap.size) (by simp)).to hb3 hb3.size
      have hM3 : Nums w3 w3.heap.size A3 (memL ts os b) := (hN2.to ((Below.refl _ _).alloc (Nat.le_refl _) (.cells #[.int .i64 (memF ts os b).1, .int .i64 (memF ts os b).2] 26)) (B' := (w2.alloc (.cells #[.int .i64 (memF ts os b).1, .int .i64 (memF ts os b).2] 26)).heap.size) (by simp)).to hb3 hb3.size
      have hy5 : Below w.heap.size w (w3.alloc (.cells #[.int .i64 (memF ts os (-1)).1, .int .i64 (memF ts os (-1)).2] 26)) := hy4.alloc hy4.size _
      go_wp2_with fail
      refine (typed_any _).mono ?_
      rintro e w4 ⟨rfl, hb4⟩
      have t13 := two_to (t12.alloc (.cells #[.int .i64 (memF ts os (-1)).1, .int .i64 (memF ts os (-1)).2] 26)) hb4
      have t23 := two_to (t2.alloc (.cells #[.int .i64 (memF ts os (-1)).1, .int .i64 (memF ts os (-1)).2] 26)) hb4
      have t3 := two_to (two_new w3 (.int .i64 (memF ts os (-1)).1) (.int .i64 (memF ts os (-1)).2) 26) hb4
      have hM4 : Nums w4 w4.heap.size A1 (memL ts os a) := (hM2.to ((Below.refl _ _).alloc (Nat.le_refl _) (.cells #[.int .i64 (memF ts os (-1)).1, .int .i64 (memF ts os (-1)).2] 26)) (B' := (w3.alloc (.cells #[.int .i64 (memF ts os (-1)).1, .int .i64 (memF ts os (-1)).2] 26)).heap.size) (by simp)).to hb4 hb4.size
      have hM5 : Nums w4 w4.heap.size A3 (memL ts os b) := (hM3.to ((Below.refl _ _).alloc (Nat.le_refl _) (.cells #[.int .i64 (memF ts os (-1)).1, .int .i64 (memF ts os (-1)).2] 26)) (B' := (w3.alloc (.cells #[.int .i64 (memF ts os (-1)).1, .int .i64 (memF ts os (-1)).2] 26)).heap.size) (by simp)).to hb4 hb4.size
      have hz5 := hy5.size
      have hy6 : Below w.heap.size w w4 := hy5.trans (hb4.mono hz5)
      obtain ⟨_, g1, _, _, _⟩ := t13
      obtain ⟨_, g2, _, _, _⟩ := t23
      obtain ⟨_, g3, _, _, _⟩ := t3
      clear t1 t12 t2 hM1 hM2 hM3 hN1 hN2 hN3 hk1 hm1 hk2 hm2 hk3 hm3
      go_wp2
      go_ret
      exact ⟨rfl, hy6⟩
    case true =>
      rw [y2] at x2
      have y2' : (memF ts os b).1 = 0 := by simpa using y2
      have y3' : (memF ts os (-1)).1 = 0 := by simpa using y3
      obtain ⟨_, hfb, hlb, _⟩ := memF_zero y2'
      have hlt := (memF_zero y3').2.2.1
      have e3 : (((memL ts os (-1)).length : Int) == os.length) = true := by
        rw [hlt, mems_all ht hof os.length (Nat.le_refl _)]; simp
      have z1 : (memL ts os a).length ≤ maxLen := by rw [hla]; exact Nat.le_trans (mems_len _ _ _ _) hon
      have z2 : (memL ts os b).length ≤ maxLen := by rw [hlb]; exact Nat.le_trans (mems_len _ _ _ _) hon
      cases s1 : subM ts a b
      case false =>
        clear ht hfa hla hof y1' y2' y3' hfb hlb hlt
        go_enter Try.func6, Try.ntmps6
        go_wp2_with fail
        refine (members_any A cp ts A2 cp2 os a w (HE2.out _ hb) hn hcap hcm (HO2.out _ hb) hon hocap hocm).mono ?_
        rintro e w1 ⟨v1, rfl, ⟨A1, c1, rfl, hN1, hk1, hm1⟩, hb1⟩
        go_wp2_with fail
        have hy1 : Below w.heap.size w (w1.alloc (.cells #[.int .i64 (memF ts os a).1, .int .i64 (memF ts os a).2] 26)) := hb1.alloc hb1.size _
        refine (members_any A cp ts A2 cp2 os b _ (HE2.out _ hy1) hn hcap hcm (HO2.out _ hy1) hon hocap hocm).mono ?_
        rintro e w2 ⟨v2, rfl, ⟨A3, c2, rfl, hN2, hk2, hm2⟩, hb2⟩
        have hz1 := hy1.size
        have hy2 : Below w.heap.size w w2 := hy1.trans (hb2.mono hz1)
        have t1 := two_to (two_new w1 (.int .i64 (memF ts os a).1) (.int .i64 (memF ts os a).2) 26) hb2
        have hM1 : Nums w2 w2.heap.size A1 (memL ts os a) := (hN1.to ((Below.refl _ _).alloc (Nat.le_refl _) (.cells #[.int .i64 (memF ts os a).1, .int .i64 (memF ts os a).2] 26)) (B' := (w1.alloc (.cells #[.int .i64 (memF ts os a).1, .int .i64 (memF ts os a).2] 26)).heap.size) (by simp)).to hb2 hb2.size
        go_wp2_with fail
        have hy3 : Below w.heap.size w (w2.alloc (.cells #[.int .i64 (memF ts os b).1, .int .i64 (memF ts os b).2] 26)) := hy2.alloc hy2.size _
        refine (members_any A cp ts A2 cp2 os (-1) _ (HE2.out _ hy3) hn hcap hcm (HO2.out _ hy3) hon hocap hocm).mono ?_
        rintro e w3 ⟨v3, rfl, ⟨A4, c3, rfl, hN3, hk3, hm3⟩, hb3⟩
        have hz3 := hy3.size
        have hy4 : Below w.heap.size w w3 := hy3.trans (hb3.mono hz3)
        have t12 := two_to (t1.alloc (.cells #[.int .i64 (memF ts os b).1, .int .i64 (memF ts os b).2] 26)) hb3
        have t2 := two_to (two_new w2 (.int .i64 (memF ts os b).1) (.int .i64 (memF ts os b).2) 26) hb3
        have hM2 : Nums w3 w3.heap.size A1 (memL ts os a) := (hM1.to ((Below.refl _ _).alloc (Nat.le_refl _) (.cells #[.int .i64 (memF ts os b).1, .int .i64 (memF ts os b).2] 26)) (B' := (w2.alloc (.cells #[.int .i64 (memF ts os b).1, .int .i64 (memF ts os b).2] 26)).heap.size) (by simp)).to hb3 hb3.size
        have hM3 : Nums w3 w3.heap.size A3 (memL ts os b) := (hN2.to ((Below.refl _ _).alloc (Nat.le_refl _) (.cells #[.int .i64 (memF ts os b).1, .int .i64 (memF ts os b).2] 26)) (B' := (w2.alloc (.cells #[.int .i64 (memF ts os b).1, .int .i64 (memF ts os b).2] 26)).heap.size) (by simp)).to hb3 hb3.size
        have hy5 : Below w.heap.size w (w3.alloc (.cells #[.int .i64 (memF ts os (-1)).1, .int .i64 (memF ts os (-1)).2] 26)) := hy4.alloc hy4.size _
        go_wp2_with fail
        refine (typed_any _).mono ?_
        rintro e w4 ⟨rfl, hb4⟩
        have t13 := two_to (t12.alloc (.cells #[.int .i64 (memF ts os (-1)).1, .int .i64 (memF ts os (-1)).2] 26)) hb4
        have t23 := two_to (t2.alloc (.cells #[.int .i64 (memF ts os (-1)).1, .int .i64 (memF ts os (-1)).2] 26)) hb4
        have t3 := two_to (two_new w3 (.int .i64 (memF ts os (-1)).1) (.int .i64 (memF ts os (-1)).2) 26) hb4
        have hM4 : Nums w4 w4.heap.size A1 (memL ts os a) := (hM2.to ((Below.refl _ _).alloc (Nat.le_refl _) (.cells #[.int .i64 (memF ts os (-1)).1, .int .i64 (memF ts os (-1)).2] 26)) (B' := (w3.alloc (.cells #[.int .i64 (memF ts os (-1)).1, .int .i64 (memF ts os (-1)).2] 26)).heap.size) (by simp)).to hb4 hb4.size
        have hM5 : Nums w4 w4.heap.size A3 (memL ts os b) := (hM3.to ((Below.refl _ _).alloc (Nat.le_refl _) (.cells #[.int .i64 (memF ts os (-1)).1, .int .i64 (memF ts os (-1)).2] 26)) (B' := (w3.alloc (.cells #[.int .i64 (memF ts os (-1)).1, .int .i64 (memF ts os (-1)).2] 26)).heap.size) (by simp)).to hb4 hb4.size
        have hz5 := hy5.size
        have hy6 : Below w.heap.size w w4 := hy5.trans (hb4.mono hz5)
        obtain ⟨_, g1, _, _, _⟩ := t13
        obtain ⟨_, g2, _, _, _⟩ := t23
        obtain ⟨_, g3, _, _, _⟩ := t3
        clear t1 t12 t2 hM1 hM2 hM3 hN1 hN2 hN3 hk1 hm1 hk2 hm2 hk3 hm3
        go_wp2_with (go_at_call 19; refine (lsub_any A cp ts a b _ (HE2.out _ hy6) hn hcap hcm).mono ?_; rintro e w5 ⟨rfl, hb5⟩)
        go_ret
        exact ⟨rfl, hy6.trans (hb5.mono hy6.size)⟩
      case true =>
        have HSB : Hid (subB (memL ts os a) (memL ts os b) = true) := by
          rw [hla, hlb]
          exact Lib.hid (mems_sub ht hfa hfb hof s1)
        clear ht hfa hla hof y1' y2' y3' hfb hlb hlt
        go_enter Try.func6, Try.ntmps6
        go_wp2_with fail
        refine (members_any A cp ts A2 cp2 os a w (HE2.out _ hb) hn hcap hcm (HO2.out _ hb) hon hocap hocm).mono ?_
        rintro e w1 ⟨v1, rfl, ⟨A1, c1, rfl, hN1, hk1, hm1⟩, hb1⟩
        go_wp2_with fail
        have hy1 : Below w.heap.size w (w1.alloc (.cells #[.int .i64 (memF ts os a).1, .int .i64 (memF ts os a).2] 26)) := hb1.alloc hb1.size _
        refine (members_any A cp ts A2 cp2 os b _ (HE2.out _ hy1) hn hcap hcm (HO2.out _ hy1) hon hocap hocm).mono ?_
        rintro e w2 ⟨v2, rfl, ⟨A3, c2, rfl, hN2, hk2, hm2⟩, hb2⟩
        have hz1 := hy1.size
        have hy2 : Below w.heap.size w w2 := hy1.trans (hb2.mono hz1)
        have t1 := two_to (two_new w1 (.int .i64 (memF ts os a).1) (.int .i64 (memF ts os a).2) 26) hb2
        have hM1 : Nums w2 w2.heap.size A1 (memL ts os a) := (hN1.to ((Below.refl _ _).alloc (Nat.le_refl _) (.cells #[.int .i64 (memF ts os a).1, .int .i64 (memF ts os a).2] 26)) (B' := (w1.alloc (.cells #[.int .i64 (memF ts os a).1, .int .i64 (memF ts os a).2] 26)).heap.size) (by simp)).to hb2 hb2.size
        go_wp2_with fail
        have hy3 : Below w.heap.size w (w2.alloc (.cells #[.int .i64 (memF ts os b).1, .int .i64 (memF ts os b).2] 26)) := hy2.alloc hy2.size _
        refine (members_any A cp ts A2 cp2 os (-1) _ (HE2.out _ hy3) hn hcap hcm (HO2.out _ hy3) hon hocap hocm).mono ?_
        rintro e w3 ⟨v3, rfl, ⟨A4, c3, rfl, hN3, hk3, hm3⟩, hb3⟩
        have hz3 := hy3.size
        have hy4 : Below w.heap.size w w3 := hy3.trans (hb3.mono hz3)
        have t12 := two_to (t1.alloc (.cells #[.int .i64 (memF ts os b).1, .int .i64 (memF ts os b).2] 26)) hb3
        have t2 := two_to (two_new w2 (.int .i64 (memF ts os b).1) (.int .i64 (memF ts os b).2) 26) hb3
        have hM2 : Nums w3 w3.heap.size A1 (memL ts os a) := (hM1.to ((Below.refl _ _).alloc (Nat.le_refl _) (.cells #[.int .i64 (memF ts os b).1, .int .i64 (memF ts os b).2] 26)) (B' := (w2.alloc (.cells #[.int .i64 (memF ts os b).1, .int .i64 (memF ts os b).2] 26)).heap.size) (by simp)).to hb3 hb3.size
        have hM3 : Nums w3 w3.heap.size A3 (memL ts os b) := (hN2.to ((Below.refl _ _).alloc (Nat.le_refl _) (.cells #[.int .i64 (memF ts os b).1, .int .i64 (memF ts os b).2] 26)) (B' := (w2.alloc (.cells #[.int .i64 (memF ts os b).1, .int .i64 (memF ts os b).2] 26)).heap.size) (by simp)).to hb3 hb3.size
        have hy5 : Below w.heap.size w (w3.alloc (.cells #[.int .i64 (memF ts os (-1)).1, .int .i64 (memF ts os (-1)).2] 26)) := hy4.alloc hy4.size _
        go_wp2_with fail
        refine (typed_any _).mono ?_
        rintro e w4 ⟨rfl, hb4⟩
        have t13 := two_to (t12.alloc (.cells #[.int .i64 (memF ts os (-1)).1, .int .i64 (memF ts os (-1)).2] 26)) hb4
        have t23 := two_to (t2.alloc (.cells #[.int .i64 (memF ts os (-1)).1, .int .i64 (memF ts os (-1)).2] 26)) hb4
        have t3 := two_to (two_new w3 (.int .i64 (memF ts os (-1)).1) (.int .i64 (memF ts os (-1)).2) 26) hb4
        have hM4 : Nums w4 w4.heap.size A1 (memL ts os a) := (hM2.to ((Below.refl _ _).alloc (Nat.le_refl _) (.cells #[.int .i64 (memF ts os (-1)).1, .int .i64 (memF ts os (-1)).2] 26)) (B' := (w3.alloc (.cells #[.int .i64 (memF ts os (-1)).1, .int .i64 (memF ts os (-1)).2] 26)).heap.size) (by simp)).to hb4 hb4.size
        have hM5 : Nums w4 w4.heap.size A3 (memL ts os b) := (hM3.to ((Below.refl _ _).alloc (Nat.le_refl _) (.cells #[.int .i64 (memF ts os (-1)).1, .int .i64 (memF ts os (-1)).2] 26)) (B' := (w3.alloc (.cells #[.int .i64 (memF ts os (-1)).1, .int .i64 (memF ts os (-1)).2] 26)).heap.size) (by simp)).to hb4 hb4.size
        have hz5 := hy5.size
        have hy6 : Below w.heap.size w w4 := hy5.trans (hb4.mono hz5)
        obtain ⟨_, g1, _, _, _⟩ := t13
        obtain ⟨_, g2, _, _, _⟩ := t23
        obtain ⟨_, g3, _, _, _⟩ := t3
        clear t1 t12 t2 hM1 hM2 hM3 hN1 hN2 hN3 hk1 hm1 hk2 hm2 hk3 hm3
        go_wp2_with (go_at_call 19; refine (lsub_any A cp ts a b _ (HE2.out _ hy6) hn hcap hcm).mono ?_; rintro e w5 ⟨rfl, hb5⟩)
        refine (subset_any _ _ _ _ _ _ _ (hM4.to hb5 hb5.size) (hM5.to hb5 hb5.size) z1 z2).mono ?_
        rw [HSB.out]
        rintro e w6 ⟨rfl, rfl⟩
        go_wp2
        go_ret
        exact ⟨rfl, hy6.trans (hb5.mono hy6.size)⟩

end Go.Proofs.Ytjmkilmpfaapbaa

/- TypesMatchSpec: the walk. -/
import Derived.Test.YtjmkilmpfaapbaaTord
import Derived.Test.YtjmkilmpfaapbaaTmof
namespace Go.Proofs.Ytjmkilmpfaapbaa
open Go.RowKit
set_option linter.unusedSimpArgs false
set_option linter.unusedVariables false
set_option maxRecDepth 100000

theorem usedF_two (ts : List Ent) (a : Int) : usedF ts [a, a] = usedF ts [a] := by
  unfold usedF
  have : [a, a].all (istB ts.length) = [a].all (istB ts.length) := by simp
  rw [this]
theorem ty_len {ts : List Ent} (h : (tyFault ts).1 = 0) : ts.length ≤ 8 := by
  unfold tyFault at h
  split at h
  · cases h
  · omega
theorem memF_bad {ts os : List Ent} {a : Int} (h : (usedF ts [a, a]).1 ≠ 0) : memF ts os a = usedF ts [a, a] ∧ memL ts os a = [] := by
  rw [usedF_two] at h ⊢
  refine ⟨by simp [memF, h], by simp [memL, memF, h]⟩
theorem memF_ob {ts os : List Ent} {a : Int} (h : (usedF ts [a, a]).1 = 0) (h2 : (obFault ts.length os).1 ≠ 0) : memF ts os a = obFault ts.length os ∧ memL ts os a = [] := by
  rw [usedF_two] at h
  refine ⟨by simp [memF, h], by simp [memL, memF, h, h2]⟩
theorem memF_good {ts os : List Ent} {a : Int} (h : (usedF ts [a, a]).1 = 0) (h2 : (obFault ts.length os).1 = 0) : memF ts os a = (0, 0) ∧ memL ts os a = mems ts os a os.length := by
  rw [usedF_two] at h
  refine ⟨by simp [memF, h, (obFault_ok h2).1], by simp [memL, memF, h, h2]⟩
theorem used_first {ts : List Ent} {a b : Int} (h : (usedF ts [a, b]).1 = 0) : (usedF ts [a, a]).1 = 0 :=
  used_ok (usedF_zero h).2.1 (fine_of h).2.1 (fine_of h).2.1
theorem eqL_self (xs : List Int) : eqL xs xs = true := by simp [eqL]

section
variable (A : Option Addr) (cp : Nat) (ts : List Ent) (A2 : Option Addr) (cp2 : Nat) (os : List Ent) (a b : Int) (w : World) (hE : Ents w w.heap.size A ts) (hn : ts.length ≤ maxLen) (hcap : ts.length ≤ cp) (hcm : cp ≤ maxLen)
    (hO : Ents w w.heap.size A2 os) (hon : os.length ≤ maxLen) (hocap : os.length ≤ cp2) (hocm : cp2 ≤ maxLen)
include hE hn hcap hcm hO hon hocap hocm

set_option maxRecDepth 100000 in
set_option maxHeartbeats 8000000 in
theorem match_bad (h1 : (usedF ts [a, b]).1 ≠ 0) (h2 : (usedF ts [a, a]).1 ≠ 0) :
    Calls Try.prog 3 #[.slice A ts.length cp, .slice A2 os.length cp2, .int .i64 a, .int .i64 b] w fun e w' => e = .returned (.bool true) ∧ Below w.heap.size w w' := by
  have HE2 := Lib.hid (fun (W : World) (h : Below w.heap.size w W) => hE.to (B' := W.heap.size) h h.size)
  have HO2 := Lib.hid (fun (W : World) (h : Below w.heap.size w W) => hO.to (B' := W.heap.size) h h.size)
  clear hE hO
  have HX := Lib.hid (show subM ts a b = false by simp [subM, h1])
  have HY := Lib.hid (show joinR ts a b = 0 by simp [joinR, h1])
  obtain ⟨hf, hl⟩ := memF_bad (os := os) h2
  have HMF := Lib.hid hf
  have HML := Lib.hid hl
  have n1 : ((usedF ts [a, b]).1 != 0) = true := by simpa using h1
  have e1 : ((usedF ts [a, b]).1 == 0) = false := by simpa using h1
  have n2 : ((usedF ts [a, a]).1 != 0) = true := by simpa using h2
  have e2 : ((usedF ts [a, a]).1 == 0) = false := by simpa using h2
  clear hf hl h1 h2
  go_enter Try.func3, Try.ntmps3
  go_wp2_with fail
  refine (typed_any _).mono ?_
  rintro e w1 ⟨rfl, hb1⟩
  go_wp2_with fail
  refine (validate_any A cp ts w1 (HE2.out w1 hb1) hn hcap hcm).mono ?_
  rintro e w2 ⟨rfl, hb2⟩
  have hy2 : Below w.heap.size w w2 := hb1.trans (hb2.mono hb1.size)
  go_wp2_with fail
  refine (typesFault_any A cp ts w2 (HE2.out w2 hy2) hn).mono ?_
  rintro e w3 ⟨rfl, hb3⟩
  have hy3 : Below w.heap.size w w3 := hy2.trans (hb3.mono hy2.size)
  go_wp2_with fail
  refine (usedFault_any A cp ts a b w3 (HE2.out w3 hy3) hn).mono ?_
  rintro e w4 ⟨rfl, hb4⟩
  have hy4 : Below w.heap.size w w4 := hy3.trans (hb4.mono hy3.size)
  have hy4b : Below w.heap.size w (w4.alloc (.cells #[(.int .i64 (usedF ts [a, b]).1), (.int .i64 (usedF ts [a, b]).2)] 26)) := hy4.alloc hy4.size _
  go_wp2_with fail
  refine (sub_any A cp ts a b _ (HE2.out _ hy4b) hn hcap hcm).mono ?_
  rw [HX.out]
  rintro e w5 ⟨rfl, hb5⟩
  have hy5 : Below w.heap.size w w5 := hy4b.trans (hb5.mono hy4b.size)
  have t9 := two_to (two_new w4 (.int .i64 (usedF ts [a, b]).1) (.int .i64 (usedF ts [a, b]).2) 26) hb5
  have hy5b : Below w.heap.size w (w5.alloc (.cells #[(.int .i64 (usedF ts [a, b]).1), (.int .i64 (usedF ts [a, b]).2)] 26)) := hy5.alloc hy5.size _
  go_wp2_with fail
  refine (join_any A cp ts a b _ (HE2.out _ hy5b) hn hcap hcm).mono ?_
  rw [HY.out]
  rintro e w6 ⟨rfl, hb6⟩
  have hy6 : Below w.heap.size w w6 := hy5b.trans (hb6.mono hy5b.size)
  have t9b := two_to (t9.alloc (.cells #[(.int .i64 (usedF ts [a, b]).1), (.int .i64 (usedF ts [a, b]).2)] 26)) hb6
  have t11 := two_to (two_new w5 (.int .i64 (usedF ts [a, b]).1) (.int .i64 (usedF ts [a, b]).2) 26) hb6
  have t9c := t9b
  obtain ⟨_, p0, p1, _, _⟩ := t9b
  obtain ⟨_, r0, r1, _, _⟩ := t11
  have hy6b : Below w.heap.size w (w6.alloc (.cells #[(.int .i64 (usedF ts [a, b]).1), (.int .i64 (usedF ts [a, b]).2)] 26)) := hy6.alloc hy6.size _
  have T9 := t9c.alloc (.cells #[(.int .i64 (usedF ts [a, b]).1), (.int .i64 (usedF ts [a, b]).2)] 26)
  clear t9
  go_wp2_with fail
  generalize hX : w6.alloc (.cells #[(.int .i64 (usedF ts [a, b]).1), (.int .i64 (usedF ts [a, b]).2)] 26) = wx at hy6b T9 ⊢
  have hyx := hy6b
  have Tx := T9
  clear hX p0 p1 r0 r1 T9
  refine (usedFault_any A cp ts a a wx (HE2.out wx hyx) hn).mono ?_
  rintro e w9 ⟨rfl, hb9⟩
  have hy9 : Below w.heap.size w w9 := hyx.trans (hb9.mono hyx.size)
  have T9a := two_to Tx hb9
  have T9b := T9a.set (.int .i64 (usedF ts [a, a]).1) (.int .i64 (usedF ts [a, a]).2)
  have hg : w.heap.size ≤ w4.heap.size := hy4.size
  obtain ⟨_, q0, q1, qf0, qf1⟩ := T9a
  go_wp2_with fail
  generalize hW : (w9.setCell ⟨w4.heap.size, 0, none⟩ (.int .i64 (usedF ts [a, a]).1)).setCell ⟨w4.heap.size, 1, none⟩ (.int .i64 (usedF ts [a, a]).2) = wa at T9b ⊢
  have hya : Below w.heap.size w wa := by
    rw [← hW]
    exact (hy9.setCell hg _).setCell hg _
  clear hW q0 q1 qf0 qf1
  refine (members_any A cp ts A2 cp2 os a wa (HE2.out wa hya) hn hcap hcm (HO2.out wa hya) hon hocap hocm).mono ?_
  rw [HMF.out, HML.out]
  rintro e w11 ⟨v1, rfl, ⟨A1, c1, rfl, hN1, hk1, hm1⟩, hb11⟩
  have hy11 : Below w.heap.size w w11 := hya.trans (hb11.mono hya.size)
  have T11 := two_to T9b hb11
  obtain ⟨_, q0, q1, _, _⟩ := T11
  go_wp2
  go_ret
  exact ⟨rfl, hy11.alloc hy11.size _⟩


set_option maxRecDepth 100000 in
set_option maxHeartbeats 8000000 in
theorem match_bad_ob (h1 : (usedF ts [a, b]).1 ≠ 0) (h2 : (usedF ts [a, a]).1 = 0) (h3 : (obFault ts.length os).1 ≠ 0) :
    Calls Try.prog 3 #[.slice A ts.length cp, .slice A2 os.length cp2, .int .i64 a, .int .i64 b] w fun e w' => e = .returned (.bool true) ∧ Below w.heap.size w w' := by
  have HE2 := Lib.hid (fun (W : World) (h : Below w.heap.size w W) => hE.to (B' := W.heap.size) h h.size)
  have HO2 := Lib.hid (fun (W : World) (h : Below w.heap.size w W) => hO.to (B' := W.heap.size) h h.size)
  clear hE hO
  have HX := Lib.hid (show subM ts a b = false by simp [subM, h1])
  have HY := Lib.hid (show joinR ts a b = 0 by simp [joinR, h1])
  have HV := Lib.hid (usedF_zero h2).1
  obtain ⟨hf, hl⟩ := memF_ob (os := os) h2 h3
  have HMF := Lib.hid hf
  have HML := Lib.hid hl
  have n1 : ((usedF ts [a, b]).1 != 0) = true := by simpa using h1
  have e1 : ((usedF ts [a, b]).1 == 0) = false := by simpa using h1
  have n2 : ((obFault ts.length os).1 != 0) = true := by simpa using h3
  have e2 : ((obFault ts.length os).1 == 0) = false := by simpa using h3
  clear hf hl h1 h2 h3
  go_enter Try.func3, Try.ntmps3
  go_wp2_with fail
  refine (typed_any _).mono ?_
  rintro e w1 ⟨rfl, hb1⟩
  go_wp2_with fail
  refine (validate_any A cp ts w1 (HE2.out w1 hb1) hn hcap hcm).mono ?_
  rintro e w2 ⟨rfl, hb2⟩
  have hy2 : Below w.heap.size w w2 := hb1.trans (hb2.mono hb1.size)
  go_wp2_with fail
  refine (typesFault_any A cp ts w2 (HE2.out w2 hy2) hn).mono ?_
  rintro e w3 ⟨rfl, hb3⟩
  have hy3 : Below w.heap.size w w3 := hy2.trans (hb3.mono hy2.size)
  go_wp2_with fail
  refine (usedFault_any A cp ts a b w3 (HE2.out w3 hy3) hn).mono ?_
  rintro e w4 ⟨rfl, hb4⟩
  have hy4 : Below w.heap.size w w4 := hy3.trans (hb4.mono hy3.size)
  have hy4b : Below w.heap.size w (w4.alloc (.cells #[(.int .i64 (usedF ts [a, b]).1), (.int .i64 (usedF ts [a, b]).2)] 26)) := hy4.alloc hy4.size _
  go_wp2_with fail
  refine (sub_any A cp ts a b _ (HE2.out _ hy4b) hn hcap hcm).mono ?_
  rw [HX.out]
  rintro e w5 ⟨rfl, hb5⟩
  have hy5 : Below w.heap.size w w5 := hy4b.trans (hb5.mono hy4b.size)
  have t9 := two_to (two_new w4 (.int .i64 (usedF ts [a, b]).1) (.int .i64 (usedF ts [a, b]).2) 26) hb5
  have hy5b : Below w.heap.size w (w5.alloc (.cells #[(.int .i64 (usedF ts [a, b]).1), (.int .i64 (usedF ts [a, b]).2)] 26)) := hy5.alloc hy5.size _
  go_wp2_with fail
  refine (join_any A cp ts a b _ (HE2.out _ hy5b) hn hcap hcm).mono ?_
  rw [HY.out]
  rintro e w6 ⟨rfl, hb6⟩
  have hy6 : Below w.heap.size w w6 := hy5b.trans (hb6.mono hy5b.size)
  have t9b := two_to (t9.alloc (.cells #[(.int .i64 (usedF ts [a, b]).1), (.int .i64 (usedF ts [a, b]).2)] 26)) hb6
  have t11 := two_to (two_new w5 (.int .i64 (usedF ts [a, b]).1) (.int .i64 (usedF ts [a, b]).2) 26) hb6
  have t9c := t9b
  obtain ⟨_, p0, p1, _, _⟩ := t9b
  obtain ⟨_, r0, r1, _, _⟩ := t11
  have hy6b : Below w.heap.size w (w6.alloc (.cells #[(.int .i64 (usedF ts [a, b]).1), (.int .i64 (usedF ts [a, b]).2)] 26)) := hy6.alloc hy6.size _
  have T9 := t9c.alloc (.cells #[(.int .i64 (usedF ts [a, b]).1), (.int .i64 (usedF ts [a, b]).2)] 26)
  clear t9
  go_wp2_with fail
  generalize hX : w6.alloc (.cells #[(.int .i64 (usedF ts [a, b]).1), (.int .i64 (usedF ts [a, b]).2)] 26) = wx at hy6b T9 ⊢
  have hyx := hy6b
  have Tx := T9
  clear hX p0 p1 r0 r1 T9
  refine (usedFault_any A cp ts a a wx (HE2.out wx hyx) hn).mono ?_
  rw [HV.out]
  rintro e w9 ⟨rfl, hb9⟩
  have hy9 : Below w.heap.size w w9 := hyx.trans (hb9.mono hyx.size)
  have T9a := two_to Tx hb9
  have T9b := T9a.set (.int .i64 0) (.int .i64 0)
  have hg : w.heap.size ≤ w4.heap.size := hy4.size
  obtain ⟨_, q0, q1, qf0, qf1⟩ := T9a
  go_wp2_with fail
  generalize hW : (w9.setCell ⟨w4.heap.size, 0, none⟩ (.int .i64 0)).setCell ⟨w4.heap.size, 1, none⟩ (.int .i64 0) = wa at T9b ⊢
  have hya : Below w.heap.size w wa := by
    rw [← hW]
    exact (hy9.setCell hg _).setCell hg _
  clear hW q0 q1 qf0 qf1
  refine (objectsFault_any A ts.length cp hn A2 cp2 os wa (HO2.out wa hya) hon).mono ?_
  rintro e w10 ⟨rfl, hb10⟩
  have hy10 : Below w.heap.size w w10 := hya.trans (hb10.mono hya.size)
  have T10a := two_to T9b hb10
  have T10b := T10a.set (.int .i64 (obFault ts.length os).1) (.int .i64 (obFault ts.length os).2)
  obtain ⟨_, q0, q1, qf0, qf1⟩ := T10a
  go_wp2_with fail
  generalize hW : (w10.setCell ⟨w4.heap.size, 0, none⟩ (.int .i64 (obFault ts.length os).1)).setCell ⟨w4.heap.size, 1, none⟩ (.int .i64 (obFault ts.length os).2) = wb at T10b ⊢
  have hyb : Below w.heap.size w wb := by
    rw [← hW]
    exact (hy10.setCell hg _).setCell hg _
  clear hW q0 q1 qf0 qf1
  refine (members_any A cp ts A2 cp2 os a wb (HE2.out wb hyb) hn hcap hcm (HO2.out wb hyb) hon hocap hocm).mono ?_
  rw [HMF.out, HML.out]
  rintro e w11 ⟨v1, rfl, ⟨A1, c1, rfl, hN1, hk1, hm1⟩, hb11⟩
  have hy11 : Below w.heap.size w w11 := hyb.trans (hb11.mono hyb.size)
  have T11 := two_to T10b hb11
  obtain ⟨_, q0, q1, _, _⟩ := T11
  go_wp2
  go_ret
  exact ⟨rfl, hy11.alloc hy11.size _⟩


set_option maxRecDepth 100000 in
set_option maxHeartbeats 8000000 in
theorem match_bad_good (h1 : (usedF ts [a, b]).1 ≠ 0) (h2 : (usedF ts [a, a]).1 = 0) (h3 : (obFault ts.length os).1 = 0) :
    Calls Try.prog 3 #[.slice A ts.length cp, .slice A2 os.length cp2, .int .i64 a, .int .i64 b] w fun e w' => e = .returned (.bool true) ∧ Below w.heap.size w w' := by
  have HE2 := Lib.hid (fun (W : World) (h : Below w.heap.size w W) => hE.to (B' := W.heap.size) h h.size)
  have HO2 := Lib.hid (fun (W : World) (h : Below w.heap.size w W) => hO.to (B' := W.heap.size) h h.size)
  clear hE hO
  have HX := Lib.hid (show subM ts a b = false by simp [subM, h1])
  have HY := Lib.hid (show joinR ts a b = 0 by simp [joinR, h1])
  have HV := Lib.hid (usedF_zero h2).1
  have ht := (usedF_zero h2).2.1
  have h8 := ty_len ht
  have HOR := Lib.hid (ordered_of ht)
  obtain ⟨hob, ho8, hof⟩ := obFault_ok h3
  have HOB := Lib.hid hob
  have HF := Lib.hid (fun (i : Nat) (hi : i < os.length) => (istB_iff _ _).1 (hof i hi))
  obtain ⟨hf, hl⟩ := memF_good (os := os) h2 h3
  have HMF := Lib.hid hf
  have HML := Lib.hid hl
  have HQ := Lib.hid (eqL_self (mems ts os a os.length))
  have n1 : ((usedF ts [a, b]).1 != 0) = true := by simpa using h1
  have e1 : ((usedF ts [a, b]).1 == 0) = false := by simpa using h1
  clear hf hl h1 h2 h3 ht hob hof
  go_enter Try.func3, Try.ntmps3
  go_wp2_with fail
  refine (typed_any _).mono ?_
  rintro e w1 ⟨rfl, hb1⟩
  go_wp2_with fail
  refine (validate_any A cp ts w1 (HE2.out w1 hb1) hn hcap hcm).mono ?_
  rintro e w2 ⟨rfl, hb2⟩
  have hy2 : Below w.heap.size w w2 := hb1.trans (hb2.mono hb1.size)
  go_wp2_with fail
  refine (typesFault_any A cp ts w2 (HE2.out w2 hy2) hn).mono ?_
  rintro e w3 ⟨rfl, hb3⟩
  have hy3 : Below w.heap.size w w3 := hy2.trans (hb3.mono hy2.size)
  go_wp2_with fail
  refine (usedFault_any A cp ts a b w3 (HE2.out w3 hy3) hn).mono ?_
  rintro e w4 ⟨rfl, hb4⟩
  have hy4 : Below w.heap.size w w4 := hy3.trans (hb4.mono hy3.size)
  have hy4b : Below w.heap.size w (w4.alloc (.cells #[(.int .i64 (usedF ts [a, b]).1), (.int .i64 (usedF ts [a, b]).2)] 26)) := hy4.alloc hy4.size _
  go_wp2_with fail
  refine (sub_any A cp ts a b _ (HE2.out _ hy4b) hn hcap hcm).mono ?_
  rw [HX.out]
  rintro e w5 ⟨rfl, hb5⟩
  have hy5 : Below w.heap.size w w5 := hy4b.trans (hb5.mono hy4b.size)
  have t9 := two_to (two_new w4 (.int .i64 (usedF ts [a, b]).1) (.int .i64 (usedF ts [a, b]).2) 26) hb5
  have hy5b : Below w.heap.size w (w5.alloc (.cells #[(.int .i64 (usedF ts [a, b]).1), (.int .i64 (usedF ts [a, b]).2)] 26)) := hy5.alloc hy5.size _
  go_wp2_with fail
  refine (join_any A cp ts a b _ (HE2.out _ hy5b) hn hcap hcm).mono ?_
  rw [HY.out]
  rintro e w6 ⟨rfl, hb6⟩
  have hy6 : Below w.heap.size w w6 := hy5b.trans (hb6.mono hy5b.size)
  have t9b := two_to (t9.alloc (.cells #[(.int .i64 (usedF ts [a, b]).1), (.int .i64 (usedF ts [a, b]).2)] 26)) hb6
  have t11 := two_to (two_new w5 (.int .i64 (usedF ts [a, b]).1) (.int .i64 (usedF ts [a, b]).2) 26) hb6
  have t9c := t9b
  obtain ⟨_, p0, p1, _, _⟩ := t9b
  obtain ⟨_, r0, r1, _, _⟩ := t11
  have hy6b : Below w.heap.size w (w6.alloc (.cells #[(.int .i64 (usedF ts [a, b]).1), (.int .i64 (usedF ts [a, b]).2)] 26)) := hy6.alloc hy6.size _
  have T9 := t9c.alloc (.cells #[(.int .i64 (usedF ts [a, b]).1), (.int .i64 (usedF ts [a, b]).2)] 26)
  clear t9
  go_wp2_with fail
  generalize hX : w6.alloc (.cells #[(.int .i64 (usedF ts [a, b]).1), (.int .i64 (usedF ts [a, b]).2)] 26) = wx at hy6b T9 ⊢
  have hyx := hy6b
  have Tx := T9
  clear hX p0 p1 r0 r1 T9
  refine (usedFault_any A cp ts a a wx (HE2.out wx hyx) hn).mono ?_
  rw [HV.out]
  rintro e w9 ⟨rfl, hb9⟩
  have hy9 : Below w.heap.size w w9 := hyx.trans (hb9.mono hyx.size)
  have T9a := two_to Tx hb9
  have T9b := T9a.set (.int .i64 0) (.int .i64 0)
  have hg : w.heap.size ≤ w4.heap.size := hy4.size
  obtain ⟨_, q0, q1, qf0, qf1⟩ := T9a
  go_wp2_with fail
  generalize hW : (w9.setCell ⟨w4.heap.size, 0, none⟩ (.int .i64 0)).setCell ⟨w4.heap.size, 1, none⟩ (.int .i64 0) = wa at T9b ⊢
  have hya : Below w.heap.size w wa := by
    rw [← hW]
    exact (hy9.setCell hg _).setCell hg _
  clear hW q0 q1 qf0 qf1
  refine (objectsFault_any A ts.length cp hn A2 cp2 os wa (HO2.out wa hya) hon).mono ?_
  rw [HOB.out]
  rintro e w10 ⟨rfl, hb10⟩
  have hy10 : Below w.heap.size w w10 := hya.trans (hb10.mono hya.size)
  have T10a := two_to T9b hb10
  have T10b := T10a.set (.int .i64 0) (.int .i64 0)
  obtain ⟨_, q0, q1, qf0, qf1⟩ := T10a
  go_wp2_with fail
  generalize hW : (w10.setCell ⟨w4.heap.size, 0, none⟩ (.int .i64 0)).setCell ⟨w4.heap.size, 1, none⟩ (.int .i64 0) = wb at T10b ⊢
  have hyb : Below w.heap.size w wb := by
    rw [← hW]
    exact (hy10.setCell hg _).setCell hg _
  clear hW q0 q1 qf0 qf1
  refine (members_any A cp ts A2 cp2 os a wb (HE2.out wb hyb) hn hcap hcm (HO2.out wb hyb) hon hocap hocm).mono ?_
  rw [HMF.out, HML.out]
  rintro e w11 ⟨v1, rfl, ⟨A1, c1, rfl, hN1, hk1, hm1⟩, hb11⟩
  have hy11 : Below w.heap.size w w11 := hyb.trans (hb11.mono hyb.size)
  have T11 := two_to T10b hb11
  obtain ⟨_, q0, q1, _, _⟩ := T11
  have hy11b : Below w.heap.size w (w11.alloc (.cells #[(.int .i64 0), (.int .i64 0)] 26)) := hy11.alloc hy11.size _
  have hN1b := hN1.to ((Below.refl _ _).alloc (Nat.le_refl _) (.cells #[(.int .i64 0), (.int .i64 0)] 26)) (B' := (w11.alloc (.cells #[(.int .i64 0), (.int .i64 0)] 26)).heap.size) (by simp)
  have hlm := mems_len ts os a os.length
  go_wp2_with fail
  refine (membersOf_any A cp ts A2 cp2 os a _ HOR.out h8 ho8 HF.out (HE2.out _ hy11b) (HO2.out _ hy11b)).mono ?_
  rintro e w12 ⟨v2, rfl, ⟨A3, c2, rfl, hN2, hk2, hm2⟩, hb12⟩
  have hy12 : Below w.heap.size w w12 := hy11b.trans (hb12.mono hy11b.size)
  go_wp2_with fail
  refine (ints_any _ _ _ _ _ _ _ (hN1b.to hb12 hb12.size) hN2 (by unfold maxLen; omega) (by unfold maxLen; omega)).mono ?_
  rw [HQ.out]
  rintro e w13 ⟨rfl, hb13⟩
  go_wp2
  go_ret
  exact ⟨rfl, hy12.trans (hb13.mono hy12.size)⟩


set_option maxRecDepth 100000 in
set_option maxHeartbeats 8000000 in
theorem match_ok_ob (h1 : (usedF ts [a, b]).1 = 0) (h3 : (obFault ts.length os).1 ≠ 0) :
    Calls Try.prog 3 #[.slice A ts.length cp, .slice A2 os.length cp2, .int .i64 a, .int .i64 b] w fun e w' => e = .returned (.bool true) ∧ Below w.heap.size w w' := by
  have HE2 := Lib.hid (fun (W : World) (h : Below w.heap.size w W) => hE.to (B' := W.heap.size) h h.size)
  have HO2 := Lib.hid (fun (W : World) (h : Below w.heap.size w W) => hO.to (B' := W.heap.size) h h.size)
  clear hE hO
  have h2 := used_first h1
  have HX := Lib.hid (show subM ts a b = memB (sup ts a) b by simp [subM, h1])
  have HY := Lib.hid (show joinR ts a b = joinM ts a b by simp [joinR, h1])
  have HU := Lib.hid (usedF_zero h1).1
  have HV := Lib.hid (usedF_zero h2).1
  have ht := (usedF_zero h2).2.1
  have h8 := ty_len ht
  have HO := Lib.hid (ordered_of ht)
  obtain ⟨_, ⟨ha0, han⟩, ⟨hbb0, hbn⟩⟩ := fine_of h1
  obtain ⟨hf, hl⟩ := memF_ob (os := os) h2 h3
  have HMF := Lib.hid hf
  have HML := Lib.hid hl
  have n2 : ((obFault ts.length os).1 != 0) = true := by simpa using h3
  have e2 : ((obFault ts.length os).1 == 0) = false := by simpa using h3
  clear hf hl h1 h2 h3 ht
  go_enter Try.func3, Try.ntmps3
  go_wp2_with fail
  refine (typed_any _).mono ?_
  rintro e w1 ⟨rfl, hb1⟩
  go_wp2_with fail
  refine (validate_any A cp ts w1 (HE2.out w1 hb1) hn hcap hcm).mono ?_
  rintro e w2 ⟨rfl, hb2⟩
  have hy2 : Below w.heap.size w w2 := hb1.trans (hb2.mono hb1.size)
  go_wp2_with fail
  refine (typesFault_any A cp ts w2 (HE2.out w2 hy2) hn).mono ?_
  rintro e w3 ⟨rfl, hb3⟩
  have hy3 : Below w.heap.size w w3 := hy2.trans (hb3.mono hy2.size)
  go_wp2_with fail
  refine (usedFault_any A cp ts a b w3 (HE2.out w3 hy3) hn).mono ?_
  rw [HU.out]
  rintro e w4 ⟨rfl, hb4⟩
  have hy4 : Below w.heap.size w w4 := hy3.trans (hb4.mono hy3.size)
  have hy4b : Below w.heap.size w (w4.alloc (.cells #[(.int .i64 0), (.int .i64 0)] 26)) := hy4.alloc hy4.size _
  go_wp2_with fail
  refine (sub_any A cp ts a b _ (HE2.out _ hy4b) hn hcap hcm).mono ?_
  rw [HX.out]
  rw [HU.out]
  rintro e w5 ⟨rfl, hb5⟩
  have hy5 : Below w.heap.size w w5 := hy4b.trans (hb5.mono hy4b.size)
  have t9 := two_to (two_new w4 (.int .i64 0) (.int .i64 0) 26) hb5
  have hy5b : Below w.heap.size w (w5.alloc (.cells #[(.int .i64 0), (.int .i64 0)] 26)) := hy5.alloc hy5.size _
  go_wp2_with fail
  refine (join_any A cp ts a b _ (HE2.out _ hy5b) hn hcap hcm).mono ?_
  rw [HY.out]
  rw [HU.out]
  rintro e w6 ⟨rfl, hb6⟩
  have hy6 : Below w.heap.size w w6 := hy5b.trans (hb6.mono hy5b.size)
  have t9b := two_to (t9.alloc (.cells #[(.int .i64 0), (.int .i64 0)] 26)) hb6
  have t11 := two_to (two_new w5 (.int .i64 0) (.int .i64 0) 26) hb6
  have t9c := t9b
  obtain ⟨_, p0, p1, _, _⟩ := t9b
  obtain ⟨_, r0, r1, _, _⟩ := t11
  have hy6b : Below w.heap.size w (w6.alloc (.cells #[(.int .i64 0), (.int .i64 0)] 26)) := hy6.alloc hy6.size _
  have T9 := t9c.alloc (.cells #[(.int .i64 0), (.int .i64 0)] 26)
  clear t9
  go_wp2_with fail
  refine (rsub_any A cp ts HO.out h8 a b _ ha0 han (HE2.out _ hy6b)).mono ?_
  rintro e w7 ⟨rfl, hb7⟩
  have hy7 : Below w.heap.size w w7 := hy6b.trans (hb7.mono hy6b.size)
  have T97 := two_to T9 hb7
  go_wp2_with fail
  refine (rjoin_any A cp ts HO.out h8 a b _ ha0 han hbb0 hbn (HE2.out _ hy7)).mono ?_
  rintro e wx ⟨rfl, hb8⟩
  have hyx : Below w.heap.size w wx := hy7.trans (hb8.mono hy7.size)
  have Tx := two_to T97 hb8
  clear T97 T9 p0 p1 r0 r1
  go_wp2_with fail
  refine (usedFault_any A cp ts a a wx (HE2.out wx hyx) hn).mono ?_
  rw [HV.out]
  rintro e w9 ⟨rfl, hb9⟩
  have hy9 : Below w.heap.size w w9 := hyx.trans (hb9.mono hyx.size)
  have T9a := two_to Tx hb9
  have T9b := T9a.set (.int .i64 0) (.int .i64 0)
  have hg : w.heap.size ≤ w4.heap.size := hy4.size
  obtain ⟨_, q0, q1, qf0, qf1⟩ := T9a
  go_wp2_with fail
  generalize hW : (w9.setCell ⟨w4.heap.size, 0, none⟩ (.int .i64 0)).setCell ⟨w4.heap.size, 1, none⟩ (.int .i64 0) = wa at T9b ⊢
  have hya : Below w.heap.size w wa := by
    rw [← hW]
    exact (hy9.setCell hg _).setCell hg _
  clear hW q0 q1 qf0 qf1
  refine (objectsFault_any A ts.length cp hn A2 cp2 os wa (HO2.out wa hya) hon).mono ?_
  rintro e w10 ⟨rfl, hb10⟩
  have hy10 : Below w.heap.size w w10 := hya.trans (hb10.mono hya.size)
  have T10a := two_to T9b hb10
  have T10b := T10a.set (.int .i64 (obFault ts.length os).1) (.int .i64 (obFault ts.length os).2)
  obtain ⟨_, q0, q1, qf0, qf1⟩ := T10a
  go_wp2_with fail
  generalize hW : (w10.setCell ⟨w4.heap.size, 0, none⟩ (.int .i64 (obFault ts.length os).1)).setCell ⟨w4.heap.size, 1, none⟩ (.int .i64 (obFault ts.length os).2) = wb at T10b ⊢
  have hyb : Below w.heap.size w wb := by
    rw [← hW]
    exact (hy10.setCell hg _).setCell hg _
  clear hW q0 q1 qf0 qf1
  refine (members_any A cp ts A2 cp2 os a wb (HE2.out wb hyb) hn hcap hcm (HO2.out wb hyb) hon hocap hocm).mono ?_
  rw [HMF.out, HML.out]
  rintro e w11 ⟨v1, rfl, ⟨A1, c1, rfl, hN1, hk1, hm1⟩, hb11⟩
  have hy11 : Below w.heap.size w w11 := hyb.trans (hb11.mono hyb.size)
  have T11 := two_to T10b hb11
  obtain ⟨_, q0, q1, _, _⟩ := T11
  go_wp2
  go_ret
  exact ⟨rfl, hy11.alloc hy11.size _⟩


set_option maxRecDepth 100000 in
set_option maxHeartbeats 8000000 in
theorem match_ok_good (h1 : (usedF ts [a, b]).1 = 0) (h3 : (obFault ts.length os).1 = 0) :
    Calls Try.prog 3 #[.slice A ts.length cp, .slice A2 os.length cp2, .int .i64 a, .int .i64 b] w fun e w' => e = .returned (.bool true) ∧ Below w.heap.size w w' := by
  have HE2 := Lib.hid (fun (W : World) (h : Below w.heap.size w W) => hE.to (B' := W.heap.size) h h.size)
  have HO2 := Lib.hid (fun (W : World) (h : Below w.heap.size w W) => hO.to (B' := W.heap.size) h h.size)
  clear hE hO
  have h2 := used_first h1
  have HX := Lib.hid (show subM ts a b = memB (sup ts a) b by simp [subM, h1])
  have HY := Lib.hid (show joinR ts a b = joinM ts a b by simp [joinR, h1])
  have HU := Lib.hid (usedF_zero h1).1
  have HV := Lib.hid (usedF_zero h2).1
  have ht := (usedF_zero h2).2.1
  have h8 := ty_len ht
  have HO := Lib.hid (ordered_of ht)
  have HOR := Lib.hid (ordered_of ht)
  obtain ⟨_, ⟨ha0, han⟩, ⟨hbb0, hbn⟩⟩ := fine_of h1
  obtain ⟨hob, ho8, hof⟩ := obFault_ok h3
  have HOB := Lib.hid hob
  have HF := Lib.hid (fun (i : Nat) (hi : i < os.length) => (istB_iff _ _).1 (hof i hi))
  obtain ⟨hf, hl⟩ := memF_good (os := os) h2 h3
  have HMF := Lib.hid hf
  have HML := Lib.hid hl
  have HQ := Lib.hid (eqL_self (mems ts os a os.length))
  clear hf hl h1 h2 h3 ht hob hof
  go_enter Try.func3, Try.ntmps3
  go_wp2_with fail
  refine (typed_any _).mono ?_
  rintro e w1 ⟨rfl, hb1⟩
  go_wp2_with fail
  refine (validate_any A cp ts w1 (HE2.out w1 hb1) hn hcap hcm).mono ?_
  rintro e w2 ⟨rfl, hb2⟩
  have hy2 : Below w.heap.size w w2 := hb1.trans (hb2.mono hb1.size)
  go_wp2_with fail
  refine (typesFault_any A cp ts w2 (HE2.out w2 hy2) hn).mono ?_
  rintro e w3 ⟨rfl, hb3⟩
  have hy3 : Below w.heap.size w w3 := hy2.trans (hb3.mono hy2.size)
  go_wp2_with fail
  refine (usedFault_any A cp ts a b w3 (HE2.out w3 hy3) hn).mono ?_
  rw [HU.out]
  rintro e w4 ⟨rfl, hb4⟩
  have hy4 : Below w.heap.size w w4 := hy3.trans (hb4.mono hy3.size)
  have hy4b : Below w.heap.size w (w4.alloc (.cells #[(.int .i64 0), (.int .i64 0)] 26)) := hy4.alloc hy4.size _
  go_wp2_with fail
  refine (sub_any A cp ts a b _ (HE2.out _ hy4b) hn hcap hcm).mono ?_
  rw [HX.out]
  rw [HU.out]
  rintro e w5 ⟨rfl, hb5⟩
  have hy5 : Below w.heap.size w w5 := hy4b.trans (hb5.mono hy4b.size)
  have t9 := two_to (two_new w4 (.int .i64 0) (.int .i64 0) 26) hb5
  have hy5b : Below w.heap.size w (w5.alloc (.cells #[(.int .i64 0), (.int .i64 0)] 26)) := hy5.alloc hy5.size _
  go_wp2_with fail
  refine (join_any A cp ts a b _ (HE2.out _ hy5b) hn hcap hcm).mono ?_
  rw [HY.out]
  rw [HU.out]
  rintro e w6 ⟨rfl, hb6⟩
  have hy6 : Below w.heap.size w w6 := hy5b.trans (hb6.mono hy5b.size)
  have t9b := two_to (t9.alloc (.cells #[(.int .i64 0), (.int .i64 0)] 26)) hb6
  have t11 := two_to (two_new w5 (.int .i64 0) (.int .i64 0) 26) hb6
  have t9c := t9b
  obtain ⟨_, p0, p1, _, _⟩ := t9b
  obtain ⟨_, r0, r1, _, _⟩ := t11
  have hy6b : Below w.heap.size w (w6.alloc (.cells #[(.int .i64 0), (.int .i64 0)] 26)) := hy6.alloc hy6.size _
  have T9 := t9c.alloc (.cells #[(.int .i64 0), (.int .i64 0)] 26)
  clear t9
  go_wp2_with fail
  refine (rsub_any A cp ts HO.out h8 a b _ ha0 han (HE2.out _ hy6b)).mono ?_
  rintro e w7 ⟨rfl, hb7⟩
  have hy7 : Below w.heap.size w w7 := hy6b.trans (hb7.mono hy6b.size)
  have T97 := two_to T9 hb7
  go_wp2_with fail
  refine (rjoin_any A cp ts HO.out h8 a b _ ha0 han hbb0 hbn (HE2.out _ hy7)).mono ?_
  rintro e wx ⟨rfl, hb8⟩
  have hyx : Below w.heap.size w wx := hy7.trans (hb8.mono hy7.size)
  have Tx := two_to T97 hb8
  clear T97 T9 p0 p1 r0 r1
  go_wp2_with fail
  refine (usedFault_any A cp ts a a wx (HE2.out wx hyx) hn).mono ?_
  rw [HV.out]
  rintro e w9 ⟨rfl, hb9⟩
  have hy9 : Below w.heap.size w w9 := hyx.trans (hb9.mono hyx.size)
  have T9a := two_to Tx hb9
  have T9b := T9a.set (.int .i64 0) (.int .i64 0)
  have hg : w.heap.size ≤ w4.heap.size := hy4.size
  obtain ⟨_, q0, q1, qf0, qf1⟩ := T9a
  go_wp2_with fail
  generalize hW : (w9.setCell ⟨w4.heap.size, 0, none⟩ (.int .i64 0)).setCell ⟨w4.heap.size, 1, none⟩ (.int .i64 0) = wa at T9b ⊢
  have hya : Below w.heap.size w wa := by
    rw [← hW]
    exact (hy9.setCell hg _).setCell hg _
  clear hW q0 q1 qf0 qf1
  refine (objectsFault_any A ts.length cp hn A2 cp2 os wa (HO2.out wa hya) hon).mono ?_
  rw [HOB.out]
  rintro e w10 ⟨rfl, hb10⟩
  have hy10 : Below w.heap.size w w10 := hya.trans (hb10.mono hya.size)
  have T10a := two_to T9b hb10
  have T10b := T10a.set (.int .i64 0) (.int .i64 0)
  obtain ⟨_, q0, q1, qf0, qf1⟩ := T10a
  go_wp2_with fail
  generalize hW : (w10.setCell ⟨w4.heap.size, 0, none⟩ (.int .i64 0)).setCell ⟨w4.heap.size, 1, none⟩ (.int .i64 0) = wb at T10b ⊢
  have hyb : Below w.heap.size w wb := by
    rw [← hW]
    exact (hy10.setCell hg _).setCell hg _
  clear hW q0 q1 qf0 qf1
  refine (members_any A cp ts A2 cp2 os a wb (HE2.out wb hyb) hn hcap hcm (HO2.out wb hyb) hon hocap hocm).mono ?_
  rw [HMF.out, HML.out]
  rintro e w11 ⟨v1, rfl, ⟨A1, c1, rfl, hN1, hk1, hm1⟩, hb11⟩
  have hy11 : Below w.heap.size w w11 := hyb.trans (hb11.mono hyb.size)
  have T11 := two_to T10b hb11
  obtain ⟨_, q0, q1, _, _⟩ := T11
  have hy11b : Below w.heap.size w (w11.alloc (.cells #[(.int .i64 0), (.int .i64 0)] 26)) := hy11.alloc hy11.size _
  have hN1b := hN1.to ((Below.refl _ _).alloc (Nat.le_refl _) (.cells #[(.int .i64 0), (.int .i64 0)] 26)) (B' := (w11.alloc (.cells #[(.int .i64 0), (.int .i64 0)] 26)).heap.size) (by simp)
  have hlm := mems_len ts os a os.length
  go_wp2_with fail
  refine (membersOf_any A cp ts A2 cp2 os a _ HOR.out h8 ho8 HF.out (HE2.out _ hy11b) (HO2.out _ hy11b)).mono ?_
  rintro e w12 ⟨v2, rfl, ⟨A3, c2, rfl, hN2, hk2, hm2⟩, hb12⟩
  have hy12 : Below w.heap.size w w12 := hy11b.trans (hb12.mono hy11b.size)
  go_wp2_with fail
  refine (ints_any _ _ _ _ _ _ _ (hN1b.to hb12 hb12.size) hN2 (by unfold maxLen; omega) (by unfold maxLen; omega)).mono ?_
  rw [HQ.out]
  rintro e w13 ⟨rfl, hb13⟩
  go_wp2
  go_ret
  exact ⟨rfl, hy12.trans (hb13.mono hy12.size)⟩


theorem match_any :
    Calls Try.prog 3 #[.slice A ts.length cp, .slice A2 os.length cp2, .int .i64 a, .int .i64 b] w fun e w' => e = .returned (.bool true) ∧ Below w.heap.size w w' := by
  by_cases h1 : (usedF ts [a, b]).1 = 0
  · by_cases h3 : (obFault ts.length os).1 = 0
    · exact match_ok_good A cp ts A2 cp2 os a b w hE hn hcap hcm hO hon hocap hocm h1 h3
    · exact match_ok_ob A cp ts A2 cp2 os a b w hE hn hcap hcm hO hon hocap hocm h1 h3
  · by_cases h2 : (usedF ts [a, a]).1 = 0
    · by_cases h3 : (obFault ts.length os).1 = 0
      · exact match_bad_good A cp ts A2 cp2 os a b w hE hn hcap hcm hO hon hocap hocm h1 h2 h3
      · exact match_bad_ob A cp ts A2 cp2 os a b w hE hn hcap hcm hO hon hocap hocm h1 h2 h3
    · exact match_bad A cp ts A2 cp2 os a b w hE hn hcap hcm hO hon hocap hocm h1 h2
end

end Go.Proofs.Ytjmkilmpfaapbaa

/- SexprListsNest: the walk. -/
import Derived.Test.YtbdollafpjejiaaSsh
import Derived.Test.YtbdollafpjejiaaSrds
namespace Go.Proofs.Ytbdollafpjejiaa
open Go.RowKit Go.Shelf
set_option linter.unusedSimpArgs false
set_option linter.unusedVariables false
set_option maxRecDepth 100000

/-- What Read does to a text whose reading is r. -/
abbrev RdC (s : ByteArray) (n : List Nd) (c i : Int) : Prop := ∀ W, Calls Try.prog 13 #[.string s] W fun e w' => ∃ A q, e = .returned (.tuple #[.slice A n.length q, .agg #[.int .i64 c, .int .i64 i]]) ∧ Nodes w' w'.heap.size A n ∧ n.length ≤ q ∧ q ≤ maxLen ∧ Below W.heap.size W w'
theorem rdc (s : ByteArray) (hs : s.size ≤ maxLen) : RdC s (rdAll s).1 (rdAll s).2.1 (rdAll s).2.2 := fun W => read_any s hs W

section
variable (a b : ByteArray) (ha : a.size ≤ 140737488351232) (hb : b.size ≤ 140737488351232) (x y z : List Nd) (fa ia fb ib fc ic : Int)
  (h1 : RdC a x fa ia) (h2 : RdC b y fb ib) (h3 : RdC (((⟨#[40]⟩ ++ a) ++ ⟨#[32]⟩ ++ b) ++ ⟨#[41]⟩) z fc ic) (w : World)
include ha hb h1 h2 h3

set_option maxRecDepth 100000 in
set_option maxHeartbeats 1000000 in
theorem nst_a (hfa : fa ≠ 0) : Calls Try.prog 7 #[.string a, .string b] w fun e w' => e = .returned (.bool true) ∧ Below w.heap.size w w' := by
  have H1 := Lib.hid h1
  have H2 := Lib.hid h2
  have H3 := Lib.hid h3
  have n1 : (fa != 0) = true := by simpa using hfa
  clear h1 h2 h3 hfa
  go_enter Try.func7, Try.ntmps7
  go_wp2_with fail
  refine (H1.out _).mono ?_
  rintro e w1 ⟨A1, c1, rfl, hN1, hc1, hm1, hb1⟩
  have HN1 := Lib.hid hN1
  have HB1 := Lib.hid hb1
  clear hN1 hb1
  go_wp2_with fail
  refine (H2.out _).mono ?_
  rintro e w2 ⟨A2, c2, rfl, hN2, hc2, hm2, hb2⟩
  have HN2 := Lib.hid hN2
  have HB2 := Lib.hid hb2
  clear hN2 hb2
  go_wp2_with fail
  refine (H3.out _).mono ?_
  rintro e w3 ⟨A3, c3, rfl, hN3, hc3, hm3, hb3⟩
  have HN3 := Lib.hid hN3
  have HB3 := Lib.hid hb3
  clear hN3 hb3
  go_wp2_with fail
  refine (reads_any _).mono ?_
  rintro e w4 ⟨rfl, hb4⟩
  have z1 := HB1.out.size
  have z2 := HB2.out.size
  have z3 := HB3.out.size
  have z4 := hb4.size
  simp only [World.size_alloc] at z2 z3 z4
  have F1 := Lib.hid ((((fb_new w1 (.int .i64 fa) (.int .i64 ia)).below HB2.out |>.below ((Below.refl _ _).alloc (Nat.le_refl _) (.cells #[.int .i64 fb, .int .i64 ib] 25))).below HB3.out |>.below ((Below.refl _ _).alloc (Nat.le_refl _) (.cells #[.int .i64 fc, .int .i64 ic] 25))).below hb4)
  have F2 := Lib.hid (((fb_new w2 (.int .i64 fb) (.int .i64 ib)).below HB3.out |>.below ((Below.refl _ _).alloc (Nat.le_refl _) (.cells #[.int .i64 fc, .int .i64 ic] 25))).below hb4)
  have F3 := Lib.hid ((fb_new w3 (.int .i64 fc) (.int .i64 ic)).below hb4)
  have y1 : Below w1.heap.size w1 w4 := ((((Below.refl _ w1).alloc (Nat.le_refl _) (.cells #[.int .i64 fa, .int .i64 ia] 25)).trans (HB2.out.mono (by simp))).alloc (by omega) (.cells #[.int .i64 fb, .int .i64 ib] 25) |>.trans (HB3.out.mono (by simp; omega))).alloc (by omega) (.cells #[.int .i64 fc, .int .i64 ic] 25) |>.trans (hb4.mono (by simp; omega))
  have HY1 := Lib.hid y1
  have HY := Lib.hid (HB1.out.trans (y1.mono z1))
  have HY3 := Lib.hid (show Below w3.heap.size w3 w4 from ((Below.refl _ w3).alloc (Nat.le_refl _) _).trans (hb4.mono (by simp)))
  clear hb4 y1
  have t1 := F1.out.two.fst
  have t2 := F2.out.two.fst
  have t3 := F3.out.two.fst
  go_wp2
  go_ret
  exact ⟨rfl, HY.out⟩

set_option maxRecDepth 100000 in
set_option maxHeartbeats 1000000 in
theorem nst_b (hfa : fa = 0) (hfb : fb ≠ 0) : Calls Try.prog 7 #[.string a, .string b] w fun e w' => e = .returned (.bool true) ∧ Below w.heap.size w w' := by
  subst hfa
  have H1 := Lib.hid h1
  have H2 := Lib.hid h2
  have H3 := Lib.hid h3
  have n2 : (fb != 0) = true := by simpa using hfb
  clear h1 h2 h3 hfb
  go_enter Try.func7, Try.ntmps7
  go_wp2_with fail
  refine (H1.out _).mono ?_
  rintro e w1 ⟨A1, c1, rfl, hN1, hc1, hm1, hb1⟩
  have HN1 := Lib.hid hN1
  have HB1 := Lib.hid hb1
  clear hN1 hb1
  go_wp2_with fail
  refine (H2.out _).mono ?_
  rintro e w2 ⟨A2, c2, rfl, hN2, hc2, hm2, hb2⟩
  have HN2 := Lib.hid hN2
  have HB2 := Lib.hid hb2
  clear hN2 hb2
  go_wp2_with fail
  refine (H3.out _).mono ?_
  rintro e w3 ⟨A3, c3, rfl, hN3, hc3, hm3, hb3⟩
  have HN3 := Lib.hid hN3
  have HB3 := Lib.hid hb3
  clear hN3 hb3
  go_wp2_with fail
  refine (reads_any _).mono ?_
  rintro e w4 ⟨rfl, hb4⟩
  have z1 := HB1.out.size
  have z2 := HB2.out.size
  have z3 := HB3.out.size
  have z4 := hb4.size
  simp only [World.size_alloc] at z2 z3 z4
  have F1 := Lib.hid ((((fb_new w1 (.int .i64 0) (.int .i64 ia)).below HB2.out |>.below ((Below.refl _ _).alloc (Nat.le_refl _) (.cells #[.int .i64 fb, .int .i64 ib] 25))).below HB3.out |>.below ((Below.refl _ _).alloc (Nat.le_refl _) (.cells #[.int .i64 fc, .int .i64 ic] 25))).below hb4)
  have F2 := Lib.hid (((fb_new w2 (.int .i64 fb) (.int .i64 ib)).below HB3.out |>.below ((Below.refl _ _).alloc (Nat.le_refl _) (.cells #[.int .i64 fc, .int .i64 ic] 25))).below hb4)
  have F3 := Lib.hid ((fb_new w3 (.int .i64 fc) (.int .i64 ic)).below hb4)
  have y1 : Below w1.heap.size w1 w4 := ((((Below.refl _ w1).alloc (Nat.le_refl _) (.cells #[.int .i64 0, .int .i64 ia] 25)).trans (HB2.out.mono (by simp))).alloc (by omega) (.cells #[.int .i64 fb, .int .i64 ib] 25) |>.trans (HB3.out.mono (by simp; omega))).alloc (by omega) (.cells #[.int .i64 fc, .int .i64 ic] 25) |>.trans (hb4.mono (by simp; omega))
  have HY1 := Lib.hid y1
  have HY := Lib.hid (HB1.out.trans (y1.mono z1))
  have HY3 := Lib.hid (show Below w3.heap.size w3 w4 from ((Below.refl _ w3).alloc (Nat.le_refl _) _).trans (hb4.mono (by simp)))
  clear hb4 y1
  have t1 := F1.out.two.fst
  have t2 := F2.out.two.fst
  have t3 := F3.out.two.fst
  go_wp2
  go_ret
  exact ⟨rfl, HY.out⟩

set_option maxRecDepth 100000 in
set_option maxHeartbeats 1000000 in
theorem nst_c (hfa : fa = 0) (hfb : fb = 0) (hx : x.length ≤ 300) (hy : y.length ≤ 300) (hfc : fc ≠ 0) (hc : 4093 < a.size + b.size ∨ fc = 10) : Calls Try.prog 7 #[.string a, .string b] w fun e w' => e = .returned (.bool true) ∧ Below w.heap.size w w' := by
  subst hfa
  subst hfb
  have H1 := Lib.hid h1
  have H2 := Lib.hid h2
  have H3 := Lib.hid h3
  have n3 : (fc != 0) = true := by simpa using hfc
  clear h1 h2 h3 hfc
  by_cases hl : 4093 < a.size + b.size
  · have hd : decide ((a.size : Int) + b.size > 4093) = true := decide_eq_true (by omega)
    have hd2 : (4093 : Int) < (a.size : Int) + b.size := by omega
    clear hc
    go_enter Try.func7, Try.ntmps7
    go_wp2_with fail
    refine (H1.out _).mono ?_
    rintro e w1 ⟨A1, c1, rfl, hN1, hc1, hm1, hb1⟩
    have HN1 := Lib.hid hN1
    have HB1 := Lib.hid hb1
    clear hN1 hb1
    go_wp2_with fail
    refine (H2.out _).mono ?_
    rintro e w2 ⟨A2, c2, rfl, hN2, hc2, hm2, hb2⟩
    have HN2 := Lib.hid hN2
    have HB2 := Lib.hid hb2
    clear hN2 hb2
    go_wp2_with fail
    refine (H3.out _).mono ?_
    rintro e w3 ⟨A3, c3, rfl, hN3, hc3, hm3, hb3⟩
    have HN3 := Lib.hid hN3
    have HB3 := Lib.hid hb3
    clear hN3 hb3
    go_wp2_with fail
    refine (reads_any _).mono ?_
    rintro e w4 ⟨rfl, hb4⟩
    have z1 := HB1.out.size
    have z2 := HB2.out.size
    have z3 := HB3.out.size
    have z4 := hb4.size
    simp only [World.size_alloc] at z2 z3 z4
    have F1 := Lib.hid ((((fb_new w1 (.int .i64 0) (.int .i64 ia)).below HB2.out |>.below ((Below.refl _ _).alloc (Nat.le_refl _) (.cells #[.int .i64 0, .int .i64 ib] 25))).below HB3.out |>.below ((Below.refl _ _).alloc (Nat.le_refl _) (.cells #[.int .i64 fc, .int .i64 ic] 25))).below hb4)
    have F2 := Lib.hid (((fb_new w2 (.int .i64 0) (.int .i64 ib)).below HB3.out |>.below ((Below.refl _ _).alloc (Nat.le_refl _) (.cells #[.int .i64 fc, .int .i64 ic] 25))).below hb4)
    have F3 := Lib.hid ((fb_new w3 (.int .i64 fc) (.int .i64 ic)).below hb4)
    have y1 : Below w1.heap.size w1 w4 := ((((Below.refl _ w1).alloc (Nat.le_refl _) (.cells #[.int .i64 0, .int .i64 ia] 25)).trans (HB2.out.mono (by simp))).alloc (by omega) (.cells #[.int .i64 0, .int .i64 ib] 25) |>.trans (HB3.out.mono (by simp; omega))).alloc (by omega) (.cells #[.int .i64 fc, .int .i64 ic] 25) |>.trans (hb4.mono (by simp; omega))
    have HY1 := Lib.hid y1
    have HY := Lib.hid (HB1.out.trans (y1.mono z1))
    have HY3 := Lib.hid (show Below w3.heap.size w3 w4 from ((Below.refl _ w3).alloc (Nat.le_refl _) _).trans (hb4.mono (by simp)))
    clear hb4 y1
    have t1 := F1.out.two.fst
    have t2 := F2.out.two.fst
    have t3 := F3.out.two.fst
    go_wp2
    go_ret
    exact ⟨rfl, HY.out⟩
  · have hfc : fc = 10 := by omega
    subst hfc
    have hd : decide ((a.size : Int) + b.size > 4093) = false := decide_eq_false (by omega)
    have hd2 : ¬ ((4093 : Int) < (a.size : Int) + b.size) := by omega
    clear hc
    by_cases hq : 299 < x.length + y.length
    · have hq2 : (299 : Int) < (x.length : Int) + y.length := by omega
      go_enter Try.func7, Try.ntmps7
      go_wp2_with fail
      refine (H1.out _).mono ?_
      rintro e w1 ⟨A1, c1, rfl, hN1, hc1, hm1, hb1⟩
      have HN1 := Lib.hid hN1
      have HB1 := Lib.hid hb1
      clear hN1 hb1
      go_wp2_with fail
      refine (H2.out _).mono ?_
      rintro e w2 ⟨A2, c2, rfl, hN2, hc2, hm2, hb2⟩
      have HN2 := Lib.hid hN2
      have HB2 := Lib.hid hb2
      clear hN2 hb2
      go_wp2_with fail
      refine (H3.out _).mono ?_
      rintro e w3 ⟨A3, c3, rfl, hN3, hc3, hm3, hb3⟩
      have HN3 := Lib.hid hN3
      have HB3 := Lib.hid hb3
      clear hN3 hb3
      go_wp2_with fail
      refine (reads_any _).mono ?_
      rintro e w4 ⟨rfl, hb4⟩
      have z1 := HB1.out.size
      have z2 := HB2.out.size
      have z3 := HB3.out.size
      have z4 := hb4.size
      simp only [World.size_alloc] at z2 z3 z4
      have F1 := Lib.hid ((((fb_new w1 (.int .i64 0) (.int .i64 ia)).below HB2.out |>.below ((Below.refl _ _).alloc (Nat.le_refl _) (.cells #[.int .i64 0, .int .i64 ib] 25))).below HB3.out |>.below ((Below.refl _ _).alloc (Nat.le_refl _) (.cells #[.int .i64 10, .int .i64 ic] 25))).below hb4)
      have F2 := Lib.hid (((fb_new w2 (.int .i64 0) (.int .i64 ib)).below HB3.out |>.below ((Below.refl _ _).alloc (Nat.le_refl _) (.cells #[.int .i64 10, .int .i64 ic] 25))).below hb4)
      have F3 := Lib.hid ((fb_new w3 (.int .i64 10) (.int .i64 ic)).below hb4)
      have y1 : Below w1.heap.size w1 w4 := ((((Below.refl _ w1).alloc (Nat.le_refl _) (.cells #[.int .i64 0, .int .i64 ia] 25)).trans (HB2.out.mono (by simp))).alloc (by omega) (.cells #[.int .i64 0, .int .i64 ib] 25) |>.trans (HB3.out.mono (by simp; omega))).alloc (by omega) (.cells #[.int .i64 10, .int .i64 ic] 25) |>.trans (hb4.mono (by simp; omega))
      have HY1 := Lib.hid y1
      have HY := Lib.hid (HB1.out.trans (y1.mono z1))
      have HY3 := Lib.hid (show Below w3.heap.size w3 w4 from ((Below.refl _ w3).alloc (Nat.le_refl _) _).trans (hb4.mono (by simp)))
      clear hb4 y1
      have t1 := F1.out.two.fst
      have t2 := F2.out.two.fst
      have t3 := F3.out.two.fst
      go_wp2
      go_ret
      exact ⟨rfl, HY.out⟩
    · have hq2 : ¬ ((299 : Int) < (x.length : Int) + y.length) := by omega
      go_enter Try.func7, Try.ntmps7
      go_wp2_with fail
      refine (H1.out _).mono ?_
      rintro e w1 ⟨A1, c1, rfl, hN1, hc1, hm1, hb1⟩
      have HN1 := Lib.hid hN1
      have HB1 := Lib.hid hb1
      clear hN1 hb1
      go_wp2_with fail
      refine (H2.out _).mono ?_
      rintro e w2 ⟨A2, c2, rfl, hN2, hc2, hm2, hb2⟩
      have HN2 := Lib.hid hN2
      have HB2 := Lib.hid hb2
      clear hN2 hb2
      go_wp2_with fail
      refine (H3.out _).mono ?_
      rintro e w3 ⟨A3, c3, rfl, hN3, hc3, hm3, hb3⟩
      have HN3 := Lib.hid hN3
      have HB3 := Lib.hid hb3
      clear hN3 hb3
      go_wp2_with fail
      refine (reads_any _).mono ?_
      rintro e w4 ⟨rfl, hb4⟩
      have z1 := HB1.out.size
      have z2 := HB2.out.size
      have z3 := HB3.out.size
      have z4 := hb4.size
      simp only [World.size_alloc] at z2 z3 z4
      have F1 := Lib.hid ((((fb_new w1 (.int .i64 0) (.int .i64 ia)).below HB2.out |>.below ((Below.refl _ _).alloc (Nat.le_refl _) (.cells #[.int .i64 0, .int .i64 ib] 25))).below HB3.out |>.below ((Below.refl _ _).alloc (Nat.le_refl _) (.cells #[.int .i64 10, .int .i64 ic] 25))).below hb4)
      have F2 := Lib.hid (((fb_new w2 (.int .i64 0) (.int .i64 ib)).below HB3.out |>.below ((Below.refl _ _).alloc (Nat.le_refl _) (.cells #[.int .i64 10, .int .i64 ic] 25))).below hb4)
      have F3 := Lib.hid ((fb_new w3 (.int .i64 10) (.int .i64 ic)).below hb4)
      have y1 : Below w1.heap.size w1 w4 := ((((Below.refl _ w1).alloc (Nat.le_refl _) (.cells #[.int .i64 0, .int .i64 ia] 25)).trans (HB2.out.mono (by simp))).alloc (by omega) (.cells #[.int .i64 0, .int .i64 ib] 25) |>.trans (HB3.out.mono (by simp; omega))).alloc (by omega) (.cells #[.int .i64 10, .int .i64 ic] 25) |>.trans (hb4.mono (by simp; omega))
      have HY1 := Lib.hid y1
      have HY := Lib.hid (HB1.out.trans (y1.mono z1))
      have HY3 := Lib.hid (show Below w3.heap.size w3 w4 from ((Below.refl _ w3).alloc (Nat.le_refl _) _).trans (hb4.mono (by simp)))
      clear hb4 y1
      have t1 := F1.out.two.fst
      have t2 := F2.out.two.fst
      have t3 := F3.out.two.fst
      go_wp2
      go_ret
      exact ⟨rfl, HY.out⟩
end
end Go.Proofs.Ytbdollafpjejiaa

/- SexprTextsRoundTrip: the walk. -/
import Derived.Test.YtbdollafpjejiaaSrt
import Derived.Test.YtbdollafpjejiaaSrds
namespace Go.Proofs.Ytbdollafpjejiaa
open Go.RowKit Go.Shelf
set_option linter.unusedSimpArgs false
set_option linter.unusedVariables false
set_option maxRecDepth 100000

theorem print_at (A : Option Addr) (c : Nat) (ns : List Nd) (W : World) (hn : ns.length ≤ maxLen) (h : Nodes W W.heap.size A ns) : Calls Try.prog 10 #[.slice A ns.length c] W (PrintPost ns W) :=
  print_any A c ns W h hn (fun h0 => by have := ok_bytes h0; omega)
theorem print_ok (A : Option Addr) (c : Nat) (ns : List Nd) (W : World) (hn : ns.length ≤ maxLen) (h : Nodes W W.heap.size A ns) (h0 : (sxFault ns).1 = 0) :
    Calls Try.prog 10 #[.slice A ns.length c] W fun e w' => e = .returned (.tuple #[.string (prText ns), .agg #[.int .i64 0, .int .i64 0]]) ∧ Below W.heap.size W w' := by
  refine (print_at A c ns W hn h).mono ?_
  rintro e w' ⟨rfl, hb⟩
  rw [(sx_ok h0).2]
  exact ⟨rfl, hb⟩
theorem read_ok (s : ByteArray) (ns : List Nd) (W : World) (hs : s.size ≤ maxLen) (h : rdAll s = (ns, (0, 0))) :
    Calls Try.prog 13 #[.string s] W fun e w' => ∃ A c, e = .returned (.tuple #[.slice A ns.length c, .agg #[.int .i64 0, .int .i64 0]]) ∧ Nodes w' w'.heap.size A ns ∧ ns.length ≤ c ∧ c ≤ maxLen ∧ Below W.heap.size W w' := by
  refine (read_any s hs W).mono ?_
  rintro e w' ⟨A, c, rfl, hN, h1, h2, hB⟩
  rw [h] at hN h1 ⊢
  exact ⟨A, c, rfl, hN, h1, h2, hB⟩
set_option maxRecDepth 100000 in
set_option maxHeartbeats 1000000 in
theorem rtl_bad (A : Option Addr) (c : Nat) (ns : List Nd) (w : World) (hE : Nodes w w.heap.size A ns) (hn : ns.length ≤ maxLen) (h : (sxFault ns).1 ≠ 0) :
    Calls Try.prog 5 #[.slice A ns.length c] w fun e w' => e = .returned (.bool true) ∧ Below w.heap.size w w' := by
  have hcall := print_at A c ns w hn hE
  have HT := Lib.hid (show prText ns = ⟨#[]⟩ by rw [prText, beq_false_of_ne h]; rfl)
  generalize hf : sxFault ns = f at h
  obtain ⟨fc, fi⟩ := f
  have HF := Lib.hid hf
  have n1 : (fc != 0) = true := by simpa using h
  have n2 : (fc == 0) = false := by simpa using h
  clear h hf hE
  go_enter Try.func5, Try.ntmps5
  go_wp2_with fail
  refine hcall.mono ?_
  rintro e w1 ⟨rfl, hb1⟩
  rw [HT.out, HF.out]
  clear hcall
  go_wp2_with fail
  refine (reads_any _).mono ?_
  rintro e w2 ⟨rfl, hb2⟩
  have F2 := Lib.hid ((fb_new w1 (.int .i64 fc) (.int .i64 fi)).below hb2)
  have t0 := F2.out.two.fst
  go_wp2_with fail
  refine (reads_any _).mono ?_
  rintro e w3 ⟨rfl, hb3⟩
  have F3 := Lib.hid (F2.out.below hb3)
  have t3 := F3.out.two.fst
  have z2 := hb2.size
  simp only [World.size_alloc] at z2
  have z1 := hb1.size
  have HY := Lib.hid (((hb1.alloc z1 _).trans (hb2.mono (by simp; omega))).trans (hb3.mono (by omega)))
  go_wp2
  go_ret
  exact ⟨rfl, HY.out⟩
set_option maxRecDepth 100000 in
set_option maxHeartbeats 1000000 in
theorem rtl_long (A : Option Addr) (c : Nat) (ns : List Nd) (w : World) (hE : Nodes w w.heap.size A ns) (hn : ns.length ≤ maxLen) (h : (sxFault ns).1 = 0) (hs : 4096 < (prText ns).size) :
    Calls Try.prog 5 #[.slice A ns.length c] w fun e w' => e = .returned (.bool true) ∧ Below w.heap.size w w' := by
  have hcall := print_ok A c ns w hn hE h
  have hd : decide (((prText ns).size : Int) > 4096) = true := by simp; omega
  have hle : (prText ns).size ≤ 4500 := by
    have := ok_bytes h
    rw [prText, h]
    show (prBytes ns).toArray.size ≤ _
    simpa using this
  generalize prText ns = t at hcall hs hd hle
  clear h hE
  go_enter Try.func5, Try.ntmps5
  go_wp2_with fail
  refine hcall.mono ?_
  rintro e w1 ⟨rfl, hb1⟩
  clear hcall
  go_wp2_with fail
  refine (reads_any _).mono ?_
  rintro e w2 ⟨rfl, hb2⟩
  have F2 := Lib.hid ((fb_new w1 (.int .i64 0) (.int .i64 0)).below hb2)
  have t0 := F2.out.two.fst
  go_wp2_with fail
  refine (reads_any _).mono ?_
  rintro e w3 ⟨rfl, hb3⟩
  have F3 := Lib.hid (F2.out.below hb3)
  have t3 := F3.out.two.fst
  have z2 := hb2.size
  simp only [World.size_alloc] at z2
  have z1 := hb1.size
  have HY := Lib.hid (((hb1.alloc z1 _).trans (hb2.mono (by simp; omega))).trans (hb3.mono (by omega)))
  go_wp2
  go_ret
  exact ⟨rfl, HY.out⟩
set_option maxRecDepth 100000 in
set_option maxHeartbeats 1000000 in
theorem rtl_good (A : Option Addr) (c : Nat) (ns : List Nd) (w : World) (hE : Nodes w w.heap.size A ns) (hn : ns.length ≤ maxLen) (h : (sxFault ns).1 = 0) (hs : ¬ 4096 < (prText ns).size) :
    Calls Try.prog 5 #[.slice A ns.length c] w fun e w' => e = .returned (.bool true) ∧ Below w.heap.size w w' := by
  have hcall := print_ok A c ns w hn hE h
  have hd : decide (((prText ns).size : Int) > 4096) = false := by simp; omega
  have hread := fun W => read_ok (prText ns) ns W (by unfold maxLen; omega) (rt_all h (by omega))
  have hle : (prText ns).size ≤ 4096 := by omega
  generalize prText ns = t at hcall hs hd hle hread
  have HR := Lib.hid hread
  have HE := Lib.hid hE
  clear h hE hread
  go_enter Try.func5, Try.ntmps5
  go_wp2_with fail
  refine hcall.mono ?_
  rintro e w1 ⟨rfl, hb1⟩
  clear hcall
  go_wp2_with fail
  refine (reads_any _).mono ?_
  rintro e w2 ⟨rfl, hb2⟩
  have F2 := Lib.hid ((fb_new w1 (.int .i64 0) (.int .i64 0)).below hb2)
  have t0 := F2.out.two.fst
  have z2 := hb2.size
  simp only [World.size_alloc] at z2
  have z1 := hb1.size
  have HY2 := Lib.hid ((hb1.alloc z1 _).trans (hb2.mono (by simp; omega)))
  go_wp2_with fail
  refine (HR.out _).mono ?_
  rintro e w3 ⟨A3, c3, rfl, hN3, hc3, hm3, hb3⟩
  clear t0
  have z3 := hb3.size
  have HY3 := Lib.hid (HY2.out.trans (hb3.mono (by omega)))
  have F3 := Lib.hid (fb_new w3 (.int .i64 0) (.int .i64 0))
  have hX : Nodes (w3.alloc (.cells #[.int .i64 0, .int .i64 0] 25)) (w3.alloc (.cells #[.int .i64 0, .int .i64 0] 25)).heap.size A ns := (HE.out.to (B' := w3.heap.size) HY3.out (by omega)).to ((Below.refl _ _).alloc (Nat.le_refl _) _) (by simp)
  have hY : Nodes (w3.alloc (.cells #[.int .i64 0, .int .i64 0] 25)) (w3.alloc (.cells #[.int .i64 0, .int .i64 0] 25)).heap.size A3 ns := hN3.to ((Below.refl _ _).alloc (Nat.le_refl _) _) (by simp)
  have HX := Lib.hid hX
  have HYY := Lib.hid hY
  clear hX hY hN3
  go_wp2_with fail
  refine (same_any A A3 c c3 ns ns _ ?_ ?_ hn hn).mono ?_
  · exact HX.out
  · exact HYY.out
  rintro e w4 ⟨rfl, hd4⟩
  rw [same_refl]
  obtain ⟨m, rfl⟩ := hd4
  go_wp2
  go_ret
  exact ⟨rfl, belowN (HY3.out.alloc (by omega) _) _⟩
theorem rtl_any (A : Option Addr) (c : Nat) (ns : List Nd) (w : World) (hE : Nodes w w.heap.size A ns) (hn : ns.length ≤ maxLen) :
    Calls Try.prog 5 #[.slice A ns.length c] w fun e w' => e = .returned (.bool true) ∧ Below w.heap.size w w' := by
  by_cases h : (sxFault ns).1 = 0
  · by_cases hs : 4096 < (prText ns).size
    · exact rtl_long A c ns w hE hn h hs
    · exact rtl_good A c ns w hE hn h hs
  · exact rtl_bad A c ns w hE hn h
end Go.Proofs.Ytbdollafpjejiaa

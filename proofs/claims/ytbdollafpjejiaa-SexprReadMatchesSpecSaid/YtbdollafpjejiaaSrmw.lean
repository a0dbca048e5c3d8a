/- SexprReadMatchesSpec: the walk. -/
import Derived.Test.YtbdollafpjejiaaSrtl
import Derived.Test.YtbdollafpjejiaaSrds
namespace Go.Proofs.Ytbdollafpjejiaa
open Go.RowKit Go.Shelf
set_option linter.unusedSimpArgs false
set_option linter.unusedVariables false
set_option maxRecDepth 100000

set_option maxRecDepth 100000 in
set_option maxHeartbeats 2000000 in
theorem srm_of (s : ByteArray) (hsm : s.size ≤ maxLen) (hsof : ∀ W, Calls Try.prog 14 #[.string s] W (ReadPost s W)) (w : World) :
    Calls Try.prog 4 #[.string s] w fun e w' => e = .returned (.bool true) ∧ Below w.heap.size w w' := by
  have hread : ∀ W, Calls Try.prog 13 #[.string s] W (ReadPost s W) := fun W => read_any s hsm W
  unfold ReadPost at hsof hread
  generalize (rdAll s).1 = ns at hsof hread
  generalize (rdAll s).2 = f at hsof hread
  obtain ⟨fc, fi⟩ := f
  have HR := Lib.hid hread
  have HO := Lib.hid hsof
  clear hread hsof
  go_enter Try.func4, Try.ntmps4
  go_wp2_with fail
  refine (reads_any _).mono ?_
  rintro e w1 ⟨rfl, hb1⟩
  have HB1 := Lib.hid hb1
  clear hb1
  go_wp2_with fail
  refine (HR.out w1).mono ?_
  rintro e w2 ⟨A2, c2, rfl, hN2, hc2, hm2, hb2⟩
  have HB2 := Lib.hid (HB1.out.trans (hb2.mono HB1.out.size))
  have HN2 := Lib.hid hN2
  clear hb2 hN2
  go_wp2_with fail
  refine (HO.out _).mono ?_
  rintro e w3 ⟨A3, c3, rfl, hN3, hc3, hm3, hb3⟩
  have z2 := HB2.out.size
  have z3 := hb3.size
  simp only [World.size_alloc] at z3
  have hy : Below w.heap.size w w3 := (HB2.out.alloc z2 (.cells #[.int .i64 fc, .int .i64 fi] 25)).trans (hb3.mono (by simp; omega))
  have hF1 : FB (w3.alloc (.cells #[.int .i64 fc, .int .i64 fi] 25)) w2.heap.size (.int .i64 fc) (.int .i64 fi) := ((fb_new w2 _ _).below hb3).below ((Below.refl _ _).alloc (Nat.le_refl _) _)
  have hF2 := fb_new w3 (.int .i64 fc) (.int .i64 fi)
  have hy4 : Below w.heap.size w (w3.alloc (.cells #[.int .i64 fc, .int .i64 fi] 25)) := hy.alloc (by omega) _
  have hx : Nodes (w3.alloc (.cells #[.int .i64 fc, .int .i64 fi] 25)) (w3.alloc (.cells #[.int .i64 fc, .int .i64 fi] 25)).heap.size A2 ns :=
    (HN2.out.to (B' := w3.heap.size) (((Below.refl _ _).alloc (Nat.le_refl _) (.cells #[.int .i64 fc, .int .i64 fi] 25)).trans (hb3.mono (by simp))) (by omega)).to ((Below.refl _ _).alloc (Nat.le_refl _) _) (by simp)
  have hyy : Nodes (w3.alloc (.cells #[.int .i64 fc, .int .i64 fi] 25)) (w3.alloc (.cells #[.int .i64 fc, .int .i64 fi] 25)).heap.size A3 ns := hN3.to ((Below.refl _ _).alloc (Nat.le_refl _) _) (by simp)
  have HX := Lib.hid hx
  have HYY := Lib.hid hyy
  have HY := Lib.hid hy4
  have s1 := hF1.two.fst
  have s2 := hF1.two.snd
  have s3 := hF2.two.fst
  have s4 := hF2.two.snd
  have el : (fc == fc) = true := by simp
  have el2 : (fi == fi) = true := by simp
  have hcall := (same_any A2 A3 c2 c3 ns ns _ hx hyy (by omega) (by omega))
  rw [same_refl] at hcall
  have HC := Lib.hid hcall
  clear hy hx hyy hy4 hF1 hF2 hN3 hb3 hcall z2 z3
  go_wp2_with (go_at_call 15; refine HC.out.mono ?_; rintro e w4 ⟨rfl, hd4⟩)
  obtain ⟨m, rfl⟩ := hd4
  go_ret
  exact ⟨rfl, belowN HY.out _⟩
end Go.Proofs.Ytbdollafpjejiaa

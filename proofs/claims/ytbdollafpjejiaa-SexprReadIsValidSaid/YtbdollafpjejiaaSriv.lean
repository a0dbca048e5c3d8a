/- SexprReadIsValid: the walk. -/
import Derived.Test.YtbdollafpjejiaaSvld
import Derived.Test.YtbdollafpjejiaaSrds
namespace Go.Proofs.Ytbdollafpjejiaa
open Go.RowKit Go.Shelf
set_option linter.unusedSimpArgs false
set_option linter.unusedVariables false
set_option maxRecDepth 100000

set_option maxRecDepth 100000 in
set_option maxHeartbeats 1000000 in
theorem riv_bad (s : ByteArray) (hsm : s.size ≤ maxLen) (w : World) (h1 : (rdAll s).1 = []) (h2 : (rdAll s).2.1 ≠ 0) :
    Calls Try.prog 6 #[.string s] w fun e w' => e = .returned (.bool true) ∧ Below w.heap.size w w' := by
  have hread : ∀ W, Calls Try.prog 13 #[.string s] W (fun e w' => ∃ A c, e = .returned (.tuple #[.slice A 0 c, faultV (rdAll s).2]) ∧ Below W.heap.size W w') := by
    intro W
    refine (read_any s hsm W).mono ?_
    rintro e w' ⟨A, c, rfl, _, _, _, hB⟩
    rw [h1]
    exact ⟨A, c, rfl, hB⟩
  have HR := Lib.hid hread
  generalize (rdAll s).2 = f at HR h2
  obtain ⟨fc, fi⟩ := f
  have n1 : (fc != 0) = true := by simpa using h2
  clear hread h1 h2
  go_enter Try.func6, Try.ntmps6
  go_wp2_with fail
  refine (HR.out _).mono ?_
  rintro e w1 ⟨A, c, rfl, hb1⟩
  go_wp2_with fail
  refine (reads_any _).mono ?_
  rintro e w2 ⟨rfl, hb2⟩
  have F2 := Lib.hid ((fb_new w1 (.int .i64 fc) (.int .i64 fi)).below hb2)
  have t0 := F2.out.two.fst
  go_wp2_with fail
  refine (reads_any _).mono ?_
  rintro e w3 ⟨rfl, hb3⟩
  have z2 := hb2.size
  simp only [World.size_alloc] at z2
  have z1 := hb1.size
  have y : Below w.heap.size w w3 := ((hb1.alloc z1 _).trans (hb2.mono (by simp; omega))).trans (hb3.mono (by omega))
  go_wp2
  go_ret
  exact ⟨rfl, y⟩

set_option maxRecDepth 100000 in
set_option maxHeartbeats 1000000 in
theorem riv_good (s : ByteArray) (hs : s.size ≤ 4096) (w : World) (ns : List Nd) (h1 : rdAll s = (ns, (0, 0))) (hok : sxFault ns = (0, 0)) (hlen : (prBytes ns).length + 1 ≤ 2 * s.size) (hnl : ns.length ≤ 300) :
    Calls Try.prog 6 #[.string s] w fun e w' => e = .returned (.bool true) ∧ Below w.heap.size w w' := by
  have hread : ∀ W, Calls Try.prog 13 #[.string s] W (fun e w' => ∃ A c, e = .returned (.tuple #[.slice A ns.length c, faultV (0, 0)]) ∧ Nodes w' w'.heap.size A ns ∧ Below W.heap.size W w') := by
    intro W
    refine (read_any s (by unfold maxLen; omega) W).mono ?_
    rintro e w' ⟨A, c, rfl, hN, _, _, hB⟩
    rw [h1] at hN ⊢
    exact ⟨A, c, rfl, hN, hB⟩
  have HR := Lib.hid hread
  have hprint : ∀ A c W, Nodes W W.heap.size A ns → Calls Try.prog 10 #[.slice A ns.length c] W (fun e w' => ∃ t : ByteArray, e = .returned (.tuple #[.string t, faultV (0, 0)]) ∧ t.size ≤ 2 * s.size ∧ Below W.heap.size W w') := by
    intro A c W hN
    refine (print_any A c ns W hN (by unfold maxLen; omega) (fun _ => by omega)).mono ?_
    rintro e w' ⟨rfl, hB⟩
    refine ⟨prText ns, by rw [hok], ?_, hB⟩
    have : prText ns = ⟨(prBytes ns).toArray⟩ := by rw [prText, hok]; rfl
    rw [this]
    show (prBytes ns).toArray.size ≤ _
    simp; omega
  have HP := Lib.hid hprint
  have hval : ∀ A c W, Nodes W W.heap.size A ns → Calls Try.prog 11 #[.slice A ns.length c] W fun e w' => e = .returned (faultV (0, 0)) ∧ Below W.heap.size W w' := by
    intro A c W hN
    have := svalidate_any A c ns W hN (by unfold maxLen; omega)
    rw [hok] at this
    exact this
  have HV := Lib.hid hval
  clear hread hprint hval h1 hok hlen
  go_enter Try.func6, Try.ntmps6
  go_wp2_with fail
  refine (HR.out _).mono ?_
  rintro e w1 ⟨A, c, rfl, hN1, hb1⟩
  have HN1 := Lib.hid hN1
  clear hN1
  go_wp2_with fail
  refine (reads_any _).mono ?_
  rintro e w2 ⟨rfl, hb2⟩
  have F2 := Lib.hid ((fb_new w1 (.int .i64 0) (.int .i64 0)).below hb2)
  have t0 := F2.out.two.fst
  have z2 := hb2.size
  simp only [World.size_alloc] at z2
  have hN2 : Nodes w2 w2.heap.size A ns := HN1.out.to (((Below.refl _ _).alloc (Nat.le_refl _) _).trans (hb2.mono (by simp))) (by omega)
  go_wp2_with fail
  refine (HP.out A c _ hN2).mono ?_
  rintro e w3 ⟨t, rfl, hts, hb3⟩
  have z3 := hb3.size
  have hN3 : Nodes (w3.alloc (.cells #[.int .i64 0, .int .i64 0] 25)) (w3.alloc (.cells #[.int .i64 0, .int .i64 0] 25)).heap.size A ns := (hN2.to hb3 z3).to ((Below.refl _ _).alloc (Nat.le_refl _) _) (by simp)
  have HN3 := Lib.hid hN3
  clear hN2 hN3 t0
  go_wp2_with fail
  refine (HV.out A c _ ?_).mono ?_
  · exact HN3.out
  rintro e w4 ⟨rfl, hb4⟩
  have F4 := Lib.hid ((fb_new w3 (.int .i64 0) (.int .i64 0)).below hb4)
  have t0 := F4.out.two.fst
  have z4 := hb4.size
  simp only [World.size_alloc] at z4
  have z1 := hb1.size
  have y : Below w.heap.size w w4 := (((hb1.alloc z1 _).trans (hb2.mono (by simp; omega))).trans (hb3.mono (by omega))).alloc (by omega) _ |>.trans (hb4.mono (by simp; omega))
  have HY := Lib.hid y
  have hti : (t.size : Int) ≤ 2 * (s.size : Int) := by omega
  clear y
  go_wp2
  go_ret
  exact ⟨rfl, HY.out⟩
theorem riv_any (s : ByteArray) (hsm : s.size ≤ maxLen) (w : World) :
    Calls Try.prog 6 #[.string s] w fun e w' => e = .returned (.bool true) ∧ Below w.heap.size w w' := by
  rcases rdAll_cases s with ⟨h1, h2⟩ | ⟨hs, a, ns, hr, _, h3, h4⟩
  · exact riv_bad s hsm w h1 h2
  · obtain ⟨h5, h6⟩ := rd_valid hs hr h3
    exact riv_good s hs w ns h4 h5 h6 h3
end Go.Proofs.Ytbdollafpjejiaa

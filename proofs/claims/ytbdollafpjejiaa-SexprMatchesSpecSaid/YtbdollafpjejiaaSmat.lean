/- SexprMatchesSpec: the walk. -/
import Derived.Test.YtbdollafpjejiaaSrtl
import Derived.Test.YtbdollafpjejiaaSrff
import Derived.Test.YtbdollafpjejiaaStx
import Derived.Test.YtbdollafpjejiaaSopn
namespace Go.Proofs.Ytbdollafpjejiaa
open Go.RowKit Go.Shelf
set_option linter.unusedSimpArgs false
set_option linter.unusedVariables false
set_option maxRecDepth 100000

/-- Four cells, and nothing below W0 has changed. -/
structure Holds2 (W0 W : World) : Prop where
  below : Below W0.heap.size W0 W
abbrev S4 (W0 : World) (f1 f2 : Nat) (u1 u2 u3 u4 : Value) (W : World) : Prop := W.cell? ⟨f1, 0, none⟩ = some u1 ∧ W.cell? ⟨f1, 1, none⟩ = some u2 ∧ W.cell? ⟨f2, 0, none⟩ = some u3 ∧ W.cell? ⟨f2, 1, none⟩ = some u4 ∧ Holds2 W0 W
theorem s4_step {W0 W W' : World} {f1 f2 : Nat} {u1 u2 u3 u4 : Value} (l1 : f1 < W0.heap.size) (l2 : f2 < W0.heap.size) (h : S4 W0 f1 f2 u1 u2 u3 u4 W) (hb : Below W.heap.size W W') : S4 W0 f1 f2 u1 u2 u3 u4 W' := by
  obtain ⟨h1, h2, h3, h4, h5⟩ := h
  have hz := h5.below.size
  exact ⟨(hb.cell (p := ⟨f1, 0, none⟩) (by show f1 < _; omega)).trans h1, (hb.cell (p := ⟨f1, 1, none⟩) (by show f1 < _; omega)).trans h2, (hb.cell (p := ⟨f2, 0, none⟩) (by show f2 < _; omega)).trans h3, (hb.cell (p := ⟨f2, 1, none⟩) (by show f2 < _; omega)).trans h4, ⟨h5.below.trans (hb.mono hz)⟩⟩
theorem s4_drew {W0 W : World} {f1 f2 : Nat} {u1 u2 u3 u4 : Value} (h : S4 W0 f1 f2 u1 u2 u3 u4 W) : S4 W0 f1 f2 u1 u2 u3 u4 W.drew := ⟨h.1, h.2.1, h.2.2.1, h.2.2.2.1, ⟨h.2.2.2.2.below.drew⟩⟩
theorem s4_nodes {W0 W : World} {f1 f2 : Nat} {u1 u2 u3 u4 : Value} {A : Option Addr} {ns : List Nd} (h : S4 W0 f1 f2 u1 u2 u3 u4 W) (hn : Nodes W0 W0.heap.size A ns) : Nodes W W.heap.size A ns := hn.to h.2.2.2.2.below h.2.2.2.2.below.size
theorem s4_end {w W0 W : World} {f1 f2 : Nat} {u1 u2 u3 u4 : Value} (h : S4 W0 f1 f2 u1 u2 u3 u4 W) (hn : Below w.heap.size w W0) : Below w.heap.size w W := hn.trans (h.2.2.2.2.below.mono hn.size)

set_option maxRecDepth 100000 in
set_option maxHeartbeats 1000000 in
theorem smat_bad (A : Option Addr) (c : Nat) (ns : List Nd) (w : World) (hE : Nodes w w.heap.size A ns) (hn : ns.length ≤ maxLen) (hR : Rng ns) (h : (sxFault ns).1 ≠ 0) :
    Calls Try.prog 3 #[.slice A ns.length c] w fun e w' => e = .returned (.bool true) ∧ Below w.heap.size w w' := by
  have hprint : ∀ W, Nodes W W.heap.size A ns → Calls Try.prog 10 #[.slice A ns.length c] W fun e w' => e = .returned (.tuple #[.string ⟨#[]⟩, faultV (sxFault ns)]) ∧ Below W.heap.size W w' := by
    intro W hW
    refine (print_at A c ns W hn hW).mono ?_
    rintro e w' ⟨rfl, hb⟩
    rw [prText, beq_false_of_ne h]
    exact ⟨rfl, hb⟩
  have hval : ∀ W, Nodes W W.heap.size A ns → Calls Try.prog 11 #[.slice A ns.length c] W fun e w' => e = .returned (faultV (sxFault ns)) ∧ Below W.heap.size W w' := fun W hW => svalidate_any A c ns W hW hn
  have hflt : ∀ W, Nodes W W.heap.size A ns → Calls Try.prog 9 #[.slice A ns.length c] W fun e w' => e = .returned (faultV (sxFault ns)) ∧ Below W.heap.size W w' := fun W hW => sfault_any A c ns W hW hn hR
  generalize sxFault ns = f at hprint hval hflt h
  obtain ⟨fc, fi⟩ := f
  have HP := Lib.hid hprint
  have HV := Lib.hid hval
  have HF := Lib.hid hflt
  have HE := Lib.hid hE
  have n1 : (fc != 0) = true := by simpa using h
  have n2 : (fc == 0) = false := by simpa using h
  clear h hE hprint hval hflt
  go_enter Try.func3, Try.ntmps3
  go_wp2_with fail
  refine (reads_any _).mono ?_
  rintro e w1 ⟨rfl, hb1⟩
  have HB1 := Lib.hid hb1
  clear hb1
  go_wp2_with fail
  refine (HF.out w1 (HE.out.to HB1.out HB1.out.size)).mono ?_
  rintro e w2 ⟨rfl, hb2⟩
  have HB2 := Lib.hid (HB1.out.trans (hb2.mono HB1.out.size))
  clear hb2
  have hN2 : Nodes (w2.alloc (.cells #[.int .i64 fc, .int .i64 fi] 25)) (w2.alloc (.cells #[.int .i64 fc, .int .i64 fi] 25)).heap.size A ns := (HE.out.to (B' := w2.heap.size) HB2.out HB2.out.size).to ((Below.refl _ _).alloc (Nat.le_refl _) _) (by simp)
  have HN2 := Lib.hid hN2
  clear hN2
  go_wp2_with fail
  refine (HP.out _ ?_).mono ?_
  · exact HN2.out
  rintro e w3 ⟨rfl, hb3⟩
  have HB3 := Lib.hid hb3
  clear hb3
  go_wp2_with fail
  have hz3 := HB3.out.size
  simp only [World.size_alloc] at hz3
  have hF1 : FB (w3.alloc (.cells #[.int .i64 fc, .int .i64 fi] 25)) w2.heap.size (.int .i64 fc) (.int .i64 fi) := ((fb_new w2 _ _).below HB3.out).below ((Below.refl _ _).alloc (Nat.le_refl _) _)
  have hF2 := fb_new w3 (.int .i64 fc) (.int .i64 fi)
  have hy : Below w.heap.size w (w3.alloc (.cells #[.int .i64 fc, .int .i64 fi] 25)) := by
    have z2 := HB2.out.size
    exact ((HB2.out.alloc z2 _).trans (HB3.out.mono (by simp; omega))).alloc (by omega) _
  generalize hW : World.alloc w3 _ = W at hF1 hF2 hy ⊢
  have HY := Lib.hid hy
  have hNW := HE.out.to (B' := W.heap.size) hy hy.size
  have HNW := Lib.hid hNW
  have l1 := hF1.lt
  have l2 := hF2.lt
  have s1 := hF1.two.fst
  have s2 := hF1.two.snd
  have s3 := hF2.two.fst
  have s4 := hF2.two.snd
  have HH : Holds2 W W := ⟨Below.refl _ _⟩
  clear HB1 HB2 HB3 HN2 hz3 hF1 hF2 hy hW hNW
  generalize w2.heap.size = f1 at *
  generalize w3.heap.size = f2 at *
  go_region_held3 (fun V => V.cell? ⟨f1, 0, none⟩ = some (.int .i64 fc) ∧ V.cell? ⟨f1, 1, none⟩ = some (.int .i64 fi) ∧ V.cell? ⟨f2, 0, none⟩ = some (.int .i64 fc) ∧ V.cell? ⟨f2, 1, none⟩ = some (.int .i64 fi) ∧ Holds2 W V) (first | (refine ⟨?_, ?_, ?_, ?_, ?_⟩ <;> assumption) | (exact s4_drew ⟨s1, s2, s3, s4, HH⟩) | (exact s4_step l1 l2 (by assumption) (by assumption)))
    (first
      | (go_at_call 11; refine (HV.out _ ?_).mono ?_; (exact s4_nodes (by assumption) HNW.out); rintro e w' ⟨rfl, hb⟩))
  all_goals
    have HZ := Lib.hid (s4_end (by assumption) HY.out)
    go_wp2
    go_ret
    exact ⟨rfl, HZ.out⟩
set_option maxRecDepth 100000 in
set_option maxHeartbeats 1000000 in
theorem smat_good (A : Option Addr) (c : Nat) (ns : List Nd) (w : World) (hE : Nodes w w.heap.size A ns) (hn : ns.length ≤ maxLen) (hR : Rng ns) (h : (sxFault ns).1 = 0) :
    Calls Try.prog 3 #[.slice A ns.length c] w fun e w' => e = .returned (.bool true) ∧ Below w.heap.size w w' := by
  obtain ⟨hS, hf⟩ := sx_ok h
  have h300 := hS.le
  have h1n := hS.ge
  have hprint := fun (W : World) (hW : Nodes W W.heap.size A ns) => print_ok A c ns W hn hW h
  have hval : ∀ W, Nodes W W.heap.size A ns → Calls Try.prog 11 #[.slice A ns.length c] W fun e w' => e = .returned (faultV (0, 0)) ∧ Below W.heap.size W w' := by
    intro W hW
    have := svalidate_any A c ns W hW hn
    rw [hf] at this
    exact this
  have hflt : ∀ W, Nodes W W.heap.size A ns → Calls Try.prog 9 #[.slice A ns.length c] W fun e w' => e = .returned (faultV (0, 0)) ∧ Below W.heap.size W w' := by
    intro W hW
    have := sfault_any A c ns W hW hn hR
    rw [hf] at this
    exact this
  have htx : ∀ W, Nodes W W.heap.size A ns → Calls Try.prog 12 #[.slice A ns.length c, .int .i64 ((ns.length : Int) - 1)] W fun e w' => e = .returned (.string (prText ns)) ∧ W = w' := by
    intro W hW
    have h1 := stext_any A c ns W hW h300 hS.code ns.length (ns.length - 1) (by omega) (by omega)
    have e1 : ((ns.length - 1 : Nat) : Int) = (ns.length : Int) - 1 := by omega
    have e2 : prBytes ns = txt ns (ns.length - 1) := txtN_fuel hS.code _ _ _ (by omega) (by omega) (by omega)
    rw [e1, ← e2] at h1
    have e3 : prText ns = bs (prBytes ns) := by rw [prText, h]; rfl
    rw [← e3] at h1
    exact h1
  generalize prText ns = t at hprint htx
  have HT := Lib.hid htx
  have hte : (t.toList == t.toList) = true := by simp
  clear htx hS hf
  have HP := Lib.hid hprint
  have HV := Lib.hid hval
  have HF := Lib.hid hflt
  have HE := Lib.hid hE
  clear h hE hprint hval hflt
  go_enter Try.func3, Try.ntmps3
  go_wp2_with fail
  refine (reads_any _).mono ?_
  rintro e w1 ⟨rfl, hb1⟩
  have HB1 := Lib.hid hb1
  clear hb1
  go_wp2_with fail
  refine (HF.out w1 (HE.out.to HB1.out HB1.out.size)).mono ?_
  rintro e w2 ⟨rfl, hb2⟩
  have HB2 := Lib.hid (HB1.out.trans (hb2.mono HB1.out.size))
  clear hb2
  have hN2 : Nodes (w2.alloc (.cells #[.int .i64 0, .int .i64 0] 25)) (w2.alloc (.cells #[.int .i64 0, .int .i64 0] 25)).heap.size A ns := (HE.out.to (B' := w2.heap.size) HB2.out HB2.out.size).to ((Below.refl _ _).alloc (Nat.le_refl _) _) (by simp)
  have HN2 := Lib.hid hN2
  clear hN2
  go_wp2_with fail
  refine (HP.out _ ?_).mono ?_
  · exact HN2.out
  rintro e w3 ⟨rfl, hb3⟩
  have HB3 := Lib.hid hb3
  clear hb3
  go_wp2_with fail
  have hz3 := HB3.out.size
  simp only [World.size_alloc] at hz3
  have hF1 : FB (w3.alloc (.cells #[.int .i64 0, .int .i64 0] 25)) w2.heap.size (.int .i64 0) (.int .i64 0) := ((fb_new w2 _ _).below HB3.out).below ((Below.refl _ _).alloc (Nat.le_refl _) _)
  have hF2 := fb_new w3 (.int .i64 0) (.int .i64 0)
  have hy : Below w.heap.size w (w3.alloc (.cells #[.int .i64 0, .int .i64 0] 25)) := by
    have z2 := HB2.out.size
    exact ((HB2.out.alloc z2 _).trans (HB3.out.mono (by simp; omega))).alloc (by omega) _
  generalize hW : World.alloc w3 _ = W at hF1 hF2 hy ⊢
  have HY := Lib.hid hy
  have hNW := HE.out.to (B' := W.heap.size) hy hy.size
  have HNW := Lib.hid hNW
  have l1 := hF1.lt
  have l2 := hF2.lt
  have s1 := hF1.two.fst
  have s2 := hF1.two.snd
  have s3 := hF2.two.fst
  have s4 := hF2.two.snd
  have HH : Holds2 W W := ⟨Below.refl _ _⟩
  clear HB1 HB2 HB3 HN2 hz3 hF1 hF2 hy hW hNW
  generalize w2.heap.size = f1 at *
  generalize w3.heap.size = f2 at *
  go_region_held3 (fun V => V.cell? ⟨f1, 0, none⟩ = some (.int .i64 0) ∧ V.cell? ⟨f1, 1, none⟩ = some (.int .i64 0) ∧ V.cell? ⟨f2, 0, none⟩ = some (.int .i64 0) ∧ V.cell? ⟨f2, 1, none⟩ = some (.int .i64 0) ∧ Holds2 W V) (first | (refine ⟨?_, ?_, ?_, ?_, ?_⟩ <;> assumption) | (exact s4_drew ⟨s1, s2, s3, s4, HH⟩) | (exact s4_step l1 l2 (by assumption) (by assumption)))
    (first
      | (go_at_call 11; refine (HV.out _ ?_).mono ?_; (exact s4_nodes (by assumption) HNW.out); rintro e w' ⟨rfl, hb⟩))
  all_goals
    have HZ := Lib.hid (s4_end (by assumption) HY.out)
    have hcall := HT.out _ (s4_nodes (by assumption) HNW.out)
    go_wp2_with (go_at_call 12; refine hcall.mono ?_; rintro e w' ⟨rfl, rfl⟩)
    go_ret
    exact ⟨rfl, HZ.out⟩
theorem smat_any (A : Option Addr) (c : Nat) (ns : List Nd) (w : World) (hE : Nodes w w.heap.size A ns) (hn : ns.length ≤ maxLen) (hR : Rng ns) :
    Calls Try.prog 3 #[.slice A ns.length c] w fun e w' => e = .returned (.bool true) ∧ Below w.heap.size w w' := by
  by_cases h : (sxFault ns).1 = 0
  · exact smat_good A c ns w hE hn hR h
  · exact smat_bad A c ns w hE hn hR h
end Go.Proofs.Ytbdollafpjejiaa

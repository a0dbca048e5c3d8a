/- Print. -/
import Derived.Test.YtbdollafpjejiaaSprw
import Derived.Test.YtbdollafpjejiaaSrsy
import Derived.Laws.EntriesVeiled
import Derived.IntWalk
namespace Go.Proofs.Ytbdollafpjejiaa
open Go.RowKit Go.Shelf
set_option linter.unusedSimpArgs false
set_option linter.unusedVariables false
set_option maxRecDepth 100000

theorem first_zero {code : Nat → Int} {n : Nat} (h : (firstF code natPos n).1 = 0) : ∀ k, k < n → code k = 0 := by
  intro k hk
  unfold firstF at h
  cases e : (List.range n).find? (fun i => code i != 0) with
  | none =>
    rw [List.find?_eq_none] at e
    simpa using e k (by simpa using hk)
  | some i =>
    rw [e] at h
    have := List.find?_some e
    simp at this
    exact absurd h this
structure SxOk (ns : List Nd) : Prop where
  ge : 1 ≤ ns.length
  le : ns.length ≤ 300
  code : ∀ k, k < ns.length → nodeCode ns k = 0
  root : ix (tabS ns ns.length) (ns.length - 1) = 0
theorem sx_ok {ns : List Nd} (h : (sxFault ns).1 = 0) : SxOk ns ∧ sxFault ns = (0, 0) := by
  unfold sxFault at h
  split at h
  · cases h
  · rename_i h1
    split at h
    · rename_i h2; exact absurd h h2
    · rename_i h2
      split at h
      · cases h
      · rename_i h3
        have h4 : (firstF (nodeCode ns) natPos ns.length).1 = 0 := Classical.byContradiction h2
        have h5 : ix (tabS ns ns.length) (ns.length - 1) = 0 := Classical.byContradiction h3
        refine ⟨⟨by omega, by omega, first_zero h4, h5⟩, ?_⟩
        unfold sxFault
        rw [if_neg h1, if_neg h2, if_neg h3]
theorem code_start {ns : List Nd} {k : Nat} (h : nodeCode ns k = 0) : ∃ r, startOf (tabS ns k) (ch ns k) = some r := by
  unfold nodeCode at h
  split at h
  · cases h
  · split at h
    · cases h
    · split at h
      · cases h
      · rename_i h3
        cases hs : startOf (tabS ns k) (ch ns k) with
        | none => rw [hs] at h3; exact absurd rfl h3
        | some r => exact ⟨r, rfl⟩
theorem ok_child {ns : List Nd} (h : SxOk ns) : ∀ k, k < ns.length → ∀ x ∈ ch ns k, 0 ≤ x ∧ x < k := by
  intro k hk x hx
  obtain ⟨r, hr⟩ := code_start (h.code k hk)
  exact start_mem hr x hx
/-- The text of an expression. -/
def prBytes (ns : List Nd) : List UInt8 := txtN ns ns.length (ns.length - 1)
def prText (ns : List Nd) : ByteArray := bif (sxFault ns).1 == 0 then ⟨(prBytes ns).toArray⟩ else ⟨#[]⟩
def PrintPost (ns : List Nd) (w : World) (e : Ending) (w' : World) : Prop :=
  e = .returned (.tuple #[.string (prText ns), faultV (sxFault ns)]) ∧ Below w.heap.size w w'

set_option maxHeartbeats 1000000 in
theorem print_any (A : Option Addr) (c : Nat) (ns : List Nd) (w : World) (hE : Nodes w w.heap.size A ns) (hn : ns.length ≤ maxLen) (hlen : (sxFault ns).1 = 0 → (prBytes ns).length ≤ 140737488355328) :
    Calls Try.prog 10 #[.slice A ns.length c] w (PrintPost ns w) := by
  have HE := Lib.hid hE
  have hmf : ∀ (fn : Fn) (first cap : Array Value) (w : World), (Instr.makeFunc fn first cap).run Try.prog w = .ok (.func fn first cap) w := fun _ _ _ _ => rfl
  have hn2 : ns.length ≤ 9223372036854775807 := by unfold maxLen at hn; omega
  by_cases hok : (sxFault ns).1 = 0
  · obtain ⟨hS, hf⟩ := sx_ok hok
    have hl2 := hlen hok
    have HT := Lib.hid (show prText ns = ⟨(prBytes ns).toArray⟩ by rw [prText, hok]; rfl)
    have HF := Lib.hid hf
    have HC := Lib.hid (ok_child hS)
    have hg1 := hS.ge
    have hg2 := hS.le
    clear hlen hok hf hE hS
    have hval : ∀ W, Nodes W W.heap.size A ns → Calls Try.prog 11 #[.slice A ns.length c] W fun e w' => e = .returned (.agg #[.int .i64 0, .int .i64 0]) ∧ Below W.heap.size W w' := by
      intro W hW
      have := svalidate_any A c ns W hW hn
      rw [HF.out] at this
      exact this
    have HV := Lib.hid hval
    clear hval
    go_enter Try.func10, Try.ntmps10
    go_wp2_with fail
    generalize hW0 : World.alloc (World.alloc w _) _ = W0
    have hz0 : W0.heap.size = w.heap.size + 1 + 1 := by rw [← hW0]; simp
    have hB0 : Below w.heap.size w W0 := by rw [← hW0]; exact ((Below.refl _ _).alloc (Nat.le_refl _) _).alloc (by simp) _
    have hF0 : FB W0 (w.heap.size + 1) (.int .i64 0) (.int .i64 0) := by
      rw [← hW0]
      have := fb_new (w.alloc (.cells #[.slice A ns.length c] 22)) (.int .i64 0) (.int .i64 0)
      simpa using this
    have hL0 : W0.heap[w.heap.size]? = some (.cells #[.slice A ns.length c] 22 (0, 0)) := by
      rw [← hW0]
      exact (Lib.alloc_old _ _ _ (by simp)).trans (heap_alloc_new w _)
    have HB0 := Lib.hid hB0
    have HF0 := Lib.hid hF0
    have HL0 := Lib.hid hL0
    have hzz := Nat.le_of_eq hz0.symm
    have hN0 := HE.out.to hB0 (B' := W0.heap.size) (by omega)
    have hcall := HV.out W0 hN0
    clear hW0 hz0 hB0 hF0 hL0 hN0
    go_wp2_with (go_at_call 11; refine hcall.mono ?_)
    rintro e W1 ⟨rfl, hB1⟩
    have HF1 := Lib.hid (HF0.out.below hB1)
    have HL1 := Lib.hid (show W1.heap[w.heap.size]? = _ from (hB1.block _ (by omega)).trans HL0.out)
    have HB1 := Lib.hid (HB0.out.trans (hB1.mono (by omega)))
    have hz1 := hB1.size
    clear hB1 hcall
    have r0 : W1.cell? ⟨w.heap.size, 0, none⟩ = some (.slice A ns.length c) := by rw [Lib.cell_of_heap HL1.out]; rfl
    go_wp2_with fail
    generalize hW3 : World.alloc (World.alloc (World.alloc W1 _) _) _ = W3
    have hz3 : W3.heap.size = W1.heap.size + 1 + 1 + 1 := by rw [← hW3]; simp
    have hB3 : Below W1.heap.size W1 W3 := by rw [← hW3]; exact (((Below.refl _ _).alloc (Nat.le_refl _) _).alloc (by simp) _).alloc (by simp; omega) _
    have hb3 : W3.heap[W1.heap.size + 1]? = some (.cells #[.pointer none, .slice none 0 0] BT (0, 0)) := by
      rw [← hW3]
      refine (Lib.alloc_old _ _ _ (by simp)).trans ?_
      have := heap_alloc_new (W1.alloc (.cells #[.int .i64 0, .int .i64 0] 25)) (.cells #[.pointer none, .slice none 0 0] BT)
      simpa using this
    have hq3 : W3.heap[W1.heap.size + 1 + 1]? = some (.cells #[fnv (W1.heap.size + 1) (W1.heap.size + 1 + 1) w.heap.size] 47 (0, 0)) := by
      rw [← hW3]
      have := heap_alloc_new ((W1.alloc (.cells #[.int .i64 0, .int .i64 0] 25)).alloc (.cells #[.pointer none, .slice none 0 0] BT)) (.cells #[fnv (W1.heap.size + 1) (W1.heap.size + 1 + 1) w.heap.size] 47)
      simpa using this
    have hN3 := HE.out.to (HB1.out.trans (hB3.mono (by omega))) (B' := W1.heap.size + 1) (by omega)
    have HN3 := Lib.hid hN3
    have hP3 : PEnv W3 (W1.heap.size + 1) (W1.heap.size + 1) (W1.heap.size + 1 + 1) w.heap.size A c ns [] :=
      ⟨.inl ⟨Nat.le_refl _, _, hb3, World.ownsRowF_nil _ _ _ _, by simp [Value.ownBlock]⟩, hq3, (hB3.block _ (by omega)).trans HL1.out, hN3, by omega, by omega, by omega⟩
    have HP3 := Lib.hid hP3
    have HF3 := Lib.hid (HF1.out.below hB3)
    have HB3 := Lib.hid (HB1.out.trans (hB3.mono (by omega)))
    have hz3' := Nat.le_of_eq hz3.symm
    clear hW3 hz3 hB3 hb3 hq3 hN3 hP3 r0
    have e0 : W3.cell? ⟨W1.heap.size + 1 + 1, 0, none⟩ = some (fnv (W1.heap.size + 1) (W1.heap.size + 1 + 1) w.heap.size) := by rw [Lib.cell_of_heap HP3.out.self]; rfl
    have e1 : W3.cell? ⟨w.heap.size, 0, none⟩ = some (.slice A ns.length c) := by rw [Lib.cell_of_heap HP3.out.list]; rfl
    obtain ⟨L, hL⟩ : ∃ L : Nat, ns.length = L + 1 := ⟨ns.length - 1, by omega⟩
    have hLn : L < ns.length := by omega
    obtain ⟨b2, o2, Ak, ck, rfl, _, hd1, hd2, hNk, hck, hcmk, _, _⟩ := HN3.out.at_ hLn
    have hcall := write_any (W1.heap.size + 1) (W1.heap.size + 1) (W1.heap.size + 1 + 1) w.heap.size (some ⟨b2, o2, none⟩) c ns HC.out hn ns.length L [] W3.drew Ak ck hLn hLn hck hcmk hNk (by
      have h1 : (prBytes ns) = txtN ns ns.length L := by rw [prBytes, show ns.length - 1 = L by omega]
      rw [← h1]; simpa using hl2) (HP3.out.drewN 1)
    have HT2 := Lib.hid (show prText ns = ⟨(txtN ns ns.length L).toArray⟩ by rw [HT.out, prBytes, show ns.length - 1 = L by omega])
    have hL1 : (0 : Int) ≤ (ns.length : Int) - 1 := by omega
    have hL2 : (ns.length : Int) - 1 = (L : Int) := by omega
    have hL3 : (L : Int) < (ns.length : Int) := by omega
    have hL4 : IntKind.i64.wrap (L : Int) = (L : Int) := IntWalk.i64_in _ (by omega)
    clear hL
    refine wp_region_still_tail 7 (by kernel_rfl) (by kernel_rfl) ?_
    simp only [List.take_succ_cons, List.take_zero, List.drop_succ_cons, List.drop_zero]
    change wpStill _ _ W3.drew _ _ _
    repeat still_step
    try refine wpStill_nil ?_
    change wpList _ _ _ _ _ W3.drew
    clear hL1 hL2 hL3 hL4 e0 e1 hd1 hd2
    go_wp2_with (go_at_call 22; refine hcall.mono ?_)
    rintro e W4 hpost
    obtain ⟨rfl, hb4, hB4, hO4⟩ := hpost
    have hb4' : Lib.IsBuilderF 46 5 (W1.heap.size + 1) (W1.heap.size + 1) (Lib.byteCells (txtN ns ns.length L)) W4 := by simpa using hb4
    have HBD := Lib.hid hb4'
    have HF4 := Lib.hid (show FB W4 (w.heap.size + 1) (.int .i64 0) (.int .i64 0) from (hB4.block _ (by omega)).trans HF3.out)
    have HB4 := Lib.hid (HB3.out.drew.trans (hB4.mono (by omega)))
    have hz4 := hB4.size
    have hz4' : W3.heap.size ≤ W4.heap.size := hz4
    clear hb4 hb4' hB4 hO4 hcall hz4
    go_wp2_with (go_at_call 25; refine (Try.Builder_String_any_k (W1.heap.size + 1) (W1.heap.size + 1) (txtN ns ns.length L) _ HBD.out (by omega)).mono ?_)
    rintro e W5 ⟨rfl, _, hB5, _⟩
    have HF5 := Lib.hid (show FB W5 (w.heap.size + 1) (.int .i64 0) (.int .i64 0) from (hB5.block _ (by omega)).trans HF4.out)
    have HB5 := Lib.hid (HB4.out.trans (hB5.mono (by omega)))
    have hz5 := hB5.size
    clear hB5
    have t0 := HF5.out.two.fst
    have t1 := HF5.out.two.snd
    have tf0 := HF5.out.two.ffst
    have tf1 := HF5.out.two.fsnd
    have tl := HF5.out.lt
    go_wp2
    refine post_with_fault (g := w.heap.size + 1) (x := .int .i64 0) (y := .int .i64 0) Try.results10 rfl ?_ ?_
    · have hT := HF5.out.two
      (repeat' (first | (with_reducible assumption) | (with_reducible exact two_new _ _ _ _) | (with_reducible exact (two_new _ _ _ _).pair) | (with_reducible exact Two.pair ‹_›) | (with_reducible refine Pair.set ?_ _ _) | (with_reducible refine Two.alloc ?_ _) | (with_reducible refine Pair.alloc ?_ _) | (with_reducible refine two1 ?_) | (with_reducible refine twoN ?_ _) | (with_reducible refine Pair.drew ?_) | (with_reducible refine Pair.drewN ?_ _) | (with_reducible refine Two.far ?_ ?_ _) | (with_reducible refine Pair.far ?_ ?_ _) | (simp; omega)))
    · refine ⟨?_, ?_⟩
      · rw [HT2.out, HF.out]; rfl
      · have hbase := HB5.out
        (repeat' (first | (with_reducible assumption) | (with_reducible exact Below.refl _ _) | (with_reducible refine belowN ?_ _) | (with_reducible refine Below.alloc ?_ ?_ _) | (with_reducible refine Below.drew ?_) | (with_reducible refine Below.setCell ?_ ?_ _) | go_size))
  · have HT := Lib.hid (show prText ns = ⟨#[]⟩ by
      have : ((sxFault ns).1 == 0) = false := beq_false_of_ne hok
      rw [prText, this]; rfl)
    generalize hff : sxFault ns = ff at hok
    obtain ⟨fc, fi⟩ := ff
    have HF := Lib.hid hff
    have hok' : ¬ fc = 0 := hok
    have hokb : (fc == 0) = false := by simpa using hok'
    clear hlen hok hE hff
    have hval : ∀ W, Nodes W W.heap.size A ns → Calls Try.prog 11 #[.slice A ns.length c] W fun e w' => e = .returned (.agg #[.int .i64 fc, .int .i64 fi]) ∧ Below W.heap.size W w' := by
      intro W hW
      have := svalidate_any A c ns W hW hn
      rw [HF.out] at this
      exact this
    have HV := Lib.hid hval
    clear hval
    go_enter Try.func10, Try.ntmps10
    go_wp2_with fail
    generalize hW0 : World.alloc (World.alloc w _) _ = W0
    have hz0 : W0.heap.size = w.heap.size + 1 + 1 := by rw [← hW0]; simp
    have hB0 : Below w.heap.size w W0 := by rw [← hW0]; exact ((Below.refl _ _).alloc (Nat.le_refl _) _).alloc (by simp) _
    have hF0 : FB W0 (w.heap.size + 1) (.int .i64 0) (.int .i64 0) := by
      rw [← hW0]
      have := fb_new (w.alloc (.cells #[.slice A ns.length c] 22)) (.int .i64 0) (.int .i64 0)
      simpa using this
    have HB0 := Lib.hid hB0
    have HF0 := Lib.hid hF0
    have hzz := Nat.le_of_eq hz0.symm
    have hN0 := HE.out.to hB0 (B' := W0.heap.size) (by omega)
    have hcall := HV.out W0 hN0
    clear hW0 hz0 hB0 hF0 hN0
    go_wp2_with (go_at_call 11; refine hcall.mono ?_)
    rintro e W1 ⟨rfl, hB1⟩
    have HF1 := Lib.hid (HF0.out.below hB1)
    have HB1 := Lib.hid (HB0.out.trans (hB1.mono (by omega)))
    have hz1 := hB1.size
    clear hB1 hcall
    have t0 := HF1.out.two.fst
    have t1 := HF1.out.two.snd
    have tf0 := HF1.out.two.ffst
    have tf1 := HF1.out.two.fsnd
    have tl := HF1.out.lt
    go_wp2_with fail
    go_region
    all_goals
      go_wp2
      refine post_with_fault (g := w.heap.size + 1) (x := .int .i64 fc) (y := .int .i64 fi) Try.results10 rfl ?_ ?_
      · have hT := HF1.out.two
        (repeat' (first | (with_reducible assumption) | (with_reducible exact two_new _ _ _ _) | (with_reducible exact (two_new _ _ _ _).pair) | (with_reducible exact Two.pair ‹_›) | (with_reducible refine Pair.set ?_ _ _) | (with_reducible refine Two.alloc ?_ _) | (with_reducible refine Pair.alloc ?_ _) | (with_reducible refine two1 ?_) | (with_reducible refine twoN ?_ _) | (with_reducible refine Pair.drew ?_) | (with_reducible refine Pair.drewN ?_ _) | (with_reducible refine Two.far ?_ ?_ _) | (with_reducible refine Pair.far ?_ ?_ _) | (simp; omega)))
      · refine ⟨?_, ?_⟩
        · rw [HT.out, HF.out]; rfl
        · have hbase := HB1.out
          (repeat' (first | (with_reducible assumption) | (with_reducible exact Below.refl _ _) | (with_reducible refine belowN ?_ _) | (with_reducible refine Below.alloc ?_ ?_ _) | (with_reducible refine Below.drew ?_) | (with_reducible refine Below.setCell ?_ ?_ _) | go_size))
end Go.Proofs.Ytbdollafpjejiaa

/- SexprListsNest: the walk where all three are read. -/
import Derived.Test.YtbdollafpjejiaaSnst
import Derived.Test.YtbdollafpjejiaaSsam
namespace Go.Proofs.Ytbdollafpjejiaa
open Go.RowKit Go.Shelf
set_option linter.unusedSimpArgs false
set_option linter.unusedVariables false
set_option maxRecDepth 100000

theorem nodes_pre {w : World} {B : Nat} {A : Option Addr} {ns ms : List Nd} (h : Nodes w B A (ns ++ ms)) : Nodes w B A ns := by
  refine ⟨fun k => ?_, fun h0 => ?_⟩
  · by_cases hk : k < ns.length
    · have := h.1 k
      rw [sy_lt hk, ch_lt hk] at this
      exact this
    · rw [sy_ge (by omega), ch_ge (by omega)]
      exact ⟨Nat.zero_le _, Nat.zero_le _⟩
  · obtain ⟨b, o, hA, hlt, hc⟩ := h.2 (by rw [List.length_append]; omega)
    refine ⟨b, o, hA, hlt, fun k hk => ?_⟩
    have := hc k (by rw [List.length_append]; omega)
    rw [sy_lt hk, ch_lt hk] at this
    exact this
theorem nums_new2 (w : World) (T : TypeId) (p q : Int) : Nums (w.alloc (.cells #[.int .i64 p, .int .i64 q] T)) (w.alloc (.cells #[.int .i64 p, .int .i64 q] T)).heap.size (some ⟨w.heap.size, 0, none⟩) [p, q] := by
  intro _
  refine ⟨w.heap.size, 0, rfl, by simp, fun k hk => ?_⟩
  rw [Lib.cell_of_heap (heap_alloc_new w _)]
  match k, hk with
  | 0, _ => rfl
  | 1, _ => rfl
theorem pair_len (x y : List Nd) : (pairN x y).length = x.length + y.length + 1 := by simp [pairN, shN_len]; omega
theorem pair_sy (x y : List Nd) : sy (pairN x y) (x.length + y.length) = ⟨#[]⟩ := by
  have h : (x ++ shN x.length y).length = x.length + y.length := by simp [shN_len]
  rw [pairN, ← h, sy_at]
theorem pair_ch (x y : List Nd) : ch (pairN x y) (x.length + y.length) = [(x.length : Int) - 1, (x.length : Int) + y.length + 1 - 2] := by
  have h : (x ++ shN x.length y).length = x.length + y.length := by simp [shN_len]
  have h2 : (x.length : Int) + y.length + 1 - 2 = ((x ++ shN x.length y).length : Int) - 1 := by rw [h]; omega
  rw [h2, pairN, ← h, ch_at]
section
variable (a b : ByteArray) (ha : a.size ≤ 140737488351232) (hb : b.size ≤ 140737488351232) (x y : List Nd) (ia ib ic : Int)
  (h1 : RdC a x 0 ia) (h2 : RdC b y 0 ib) (h3 : RdC (((⟨#[40]⟩ ++ a) ++ ⟨#[32]⟩ ++ b) ++ ⟨#[41]⟩) (pairN x y) 0 ic) (w : World)
include ha hb h1 h2 h3

set_option maxRecDepth 100000 in
set_option maxHeartbeats 1000000 in
theorem nst_d (hx : x.length ≤ 300) (hy : y.length ≤ 300) : Calls Try.prog 7 #[.string a, .string b] w fun e w' => e = .returned (.bool true) ∧ Below w.heap.size w w' := by
  rw [RdC, pair_len] at h3
  have H1 := Lib.hid h1
  have H2 := Lib.hid h2
  have H3 := Lib.hid h3
  clear h1 h2 h3
  go_enter Try.func7, Try.ntmps7
  go_wp2_with fail
  refine (H1.out _).mono ?_
  rintro e w1 ⟨A1, c1, rfl, hN1, hc1, hm1, hb1⟩
  have HN1 := Lib.hid hN1
  have HB1 := Lib.hid hb1
  clear hN1 hb1
  go_wp2_with fail
  refine (H2.out _).mono ?_
  rintro e w2 ⟨A2, c2, rfl, hN2, hc2, hm2, hb2⟩
  have HN2 := Lib.hid hN2
  have HB2 := Lib.hid hb2
  clear hN2 hb2
  go_wp2_with fail
  refine (H3.out _).mono ?_
  rintro e w3 ⟨A3, c3, rfl, hN3, hc3, hm3, hb3⟩
  have HN3 := Lib.hid hN3
  have HB3 := Lib.hid hb3
  clear hN3 hb3
  go_wp2_with fail
  refine (reads_any _).mono ?_
  rintro e w4 ⟨rfl, hb4⟩
  have z1 := HB1.out.size
  have z2 := HB2.out.size
  have z3 := HB3.out.size
  have z4 := hb4.size
  simp only [World.size_alloc] at z2 z3 z4
  have F1 := Lib.hid ((((fb_new w1 (.int .i64 0) (.int .i64 ia)).below HB2.out |>.below ((Below.refl _ _).alloc (Nat.le_refl _) (.cells #[.int .i64 0, .int .i64 ib] 25))).below HB3.out |>.below ((Below.refl _ _).alloc (Nat.le_refl _) (.cells #[.int .i64 0, .int .i64 ic] 25))).below hb4)
  have F2 := Lib.hid (((fb_new w2 (.int .i64 0) (.int .i64 ib)).below HB3.out |>.below ((Below.refl _ _).alloc (Nat.le_refl _) (.cells #[.int .i64 0, .int .i64 ic] 25))).below hb4)
  have F3 := Lib.hid ((fb_new w3 (.int .i64 0) (.int .i64 ic)).below hb4)
  have y1 : Below w1.heap.size w1 w4 := ((((Below.refl _ w1).alloc (Nat.le_refl _) (.cells #[.int .i64 0, .int .i64 ia] 25)).trans (HB2.out.mono (by simp))).alloc (by omega) (.cells #[.int .i64 0, .int .i64 ib] 25) |>.trans (HB3.out.mono (by simp; omega))).alloc (by omega) (.cells #[.int .i64 0, .int .i64 ic] 25) |>.trans (hb4.mono (by simp; omega))
  have HY1 := Lib.hid y1
  have HY := Lib.hid (HB1.out.trans (y1.mono z1))
  have HY3 := Lib.hid (show Below w3.heap.size w3 w4 from ((Below.refl _ w3).alloc (Nat.le_refl _) _).trans (hb4.mono (by simp)))
  clear hb4 y1
  have t1 := F1.out.two.fst
  have t2 := F2.out.two.fst
  have t3 := F3.out.two.fst
  have hZ : Nodes w4 w4.heap.size A3 (pairN x y) := HN3.out.to HY3.out HY3.out.size
  have hX4 : Nodes w4 w4.heap.size A1 x := HN1.out.to HY1.out HY1.out.size
  obtain ⟨b3, o3, _, _, rfl, _, _⟩ := hZ.at_ (k := x.length + y.length) (by rw [pair_len]; omega)
  have hpre : Nodes w4 w4.heap.size (some ⟨b3, o3, none⟩) x := nodes_pre (ms := shN x.length y ++ [((⟨#[]⟩ : ByteArray), [(x.length : Int) - 1, ((x ++ shN x.length y).length : Int) - 1])]) (by rw [← List.append_assoc]; exact hZ)
  have hl1 : (((x.length + y.length + 1 : Nat) : Int) != (x.length : Int) + y.length + 1) = false := by simp
  have HSAME := Lib.hid (show Calls Try.prog 15 #[.slice (some ⟨b3, o3, none⟩) x.length c3, .slice A1 x.length c1] w4 fun e w' => e = .returned (.bool true) ∧ Dr w4 w' from by
    refine (same_any (some ⟨b3, o3, none⟩) A1 c3 c1 x x w4 hpre hX4 (by unfold maxLen; omega) (by unfold maxLen; omega)).mono ?_
    rintro e w' ⟨rfl, hd⟩
    exact ⟨ret_bool (same_refl _), hd⟩)
  have HZ := Lib.hid hZ
  have hci : (x.length : Int) ≤ c3 := by omega
  clear hZ hX4 hpre
  go_wp2_with (go_at_call 15; refine HSAME.out.mono ?_)
  rintro e w5 ⟨rfl, hd⟩
  have z5 : w4.heap.size ≤ w5.heap.size := Nat.le_of_eq hd.size.symm
  have hZ5 : Nodes w5 w5.heap.size (some ⟨b3, o3, none⟩) (pairN x y) := by rw [hd.size]; exact hd.nodes HZ.out
  have HY5 := Lib.hid (show Below w.heap.size w w5 by obtain ⟨m, rfl⟩ := hd; exact belowN HY.out m)
  obtain ⟨b4, o4, Ak, ck, hbo, _, hs1, hs2, hNk, _, _, _, hmk⟩ := hZ5.at_ (k := x.length + y.length) (by rw [pair_len]; omega)
  obtain ⟨rfl, rfl⟩ : b4 = b3 ∧ o4 = o3 := by simp at hbo; exact ⟨hbo.1.symm, hbo.2.symm⟩
  rw [pair_sy] at hs1
  rw [pair_ch] at hs2 hNk hmk
  have HNK := Lib.hid hNk
  clear hd hZ5 hbo hNk t1 t2 t3 hl1 hci
  go_wp2_with fail
  have hK : Nums (w5.alloc (.cells #[.string ⟨#[]⟩, .slice Ak 2 ck] ST)) (w5.alloc (.cells #[.string ⟨#[]⟩, .slice Ak 2 ck] ST)).heap.size Ak [(x.length : Int) - 1, (x.length : Int) + y.length + 1 - 2] := HNK.out.to ((Below.refl _ _).alloc (Nat.le_refl _) _) (by simp)
  have hQ := nums_new2 (w5.alloc (.cells #[.string ⟨#[]⟩, .slice Ak 2 ck] ST)) IT ((x.length : Int) - 1) ((x.length : Int) + y.length + 1 - 2)
  have e1 : (w5.alloc (.cells #[.string ⟨#[]⟩, .slice Ak 2 ck] ST)).heap.size = w5.heap.size + 1 := by simp
  rw [e1] at hQ
  refine (ints_any Ak (some ⟨w5.heap.size + 1, 0, none⟩) ck 2 [(x.length : Int) - 1, (x.length : Int) + y.length + 1 - 2] [(x.length : Int) - 1, (x.length : Int) + y.length + 1 - 2] _ ?_ ?_ (by simp [maxLen]) (by simp [maxLen])).mono ?_
  · exact hK.to ((Below.refl _ _).alloc (Nat.le_refl _) _) (by simp)
  · exact hQ
  rintro e w6 ⟨rfl, hb6⟩
  have HY6 := Lib.hid (((HY5.out.alloc HY5.out.size _).alloc (by have := HY5.out.size; simp; omega) _).trans (hb6.mono (by have := HY5.out.size; simp; omega)))
  have hee : eqL [(x.length : Int) - 1, (x.length : Int) + y.length + 1 - 2] [(x.length : Int) - 1, (x.length : Int) + y.length + 1 - 2] = true := by simp [eqL]
  rw [hee]
  clear hee hK hQ e1 hb6
  go_wp2
  go_ret
  exact ⟨rfl, HY6.out⟩
end
theorem nst_any (a b : ByteArray) (ha : a.size ≤ 140737488351232) (hb : b.size ≤ 140737488351232) (w : World) :
    Calls Try.prog 7 #[.string a, .string b] w fun e w' => e = .returned (.bool true) ∧ Below w.heap.size w w' := by
  have hsz := nestT_size a b
  have h1 := rdc a (by unfold maxLen; omega)
  have h2 := rdc b (by unfold maxLen; omega)
  have h3 := rdc (nestT a b) (by rw [hsz]; unfold maxLen; omega)
  by_cases hfa : (rdAll a).2.1 = 0
  · by_cases hfb : (rdAll b).2.1 = 0
    · have lx : (rdAll a).1.length ≤ 300 := by
        rcases rdAll_cases a with ⟨h, _⟩ | ⟨_, _, _, _, _, h, q⟩
        · rw [h]; exact Nat.zero_le _
        · rw [q]; exact h
      have ly : (rdAll b).1.length ≤ 300 := by
        rcases rdAll_cases b with ⟨h, _⟩ | ⟨_, _, _, _, _, h, q⟩
        · rw [h]; exact Nat.zero_le _
        · rw [q]; exact h
      rcases nest_any a b hfa hfb with hn | ⟨hn, _, hc⟩
      · rw [hfa] at h1
        rw [hfb] at h2
        rw [hn] at h3
        exact nst_d a b ha hb _ _ _ _ _ h1 h2 h3 w lx ly
      · exact nst_c a b ha hb _ _ _ _ _ _ _ _ _ h1 h2 h3 w hfa hfb lx ly hn hc
    · exact nst_b a b ha hb _ _ _ _ _ _ _ _ _ h1 h2 h3 w hfa hfb
  · exact nst_a a b ha hb _ _ _ _ _ _ _ _ _ h1 h2 h3 w hfa
end Go.Proofs.Ytbdollafpjejiaa

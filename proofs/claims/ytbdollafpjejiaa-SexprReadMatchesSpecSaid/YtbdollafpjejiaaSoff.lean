/- SexprOf of the reference. -/
import Derived.Test.YtbdollafpjejiaaSofw
import Derived.Test.YtbdollafpjejiaaSofm
import Derived.Test.YtbdollafpjejiaaSrda
import Derived.Test.YtbdollafpjejiaaSrt
namespace Go.Proofs.Ytbdollafpjejiaa
open Go.RowKit Go.Shelf
set_option linter.unusedSimpArgs false
set_option linter.unusedVariables false
set_option maxRecDepth 100000

section
variable {s : ByteArray} {f i : Nat} {out : List Nd} {op op0 : List (List Int)} {cs : List Int}
theorem go_end {dn : Bool} (h : ¬ nx s i < s.size) : rfGo s (f + 1) i out op dn = rfEnd s out dn := by
  rw [rfGo]; simp [h]
theorem go_dn (h : nx s i < s.size) : rfGo s (f + 1) i out op true = ([], (1, (nx s i : Int))) := by
  rw [rfGo]; simp [h]
theorem go_41n (h : nx s i < s.size) (hc : bt s (nx s i) = 41) : rfGo s (f + 1) i out [] false = ([], (1, (nx s i : Int))) := by
  rw [rfGo, hc]; simp [h]
theorem go_bad (h : nx s i < s.size) (h1 : bt s (nx s i) ≠ 40) (h2 : bt s (nx s i) ≠ 41) (h3 : symB (bt s (nx s i)) = false) : rfGo s (f + 1) i out op false = ([], (1, (nx s i : Int))) := by
  rw [rfGo]; simp [h, bne, beq_false_of_ne h1, beq_false_of_ne h2, h3]
theorem go_deep (h : nx s i < s.size) (h1 : bt s (nx s i) = 40 ∨ symB (bt s (nx s i)) = true) (h2 : bt s (nx s i) ≠ 41) (h3 : op.length = 12) : rfGo s (f + 1) i out op false = ([], (10, (nx s i : Int))) := by
  rw [rfGo]
  rcases h1 with h1 | h1
  · rw [h1]; simp [h, h3]
  · simp [h, bne, beq_false_of_ne h2, h1, h3]
theorem go_push (h : nx s i < s.size) (h1 : bt s (nx s i) = 40) (h3 : op.length ≠ 12) : rfGo s (f + 1) i out op false = rfGo s f (nx s i + 1) out (op ++ [[]]) false := by
  rw [rfGo, h1]; simp [h, beq_false_of_ne h3]
theorem go_pop (h : nx s i < s.size) (h1 : bt s (nx s i) = 41) : rfGo s (f + 1) i out (op0 ++ [cs]) false = rfGo s f (nx s i + 1) (out ++ [(⟨#[]⟩, cs)]) (pushL op0 out.length) (op0.length == 0) := by
  rw [rfGo, h1, topL_snoc]; simp [h, List.dropLast_concat]
theorem go_long (h : nx s i < s.size) (h1 : bt s (nx s i) ≠ 40) (h2 : bt s (nx s i) ≠ 41) (h3 : symB (bt s (nx s i)) = true) (h4 : op.length ≠ 12) (h5 : 12 < symEnd (s.extract (nx s i) s.size)) : rfGo s (f + 1) i out op false = ([], (1, (nx s i : Int))) := by
  rw [rfGo]; simp [h, bne, beq_false_of_ne h1, beq_false_of_ne h2, h3, beq_false_of_ne h4, h5]
theorem go_sym (h : nx s i < s.size) (h1 : bt s (nx s i) ≠ 40) (h2 : bt s (nx s i) ≠ 41) (h3 : symB (bt s (nx s i)) = true) (h4 : op.length ≠ 12) (h5 : ¬ 12 < symEnd (s.extract (nx s i) s.size)) :
    rfGo s (f + 1) i out op false = rfGo s f (nx s i + symEnd (s.extract (nx s i) s.size)) (out ++ [(s.extract (nx s i) (nx s i + symEnd (s.extract (nx s i) s.size)), [])]) (pushL op out.length) (op.length == 0) := by
  rw [rfGo]; simp [h, bne, beq_false_of_ne h1, beq_false_of_ne h2, h3, beq_false_of_ne h4, h5]
end
/-- What holds at the head of each round. -/
def OfI (s : ByteArray) (w : World) (v vo dv iv : Value) (W : World) : Prop :=
  ∃ (f i : Nat) (out : List Nd) (op : List (List Int)) (dn : Bool) (os : List Value),
    dv = .bool dn ∧ iv = .int .i64 i ∧ rfAll s = rfGo s f i out op dn ∧ s.size < f + i ∧ i ≤ s.size ∧ NOwn W w.heap.size v out (StX os) ∧ Stk W w.heap.size vo os op ∧
    FB W w.heap.size (.int .i64 0) (.int .i64 0) ∧ Below w.heap.size w W ∧ out.length ≤ i ∧ op.length ≤ 12 ∧ (∀ k, k < op.length → (lst op k).length ≤ out.length)
theorem cells_new1 (w : World) (x : Value) (T : TypeId) (n : Nat) (h : n = w.heap.size) : ∀ (j : Nat) (u : Value), [x][j]? = some u → (w.alloc (.cells #[x] T)).cell? ((⟨n, 0, none⟩ : Addr).add j) = some u := by
  intro j u hj
  rw [Addr.add_lit, cell_new _ _ _ _ _ h]
  simpa using hj
theorem cells_new2 (w : World) (x y : Value) (T : TypeId) (n : Nat) (h : n = w.heap.size) : ∀ (j : Nat) (u : Value), [x, y][j]? = some u → (w.alloc (.cells #[x, y] T)).cell? ((⟨n, 0, none⟩ : Addr).add j) = some u := by
  intro j u hj
  rw [Addr.add_lit, cell_new _ _ _ _ _ h]
  simpa using hj
theorem cell2 (x y : Value) (h : x.oneCell' = true) (h2 : y.oneCell' = true) : ∀ u ∈ [x, y], u.oneCell' = true := by
  intro u hu
  simp at hu
  rcases hu with rfl | rfl
  · exact h
  · exact h2
theorem stk_ptr {w : World} {B n cap : Nat} {A : Option Addr} {os : List Value} {op0 : List (List Int)} {cs : List Int} (h : Stk w B (.slice A n cap) os (op0 ++ [cs])) : ∃ g, A = some ⟨g, 0, none⟩ ∧ n = op0.length + 1 ∧ op0.length + 1 ≤ cap ∧ g < w.heap.size := by
  rcases h.own.2 with ⟨h1, h0⟩ | ⟨g, cap', cur, h1, _, hh, hn, _⟩
  · simp at h0
  · simp at h1 hn
    exact ⟨g, h1.1, h1.2.1, by omega, (Array.getElem?_eq_some_iff.1 hh).1⟩
theorem stk_cell {w : World} {B n cap g : Nat} {os0 : List Value} {kv : Value} {op0 : List (List Int)} {cs : List Int} (h : Stk w B (.slice (some ⟨g, 0, none⟩) n cap) (os0 ++ [kv]) (op0 ++ [cs])) : w.cell? ⟨g, op0.length, none⟩ = some kv ∧ w.frozen? ⟨g, op0.length, none⟩ = false := by
  have hl : os0.length = op0.length := by simpa using h.len
  have h1 := h.own
  obtain ⟨g', e1, e2, _⟩ := stk_ptr h
  subst e2
  simp only [List.length_append, List.length_singleton] at h1
  have h2 := h1.cellAt op0.length (by omega)
  refine ⟨?_, h1.frozenAt _⟩
  rw [h2, ← hl]
  simp
theorem cell1 (x : Value) (h : x.oneCell' = true) : ∀ u ∈ [x], u.oneCell' = true := by
  intro u hu
  simp at hu
  subst hu
  exact h
theorem info_ot : (Try.prog.info? OT).map (fun i => (i.zero, i.size, i.bytes)) = some (some (.slice none 0 0), 1, 24) := by kernel_rfl

set_option maxRecDepth 100000 in
set_option maxHeartbeats 1000000 in
theorem sof_long (s : ByteArray) (hsm : s.size ≤ maxLen) (w : World) (h : 4096 < s.size) : Calls Try.prog 14 #[.string s] w (ReadPost s w) := by
  have hd : decide ((s.size : Int) > 4096) = true := by simp; omega
  unfold maxLen at hsm
  have HF := Lib.hid (fb_new w (.int .i64 0) (.int .i64 0))
  have HB := Lib.hid (show Below w.heap.size w (w.alloc (.cells #[.int .i64 0, .int .i64 0] 25)) from (Below.refl _ _).alloc (Nat.le_refl _) _)
  go_enter Try.func14, Try.ntmps14
  have HQ := Lib.hid (show rdAll s = (([] : List Nd), ((2 : Int), ((-1) : Int))) by unfold rdAll; rw [decide_eq_true h]; rfl)
  go_wp2_with (go_at_call 17; refine (at_any _ _ _).mono ?_)
  first | (rintro e W2 rfl hB2) | (rintro e W2 ⟨rfl, hB2⟩)
  have HF2 := Lib.hid (HF.out.below hB2)
  have HB2 := Lib.hid (HB.out.trans (hB2.mono HB.out.size))
  have hz2 := hB2.size
  clear hB2
  have t0 := HF2.out.two.fst
  have t1 := HF2.out.two.snd
  have tf0 := HF2.out.two.ffst
  have tf1 := HF2.out.two.fsnd
  have tl := HF2.out.lt
  go_wp2
  refine post_with_fault (g := w.heap.size) (x := .int .i64 2) (y := .int .i64 (-1)) Try.results14 rfl ?_ ?_
  · have hT := HF2.out.two
    (repeat' (first | (with_reducible assumption) | (with_reducible exact two_new _ _ _ _) | (with_reducible exact (two_new _ _ _ _).pair) | (with_reducible exact Two.pair ‹_›) | (with_reducible refine Pair.set ?_ _ _) | (with_reducible refine Two.alloc ?_ _) | (with_reducible refine Pair.alloc ?_ _) | (with_reducible refine two1 ?_) | (with_reducible refine twoN ?_ _) | (with_reducible refine Pair.drew ?_) | (with_reducible refine Pair.drewN ?_ _) | (with_reducible refine Two.far ?_ ?_ _) | (with_reducible refine Pair.far ?_ ?_ _) | (simp; omega)))
  · refine ⟨none, 0, ?_, ?_, ?_, ?_, ?_⟩
    · rw [HQ.out]; rfl
    · rw [HQ.out]; exact nodes_nil _ _ _
    · rw [HQ.out]; exact Nat.le_refl _
    · simp [maxLen]
    · have hbase := HB2.out
      (repeat' (first | (with_reducible assumption) | (with_reducible exact Below.refl _ _) | (with_reducible refine belowN ?_ _) | (with_reducible refine Below.alloc ?_ ?_ _) | (with_reducible refine Below.drew ?_) | (with_reducible refine Below.setCell ?_ ?_ _) | go_size))

set_option maxRecDepth 100000 in
set_option maxHeartbeats 8000000 in
theorem sof_short (s : ByteArray) (w : World) (h : ¬ 4096 < s.size) : Calls Try.prog 14 #[.string s] w (ReadPost s w) := by
  have hs : s.size ≤ 4096 := by omega
  have hd : decide ((s.size : Int) > 4096) = false := by simp; omega
  have hI0 : OfI s w (.slice none 0 0) (.slice none 0 0) (.bool false) (.int .i64 0) (w.alloc (.cells #[.int .i64 0, .int .i64 0] 25)) :=
    ⟨s.size + 1, 0, [], [], false, [], rfl, rfl, by unfold rfAll; rw [decide_eq_false h]; rfl, by omega, Nat.zero_le _, ⟨[], rfl, World.ownsRow_nil _ _ _ _, fun k hk => by simp at hk, fun n hn => by simp at hn⟩, stk_nil _ _, fb_new w _ _,
      (Below.refl _ _).alloc (Nat.le_refl _) _, Nat.zero_le _, Nat.zero_le _, fun k hk => by simp at hk⟩
  clear h
  go_enter Try.func14, Try.ntmps14
  go_wp2_with fail
  go_loopw [4, 5, 6, 7] (fun v vo dv iv W => OfI s w v vo dv iv W) (fun _ _ _ iv _ => s.size - (intOf iv).toNat)
  case atStart => exact hI0
  case round =>
    clear hI0
    obtain ⟨f, i, out, op, dn, os, rfl, rfl, hgo, hf, hi, hN, hS, hF, hB, hol, hop, hln⟩ := hrel
    obtain ⟨f, rfl⟩ : ∃ f', f = f' + 1 := ⟨f - 1, by omega⟩
    have HG := Lib.hid hgo
    have HN := Lib.hid hN
    have HS := Lib.hid hS
    have HF := Lib.hid hF
    have HB := Lib.hid hB
    have HL := Lib.hid hln
    clear hgo hN hS hF hB hln
    obtain ⟨vA, vc, rfl⟩ := HN.out.slice
    obtain ⟨oA, oc, rfl⟩ := own_slice HS.out.own
    go_wp2_with fail
    go_loop [7] (fun u => ∃ j : Nat, i ≤ j ∧ j ≤ s.size ∧ nx s i = nx s j ∧ u = .int .i64 j) (fun u => s.size - (intOf u).toNat)
    case atStart => exact ⟨i, Nat.le_refl _, hi, rfl, rfl⟩
    case round =>
      obtain ⟨j, hij, hj, hn, rfl⟩ := hrel
      have HNX := Lib.hid hn
      clear hn
      by_cases hlt : j < s.size
      · have hlti : (j : Int) < s.size := by omega
        have hb := bt_eq s j hlt
        have hne : ((j : Int) == s.size) = false := by simp; omega
        cases hsp : isSp s j
        · have HJ := Lib.hid (show nx s i = j by rw [HNX.out]; exact nx_stop (fun _ => hsp))
          have hsp2 : spB ((bt s j : Nat) : Int) = false := hsp
          unfold spB at hsp2
          simp only [Bool.or_eq_false_iff] at hsp2
          obtain ⟨⟨q1, q2⟩, q3⟩ := hsp2
          clear hsp
          cases dn
          · by_cases c41 : bt s j = 41
            · have e41 : (((bt s j : Nat) : Int) == 41) = true := by simp; omega
              have e41n : (((bt s j : Nat) : Int) != 41) = false := by simp; omega
              have e40 : (((bt s j : Nat) : Int) == 40) = false := by simp; omega
              have e40n : (((bt s j : Nat) : Int) != 40) = true := by simp; omega
              rcases List.eq_nil_or_concat op with rfl | ⟨op0, cs, hcon⟩
              · have hc := c41
                clear c41
                have HQ := Lib.hid (show rdAll s = (([] : List Nd), ((1 : Int), (j : Int))) by rw [← rf_all, HG.out, go_41n (by rw [HJ.out]; exact hlt) (by rw [HJ.out]; exact hc), HJ.out])
                go_wp2_with (go_at_call 17; refine (at_any _ _ _).mono ?_)
                first | (rintro e W2 rfl hB2) | (rintro e W2 ⟨rfl, hB2⟩)
                have HF2 := Lib.hid (HF.out.below hB2)
                have HB2 := Lib.hid (HB.out.trans (hB2.mono HB.out.size))
                have hz2 := hB2.size
                clear hB2
                have t0 := HF2.out.two.fst
                have t1 := HF2.out.two.snd
                have tf0 := HF2.out.two.ffst
                have tf1 := HF2.out.two.fsnd
                have tl := HF2.out.lt
                go_wp2
                refine post_with_fault (g := w.heap.size) (x := .int .i64 1) (y := .int .i64 j) Try.results14 rfl ?_ ?_
                · have hT := HF2.out.two
                  (repeat' (first | (with_reducible assumption) | (with_reducible exact two_new _ _ _ _) | (with_reducible exact (two_new _ _ _ _).pair) | (with_reducible exact Two.pair ‹_›) | (with_reducible refine Pair.set ?_ _ _) | (with_reducible refine Two.alloc ?_ _) | (with_reducible refine Pair.alloc ?_ _) | (with_reducible refine two1 ?_) | (with_reducible refine twoN ?_ _) | (with_reducible refine Pair.drew ?_) | (with_reducible refine Pair.drewN ?_ _) | (with_reducible refine Two.far ?_ ?_ _) | (with_reducible refine Pair.far ?_ ?_ _) | (simp; omega)))
                · refine ⟨none, 0, ?_, ?_, ?_, ?_, ?_⟩
                  · rw [HQ.out]; rfl
                  · rw [HQ.out]; exact nodes_nil _ _ _
                  · rw [HQ.out]; exact Nat.le_refl _
                  · simp [maxLen]
                  · have hbase := HB2.out
                    (repeat' (first | (with_reducible assumption) | (with_reducible exact Below.refl _ _) | (with_reducible refine belowN ?_ _) | (with_reducible refine Below.alloc ?_ ?_ _) | (with_reducible refine Below.drew ?_) | (with_reducible refine Below.setCell ?_ ?_ _) | go_size))
              · rw [List.concat_eq_append] at hcon
                subst hcon
                obtain ⟨g5, hg5, hn5, hc5, hl5⟩ := stk_ptr HS.out
                have HG5 := Lib.hid hg5
                subst hg5
                obtain ⟨os0, kv, hos, hl0, hm0, hS0, hkv, hdist⟩ := HS.out.pop
                subst hos
                obtain ⟨kA, kc, rfl⟩ := own_slice hkv
                have hcell := (stk_cell HS.out).1
                have hcell2 : (wr.alloc (.cells #[.string ⟨#[]⟩, .slice none 0 0] ST)).cell? ⟨g5, op0.length, none⟩ = some (.slice kA cs.length kc) :=
                  (((Below.refl wr.heap.size wr).alloc (Nat.le_refl _) (.cells #[.string ⟨#[]⟩, .slice none 0 0] ST)).cell (p := ⟨g5, op0.length, none⟩) hl5).trans hcell
                have HQ := Lib.hid (show rfAll s = rfGo s f (j + 1) (out ++ [((⟨#[]⟩ : ByteArray), cs)]) (pushL op0 out.length) (op0.length == 0) by rw [HG.out, go_pop (by rw [HJ.out]; exact hlt) (by rw [HJ.out]; exact c41), HJ.out])
                have HS0 := Lib.hid hS0
                have HKV := Lib.hid hkv
                have HD := Lib.hid hdist
                have hle5 : (op0 ++ [cs]).length = op0.length + 1 := by simp
                have hlz0 : (((op0.length + 1 : Nat) : Int) == 0) = false := by simp; omega
                have hcs : cs.length ≤ out.length := by
                  have := HL.out op0.length (by simp)
                  rw [lst_at] at this
                  exact this
                have HL0 := Lib.hid (show ∀ k, k < op0.length → (lst op0 k).length ≤ out.length from fun k hk => by
                  have := HL.out k (by simp; omega)
                  rw [lst_lt hk] at this
                  exact this)
                have hop0 : op0.length + 1 ≤ 12 := by simpa using hop
                clear c41 hS0 hkv hdist hl0 hm0 hn5 hle5 hop
                obtain ⟨kvs, hkl, hown, hkids, hsz⟩ := HN.out
                have HKL := Lib.hid hkl
                have HKD := Lib.hid hkids
                have HSZ := Lib.hid hsz
                obtain ⟨i0, hi', hi0, hi1, hi2⟩ := info_parts info_node
                have hbz := HB.out.size
                clear hkl hkids hsz
                go_wp2_with (at_builtin; refine wpList_append_own _ rfl _ _ 22 rfl w.heap.size ST i0 (.agg #[.string ⟨#[]⟩, .slice none 0 0]) 2 40 Try.underlying22 hi' hi0 hi1 hi2 rfl (by decide) _ _ _ rfl ((hown.alloc _).alloc _) ⟨wr.heap.size + 1, 0, none⟩ 1 1 [.string ⟨#[]⟩, .slice kA cs.length kc] rfl rfl (cells_new2 _ _ _ _ _ (by simp)) (cell2 _ _ rfl rfl) (by unfold maxLen; omega) (by omega) (by simp; omega) ?_)
                generalize hA : World.alloc (World.alloc wr _) _ = wa
                have hBa : Below wr.heap.size wr wa := by rw [← hA]; exact ((Below.refl _ _).alloc (Nat.le_refl _) _).alloc (by simp) _
                have HBa := Lib.hid hBa
                have hza := hBa.size
                have HOa := Lib.hid (show wa.ownsRow w.heap.size ST 2 (.slice vA out.length vc) out.length (ncells out kvs) by rw [← hA]; exact (hown.alloc _).alloc _)
                have HKVa := Lib.hid (show wa.ownsRow w.heap.size IT 1 (.slice kA cs.length kc) cs.length (cs.map (Value.int .i64)) by rw [← hA]; exact (HKV.out.alloc _).alloc _)
                have hKa : Kids wa w.heap.size kvs out (StX os0) := fun k hk => ⟨by rw [← hA]; exact ((HKD.out k hk).1.alloc _).alloc _, fun b hb hx => (HKD.out k hk).2 b hb hx.mono⟩
                have HKa := Lib.hid hKa
                clear hA hBa hKa hown hcell hcell2
                intro v3 w3 hown' hgrow _
                obtain ⟨v3A, v3c, rfl⟩ := own_slice hown'
                have HN3 := Lib.hid (NOwn.snoc (n := ((⟨#[]⟩ : ByteArray), cs)) HKL.out HOa.out HKa.out HSZ.out hgrow HKVa.out HD.out (by show 0 ≤ _; exact Nat.zero_le _) hown')
                have HS3 := Lib.hid ((HS0.out.below HBa.out).grownST HOa.out hgrow)
                have HF3 := Lib.hid (show FB w3 w.heap.size (.int .i64 0) (.int .i64 0) from kind_grown (HF.out.below HBa.out) HOa.out (by decide) hgrow)
                have HB3 := Lib.hid ((HB.out.trans (HBa.out.mono (by omega))).grown hgrow (by omega) (fun k hk => (HOa.out.lt k hk).1))
                clear hgrow hown'
                rcases List.eq_nil_or_concat op0 with hnil | ⟨op1, ds, hcon⟩
                · have HI3 := Lib.hid (show OfI s w (.slice v3A (out.length + 1) v3c) (.slice (some ⟨g5, 0, none⟩) op0.length oc) (.bool true) (.int .i64 ((j + 1 : Nat) : Int)) w3 from
                    ⟨f, j + 1, out ++ [((⟨#[]⟩ : ByteArray), cs)], op0, true, os0, rfl, rfl, by rw [HQ.out, hnil]; rfl, by omega, by omega, by simpa using HN3.out, HS3.out, HF3.out, HB3.out, by simp; omega, by rw [hnil]; exact Nat.zero_le _, fun k hk => by rw [hnil] at hk; simp at hk⟩)
                  have hl0 : op0.length = 0 := by rw [hnil]; rfl
                  have hlz : ((op0.length : Int) == 0) = true := by simp; omega
                  have HL00 := Lib.hid hl0
                  clear hnil hl0
                  go_wp2_with fail
                  go_roundw
                  case rel => exact HI3.out
                  case measure => simp [intOf]; omega
                · rw [List.concat_eq_append] at hcon
                  subst hcon
                  obtain ⟨g6, hg6, hn6, hc6, hl6⟩ := stk_ptr HS3.out
                  have HS4 := Lib.hid (show Stk w3 w.heap.size (.slice (some ⟨g6, 0, none⟩) (op1.length + 1) oc) os0 (op1 ++ [ds]) by rw [← hg6, ← hn6]; exact HS3.out)
                  obtain ⟨os1, dv, hos, hl1, _, _, hdv, _⟩ := HS4.out.pop
                  rw [hos] at HS4 HN3
                  obtain ⟨dA, dc, rfl⟩ := own_slice hdv
                  have hcell4 := (stk_cell HS4.out).1
                  have hg6w : w.heap.size ≤ g6 := ((HS4.out.own).lt g6 rfl).1
                  have hds : ds.length ≤ out.length := by
                    have := HL0.out op1.length (by simp)
                    rw [lst_at] at this
                    exact this
                  have HLL := Lib.hid (show ∀ k, k < op1.length → (lst op1 k).length ≤ out.length from fun k hk => by
                    have := HL0.out k (by simp; omega)
                    rw [lst_lt hk] at this
                    exact this)
                  have HQ2 := Lib.hid (show rfAll s = rfGo s f (j + 1) (out ++ [((⟨#[]⟩ : ByteArray), cs)]) (op1 ++ [ds ++ [(out.length : Int)]]) false by rw [HQ.out, pushL_snoc, beq_false_of_ne (by simp)])
                  have HDV := Lib.hid hdv
                  have HL1 := Lib.hid hl1
                  have hopl : op1.length + 1 ≤ 12 := by have := hop0; simp at this; omega
                  have hlz : (((op1.length : Int) + 1) == 0) = false := by simp; omega
                  have HG6 := Lib.hid hg6
                  have HOS := Lib.hid hos
                  obtain ⟨j0, ki, ki0, ki1, ki2⟩ := info_parts info_int
                  have hz3 := HB3.out.size
                  clear hdv hl1 hn6 hos
                  have hgg : g6 = g5 := by simpa using hg6.symm
                  subst hgg
                  go_wp2_with (at_builtin; refine wpList_append_own_at _ rfl _ _ 35 rfl w.heap.size IT j0 (.int .i64 0) 1 8 Try.underlying35 ki ki0 ki1 ki2 rfl (by decide) _ _ _ rfl (HDV.out.alloc _) ⟨w3.heap.size, 0, none⟩ 1 1 [.int .i64 (out.length : Int)] rfl rfl (cells_new1 _ _ _ _ rfl) (cell1 _ rfl) (by unfold maxLen; omega) (by omega) (by simp; omega) ?_)
                  generalize hA4 : World.alloc w3 _ = wb
                  have hBb : Below w3.heap.size w3 wb := by rw [← hA4]; exact (Below.refl _ _).alloc (Nat.le_refl _) _
                  have HBb := Lib.hid hBb
                  have hzb := hBb.size
                  have HZB := Lib.hid (show wb.heap.size = w3.heap.size + 1 by rw [← hA4]; simp)
                  have HDVb := Lib.hid (show wb.ownsRow w.heap.size IT 1 (.slice dA ds.length dc) ds.length (ds.map (Value.int .i64)) by rw [← hA4]; exact HDV.out.alloc _)
                  clear hA4 hBb hcell4
                  intro kv' w4 hown4 hgrow4 _ hat4
                  rw [← HZB.out] at hat4
                  have hSb := HS4.out.below HBb.out
                  have hOb := hSb.own
                  simp only [List.length_append, List.length_singleton] at hOb
                  have hO4 : w4.ownsRow w.heap.size OT 1 (.slice (some ⟨g6, 0, none⟩) (op1.length + 1) oc) (op1.length + 1) (os1 ++ [.slice dA ds.length dc]) := by
                    refine hOb.kept hgrow4 ?_
                    right
                    intro e1
                    obtain ⟨c1, fz1, h1⟩ := own_kind HDVb.out g6 e1.symm
                    obtain ⟨c2, fz2, h2⟩ := own_kind hOb g6 rfl
                    rw [h1] at h2
                    simp at h2
                    exact absurd h2.2.1 (by decide)
                  have c4 : w4.cell? ⟨g6, op1.length, none⟩ = some (.slice dA ds.length dc) := by
                    rw [hO4.cellAt op1.length (by omega), ← HL1.out]
                    simp
                  have f4 := hO4.frozenAt op1.length
                  have hS5 := hSb.top hgrow4 hown4 hat4
                  have hN5 := nown_top (HN3.out.below HBb.out) HDVb.out hOb hgrow4 hat4 op1.length
                  have hF4 : FB w4 w.heap.size (.int .i64 0) (.int .i64 0) := kind_grown (HF3.out.below HBb.out) HDVb.out (by decide) hgrow4
                  have hgne : g6 ≠ w.heap.size := by
                    intro e1
                    obtain ⟨c2, fz2, h2⟩ := own_kind hO4 g6 rfl
                    unfold FB at hF4
                    rw [← e1, h2] at hF4
                    simp at hF4
                    exact absurd hF4.2.1 (by decide)
                  have hF5 := hF4.far (p := ⟨g6, op1.length, none⟩) hgne kv'
                  have hB5 : Below w.heap.size w (w4.setCell ⟨g6, op1.length, none⟩ kv') := ((HB3.out.trans (HBb.out.mono (by omega))).grown hgrow4 (by omega) (fun k hk => (HDVb.out.lt k hk).1)).setCell (p := ⟨g6, op1.length, none⟩) hg6w _
                  obtain ⟨k5A, k5c, rfl⟩ := own_slice hown4
                  have HI5 := Lib.hid (show OfI s w (.slice v3A (out.length + 1) v3c) (.slice (some ⟨g6, 0, none⟩) (op1.length + 1) oc) (.bool false) (.int .i64 ((j + 1 : Nat) : Int)) (w4.setCell ⟨g6, op1.length, none⟩ (.slice k5A (ds.length + 1) k5c)) from
                    ⟨f, j + 1, out ++ [((⟨#[]⟩ : ByteArray), cs)], op1 ++ [ds ++ [(out.length : Int)]], false, os1 ++ [.slice k5A (ds.length + 1) k5c], rfl, rfl, HQ2.out, by omega, by omega, hN5, hS5, hF5, hB5, by simp; omega, by simp; omega, fun k hk => by
                      by_cases e : k = op1.length
                      · subst e; rw [lst_at]; simp; omega
                      · rw [lst_lt (by simp at hk; omega)]
                        have := HLL.out k (by simp at hk; omega)
                        simp; omega⟩)
                  clear hown4 hgrow4 hat4 hSb hOb hO4 hS5 hN5 hF4 hF5 hB5 hgne
                  go_wp2
                  go_roundw
                  case rel => exact HI5.out
                  case measure => simp [intOf]; omega
            · by_cases c40 : bt s j = 40
              · have e41 : (((bt s j : Nat) : Int) == 41) = false := by simp; omega
                have e41n : (((bt s j : Nat) : Int) != 41) = true := by simp; omega
                have e40 : (((bt s j : Nat) : Int) == 40) = true := by simp; omega
                have e40n : (((bt s j : Nat) : Int) != 40) = false := by simp; omega
                by_cases h12 : op.length = 12
                · have el : ((op.length : Int) == 12) = true := by simp; omega
                  have C41 := Lib.hid c41
                  have C40 := Lib.hid c40
                  have H12 := Lib.hid h12
                  clear c41 c40 h12
                  have HQ := Lib.hid (show rdAll s = (([] : List Nd), ((10 : Int), (j : Int))) by rw [← rf_all, HG.out, go_deep (by rw [HJ.out]; exact hlt) (by rw [HJ.out]; exact .inl C40.out) (by rw [HJ.out]; exact C41.out) H12.out, HJ.out])
                  go_wp2_with (go_at_call 17; refine (at_any _ _ _).mono ?_)
                  first | (rintro e W2 rfl hB2) | (rintro e W2 ⟨rfl, hB2⟩)
                  have HF2 := Lib.hid (HF.out.below hB2)
                  have HB2 := Lib.hid (HB.out.trans (hB2.mono HB.out.size))
                  have hz2 := hB2.size
                  clear hB2
                  have t0 := HF2.out.two.fst
                  have t1 := HF2.out.two.snd
                  have tf0 := HF2.out.two.ffst
                  have tf1 := HF2.out.two.fsnd
                  have tl := HF2.out.lt
                  go_wp2
                  refine post_with_fault (g := w.heap.size) (x := .int .i64 10) (y := .int .i64 j) Try.results14 rfl ?_ ?_
                  · have hT := HF2.out.two
                    (repeat' (first | (with_reducible assumption) | (with_reducible exact two_new _ _ _ _) | (with_reducible exact (two_new _ _ _ _).pair) | (with_reducible exact Two.pair ‹_›) | (with_reducible refine Pair.set ?_ _ _) | (with_reducible refine Two.alloc ?_ _) | (with_reducible refine Pair.alloc ?_ _) | (with_reducible refine two1 ?_) | (with_reducible refine twoN ?_ _) | (with_reducible refine Pair.drew ?_) | (with_reducible refine Pair.drewN ?_ _) | (with_reducible refine Two.far ?_ ?_ _) | (with_reducible refine Pair.far ?_ ?_ _) | (simp; omega)))
                  · refine ⟨none, 0, ?_, ?_, ?_, ?_, ?_⟩
                    · rw [HQ.out]; rfl
                    · rw [HQ.out]; exact nodes_nil _ _ _
                    · rw [HQ.out]; exact Nat.le_refl _
                    · simp [maxLen]
                    · have hbase := HB2.out
                      (repeat' (first | (with_reducible assumption) | (with_reducible exact Below.refl _ _) | (with_reducible refine belowN ?_ _) | (with_reducible refine Below.alloc ?_ ?_ _) | (with_reducible refine Below.drew ?_) | (with_reducible refine Below.setCell ?_ ?_ _) | go_size))
                · have el : ((op.length : Int) == 12) = false := by simp; omega
                  have HQ := Lib.hid (show rfAll s = rfGo s f (j + 1) out (op ++ [[]]) false by rw [HG.out, go_push (by rw [HJ.out]; exact hlt) (by rw [HJ.out]; exact c40) h12, HJ.out])
                  have hop12 : op.length < 12 := by omega
                  clear c41 c40 h12
                  obtain ⟨i0, hi', hi0, hi1, hi2⟩ := info_parts info_ot
                  have hbz := HB.out.size
                  go_wp2_with (at_builtin; refine wpList_append_own _ rfl _ _ 61 rfl w.heap.size OT i0 (.slice none 0 0) 1 24 Try.underlying61 hi' hi0 hi1 hi2 rfl (by decide) _ _ _ rfl (HS.out.own.alloc _) ⟨wr.heap.size, 0, none⟩ 1 1 [.slice none 0 0] rfl rfl (cells_new1 _ _ _ _ rfl) (cell1 _ rfl) (by unfold maxLen; omega) (by omega) (by simp; omega) ?_)
                  generalize hA : World.alloc wr _ = wa
                  have hBa : Below wr.heap.size wr wa := by rw [← hA]; exact (Below.refl _ _).alloc (Nat.le_refl _) _
                  have HBa := Lib.hid hBa
                  have hza := hBa.size
                  clear hA hBa
                  intro vo' w3 hown' hgrow _
                  have hOa : wa.ownsRow w.heap.size OT 1 (.slice oA op.length oc) op.length os := (HS.out.below HBa.out).own
                  have hI3 : OfI s w (.slice vA out.length vc) vo' (.bool false) (.int .i64 ((j + 1 : Nat) : Int)) w3 := by
                    have hS3 := (HS.out.below HBa.out).push hgrow hown'
                    have hN3 : NOwn w3 w.heap.size (.slice vA out.length vc) out (StX os) := (HN.out.below HBa.out).kept hgrow (fun k hk => by
                      obtain ⟨c, fz, h1⟩ := own_kind hOa k hk
                      exact ⟨c, OT, fz, h1, by decide, by decide⟩)
                    refine ⟨f, j + 1, out, op ++ [[]], false, os ++ [.slice none 0 0], rfl, rfl, HQ.out, by omega, by omega, hN3.weaken (fun b _ hb => hb.push), hS3, kind_grown (HF.out.below HBa.out) hOa (by decide) hgrow, ?_, by omega, by simp; omega, fun k hk => ?_⟩
                    · exact (HB.out.trans (HBa.out.mono (by omega))).grown hgrow (by omega) (fun k hk => (hOa.lt k hk).1)
                    · by_cases e : k = op.length
                      · subst e; rw [lst_at]; exact Nat.zero_le _
                      · rw [lst_lt (by simp at hk; omega)]; exact HL.out k (by simp at hk; omega)
                  have HI3 := Lib.hid hI3
                  clear hown' hgrow hOa hI3
                  go_wp2
                  go_roundw
                  case rel => exact HI3.out
                  case measure => simp [intOf]; omega
              · have e41 : (((bt s j : Nat) : Int) == 41) = false := by simp; omega
                have e41n : (((bt s j : Nat) : Int) != 41) = true := by simp; omega
                have e40 : (((bt s j : Nat) : Int) == 40) = false := by simp; omega
                have e40n : (((bt s j : Nat) : Int) != 40) = true := by simp; omega
                have C41 := Lib.hid c41
                have C40 := Lib.hid c40
                clear c41 c40
                cases hsy : symB (bt s j)
                · have HSY := Lib.hid hsy
                  have HQ := Lib.hid (show rdAll s = (([] : List Nd), ((1 : Int), (j : Int))) by rw [← rf_all, HG.out, go_bad (by rw [HJ.out]; exact hlt) (by rw [HJ.out]; exact C40.out) (by rw [HJ.out]; exact C41.out) (by rw [HJ.out]; exact HSY.out), HJ.out])
                  go_wp2_with (first | (go_at_call 31; refine (symbolByte_any _ (bt_lt s j) _).mono ?_; rintro e w' ⟨rfl, rfl⟩) | (go_at_call 17; refine (at_any _ _ _).mono ?_))
                  first | (rintro e W2 rfl hB2) | (rintro e W2 ⟨rfl, hB2⟩)
                  have HF2 := Lib.hid (HF.out.below hB2)
                  have HB2 := Lib.hid (HB.out.trans (hB2.mono HB.out.size))
                  have hz2 := hB2.size
                  clear hB2
                  have t0 := HF2.out.two.fst
                  have t1 := HF2.out.two.snd
                  have tf0 := HF2.out.two.ffst
                  have tf1 := HF2.out.two.fsnd
                  have tl := HF2.out.lt
                  go_wp2
                  refine post_with_fault (g := w.heap.size) (x := .int .i64 1) (y := .int .i64 j) Try.results14 rfl ?_ ?_
                  · have hT := HF2.out.two
                    (repeat' (first | (with_reducible assumption) | (with_reducible exact two_new _ _ _ _) | (with_reducible exact (two_new _ _ _ _).pair) | (with_reducible exact Two.pair ‹_›) | (with_reducible refine Pair.set ?_ _ _) | (with_reducible refine Two.alloc ?_ _) | (with_reducible refine Pair.alloc ?_ _) | (with_reducible refine two1 ?_) | (with_reducible refine twoN ?_ _) | (with_reducible refine Pair.drew ?_) | (with_reducible refine Pair.drewN ?_ _) | (with_reducible refine Two.far ?_ ?_ _) | (with_reducible refine Pair.far ?_ ?_ _) | (simp; omega)))
                  · refine ⟨none, 0, ?_, ?_, ?_, ?_, ?_⟩
                    · rw [HQ.out]; rfl
                    · rw [HQ.out]; exact nodes_nil _ _ _
                    · rw [HQ.out]; exact Nat.le_refl _
                    · simp [maxLen]
                    · have hbase := HB2.out
                      (repeat' (first | (with_reducible assumption) | (with_reducible exact Below.refl _ _) | (with_reducible refine belowN ?_ _) | (with_reducible refine Below.alloc ?_ ?_ _) | (with_reducible refine Below.drew ?_) | (with_reducible refine Below.setCell ?_ ?_ _) | go_size))
                · have HSY := Lib.hid hsy
                  by_cases h12 : op.length = 12
                  · have el : ((op.length : Int) == 12) = true := by simp; omega
                    have H12 := Lib.hid h12
                    clear h12
                    have HQ := Lib.hid (show rdAll s = (([] : List Nd), ((10 : Int), (j : Int))) by rw [← rf_all, HG.out, go_deep (by rw [HJ.out]; exact hlt) (by rw [HJ.out]; exact .inr HSY.out) (by rw [HJ.out]; exact C41.out) H12.out, HJ.out])
                    go_wp2_with (first | (go_at_call 31; refine (symbolByte_any _ (bt_lt s j) _).mono ?_; rintro e w' ⟨rfl, rfl⟩) | (go_at_call 17; refine (at_any _ _ _).mono ?_))
                    first | (rintro e W2 rfl hB2) | (rintro e W2 ⟨rfl, hB2⟩)
                    have HF2 := Lib.hid (HF.out.below hB2)
                    have HB2 := Lib.hid (HB.out.trans (hB2.mono HB.out.size))
                    have hz2 := hB2.size
                    clear hB2
                    have t0 := HF2.out.two.fst
                    have t1 := HF2.out.two.snd
                    have tf0 := HF2.out.two.ffst
                    have tf1 := HF2.out.two.fsnd
                    have tl := HF2.out.lt
                    go_wp2
                    refine post_with_fault (g := w.heap.size) (x := .int .i64 10) (y := .int .i64 j) Try.results14 rfl ?_ ?_
                    · have hT := HF2.out.two
                      (repeat' (first | (with_reducible assumption) | (with_reducible exact two_new _ _ _ _) | (with_reducible exact (two_new _ _ _ _).pair) | (with_reducible exact Two.pair ‹_›) | (with_reducible refine Pair.set ?_ _ _) | (with_reducible refine Two.alloc ?_ _) | (with_reducible refine Pair.alloc ?_ _) | (with_reducible refine two1 ?_) | (with_reducible refine twoN ?_ _) | (with_reducible refine Pair.drew ?_) | (with_reducible refine Pair.drewN ?_ _) | (with_reducible refine Two.far ?_ ?_ _) | (with_reducible refine Pair.far ?_ ?_ _) | (simp; omega)))
                    · refine ⟨none, 0, ?_, ?_, ?_, ?_, ?_⟩
                      · rw [HQ.out]; rfl
                      · rw [HQ.out]; exact nodes_nil _ _ _
                      · rw [HQ.out]; exact Nat.le_refl _
                      · simp [maxLen]
                      · have hbase := HB2.out
                        (repeat' (first | (with_reducible assumption) | (with_reducible exact Below.refl _ _) | (with_reducible refine belowN ?_ _) | (with_reducible refine Below.alloc ?_ ?_ _) | (with_reducible refine Below.drew ?_) | (with_reducible refine Below.setCell ?_ ?_ _) | go_size))
                  · have el : ((op.length : Int) == 12) = false := by simp; omega
                    have H12 := Lib.hid h12
                    clear h12
                    go_wp2_with (go_at_call 31; refine (symbolByte_any _ (bt_lt s j) _).mono ?_; rintro e w' ⟨rfl, rfl⟩)
                    go_loop [7] (fun u => ∃ k : Nat, j ≤ k ∧ k ≤ s.size ∧ (∀ q, j ≤ q → q < k → symB (bt s q) = true) ∧ u = .int .i64 k) (fun u => s.size - (intOf u).toNat)
                    case atStart => exact ⟨j, Nat.le_refl _, hj, fun q h1 h2 => by omega, rfl⟩
                    case round =>
                      obtain ⟨k, hjk, hk, hall, rfl⟩ := hrel
                      have HA := Lib.hid hall
                      clear hall
                      by_cases hks : k < s.size
                      · have hksi : (k : Int) < s.size := by omega
                        have hbk := bt_eq s k hks
                        cases hsk : symB (bt s k)
                        · have hne : j < k := by
                            rcases Nat.lt_or_ge j k with h | h
                            · exact h
                            · have e : k = j := by omega
                              rw [e, HSY.out] at hsk
                              cases hsk
                          have HSE := Lib.hid (show symEnd (s.extract j s.size) = k - j from symEnd_at (by omega) (fun q hq => HA.out _ (by omega) (by omega)) (fun _ => by rw [show j + (k - j) = k by omega]; exact hsk))
                          by_cases hlong : 12 < k - j
                          · have hq := Lib.hid (show rfAll s = ([], ((1 : Int), (j : Int))) by
                              rw [HG.out, go_long (by rw [HJ.out]; exact hlt) (by rw [HJ.out]; exact C40.out) (by rw [HJ.out]; exact C41.out) (by rw [HJ.out]; exact HSY.out) H12.out (by rw [HJ.out, HSE.out]; exact hlong), HJ.out])
                            have hld : decide ((k : Int) - j > 12) = true := by simp; omega
                            have hld2 : (12 : Int) < (k : Int) - j := by omega
                            have HF0 := HF
                            have HBx := HB
                            have HF := Lib.hid (HF0.out.below ((Below.refl _ _).alloc (Nat.le_refl _) (.cells #[.string ⟨#[]⟩, .slice none 0 0] ST)))
                            have HB := Lib.hid (HBx.out.alloc HBx.out.size (.cells #[.string ⟨#[]⟩, .slice none 0 0] ST))
                            clear hlong
                            have HQ := Lib.hid (show rdAll s = (([] : List Nd), ((1 : Int), (j : Int))) by rw [← rf_all]; exact hq.out)
                            go_wp2_with (first | (go_at_call 31; refine (symbolByte_any _ (bt_lt s k) _).mono ?_; rintro e w' ⟨rfl, rfl⟩) | (go_at_call 17; refine (at_any _ _ _).mono ?_))
                            first | (rintro e W2 rfl hB2) | (rintro e W2 ⟨rfl, hB2⟩)
                            have hB2 : Below (wr.alloc (.cells #[.string ⟨#[]⟩, .slice none 0 0] ST)).heap.size (wr.alloc (.cells #[.string ⟨#[]⟩, .slice none 0 0] ST)) W2 := by
                              have e : (wr.alloc (.cells #[.string ⟨#[]⟩, .slice none 0 0] ST)).heap.size = wr.heap.size + 1 := by simp
                              first | exact hB2 | (rw [e]; exact hB2)
                            have HF2 := Lib.hid (HF.out.below hB2)
                            have HB2 := Lib.hid (HB.out.trans (hB2.mono HB.out.size))
                            have hz2 := hB2.size
                            clear hB2
                            have t0 := HF2.out.two.fst
                            have t1 := HF2.out.two.snd
                            have tf0 := HF2.out.two.ffst
                            have tf1 := HF2.out.two.fsnd
                            have tl := HF2.out.lt
                            go_wp2
                            refine post_with_fault (g := w.heap.size) (x := .int .i64 1) (y := .int .i64 j) Try.results14 rfl ?_ ?_
                            · have hT := HF2.out.two
                              (repeat' (first | (with_reducible assumption) | (with_reducible exact two_new _ _ _ _) | (with_reducible exact (two_new _ _ _ _).pair) | (with_reducible exact Two.pair ‹_›) | (with_reducible refine Pair.set ?_ _ _) | (with_reducible refine Two.alloc ?_ _) | (with_reducible refine Pair.alloc ?_ _) | (with_reducible refine two1 ?_) | (with_reducible refine twoN ?_ _) | (with_reducible refine Pair.drew ?_) | (with_reducible refine Pair.drewN ?_ _) | (with_reducible refine Two.far ?_ ?_ _) | (with_reducible refine Pair.far ?_ ?_ _) | (simp; omega)))
                            · refine ⟨none, 0, ?_, ?_, ?_, ?_, ?_⟩
                              · rw [HQ.out]; rfl
                              · rw [HQ.out]; exact nodes_nil _ _ _
                              · rw [HQ.out]; exact Nat.le_refl _
                              · simp [maxLen]
                              · have hbase := HB2.out
                                (repeat' (first | (with_reducible assumption) | (with_reducible exact Below.refl _ _) | (with_reducible refine belowN ?_ _) | (with_reducible refine Below.alloc ?_ ?_ _) | (with_reducible refine Below.drew ?_) | (with_reducible refine Below.setCell ?_ ?_ _) | go_size))
                          · have hse : symEnd (s.extract (nx s i) s.size) = k - j := by rw [HJ.out]; exact HSE.out
                            have hjk2 : j + (k - j) = k := by omega
                            have HQ := Lib.hid (show rfAll s = rfGo s f k (out ++ [(s.extract j k, ([] : List Int))]) (pushL op out.length) (op.length == 0) by
                              rw [HG.out, go_sym (by rw [HJ.out]; exact hlt) (by rw [HJ.out]; exact C40.out) (by rw [HJ.out]; exact C41.out) (by rw [HJ.out]; exact HSY.out) H12.out (by rw [hse]; exact hlong), hse, HJ.out, hjk2])
                            have hld : decide ((k : Int) - j > 12) = false := by simp; omega
                            have hld2 : ¬ ((12 : Int) < (k : Int) - j) := by omega
                            have hki1 : (k : Int) ≤ s.size := by omega
                            have hki2 : (j : Int) ≤ k := by omega
                            have HL0 := HL
                            have hop0 : op.length + 1 ≤ 12 := by have := H12.out; omega
                            obtain ⟨kvs, hkl, hown, hkids, hsz⟩ := HN.out
                            have HKL := Lib.hid hkl
                            have HKD := Lib.hid hkids
                            have HSZ := Lib.hid hsz
                            obtain ⟨i0, hi', hi0, hi1, hi2⟩ := info_parts info_node
                            have hbz := HB.out.size
                            clear hkl hkids hsz hlong hse hjk2
                            go_wp2_with (first | (go_at_call 31; refine (symbolByte_any _ (bt_lt s k) _).mono ?_; rintro e w' ⟨rfl, rfl⟩) | (at_builtin; refine wpList_append_own _ rfl _ _ 22 rfl w.heap.size ST i0 (.agg #[.string ⟨#[]⟩, .slice none 0 0]) 2 40 Try.underlying22 hi' hi0 hi1 hi2 rfl (by decide) _ _ _ rfl ((hown.alloc _).alloc _) ⟨wr.heap.size + 1, 0, none⟩ 1 1 [.string (s.extract j k), .slice none 0 0] rfl rfl (cells_new2 _ _ _ _ _ (by simp)) (cell2 _ _ rfl rfl) (by unfold maxLen; omega) (by omega) (by simp; omega) ?_))
                            generalize hA : World.alloc (World.alloc wr _) _ = wa
                            have hBa : Below wr.heap.size wr wa := by rw [← hA]; exact ((Below.refl _ _).alloc (Nat.le_refl _) _).alloc (by simp) _
                            have HBa := Lib.hid hBa
                            have hza := hBa.size
                            have HOa := Lib.hid (show wa.ownsRow w.heap.size ST 2 (.slice vA out.length vc) out.length (ncells out kvs) by rw [← hA]; exact (hown.alloc _).alloc _)
                            have hKa : Kids wa w.heap.size kvs out (StX os) := fun q hq => ⟨by rw [← hA]; exact ((HKD.out q hq).1.alloc _).alloc _, (HKD.out q hq).2⟩
                            have HKa := Lib.hid hKa
                            clear hA hBa hKa hown
                            intro v3 w3 hown' hgrow _
                            obtain ⟨v3A, v3c, rfl⟩ := own_slice hown'
                            have HN3 := Lib.hid (NOwn.snoc (n := (s.extract j k, ([] : List Int))) HKL.out HOa.out HKa.out HSZ.out hgrow (World.ownsRow_nil wa w.heap.size IT 1) (fun b hb => by simp [Value.ownBlock] at hb) (by simp [maxLen]; omega) hown')
                            have HS3 := Lib.hid ((HS.out.below HBa.out).grownST HOa.out hgrow)
                            have HF3 := Lib.hid (show FB w3 w.heap.size (.int .i64 0) (.int .i64 0) from kind_grown (HF.out.below HBa.out) HOa.out (by decide) hgrow)
                            have HB3 := Lib.hid ((HB.out.trans (HBa.out.mono (by omega))).grown hgrow (by omega) (fun k hk => (HOa.out.lt k hk).1))
                            clear hgrow hown'
                            rcases List.eq_nil_or_concat op with hnil | ⟨op1, ds, hcon⟩
                            · have HI3 := Lib.hid (show OfI s w (.slice v3A (out.length + 1) v3c) (.slice oA op.length oc) (.bool true) (.int .i64 ((k : Nat) : Int)) w3 from
                                ⟨f, k, out ++ [(s.extract j k, ([] : List Int))], op, true, os, rfl, rfl, by rw [HQ.out, hnil]; rfl, by omega, by omega, by simpa using HN3.out, HS3.out, HF3.out, HB3.out, by simp; omega, by rw [hnil]; exact Nat.zero_le _, fun k hk => by rw [hnil] at hk; simp at hk⟩)
                              have hl0 : op.length = 0 := by rw [hnil]; rfl
                              have hlz : ((op.length : Int) == 0) = true := by simp; omega
                              have HL00 := Lib.hid hl0
                              clear hnil hl0
                              go_wp2_with fail
                              go_roundw
                              case rel => exact HI3.out
                              case measure => simp [intOf]; omega
                            · rw [List.concat_eq_append] at hcon
                              subst hcon
                              obtain ⟨g6, hg6, hn6, hc6, hl6⟩ := stk_ptr HS3.out
                              have HS4 := Lib.hid (show Stk w3 w.heap.size (.slice (some ⟨g6, 0, none⟩) (op1.length + 1) oc) os (op1 ++ [ds]) by rw [← hg6, ← hn6]; exact HS3.out)
                              obtain ⟨os1, dv, hos, hl1, _, _, hdv, _⟩ := HS4.out.pop
                              rw [hos] at HS4 HN3
                              obtain ⟨dA, dc, rfl⟩ := own_slice hdv
                              have hcell4 := (stk_cell HS4.out).1
                              have hg6w : w.heap.size ≤ g6 := ((HS4.out.own).lt g6 rfl).1
                              have hds : ds.length ≤ out.length := by
                                have := HL0.out op1.length (by simp)
                                rw [lst_at] at this
                                exact this
                              have HLL := Lib.hid (show ∀ k, k < op1.length → (lst op1 k).length ≤ out.length from fun k hk => by
                                have := HL0.out k (by simp; omega)
                                rw [lst_lt hk] at this
                                exact this)
                              have HQ2 := Lib.hid (show rfAll s = rfGo s f (k) (out ++ [(s.extract j k, ([] : List Int))]) (op1 ++ [ds ++ [(out.length : Int)]]) false by rw [HQ.out, pushL_snoc, beq_false_of_ne (by simp)])
                              have HDV := Lib.hid hdv
                              have HL1 := Lib.hid hl1
                              have hopl : op1.length + 1 ≤ 12 := by have := hop0; simp at this; omega
                              have hlz : (((op1.length : Int) + 1) == 0) = false := by simp; omega
                              have HG6 := Lib.hid hg6
                              have HOS := Lib.hid hos
                              obtain ⟨j0, ki, ki0, ki1, ki2⟩ := info_parts info_int
                              have hz3 := HB3.out.size
                              clear hdv hl1 hn6 hos
                              subst hg6
                              go_wp2_with (at_builtin; refine wpList_append_own_at _ rfl _ _ 35 rfl w.heap.size IT j0 (.int .i64 0) 1 8 Try.underlying35 ki ki0 ki1 ki2 rfl (by decide) _ _ _ rfl (HDV.out.alloc _) ⟨w3.heap.size, 0, none⟩ 1 1 [.int .i64 (out.length : Int)] rfl rfl (cells_new1 _ _ _ _ rfl) (cell1 _ rfl) (by unfold maxLen; omega) (by omega) (by simp; omega) ?_)
                              generalize hA4 : World.alloc w3 _ = wb
                              have hBb : Below w3.heap.size w3 wb := by rw [← hA4]; exact (Below.refl _ _).alloc (Nat.le_refl _) _
                              have HBb := Lib.hid hBb
                              have hzb := hBb.size
                              have HZB := Lib.hid (show wb.heap.size = w3.heap.size + 1 by rw [← hA4]; simp)
                              have HDVb := Lib.hid (show wb.ownsRow w.heap.size IT 1 (.slice dA ds.length dc) ds.length (ds.map (Value.int .i64)) by rw [← hA4]; exact HDV.out.alloc _)
                              clear hA4 hBb hcell4
                              intro kv' w4 hown4 hgrow4 _ hat4
                              rw [← HZB.out] at hat4
                              have hSb := HS4.out.below HBb.out
                              have hOb := hSb.own
                              simp only [List.length_append, List.length_singleton] at hOb
                              have hO4 : w4.ownsRow w.heap.size OT 1 (.slice (some ⟨g6, 0, none⟩) (op1.length + 1) oc) (op1.length + 1) (os1 ++ [.slice dA ds.length dc]) := by
                                refine hOb.kept hgrow4 ?_
                                right
                                intro e1
                                obtain ⟨c1, fz1, h1⟩ := own_kind HDVb.out g6 e1.symm
                                obtain ⟨c2, fz2, h2⟩ := own_kind hOb g6 rfl
                                rw [h1] at h2
                                simp at h2
                                exact absurd h2.2.1 (by decide)
                              have c4 : w4.cell? ⟨g6, op1.length, none⟩ = some (.slice dA ds.length dc) := by
                                rw [hO4.cellAt op1.length (by omega), ← HL1.out]
                                simp
                              have f4 := hO4.frozenAt op1.length
                              have hS5 := hSb.top hgrow4 hown4 hat4
                              have hN5 := nown_top (HN3.out.below HBb.out) HDVb.out hOb hgrow4 hat4 op1.length
                              have hF4 : FB w4 w.heap.size (.int .i64 0) (.int .i64 0) := kind_grown (HF3.out.below HBb.out) HDVb.out (by decide) hgrow4
                              have hgne : g6 ≠ w.heap.size := by
                                intro e1
                                obtain ⟨c2, fz2, h2⟩ := own_kind hO4 g6 rfl
                                unfold FB at hF4
                                rw [← e1, h2] at hF4
                                simp at hF4
                                exact absurd hF4.2.1 (by decide)
                              have hF5 := hF4.far (p := ⟨g6, op1.length, none⟩) hgne kv'
                              have hB5 : Below w.heap.size w (w4.setCell ⟨g6, op1.length, none⟩ kv') := ((HB3.out.trans (HBb.out.mono (by omega))).grown hgrow4 (by omega) (fun k hk => (HDVb.out.lt k hk).1)).setCell (p := ⟨g6, op1.length, none⟩) hg6w _
                              obtain ⟨k5A, k5c, rfl⟩ := own_slice hown4
                              have HI5 := Lib.hid (show OfI s w (.slice v3A (out.length + 1) v3c) (.slice (some ⟨g6, 0, none⟩) (op1.length + 1) oc) (.bool false) (.int .i64 ((k : Nat) : Int)) (w4.setCell ⟨g6, op1.length, none⟩ (.slice k5A (ds.length + 1) k5c)) from
                                ⟨f, k, out ++ [(s.extract j k, ([] : List Int))], op1 ++ [ds ++ [(out.length : Int)]], false, os1 ++ [.slice k5A (ds.length + 1) k5c], rfl, rfl, HQ2.out, by omega, by omega, hN5, hS5, hF5, hB5, by simp; omega, by simp; omega, fun k hk => by
                                  by_cases e : k = op1.length
                                  · subst e; rw [lst_at]; simp; omega
                                  · rw [lst_lt (by simp at hk; omega)]
                                    have := HLL.out k (by simp at hk; omega)
                                    simp; omega⟩)
                              clear hown4 hgrow4 hat4 hSb hOb hO4 hS5 hN5 hF4 hF5 hB5 hgne
                              go_wp2
                              go_roundw
                              case rel => exact HI5.out
                              case measure => simp [intOf]; omega
                        · have HSK := Lib.hid hsk
                          go_wp2_with (go_at_call 31; refine (symbolByte_any _ (bt_lt s k) _).mono ?_; rintro e w' ⟨rfl, rfl⟩)
                          go_round
                          case rel => exact ⟨k + 1, by omega, by omega, fun q h1 h2 => by
                            by_cases e : q = k
                            · rw [e]; exact HSK.out
                            · exact HA.out q h1 (by omega), by go_num⟩
                          case measure => simp [intOf]; omega
                      · have hke : k = s.size := by omega
                        have hksi : ¬ ((k : Int) < s.size) := by omega
                        have hne : j < k := by omega
                        have HSE := Lib.hid (show symEnd (s.extract j s.size) = k - j from symEnd_at (by omega) (fun q hq => HA.out _ (by omega) (by omega)) (fun h => by omega))
                        clear hks hke
                        by_cases hlong : 12 < k - j
                        · have hq := Lib.hid (show rfAll s = ([], ((1 : Int), (j : Int))) by
                            rw [HG.out, go_long (by rw [HJ.out]; exact hlt) (by rw [HJ.out]; exact C40.out) (by rw [HJ.out]; exact C41.out) (by rw [HJ.out]; exact HSY.out) H12.out (by rw [HJ.out, HSE.out]; exact hlong), HJ.out])
                          have hld : decide ((k : Int) - j > 12) = true := by simp; omega
                          have hld2 : (12 : Int) < (k : Int) - j := by omega
                          have HF0 := HF
                          have HBx := HB
                          have HF := Lib.hid (HF0.out.below ((Below.refl _ _).alloc (Nat.le_refl _) (.cells #[.string ⟨#[]⟩, .slice none 0 0] ST)))
                          have HB := Lib.hid (HBx.out.alloc HBx.out.size (.cells #[.string ⟨#[]⟩, .slice none 0 0] ST))
                          clear hlong
                          have HQ := Lib.hid (show rdAll s = (([] : List Nd), ((1 : Int), (j : Int))) by rw [← rf_all]; exact hq.out)
                          go_wp2_with (first | (go_at_call 31; refine (symbolByte_any _ (bt_lt s k) _).mono ?_; rintro e w' ⟨rfl, rfl⟩) | (go_at_call 17; refine (at_any _ _ _).mono ?_))
                          first | (rintro e W2 rfl hB2) | (rintro e W2 ⟨rfl, hB2⟩)
                          have hB2 : Below (wr.alloc (.cells #[.string ⟨#[]⟩, .slice none 0 0] ST)).heap.size (wr.alloc (.cells #[.string ⟨#[]⟩, .slice none 0 0] ST)) W2 := by
                            have e : (wr.alloc (.cells #[.string ⟨#[]⟩, .slice none 0 0] ST)).heap.size = wr.heap.size + 1 := by simp
                            first | exact hB2 | (rw [e]; exact hB2)
                          have HF2 := Lib.hid (HF.out.below hB2)
                          have HB2 := Lib.hid (HB.out.trans (hB2.mono HB.out.size))
                          have hz2 := hB2.size
                          clear hB2
                          have t0 := HF2.out.two.fst
                          have t1 := HF2.out.two.snd
                          have tf0 := HF2.out.two.ffst
                          have tf1 := HF2.out.two.fsnd
                          have tl := HF2.out.lt
                          go_wp2
                          refine post_with_fault (g := w.heap.size) (x := .int .i64 1) (y := .int .i64 j) Try.results14 rfl ?_ ?_
                          · have hT := HF2.out.two
                            (repeat' (first | (with_reducible assumption) | (with_reducible exact two_new _ _ _ _) | (with_reducible exact (two_new _ _ _ _).pair) | (with_reducible exact Two.pair ‹_›) | (with_reducible refine Pair.set ?_ _ _) | (with_reducible refine Two.alloc ?_ _) | (with_reducible refine Pair.alloc ?_ _) | (with_reducible refine two1 ?_) | (with_reducible refine twoN ?_ _) | (with_reducible refine Pair.drew ?_) | (with_reducible refine Pair.drewN ?_ _) | (with_reducible refine Two.far ?_ ?_ _) | (with_reducible refine Pair.far ?_ ?_ _) | (simp; omega)))
                          · refine ⟨none, 0, ?_, ?_, ?_, ?_, ?_⟩
                            · rw [HQ.out]; rfl
                            · rw [HQ.out]; exact nodes_nil _ _ _
                            · rw [HQ.out]; exact Nat.le_refl _
                            · simp [maxLen]
                            · have hbase := HB2.out
                              (repeat' (first | (with_reducible assumption) | (with_reducible exact Below.refl _ _) | (with_reducible refine belowN ?_ _) | (with_reducible refine Below.alloc ?_ ?_ _) | (with_reducible refine Below.drew ?_) | (with_reducible refine Below.setCell ?_ ?_ _) | go_size))
                        · have hse : symEnd (s.extract (nx s i) s.size) = k - j := by rw [HJ.out]; exact HSE.out
                          have hjk2 : j + (k - j) = k := by omega
                          have HQ := Lib.hid (show rfAll s = rfGo s f k (out ++ [(s.extract j k, ([] : List Int))]) (pushL op out.length) (op.length == 0) by
                            rw [HG.out, go_sym (by rw [HJ.out]; exact hlt) (by rw [HJ.out]; exact C40.out) (by rw [HJ.out]; exact C41.out) (by rw [HJ.out]; exact HSY.out) H12.out (by rw [hse]; exact hlong), hse, HJ.out, hjk2])
                          have hld : decide ((k : Int) - j > 12) = false := by simp; omega
                          have hld2 : ¬ ((12 : Int) < (k : Int) - j) := by omega
                          have hki1 : (k : Int) ≤ s.size := by omega
                          have hki2 : (j : Int) ≤ k := by omega
                          have HL0 := HL
                          have hop0 : op.length + 1 ≤ 12 := by have := H12.out; omega
                          obtain ⟨kvs, hkl, hown, hkids, hsz⟩ := HN.out
                          have HKL := Lib.hid hkl
                          have HKD := Lib.hid hkids
                          have HSZ := Lib.hid hsz
                          obtain ⟨i0, hi', hi0, hi1, hi2⟩ := info_parts info_node
                          have hbz := HB.out.size
                          clear hkl hkids hsz hlong hse hjk2
                          go_wp2_with (first | (go_at_call 31; refine (symbolByte_any _ (bt_lt s k) _).mono ?_; rintro e w' ⟨rfl, rfl⟩) | (at_builtin; refine wpList_append_own _ rfl _ _ 22 rfl w.heap.size ST i0 (.agg #[.string ⟨#[]⟩, .slice none 0 0]) 2 40 Try.underlying22 hi' hi0 hi1 hi2 rfl (by decide) _ _ _ rfl ((hown.alloc _).alloc _) ⟨wr.heap.size + 1, 0, none⟩ 1 1 [.string (s.extract j k), .slice none 0 0] rfl rfl (cells_new2 _ _ _ _ _ (by simp)) (cell2 _ _ rfl rfl) (by unfold maxLen; omega) (by omega) (by simp; omega) ?_))
                          generalize hA : World.alloc (World.alloc wr _) _ = wa
                          have hBa : Below wr.heap.size wr wa := by rw [← hA]; exact ((Below.refl _ _).alloc (Nat.le_refl _) _).alloc (by simp) _
                          have HBa := Lib.hid hBa
                          have hza := hBa.size
                          have HOa := Lib.hid (show wa.ownsRow w.heap.size ST 2 (.slice vA out.length vc) out.length (ncells out kvs) by rw [← hA]; exact (hown.alloc _).alloc _)
                          have hKa : Kids wa w.heap.size kvs out (StX os) := fun q hq => ⟨by rw [← hA]; exact ((HKD.out q hq).1.alloc _).alloc _, (HKD.out q hq).2⟩
                          have HKa := Lib.hid hKa
                          clear hA hBa hKa hown
                          intro v3 w3 hown' hgrow _
                          obtain ⟨v3A, v3c, rfl⟩ := own_slice hown'
                          have HN3 := Lib.hid (NOwn.snoc (n := (s.extract j k, ([] : List Int))) HKL.out HOa.out HKa.out HSZ.out hgrow (World.ownsRow_nil wa w.heap.size IT 1) (fun b hb => by simp [Value.ownBlock] at hb) (by simp [maxLen]; omega) hown')
                          have HS3 := Lib.hid ((HS.out.below HBa.out).grownST HOa.out hgrow)
                          have HF3 := Lib.hid (show FB w3 w.heap.size (.int .i64 0) (.int .i64 0) from kind_grown (HF.out.below HBa.out) HOa.out (by decide) hgrow)
                          have HB3 := Lib.hid ((HB.out.trans (HBa.out.mono (by omega))).grown hgrow (by omega) (fun k hk => (HOa.out.lt k hk).1))
                          clear hgrow hown'
                          rcases List.eq_nil_or_concat op with hnil | ⟨op1, ds, hcon⟩
                          · have HI3 := Lib.hid (show OfI s w (.slice v3A (out.length + 1) v3c) (.slice oA op.length oc) (.bool true) (.int .i64 ((k : Nat) : Int)) w3 from
                              ⟨f, k, out ++ [(s.extract j k, ([] : List Int))], op, true, os, rfl, rfl, by rw [HQ.out, hnil]; rfl, by omega, by omega, by simpa using HN3.out, HS3.out, HF3.out, HB3.out, by simp; omega, by rw [hnil]; exact Nat.zero_le _, fun k hk => by rw [hnil] at hk; simp at hk⟩)
                            have hl0 : op.length = 0 := by rw [hnil]; rfl
                            have hlz : ((op.length : Int) == 0) = true := by simp; omega
                            have HL00 := Lib.hid hl0
                            clear hnil hl0
                            go_wp2_with fail
                            go_roundw
                            case rel => exact HI3.out
                            case measure => simp [intOf]; omega
                          · rw [List.concat_eq_append] at hcon
                            subst hcon
                            obtain ⟨g6, hg6, hn6, hc6, hl6⟩ := stk_ptr HS3.out
                            have HS4 := Lib.hid (show Stk w3 w.heap.size (.slice (some ⟨g6, 0, none⟩) (op1.length + 1) oc) os (op1 ++ [ds]) by rw [← hg6, ← hn6]; exact HS3.out)
                            obtain ⟨os1, dv, hos, hl1, _, _, hdv, _⟩ := HS4.out.pop
                            rw [hos] at HS4 HN3
                            obtain ⟨dA, dc, rfl⟩ := own_slice hdv
                            have hcell4 := (stk_cell HS4.out).1
                            have hg6w : w.heap.size ≤ g6 := ((HS4.out.own).lt g6 rfl).1
                            have hds : ds.length ≤ out.length := by
                              have := HL0.out op1.length (by simp)
                              rw [lst_at] at this
                              exact this
                            have HLL := Lib.hid (show ∀ k, k < op1.length → (lst op1 k).length ≤ out.length from fun k hk => by
                              have := HL0.out k (by simp; omega)
                              rw [lst_lt hk] at this
                              exact this)
                            have HQ2 := Lib.hid (show rfAll s = rfGo s f (k) (out ++ [(s.extract j k, ([] : List Int))]) (op1 ++ [ds ++ [(out.length : Int)]]) false by rw [HQ.out, pushL_snoc, beq_false_of_ne (by simp)])
                            have HDV := Lib.hid hdv
                            have HL1 := Lib.hid hl1
                            have hopl : op1.length + 1 ≤ 12 := by have := hop0; simp at this; omega
                            have hlz : (((op1.length : Int) + 1) == 0) = false := by simp; omega
                            have HG6 := Lib.hid hg6
                            have HOS := Lib.hid hos
                            obtain ⟨j0, ki, ki0, ki1, ki2⟩ := info_parts info_int
                            have hz3 := HB3.out.size
                            clear hdv hl1 hn6 hos
                            subst hg6
                            go_wp2_with (at_builtin; refine wpList_append_own_at _ rfl _ _ 35 rfl w.heap.size IT j0 (.int .i64 0) 1 8 Try.underlying35 ki ki0 ki1 ki2 rfl (by decide) _ _ _ rfl (HDV.out.alloc _) ⟨w3.heap.size, 0, none⟩ 1 1 [.int .i64 (out.length : Int)] rfl rfl (cells_new1 _ _ _ _ rfl) (cell1 _ rfl) (by unfold maxLen; omega) (by omega) (by simp; omega) ?_)
                            generalize hA4 : World.alloc w3 _ = wb
                            have hBb : Below w3.heap.size w3 wb := by rw [← hA4]; exact (Below.refl _ _).alloc (Nat.le_refl _) _
                            have HBb := Lib.hid hBb
                            have hzb := hBb.size
                            have HZB := Lib.hid (show wb.heap.size = w3.heap.size + 1 by rw [← hA4]; simp)
                            have HDVb := Lib.hid (show wb.ownsRow w.heap.size IT 1 (.slice dA ds.length dc) ds.length (ds.map (Value.int .i64)) by rw [← hA4]; exact HDV.out.alloc _)
                            clear hA4 hBb hcell4
                            intro kv' w4 hown4 hgrow4 _ hat4
                            rw [← HZB.out] at hat4
                            have hSb := HS4.out.below HBb.out
                            have hOb := hSb.own
                            simp only [List.length_append, List.length_singleton] at hOb
                            have hO4 : w4.ownsRow w.heap.size OT 1 (.slice (some ⟨g6, 0, none⟩) (op1.length + 1) oc) (op1.length + 1) (os1 ++ [.slice dA ds.length dc]) := by
                              refine hOb.kept hgrow4 ?_
                              right
                              intro e1
                              obtain ⟨c1, fz1, h1⟩ := own_kind HDVb.out g6 e1.symm
                              obtain ⟨c2, fz2, h2⟩ := own_kind hOb g6 rfl
                              rw [h1] at h2
                              simp at h2
                              exact absurd h2.2.1 (by decide)
                            have c4 : w4.cell? ⟨g6, op1.length, none⟩ = some (.slice dA ds.length dc) := by
                              rw [hO4.cellAt op1.length (by omega), ← HL1.out]
                              simp
                            have f4 := hO4.frozenAt op1.length
                            have hS5 := hSb.top hgrow4 hown4 hat4
                            have hN5 := nown_top (HN3.out.below HBb.out) HDVb.out hOb hgrow4 hat4 op1.length
                            have hF4 : FB w4 w.heap.size (.int .i64 0) (.int .i64 0) := kind_grown (HF3.out.below HBb.out) HDVb.out (by decide) hgrow4
                            have hgne : g6 ≠ w.heap.size := by
                              intro e1
                              obtain ⟨c2, fz2, h2⟩ := own_kind hO4 g6 rfl
                              unfold FB at hF4
                              rw [← e1, h2] at hF4
                              simp at hF4
                              exact absurd hF4.2.1 (by decide)
                            have hF5 := hF4.far (p := ⟨g6, op1.length, none⟩) hgne kv'
                            have hB5 : Below w.heap.size w (w4.setCell ⟨g6, op1.length, none⟩ kv') := ((HB3.out.trans (HBb.out.mono (by omega))).grown hgrow4 (by omega) (fun k hk => (HDVb.out.lt k hk).1)).setCell (p := ⟨g6, op1.length, none⟩) hg6w _
                            obtain ⟨k5A, k5c, rfl⟩ := own_slice hown4
                            have HI5 := Lib.hid (show OfI s w (.slice v3A (out.length + 1) v3c) (.slice (some ⟨g6, 0, none⟩) (op1.length + 1) oc) (.bool false) (.int .i64 ((k : Nat) : Int)) (w4.setCell ⟨g6, op1.length, none⟩ (.slice k5A (ds.length + 1) k5c)) from
                              ⟨f, k, out ++ [(s.extract j k, ([] : List Int))], op1 ++ [ds ++ [(out.length : Int)]], false, os1 ++ [.slice k5A (ds.length + 1) k5c], rfl, rfl, HQ2.out, by omega, by omega, hN5, hS5, hF5, hB5, by simp; omega, by simp; omega, fun k hk => by
                                by_cases e : k = op1.length
                                · subst e; rw [lst_at]; simp; omega
                                · rw [lst_lt (by simp at hk; omega)]
                                  have := HLL.out k (by simp at hk; omega)
                                  simp; omega⟩)
                            clear hown4 hgrow4 hat4 hSb hOb hO4 hS5 hN5 hF4 hF5 hB5 hgne
                            go_wp2
                            go_roundw
                            case rel => exact HI5.out
                            case measure => simp [intOf]; omega
          · skip
            have HQ := Lib.hid (show rdAll s = (([] : List Nd), ((1 : Int), (j : Int))) by rw [← rf_all, HG.out, go_dn (by rw [HJ.out]; exact hlt), HJ.out])
            go_wp2_with (go_at_call 17; refine (at_any _ _ _).mono ?_)
            first | (rintro e W2 rfl hB2) | (rintro e W2 ⟨rfl, hB2⟩)
            have HF2 := Lib.hid (HF.out.below hB2)
            have HB2 := Lib.hid (HB.out.trans (hB2.mono HB.out.size))
            have hz2 := hB2.size
            clear hB2
            have t0 := HF2.out.two.fst
            have t1 := HF2.out.two.snd
            have tf0 := HF2.out.two.ffst
            have tf1 := HF2.out.two.fsnd
            have tl := HF2.out.lt
            go_wp2
            refine post_with_fault (g := w.heap.size) (x := .int .i64 1) (y := .int .i64 j) Try.results14 rfl ?_ ?_
            · have hT := HF2.out.two
              (repeat' (first | (with_reducible assumption) | (with_reducible exact two_new _ _ _ _) | (with_reducible exact (two_new _ _ _ _).pair) | (with_reducible exact Two.pair ‹_›) | (with_reducible refine Pair.set ?_ _ _) | (with_reducible refine Two.alloc ?_ _) | (with_reducible refine Pair.alloc ?_ _) | (with_reducible refine two1 ?_) | (with_reducible refine twoN ?_ _) | (with_reducible refine Pair.drew ?_) | (with_reducible refine Pair.drewN ?_ _) | (with_reducible refine Two.far ?_ ?_ _) | (with_reducible refine Pair.far ?_ ?_ _) | (simp; omega)))
            · refine ⟨none, 0, ?_, ?_, ?_, ?_, ?_⟩
              · rw [HQ.out]; rfl
              · rw [HQ.out]; exact nodes_nil _ _ _
              · rw [HQ.out]; exact Nat.le_refl _
              · simp [maxLen]
              · have hbase := HB2.out
                (repeat' (first | (with_reducible assumption) | (with_reducible exact Below.refl _ _) | (with_reducible refine belowN ?_ _) | (with_reducible refine Below.alloc ?_ ?_ _) | (with_reducible refine Below.drew ?_) | (with_reducible refine Below.setCell ?_ ?_ _) | go_size))
        · have hsp2 : spB ((bt s j : Nat) : Int) = true := hsp
          have HJ := Lib.hid (show nx s i = nx s (j + 1) by rw [HNX.out]; exact nx_step hlt hsp)
          unfold spB at hsp2
          simp only [Bool.or_eq_true] at hsp2
          clear hsp
          by_cases q1 : bt s j = 32
          · have r1 : (((bt s j : Nat) : Int) == 32) = true := by simp; omega
            clear hsp2 q1
            go_wp2_with fail
            go_round
            case rel => exact ⟨j + 1, by omega, by omega, HJ.out, by go_num⟩
            case measure => simp [intOf]; omega
          · have r1 : (((bt s j : Nat) : Int) == 32) = false := by simp; omega
            by_cases q2 : bt s j = 9
            · have r2 : (((bt s j : Nat) : Int) == 9) = true := by simp; omega
              clear hsp2 q1 q2
              go_wp2_with fail
              go_round
              case rel => exact ⟨j + 1, by omega, by omega, HJ.out, by go_num⟩
              case measure => simp [intOf]; omega
            · have r2 : (((bt s j : Nat) : Int) == 9) = false := by simp; omega
              have r3 : (((bt s j : Nat) : Int) == 10) = true := by
                rcases hsp2 with (hq | hq) | hq
                · rw [hq] at r1; cases r1
                · rw [hq] at r2; cases r2
                · exact hq
              clear hsp2 q1 q2
              go_wp2_with fail
              go_round
              case rel => exact ⟨j + 1, by omega, by omega, HJ.out, by go_num⟩
              case measure => simp [intOf]; omega
      · obtain rfl : j = s.size := by omega
        have hend : ¬ nx s i < s.size := by rw [HNX.out]; have := nx_ge s s.size; omega
        have HE := Lib.hid (show rdAll s = rfEnd s out dn by rw [← rf_all, HG.out, go_end hend])
        have hlti : ¬ ((s.size : Int) < s.size) := by omega
        have hne : ((s.size : Int) == s.size) = true := by simp
        clear hlt hend
        cases dn
        · skip
          have HQ := Lib.hid (show rdAll s = (([] : List Nd), ((1 : Int), (s.size : Int))) by rw [HE.out]; rfl)
          go_wp2_with (go_at_call 17; refine (at_any _ _ _).mono ?_)
          first | (rintro e W2 rfl hB2) | (rintro e W2 ⟨rfl, hB2⟩)
          have HF2 := Lib.hid (HF.out.below hB2)
          have HB2 := Lib.hid (HB.out.trans (hB2.mono HB.out.size))
          have hz2 := hB2.size
          clear hB2
          have t0 := HF2.out.two.fst
          have t1 := HF2.out.two.snd
          have tf0 := HF2.out.two.ffst
          have tf1 := HF2.out.two.fsnd
          have tl := HF2.out.lt
          go_wp2
          refine post_with_fault (g := w.heap.size) (x := .int .i64 1) (y := .int .i64 s.size) Try.results14 rfl ?_ ?_
          · have hT := HF2.out.two
            (repeat' (first | (with_reducible assumption) | (with_reducible exact two_new _ _ _ _) | (with_reducible exact (two_new _ _ _ _).pair) | (with_reducible exact Two.pair ‹_›) | (with_reducible refine Pair.set ?_ _ _) | (with_reducible refine Two.alloc ?_ _) | (with_reducible refine Pair.alloc ?_ _) | (with_reducible refine two1 ?_) | (with_reducible refine twoN ?_ _) | (with_reducible refine Pair.drew ?_) | (with_reducible refine Pair.drewN ?_ _) | (with_reducible refine Two.far ?_ ?_ _) | (with_reducible refine Pair.far ?_ ?_ _) | (simp; omega)))
          · refine ⟨none, 0, ?_, ?_, ?_, ?_, ?_⟩
            · rw [HQ.out]; rfl
            · rw [HQ.out]; exact nodes_nil _ _ _
            · rw [HQ.out]; exact Nat.le_refl _
            · simp [maxLen]
            · have hbase := HB2.out
              (repeat' (first | (with_reducible assumption) | (with_reducible exact Below.refl _ _) | (with_reducible refine belowN ?_ _) | (with_reducible refine Below.alloc ?_ ?_ _) | (with_reducible refine Below.drew ?_) | (with_reducible refine Below.setCell ?_ ?_ _) | go_size))
        · by_cases h300 : 300 < out.length
          · have hd3 : decide ((out.length : Int) > 300) = true := by simp; omega
            have H300 := Lib.hid h300
            clear h300
            have HQ := Lib.hid (show rdAll s = (([] : List Nd), ((10 : Int), ((-1) : Int))) by rw [HE.out]; unfold rfEnd; rw [decide_eq_true H300.out]; rfl)
            go_wp2_with (go_at_call 17; refine (at_any _ _ _).mono ?_)
            first | (rintro e W2 rfl hB2) | (rintro e W2 ⟨rfl, hB2⟩)
            have HF2 := Lib.hid (HF.out.below hB2)
            have HB2 := Lib.hid (HB.out.trans (hB2.mono HB.out.size))
            have hz2 := hB2.size
            clear hB2
            have t0 := HF2.out.two.fst
            have t1 := HF2.out.two.snd
            have tf0 := HF2.out.two.ffst
            have tf1 := HF2.out.two.fsnd
            have tl := HF2.out.lt
            go_wp2
            refine post_with_fault (g := w.heap.size) (x := .int .i64 10) (y := .int .i64 (-1)) Try.results14 rfl ?_ ?_
            · have hT := HF2.out.two
              (repeat' (first | (with_reducible assumption) | (with_reducible exact two_new _ _ _ _) | (with_reducible exact (two_new _ _ _ _).pair) | (with_reducible exact Two.pair ‹_›) | (with_reducible refine Pair.set ?_ _ _) | (with_reducible refine Two.alloc ?_ _) | (with_reducible refine Pair.alloc ?_ _) | (with_reducible refine two1 ?_) | (with_reducible refine twoN ?_ _) | (with_reducible refine Pair.drew ?_) | (with_reducible refine Pair.drewN ?_ _) | (with_reducible refine Two.far ?_ ?_ _) | (with_reducible refine Pair.far ?_ ?_ _) | (simp; omega)))
            · refine ⟨none, 0, ?_, ?_, ?_, ?_, ?_⟩
              · rw [HQ.out]; rfl
              · rw [HQ.out]; exact nodes_nil _ _ _
              · rw [HQ.out]; exact Nat.le_refl _
              · simp [maxLen]
              · have hbase := HB2.out
                (repeat' (first | (with_reducible assumption) | (with_reducible exact Below.refl _ _) | (with_reducible refine belowN ?_ _) | (with_reducible refine Below.alloc ?_ ?_ _) | (with_reducible refine Below.drew ?_) | (with_reducible refine Below.setCell ?_ ?_ _) | go_size))
          · have hd3 : decide ((out.length : Int) > 300) = false := by simp; omega
            have HQ := Lib.hid (show rdAll s = (out, ((0 : Int), (0 : Int))) by rw [HE.out]; unfold rfEnd; rw [decide_eq_false h300]; rfl)
            have t0 := HF.out.two.fst
            have t1 := HF.out.two.snd
            have tf0 := HF.out.two.ffst
            have tf1 := HF.out.two.fsnd
            have tl := HF.out.lt
            clear h300
            go_wp2_with fail
            refine post_with_fault (g := w.heap.size) (x := .int .i64 0) (y := .int .i64 0) Try.results14 rfl ?_ ?_
            · have hT := HF.out.two
              (repeat' (first | (with_reducible assumption) | (with_reducible exact two_new _ _ _ _) | (with_reducible exact (two_new _ _ _ _).pair) | (with_reducible exact Two.pair ‹_›) | (with_reducible refine Pair.set ?_ _ _) | (with_reducible refine Two.alloc ?_ _) | (with_reducible refine Pair.alloc ?_ _) | (with_reducible refine two1 ?_) | (with_reducible refine twoN ?_ _) | (with_reducible refine Pair.drew ?_) | (with_reducible refine Pair.drewN ?_ _) | (with_reducible refine Two.far ?_ ?_ _) | (with_reducible refine Pair.far ?_ ?_ _) | (simp; omega)))
            · obtain ⟨A', c', e1, e2, e3, e4⟩ := nodes_own ((HN.out.setCell (p := ⟨w.heap.size, 0, none⟩) HF.out (by decide) (by decide) (.int .i64 0)).setCell (p := ⟨w.heap.size, 1, none⟩) (HF.out.set0 _) (by decide) (by decide) (.int .i64 0))
              injection e1 with e1 _ e5
              subst e1
              subst e5
              refine ⟨vA, vc, ?_, ?_, ?_, ?_, ?_⟩
              · rw [HQ.out]; rfl
              · rw [HQ.out]; exact e2
              · rw [HQ.out]; exact e3
              · exact e4
              · have hbase := HB.out
                (repeat' (first | (with_reducible assumption) | (with_reducible exact Below.refl _ _) | (with_reducible refine belowN ?_ _) | (with_reducible refine Below.alloc ?_ ?_ _) | (with_reducible refine Below.drew ?_) | (with_reducible refine Below.setCell ?_ ?_ _) | go_size))
theorem sof_any (s : ByteArray) (hsm : s.size ≤ maxLen) (w : World) : Calls Try.prog 14 #[.string s] w (ReadPost s w) := by
  by_cases h : 4096 < s.size
  · exact sof_long s hsm w h
  · exact sof_short s w h
end Go.Proofs.Ytbdollafpjejiaa

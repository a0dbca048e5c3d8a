/- The reference's fault. -/
import Derived.Test.YtbdollafpjejiaaSrf
import Derived.Test.YtbdollafpjejiaaSrsy
namespace Go.Proofs.Ytbdollafpjejiaa
open Go.RowKit Go.Shelf
set_option linter.unusedSimpArgs false
set_option linter.unusedVariables false
set_option maxRecDepth 100000

theorem code_none {ns : List Nd} {k : Nat} (h1 : (sy ns k).size ≠ 0 → symbolB (sy ns k) = true ∧ (ch ns k).length = 0) (hs : startOf (tabS ns k) (ch ns k) = none) : nodeCode ns k = 5 := by
  unfold nodeCode
  rw [if_neg (by intro ⟨a, b⟩; rw [(h1 a).1] at b; cases b), if_neg (by intro ⟨a, b⟩; exact b (h1 a).2), hs]
  rfl

set_option maxRecDepth 100000 in
set_option maxHeartbeats 1000000 in
theorem sfault_any (A : Option Addr) (c : Nat) (ns : List Nd) (w : World) (hE : Nodes w w.heap.size A ns) (hn : ns.length ≤ maxLen) (hint : ∀ k m, k < ns.length → m < (ch ns k).length → -9223372036854775808 ≤ ix (ch ns k) m ∧ ix (ch ns k) m ≤ 9223372036854775807) :
    Calls Try.prog 9 #[.slice A ns.length c] w fun e w' => e = .returned (faultV (sxFault ns)) ∧ Below w.heap.size w w' := by
  have hn2 : ns.length ≤ 9223372036854775807 := by unfold maxLen at hn; omega
  have hE0 : Nodes (w.alloc (.cells #[.int .i64 0, .int .i64 0] 25)) (w.alloc (.cells #[.int .i64 0, .int .i64 0] 25)).heap.size A ns := hE.to ((Below.refl _ _).alloc (Nat.le_refl _) _) (by simp)
  have hF0 := fb_new w (.int .i64 0) (.int .i64 0)
  have hB0 : Below w.heap.size w (w.alloc (.cells #[.int .i64 0, .int .i64 0] 25)) := (Below.refl _ _).alloc (Nat.le_refl _) _
  by_cases hbd : ns.length = 0 ∨ 300 < ns.length
  · have HS := Lib.hid (show sxFault ns = (2, -1) by unfold sxFault; rw [if_pos hbd])
    have hin : inB ns.length 1 300 = false := by unfold inB; simp; omega
    clear hbd hE hE0
    go_enter Try.func9, Try.ntmps9
    go_wp2_with (go_at_call 18; refine (in_any _ _ _ _).mono ?_; rintro e w' ⟨rfl, rfl⟩)
    generalize w.alloc (.cells #[.int .i64 0, .int .i64 0] 25) = W0 at hF0 hB0 ⊢
    have HF0 := Lib.hid hF0
    have HB0 := Lib.hid hB0
    clear hF0 hB0
    go_wp2_with (go_at_call 17; refine (at_any _ _ _).mono ?_)
    first | (rintro e W2 rfl hB2) | (rintro e W2 ⟨rfl, hB2⟩)
    have HF2 := Lib.hid (HF0.out.below hB2)
    have HB2 := Lib.hid (HB0.out.trans (hB2.mono HB0.out.size))
    have hz2 := hB2.size
    clear hB2
    have t0 := HF2.out.two.fst
    have t1 := HF2.out.two.snd
    have tf0 := HF2.out.two.ffst
    have tf1 := HF2.out.two.fsnd
    have tl := HF2.out.lt
    go_wp2
    refine post_fault (g := w.heap.size) (x := .int .i64 2) (y := .int .i64 (-1)) Try.results9 rfl ?_ ?_
    · have hT := HF2.out.two
      (repeat' (first | (with_reducible assumption) | (with_reducible exact two_new _ _ _ _) | (with_reducible exact (two_new _ _ _ _).pair) | (with_reducible exact Two.pair ‹_›) | (with_reducible refine Pair.set ?_ _ _) | (with_reducible refine Two.alloc ?_ _) | (with_reducible refine Pair.alloc ?_ _) | (with_reducible refine two1 ?_) | (with_reducible refine twoN ?_ _) | (with_reducible refine Pair.drew ?_) | (with_reducible refine Pair.drewN ?_ _) | (with_reducible refine Two.far ?_ ?_ _) | (with_reducible refine Pair.far ?_ ?_ _) | (simp; omega)))
    · refine ⟨ret_val (by rw [HS.out]), ?_⟩
      have hbase := HB2.out
      (repeat' (first | (with_reducible assumption) | (with_reducible exact Below.refl _ _) | (with_reducible refine belowN ?_ _) | (with_reducible refine Below.alloc ?_ ?_ _) | (with_reducible refine Below.drew ?_) | (with_reducible refine Below.setCell ?_ ?_ _) | go_size))
  · have h1n : 1 ≤ ns.length := by omega
    have h300 : ns.length ≤ 300 := by omega
    have hin : inB ns.length 1 300 = true := by unfold inB; simp; omega
    have HI := Lib.hid hint
    clear hbd hE hint
    go_enter Try.func9, Try.ntmps9
    go_wp2_with (go_at_call 18; refine (in_any _ _ _ _).mono ?_; rintro e w' ⟨rfl, rfl⟩)
    generalize w.alloc (.cells #[.int .i64 0, .int .i64 0] 25) = W0 at hE0 hF0 hB0 ⊢
    have HE := Lib.hid hE0
    have HF0 := Lib.hid hF0
    have HB0 := Lib.hid hB0
    clear hE0 hF0 hB0
    go_loop [3] (fun u => ∃ k : Nat, k ≤ ns.length ∧ u = .int .i64 k ∧ GoodTo ns k) (fun u => ns.length - (intOf u).toNat)
    case atStart => exact ⟨0, Nat.zero_le _, rfl, fun j hj => by omega⟩
    case round =>
      obtain ⟨k, hk, rfl, hz⟩ := hrel
      have HZ := Lib.hid hz
      clear hz
      by_cases hlt : k < ns.length
      · have hki : (k : Int) < ns.length := by omega
        obtain ⟨b, o, Ak, ck, rfl, _, hs1, hs2, hN, hcl, hcm, hsl, hm⟩ := HE.out.at_ hlt
        have HN := Lib.hid hN
        have IXR := Lib.hid (show ∀ m, m < (ch ns k).length → -9223372036854775808 ≤ ix (ch ns k) m ∧ ix (ch ns k) m ≤ 9223372036854775807 from fun m hm => HI.out k m hlt hm)
        have hm9 : (ch ns k).length ≤ 9223372036854775807 := by unfold maxLen at hm; omega
        clear hN
        rcases Nat.eq_zero_or_pos (sy ns k).size with h0 | h0
        · have hl := toList_nil h0
          have CB := Lib.hid (show (sy ns k).size ≠ 0 → symbolB (sy ns k) = true ∧ (ch ns k).length = 0 from fun e => absurd h0 e)
          clear h0
          go_wp2_with fail
          have hz0 : (0 : Int) ≤ k := by omega
          clear hl
          go_loop [4, 5] (fun s u => ∃ (st : Int) (m : Nat), s = .int .i64 st ∧ u = .int .i64 ((m : Int) - 1) ∧ m ≤ (ch ns k).length ∧ 0 ≤ st ∧ st ≤ k ∧ startOf (tabS ns k) (ch ns k) = wb (tabS ns k) st ((ch ns k).take m).reverse) (fun _ u => (intOf u + 1).toNat)
          case atStart => exact ⟨_, (ch ns k).length, rfl, rfl, Nat.le_refl _, by omega, by omega, by rw [List.take_length, startOf, tabS_len]⟩
          case round =>
            obtain ⟨st, m, rfl, rfl, hm, hst0, hst1, hw⟩ := hrel
            have HW := Lib.hid hw
            clear hw
            by_cases hm0 : m = 0
            · subst hm0
              have hg : ((0 : Nat) : Int) - 1 = -1 := by omega
              have hso : startOf (tabS ns k) (ch ns k) = some st := by rw [HW.out]; rfl
              have hdk : dpN ns k ≤ 13 := fold_le _ _ _ _ (by omega) (fun x hx => by
                have h1 := start_mem hso x hx
                rw [tabD_lt ns k x.toNat (by omega)]
                have h2 := code_dep (HZ.out x.toNat (by omega))
                omega)
              have hcall := depth_any _ c ns (k + 1) W0 HE.out (by omega) hn (fun j hj x hx => by
                by_cases e : j = k
                · subst e; exact start_mem hso x hx
                · exact to_child HZ.out (by omega) j (by omega) x hx) (k + 1) k (by omega) (by omega) (by omega) (fun j hj => code_dep (HZ.out j hj))
              have hcode : nodeCode ns k = if 12 < dpN ns k then 10 else 0 := code_big CB.out hso
              have HSO := Lib.hid hso
              by_cases hdd : 12 < dpN ns k
              · have HC := Lib.hid (show nodeCode ns k = 10 by rw [hcode, if_pos hdd])
                have hdb : decide (dpN ns k > 12) = true := by simpa using hdd
                clear hso hcode
                go_wp2_with (first | (go_at_call 21; refine hcall.mono ?_; rintro e w' ⟨rfl, rfl⟩) | (go_at_call 17; refine (at_any _ _ _).mono ?_))
                first | (rintro e W2 rfl hB2) | (rintro e W2 ⟨rfl, hB2⟩)
                have HF2 := Lib.hid (HF0.out.below hB2)
                have HB2 := Lib.hid (HB0.out.trans (hB2.mono HB0.out.size))
                have hz2 := hB2.size
                clear hB2
                have t0 := HF2.out.two.fst
                have t1 := HF2.out.two.snd
                have tf0 := HF2.out.two.ffst
                have tf1 := HF2.out.two.fsnd
                have tl := HF2.out.lt
                go_wp2
                refine post_fault (g := w.heap.size) (x := .int .i64 10) (y := .int .i64 k) Try.results9 rfl ?_ ?_
                · have hT := HF2.out.two
                  (repeat' (first | (with_reducible assumption) | (with_reducible exact two_new _ _ _ _) | (with_reducible exact (two_new _ _ _ _).pair) | (with_reducible exact Two.pair ‹_›) | (with_reducible refine Pair.set ?_ _ _) | (with_reducible refine Two.alloc ?_ _) | (with_reducible refine Pair.alloc ?_ _) | (with_reducible refine two1 ?_) | (with_reducible refine twoN ?_ _) | (with_reducible refine Pair.drew ?_) | (with_reducible refine Pair.drewN ?_ _) | (with_reducible refine Two.far ?_ ?_ _) | (with_reducible refine Pair.far ?_ ?_ _) | (simp; omega)))
                · refine ⟨ret_val (by rw [sx_hit h1n h300 hlt HZ.out (by rw [HC.out]; decide), HC.out]), ?_⟩
                  have hbase := HB2.out
                  (repeat' (first | (with_reducible assumption) | (with_reducible exact Below.refl _ _) | (with_reducible refine belowN ?_ _) | (with_reducible refine Below.alloc ?_ ?_ _) | (with_reducible refine Below.drew ?_) | (with_reducible refine Below.setCell ?_ ?_ _) | go_size))
              · have HC := Lib.hid (show nodeCode ns k = 0 by rw [hcode, if_neg hdd])
                have hdb : decide (dpN ns k > 12) = false := by simpa using hdd
                clear hso hcode
                go_wp2_with (go_at_call 21; refine hcall.mono ?_; rintro e w' ⟨rfl, rfl⟩)
                all_goals
                  go_round
                  case rel => exact ⟨k + 1, by omega, by go_num, code_step HZ.out HC.out⟩
                  case measure => simp [intOf]; omega
            · obtain ⟨m, rfl⟩ : ∃ m', m = m' + 1 := ⟨m - 1, by omega⟩
              have hlm : m < (ch ns k).length := by omega
              have hmm : ((m + 1 : Nat) : Int) - 1 = m := by omega
              obtain ⟨b2, o2, rfl, _, hcc⟩ := HN.out.at_ hlm
              have HT := Lib.hid (take_rev hlm)
              have hmi : (m : Int) < (ch ns k).length := by omega
              clear hm0
              by_cases hbad : st = 0 ∨ ix (ch ns k) m ≠ st - 1
              · have HS := Lib.hid (show startOf (tabS ns k) (ch ns k) = none by rw [HW.out, HT.out, wb, if_pos hbad])
                have HC := Lib.hid (show nodeCode ns k = 5 by rw [code_none CB.out HS.out])
                by_cases hneg : ix (ch ns k) m < 0
                · have hnb : decide (ix (ch ns k) m < 0) = true := by simpa using hneg
                  clear hbad
                  go_wp2_with (go_at_call 17; refine (at_any _ _ _).mono ?_)
                  first | (rintro e W2 rfl hB2) | (rintro e W2 ⟨rfl, hB2⟩)
                  have HF2 := Lib.hid (HF0.out.below hB2)
                  have HB2 := Lib.hid (HB0.out.trans (hB2.mono HB0.out.size))
                  have hz2 := hB2.size
                  clear hB2
                  have t0 := HF2.out.two.fst
                  have t1 := HF2.out.two.snd
                  have tf0 := HF2.out.two.ffst
                  have tf1 := HF2.out.two.fsnd
                  have tl := HF2.out.lt
                  go_wp2
                  refine post_fault (g := w.heap.size) (x := .int .i64 5) (y := .int .i64 k) Try.results9 rfl ?_ ?_
                  · have hT := HF2.out.two
                    (repeat' (first | (with_reducible assumption) | (with_reducible exact two_new _ _ _ _) | (with_reducible exact (two_new _ _ _ _).pair) | (with_reducible exact Two.pair ‹_›) | (with_reducible refine Pair.set ?_ _ _) | (with_reducible refine Two.alloc ?_ _) | (with_reducible refine Pair.alloc ?_ _) | (with_reducible refine two1 ?_) | (with_reducible refine twoN ?_ _) | (with_reducible refine Pair.drew ?_) | (with_reducible refine Pair.drewN ?_ _) | (with_reducible refine Two.far ?_ ?_ _) | (with_reducible refine Pair.far ?_ ?_ _) | (simp; omega)))
                  · refine ⟨ret_val (by rw [sx_hit h1n h300 hlt HZ.out (by rw [HC.out]; decide), HC.out]), ?_⟩
                    have hbase := HB2.out
                    (repeat' (first | (with_reducible assumption) | (with_reducible exact Below.refl _ _) | (with_reducible refine belowN ?_ _) | (with_reducible refine Below.alloc ?_ ?_ _) | (with_reducible refine Below.drew ?_) | (with_reducible refine Below.setCell ?_ ?_ _) | go_size))
                · have hnb : decide (ix (ch ns k) m < 0) = false := by simpa using hneg
                  have hne : ((ix (ch ns k) m + 1) != st) = true := by
                    simp only [bne_iff_ne]
                    rcases hbad with h | h <;> omega
                  have hr1 := (IXR.out m hlm).2
                  clear hbad
                  by_cases hmax : ix (ch ns k) m ≤ 9223372036854775806
                  · have hlow : -9223372036854775808 ≤ ix (ch ns k) m := (IXR.out m hlm).1
                    go_wp2_with (go_at_call 17; refine (at_any _ _ _).mono ?_)
                    first | (rintro e W2 rfl hB2) | (rintro e W2 ⟨rfl, hB2⟩)
                    have HF2 := Lib.hid (HF0.out.below hB2)
                    have HB2 := Lib.hid (HB0.out.trans (hB2.mono HB0.out.size))
                    have hz2 := hB2.size
                    clear hB2
                    have t0 := HF2.out.two.fst
                    have t1 := HF2.out.two.snd
                    have tf0 := HF2.out.two.ffst
                    have tf1 := HF2.out.two.fsnd
                    have tl := HF2.out.lt
                    go_wp2
                    refine post_fault (g := w.heap.size) (x := .int .i64 5) (y := .int .i64 k) Try.results9 rfl ?_ ?_
                    · have hT := HF2.out.two
                      (repeat' (first | (with_reducible assumption) | (with_reducible exact two_new _ _ _ _) | (with_reducible exact (two_new _ _ _ _).pair) | (with_reducible exact Two.pair ‹_›) | (with_reducible refine Pair.set ?_ _ _) | (with_reducible refine Two.alloc ?_ _) | (with_reducible refine Pair.alloc ?_ _) | (with_reducible refine two1 ?_) | (with_reducible refine twoN ?_ _) | (with_reducible refine Pair.drew ?_) | (with_reducible refine Pair.drewN ?_ _) | (with_reducible refine Two.far ?_ ?_ _) | (with_reducible refine Pair.far ?_ ?_ _) | (simp; omega)))
                    · refine ⟨ret_val (by rw [sx_hit h1n h300 hlt HZ.out (by rw [HC.out]; decide), HC.out]), ?_⟩
                      have hbase := HB2.out
                      (repeat' (first | (with_reducible assumption) | (with_reducible exact Below.refl _ _) | (with_reducible refine belowN ?_ _) | (with_reducible refine Below.alloc ?_ ?_ _) | (with_reducible refine Below.drew ?_) | (with_reducible refine Below.setCell ?_ ?_ _) | go_size))
                  · have hx : ix (ch ns k) m = 9223372036854775807 := by omega
                    rw [hx] at hcc hnb hne
                    have hwr : (IntKind.i64.wrap (9223372036854775807 + 1) != st) = true := by
                      have e : IntKind.i64.wrap (9223372036854775807 + 1) = -9223372036854775808 := by decide
                      rw [e]; simp; omega
                    have e2 : wrap64 (9223372036854775807 + 1) = -9223372036854775808 := by decide +kernel
                    have e3 : wrap64 9223372036854775808 = -9223372036854775808 := by decide +kernel
                    have hwr4 : ((-9223372036854775808 : Int) != st) = true := by simp; omega
                    clear hx hr1 hmax hneg hne
                    go_wp2_with (go_at_call 17; refine (at_any _ _ _).mono ?_)
                    first | (rintro e W2 rfl hB2) | (rintro e W2 ⟨rfl, hB2⟩)
                    have HF2 := Lib.hid (HF0.out.below hB2)
                    have HB2 := Lib.hid (HB0.out.trans (hB2.mono HB0.out.size))
                    have hz2 := hB2.size
                    clear hB2
                    have t0 := HF2.out.two.fst
                    have t1 := HF2.out.two.snd
                    have tf0 := HF2.out.two.ffst
                    have tf1 := HF2.out.two.fsnd
                    have tl := HF2.out.lt
                    go_wp2
                    refine post_fault (g := w.heap.size) (x := .int .i64 5) (y := .int .i64 k) Try.results9 rfl ?_ ?_
                    · have hT := HF2.out.two
                      (repeat' (first | (with_reducible assumption) | (with_reducible exact two_new _ _ _ _) | (with_reducible exact (two_new _ _ _ _).pair) | (with_reducible exact Two.pair ‹_›) | (with_reducible refine Pair.set ?_ _ _) | (with_reducible refine Two.alloc ?_ _) | (with_reducible refine Pair.alloc ?_ _) | (with_reducible refine two1 ?_) | (with_reducible refine twoN ?_ _) | (with_reducible refine Pair.drew ?_) | (with_reducible refine Pair.drewN ?_ _) | (with_reducible refine Two.far ?_ ?_ _) | (with_reducible refine Pair.far ?_ ?_ _) | (simp; omega)))
                    · refine ⟨ret_val (by rw [sx_hit h1n h300 hlt HZ.out (by rw [HC.out]; decide), HC.out]), ?_⟩
                      have hbase := HB2.out
                      (repeat' (first | (with_reducible assumption) | (with_reducible exact Below.refl _ _) | (with_reducible refine belowN ?_ _) | (with_reducible refine Below.alloc ?_ ?_ _) | (with_reducible refine Below.drew ?_) | (with_reducible refine Below.setCell ?_ ?_ _) | go_size))
              · have hc1 : ix (ch ns k) m = st - 1 := Classical.byContradiction (fun e => hbad (.inr e))
                have hs1 : st ≠ 0 := fun e => hbad (.inl e)
                obtain ⟨q, hq⟩ : ∃ q : Nat, st = (q : Int) + 1 := ⟨(st - 1).toNat, by omega⟩
                have hqc : ix (ch ns k) m = (q : Int) := by omega
                have hqt : (st - 1).toNat = q := by omega
                have hsz := size_any _ c ns k W0 HE.out (by omega) hn HZ.out k q (by omega) (by omega)
                have HR := Lib.hid (show startOf (tabS ns k) (ch ns k) = wb (tabS ns k) (stN ns q) ((ch ns k).take m).reverse by
                  rw [HW.out, HT.out, wb, if_neg hbad, hqt, tabS_lt ns k q (by omega)]
                  rfl)
                have hsr := starts_tab ns (q + 1) q (by rw [tabS_len]; omega)
                have hsr1 : 0 ≤ stN ns q := hsr.1
                have hsr2 : stN ns q ≤ q := hsr.2
                rw [hqc] at hcc
                have hnb : decide ((q : Int) < 0) = false := decide_eq_false (by omega)
                have hne : (((q : Int) + 1) != (q : Int) + 1) = false := by simp
                subst hq
                clear hbad hc1 hs1 hqc hqt hsr
                go_wp2_with (go_at_call 20; refine hsz.mono ?_; rintro e w' ⟨rfl, rfl⟩)
                go_round
                case rel => exact ⟨stN ns q, m, by congr 1; omega, by simp, by omega, hsr1, by omega, HR.out⟩
                case measure => simp [intOf]
        · have hl := toList_not h0
          have hl2 : (!(sy ns k).toList.isEmpty) = true := by rw [hl]; rfl
          cases hsy : symbolB (sy ns k)
          · have HC := Lib.hid (show nodeCode ns k = 12 by unfold nodeCode; rw [if_pos ⟨by omega, hsy⟩])
            go_wp2_with (first | (go_at_call 19; refine (symbol_any _ hsl _).mono ?_; rintro e w' ⟨rfl, rfl⟩) | (go_at_call 17; refine (at_any _ _ _).mono ?_))
            first | (rintro e W2 rfl hB2) | (rintro e W2 ⟨rfl, hB2⟩)
            have HF2 := Lib.hid (HF0.out.below hB2)
            have HB2 := Lib.hid (HB0.out.trans (hB2.mono HB0.out.size))
            have hz2 := hB2.size
            clear hB2
            have t0 := HF2.out.two.fst
            have t1 := HF2.out.two.snd
            have tf0 := HF2.out.two.ffst
            have tf1 := HF2.out.two.fsnd
            have tl := HF2.out.lt
            go_wp2
            refine post_fault (g := w.heap.size) (x := .int .i64 12) (y := .int .i64 k) Try.results9 rfl ?_ ?_
            · have hT := HF2.out.two
              (repeat' (first | (with_reducible assumption) | (with_reducible exact two_new _ _ _ _) | (with_reducible exact (two_new _ _ _ _).pair) | (with_reducible exact Two.pair ‹_›) | (with_reducible refine Pair.set ?_ _ _) | (with_reducible refine Two.alloc ?_ _) | (with_reducible refine Pair.alloc ?_ _) | (with_reducible refine two1 ?_) | (with_reducible refine twoN ?_ _) | (with_reducible refine Pair.drew ?_) | (with_reducible refine Pair.drewN ?_ _) | (with_reducible refine Two.far ?_ ?_ _) | (with_reducible refine Pair.far ?_ ?_ _) | (simp; omega)))
            · refine ⟨ret_val (by rw [sx_hit h1n h300 hlt HZ.out (by rw [HC.out]; decide), HC.out]), ?_⟩
              have hbase := HB2.out
              (repeat' (first | (with_reducible assumption) | (with_reducible exact Below.refl _ _) | (with_reducible refine belowN ?_ _) | (with_reducible refine Below.alloc ?_ ?_ _) | (with_reducible refine Below.drew ?_) | (with_reducible refine Below.setCell ?_ ?_ _) | go_size))
          · rcases Nat.eq_zero_or_pos (ch ns k).length with hn0 | hn0
            · have CB := Lib.hid (show (sy ns k).size ≠ 0 → symbolB (sy ns k) = true ∧ (ch ns k).length = 0 from fun _ => ⟨hsy, hn0⟩)
              have hd0 : decide (((ch ns k).length : Int) > 0) = false := decide_eq_false (by omega)
              have hd1 : decide (0 < ((ch ns k).length : Int)) = false := decide_eq_false (by omega)
              have hd2 : decide (0 < (ch ns k).length) = false := decide_eq_false (by omega)
              have hd3 : ¬ (0 < (ch ns k).length) := by omega
              have HN0 := Lib.hid hn0
              clear hn0
              go_wp2_with (go_at_call 19; refine (symbol_any _ hsl _).mono ?_; rintro e w' ⟨rfl, rfl⟩)
              clear hd0 hd1 hd2 hd3
              have hz0 : (0 : Int) ≤ k := by omega
              clear hl
              go_loop [4, 5] (fun s u => ∃ (st : Int) (m : Nat), s = .int .i64 st ∧ u = .int .i64 ((m : Int) - 1) ∧ m ≤ (ch ns k).length ∧ 0 ≤ st ∧ st ≤ k ∧ startOf (tabS ns k) (ch ns k) = wb (tabS ns k) st ((ch ns k).take m).reverse) (fun _ u => (intOf u + 1).toNat)
              case atStart => exact ⟨_, (ch ns k).length, rfl, rfl, Nat.le_refl _, by omega, by omega, by rw [List.take_length, startOf, tabS_len]⟩
              case round =>
                obtain ⟨st, m, rfl, rfl, hm, hst0, hst1, hw⟩ := hrel
                have HW := Lib.hid hw
                clear hw
                by_cases hm0 : m = 0
                · subst hm0
                  have hg : ((0 : Nat) : Int) - 1 = -1 := by omega
                  have hso : startOf (tabS ns k) (ch ns k) = some st := by rw [HW.out]; rfl
                  have hdk : dpN ns k ≤ 13 := fold_le _ _ _ _ (by omega) (fun x hx => by
                    have h1 := start_mem hso x hx
                    rw [tabD_lt ns k x.toNat (by omega)]
                    have h2 := code_dep (HZ.out x.toNat (by omega))
                    omega)
                  have hcall := depth_any _ c ns (k + 1) W0 HE.out (by omega) hn (fun j hj x hx => by
                    by_cases e : j = k
                    · subst e; exact start_mem hso x hx
                    · exact to_child HZ.out (by omega) j (by omega) x hx) (k + 1) k (by omega) (by omega) (by omega) (fun j hj => code_dep (HZ.out j hj))
                  have hcode : nodeCode ns k = if 12 < dpN ns k then 10 else 0 := code_big CB.out hso
                  have HSO := Lib.hid hso
                  by_cases hdd : 12 < dpN ns k
                  · have HC := Lib.hid (show nodeCode ns k = 10 by rw [hcode, if_pos hdd])
                    have hdb : decide (dpN ns k > 12) = true := by simpa using hdd
                    clear hso hcode
                    go_wp2_with (first | (go_at_call 21; refine hcall.mono ?_; rintro e w' ⟨rfl, rfl⟩) | (go_at_call 17; refine (at_any _ _ _).mono ?_))
                    first | (rintro e W2 rfl hB2) | (rintro e W2 ⟨rfl, hB2⟩)
                    have HF2 := Lib.hid (HF0.out.below hB2)
                    have HB2 := Lib.hid (HB0.out.trans (hB2.mono HB0.out.size))
                    have hz2 := hB2.size
                    clear hB2
                    have t0 := HF2.out.two.fst
                    have t1 := HF2.out.two.snd
                    have tf0 := HF2.out.two.ffst
                    have tf1 := HF2.out.two.fsnd
                    have tl := HF2.out.lt
                    go_wp2
                    refine post_fault (g := w.heap.size) (x := .int .i64 10) (y := .int .i64 k) Try.results9 rfl ?_ ?_
                    · have hT := HF2.out.two
                      (repeat' (first | (with_reducible assumption) | (with_reducible exact two_new _ _ _ _) | (with_reducible exact (two_new _ _ _ _).pair) | (with_reducible exact Two.pair ‹_›) | (with_reducible refine Pair.set ?_ _ _) | (with_reducible refine Two.alloc ?_ _) | (with_reducible refine Pair.alloc ?_ _) | (with_reducible refine two1 ?_) | (with_reducible refine twoN ?_ _) | (with_reducible refine Pair.drew ?_) | (with_reducible refine Pair.drewN ?_ _) | (with_reducible refine Two.far ?_ ?_ _) | (with_reducible refine Pair.far ?_ ?_ _) | (simp; omega)))
                    · refine ⟨ret_val (by rw [sx_hit h1n h300 hlt HZ.out (by rw [HC.out]; decide), HC.out]), ?_⟩
                      have hbase := HB2.out
                      (repeat' (first | (with_reducible assumption) | (with_reducible exact Below.refl _ _) | (with_reducible refine belowN ?_ _) | (with_reducible refine Below.alloc ?_ ?_ _) | (with_reducible refine Below.drew ?_) | (with_reducible refine Below.setCell ?_ ?_ _) | go_size))
                  · have HC := Lib.hid (show nodeCode ns k = 0 by rw [hcode, if_neg hdd])
                    have hdb : decide (dpN ns k > 12) = false := by simpa using hdd
                    clear hso hcode
                    go_wp2_with (go_at_call 21; refine hcall.mono ?_; rintro e w' ⟨rfl, rfl⟩)
                    all_goals
                      go_round
                      case rel => exact ⟨k + 1, by omega, by go_num, code_step HZ.out HC.out⟩
                      case measure => simp [intOf]; omega
                · exfalso
                  have := HN0.out
                  omega
            · have HC := Lib.hid (show nodeCode ns k = 5 by unfold nodeCode; rw [if_neg (by simp [hsy]), if_pos ⟨by omega, by omega⟩])
              have hd0 : decide (((ch ns k).length : Int) > 0) = true := decide_eq_true (by omega)
              go_wp2_with (first | (go_at_call 19; refine (symbol_any _ hsl _).mono ?_; rintro e w' ⟨rfl, rfl⟩) | (go_at_call 17; refine (at_any _ _ _).mono ?_))
              first | (rintro e W2 rfl hB2) | (rintro e W2 ⟨rfl, hB2⟩)
              have HF2 := Lib.hid (HF0.out.below hB2)
              have HB2 := Lib.hid (HB0.out.trans (hB2.mono HB0.out.size))
              have hz2 := hB2.size
              clear hB2
              have t0 := HF2.out.two.fst
              have t1 := HF2.out.two.snd
              have tf0 := HF2.out.two.ffst
              have tf1 := HF2.out.two.fsnd
              have tl := HF2.out.lt
              go_wp2
              refine post_fault (g := w.heap.size) (x := .int .i64 5) (y := .int .i64 k) Try.results9 rfl ?_ ?_
              · have hT := HF2.out.two
                (repeat' (first | (with_reducible assumption) | (with_reducible exact two_new _ _ _ _) | (with_reducible exact (two_new _ _ _ _).pair) | (with_reducible exact Two.pair ‹_›) | (with_reducible refine Pair.set ?_ _ _) | (with_reducible refine Two.alloc ?_ _) | (with_reducible refine Pair.alloc ?_ _) | (with_reducible refine two1 ?_) | (with_reducible refine twoN ?_ _) | (with_reducible refine Pair.drew ?_) | (with_reducible refine Pair.drewN ?_ _) | (with_reducible refine Two.far ?_ ?_ _) | (with_reducible refine Pair.far ?_ ?_ _) | (simp; omega)))
              · refine ⟨ret_val (by rw [sx_hit h1n h300 hlt HZ.out (by rw [HC.out]; decide), HC.out]), ?_⟩
                have hbase := HB2.out
                (repeat' (first | (with_reducible assumption) | (with_reducible exact Below.refl _ _) | (with_reducible refine belowN ?_ _) | (with_reducible refine Below.alloc ?_ ?_ _) | (with_reducible refine Below.drew ?_) | (with_reducible refine Below.setCell ?_ ?_ _) | go_size))
      · obtain rfl : k = ns.length := by omega
        have hge := starts_tab ns (ns.length - 1 + 1) (ns.length - 1) (by rw [tabS_len]; omega)
        have hsz := size_any _ c ns ns.length W0 HE.out (Nat.le_refl _) hn HZ.out ns.length (ns.length - 1) (by omega) (by omega)
        have HM := Lib.hid (sx_miss h1n h300 HZ.out)
        have hroot : ix (tabS ns ns.length) (ns.length - 1) = stN ns (ns.length - 1) := tabS_lt ns ns.length (ns.length - 1) (by omega)
        rw [hroot] at HM
        have hst0 : 0 ≤ stN ns (ns.length - 1) := hge.1
        have hst1 : stN ns (ns.length - 1) ≤ ((ns.length - 1 : Nat) : Int) := hge.2
        generalize stN ns (ns.length - 1) = st at HM hsz hst0 hst1
        have e1 : ((ns.length - 1 : Nat) : Int) = (ns.length : Int) - 1 := by omega
        rw [e1] at hsz hst1
        have e2 : (ns.length : Int) - 1 + 1 - st = (ns.length : Int) - st := by omega
        rw [e2] at hsz
        clear hge hroot e1 e2 hlt
        by_cases hst : st = 0
        · subst hst
          rw [if_neg (by simp)] at HM
          have e3 : (ns.length : Int) - 0 = ns.length := by omega
          rw [e3] at hsz
          have tw := HF0.out.two
          have t0 := HF0.out.two.fst
          have t1 := HF0.out.two.snd
          have tf0 := HF0.out.two.ffst
          have tf1 := HF0.out.two.fsnd
          have tl := HF0.out.lt
          go_wp2_with (go_at_call 20; refine hsz.mono ?_; rintro e w' ⟨rfl, rfl⟩)
          refine post_fault (g := w.heap.size) (x := .int .i64 0) (y := .int .i64 0) Try.results9 rfl ?_ ?_
          · have hT := HF0.out.two
            (repeat' (first | (with_reducible assumption) | (with_reducible exact two_new _ _ _ _) | (with_reducible exact (two_new _ _ _ _).pair) | (with_reducible exact Two.pair ‹_›) | (with_reducible refine Pair.set ?_ _ _) | (with_reducible refine Two.alloc ?_ _) | (with_reducible refine Pair.alloc ?_ _) | (with_reducible refine two1 ?_) | (with_reducible refine twoN ?_ _) | (with_reducible refine Pair.drew ?_) | (with_reducible refine Pair.drewN ?_ _) | (with_reducible refine Two.far ?_ ?_ _) | (with_reducible refine Pair.far ?_ ?_ _) | (simp; omega)))
          · refine ⟨ret_val (by rw [HM.out]), ?_⟩
            have hbase := HB0.out
            (repeat' (first | (with_reducible assumption) | (with_reducible exact Below.refl _ _) | (with_reducible refine belowN ?_ _) | (with_reducible refine Below.alloc ?_ ?_ _) | (with_reducible refine Below.drew ?_) | (with_reducible refine Below.setCell ?_ ?_ _) | go_size))
        · rw [if_pos hst] at HM
          have hsb : (((ns.length : Int) - st) != ns.length) = true := by simp; omega
          go_wp2_with (first | (go_at_call 20; refine hsz.mono ?_; rintro e w' ⟨rfl, rfl⟩) | (go_at_call 17; refine (at_any _ _ _).mono ?_))
          first | (rintro e W2 rfl hB2) | (rintro e W2 ⟨rfl, hB2⟩)
          have HF2 := Lib.hid (HF0.out.below hB2)
          have HB2 := Lib.hid (HB0.out.trans (hB2.mono HB0.out.size))
          have hz2 := hB2.size
          clear hB2
          have t0 := HF2.out.two.fst
          have t1 := HF2.out.two.snd
          have tf0 := HF2.out.two.ffst
          have tf1 := HF2.out.two.fsnd
          have tl := HF2.out.lt
          go_wp2
          refine post_fault (g := w.heap.size) (x := .int .i64 5) (y := .int .i64 (-1)) Try.results9 rfl ?_ ?_
          · have hT := HF2.out.two
            (repeat' (first | (with_reducible assumption) | (with_reducible exact two_new _ _ _ _) | (with_reducible exact (two_new _ _ _ _).pair) | (with_reducible exact Two.pair ‹_›) | (with_reducible refine Pair.set ?_ _ _) | (with_reducible refine Two.alloc ?_ _) | (with_reducible refine Pair.alloc ?_ _) | (with_reducible refine two1 ?_) | (with_reducible refine twoN ?_ _) | (with_reducible refine Pair.drew ?_) | (with_reducible refine Pair.drewN ?_ _) | (with_reducible refine Two.far ?_ ?_ _) | (with_reducible refine Pair.far ?_ ?_ _) | (simp; omega)))
          · refine ⟨ret_val (by rw [HM.out]), ?_⟩
            have hbase := HB2.out
            (repeat' (first | (with_reducible assumption) | (with_reducible exact Below.refl _ _) | (with_reducible refine belowN ?_ _) | (with_reducible refine Below.alloc ?_ ?_ _) | (with_reducible refine Below.drew ?_) | (with_reducible refine Below.setCell ?_ ?_ _) | go_size))

end Go.Proofs.Ytbdollafpjejiaa

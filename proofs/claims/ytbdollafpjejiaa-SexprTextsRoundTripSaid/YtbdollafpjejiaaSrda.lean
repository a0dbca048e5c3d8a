/- Read. -/
import Derived.Test.YtbdollafpjejiaaSrde
namespace Go.Proofs.Ytbdollafpjejiaa
open Go.RowKit Go.Shelf
set_option linter.unusedSimpArgs false
set_option linter.unusedVariables false
set_option maxRecDepth 100000

/-- What Read gives: the nodes, the fault. -/
def rdAll (s : ByteArray) : List Nd × (Int × Int) :=
  bif decide (4096 < s.size) then ([], (2, -1)) else
    match rdExpr s 12 0 [] with
    | .error e => ([], e)
    | .ok (a, ns) => bif decide (nx s a < s.size) then ([], (1, nx s a)) else bif decide (300 < ns.length) then ([], (10, -1)) else (ns, (0, 0))
def ReadPost (s : ByteArray) (w : World) (e : Ending) (w' : World) : Prop :=
  ∃ A c, e = .returned (.tuple #[.slice A (rdAll s).1.length c, faultV (rdAll s).2]) ∧ Nodes w' w'.heap.size A (rdAll s).1 ∧ (rdAll s).1.length ≤ c ∧ c ≤ maxLen ∧ Below w.heap.size w w'
theorem nodes_nil (w : World) (B : Nat) (A : Option Addr) : Nodes w B A [] := ⟨fun k => ⟨Nat.zero_le _, Nat.zero_le _⟩, fun h => by simp at h⟩
theorem ncells_at : ∀ (ns : List Nd) (kv : List Value) (k : Nat), ns.length = kv.length → k < ns.length → (ncells ns kv)[2 * k]? = some (.string (sy ns k)) ∧ (ncells ns kv)[2 * k + 1]? = some (kd kv k)
  | [], _, k, _, h => by simp at h
  | n :: ns, [], k, h, _ => by simp at h
  | n :: ns, v :: vs, 0, _, _ => ⟨rfl, rfl⟩
  | n :: ns, v :: vs, k + 1, hl, h => by
    have := ncells_at ns vs k (by simpa using hl) (by simpa using h)
    exact this
theorem sy_ge {ns : List Nd} {k : Nat} (h : ns.length ≤ k) : sy ns k = ByteArray.empty := by simp [sy, List.getD, List.getElem?_eq_none h]
theorem ch_ge {ns : List Nd} {k : Nat} (h : ns.length ≤ k) : ch ns k = [] := by simp [ch, List.getD, List.getElem?_eq_none h]
theorem nodes_own {w : World} {B : Nat} {v : Value} {ns : List Nd} {X : Nat → Prop} (h : NOwn w B v ns X) : ∃ A c, v = .slice A ns.length c ∧ Nodes w w.heap.size A ns ∧ ns.length ≤ c ∧ c ≤ maxLen := by
  obtain ⟨kv, hl, ho, hk, hm⟩ := h
  have hkid : ∀ k, k < ns.length → ∃ Ak ck, kd kv k = .slice Ak (ch ns k).length ck ∧ Nums w w.heap.size Ak (ch ns k) ∧ (ch ns k).length ≤ ck ∧ ck ≤ maxLen := by
    intro k hkl
    have h1 := (hk k hkl).1
    rcases h1.2 with ⟨h2, h0⟩ | ⟨q, cap, cur, h2, hb, hq, hn, hc, _, htake⟩
    · exact ⟨none, 0, by rw [h2, h0], fun h => by omega, by omega, by simp [maxLen]⟩
    · refine ⟨_, cap, h2, fun h0 => ⟨q, 0, rfl, (Array.getElem?_eq_some_iff.1 hq).1, fun j hj => ?_⟩, hn, hc⟩
      have h3 := h1.cells (g := q) (by rw [h2]; rfl) j (.int .i64 (ix (ch ns k) j)) (by
        rw [List.getElem?_map, List.getElem?_eq_getElem hj]
        simp [ix, List.getD, hj])
      simpa [Addr.add_lit] using h3
  have hsz : ∀ k, (sy ns k).size ≤ maxLen ∧ (ch ns k).length ≤ maxLen := by
    intro k
    rcases Nat.lt_or_ge k ns.length with hkl | hkl
    · refine ⟨?_, ?_⟩
      · refine hm _ ?_ |> fun h => (show (sy ns k).size ≤ maxLen from h)
        simp [List.getD, List.getElem?_eq_getElem hkl]
      · obtain ⟨Ak, ck, _, _, h1, h2⟩ := hkid k hkl
        omega
    · rw [sy_ge hkl, ch_ge hkl]
      exact ⟨Nat.zero_le _, Nat.zero_le _⟩
  rcases ho.2 with ⟨rfl, h0⟩ | ⟨q, cap, cur, rfl, hb, hq, hn, hc, _, htake⟩
  · have : ns = [] := List.eq_nil_of_length_eq_zero h0
    subst this
    exact ⟨none, 0, rfl, nodes_nil _ _ _, Nat.le_refl _, by simp [maxLen]⟩
  · refine ⟨_, cap, rfl, ⟨hsz, fun h0 => ⟨q, 0, rfl, (Array.getElem?_eq_some_iff.1 hq).1, fun k hkl => ?_⟩⟩, hn, hc⟩
    obtain ⟨e1, e2⟩ := ncells_at ns kv k hl.symm hkl
    obtain ⟨Ak, ck, h1, h2, h3, h4⟩ := hkid k hkl
    have c1 := ho.cells (g := q) rfl _ _ e1
    have c2 := ho.cells (g := q) rfl _ _ e2
    rw [Addr.add_lit] at c1 c2
    refine ⟨by rw [← c1]; congr 2; omega, Ak, ck, by rw [← h1, ← c2]; congr 2; omega, h2, h3, h4⟩

set_option maxHeartbeats 1000000 in
theorem read_long (s : ByteArray) (hsm : s.size ≤ maxLen) (w : World) (h : 4096 < s.size) : Calls Try.prog 13 #[.string s] w (ReadPost s w) := by
  have HE := Lib.hid (show rdAll s = ([], (2, -1)) by unfold rdAll; rw [decide_eq_true h]; rfl)
  have hd : decide ((s.size : Int) > 4096) = true := by simp; omega
  unfold maxLen at hsm
  go_enter Try.func13, Try.ntmps13
  go_wp2
  refine post_with_fault (g := w.heap.size) (x := .int .i64 2) (y := .int .i64 (-1)) Try.results13 rfl ?_ ?_
  · (repeat' (first | (with_reducible assumption) | (with_reducible exact two_new _ _ _ _) | (with_reducible exact (two_new _ _ _ _).pair) | (with_reducible exact Two.pair ‹_›) | (with_reducible refine Pair.set ?_ _ _) | (with_reducible refine Two.alloc ?_ _) | (with_reducible refine Pair.alloc ?_ _) | (with_reducible refine two1 ?_) | (with_reducible refine twoN ?_ _) | (with_reducible refine Pair.drew ?_) | (with_reducible refine Pair.drewN ?_ _) | (with_reducible refine Two.far ?_ ?_ _) | (with_reducible refine Pair.far ?_ ?_ _) | (simp; omega)))
  · refine ⟨none, 0, ?_, ?_, ?_, ?_, ?_⟩
    · rw [HE.out]; rfl
    · rw [HE.out]; exact nodes_nil _ _ _
    · rw [HE.out]; exact Nat.le_refl _
    · simp [maxLen]
    · (repeat' (first | (with_reducible assumption) | (with_reducible exact Below.refl _ _) | (with_reducible refine belowN ?_ _) | (with_reducible refine Below.alloc ?_ ?_ _) | (with_reducible refine Below.drew ?_) | (with_reducible refine Below.setCell ?_ ?_ _) | go_size))

set_option maxHeartbeats 1000000 in
theorem read_short (s : ByteArray) (w : World) (h : ¬ 4096 < s.size) : Calls Try.prog 13 #[.string s] w (ReadPost s w) := by
  have hs : s.size ≤ 4096 := by omega
  have hall : rdAll s = match rdExpr s 12 0 [] with
    | .error e => ([], e)
    | .ok (a, ns) => bif decide (nx s a < s.size) then ([], (1, nx s a)) else bif decide (300 < ns.length) then ([], (10, -1)) else (ns, (0, 0)) := by
    unfold rdAll; rw [decide_eq_false h]; rfl
  have hd : decide ((s.size : Int) > 4096) = false := by simp; omega
  have hexpr := exprR_any w.heap.size (w.heap.size + 1) s hs 12 0 rfl (Int.le_refl _) 0 []  (fun _ => False)
  have herr := rdExpr_err s 12 0 []
  have hadv := rdExpr_adv s 12 0 [] (Nat.zero_le _)
  have HX := Lib.hid hexpr
  clear hexpr h
  cases hr : rdExpr s 12 0 [] with
  | error f =>
    obtain ⟨c, i⟩ := f
    have hc := herr c i (Nat.zero_le _) hr
    rw [hr] at hall HX
    have HA := Lib.hid (show rdAll s = ([], (c, i)) from hall)
    clear hall herr hadv hr
    go_enter Try.func13, Try.ntmps13
    go_wp2_with fail
    generalize hW0 : World.alloc (World.alloc w _) _ = W0
    have hz0 : W0.heap.size = w.heap.size + 1 + 1 := by rw [← hW0]; simp
    have hB0 : Below w.heap.size w W0 := by rw [← hW0]; exact ((Below.refl _ _).alloc (Nat.le_refl _) _).alloc (by simp) _
    have hR0 : RdB W0 (w.heap.size + 1) s 0 (.slice none 0 0) := by
      rw [← hW0]
      have := heap_alloc_new (w.alloc (.cells #[.int .i64 0, .int .i64 0] 25)) (.cells #[.string s, .int .i64 0, .slice none 0 0] RT)
      simpa [RdB] using this
    have hF0 : FB W0 w.heap.size (.int .i64 0) (.int .i64 0) := by
      rw [← hW0]
      exact (fb_new w _ _).below ((Below.refl _ _).alloc (Nat.le_refl _) _)
    have hN0 : NOwn W0 w.heap.size (.slice none 0 0) [] (fun _ => False) := ⟨[], rfl, World.ownsRow_nil _ _ _ _, fun k hk => by simp at hk, fun n hn => by simp at hn⟩
    have HB0 := Lib.hid hB0
    have HF0 := Lib.hid hF0
    have hcall := HX.out W0 (fun _ h => h.elim) ⟨by omega, Nat.le_refl _, Nat.zero_le _, _, hR0, hN0⟩
    have hzz := Nat.le_of_eq hz0.symm
    clear hW0 hz0 hB0 hF0 hR0 hN0
    go_wp2_with (go_at_call 28; refine hcall.mono ?_)
    rintro e W1 ⟨hF1, rfl⟩
    have HFB1 := Lib.hid (HF0.out.fr hF1.others (by omega))
    have HB1 := Lib.hid (HB0.out.trans hF1.below)
    have hz1 := hF1.below.size
    clear hF1 hcall
    have hc0 : ¬ c = 0 := hc
    have hc1 : (c == 0) = false := by simpa using hc
    have t0 := HFB1.out.two.fst
    have t1 := HFB1.out.two.snd
    have tf0 := HFB1.out.two.ffst
    have tf1 := HFB1.out.two.fsnd
    have tl := HFB1.out.lt
    go_wp2_with fail
    go_region
    all_goals
      go_wp2
      refine post_with_fault (g := w.heap.size) (x := .int .i64 c) (y := .int .i64 i) Try.results13 rfl ?_ ?_
      · have hT := HFB1.out.two
        (repeat' (first | (with_reducible assumption) | (with_reducible exact two_new _ _ _ _) | (with_reducible exact (two_new _ _ _ _).pair) | (with_reducible exact Two.pair ‹_›) | (with_reducible refine Pair.set ?_ _ _) | (with_reducible refine Two.alloc ?_ _) | (with_reducible refine Pair.alloc ?_ _) | (with_reducible refine two1 ?_) | (with_reducible refine twoN ?_ _) | (with_reducible refine Pair.drew ?_) | (with_reducible refine Pair.drewN ?_ _) | (with_reducible refine Two.far ?_ ?_ _) | (with_reducible refine Pair.far ?_ ?_ _) | (simp; omega)))
      · refine ⟨none, 0, ?_, ?_, ?_, ?_, ?_⟩
        · rw [HA.out]; rfl
        · rw [HA.out]; exact nodes_nil _ _ _
        · rw [HA.out]; exact Nat.le_refl _
        · simp [maxLen]
        · have hbase := HB1.out
          (repeat' (first | (with_reducible assumption) | (with_reducible exact Below.refl _ _) | (with_reducible refine belowN ?_ _) | (with_reducible refine Below.alloc ?_ ?_ _) | (with_reducible refine Below.drew ?_) | (with_reducible refine Below.setCell ?_ ?_ _) | go_size))
  | ok pr =>
    obtain ⟨a, ns⟩ := pr
    have ha := hadv a ns hr
    rw [hr] at hall HX
    have hall2 : rdAll s = (bif decide (nx s a < s.size) then (([] : List Nd), ((1 : Int), (nx s a : Int))) else bif decide (300 < ns.length) then (([] : List Nd), ((10 : Int), (-1 : Int))) else (ns, ((0 : Int), (0 : Int)))) := hall
    have HA := Lib.hid hall2
    clear hall hall2 herr hadv hr
    have hle := nx_le ha.2.1
    go_enter Try.func13, Try.ntmps13
    go_wp2_with fail
    generalize hW0 : World.alloc (World.alloc w _) _ = W0
    have hz0 : W0.heap.size = w.heap.size + 1 + 1 := by rw [← hW0]; simp
    have hB0 : Below w.heap.size w W0 := by rw [← hW0]; exact ((Below.refl _ _).alloc (Nat.le_refl _) _).alloc (by simp) _
    have hR0 : RdB W0 (w.heap.size + 1) s 0 (.slice none 0 0) := by
      rw [← hW0]
      have := heap_alloc_new (w.alloc (.cells #[.int .i64 0, .int .i64 0] 25)) (.cells #[.string s, .int .i64 0, .slice none 0 0] RT)
      simpa [RdB] using this
    have hF0 : FB W0 w.heap.size (.int .i64 0) (.int .i64 0) := by
      rw [← hW0]
      exact (fb_new w _ _).below ((Below.refl _ _).alloc (Nat.le_refl _) _)
    have hN0 : NOwn W0 w.heap.size (.slice none 0 0) [] (fun _ => False) := ⟨[], rfl, World.ownsRow_nil _ _ _ _, fun k hk => by simp at hk, fun n hn => by simp at hn⟩
    have HB0 := Lib.hid hB0
    have HF0 := Lib.hid hF0
    have hcall := HX.out W0 (fun _ h => h.elim) ⟨by omega, Nat.le_refl _, Nat.zero_le _, _, hR0, hN0⟩
    have hzz := Nat.le_of_eq hz0.symm
    clear hW0 hz0 hB0 hF0 hR0 hN0
    go_wp2_with (go_at_call 28; refine hcall.mono ?_)
    rintro e W1 ⟨hF1, rfl, hr1⟩
    obtain ⟨hlo1, hnl1, hal1, v1, hR1, hN1⟩ := hr1
    have HFB1 := Lib.hid (HF0.out.fr hF1.others (by omega))
    have HB1 := Lib.hid (HB0.out.trans hF1.below)
    have HR1 := Lib.hid hR1
    have HN1 := Lib.hid hN1
    have hz1 := hF1.below.size
    clear hF1 hcall hR1 hN1
    have tl := HFB1.out.lt
    have hBb : Below W1.heap.size W1 (W1.alloc (.cells #[.int .i64 0, .int .i64 0] 25)) := (Below.refl _ _).alloc (Nat.le_refl _) _
    have HBb := Lib.hid hBb
    clear hBb
    go_wp2_with (go_at_call 29; refine (next_any (w.heap.size + 1) s a v1 _ (by unfold maxLen; omega) hal1 (HR1.out.below HBb.out)).mono ?_)
    rintro e W2 ⟨rfl, hR2, hO2⟩
    have HN2 := Lib.hid ((HN1.out.below HBb.out).only hO2 (HR1.out.below HBb.out))
    have HR2 := Lib.hid hR2
    have HFB2 := Lib.hid ((HFB1.out.below HBb.out).fr hO2.others (by omega))
    have HB2 := Lib.hid ((HB1.out.trans (HBb.out.mono (by omega))).trans (hO2.below (Nat.le_succ _)))
    have hz2 := HB2.out.size
    clear hO2 hR2
    have c1 := HR2.out.c1
    have c2 := HR2.out.c2
    have t0 := HFB2.out.two.fst
    have t1 := HFB2.out.two.snd
    have tf0 := HFB2.out.two.ffst
    have tf1 := HFB2.out.two.fsnd
    have tl2 := HFB2.out.lt
    obtain ⟨A, cc, rfl, hnodes, hcc, hcm⟩ := nodes_own HN2.out
    have HND := Lib.hid hnodes
    clear hnodes
    by_cases hin : nx s a < s.size
    · have hA2 := HA.out
      rw [decide_eq_true hin] at hA2
      have HA := Lib.hid (show rdAll s = (([] : List Nd), ((1 : Int), (nx s a : Int))) from hA2)
      clear hA2
      have hd2 : decide ((nx s a : Int) < s.size) = true := by simp; omega
      go_wp2_with (go_at_call 30; refine (fault_any (w.heap.size + 1) s (nx s a) _ _ _ HR2.out).mono ?_)
      rintro e W3 ⟨rfl, hB3⟩
      have HFB3 := Lib.hid (HFB2.out.below hB3)
      have HB3 := Lib.hid (HB2.out.trans (hB3.mono (by omega)))
      clear hB3 c1 c2 t0 t1 tf0 tf1
      have t0 := HFB3.out.two.fst
      have t1 := HFB3.out.two.snd
      have tf0 := HFB3.out.two.ffst
      have tf1 := HFB3.out.two.fsnd
      go_wp2
      refine post_with_fault (g := w.heap.size) (x := .int .i64 1) (y := .int .i64 (nx s a)) Try.results13 rfl ?_ ?_
      · have hT := HFB3.out.two
        (repeat' (first | (with_reducible assumption) | (with_reducible exact two_new _ _ _ _) | (with_reducible exact (two_new _ _ _ _).pair) | (with_reducible exact Two.pair ‹_›) | (with_reducible refine Pair.set ?_ _ _) | (with_reducible refine Two.alloc ?_ _) | (with_reducible refine Pair.alloc ?_ _) | (with_reducible refine two1 ?_) | (with_reducible refine twoN ?_ _) | (with_reducible refine Pair.drew ?_) | (with_reducible refine Pair.drewN ?_ _) | (with_reducible refine Two.far ?_ ?_ _) | (with_reducible refine Pair.far ?_ ?_ _) | (simp; omega)))
      · refine ⟨none, 0, ?_, ?_, ?_, ?_, ?_⟩
        · rw [HA.out]; rfl
        · rw [HA.out]; exact nodes_nil _ _ _
        · rw [HA.out]; exact Nat.le_refl _
        · simp [maxLen]
        · have hbase := HB3.out
          (repeat' (first | (with_reducible assumption) | (with_reducible exact Below.refl _ _) | (with_reducible refine belowN ?_ _) | (with_reducible refine Below.alloc ?_ ?_ _) | (with_reducible refine Below.drew ?_) | (with_reducible refine Below.setCell ?_ ?_ _) | go_size))
    · have hd2 : decide ((nx s a : Int) < s.size) = false := by simp; omega
      by_cases h300 : 300 < ns.length
      · have hA2 := HA.out
        rw [decide_eq_false hin, decide_eq_true h300] at hA2
        have HA := Lib.hid (show rdAll s = (([] : List Nd), ((10 : Int), (-1 : Int))) from hA2)
        clear hA2
        have hd3 : decide ((ns.length : Int) > 300) = true := by simp; omega
        go_wp2
        refine post_with_fault (g := w.heap.size) (x := .int .i64 10) (y := .int .i64 (-1)) Try.results13 rfl ?_ ?_
        · have hT := HFB2.out.two
          (repeat' (first | (with_reducible assumption) | (with_reducible exact two_new _ _ _ _) | (with_reducible exact (two_new _ _ _ _).pair) | (with_reducible exact Two.pair ‹_›) | (with_reducible refine Pair.set ?_ _ _) | (with_reducible refine Two.alloc ?_ _) | (with_reducible refine Pair.alloc ?_ _) | (with_reducible refine two1 ?_) | (with_reducible refine twoN ?_ _) | (with_reducible refine Pair.drew ?_) | (with_reducible refine Pair.drewN ?_ _) | (with_reducible refine Two.far ?_ ?_ _) | (with_reducible refine Pair.far ?_ ?_ _) | (simp; omega)))
        · refine ⟨none, 0, ?_, ?_, ?_, ?_, ?_⟩
          · rw [HA.out]; rfl
          · rw [HA.out]; exact nodes_nil _ _ _
          · rw [HA.out]; exact Nat.le_refl _
          · simp [maxLen]
          · have hbase := HB2.out
            (repeat' (first | (with_reducible assumption) | (with_reducible exact Below.refl _ _) | (with_reducible refine belowN ?_ _) | (with_reducible refine Below.alloc ?_ ?_ _) | (with_reducible refine Below.drew ?_) | (with_reducible refine Below.setCell ?_ ?_ _) | go_size))
      · have hA2 := HA.out
        rw [decide_eq_false hin, decide_eq_false h300] at hA2
        have HA := Lib.hid (show rdAll s = (ns, (0, 0)) from hA2)
        clear hA2
        have hd3 : decide ((ns.length : Int) > 300) = false := by simp; omega
        go_wp2
        refine post_with_fault (g := w.heap.size) (x := .int .i64 0) (y := .int .i64 0) Try.results13 rfl ?_ ?_
        · have hT := HFB2.out.two
          (repeat' (first | (with_reducible assumption) | (with_reducible exact two_new _ _ _ _) | (with_reducible exact (two_new _ _ _ _).pair) | (with_reducible exact Two.pair ‹_›) | (with_reducible refine Pair.set ?_ _ _) | (with_reducible refine Two.alloc ?_ _) | (with_reducible refine Pair.alloc ?_ _) | (with_reducible refine two1 ?_) | (with_reducible refine twoN ?_ _) | (with_reducible refine Pair.drew ?_) | (with_reducible refine Pair.drewN ?_ _) | (with_reducible refine Two.far ?_ ?_ _) | (with_reducible refine Pair.far ?_ ?_ _) | (simp; omega)))
        · refine ⟨A, cc, ?_, ?_, ?_, ?_, ?_⟩
          · rw [HA.out]; rfl
          · rw [HA.out]
            obtain ⟨k1, k2, k3, v3, k4, k5⟩ : Rdr W2 w.heap.size (w.heap.size + 1) s (nx s a) ns (fun _ => False) := ⟨Nat.le_succ _, by have := nx_ge s a; omega, hle, _, HR2.out, HN2.out⟩
            obtain ⟨A', c', e1, e2, _, _⟩ := nodes_own ((HN2.out.setCell (p := ⟨w.heap.size, 0, none⟩) HFB2.out (by decide) (by decide) (.int .i64 0)).setCell (p := ⟨w.heap.size, 1, none⟩) (HFB2.out.set0 _) (by decide) (by decide) (.int .i64 0))
            injection e1 with e1 _ _
            subst e1
            exact e2
          · rw [HA.out]; exact hcc
          · exact hcm
          · have hbase := HB2.out
            (repeat' (first | (with_reducible assumption) | (with_reducible exact Below.refl _ _) | (with_reducible refine belowN ?_ _) | (with_reducible refine Below.alloc ?_ ?_ _) | (with_reducible refine Below.drew ?_) | (with_reducible refine Below.setCell ?_ ?_ _) | go_size))
theorem read_any (s : ByteArray) (hsm : s.size ≤ maxLen) (w : World) : Calls Try.prog 13 #[.string s] w (ReadPost s w) := by
  by_cases h : 4096 < s.size
  · exact read_long s hsm w h
  · exact read_short s w h
end Go.Proofs.Ytbdollafpjejiaa

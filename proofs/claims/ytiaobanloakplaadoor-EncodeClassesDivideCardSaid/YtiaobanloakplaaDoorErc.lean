/- The reference of package encode: CoverOf. -/
import Derived.Test.YtiaobanloakplaaDoorErg
import Derived.Deep.CutRange
namespace Go.Proofs.YtiaobanloakplaaDoor
open Go.RowKit
set_option linter.unusedSimpArgs false
set_option linter.unusedVariables false
set_option maxRecDepth 100000

/-- A growing row of lists, and one of numbers. -/
structure GL2 (W : World) (base : Nat) (v0 : Value) (xs : List Value) (ls : List (List Int)) (v1 : Value) (fr : List Int) : Prop where
  o0 : W.ownsRow base 22 1 v0 ls.length xs
  o1 : W.ownsRow base 3 1 v1 fr.length (fr.map (Value.int .i64))
  cont : On (Rx2 base W.heap.size v0 v1) W (LsP xs ls)
section
variable {W W2 : World} {base : Nat} {v0 v1 v2 : Value} {xs : List Value} {ls : List (List Int)} {fr fr2 : List Int}
theorem GL2.nil (W : World) (base : Nat) : GL2 W base (.slice none 0 0) [] [] (.slice none 0 0) [] := ⟨World.ownsRow_nil _ _ _ _, World.ownsRow_nil _ _ _ _, On.always fun W k h => by simp at h⟩
theorem GL2.to (h : GL2 W base v0 xs ls v1 fr) (hb : Below W.heap.size W W2) : GL2 W2 base v0 xs ls v1 fr :=
  ⟨own_to h.o0 hb, own_to h.o1 hb, (h.cont.below hb (fun b q => q.2.1)).imp fun b q => ⟨q.1, Nat.lt_of_lt_of_le q.2.1 hb.size, q.2.2⟩⟩
theorem GL2.app0 {l : List Int} {u : Value} (h : GL2 W base v0 xs ls v1 fr) (hq : On (Rx2 base W.heap.size v0 v1) W (SlL l u))
    (ho : W2.ownsRow base 22 1 v2 (ls.length + 1) (xs ++ [u])) (hg : W.grownBy W2 v0.ownBlock) (hat : v2.ownBlock = v0.ownBlock ∨ v2.ownBlock = some W.heap.size) : GL2 W2 base v2 (xs ++ [u]) (ls ++ [l]) v1 fr := by
  have hl : xs.length = ls.length := by have := h.o0.1; simpa using this
  refine ⟨by rw [List.length_append]; exact ho, h.o1.kept hg (rows_ne (by decide) h.o0 h.o1), (((h.cont.and hq).grown hg (fun b q => ⟨q.2.1, q.2.2.1⟩)).map fun W3 q => lsP_snoc hl q).imp fun b q => ⟨q.1, Nat.lt_of_lt_of_le q.2.1 hg.size, fun e => ?_, q.2.2.2⟩⟩
  rcases hat with h1 | h1
  · exact q.2.2.1 (h1 ▸ e)
  · rw [h1] at e; injection e with e; have := q.2.1; omega
theorem GL2.app1 (h : GL2 W base v0 xs ls v1 fr) (ho : W2.ownsRow base 3 1 v2 fr2.length (fr2.map (Value.int .i64))) (hg : W.grownBy W2 v1.ownBlock) (hat : v2.ownBlock = v1.ownBlock ∨ v2.ownBlock = some W.heap.size) : GL2 W2 base v0 xs ls v2 fr2 := by
  refine ⟨h.o0.kept hg (rows_ne (by decide) h.o1 h.o0), ho, (h.cont.grown hg (fun b q => ⟨q.2.1, q.2.2.2⟩)).imp fun b q => ⟨q.1, Nat.lt_of_lt_of_le q.2.1 hg.size, q.2.2.1, fun e => ?_⟩⟩
  rcases hat with h1 | h1
  · exact q.2.2.2 (h1 ▸ e)
  · rw [h1] at e; injection e with e; have := q.2.1; omega
theorem GL2.rows (h : GL2 W base v0 xs ls v1 fr) : On (Rg base W.heap.size) W (SlLs ls v0) := by
  intro W3 h2 hs
  exact lsP_slice (own_zero h.o0 h2) (h.cont W3 (fun b q => h2 b ⟨q.1, q.2.1⟩) hs)
end
/-- What of a list is not in another. -/
def filN (l r : List Int) (j : Nat) : List Int := (l.take j).filter (fun p => decide (p ∉ r))
theorem filN_yes {l r : List Int} {j : Nat} (h : j < l.length) (hm : ix l j ∉ r) : filN l r (j + 1) = filN l r j ++ [ix l j] := by
  unfold filN; rw [take_succ_ix h, List.filter_append]; simp [hm]
theorem filN_no {l r : List Int} {j : Nat} (h : j < l.length) (hm : ix l j ∈ r) : filN l r (j + 1) = filN l r j := by
  unfold filN; rw [take_succ_ix h, List.filter_append]; simp [hm]
theorem filN_le (l r : List Int) (j : Nat) : (filN l r j).length ≤ j := by
  unfold filN
  exact Nat.le_trans (List.length_filter_le _ _) (List.length_take_le _ _)
theorem filN_all {l r u : List Int} (hl : IsS l 24) (hr : ∀ p, p ∈ r ↔ p ∈ u) : filN l r l.length = difL l u := by
  refine sorted_ext ?_ (difL_isS _ _).1 (fun x => ?_)
  · unfold filN; rw [List.take_length]; exact hl.1.sublist List.filter_sublist
  · unfold filN
    rw [List.take_length, List.mem_filter, mem_difL hl, decide_eq_true_eq, hr]
/-- The list that is covered, as the reference has it. -/
def usedN (L : List (List Int)) : Nat → List Int
  | 0 => []
  | n + 1 => usedN L n ++ difL (rw_ L n) (covN L n).2
theorem covN_in {L : List (List Int)} (hL : ∀ k, k < L.length → IsS (rw_ L k) 24) : ∀ n, n ≤ L.length → ∀ p, p ∈ usedN L n ↔ p ∈ (covN L n).2
  | 0, _, p => by simp [usedN, covN]
  | n + 1, h, p => by
    have ih := covN_in hL n (by omega) p
    rw [usedN, List.mem_append, ih, covN]
    split
    · rename_i hd
      rw [hd]; simp
    · simp only
      rw [mem_uniL (covN_isS L n) (difL_isS _ _)]
theorem usedN_le (L : List (List Int)) : ∀ n, (usedN L n).length ≤ 24 * n
  | 0 => by simp [usedN]
  | n + 1 => by
    have := usedN_le L n
    have := isS_len (n := 24) (difL_isS (rw_ L n) (covN L n).2)
    rw [usedN, List.length_append]; omega
theorem covN_one {L : List (List Int)} {k : Nat} (h : difL (rw_ L k) (covN L k).2 = []) : covN L (k + 1) = covN L k ∧ usedN L (k + 1) = usedN L k := by
  constructor
  · rw [covN, if_pos h]
  · rw [usedN, h, List.append_nil]
theorem covN_two {L : List (List Int)} {k : Nat} (h : ¬ difL (rw_ L k) (covN L k).2 = []) : (covN L (k + 1)).1 = (covN L k).1 ++ [difL (rw_ L k) (covN L k).2] ∧ usedN L (k + 1) = usedN L k ++ difL (rw_ L k) (covN L k).2 := by
  constructor
  · rw [covN, if_neg h]
  · rw [usedN]
def CvP (w : World) (ls : List (List Int)) (e : Ending) (w' : World) : Prop := ∃ v, e = .returned v ∧ On (Rg w.heap.size w'.heap.size) w' (SlLs ls v) ∧ Below w.heap.size w w'
def LCut (wr wx : World) (l : List Int) (v : Value) : Prop := SlL l v wx ∧ Below wr.heap.size wr wx
set_option maxHeartbeats 8000000 in
theorem coverOf_any (x : Tsk) (gs : List (List Int)) (A : Option Addr) (c n : Nat) (w : World) (hG : RwsN w A gs) (hn : x.n = (n : Int)) (hg24 : gs.length ≤ 24) (hn24 : n ≤ 24) (hIS : ∀ k, k < gs.length → IsS (rw_ gs k) 24) :
    Calls Tryd.prog 12 #[.agg #[.int .i64 x.n, .slice x.ai x.init.length x.ci, .slice x.ag x.goal.length x.cg, .slice x.ao x.ops.length x.co], .slice A gs.length c] w (CvP w (cov gs n)) := by
  have hb0 := al_b w (.cells #[.int .i64 x.n, .slice x.ai x.init.length x.ci, .slice x.ag x.goal.length x.cg, .slice x.ao x.ops.length x.co] 25)
  have hbx := tbox_new w x 25
  have HG := Lib.hid (fun (W : World) (h : Below w.heap.size w W) => (by intro h0; obtain ⟨b, o, e, hlt, hk⟩ := hG h0; exact ⟨b, o, e, Nat.lt_of_lt_of_le hlt h.size, fun k h1 => by obtain ⟨ak, ck, q1, q2⟩ := hk k h1; exact ⟨ak, ck, (h.cell (p := ⟨b, o + k, none⟩) hlt).trans q1, q2.to h⟩⟩ : RwsN W A gs))
  have HN := Lib.hid hn
  have hLS : ∀ k, k < (covS gs n).length → IsS (rw_ (covS gs n) k) 24 := by
    intro k hk
    rw [covS_len] at hk
    by_cases h : k < gs.length
    · rw [covS_left h]; exact hIS k h
    · obtain ⟨j, rfl⟩ : ∃ j, k = gs.length + j := ⟨k - gs.length, by omega⟩
      rw [covS_right (by omega)]
      exact ⟨List.pairwise_singleton _ _, fun y hy => by rw [List.mem_singleton] at hy; omega⟩
  have HIN := Lib.hid (covN_in hLS)
  have HLS := Lib.hid hLS
  have HLN := Lib.hid (covS_len gs n)
  have HL1 := Lib.hid (fun k (h : k < gs.length) => covS_left (n := n) h)
  have HL2 := Lib.hid (fun k (h : k < n) => covS_right (gs := gs) h)
  have HCV := Lib.hid (show cov gs n = (covN (covS gs n) (gs.length + n)).1 from rfl)
  have HB0 := Lib.hid hb0
  have HBX := Lib.hid hbx
  obtain ⟨i0, hi, hz0, hz1, hz2⟩ := info_parts info_int
  obtain ⟨l0, hli, hlz0, hlz1, hlz2⟩ := info_parts info_sl
  clear hG hn hIS hLS hb0 hbx
  generalize covS gs n = L at *
  go_enter Tryd.func12, Tryd.ntmps12
  go_wp2
  go_loopw [5, 6, 7] (fun v0 v1 i wr => ∃ (k : Nat) (xs : List Value), k ≤ gs.length + n ∧ i = .int .i64 k ∧ GL2 wr (w.heap.size + 1) v0 xs (covN L k).1 v1 (usedN L k) ∧ Below w.heap.size w wr ∧ TBox wr w.heap.size x) (fun _ _ i _ => gs.length + n - (intOf i).toNat)
  case atStart => exact ⟨0, [], by omega, rfl, GL2.nil _ _, HB0.out, HBX.out⟩
  case round =>
    obtain ⟨k, xs, hk, rfl, hgl, hbw, htb⟩ := hrel
    have HGL := Lib.hid hgl
    have HW := Lib.hid hbw
    have HTB := Lib.hid htb
    obtain ⟨_, t0, t1, t2, t3⟩ := htb
    have hsz := HW.out.size
    rw [HN.out] at t0
    clear hgl hbw
    by_cases hlt : k < gs.length + n
    case neg =>
      have hge : ¬ ((k : Int) < (gs.length : Int) + (n : Int)) := by omega
      have hge2 : decide ((k : Int) < (gs.length : Int) + (n : Int)) = false := decide_eq_false hge
      have HK := Lib.hid (show k = gs.length + n by omega)
      go_wp2
      go_ret
      refine ⟨_, rfl, ?_, HW.out⟩
      rw [HCV.out, ← HK.out]
      exact HGL.out.rows.wide (by omega) (Nat.le_refl _)
    have hlt2 : decide ((k : Int) < (gs.length : Int) + (n : Int)) = true := decide_eq_true (by omega)
    have hlti : (k : Int) < (gs.length : Int) + (n : Int) := by omega
    have hs6 := slL_own HGL.out.o1
    obtain ⟨a6, c6, rfl, hn6⟩ := hs6
    have HN6 := Lib.hid hn6
    clear hn6
    have HLk := Lib.hid (HLS.out k (by have := HLN.out; omega))
    have hl24 : (rw_ L k).length ≤ 24 := isS_len (n := 24) HLk.out
    go_upto_if 28 with fail
    go_cut [8] from 28 to 32 (fun v wx => LCut wr wx (rw_ L k) v)
    case first =>
      by_cases hkg : k < gs.length
      · obtain ⟨b, o, ak, ck, rfl, hbl, hcell, hlst⟩ := (HG.out _ HW.out).at_ hkg
        have d1 : decide ((k : Int) < (gs.length : Int)) = true := decide_eq_true (by omega)
        have d0 : decide (k < gs.length) = true := decide_eq_true hkg
        have HE := Lib.hid (HL1.out k hkg)
        have HLT := Lib.hid hlst
        clear hlst
        go_wp2
        go_meet
        refine ⟨⟨ak, ck, by rw [HE.out], ?_⟩, (Below.refl _ _).alloc (Nat.le_refl _) _⟩
        rw [HE.out]
        exact HLT.out.to (al_b _ _)
      · have d1 : decide ((k : Int) < (gs.length : Int)) = false := decide_eq_false (by omega)
        have d0 : decide (k < gs.length) = false := decide_eq_false hkg
        have HE := Lib.hid (show rw_ L k = [((k : Int) - (gs.length : Int))] by
          obtain ⟨j, rfl⟩ : ∃ j, k = gs.length + j := ⟨k - gs.length, by omega⟩
          rw [HL2.out j (by omega)]
          congr 1
          omega)
        go_wp2
        go_meet
        refine ⟨?_, (Below.refl _ _).alloc (Nat.le_refl _) _⟩
        rw [HE.out]
        exact slL_own (l := [(k : Int) - (gs.length : Int)]) (own_one wr _)
    case rest =>
      obtain ⟨⟨al, cl, rfl, hln⟩, hbl⟩ := hcut
      have HBL := Lib.hid hbl
      have HLN2 := Lib.hid hln
      have hzl := hbl.size
      have HUL := usedN_le L k
      have HIk := Lib.hid (HIN.out k (by have := HLN.out; omega))
      have HC1 := Lib.hid (fun h => covN_one (L := L) (k := k) h)
      have HC2 := Lib.hid (fun h => covN_two (L := L) (k := k) h)
      have HFA := Lib.hid (filN_all HLk.out HIk.out)
      have hk48 : k ≤ 48 := by omega
      have HNR := Lib.hid (fun (W : World) (h : Below wc.heap.size wc W) => HN6.out.to (hbl.trans (h.mono hzl)))
      have HLR := Lib.hid (fun (W : World) (h : Below wc.heap.size wc W) => hln.to h)
      have HGR := Lib.hid (fun (W : World) (h : Below wc.heap.size wc W) => HGL.out.to (hbl.trans (h.mono hzl)))
      have HTR := Lib.hid (fun (W : World) (h : Below wc.heap.size wc W) => HTB.out.to (hbl.trans (h.mono hzl)) HTB.out.lt)
      have HWR := Lib.hid (fun (W : World) (h : Below wc.heap.size wc W) => HW.out.trans ((hbl.trans (h.mono hzl)).mono hsz))
      have HO5 := Lib.hid (fun b (h : u5.ownBlock = some b) => (HGL.out.o0.lt b h).2)
      have HO6 := Lib.hid (fun b (h : (Value.slice a6 (usedN L k).length c6).ownBlock = some b) => (HGL.out.o1.lt b h).2)
      have hwc : w.heap.size + 1 ≤ wc.heap.size := Nat.le_trans HTB.out.lt hzl
      have hcl : (covN L k).1.length ≤ 48 := by have := covN_len L k; omega
      clear hln hbl t0 t1 t2 t3
      generalize usedN L k = r at *
      generalize rw_ L k = l at *
      go_wp2
      go_loopw [9, 10] (fun v i wr => ∃ j : Nat, j ≤ l.length ∧ i = .int .i64 j ∧ Below wc.heap.size wc wr ∧ wr.ownsRow wc.heap.size 3 1 v (filN l r j).length ((filN l r j).map (Value.int .i64))) (fun _ i _ => l.length - (intOf i).toNat)
      case atStart => exact ⟨0, by omega, rfl, Below.refl _ _, by simpa [filN] using World.ownsRow_nil wc wc.heap.size 3 1⟩
      case round =>
        obtain ⟨j, hj, rfl, hbw, hown⟩ := hrel
        have HI := Lib.hid hbw
        have HO := Lib.hid hown
        have hzi := hbw.size
        clear hbw hown
        by_cases hlt3 : j < l.length
        case pos =>
          obtain ⟨b, o, rfl, hbl, hc⟩ := (HLR.out _ HI.out).lst.nums.at_ hlt3
          have hR := has_any a6 c6 r (ix l j) wr (HNR.out _ HI.out).lst.nums (HNR.out _ HI.out).lst.len
          have hfl := filN_le l r j
          by_cases hm : ix l j ∈ r
          · rw [show hasB r (ix l j) = true from decide_eq_true hm] at hR
            have HR := Lib.hid hR
            have HQ := Lib.hid (filN_no hlt3 hm)
            clear hR hm
            go_wp2_with (go_at_call 42; (with_reducible refine HR.out.mono ?_); rintro e w' ⟨rfl, rfl⟩)
            go_roundw
            case rel => exact ⟨j + 1, by omega, by go_num, HI.out, by rw [HQ.out]; exact HO.out⟩
            case measure => simp [intOf]; omega
          · rw [show hasB r (ix l j) = false from decide_eq_false hm] at hR
            have HR := Lib.hid hR
            have HQ := Lib.hid (filN_yes hlt3 hm)
            clear hR hm
            generalize filN l r j = q at *
            go_wp2_with (first | (go_at_call 42; (with_reducible refine HR.out.mono ?_); rintro e w' ⟨rfl, rfl⟩) | (at_builtin; refine wpList_append_own_at _ rfl _ _ 22 rfl (wc.heap.size) 3 i0 (.int .i64 0) 1 8 Tryd.underlying22 hi hz0 hz1 hz2 rfl (by decide) _ _ _ rfl (HO.out.alloc _) ⟨wr.heap.size, 0, none⟩ 1 1 [.int .i64 (ix l j)] rfl rfl ?c1 ?c2 ?c3 ?c4 ?c5 ?_))
            case c1 => exact cell_one_new _ _ _
            case c2 => simp [Value.oneCell']
            case c3 => unfold maxLen; omega
            case c4 => omega
            case c5 => simp; omega
            intro v2 w2 hown2 hgrow _ _
            have HI2 := Lib.hid (HI.out.trans (Below.grown (B := wc.heap.size) ((Below.refl _ _).alloc hzi _) hgrow (by simp; omega) (fun q hq => (HO.out.lt q hq).1)))
            have HO2 := Lib.hid hown2
            clear hgrow hown2
            go_wp2
            go_roundw
            case rel => exact ⟨j + 1, by omega, by go_num, HI2.out, by rw [HQ.out]; simpa using HO2.out⟩
            case measure => simp [intOf]; omega
        have hge : ¬ ((j : Int) < l.length) := by omega
        obtain rfl : j = l.length := by omega
        rw [HFA.out] at HO
        have hdl : (difL l (covN L k).2).length ≤ 24 := isS_len (n := 24) (difL_isS _ _)
        by_cases hd : difL l (covN L k).2 = []
        · obtain ⟨e1, e2⟩ := HC1.out hd
          rw [hd] at HO
          have hs9 := slL_own HO.out
          obtain ⟨a9, c9, rfl, _⟩ := hs9
          have HG9 := Lib.hid (HGR.out _ HI.out)
          have HE1 := Lib.hid e1
          have HE2 := Lib.hid e2
          clear e1 e2 hd
          go_wp2
          go_roundw
          case rel => exact ⟨k + 1, xs, by omega, by go_num, by rw [HE1.out, HE2.out]; exact HG9.out, HWR.out _ HI.out, HTR.out _ HI.out⟩
          case measure => simp [intOf]; omega
        · obtain ⟨e1, e2⟩ := HC2.out hd
          have HE1 := Lib.hid e1
          have HE2 := Lib.hid e2
          have hd1 : 1 ≤ (difL l (covN L k).2).length := by
            rcases Nat.eq_zero_or_pos (difL l (covN L k).2).length with h | h
            · exact absurd (List.eq_nil_of_length_eq_zero h) hd
            · exact h
          have HG9 := Lib.hid (HGR.out _ HI.out)
          clear e1 e2 hd
          generalize difL l (covN L k).2 = d at *
          generalize (covN L k).1 = C at *
          obtain ⟨g9, c9, rfl, hg9, hg9l⟩ := own_some1 HO.out hd1
          have dd1 : decide ((0 : Int) < (d.length : Int)) = true := decide_eq_true (by omega)
          have dd0 : decide (0 < d.length) = true := decide_eq_true (by omega)
          go_wp2_with (at_builtin; refine wpList_append_own_at _ rfl _ _ 26 rfl ((w.heap.size + 1)) 22 l0 (.slice none 0 0) 1 24 Tryd.underlying26 hli hlz0 hlz1 hlz2 rfl (by decide) _ _ _ rfl (HG9.out.o0.alloc _) ⟨wr.heap.size, 0, none⟩ 1 1 [(.slice (some ⟨g9, 0, none⟩) d.length c9)] rfl rfl ?f1 ?f2 ?f3 ?f4 ?f5 ?_)
          case f2 => simp [Value.oneCell']
          case f3 => unfold maxLen; omega
          case f4 => omega
          case f5 => (first | omega | (simp; omega))
          intro v2 w2 hown2 hgrow2 _ hat2
          have hb5 := al_b wr (.cells #[.slice (some ⟨g9, 0, none⟩) d.length c9] 22)
          have hat2' : v2.ownBlock = u5.ownBlock ∨ v2.ownBlock = some (wr.alloc (.cells #[.slice (some ⟨g9, 0, none⟩) d.length c9] 22)).heap.size := by simpa using hat2
          have HG2 := Lib.hid ((HG9.out.to hb5).app0 (l := d) ((((slL_on HO.out).below hb5 (fun b q => q.2)).imp (fun b q => (⟨Nat.le_trans hwc q.1, Nat.lt_of_lt_of_le q.2 hb5.size, fun e => absurd (HO5.out b e) (Nat.not_lt.2 (Nat.le_trans hzl q.1)), fun e => absurd (HO6.out b e) (Nat.not_lt.2 (Nat.le_trans hzl q.1))⟩ : Rx2 (w.heap.size + 1) _ u5 (.slice a6 r.length c6) b)))) hown2 hgrow2 hat2')
          have HOc := Lib.hid ((own_to HO.out hb5).kept hgrow2 (rows_ne (by decide) (own_to HG9.out.o0 hb5) (own_to HO.out hb5)))
          have hw9 : w.heap.size + 1 ≤ wr.heap.size := Nat.le_trans hwc hzi
          have HB2 := Lib.hid (show Below (w.heap.size + 1) wr w2 from Below.grown (B := w.heap.size + 1) (hb5.mono hw9) hgrow2 (Nat.le_trans hw9 hb5.size) (fun q hq => (HG9.out.o0.lt q hq).1))
          have hw2 : w.heap.size + 1 ≤ w2.heap.size := Nat.le_trans hw9 (Nat.le_trans hb5.size hgrow2.size)
          clear hown2 hgrow2 hat2 hat2' hb5
          go_wp2_with (at_builtin; refine wpList_append_own_at _ rfl _ _ 22 rfl (w.heap.size + 1) 3 i0 (.int .i64 0) 1 8 Tryd.underlying22 hi hz0 hz1 hz2 rfl (by decide) _ _ _ rfl HG2.out.o1 ⟨g9, 0, none⟩ d.length c9 (d.map (Value.int .i64)) rfl (by simp) ?h2 ?h3 ?h4 ?h5 ?h6 ?_)
          case h2 => exact fun j u hu => HOc.out.cells (g := g9) rfl j u hu
          case h3 => intro u hu; rw [List.mem_map] at hu; obtain ⟨z, _, rfl⟩ := hu; rfl
          case h4 => unfold maxLen; omega
          case h5 => omega
          case h6 => exact hw2
          intro v3 w3 hown3 hgrow3 _ hat3
          have HG3 := Lib.hid (HG2.out.app1 (fr2 := r ++ d) (by simpa using hown3) hgrow3 hat3)
          have HB3 := Lib.hid (Below.grown (B := w.heap.size + 1) HB2.out hgrow3 hw2 (fun q hq => (HG2.out.o1.lt q hq).1))
          clear hown3 hgrow3 hat3
          go_wp2
          go_roundw
          case rel => exact ⟨k + 1, _, by omega, by go_num, by rw [HE1.out, HE2.out]; exact HG3.out, (HWR.out _ HI.out).trans (HB3.out.mono (Nat.le_succ _)), (HTR.out _ HI.out).to HB3.out (Nat.lt_succ_self _)⟩
          case measure => simp [intOf]; omega
end Go.Proofs.YtiaobanloakplaaDoor

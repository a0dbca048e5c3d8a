/- Members of package types. -/
import Derived.Test.YtjmkilmpfaapbaaTsub
import Derived.Test.YtjmkilmpfaapbaaTobj
import Derived.RangeFuncBox
import Derived.Maps.AppendAt
namespace Go.Proofs.Ytjmkilmpfaapbaa
open Go.RowKit Go.Shelf
set_option linter.unusedSimpArgs false
set_option linter.unusedVariables false
set_option maxRecDepth 100000

theorem obFault_ok {n : Nat} {os : List Ent} (h : (obFault n os).1 = 0) : obFault n os = (0, 0) ∧ os.length ≤ 8 ∧ ∀ i, i < os.length → istB n (pr os i) = true := by
  unfold obFault at h ⊢
  split at h
  · cases h
  · rename_i h8
    rw [if_neg h8]
    unfold firstF at h ⊢
    cases e : (List.range os.length).find? (fun i => obCode n os i != 0) with
    | some i =>
      rw [e] at h
      have := List.find?_some e
      simp at this
      exact absurd h this
    | none =>
      refine ⟨rfl, by omega, fun k hk => ?_⟩
      rw [List.find?_eq_none] at e
      have h0 : obCode n os k = 0 := by simpa using e k (by simpa using hk)
      unfold obCode ecode at h0
      split at h0
      · cases h0
      · split at h0
        · cases h0
        · split at h0
          · cases h0
          · rename_i hi
            simpa using hi

/-- The members among the first k objects. -/
def mems (ts os : List Ent) (t : Int) (k : Nat) : List Int := ((List.range k).filter (fun i => memB (sup ts (pr os i)) t)).map (fun i : Nat => (i : Int))
theorem mems_yes {ts os : List Ent} {t : Int} {k : Nat} (h : memB (sup ts (pr os k)) t = true) : mems ts os t (k + 1) = mems ts os t k ++ [(k : Int)] := by
  unfold mems
  rw [List.range_succ, List.filter_append, List.map_append]
  simp [h]
theorem mems_no {ts os : List Ent} {t : Int} {k : Nat} (h : memB (sup ts (pr os k)) t = false) : mems ts os t (k + 1) = mems ts os t k := by
  unfold mems
  rw [List.range_succ, List.filter_append, List.map_append]
  simp [h]
theorem mems_len (ts os : List Ent) (t : Int) (k : Nat) : (mems ts os t k).length ≤ k := by
  unfold mems
  rw [List.length_map]
  exact Nat.le_trans (List.length_filter_le _ _) (by simp)
/-- The fault of Members, and what it returns. -/
def memF (ts os : List Ent) (t : Int) : Int × Int := if (usedF ts [t]).1 ≠ 0 then usedF ts [t] else obFault ts.length os
def memL (ts os : List Ent) (t : Int) : List Int := if (memF ts os t).1 = 0 then mems ts os t os.length else []

theorem grown_of_below {w w' : World} (h : Below w.heap.size w w') (row : Option Nat) : w.grownBy w' row := ⟨h.os, h.tape, h.output, h.size, fun i hi _ => h.block i hi⟩
theorem own_to {w w' : World} {base : Nat} {e : TypeId} {size : Nat} {v : Value} {n : Nat} {xs : List Value} (h : w.ownsRow base e size v n xs) (hb : Below w.heap.size w w') : w'.ownsRow base e size v n xs :=
  h.kept (grown_of_below hb none) (by cases v.ownBlock <;> simp)
/-- Some slice that holds xs. -/
def SliceOf (w : World) (v : Value) (xs : List Int) : Prop := ∃ A c, v = .slice A xs.length c ∧ Nums w w.heap.size A xs ∧ xs.length ≤ c ∧ c ≤ maxLen
theorem sliceOf_own {w : World} {base : Nat} {e : TypeId} {v : Value} {xs : List Int} (h : w.ownsRow base e 1 v xs.length (xs.map (Value.int .i64))) : SliceOf w v xs := by
  rcases h.2 with ⟨rfl, h0⟩ | ⟨g, cap, cur, rfl, hg, hh, hn, hcap, hcs, hx⟩
  · exact ⟨none, 0, by rw [h0], fun h => by omega, by omega, by simp [maxLen]⟩
  · refine ⟨_, cap, rfl, fun h0 => ⟨g, 0, rfl, (Array.getElem?_eq_some_iff.1 hh).1, fun k hk => ?_⟩, hn, hcap⟩
    have := h.cells (g := g) rfl k (.int .i64 (ix xs k)) (by
      rw [List.getElem?_map, List.getElem?_eq_getElem hk]
      simp [ix, List.getD, hk])
    simpa [Addr.add_lit] using this
/-- How Members ends. -/
def MemPost (w : World) (f : Int × Int) (xs : List Int) (e : Ending) (w' : World) : Prop := ∃ v, e = .returned (.tuple #[v, .agg #[.int .i64 f.1, .int .i64 f.2]]) ∧ SliceOf w' v xs ∧ Below w.heap.size w w'
theorem sliceOf_nil (w : World) : SliceOf w (.slice none 0 0) [] := ⟨none, 0, rfl, fun h => by simp at h, by simp, by simp [maxLen]⟩
theorem info_int : (Try.prog.info? 3).map (fun i => (i.zero, i.size, i.bytes)) = some (some (.int .i64 0), 1, 8) := by kernel_rfl

set_option maxRecDepth 100000 in
set_option maxHeartbeats 2000000 in
theorem members_any (A : Option Addr) (c : Nat) (ts : List Ent) (A2 : Option Addr) (c2 : Nat) (os : List Ent) (t : Int) (w : World) (hE : Ents w w.heap.size A ts) (hn : ts.length ≤ maxLen) (hcap : ts.length ≤ c) (hcm : c ≤ maxLen)
    (hO : Ents w w.heap.size A2 os) (hon : os.length ≤ maxLen) (hocap : os.length ≤ c2) (hocm : c2 ≤ maxLen) :
    Calls Try.prog 16 #[.slice A ts.length c, .slice A2 os.length c2, .int .i64 t] w (MemPost w (memF ts os t) (memL ts os t)) := by
  have hB1 : Below w.heap.size w ((w.alloc (.cells #[.int .i64 0, .int .i64 0] 26)).alloc (.cells #[.int .i64 t] 3)) := by go_grown
  have hcall := with_any A c ts (some ⟨w.heap.size + 1, 0, none⟩) 1 [t] ((w.alloc (.cells #[.int .i64 0, .int .i64 0] 26)).alloc (.cells #[.int .i64 t] 3)) (hE.to hB1 hB1.size) hn hcap hcm (by have := nums_new1 (w.alloc (.cells #[.int .i64 0, .int .i64 0] 26)) t 3; simpa using this) (by simp [maxLen])
  have HE2 := Lib.hid (fun (W : World) (h : Below w.heap.size w W) => hE.to (B' := W.heap.size) h h.size)
  have HO2 := Lib.hid (fun (W : World) (h : Below w.heap.size w W) => hO.to (B' := W.heap.size) h h.size)
  clear hE hO
  have HB1 := Lib.hid hB1
  clear hB1
  have HT := Lib.hid ((two_new w (.int .i64 0) (.int .i64 0) 26).alloc (.cells #[.int .i64 t] 3))
  by_cases h0 : (usedF ts [t]).1 = 0
  case neg =>
    have HF := Lib.hid (show memF ts os t = usedF ts [t] by simp [memF, h0])
    have HL := Lib.hid (show memL ts os t = [] by simp [memL, memF, h0])
    have hne : ((usedF ts [t]).1 != 0) = true := by simpa using h0
    have hne2 : ((usedF ts [t]).1 == 0) = false := by simpa using h0
    clear h0
    go_enter Try.func16, Try.ntmps16
    go_wp2_with (go_at_call 26; refine hcall.mono ?_; rintro e w' ⟨rfl, hbw⟩; have tw := two_to HT.out hbw; obtain ⟨_, k0, k1, kf0, kf1⟩ := tw)
    go_region
    all_goals
      go_wp2
      have tw : Two w' w.heap.size _ _ := ⟨‹_›, k0, k1, kf0, kf1⟩
      refine post_with_fault (g := w.heap.size) (x := .int .i64 (usedF ts [t]).1) (y := .int .i64 (usedF ts [t]).2) Try.results16 rfl ?_ ?_
      · exact two1 ((tw.set _ _).alloc _)
      · rw [HF.out, HL.out]
        have hbase : Below w.heap.size w w' := HB1.out.trans (hbw.mono (by simp; omega))
        exact ⟨_, rfl, sliceOf_nil _, by go_grown⟩
  case pos =>
  obtain ⟨h1, h2, h3⟩ := usedF_zero h0
  rw [h1] at hcall
  by_cases h4 : (obFault ts.length os).1 = 0
  case neg =>
    have HF := Lib.hid (show memF ts os t = obFault ts.length os by simp [memF, h0])
    have HL := Lib.hid (show memL ts os t = [] by simp [memL, memF, h0, h4])
    have hne : ((obFault ts.length os).1 != 0) = true := by simpa using h4
    have hne2 : ((obFault ts.length os).1 == 0) = false := by simpa using h4
    clear h0 h1 h2 h3 h4
    go_enter Try.func16, Try.ntmps16
    go_wp2_with (first | (go_at_call 26; refine hcall.mono ?_; rintro e w' ⟨rfl, hbw⟩; have tw := two_to HT.out hbw; obtain ⟨_, k0, k1, kf0, kf1⟩ := tw) | (go_at_call 31; refine (validateObjects_any A ts.length c A2 c2 os _ (HO2.out _ ((HB1.out.trans (hbw.mono (by simp; omega))).alloc (by omega) _)) hon hocap hocm).mono ?_; rintro e w2 ⟨rfl, hbw2⟩; have tm := two_to ((two_to HT.out hbw).alloc (.cells #[.int .i64 0, .int .i64 0] 26)) hbw2; obtain ⟨_, m0, m1, mf0, mf1⟩ := tm))
    go_region
    all_goals
      go_wp2
      have hle := hbw2.size
      simp only [World.size_alloc] at hle
      have tw : Two w2 w.heap.size _ _ := ⟨‹_›, m0, m1, mf0, mf1⟩
      refine post_with_fault (g := w.heap.size) (x := .int .i64 (obFault ts.length os).1) (y := .int .i64 (obFault ts.length os).2) Try.results16 rfl ?_ ?_
      · exact two1 ((tw.set _ _).alloc _)
      · rw [HF.out, HL.out]
        have hbase : Below w.heap.size w w2 := ((HB1.out.trans (hbw.mono (by simp; omega))).alloc (by omega) _).trans (hbw2.mono (by simp; omega))
        exact ⟨_, rfl, sliceOf_nil _, by go_grown⟩
  case pos =>
  obtain ⟨h5, h6, h7⟩ := obFault_ok h4
  have HF := Lib.hid (show memF ts os t = (0, 0) by simp [memF, h0, h5])
  have HL := Lib.hid (show memL ts os t = mems ts os t os.length by simp [memL, memF, h0, h5])
  have HOB := Lib.hid h5
  have HI := Lib.hid h7
  have HO := Lib.hid (ordered_of h2)
  clear h0 h1 h2 h3 h4 h5 h7
  go_enter Try.func16, Try.ntmps16
  go_wp2_with (first | (go_at_call 26; refine hcall.mono ?_; rintro e w' ⟨rfl, hbw⟩; have tw := two_to HT.out hbw; obtain ⟨_, k0, k1, kf0, kf1⟩ := tw) | (go_at_call 31; refine (validateObjects_any A ts.length c A2 c2 os _ (HO2.out _ ((HB1.out.trans (hbw.mono (by simp; omega))).alloc (by omega) _)) hon hocap hocm).mono ?_; rw [HOB.out]; rintro e w2 ⟨rfl, hbw2⟩; have tm := two_to ((two_to HT.out hbw).alloc (.cells #[.int .i64 0, .int .i64 0] 26)) hbw2; obtain ⟨_, m0, m1, mf0, mf1⟩ := tm))
  have hle := hbw2.size
  simp only [World.size_alloc] at hle
  have HB2 := Lib.hid (show Below w.heap.size w w2 from ((HB1.out.trans (hbw.mono (by simp; omega))).alloc (by omega) _).trans (hbw2.mono (by simp; omega)))
  have HTM := Lib.hid (show Two w2 w.heap.size _ _ from ⟨‹_›, m0, m1, mf0, mf1⟩)
  generalize hW0 : w2.alloc (.cells #[.int .i64 0, .int .i64 0] 26) = W0
  have HB0 : Hid (Below w.heap.size w W0) := by
    rw [← hW0]
    exact Lib.hid (HB2.out.alloc HB2.out.size _)
  have HT0 : Hid (Two W0 w.heap.size (.int .i64 0) (.int .i64 0)) := by
    rw [← hW0]
    exact Lib.hid (HTM.out.alloc _)
  obtain ⟨i0, hi, hz0, hz1, hz2⟩ := info_parts info_int
  clear hW0 m0 m1 mf0 mf1 k0 k1 kf0 kf1
  go_loopw [10, 30] (fun v i wr => ∃ k : Nat, k ≤ os.length ∧ i = .int .i64 k ∧ wr.ownsRow W0.heap.size 3 1 v (mems ts os t k).length ((mems ts os t k).map (Value.int .i64)) ∧ Below W0.heap.size W0 wr) (fun _ i _ => os.length - (intOf i).toNat)
  case atStart => exact ⟨0, by omega, rfl, World.ownsRow_nil _ _ _ _, Below.refl _ _⟩
  case round =>
    obtain ⟨k, hk, rfl, hown, hbr⟩ := hrel
    have HB := Lib.hid hbr
    clear hbr
    have HBr := Lib.hid (show Below w.heap.size w wr from HB0.out.trans (HB.out.mono HB0.out.size))
    by_cases hlt : k < os.length
    · obtain ⟨b, o, rfl, hbl, hs, hp, hl⟩ := (HO2.out wr HBr.out).at_ hlt
      have hpi := (istB_iff _ _).1 (HI.out k hlt)
      obtain ⟨hp0, hpn⟩ := hpi
      have hx := has_any A c ts (pr os k) t HO.out hn hp0 hpn (wr.alloc (.cells #[.string (nm os k), .int .i64 (pr os k)] 45)) (HE2.out _ (HBr.out.alloc HBr.out.size _))
      cases hm : memB (sup ts (pr os k)) t
      · have HM := Lib.hid (mems_no hm)
        rw [hm] at hx
        go_wp2_with (go_at_call 27; refine hx.mono ?_; rintro e w5 ⟨rfl, hb5⟩)
        go_roundw
        case rel =>
          refine ⟨k + 1, by omega, by go_num, ?_, ?_⟩
          · rw [HM.out]
            exact own_to (hown.alloc _) hb5
          · exact (HB.out.alloc HB.out.size _).trans (hb5.mono (by have := HB.out.size; simp; omega))
        case measure => simp [intOf]; omega
      · have HM := Lib.hid (mems_yes hm)
        have hlen := mems_len ts os t k
        rw [hm] at hx
        go_wp2_with (first
          | (go_at_call 27; refine hx.mono ?_; rintro e w5 ⟨rfl, hb5⟩; have hown5 := own_to (hown.alloc _) hb5)
          | (at_builtin; refine wpList_append_own _ rfl _ _ 36 rfl W0.heap.size 3 i0 (.int .i64 0) 1 8 Try.underlying36 hi hz0 hz1 hz2 rfl (by decide) _ _ _ rfl (hown5.alloc _) ⟨w5.heap.size, 0, none⟩ 1 1 [.int .i64 k] rfl rfl ?c1 ?c2 ?c3 ?c4 ?c5 ?_))
        case c1 => exact cell_one_new _ _ _
        case c2 => simp [Value.oneCell']
        case c3 => unfold maxLen; omega
        case c4 => omega
        case c5 => have := HB.out.size; have := hb5.size; simp at this; simp; omega
        intro v' w6 hown6 hgrow _
        have HG := Lib.hid hgrow
        clear hgrow
        go_wp2
        go_roundw
        case rel =>
          refine ⟨k + 1, by omega, by go_num, ?_, ?_⟩
          · rw [HM.out]
            simpa using hown6
          · have h6 : Below W0.heap.size W0 (w5.alloc (.cells #[.int .i64 k] 3)) := ((HB.out.alloc HB.out.size _).trans (hb5.mono (by have := HB.out.size; simp; omega))).alloc (by have := HB.out.size; have := hb5.size; simp at this; omega) _
            exact h6.grown HG.out h6.size (fun q hq => (hown5.lt q hq).1)
        case measure => simp [intOf]; omega
    · have hTw := HT0.out.to HB.out HT0.out.lt
      obtain ⟨_, k0, k1, kf0, kf1⟩ := hTw
      go_wp2
      have hkk : k = os.length := by omega
      have tw : Two wr w.heap.size _ _ := ⟨‹_›, k0, k1, kf0, kf1⟩
      have hltb := HT0.out.lt
      refine post_with_fault (g := w.heap.size) (x := .int .i64 0) (y := .int .i64 0) Try.results16 rfl (tw.set _ _) ?_
      rw [HF.out, HL.out]
      rw [hkk] at hown
      have ho1 := ownsRow_setCell_below (ownsRow_setCell_below hown (a := ⟨w.heap.size, 0, none⟩) hltb (.int .i64 0)) (a := ⟨w.heap.size, 1, none⟩) hltb (.int .i64 0)
      exact ⟨_, rfl, sliceOf_own ho1, (HBr.out.setCell (Nat.le_refl _) _).setCell (Nat.le_refl _) _⟩

end Go.Proofs.Ytjmkilmpfaapbaa

/- after of package numeric. -/
import Derived.Test.YtiafplmaigpmeaaNze
import Derived.Test.YtiafplmaigpmeaaNzv
namespace Go.Proofs.Ytiafplmaigpmeaa
open Go.RowKit
set_option linter.unusedSimpArgs false
set_option linter.unusedVariables false
set_option maxRecDepth 100000

theorem prx_ex (v : List Int) (k : Nat) : prx (exl v) k = (ix v k, ix v k) := by
  by_cases h : k < v.length
  · exact exl_at h
  · simp [prx, exl, ix, List.getD, h]
theorem low_ex (f v : List Int) : ∀ k, lowK f (exl v) k = smK f v k
  | 0 => rfl
  | k + 1 => by
    rw [lowK, smK, low_ex f v k, prx_ex]
    simp
theorem high_ex (f v : List Int) : ∀ k, highK f (exl v) k = smK f v k
  | 0 => rfl
  | k + 1 => by
    rw [highK, smK, high_ex f v k, prx_ex]
    simp
theorem lowS_ex (f v : List Int) : lowS f (exl v) = sm f v := low_ex f v _
theorem highS_ex (f v : List Int) : highS f (exl v) = sm f v := high_ex f v _
theorem poss_ex (l : List Cmp) (v : List Int) : poss l (exl v) = sat l v := by
  unfold poss sat
  congr 1
  funext c
  unfold poss1 s1
  rw [lowS_ex, highS_ex]
  by_cases h1 : c.b ≤ sm c.f v
  · by_cases h2 : c.k = 2
    · by_cases h3 : sm c.f v ≤ c.b
      · simp [h1, h2, h3]; omega
      · simp [h1, h2, h3]; omega
    · simp [h2]
  · simp [h1]
/-- The values after the first k changes. -/
def nxK (ch : List Chg) (v : List Int) (k : Nat) : List Int := (List.range v.length).map (fun x => nvK ch v x k)
theorem nxK_len (ch : List Chg) (v : List Int) (k : Nat) : (nxK ch v k).length = v.length := by simp [nxK]
theorem nxK_0 (ch : List Chg) (v : List Int) : nxK ch v 0 = v := by
  refine List.ext_getElem (by simp [nxK]) (fun j h1 h2 => ?_)
  simp [nxK, nvK, ix, List.getD, h2]
theorem nxK_all (ch : List Chg) (v : List Int) : nxK ch v ch.length = nvL ch v := rfl
theorem nxK_step {ch : List Chg} {v : List Int} {k m : Nat} {f : List Int} {c : Int} (hC : chg ch k = ⟨(m : Int), f, c⟩) : (nxK ch v k).set m (sm f v + c) = nxK ch v (k + 1) := by
  refine List.ext_getElem (by simp [nxK]) (fun j h1 h2 => ?_)
  by_cases e : j = m
  · subst e
    simp [nxK, nvK, hC]
  · rw [List.getElem_set_ne (by omega)]
    simp only [nxK, List.getElem_map, List.getElem_range, nvK, hC]
    rw [if_neg (by omega)]
theorem own_some1 {W : World} {base n : Nat} {e : TypeId} {v : Value} {xs : List Value} (h : W.ownsRow base e 1 v n xs) (hn : 1 ≤ n) : ∃ g cap, v = .slice (some ⟨g, 0, none⟩) n cap ∧ base ≤ g ∧ g < W.heap.size := by
  rcases h.2 with ⟨_, h0⟩ | ⟨g, cap, cur, rfl, hb, hh, _⟩
  · omega
  · exact ⟨g, cap, rfl, hb, (Array.getElem?_eq_some_iff.1 hh).1⟩
theorem own_l2 {w : World} {base : Nat} {a : Option Addr} {c : Nat} {l : List Int} (h : w.ownsRow base 3 1 (.slice a l.length c) l.length (l.map (Value.int .i64))) : Lst w w.heap.size a c l := by
  obtain ⟨a', c', e, hl, _⟩ := own_lst h
  cases e
  exact hl
theorem last6n {P1 P2 P3 P4 P5 Q : Prop} (h : P1 ∧ P2 ∧ P3 ∧ P4 ∧ P5 ∧ Q) : Q := h.2.2.2.2.2
theorem clone_any (A : Option Addr) (c : Nat) (l : List Int) (w : World) (hL : Lst w w.heap.size A c l) (h0 : A = none → c = 0) (hlen : l.length ≤ 200) :
    Calls Try.prog 43 #[.slice A l.length c] w (CopyPost w l) := by
  cases A with
  | none =>
    have hl0 : l = [] := by
      refine List.eq_nil_of_length_eq_zero ?_
      by_cases h1 : 0 < l.length
      · obtain ⟨b, o, e, _⟩ := hL.nums h1
        cases e
      · omega
    subst hl0
    clear hL
    have hq : ∀ W : World, (binOp .eql 22 (.slice none 0 c) (.slice none 0 0)).run Try.prog W = .ok (.bool true) W := fun W => run_eql_slice_nil W _ _ none 0 c Try.underlying22
    obtain rfl := h0 rfl
    go_enter Try.func43, Try.ntmps43
    go_wp2
    go_ret
    exact ⟨_, rfl, World.ownsRow_nil _ _ _ _, Below.refl _ _⟩
  | some ad =>
    have HB := Lib.hid (show Below w.heap.size w (w.alloc (.cells #[] 3)) by go_grown)
    have HL := Lib.hid (hL.to HB.out HB.out.size)
    have HO := Lib.hid (World.ownsRow_lit (base := w.heap.size) (e := 3) (size := 1) w #[] 0 (Nat.le_refl _) (by simp [maxLen]) rfl)
    clear hL h0
    have hq : ∀ W : World, (binOp .eql 22 (.slice (some ad) l.length c) (.slice none 0 0)).run Try.prog W = .ok (.bool false) W := fun W => run_eql_slice_nil W _ _ (some ad) l.length c Try.underlying22
    go_enter Try.func43, Try.ntmps43
    go_wp2_with (at_builtin; refine wpList_append_lst _ rfl _ _ rfl w.heap.size (.slice (some ⟨w.heap.size, 0, none⟩) 0 0) [] rfl HO.out (some ad) c l rfl HL.out (fun h => by cases h) (by simp; omega) (by simp) ?_)
    intro v' w1 hown hg
    have HO2 := Lib.hid hown
    have HG := Lib.hid hg
    clear hown hg
    go_wp2
    go_ret
    exact ⟨_, rfl, by simpa using HO2.out, HB.out.grown HG.out (by simp) (fun q hq => by simp [Value.ownBlock] at hq; omega)⟩
/-- The first of two numbers that lie in a value. -/
theorem idx_pr (x y : Value) (W : World) : (Instr.index 50 (.agg #[x, y]) (.int .i64 0)).run Try.prog W = .ok x W := by
  have h : Try.prog.underlying 50 = some (.array 2 3) := by kernel_rfl
  simp [Instr.index, run_underlying h, asIntOf, go_sem]
/-- The number in a cell. -/
def cI (W : World) (a : Addr) : Int := match W.cell? a with
  | some (.int _ z) => z
  | _ => 0
theorem cI_of {W : World} {a : Addr} {z : Int} (h : W.cell? a = some (.int .i64 z)) : W.cell? a = some (.int .i64 (cI W a)) := by
  rw [h]; simp [cI, h]
/-- What stands while a list of values gets a new one: all of w2; the list, with or without the new value. -/
structure RwP (w2 : World) (q g cap n m : Nat) (L : List Int) (Z : Int) (V : World) : Prop where
  lt : q < V.heap.size
  below : Below w2.heap.size w2 V
  row : ∃ l, (l = L ∨ l = L.set m Z) ∧ V.ownsRow w2.heap.size 3 1 (.slice (some ⟨g, 0, none⟩) n cap) n (l.map (Value.int .i64))
/-- The same, with the box of the change. -/
abbrev RwS (w2 : World) (q g cap n m : Nat) (L : List Int) (Z : Int) (u v y : Value) (V : World) : Prop :=
  V.cell? ⟨q, 0, none⟩ = some u ∧ V.cell? ⟨q, 1, none⟩ = some v ∧ V.cell? ⟨q, 2, none⟩ = some y ∧ V.cell? ⟨g, m, none⟩ = some (.int .i64 (cI V ⟨g, m, none⟩)) ∧ V.frozen? ⟨g, m, none⟩ = false ∧ RwP w2 q g cap n m L Z V
section
variable {w2 V V' : World} {q g cap n m : Nat} {L : List Int} {Z : Int} {u v y : Value}
theorem rw_cell (h : RwP w2 q g cap n m L Z V) (hL : L.length = n) (hm : m < n) : V.cell? ⟨g, m, none⟩ = some (.int .i64 (cI V ⟨g, m, none⟩)) ∧ V.frozen? ⟨g, m, none⟩ = false := by
  obtain ⟨l, hl, ho⟩ := h.row
  have hll : l.length = n := by rcases hl with rfl | rfl <;> simp [hL]
  have z1 := ho.cellAt m (by omega)
  have z2 := ho.frozenAt m
  have hz : (l.map (Value.int .i64))[m]? = some (.int .i64 (ix l m)) := by simp [ix, List.getD, hll, hm]
  rw [hz] at z1
  exact ⟨cI_of z1, z2⟩
theorem RwP.to (h : RwP w2 q g cap n m L Z V) (hb : Below V.heap.size V V') : RwP w2 q g cap n m L Z V' := by
  obtain ⟨l, hl, ho⟩ := h.row
  exact ⟨Nat.lt_of_lt_of_le h.lt hb.size, h.below.trans (hb.mono h.below.size), l, hl, own_to ho hb⟩
theorem RwP.put (h : RwP w2 q g cap n m L Z V) (hg : w2.heap.size ≤ g) : (V.setCell ⟨g, m, none⟩ (.int .i64 Z)).ownsRow w2.heap.size 3 1 (.slice (some ⟨g, 0, none⟩) n cap) n ((L.set m Z).map (Value.int .i64)) := by
  obtain ⟨l, hl, ho⟩ := h.row
  have h1 := (ho.stored m (.int .i64 Z)).1
  rw [← List.map_set] at h1
  have e : l.set m Z = L.set m Z := by rcases hl with rfl | rfl <;> simp
  rw [e] at h1
  exact h1
theorem RwS.to (h : RwS w2 q g cap n m L Z u v y V) (hL : L.length = n) (hm : m < n) (hb : Below V.heap.size V V') : RwS w2 q g cap n m L Z u v y V' := by
  obtain ⟨c0, c1, c2, _, _, hr⟩ := h
  have := rw_cell (hr.to hb) hL hm
  exact ⟨(hb.cell (p := ⟨q, 0, none⟩) hr.lt).trans c0, (hb.cell (p := ⟨q, 1, none⟩) hr.lt).trans c1, (hb.cell (p := ⟨q, 2, none⟩) hr.lt).trans c2, this.1, this.2, hr.to hb⟩
theorem RwS.put (h : RwS w2 q g cap n m L Z u v y V) (hL : L.length = n) (hm : m < n) (hg : w2.heap.size ≤ g) (hq : q ≠ g) : RwS w2 q g cap n m L Z u v y (V.setCell ⟨g, m, none⟩ (.int .i64 Z)) := by
  obtain ⟨c0, c1, c2, _, _, hr⟩ := h
  have hr2 : RwP w2 q g cap n m L Z (V.setCell ⟨g, m, none⟩ (.int .i64 Z)) := ⟨by simpa using hr.lt, hr.below.setCell (p := ⟨g, m, none⟩) hg _, _, .inr rfl, hr.put hg⟩
  have := rw_cell hr2 hL hm
  refine ⟨?_, ?_, ?_, this.1, this.2, hr2⟩
  · rw [World.cell?_setCell_other _ _ _ _ (by first | (simp; done) | (simp; omega))]; exact c0
  · rw [World.cell?_setCell_other _ _ _ _ (by first | (simp; done) | (simp; omega))]; exact c1
  · rw [World.cell?_setCell_other _ _ _ _ (by first | (simp; done) | (simp; omega))]; exact c2
end
/-- A list in a row of its own, and a code. -/
def AfP (w : World) (r : List Int × Int) (e : Ending) (w' : World) : Prop := ∃ v, e = .returned (.tuple #[v, .int .i64 r.2]) ∧ w'.ownsRow w.heap.size 3 1 v r.1.length (r.1.map (Value.int .i64)) ∧ Below w.heap.size w w'
set_option maxHeartbeats 4000000 in
theorem after_any (n : Nat) (hn1 : 1 ≤ n) (hn : n ≤ 8) (o : NOp) (ho : NOpOk n o) (v : List Int) (hv : VOk n v) (a1 a2 av : Option Addr) (c1 c2 cv : Nat) (w : World) (h1 : CmpL w w.heap.size a1 c1 o.pre) (h2 : ChgL w w.heap.size a2 c2 o.ch) (h3 : Lst w w.heap.size av cv v) :
    Calls Try.prog 31 #[.agg #[.slice a1 o.pre.length c1, .slice a2 o.ch.length c2, .int .i64 o.cost], .slice av v.length cv] w (AfP w (naf o v)) := by
  have hvl := hv.len
  subst hvl
  have hav : av = none → cv = 0 := by
    rintro rfl
    obtain ⟨_, _, e, _⟩ := h3.nums.at_ (k := 0) (by omega)
    cases e
  have hlc := Nat.le_trans h2.le h2.max
  unfold maxLen at hlc
  have hb0 : Below w.heap.size w (w.alloc (.cells #[.slice a1 o.pre.length c1, .slice a2 o.ch.length c2, .int .i64 o.cost] 53)) := by go_grown
  have HB0 := Lib.hid hb0
  have HT0 := Lib.hid (tri_new w (.slice a1 o.pre.length c1) (.slice a2 o.ch.length c2) (.int .i64 o.cost) 53)
  have HEX := Lib.hid (exactly_any av cv v (by omega) _ (h3.to hb0 hb0.size))
  have HV0 := Lib.hid (fun (W : World) (h : Below w.heap.size w W) => h3.to h h.size)
  have HC00 := Lib.hid h2
  have HMH := Lib.hid (fun (b : Option Addr) (d : Nat) (W : World) (h : Below w.heap.size w W) (hp : PrL W W.heap.size b d (exl v)) => mayHold_any v.length hn a1 b c1 d o.pre (exl v) ho.pre.2 (exl_ok hv) W (h1.to h h.size) hp)
  have hn1' := poss_ex o.pre v
  have hnaf : naf o v = if sat o.pre v = false then ([], 11) else if okL 1000000 v.length (nvL o.ch v) = false then ([], 10) else (nvL o.ch v, 0) := rfl
  have HCK := Lib.hid ho.ch
  have HVO := Lib.hid (exl_ok hv)
  clear hb0 h1 h2 h3 ho hv
  rw [hn1'] at HMH
  clear hn1'
  cases hs : sat o.pre v
  · rw [hs] at HMH
    have H := Lib.hid (hnaf.trans (if_pos hs))
    clear hs hnaf
    go_enter Try.func31, Try.ntmps31
    go_wp2_with (first | (go_at_call 33; (with_reducible refine HEX.out.mono ?_); rintro e w1 ⟨vv, rfl, ho1, hb1⟩; obtain ⟨b1, d1, rfl, hp1⟩ := owp_prl ho1; have HP1 := Lib.hid hp1; have HB1 := Lib.hid (HB0.out.trans (hb1.mono HB0.out.size)); have HT1 := Lib.hid (HT0.out.to hb1); obtain ⟨_, s0, s1, s2⟩ := HT1.out; clear ho1 hp1 hb1) | (go_at_call 32; (with_reducible refine (HMH.out _ _ _ HB1.out HP1.out).mono ?_); rintro e w2 ⟨rfl, hb2⟩; have HP2 := Lib.hid (HP1.out.to hb2 hb2.size); have HB2 := Lib.hid (HB1.out.trans (hb2.mono HB1.out.size)); have HT2 := Lib.hid (HT1.out.to hb2); obtain ⟨_, t0, t1, t2⟩ := HT2.out; clear hb2))
    refine post_two Try.results31 ?_
    rw [H.out]
    exact ⟨_, rfl, World.ownsRow_nil _ _ _ _, HB2.out⟩
  rw [hs] at HMH
  rw [if_neg (by rw [hs]; simp)] at hnaf
  clear hs
  have HN := Lib.hid hnaf
  clear hnaf
  go_enter Try.func31, Try.ntmps31
  go_wp2_with (first | (go_at_call 33; (with_reducible refine HEX.out.mono ?_); rintro e w1 ⟨vv, rfl, ho1, hb1⟩; obtain ⟨b1, d1, rfl, hp1⟩ := owp_prl ho1; have HP1 := Lib.hid hp1; have HB1 := Lib.hid (HB0.out.trans (hb1.mono HB0.out.size)); have HT1 := Lib.hid (HT0.out.to hb1); obtain ⟨_, s0, s1, s2⟩ := HT1.out; clear ho1 hp1 hb1) | (go_at_call 32; (with_reducible refine (HMH.out _ _ _ HB1.out HP1.out).mono ?_); rintro e w2 ⟨rfl, hb2⟩; have HP2 := Lib.hid (HP1.out.to hb2 hb2.size); have HB2 := Lib.hid (HB1.out.trans (hb2.mono HB1.out.size)); have HT2 := Lib.hid (HT1.out.to hb2); obtain ⟨_, t0, t1, t2⟩ := HT2.out; clear hb2) | (go_at_call 43; (with_reducible refine (clone_any av cv v _ (HV0.out _ HB2.out) hav (by omega)).mono ?_); rintro e w3 ⟨v3, rfl, ho3, hb3⟩; obtain ⟨g, cap, rfl, hg1, hg2⟩ := own_some1 ho3 (by omega); have HO3 := Lib.hid ho3; have HB3 := Lib.hid hb3; have HT3 := Lib.hid (HT2.out.to hb3); obtain ⟨_, u0, u1, u2⟩ := HT3.out; clear ho3 hb3))
  go_loopw [22] (fun i wr => ∃ k : Nat, k ≤ o.ch.length ∧ i = .int .i64 k ∧ Below w2.heap.size w2 wr ∧ wr.ownsRow w2.heap.size 3 1 (.slice (some ⟨g, 0, none⟩) v.length cap) v.length ((nxK o.ch v k).map (Value.int .i64))) (fun i _ => o.ch.length - (intOf i).toNat)
  case atStart => exact ⟨0, by omega, rfl, HB3.out, by rw [nxK_0]; exact HO3.out⟩
  case round =>
    obtain ⟨k, hk, rfl, hb, hrow⟩ := hrel
    have HB := Lib.hid hb
    have HO := Lib.hid hrow
    have HBW := Lib.hid (HB2.out.trans (hb.mono HB2.out.size))
    clear hb hrow HT3 u0 u1 u2 HB3 HO3
    have HT4 := Lib.hid (HT2.out.to HB.out)
    obtain ⟨_, u0, u1, u2⟩ := HT4.out
    by_cases hlt : k < o.ch.length
    case neg =>
      have hge : ¬ ((k : Int) < o.ch.length) := by omega
      have hke : k = o.ch.length := by omega
      have hrow2 := HO.out
      rw [hke, nxK_all] at hrow2
      have HOF := Lib.hid hrow2
      have HBF := HBW
      have hln := nvL_len o.ch v
      have HLF := Lib.hid (own_l2 (l := nvL o.ch v) (a := some ⟨g, 0, none⟩) (c := cap) (base := w2.heap.size) (by rw [hln]; exact hrow2))
      clear hke hrow2 hlt
      have hnl : okL 1000000 v.length (nvL o.ch v) = okL 1000000 v.length (nvL o.ch v) := rfl
      have HNL := Lib.hid hln
      have HIL := Lib.hid (fun (W : World) (h : Lst W W.heap.size (some ⟨g, 0, none⟩) cap (nvL o.ch v)) => isList_any (some ⟨g, 0, none⟩) cap (nvL o.ch v) v.length 1000000 (by omega) (by omega) W h)
      rw [hln] at HIL
      cases hok : okL 1000000 v.length (nvL o.ch v)
      · rw [hok] at HIL HN
        rw [if_pos rfl] at HN
        clear hok hnl hln
        go_wp2_with (go_at_call 27; (with_reducible refine (HIL.out _ HLF.out).mono ?_); rintro e w8 ⟨rfl, hb8⟩; have HO8 := Lib.hid (own_to HOF.out hb8); have HB8 := Lib.hid (HBF.out.trans (hb8.mono HBF.out.size)); clear hb8)
        refine post_two Try.results31 ?_
        rw [HN.out]
        exact ⟨_, rfl, World.ownsRow_nil _ _ _ _, HB8.out⟩
      · rw [hok] at HIL HN
        rw [if_neg (by simp)] at HN
        clear hok hnl hln
        go_wp2_with (go_at_call 27; (with_reducible refine (HIL.out _ HLF.out).mono ?_); rintro e w8 ⟨rfl, hb8⟩; have HO8 := Lib.hid (own_to HOF.out hb8); have HB8 := Lib.hid (HBF.out.trans (hb8.mono HBF.out.size)); clear hb8)
        refine post_two Try.results31 ?_
        rw [HN.out]
        refine ⟨_, rfl, ?_, HB8.out⟩
        show w8.ownsRow w.heap.size _ 1 _ (nvL o.ch v).length ((nvL o.ch v).map (Value.int .i64))
        rw [HNL.out]
        exact own_mono HO8.out HB2.out.size
    case pos =>
      obtain ⟨bb, p, ac, cc, hA, hbl, hqw, hf⟩ := HC00.out.at_ hlt
      have hq := hqw.to HBW.out hbl
      subst hA
      have hck := HCK.out k hlt
      obtain ⟨m, cf, k0, hC, hm⟩ : ∃ (m : Nat) (cf : List Int) (k0 : Int), chg o.ch k = ⟨(m : Int), cf, k0⟩ ∧ m < v.length := by
        have := hck.v
        refine ⟨(chg o.ch k).v.toNat, (chg o.ch k).f, (chg o.ch k).c, ?_, by omega⟩
        rw [Int.toNat_of_nonneg this.1]
      have HST := Lib.hid (nxK_step (v := v) hC)
      rw [hC] at hq hf hck
      obtain ⟨q0, q1, q2⟩ := hq
      simp only at q0 q1 q2 hf
      have hbx : Below wr.heap.size wr (wr.alloc (.cells #[.int .i64 (m : Int), .slice ac cf.length cc, .int .i64 k0] 55)) := by go_grown
      have HQ := Lib.hid (tri_new wr (.int .i64 (m : Int)) (.slice ac cf.length cc) (.int .i64 k0) 55)
      have HBQ := Lib.hid (HB.out.trans (hbx.mono HB.out.size))
      have HOQ := Lib.hid (own_to HO.out hbx)
      have hwlt : wr.heap.size < (wr.alloc (.cells #[.int .i64 (m : Int), .slice ac cf.length cc, .int .i64 k0] 55)).heap.size := by simp
      have hgl : g < wr.heap.size := (HO.out.lt g rfl).2
      have HGG := Lib.hid hg1
      have HGN := Lib.hid (show wr.heap.size ≠ g by omega)
      have HCH := Lib.hid (fun (V : World) (h : Below w2.heap.size w2 V) => changed_any v.length hn ⟨(m : Int), cf, k0⟩ hck ac b1 cc d1 (exl v) HVO.out V (hf.to (HB2.out.trans (h.mono HB2.out.size)) (HB2.out.trans (h.mono HB2.out.size)).size) (HP2.out.to h h.size))
      rw [lowS_ex, highS_ex] at HCH
      clear hbx hf hqw hC
      go_wp2
      generalize hWQ : wr.alloc (.cells #[.int .i64 (m : Int), .slice ac cf.length cc, .int .i64 k0] 55) = wq at *
      have HWQ := Lib.hid hWQ
      clear hWQ
      have hnl := nxK_len o.ch v k
      have hml : (m : Int) < (v.length : Int) := by omega
      generalize hZ : sm cf v + k0 = Z at *
      have HZ := Lib.hid hZ
      clear hZ
      have hrp : RwP w2 wr.heap.size g cap v.length m (nxK o.ch v k) Z wq := ⟨hwlt, HBQ.out, _, .inl rfl, HOQ.out⟩
      have HSW := Lib.hid (show RwS w2 wr.heap.size g cap v.length m (nxK o.ch v k) Z (.int .i64 (m : Int)) (.slice ac cf.length cc) (.int .i64 k0) wq from ⟨HQ.out.c0, HQ.out.c1, HQ.out.c2, (rw_cell hrp hnl hm).1, (rw_cell hrp hnl hm).2, hrp⟩)
      have hix := idx_pr
      have HRP := Lib.hid hrp
      clear hck hrp
      have HNL := Lib.hid hnl
      go_region_held3 (fun V => V.cell? ⟨wr.heap.size, 0, none⟩ = some (.int .i64 (m : Int)) ∧ V.cell? ⟨wr.heap.size, 1, none⟩ = some (.slice ac cf.length cc) ∧ V.cell? ⟨wr.heap.size, 2, none⟩ = some (.int .i64 k0) ∧ V.cell? ⟨g, m, none⟩ = some (.int .i64 (cI V ⟨g, m, none⟩)) ∧ V.frozen? ⟨g, m, none⟩ = false ∧ RwP w2 wr.heap.size g cap v.length m (nxK o.ch v k) Z V) (first | assumption | (refine ⟨?_, ?_, ?_, ?_, ?_, ?_⟩ <;> assumption) | (exact HSW.out) | (exact HSW.out.to hnl hm (Below.refl _ _).drew) | (exact RwS.to (by assumption) hnl hm (by assumption)) | (exact RwS.put (by assumption) hnl hm HGG.out HGN.out)) (first | (go_at_call 44; (with_reducible refine (HCH.out _ ?_).mono ?_); (exact RwP.below (last6n (by assumption))); rintro e w5 ⟨rfl, hb⟩))
      all_goals
        have hr5 : RwP w2 wr.heap.size g cap v.length m (nxK o.ch v k) Z w5 := (HRP.out.to (Below.refl _ _).drew).to hb
        have HR5 := Lib.hid (hr5.put HGG.out)
        have HB5 := Lib.hid (hr5.below.setCell (p := ⟨g, m, none⟩) HGG.out (.int .i64 Z))
        clear hr5
        rw [HST.out] at HR5
        go_wp2
        go_roundw
        case rel => exact ⟨k + 1, by omega, by go_num, HB5.out, HR5.out⟩
        case measure => simp [intOf]; omega
end Go.Proofs.Ytiafplmaigpmeaa

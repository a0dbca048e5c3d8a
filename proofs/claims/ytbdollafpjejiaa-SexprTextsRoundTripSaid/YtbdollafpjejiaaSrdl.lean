/- The reader's method list. -/
import Derived.Test.YtbdollafpjejiaaSrsy
namespace Go.Proofs.Ytbdollafpjejiaa
open Go.RowKit Go.Shelf
set_option linter.unusedSimpArgs false
set_option linter.unusedVariables false
set_option maxRecDepth 100000

theorem kind_grown {w w' : World} {B k : Nat} {e T : TypeId} {size : Nat} {u : Value} {n : Nat} {xs : List Value} {c0 : Array Value} {f0 : Nat × Nat} (h : w.heap[k]? = some (.cells c0 T f0)) (hu : w.ownsRow B e size u n xs) (he : T ≠ e) (hg : w.grownBy w' u.ownBlock) :
    w'.heap[k]? = some (.cells c0 T f0) := by
  refine (hg.block k (Array.getElem?_eq_some_iff.1 h).1 (fun e1 => ?_)).trans h
  obtain ⟨c, fz, h1⟩ := own_kind hu k e1.symm
  rw [h] at h1
  simp at h1
  exact he h1.2.1
theorem cell_new (w : World) (cs : Array Value) (T : TypeId) (n j : Nat) (h : n = w.heap.size) : (w.alloc (.cells cs T)).cell? ⟨n, j, none⟩ = cs[j]? := by
  subst h
  exact Lib.cell_of_heap (heap_alloc_new w _) j
theorem own_slice {w : World} {B : Nat} {e : TypeId} {size : Nat} {v : Value} {n : Nat} {xs : List Value} (h : w.ownsRow B e size v n xs) : ∃ A c, v = .slice A n c := by
  rcases h.2 with ⟨rfl, h0⟩ | ⟨q, cap, cur, rfl, _⟩
  · exact ⟨none, 0, by rw [h0]⟩
  · exact ⟨_, _, rfl⟩
theorem own_lower {w : World} {B B' : Nat} {e : TypeId} {size : Nat} {v : Value} {n : Nat} {xs : List Value} (h : w.ownsRow B e size v n xs) (hB : B' ≤ B) : w.ownsRow B' e size v n xs := by
  refine ⟨h.1, ?_⟩
  rcases h.2 with hn | ⟨q, cap, cur, hv, hb, r⟩
  · exact .inl hn
  · exact .inr ⟨q, cap, cur, hv, Nat.le_trans hB hb, r⟩
def LInv (B g : Nat) (s : ByteArray) (ex : Nat → List Nd → RdRes) (X : Nat → Prop) (w : World) (R : RdRes) (cv : Value) (W : World) : Prop :=
  ∃ f a cs ns, R = rdLoop s ex f a cs ns ∧ s.size < f + a ∧ Rdr W B g s a ns (fun b => X b ∨ cv.ownBlock = some b) ∧ W.ownsRow w.heap.size IT 1 cv cs.length (cs.map (Value.int .i64)) ∧
    FB W w.heap.size (.int .i64 0) (.int .i64 0) ∧ Fr B g w W ∧ cs.length ≤ ns.length
abbrev ExCall (B g : Nat) (s : ByteArray) (l : Int) (ex : Nat → List Nd → RdRes) : Prop := ∀ (a : Nat) (ns : List Nd) (X : Nat → Prop) (W : World), (∀ b, X b → b < W.heap.size) → Rdr W B g s a ns X →
  Calls Try.prog 28 #[.pointer (some ⟨g, 0, none⟩), .int .i64 l] W (RdPost B g s X (ex a ns) W)

set_option maxHeartbeats 1000000 in
theorem listR_any (B g : Nat) (s : ByteArray) (lists : Int) (ex : Nat → List Nd → RdRes) (hs : s.size ≤ 4096) (hadv : ∀ a ns, a ≤ s.size → Adv s a ns (ex a ns))
    (herr : ∀ a ns c i, a ≤ s.size → ex a ns = .error (c, i) → c ≠ 0) (hex : ExCall B g s (lists + 1) ex) (hl0 : 0 ≤ lists) (hl1 : lists ≤ 12)
    (a : Nat) (ns : List Nd) (X : Nat → Prop) (w : World) (ha : a < s.size) (hX : ∀ b, X b → b < w.heap.size) (h : Rdr w B g s a ns X) :
    Calls Try.prog 37 #[.pointer (some ⟨g, 0, none⟩), .int .i64 lists] w (RdPost B g s X (rdLoop s ex (s.size + 1) (a + 1) [] ns) w) := by
  obtain ⟨hlo, hnl, hal, v, hR, hN⟩ := h
  have HX := Lib.hid hX
  have HA := Lib.hid hadv
  have HE := Lib.hid herr
  have HC := Lib.hid hex
  clear hX hadv herr hex
  have c1 := hR.c1
  have f1 := hR.f 1
  have hlt := hR.lt
  have HR := Lib.hid hR
  have HN := Lib.hid hN
  clear hR hN
  have hg0 : g ≠ w.heap.size := by omega
  have hg1 : w.heap.size ≠ g := by omega
  go_enter Try.func37, Try.ntmps37
  go_wp2_with fail
  generalize hW0 : (World.alloc _ _ : World) = W0
  have hI : LInv B g s ex X w (rdLoop s ex (s.size + 1) (a + 1) [] ns) (.slice none 0 0) W0 := by
    rw [← hW0]
    have hO := (Only.refl g w).setCell (p := ⟨g, 1, none⟩) rfl (.int .i64 ((a + 1 : Nat) : Int))
    have hB1 : Below (w.setCell ⟨g, 1, none⟩ (.int .i64 ((a + 1 : Nat) : Int))).heap.size (w.setCell ⟨g, 1, none⟩ (.int .i64 ((a + 1 : Nat) : Int))) ((w.setCell ⟨g, 1, none⟩ (.int .i64 ((a + 1 : Nat) : Int))).alloc (.cells #[.int .i64 0, .int .i64 0] 25)) := (Below.refl _ _).alloc (Nat.le_refl _) _
    have hF := fb_new (w.setCell ⟨g, 1, none⟩ (.int .i64 ((a + 1 : Nat) : Int))) (.int .i64 0) (.int .i64 0)
    have hz : (w.setCell ⟨g, 1, none⟩ (.int .i64 ((a + 1 : Nat) : Int))).heap.size = w.heap.size := hO.size
    rw [hz] at hF
    refine ⟨s.size + 1, a + 1, [], ns, rfl, by omega, ⟨hlo, by omega, by omega, v, (HR.out.set1 (a + 1)).below hB1, ?_⟩, World.ownsRow_nil _ _ _ _, hF, ?_, by simp⟩
    · refine ((HN.out.only hO HR.out).below hB1).weaken (fun b _ hb => ?_)
      rcases hb with hb | hb
      · exact hb
      · simp [Value.ownBlock] at hb
    · exact (Fr.of_only hO hlo).trans (Fr.of_below hB1 (by rw [hz]; omega))
  clear hW0 c1 f1
  go_loopw [5] (fun cv W => LInv B g s ex X w (rdLoop s ex (s.size + 1) (a + 1) [] ns) cv W) (fun _ W => s.size - rdPos g W)
  case atStart => exact hI
  case round =>
    clear hI
    obtain ⟨f, a', cs, ns', hr, hf, ⟨_, hnl', hal', v', hR', hN'⟩, hcv, hfb, hfr, hcn⟩ := hrel
    obtain ⟨f, rfl⟩ : ∃ f', f = f' + 1 := ⟨f - 1, by omega⟩
    have hge := nx_ge s a'
    have hle := nx_le hal'
    have HR' := Lib.hid hR'
    have HN' := Lib.hid hN'
    have HCV := Lib.hid hcv
    have HFB := Lib.hid hfb
    have HFR := Lib.hid hfr
    have hp := Lib.hid (rdPos_eq hR')
    clear hR' hN' hcv hfb hfr
    by_cases hb : nb s (nx s a') = 41
    · have HQ := Lib.hid (show rdLoop s ex (s.size + 1) (a + 1) [] ns = .ok (nx s a' + 1, ns' ++ [(⟨#[]⟩, cs)]) by rw [hr, rdLoop, hb]; rfl)
      have hin : nx s a' < s.size := nb_in (by omega)
      have hb1 : ((nb s (nx s a') : Int) != 41) = false := by simp; omega
      clear hr hb
      obtain ⟨A5, c5, rfl⟩ := own_slice HCV.out
      go_wp2_with (go_at_call 29; refine (next_any g s a' v' _ (by unfold maxLen; omega) hal' HR'.out).mono ?_)
      rintro e W1 ⟨rfl, hR1, hO1⟩
      have hz1 := Nat.le_of_eq hO1.size.symm
      have HR1 := Lib.hid hR1
      have HN1 := Lib.hid ((HN'.out.only hO1 HR'.out))
      have HCV1 := Lib.hid (own_others HCV.out hO1.others (by decide) (by decide) HR'.out)
      have HFB1 := Lib.hid (HFB.out.fr hO1.others hg1)
      have HFR1 := Lib.hid (HFR.out.trans (Fr.of_only hO1 hlo))
      clear hR1 hO1
      have c1 := HR1.out.c1
      have f1 := HR1.out.f 1
      have c2 := HR1.out.c2
      have f2 := HR1.out.f 2
      have tl := HFB1.out.lt
      obtain ⟨i0, hi, hi0, hi1, hi2⟩ := info_parts info_node
      obtain ⟨kv, hkv, hown, hkid, hsz⟩ := HN1.out
      have HK := Lib.hid hkid
      have HZ := Lib.hid hsz
      have HL := Lib.hid hkv
      clear hkid hsz hkv
      have hO2 := (Only.refl g W1).setCell (p := ⟨g, 1, none⟩) rfl (.int .i64 ((nx s a' : Int) + 1))
      have hown2 := hown.kept hO2.grown (.inr (fun e1 => by
        obtain ⟨c', fz', h4⟩ := own_kind hown g e1
        have h5 := HR1.out
        unfold RdB at h5
        rw [h5] at h4
        simp at h4
        exact absurd h4.2.1 (by decide)))
      have HO2 := Lib.hid hO2
      have HW2 := Lib.hid hown2
      clear hO2 hown2
      go_wp2_with (at_builtin; refine wpList_append_own _ rfl _ _ 22 rfl B ST i0 (.agg #[.string ⟨#[]⟩, .slice none 0 0]) 2 40 Try.underlying22 hi hi0 hi1 hi2 rfl (by decide) _ _ _ rfl (HW2.out.alloc _) ⟨W1.heap.size, 0, none⟩ 1 1 [.string ⟨#[]⟩, .slice A5 cs.length c5] rfl rfl ?d1 ?d2 ?d3 ?d4 ?d5 ?_)
      case d1 =>
        intro j u hj
        rw [Addr.add_lit, cell_new _ _ _ _ _ (by simp [World.setCell])]
        simpa using hj
      case d2 => intro u hu; simp at hu; rcases hu with rfl | rfl <;> rfl
      case d3 => unfold maxLen; omega
      case d4 => omega
      case d5 => simp; omega
      have hza : W1.heap.size = (W1.setCell ⟨g, 1, none⟩ (.int .i64 ((nx s a' : Int) + 1))).heap.size := by simp [World.setCell]
      have HZA := Lib.hid hza
      have HR2 := Lib.hid (HR1.out.set1 (nx s a' + 1))
      have HFB2 := Lib.hid (HFB1.out.far (p := ⟨g, 1, none⟩) hg0 (.int .i64 ((nx s a' : Int) + 1)))
      have HCV2 := Lib.hid (own_others HCV1.out HO2.out.others (by decide) (by decide) HR1.out)
      have HK2 : Kids (W1.setCell ⟨g, 1, none⟩ (.int .i64 ((nx s a' : Int) + 1))) B kv ns' (fun b => X b ∨ (Value.slice A5 cs.length c5).ownBlock = some b) :=
        fun k hk => ⟨own_others (HK.out k hk).1 HO2.out.others (by decide) (by decide) HR1.out, (HK.out k hk).2⟩
      have HFR2 := Lib.hid (HFR1.out.trans (Fr.of_only HO2.out hlo))
      generalize hB0 : World.setCell W1 ⟨g, 1, none⟩ (.int .i64 ((nx s a' : Int) + 1)) = wb at HW2 HO2 HZA HFB2 HCV2 HK2 HFR2 ⊢
      have HR2 := Lib.hid (show RdB wb g s (nx s a' + 1) v' by rw [← hB0]; exact HR2.out)
      generalize hA0 : World.alloc wb _ = wa
      have hBa : Below wb.heap.size wb wa := by rw [← hA0]; exact (Below.refl _ _).alloc (Nat.le_refl _) _
      have HOa := Lib.hid (show wa.ownsRow B ST 2 v' ns'.length (ncells ns' kv) by rw [← hA0]; exact HW2.out.alloc _)
      have HCa := Lib.hid (show wa.ownsRow w.heap.size IT 1 (.slice A5 cs.length c5) cs.length (cs.map (Value.int .i64)) by rw [← hA0]; exact HCV2.out.alloc _)
      have hKa : Kids wa B kv ns' (fun b => X b ∨ (Value.slice A5 cs.length c5).ownBlock = some b) := fun k hk => ⟨by rw [← hA0]; exact (HK2 k hk).1.alloc _, (HK2 k hk).2⟩
      have HKa := Lib.hid hKa
      have HBa := Lib.hid hBa
      have hza := hBa.size
      have hzb := Nat.le_of_eq HZA.out
      clear hA0 hBa hKa HK2 hB0 c1 c2 f1 f2
      intro v3 w3 hown' hgrow _
      obtain ⟨A3, c3, rfl⟩ := own_slice hown'
      have HN3 := Lib.hid (NOwn.snoc (X := X) (n := (⟨#[]⟩, cs)) HL.out HOa.out (fun k hk => ⟨(HKa.out k hk).1, fun b hb hx => (HKa.out k hk).2 b hb (.inl hx)⟩) HZ.out hgrow (own_lower HCa.out (by omega)) (fun b hb hx => by
        have h1 := HX.out b hx
        have h2 := (HCa.out.lt b hb).1
        omega) (by show 0 ≤ _; exact Nat.zero_le _) hown')
      have HR3 := Lib.hid (show RdB w3 g s (nx s a' + 1) v' from kind_grown (HR2.out.below HBa.out) HOa.out (by decide) hgrow)
      have HFB3 := Lib.hid (show FB w3 w.heap.size (.int .i64 0) (.int .i64 0) from kind_grown (HFB2.out.below HBa.out) HOa.out (by decide) hgrow)
      have HF3 := Lib.hid ((HFR2.out.trans (Fr.of_below HBa.out (by omega))).grown (by omega) HOa.out hgrow)
      clear hgrow hown'
      have c0 := HR3.out.c0
      have c1 := HR3.out.c1
      have c2 := HR3.out.c2
      have f1 := HR3.out.f 1
      have f2 := HR3.out.f 2
      have t0 := HFB3.out.two.fst
      have t1 := HFB3.out.two.snd
      have tf0 := HFB3.out.two.ffst
      have tf1 := HFB3.out.two.fsnd
      go_wp2
      have hRf := (HR3.out.set2 (.slice A3 (ns'.length + 1) c3)).far (p := ⟨w.heap.size, 0, none⟩) hg1 (.int .i64 0) |>.far (p := ⟨w.heap.size, 1, none⟩) hg1 (.int .i64 0)
      refine post_fault (g := w.heap.size) (x := .int .i64 0) (y := .int .i64 0) Try.results37 rfl ?_ ?_
      · have hT3 := HFB3.out.two
        (repeat' (first | (with_reducible assumption) | (with_reducible exact two_new _ _ _ _) | (with_reducible exact (two_new _ _ _ _).pair) | (with_reducible exact Two.pair ‹_›) | (with_reducible refine Pair.set ?_ _ _) | (with_reducible refine Two.alloc ?_ _) | (with_reducible refine Pair.alloc ?_ _) | (with_reducible refine two1 ?_) | (with_reducible refine twoN ?_ _) | (with_reducible refine Pair.drew ?_) | (with_reducible refine Pair.drewN ?_ _) | (with_reducible refine Two.far ?_ ?_ _) | (with_reducible refine Pair.far ?_ ?_ _) | (simp; omega)))
      · refine ⟨?_, ?_⟩
        · exact ((HF3.out.setCell (p := ⟨g, 2, none⟩) rfl hlo _).setNew (p := ⟨w.heap.size, 0, none⟩) (Nat.le_refl _) (by omega) _).setNew (p := ⟨w.heap.size, 1, none⟩) (Nat.le_refl _) (by omega) _
        · rw [HQ.out]
          refine ⟨rfl, hlo, by simp; omega, by omega, _, hRf, ?_⟩
          have hA := HN3.out.only ((Only.refl g _).setCell (p := ⟨g, 2, none⟩) rfl (.slice A3 (ns'.length + 1) c3)) HR3.out
          have hB := HFB3.out.far (p := ⟨g, 2, none⟩) hg0 (.slice A3 (ns'.length + 1) c3)
          exact (hA.setCell (p := ⟨w.heap.size, 0, none⟩) hB (by decide) (by decide) _).setCell (p := ⟨w.heap.size, 1, none⟩) (hB.set0 _) (by decide) (by decide) _
    · have HQ := Lib.hid (show rdLoop s ex (s.size + 1) (a + 1) [] ns = match ex (nx s a') ns' with | .error e => .error e | .ok (a1, n1) => rdLoop s ex f a1 (cs ++ [(n1.length : Int) - 1]) n1 by
        have hb2 : (nb s (nx s a') == 41) = false := by simpa using hb
        rw [hr, rdLoop, hb2]; rfl)
      have hb1 : ((nb s (nx s a') : Int) != 41) = true := by simp; omega
      clear hr hb
      go_wp2_with (go_at_call 29; refine (next_any g s a' v' _ (by unfold maxLen; omega) hal' HR'.out).mono ?_)
      rintro e W1 ⟨rfl, hR1, hO1⟩
      have hz1 := Nat.le_of_eq hO1.size.symm
      have HR1 := Lib.hid hR1
      have HN1 := Lib.hid (HN'.out.only hO1 HR'.out)
      have HO1 := Lib.hid hO1
      have HCV1 := Lib.hid (own_others HCV.out hO1.others (by decide) (by decide) HR'.out)
      have HFB1 := Lib.hid (HFB.out.fr hO1.others hg1)
      have HFR1 := Lib.hid (HFR.out.trans (Fr.of_only hO1 hlo))
      have hX1 : ∀ b, (X b ∨ u5.ownBlock = some b) → b < W1.heap.size := by
        intro b hb
        have h1 := HFR1.out.below.size
        rcases hb with hb | hb
        · exact Nat.lt_of_lt_of_le (HX.out b hb) h1
        · exact (HCV1.out.lt b hb).2
      have hcall := HC.out (nx s a') ns' (fun b => X b ∨ u5.ownBlock = some b) W1 hX1 ⟨hlo, by omega, hle, v', hR1, HN1.out⟩
      clear hR1 hO1 hX1
      cases hexr : ex (nx s a') ns' with
      | error er =>
        obtain ⟨c, i⟩ := er
        have HZ := Lib.hid (HE.out _ _ c i hle hexr)
        rw [hexr] at HQ hcall
        clear hexr
        go_wp2_with (go_at_call 28; refine hcall.mono ?_)
        rintro e W2 ⟨hF2, rfl⟩
        have HFB2 := Lib.hid (HFB1.out.fr hF2.others hg1)
        have HFR2 := Lib.hid (HFR1.out.trans hF2)
        have hz2 := hF2.below.size
        clear hF2
        have t0 := HFB2.out.two.fst
        have t1 := HFB2.out.two.snd
        have tf0 := HFB2.out.two.ffst
        have tf1 := HFB2.out.two.fsnd
        have tl := HFB2.out.lt
        have hc1 : (c == 0) = false := by have := HZ.out; simpa using this
        have hc2 : ¬ c = 0 := HZ.out
        go_wp2_with fail
        refine post_fault (g := w.heap.size) (x := .int .i64 c) (y := .int .i64 i) Try.results37 rfl ?_ ?_
        · have hT := HFB2.out.two
          (repeat' (first | (with_reducible assumption) | (with_reducible exact two_new _ _ _ _) | (with_reducible exact (two_new _ _ _ _).pair) | (with_reducible exact Two.pair ‹_›) | (with_reducible refine Pair.set ?_ _ _) | (with_reducible refine Two.alloc ?_ _) | (with_reducible refine Pair.alloc ?_ _) | (with_reducible refine two1 ?_) | (with_reducible refine twoN ?_ _) | (with_reducible refine Pair.drew ?_) | (with_reducible refine Pair.drewN ?_ _) | (with_reducible refine Two.far ?_ ?_ _) | (with_reducible refine Pair.far ?_ ?_ _) | (simp; omega)))
        · rw [HQ.out]
          refine ⟨?_, rfl⟩
          exact ((HFR2.out.setNew (p := ⟨w.heap.size, 0, none⟩) (Nat.le_refl _) (by omega) _).setNew (p := ⟨w.heap.size, 1, none⟩) (Nat.le_refl _) (by omega) _).alloc (by omega) _
      | ok pr =>
        obtain ⟨a1, n1⟩ := pr
        have hA := HA.out _ _ hle _ _ hexr
        rw [hexr] at HQ hcall
        clear hexr
        go_wp2_with (go_at_call 28; refine hcall.mono ?_)
        rintro e W2 ⟨hF2, rfl, hr2⟩
        obtain ⟨_, hnl2, hal2, v2, hR2, hN2⟩ := hr2
        obtain ⟨A2, cc2, rfl⟩ := hN2.slice
        have HFB2 := Lib.hid (HFB1.out.fr hF2.others hg1)
        have HFR2 := Lib.hid (HFR1.out.trans hF2)
        have HCV2 := Lib.hid (own_others HCV1.out hF2.others (by decide) (by decide) HR1.out)
        have HR2 := Lib.hid hR2
        have HN2 := Lib.hid hN2
        have hz2 := hF2.below.size
        clear hF2 hR2 hN2
        have c2 := HR2.out.c2
        have tl := HFB2.out.lt
        have hgl := HR2.out.lt
        obtain ⟨i0, hi, hi0, hi1, hi2⟩ := info_parts info_int
        go_wp2_with (at_builtin; refine wpList_append_own_at _ rfl _ _ 35 rfl w.heap.size IT i0 (.int .i64 0) 1 8 Try.underlying35 hi hi0 hi1 hi2 rfl (by decide) _ _ _ rfl ((HCV2.out.alloc _).alloc _) ⟨W2.heap.size + 1, 0, none⟩ 1 1 [.int .i64 ((n1.length : Int) - 1)] rfl rfl ?d1 ?d2 ?d3 ?d4 ?d5 ?_)
        case d1 =>
          intro j u hj
          match j, hj with
          | 0, hj => simp at hj; subst hj; simp [Addr.add]
        case d2 => intro u hu; simp at hu; subst hu; rfl
        case d3 => unfold maxLen; omega
        case d4 => omega
        case d5 => simp; omega
        generalize hA0 : World.alloc (World.alloc W2 _) _ = wa
        have hBa : Below W2.heap.size W2 wa := by rw [← hA0]; exact ((Below.refl _ _).alloc (Nat.le_refl _) _).alloc (by simp) _
        have hCa : wa.ownsRow w.heap.size IT 1 u5 cs.length (cs.map (Value.int .i64)) := by rw [← hA0]; exact (HCV2.out.alloc _).alloc _
        have HBa := Lib.hid hBa
        have HCa := Lib.hid hCa
        have hza := hBa.size
        have hza2 : wa.heap.size = W2.heap.size + 1 + 1 := by rw [← hA0]; simp
        have HZA := Lib.hid hza2
        clear hza2 hA0 hBa hCa c2
        intro v' w3 hown' hgrow _ hat
        have hN3 : NOwn w3 B (.slice A2 n1.length cc2) n1 (fun b => X b ∨ v'.ownBlock = some b) := by
          have h1 := HN2.out.below HBa.out
          have h2 := h1.weaken (Y := fun b => X b ∨ u5.ownBlock = some b ∨ v'.ownBlock = some b) (fun b hb hy => by
            rcases hy with hy | hy | hy
            · exact .inl hy
            · exact .inr hy
            · rcases hat with h | h
              · exact .inr (h ▸ hy)
              · rw [hy] at h; have := Option.some.inj h; have := HZA.out; omega)
          have h3 := h2.grownX HCa.out hgrow (fun b hb => .inr (.inl hb))
          exact h3.weaken (fun b _ hy => by
            rcases hy with hy | hy
            · exact .inl hy
            · exact .inr (.inr hy))
        have hI3 : LInv B g s ex X w (rdLoop s ex (s.size + 1) (a + 1) [] ns) v' w3 := by
          refine ⟨f, a1, cs ++ [(n1.length : Int) - 1], n1, HQ.out, by omega, ⟨hlo, hnl2, hal2, _, kind_grown (HR2.out.below HBa.out) HCa.out (by decide) hgrow, hN3⟩, by simpa using hown', kind_grown (HFB2.out.below HBa.out) HCa.out (by decide) hgrow, ?_, by simp; omega⟩
          exact (HFR2.out.trans (Fr.of_below HBa.out (by omega))).grownNew (by omega) hgrow (fun k hk => (HCa.out.lt k hk).1)
        have HP3 := Lib.hid (rdPos_eq (kind_grown (HR2.out.below HBa.out) HCa.out (by decide) hgrow : RdB w3 g s a1 _))
        have HI3 := Lib.hid hI3
        clear hown' hgrow hat hN3 hI3
        go_wp2
        go_roundw
        case rel => exact HI3.out
        case measure =>
          have e1 := hp.out
          have e2 := HP3.out
          show s.size - rdPos g w3 < s.size - rdPos g wr
          rw [e1, e2]
          omega
end Go.Proofs.Ytbdollafpjejiaa

/- The reader's method expression. -/
import Derived.Test.YtbdollafpjejiaaSrdl
namespace Go.Proofs.Ytbdollafpjejiaa
open Go.RowKit Go.Shelf
set_option linter.unusedSimpArgs false
set_option linter.unusedVariables false
set_option maxRecDepth 100000

theorem rdLoop_err {s : ByteArray} {ex : Nat → List Nd → RdRes} (hex : ∀ a ns, a ≤ s.size → Adv s a ns (ex a ns)) (herr : ∀ a ns c i, a ≤ s.size → ex a ns = .error (c, i) → c ≠ 0) :
    ∀ f a cs ns c i, a ≤ s.size → s.size < f + a → rdLoop s ex f a cs ns = .error (c, i) → c ≠ 0
  | 0, a, cs, ns, c, i, ha, hf, _ => by omega
  | f + 1, a, cs, ns, c, i, ha, hf, h => by
    have hge := nx_ge s a
    have hle := nx_le ha
    unfold rdLoop at h
    cases hb : nb s (nx s a) == 41
    · rw [hb] at h
      simp only [cond_false] at h
      cases he : ex (nx s a) ns with
      | error e =>
        rw [he] at h
        obtain ⟨c', i'⟩ := e
        simp at h
        obtain ⟨rfl, rfl⟩ := h
        exact herr _ _ _ _ hle he
      | ok p =>
        obtain ⟨a1, n1⟩ := p
        rw [he] at h
        have h1 := hex _ _ hle _ _ he
        exact rdLoop_err hex herr f a1 _ n1 c i h1.2.1 (by omega) h
    · rw [hb] at h
      simp only [cond_true] at h
      cases h
theorem rdExpr_err (s : ByteArray) : ∀ d a ns c i, a ≤ s.size → rdExpr s d a ns = .error (c, i) → c ≠ 0
  | d, a, ns, c, i, ha, h => by
    have hge := nx_ge s a
    have hle := nx_le ha
    unfold rdExpr at h
    cases hb : (nb s (nx s a) != 40 && !symB (nb s (nx s a)))
    · rw [hb] at h
      simp only [cond_false] at h
      match d, h with
      | 0, h => simp at h; omega
      | d + 1, h =>
        cases hq : nb s (nx s a) == 40
        · rw [hq] at h
          simp only [cond_false] at h
          unfold rdSym at h
          cases hd : decide (12 < symEnd (s.extract (nx s a) s.size)) <;> rw [hd] at h <;> simp at h
          omega
        · rw [hq] at h
          simp only [cond_true] at h
          have hin : nx s a < s.size := nb_in (by simp at hq; omega)
          exact rdLoop_err (rdExpr_adv s d) (rdExpr_err s d) _ _ _ _ _ _ (by omega) (by omega) h
    · rw [hb] at h
      simp at h
      omega
theorem nb_lt (s : ByteArray) (k : Nat) : nb s k < 256 := by
  unfold nb
  cases decide (k < s.size)
  · exact Nat.zero_lt_succ 255
  · exact bt_lt s k
theorem rdExpr_A {s : ByteArray} {d a : Nat} {ns : List Nd} (h1 : nb s (nx s a) ≠ 40) (h2 : symB (nb s (nx s a)) = false) : rdExpr s d a ns = .error (1, nx s a) := by
  unfold rdExpr
  have e1 : (nb s (nx s a) == 40) = false := beq_false_of_ne h1
  simp [bne, e1, h2]
theorem rdExpr_B {s : ByteArray} {a : Nat} {ns : List Nd} (h : nb s (nx s a) = 40 ∨ symB (nb s (nx s a)) = true) : rdExpr s 0 a ns = .error (10, nx s a) := by
  unfold rdExpr
  rcases h with h | h <;> simp [h]
theorem rdExpr_C {s : ByteArray} {d a : Nat} {ns : List Nd} (h : nb s (nx s a) = 40) : rdExpr s (d + 1) a ns = rdLoop s (rdExpr s d) (s.size + 1) (nx s a + 1) [] ns := by
  rw [rdExpr]
  simp [h]
theorem rdExpr_D {s : ByteArray} {d a : Nat} {ns : List Nd} (h1 : nb s (nx s a) ≠ 40) (h2 : symB (nb s (nx s a)) = true) : rdExpr s (d + 1) a ns = rdSym s (nx s a) ns := by
  rw [rdExpr]
  have e1 : (nb s (nx s a) == 40) = false := beq_false_of_ne h1
  simp [e1, h2]



set_option maxHeartbeats 1000000 in
theorem exprA (B g : Nat) (s : ByteArray) (hs : s.size ≤ 4096) (l : Int) (a : Nat) (ns : List Nd) (X : Nat → Prop) (w : World) (hX : ∀ b, X b → b < w.heap.size) (h : Rdr w B g s a ns X) (hq : nb s (nx s a) ≠ 40) (hsy : symB (nb s (nx s a)) = false) :
    Calls Try.prog 28 #[.pointer (some ⟨g, 0, none⟩), .int .i64 l] w (RdPost B g s X (.error (1, nx s a)) w) := by
  obtain ⟨hlo, hnl, hal, v, hR, hN⟩ := h
  have HX := Lib.hid hX
  have HR := Lib.hid hR
  have HN := Lib.hid hN
  have hgl := hR.lt
  clear hR hN hX
  have hle := nx_le hal
  have hge := nx_ge s a
  have hcl := nb_lt s (nx s a)
  have hg1 : w.heap.size ≠ g := by omega
  have hg0 : g ≠ w.heap.size := by omega
  have q1 : ((nb s (nx s a) : Int) != 40) = true := by simp; omega
  have q2 : ((nb s (nx s a) : Int) == 40) = false := by simp; omega
  clear hq
  go_enter Try.func28, Try.ntmps28
  go_wp2_with (go_at_call 29; refine (next_any g s a v _ (by unfold maxLen; omega) hal (HR.out.below ((Below.refl _ _).alloc (Nat.le_refl _) _))).mono ?_)
  rintro e W1 ⟨rfl, hR1, hO1⟩
  have hB0 : Below w.heap.size w (w.alloc (.cells #[.int .i64 0, .int .i64 0] 25)) := (Below.refl _ _).alloc (Nat.le_refl _) _
  have HR1 := Lib.hid hR1
  have HO1 := Lib.hid hO1
  have HN1 := Lib.hid ((HN.out.below hB0).only hO1 (HR.out.below hB0))
  have HFB1 := Lib.hid ((fb_new w (.int .i64 0) (.int .i64 0)).fr hO1.others hg1)
  have HF1 := Lib.hid ((Fr.of_below (g := g) hB0 (by omega)).trans (Fr.of_only hO1 hlo))
  have hz1 := HF1.out.below.size
  have tl := HFB1.out.lt
  clear hR1 hO1 hB0
  go_wp2_with (first | (go_at_call 36; refine (symByte_any _ hcl _).mono ?_; rintro e w' ⟨rfl, rfl⟩) | (go_at_call 30; refine (fault_any g s (nx s a) v _ _ HR1.out).mono ?_))
  rintro e W2 ⟨rfl, hB2⟩
  have HFB2 := Lib.hid (HFB1.out.below hB2)
  have HF2 := Lib.hid (HF1.out.trans (Fr.of_below hB2 (by omega)))
  have hz2 := hB2.size
  clear hB2
  have t0 := HFB2.out.two.fst
  have t1 := HFB2.out.two.snd
  have tf0 := HFB2.out.two.ffst
  have tf1 := HFB2.out.two.fsnd
  go_wp2
  refine post_fault (g := w.heap.size) (x := .int .i64 1) (y := .int .i64 (nx s a)) Try.results28 rfl ?_ ?_
  · have hT := HFB2.out.two
    (repeat' (first | (with_reducible assumption) | (with_reducible exact two_new _ _ _ _) | (with_reducible exact (two_new _ _ _ _).pair) | (with_reducible exact Two.pair ‹_›) | (with_reducible refine Pair.set ?_ _ _) | (with_reducible refine Two.alloc ?_ _) | (with_reducible refine Pair.alloc ?_ _) | (with_reducible refine two1 ?_) | (with_reducible refine twoN ?_ _) | (with_reducible refine Pair.drew ?_) | (with_reducible refine Pair.drewN ?_ _) | (with_reducible refine Two.far ?_ ?_ _) | (with_reducible refine Pair.far ?_ ?_ _) | (simp; omega)))
  · refine ⟨?_, rfl⟩
    exact (HF2.out.setNew (p := ⟨w.heap.size, 0, none⟩) (Nat.le_refl _) (by omega) _).setNew (p := ⟨w.heap.size, 1, none⟩) (Nat.le_refl _) (by omega) _

set_option maxHeartbeats 1000000 in
theorem exprB1 (B g : Nat) (s : ByteArray) (hs : s.size ≤ 4096) (l : Int) (a : Nat) (ns : List Nd) (X : Nat → Prop) (w : World) (hX : ∀ b, X b → b < w.heap.size) (h : Rdr w B g s a ns X) (hq : nb s (nx s a) = 40) (hl : l = 12) :
    Calls Try.prog 28 #[.pointer (some ⟨g, 0, none⟩), .int .i64 l] w (RdPost B g s X (.error (10, nx s a)) w) := by
  obtain ⟨hlo, hnl, hal, v, hR, hN⟩ := h
  have HX := Lib.hid hX
  have HR := Lib.hid hR
  have HN := Lib.hid hN
  have hgl := hR.lt
  clear hR hN hX
  have hle := nx_le hal
  have hge := nx_ge s a
  have hcl := nb_lt s (nx s a)
  have hg1 : w.heap.size ≠ g := by omega
  have hg0 : g ≠ w.heap.size := by omega
  have q1 : ((nb s (nx s a) : Int) != 40) = false := by simp; omega
  have q2 : ((nb s (nx s a) : Int) == 40) = true := by simp; omega
  clear hq
  subst hl
  go_enter Try.func28, Try.ntmps28
  go_wp2_with (go_at_call 29; refine (next_any g s a v _ (by unfold maxLen; omega) hal (HR.out.below ((Below.refl _ _).alloc (Nat.le_refl _) _))).mono ?_)
  rintro e W1 ⟨rfl, hR1, hO1⟩
  have hB0 : Below w.heap.size w (w.alloc (.cells #[.int .i64 0, .int .i64 0] 25)) := (Below.refl _ _).alloc (Nat.le_refl _) _
  have HR1 := Lib.hid hR1
  have HO1 := Lib.hid hO1
  have HN1 := Lib.hid ((HN.out.below hB0).only hO1 (HR.out.below hB0))
  have HFB1 := Lib.hid ((fb_new w (.int .i64 0) (.int .i64 0)).fr hO1.others hg1)
  have HF1 := Lib.hid ((Fr.of_below (g := g) hB0 (by omega)).trans (Fr.of_only hO1 hlo))
  have hz1 := HF1.out.below.size
  have tl := HFB1.out.lt
  clear hR1 hO1 hB0
  go_wp2_with (first | (go_at_call 36; refine (symByte_any _ hcl _).mono ?_; rintro e w' ⟨rfl, rfl⟩) | (go_at_call 30; refine (fault_any g s (nx s a) v _ _ HR1.out).mono ?_))
  rintro e W2 ⟨rfl, hB2⟩
  have HFB2 := Lib.hid (HFB1.out.below hB2)
  have HF2 := Lib.hid (HF1.out.trans (Fr.of_below hB2 (by omega)))
  have hz2 := hB2.size
  clear hB2
  have t0 := HFB2.out.two.fst
  have t1 := HFB2.out.two.snd
  have tf0 := HFB2.out.two.ffst
  have tf1 := HFB2.out.two.fsnd
  go_wp2
  refine post_fault (g := w.heap.size) (x := .int .i64 10) (y := .int .i64 (nx s a)) Try.results28 rfl ?_ ?_
  · have hT := HFB2.out.two
    (repeat' (first | (with_reducible assumption) | (with_reducible exact two_new _ _ _ _) | (with_reducible exact (two_new _ _ _ _).pair) | (with_reducible exact Two.pair ‹_›) | (with_reducible refine Pair.set ?_ _ _) | (with_reducible refine Two.alloc ?_ _) | (with_reducible refine Pair.alloc ?_ _) | (with_reducible refine two1 ?_) | (with_reducible refine twoN ?_ _) | (with_reducible refine Pair.drew ?_) | (with_reducible refine Pair.drewN ?_ _) | (with_reducible refine Two.far ?_ ?_ _) | (with_reducible refine Pair.far ?_ ?_ _) | (simp; omega)))
  · refine ⟨?_, rfl⟩
    exact (HF2.out.setNew (p := ⟨w.heap.size, 0, none⟩) (Nat.le_refl _) (by omega) _).setNew (p := ⟨w.heap.size, 1, none⟩) (Nat.le_refl _) (by omega) _

set_option maxHeartbeats 1000000 in
theorem exprB2 (B g : Nat) (s : ByteArray) (hs : s.size ≤ 4096) (l : Int) (a : Nat) (ns : List Nd) (X : Nat → Prop) (w : World) (hX : ∀ b, X b → b < w.heap.size) (h : Rdr w B g s a ns X) (hq : nb s (nx s a) ≠ 40) (hsy : symB (nb s (nx s a)) = true) (hl : l = 12) :
    Calls Try.prog 28 #[.pointer (some ⟨g, 0, none⟩), .int .i64 l] w (RdPost B g s X (.error (10, nx s a)) w) := by
  obtain ⟨hlo, hnl, hal, v, hR, hN⟩ := h
  have HX := Lib.hid hX
  have HR := Lib.hid hR
  have HN := Lib.hid hN
  have hgl := hR.lt
  clear hR hN hX
  have hle := nx_le hal
  have hge := nx_ge s a
  have hcl := nb_lt s (nx s a)
  have hg1 : w.heap.size ≠ g := by omega
  have hg0 : g ≠ w.heap.size := by omega
  have q1 : ((nb s (nx s a) : Int) != 40) = true := by simp; omega
  have q2 : ((nb s (nx s a) : Int) == 40) = false := by simp; omega
  clear hq
  subst hl
  go_enter Try.func28, Try.ntmps28
  go_wp2_with (go_at_call 29; refine (next_any g s a v _ (by unfold maxLen; omega) hal (HR.out.below ((Below.refl _ _).alloc (Nat.le_refl _) _))).mono ?_)
  rintro e W1 ⟨rfl, hR1, hO1⟩
  have hB0 : Below w.heap.size w (w.alloc (.cells #[.int .i64 0, .int .i64 0] 25)) := (Below.refl _ _).alloc (Nat.le_refl _) _
  have HR1 := Lib.hid hR1
  have HO1 := Lib.hid hO1
  have HN1 := Lib.hid ((HN.out.below hB0).only hO1 (HR.out.below hB0))
  have HFB1 := Lib.hid ((fb_new w (.int .i64 0) (.int .i64 0)).fr hO1.others hg1)
  have HF1 := Lib.hid ((Fr.of_below (g := g) hB0 (by omega)).trans (Fr.of_only hO1 hlo))
  have hz1 := HF1.out.below.size
  have tl := HFB1.out.lt
  clear hR1 hO1 hB0
  go_wp2_with (first | (go_at_call 36; refine (symByte_any _ hcl _).mono ?_; rintro e w' ⟨rfl, rfl⟩) | (go_at_call 30; refine (fault_any g s (nx s a) v _ _ HR1.out).mono ?_))
  rintro e W2 ⟨rfl, hB2⟩
  have HFB2 := Lib.hid (HFB1.out.below hB2)
  have HF2 := Lib.hid (HF1.out.trans (Fr.of_below hB2 (by omega)))
  have hz2 := hB2.size
  clear hB2
  have t0 := HFB2.out.two.fst
  have t1 := HFB2.out.two.snd
  have tf0 := HFB2.out.two.ffst
  have tf1 := HFB2.out.two.fsnd
  go_wp2
  refine post_fault (g := w.heap.size) (x := .int .i64 10) (y := .int .i64 (nx s a)) Try.results28 rfl ?_ ?_
  · have hT := HFB2.out.two
    (repeat' (first | (with_reducible assumption) | (with_reducible exact two_new _ _ _ _) | (with_reducible exact (two_new _ _ _ _).pair) | (with_reducible exact Two.pair ‹_›) | (with_reducible refine Pair.set ?_ _ _) | (with_reducible refine Two.alloc ?_ _) | (with_reducible refine Pair.alloc ?_ _) | (with_reducible refine two1 ?_) | (with_reducible refine twoN ?_ _) | (with_reducible refine Pair.drew ?_) | (with_reducible refine Pair.drewN ?_ _) | (with_reducible refine Two.far ?_ ?_ _) | (with_reducible refine Pair.far ?_ ?_ _) | (simp; omega)))
  · refine ⟨?_, rfl⟩
    exact (HF2.out.setNew (p := ⟨w.heap.size, 0, none⟩) (Nat.le_refl _) (by omega) _).setNew (p := ⟨w.heap.size, 1, none⟩) (Nat.le_refl _) (by omega) _

set_option maxHeartbeats 1000000 in
theorem exprC (B g : Nat) (s : ByteArray) (hs : s.size ≤ 4096) (l : Int) (a : Nat) (ns : List Nd) (X : Nat → Prop) (w : World) (hX : ∀ b, X b → b < w.heap.size) (h : Rdr w B g s a ns X) (hq : nb s (nx s a) = 40) (hl0 : 0 ≤ l) (hl : l < 12) (ex : Nat → List Nd → RdRes) (hadv : ∀ a ns, a ≤ s.size → Adv s a ns (ex a ns)) (herr : ∀ a ns c i, a ≤ s.size → ex a ns = .error (c, i) → c ≠ 0) (hex : ExCall B g s (l + 1) ex) :
    Calls Try.prog 28 #[.pointer (some ⟨g, 0, none⟩), .int .i64 l] w (RdPost B g s X (rdLoop s ex (s.size + 1) (nx s a + 1) [] ns) w) := by
  obtain ⟨hlo, hnl, hal, v, hR, hN⟩ := h
  have HX := Lib.hid hX
  have HR := Lib.hid hR
  have HN := Lib.hid hN
  have hgl := hR.lt
  clear hR hN hX
  have hle := nx_le hal
  have hge := nx_ge s a
  have hcl := nb_lt s (nx s a)
  have hg1 : w.heap.size ≠ g := by omega
  have hg0 : g ≠ w.heap.size := by omega
  have hin : nx s a < s.size := nb_in (by omega)
  have q1 : ((nb s (nx s a) : Int) != 40) = false := by simp; omega
  have q2 : ((nb s (nx s a) : Int) == 40) = true := by simp; omega
  clear hq
  have hlb : (l == 12) = false := by simp; omega
  have HA := Lib.hid hadv
  have HE := Lib.hid herr
  have HC := Lib.hid hex
  clear hadv herr hex
  go_enter Try.func28, Try.ntmps28
  go_wp2_with (go_at_call 29; refine (next_any g s a v _ (by unfold maxLen; omega) hal (HR.out.below ((Below.refl _ _).alloc (Nat.le_refl _) _))).mono ?_)
  rintro e W1 ⟨rfl, hR1, hO1⟩
  have hB0 : Below w.heap.size w (w.alloc (.cells #[.int .i64 0, .int .i64 0] 25)) := (Below.refl _ _).alloc (Nat.le_refl _) _
  have HR1 := Lib.hid hR1
  have HO1 := Lib.hid hO1
  have HN1 := Lib.hid ((HN.out.below hB0).only hO1 (HR.out.below hB0))
  have HFB1 := Lib.hid ((fb_new w (.int .i64 0) (.int .i64 0)).fr hO1.others hg1)
  have HF1 := Lib.hid ((Fr.of_below (g := g) hB0 (by omega)).trans (Fr.of_only hO1 hlo))
  have hz1 := HF1.out.below.size
  have tl := HFB1.out.lt
  clear hR1 hO1 hB0
  go_wp2_with (first | (go_at_call 36; refine (symByte_any _ hcl _).mono ?_; rintro e w' ⟨rfl, rfl⟩) | (go_at_call 37; refine (listR_any B g s l ex hs HA.out HE.out HC.out hl0 (by omega) (nx s a) ns X _ hin (fun b hb => Nat.lt_of_lt_of_le (HX.out b hb) hz1) ⟨hlo, by omega, hle, v, HR1.out, HN1.out⟩).mono ?_))
  intro e W2 hpost
  obtain ⟨hF2, hpost⟩ := hpost
  have HFB2 := Lib.hid (HFB1.out.fr hF2.others hg1)
  have HF2 := Lib.hid (HF1.out.trans hF2)
  clear hF2
  have t0 := HFB2.out.two.fst
  have t1 := HFB2.out.two.snd
  have tf0 := HFB2.out.two.ffst
  have tf1 := HFB2.out.two.fsnd
  have tl2 := HFB2.out.lt
  cases hres : rdLoop s ex (s.size + 1) (nx s a + 1) [] ns with
  | error f =>
    obtain ⟨c, i⟩ := f
    rw [hres] at hpost
    have HS := Lib.hid hres
    clear hres
    obtain rfl := hpost
    go_wp2
    refine post_fault (g := w.heap.size) (x := .int .i64 c) (y := .int .i64 i) Try.results28 rfl ?_ ?_
    · have hT := HFB2.out.two
      (repeat' (first | (with_reducible assumption) | (with_reducible exact two_new _ _ _ _) | (with_reducible exact (two_new _ _ _ _).pair) | (with_reducible exact Two.pair ‹_›) | (with_reducible refine Pair.set ?_ _ _) | (with_reducible refine Two.alloc ?_ _) | (with_reducible refine Pair.alloc ?_ _) | (with_reducible refine two1 ?_) | (with_reducible refine twoN ?_ _) | (with_reducible refine Pair.drew ?_) | (with_reducible refine Pair.drewN ?_ _) | (with_reducible refine Two.far ?_ ?_ _) | (with_reducible refine Pair.far ?_ ?_ _) | (simp; omega)))
    · rw [HS.out]
      refine ⟨?_, rfl⟩
      exact (HF2.out.setNew (p := ⟨w.heap.size, 0, none⟩) (Nat.le_refl _) (by omega) _).setNew (p := ⟨w.heap.size, 1, none⟩) (Nat.le_refl _) (by omega) _
  | ok pr =>
    obtain ⟨a1, n1⟩ := pr
    rw [hres] at hpost
    have HS := Lib.hid hres
    clear hres
    obtain ⟨rfl, hr2⟩ := hpost
    have HR2 := Lib.hid hr2
    clear hr2
    go_wp2
    refine post_fault (g := w.heap.size) (x := .int .i64 0) (y := .int .i64 0) Try.results28 rfl ?_ ?_
    · have hT := HFB2.out.two
      (repeat' (first | (with_reducible assumption) | (with_reducible exact two_new _ _ _ _) | (with_reducible exact (two_new _ _ _ _).pair) | (with_reducible exact Two.pair ‹_›) | (with_reducible refine Pair.set ?_ _ _) | (with_reducible refine Two.alloc ?_ _) | (with_reducible refine Pair.alloc ?_ _) | (with_reducible refine two1 ?_) | (with_reducible refine twoN ?_ _) | (with_reducible refine Pair.drew ?_) | (with_reducible refine Pair.drewN ?_ _) | (with_reducible refine Two.far ?_ ?_ _) | (with_reducible refine Pair.far ?_ ?_ _) | (simp; omega)))
    · rw [HS.out]
      refine ⟨?_, rfl, ?_⟩
      · exact (HF2.out.setNew (p := ⟨w.heap.size, 0, none⟩) (Nat.le_refl _) (by omega) _).setNew (p := ⟨w.heap.size, 1, none⟩) (Nat.le_refl _) (by omega) _
      · obtain ⟨k1, k2, k3, v2, k4, k5⟩ := HR2.out
        exact ⟨k1, k2, k3, v2, (k4.far (p := ⟨w.heap.size, 0, none⟩) hg1 _).far (p := ⟨w.heap.size, 1, none⟩) hg1 _, (k5.setCell (p := ⟨w.heap.size, 0, none⟩) HFB2.out (by decide) (by decide) _).setCell (p := ⟨w.heap.size, 1, none⟩) (HFB2.out.set0 _) (by decide) (by decide) _⟩

set_option maxHeartbeats 1000000 in
theorem exprD (B g : Nat) (s : ByteArray) (hs : s.size ≤ 4096) (l : Int) (a : Nat) (ns : List Nd) (X : Nat → Prop) (w : World) (hX : ∀ b, X b → b < w.heap.size) (h : Rdr w B g s a ns X) (hq : nb s (nx s a) ≠ 40) (hsy : symB (nb s (nx s a)) = true) (hl0 : 0 ≤ l) (hl : l < 12) :
    Calls Try.prog 28 #[.pointer (some ⟨g, 0, none⟩), .int .i64 l] w (RdPost B g s X (rdSym s (nx s a) ns) w) := by
  obtain ⟨hlo, hnl, hal, v, hR, hN⟩ := h
  have HX := Lib.hid hX
  have HR := Lib.hid hR
  have HN := Lib.hid hN
  have hgl := hR.lt
  clear hR hN hX
  have hle := nx_le hal
  have hge := nx_ge s a
  have hcl := nb_lt s (nx s a)
  have hg1 : w.heap.size ≠ g := by omega
  have hg0 : g ≠ w.heap.size := by omega
  have hin : nx s a < s.size := nb_in (fun e => by rw [e, sym0] at hsy; cases hsy)
  have hpos : 0 < symEnd (s.extract (nx s a) s.size) := symEnd_pos (by simp; omega) (by
    show symB (bt (s.extract (nx s a) s.size) 0) = true
    rw [bt_extract s (nx s a) s.size 0 (Nat.le_refl _) (by omega), Nat.add_zero, ← nb_at hin]
    exact hsy)
  have q1 : ((nb s (nx s a) : Int) != 40) = true := by simp; omega
  have q2 : ((nb s (nx s a) : Int) == 40) = false := by simp; omega
  clear hq
  have hlb : (l == 12) = false := by simp; omega
  go_enter Try.func28, Try.ntmps28
  go_wp2_with (go_at_call 29; refine (next_any g s a v _ (by unfold maxLen; omega) hal (HR.out.below ((Below.refl _ _).alloc (Nat.le_refl _) _))).mono ?_)
  rintro e W1 ⟨rfl, hR1, hO1⟩
  have hB0 : Below w.heap.size w (w.alloc (.cells #[.int .i64 0, .int .i64 0] 25)) := (Below.refl _ _).alloc (Nat.le_refl _) _
  have HR1 := Lib.hid hR1
  have HO1 := Lib.hid hO1
  have HN1 := Lib.hid ((HN.out.below hB0).only hO1 (HR.out.below hB0))
  have HFB1 := Lib.hid ((fb_new w (.int .i64 0) (.int .i64 0)).fr hO1.others hg1)
  have HF1 := Lib.hid ((Fr.of_below (g := g) hB0 (by omega)).trans (Fr.of_only hO1 hlo))
  have hz1 := HF1.out.below.size
  have tl := HFB1.out.lt
  clear hR1 hO1 hB0
  go_wp2_with (first | (go_at_call 36; refine (symByte_any _ hcl _).mono ?_; rintro e w' ⟨rfl, rfl⟩) | (go_at_call 38; refine (symbolR_any B g s (nx s a) ns X _ hs hpos ⟨hlo, by omega, hle, v, HR1.out, HN1.out⟩).mono ?_))
  intro e W2 hpost
  obtain ⟨hF2, hpost⟩ := hpost
  have HFB2 := Lib.hid (HFB1.out.fr hF2.others hg1)
  have HF2 := Lib.hid (HF1.out.trans hF2)
  clear hF2
  have t0 := HFB2.out.two.fst
  have t1 := HFB2.out.two.snd
  have tf0 := HFB2.out.two.ffst
  have tf1 := HFB2.out.two.fsnd
  have tl2 := HFB2.out.lt
  cases hres : rdSym s (nx s a) ns with
  | error f =>
    obtain ⟨c, i⟩ := f
    rw [hres] at hpost
    have HS := Lib.hid hres
    clear hres
    obtain rfl := hpost
    go_wp2
    refine post_fault (g := w.heap.size) (x := .int .i64 c) (y := .int .i64 i) Try.results28 rfl ?_ ?_
    · have hT := HFB2.out.two
      (repeat' (first | (with_reducible assumption) | (with_reducible exact two_new _ _ _ _) | (with_reducible exact (two_new _ _ _ _).pair) | (with_reducible exact Two.pair ‹_›) | (with_reducible refine Pair.set ?_ _ _) | (with_reducible refine Two.alloc ?_ _) | (with_reducible refine Pair.alloc ?_ _) | (with_reducible refine two1 ?_) | (with_reducible refine twoN ?_ _) | (with_reducible refine Pair.drew ?_) | (with_reducible refine Pair.drewN ?_ _) | (with_reducible refine Two.far ?_ ?_ _) | (with_reducible refine Pair.far ?_ ?_ _) | (simp; omega)))
    · rw [HS.out]
      refine ⟨?_, rfl⟩
      exact (HF2.out.setNew (p := ⟨w.heap.size, 0, none⟩) (Nat.le_refl _) (by omega) _).setNew (p := ⟨w.heap.size, 1, none⟩) (Nat.le_refl _) (by omega) _
  | ok pr =>
    obtain ⟨a1, n1⟩ := pr
    rw [hres] at hpost
    have HS := Lib.hid hres
    clear hres
    obtain ⟨rfl, hr2⟩ := hpost
    have HR2 := Lib.hid hr2
    clear hr2
    go_wp2
    refine post_fault (g := w.heap.size) (x := .int .i64 0) (y := .int .i64 0) Try.results28 rfl ?_ ?_
    · have hT := HFB2.out.two
      (repeat' (first | (with_reducible assumption) | (with_reducible exact two_new _ _ _ _) | (with_reducible exact (two_new _ _ _ _).pair) | (with_reducible exact Two.pair ‹_›) | (with_reducible refine Pair.set ?_ _ _) | (with_reducible refine Two.alloc ?_ _) | (with_reducible refine Pair.alloc ?_ _) | (with_reducible refine two1 ?_) | (with_reducible refine twoN ?_ _) | (with_reducible refine Pair.drew ?_) | (with_reducible refine Pair.drewN ?_ _) | (with_reducible refine Two.far ?_ ?_ _) | (with_reducible refine Pair.far ?_ ?_ _) | (simp; omega)))
    · rw [HS.out]
      refine ⟨?_, rfl, ?_⟩
      · exact (HF2.out.setNew (p := ⟨w.heap.size, 0, none⟩) (Nat.le_refl _) (by omega) _).setNew (p := ⟨w.heap.size, 1, none⟩) (Nat.le_refl _) (by omega) _
      · obtain ⟨k1, k2, k3, v2, k4, k5⟩ := HR2.out
        exact ⟨k1, k2, k3, v2, (k4.far (p := ⟨w.heap.size, 0, none⟩) hg1 _).far (p := ⟨w.heap.size, 1, none⟩) hg1 _, (k5.setCell (p := ⟨w.heap.size, 0, none⟩) HFB2.out (by decide) (by decide) _).setCell (p := ⟨w.heap.size, 1, none⟩) (HFB2.out.set0 _) (by decide) (by decide) _⟩

theorem exprR_any (B g : Nat) (s : ByteArray) (hs : s.size ≤ 4096) : ∀ (d : Nat) (l : Int), l + d = 12 → 0 ≤ l → ExCall B g s l (rdExpr s d) := by
  intro d
  induction d with
  | zero =>
    intro l hl hl0 a ns X w hX h
    by_cases hq : nb s (nx s a) = 40
    · rw [rdExpr_B (.inl hq)]
      exact exprB1 B g s hs l a ns X w hX h hq (by omega)
    · cases hsy : symB (nb s (nx s a))
      · rw [rdExpr_A hq hsy]
        exact exprA B g s hs l a ns X w hX h hq hsy
      · rw [rdExpr_B (.inr hsy)]
        exact exprB2 B g s hs l a ns X w hX h hq hsy (by omega)
  | succ d ih =>
    intro l hl hl0 a ns X w hX h
    by_cases hq : nb s (nx s a) = 40
    · rw [rdExpr_C hq]
      exact exprC B g s hs l a ns X w hX h hq hl0 (by omega) (rdExpr s d) (rdExpr_adv s d) (rdExpr_err s d) (ih (l + 1) (by omega) (by omega))
    · cases hsy : symB (nb s (nx s a))
      · rw [rdExpr_A hq hsy]
        exact exprA B g s hs l a ns X w hX h hq hsy
      · rw [rdExpr_D hq hsy]
        exact exprD B g s hs l a ns X w hX h hq hsy hl0 (by omega)
end Go.Proofs.Ytbdollafpjejiaa

/- The reader in memory; its methods next and fault. -/
import Derived.Test.YtbdollafpjejiaaSrdm
import Derived.Lib.OthersKept
import Derived.RegionTactic
import Derived.Lib.BufferMore
namespace Go.Proofs.Ytbdollafpjejiaa
open Go.RowKit
set_option linter.unusedSimpArgs false
set_option linter.unusedVariables false
set_option maxRecDepth 100000

abbrev RT : TypeId := 58
abbrev ST : TypeId := 37
abbrev IT : TypeId := 3
/-- Block g is the reader: the text s, the offset a, the nodes v. -/
def RdB (w : World) (g : Nat) (s : ByteArray) (a : Nat) (v : Value) : Prop := w.heap[g]? = some (.cells #[.string s, .int .i64 a, v] RT (0, 0))
/-- Only block g has changed. -/
structure Only (g : Nat) (w w' : World) : Prop where
  os : w'.os = w.os
  tape : w'.tape = w.tape
  output : w'.output = w.output
  size : w'.heap.size = w.heap.size
  block : ∀ k, k ≠ g → w'.heap[k]? = w.heap[k]?
section
variable {w w' w'' : World} {g a : Nat} {s : ByteArray} {v : Value}
theorem Only.refl (g : Nat) (w : World) : Only g w w := ⟨rfl, rfl, rfl, rfl, fun _ _ => rfl⟩
theorem Only.trans (h : Only g w w') (k : Only g w' w'') : Only g w w'' :=
  ⟨k.os.trans h.os, k.tape.trans h.tape, k.output.trans h.output, k.size.trans h.size, fun i hi => (k.block i hi).trans (h.block i hi)⟩
theorem Only.drewN (h : Only g w w') (n : Nat) : Only g w (w'.drewN n) := ⟨h.os, h.tape, h.output, h.size, h.block⟩
theorem Only.drew (h : Only g w w') : Only g w w'.drew := ⟨h.os, h.tape, h.output, h.size, h.block⟩
theorem Only.setCell (h : Only g w w') {p : Addr} (hp : p.block = g) (u : Value) : Only g w (w'.setCell p u) :=
  ⟨h.os, h.tape, h.output, by simpa [World.setCell] using h.size, fun k hk => (Below.heap_setCell _ _ _ _ (by rw [hp]; exact hk)).trans (h.block k hk)⟩
theorem Only.grown (h : Only g w w') : w.grownBy w' (some g) := ⟨h.os, h.tape, h.output, by rw [h.size]; exact Nat.le_refl _, fun k _ hk => h.block k (fun e => hk (by rw [e]))⟩
theorem Only.below {B : Nat} (h : Only g w w') (hB : B ≤ g) : Below B w w' := ⟨h.os, h.tape, h.output, by rw [h.size]; exact Nat.le_refl _, fun k hk => h.block k (by omega)⟩
theorem Only.others {e : TypeId} (h : Only g w w') : Lib.OthersKept e (some g) w w' := fun k o hk hb _ => (h.block k (fun e => hb (by rw [e]))).trans hk
theorem RdB.lt (h : RdB w g s a v) : g < w.heap.size := (Array.getElem?_eq_some_iff.1 h).1
theorem RdB.c0 (h : RdB w g s a v) : w.cell? ⟨g, 0, none⟩ = some (.string s) := by rw [Lib.cell_of_heap h]; rfl
theorem RdB.c1 (h : RdB w g s a v) : w.cell? ⟨g, 1, none⟩ = some (.int .i64 a) := by rw [Lib.cell_of_heap h]; rfl
theorem RdB.c2 (h : RdB w g s a v) : w.cell? ⟨g, 2, none⟩ = some v := by rw [Lib.cell_of_heap h]; rfl
theorem RdB.f (h : RdB w g s a v) (j : Nat) : w.frozen? ⟨g, j, none⟩ = false := Lib.frozen_of_heap h j
theorem RdB.drewN (h : RdB w g s a v) (n : Nat) : RdB (w.drewN n) g s a v := h
theorem RdB.drew (h : RdB w g s a v) : RdB w.drew g s a v := h
theorem RdB.set1 (h : RdB w g s a v) (b : Nat) : RdB (w.setCell ⟨g, 1, none⟩ (.int .i64 b)) g s b v := Lib.heap_setCell_same h _
theorem RdB.set2 (h : RdB w g s a v) (u : Value) : RdB (w.setCell ⟨g, 2, none⟩ u) g s a u := Lib.heap_setCell_same h _
end
/-- The offset in the reader's block. -/
def rdPos (g : Nat) (w : World) : Nat := match w.cell? ⟨g, 1, none⟩ with | some v => (intOf v).toNat | none => 0
theorem rdPos_eq {w : World} {g a : Nat} {s : ByteArray} {v : Value} (h : RdB w g s a v) : rdPos g w = a := by
  unfold rdPos
  rw [h.c1]
  simp [intOf]
theorem space_b {c : Int} {b : Bool} (h : spB c = b) (w : World) : Calls Try.prog 39 #[.int .u8 c] w fun e w' => e = .returned (.bool b) ∧ w' = w := by
  subst h
  exact (space_any c w).mono fun _ _ h => ⟨h.1, h.2.symm⟩
def NextPost (g : Nat) (s : ByteArray) (a : Nat) (v : Value) (w : World) (e : Ending) (w' : World) : Prop :=
  e = .returned (.int .u8 (nb s (nx s a))) ∧ RdB w' g s (nx s a) v ∧ Only g w w'

set_option maxHeartbeats 1000000 in
theorem next_any (g : Nat) (s : ByteArray) (a : Nat) (v : Value) (w : World) (hs : s.size ≤ maxLen) (ha : a ≤ s.size) (h : RdB w g s a v) :
    Calls Try.prog 29 #[.pointer (some ⟨g, 0, none⟩)] w (NextPost g s a v w) := by
  unfold maxLen at hs
  go_enter Try.func29, Try.ntmps29
  go_wp2
  go_loopw [] (fun W => ∃ j : Nat, a ≤ j ∧ j ≤ s.size ∧ nx s a = nx s j ∧ RdB W g s j v ∧ Only g w W) (fun W => s.size - rdPos g W)
  case atStart => exact ⟨a, Nat.le_refl _, ha, rfl, h, Only.refl _ _⟩
  case round =>
    obtain ⟨j, haj, hj, hn, hR, hO⟩ := hrel
    have HN := Lib.hid hn
    have HR := Lib.hid hR
    have HO := Lib.hid hO
    have hp := Lib.hid (rdPos_eq hR)
    clear hn hR hO
    have c0 := HR.out.c0
    have c1 := HR.out.c1
    have f1 := HR.out.f 1
    by_cases hlt : j < s.size
    · have hd : decide ((j : Int) < s.size) = true := by simp; omega
      have he : ((j : Int) == s.size) = false := by simp; omega
      have hb := bt_eq s j hlt
      cases hsp : isSp s j
      · have HS := Lib.hid (show nx s a = j by rw [HN.out]; exact nx_stop (fun _ => hsp))
        have HB := Lib.hid (nb_at hlt)
        have hsp2 : spB ((bt s j : Nat) : Int) = false := hsp
        clear hsp
        go_wp2
        go_quiet ((go_at_call 39; exact Calls.quiet_of_same (space_b hsp2 _)))
        go_wp2
        go_quiet (fail)
        go_wp2
        go_quiet (fail)
        go_wp2
        go_ret
        exact ⟨ret_val (by rw [HS.out, HB.out]; rfl), by rw [HS.out]; exact HR.out, ((HO.out.drewN _).drewN _).drewN _⟩
      · have HS := Lib.hid (show nx s a = nx s (j + 1) by rw [HN.out]; exact nx_step hlt hsp)
        have hsp2 : spB ((bt s j : Nat) : Int) = true := hsp
        clear hsp
        go_wp2
        go_quiet ((go_at_call 39; exact Calls.quiet_of_same (space_b hsp2 _)))
        go_wp2
        go_roundw
        case rel => exact ⟨j + 1, by omega, by omega, HS.out, HR.out.set1 _, (HO.out.drewN _).setCell rfl _⟩
        case measure =>
          refine Nat.sub_lt_sub_left ?_ ?_
          · rw [hp.out]; exact hlt
          · rw [hp.out]; exact Nat.lt_of_lt_of_eq (Nat.lt_succ_self j) (rdPos_eq (HR.out.set1 (j + 1))).symm
    · have hd : decide ((j : Int) < s.size) = false := by simp; omega
      have he : ((j : Int) == s.size) = true := by simp; omega
      have HS := Lib.hid (show nx s a = j by rw [HN.out]; exact nx_stop (fun h => absurd h hlt))
      have HB := Lib.hid (nb_end hlt)
      go_wp2
      go_quiet (fail)
      go_wp2
      go_quiet (fail)
      go_wp2
      go_ret
      exact ⟨ret_val (by rw [HS.out, HB.out]; rfl), by rw [HS.out]; exact HR.out, (HO.out.drewN _).drewN _⟩

set_option maxHeartbeats 1000000 in
theorem fault_any (g : Nat) (s : ByteArray) (a : Nat) (v : Value) (c : Int) (w : World) (h : RdB w g s a v) :
    Calls Try.prog 30 #[.pointer (some ⟨g, 0, none⟩), .int .i64 c] w fun e w' => e = .returned (faultV (c, a)) ∧ Below w.heap.size w w' := by
  have c1 := h.c1
  have hlt := h.lt
  go_enter Try.func30, Try.ntmps30
  go_wp2
  go_returns
  exact ⟨rfl, by go_grown⟩
end Go.Proofs.Ytbdollafpjejiaa

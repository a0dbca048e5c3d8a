/- The error codes of single types: typeCode. -/
import Derived.Test.YtjmkilmpfaapbaaTfin
namespace Go.Proofs.Ytjmkilmpfaapbaa
open Go.RowKit
set_option linter.unusedSimpArgs false
set_option linter.unusedVariables false
set_option maxRecDepth 100000

def objS : ByteArray := ⟨#[111, 98, 106, 101, 99, 116]⟩
theorem eqB_obj (s : ByteArray) : eqB s objS = (s.toList == [111, 98, 106, 101, 99, 116]) := by
  unfold eqB
  rw [ByteArray.toList_eq objS]
  rfl
/-- The code of an entry s, p behind the entries ts; n types; at types the name "object" is barred. -/
def ecode (obj : Bool) (n : Nat) (ts : List Ent) (s : ByteArray) (p : Int) : Int :=
  if !nameB s || (obj && eqB s objS) then 12 else if hasN ts s then 7 else if !istB n p then 3 else 0

theorem ecode_12a {n : Nat} {ts : List Ent} {s : ByteArray} {p : Int} {o : Bool} (h : nameB s = false) : ecode o n ts s p = 12 := by simp [ecode, h]
theorem ecode_12b {n : Nat} {ts : List Ent} {s : ByteArray} {p : Int} (h : eqB s objS = true) : ecode true n ts s p = 12 := by simp [ecode, h]
theorem ecode_rest {n : Nat} {ts : List Ent} {s : ByteArray} {p : Int} {o : Bool} (h : nameB s = true) (h2 : (o && eqB s objS) = false) : ecode o n ts s p = if hasN ts s then 7 else if !istB n p then 3 else 0 := by simp [ecode, h, h2]

set_option maxHeartbeats 1000000 in
theorem typeCode_any (A : Option Addr) (c : Nat) (ts : List Ent) (s : ByteArray) (p : Int) (w : World) (hE : Ents w w.heap.size A ts) (hn : ts.length ≤ maxLen) (hs : s.size ≤ maxLen) :
    Calls Try.prog 23 #[.slice A ts.length c, .agg #[.string s, .int .i64 p]] w fun e w' => e = .returned (.int .i64 (ecode true ts.length ts s p)) ∧ Below w.heap.size w w' := by
  have hA := (hE.below ((Below.refl _ w).alloc (Nat.le_refl _) (.cells #[.string s, .int .i64 p] 47))).more (B' := (w.alloc (.cells #[.string s, .int .i64 p] 47)).heap.size) (by simp)
  have hc := containsT_any A c ts s w.heap.size (w.alloc (.cells #[.string s, .int .i64 p] 47)) hA hn (by simp) (by simp)
  unfold maxLen at hn
  clear hE hA
  cases h1 : nameB s
  · have H := Lib.hid (ecode_12a (n := ts.length) (ts := ts) (p := p) (o := true) h1)
    go_enter Try.func23, Try.ntmps23
    go_wp2_with (go_at_call 33; refine (isName_any _ hs _).mono ?_; rintro e w' ⟨rfl, rfl⟩)
    go_ret
    exact ⟨ret_int H.out.symm, by go_grown⟩
  cases h2 : (s.toList == [111, 98, 106, 101, 99, 116])
  case true =>
    have H := Lib.hid (ecode_12b (n := ts.length) (ts := ts) (p := p) ((eqB_obj s).trans h2))
    go_enter Try.func23, Try.ntmps23
    go_wp2_with (go_at_call 33; refine (isName_any _ hs _).mono ?_; rintro e w' ⟨rfl, rfl⟩)
    go_ret
    exact ⟨ret_int H.out.symm, by go_grown⟩
  have H := ecode_rest (n := ts.length) (ts := ts) (p := p) (o := true) h1 (by simpa using ((eqB_obj s).trans h2))
  cases h3 : hasN ts s
  case true =>
    rw [h3] at H
    have H := Lib.hid H
    go_enter Try.func23, Try.ntmps23
    go_wp2_with (first
      | (go_at_call 33; refine (isName_any _ hs _).mono ?_; rintro e w' ⟨rfl, rfl⟩)
      | (go_at_call 34; refine hc.mono ?_; rintro e w' ⟨rfl, hbw⟩))
    go_ret
    exact ⟨ret_int H.out.symm, ((Below.refl _ _).alloc (Nat.le_refl _) _).trans (hbw.mono (by simp))⟩
  rw [h3] at H
  cases h4 : istB ts.length p
  all_goals
    rw [h4] at H
    have H' := Lib.hid H
    clear H
    go_enter Try.func23, Try.ntmps23
    go_wp2_with (first
      | (go_at_call 33; refine (isName_any _ hs _).mono ?_; rintro e w' ⟨rfl, rfl⟩)
      | (go_at_call 35; refine (isType_any _ _ _ _ _).mono ?_; rintro e w' ⟨rfl, rfl⟩)
      | (go_at_call 34; refine hc.mono ?_; rintro e w' ⟨rfl, hbw⟩; have hc1 : w'.cell? ⟨w.heap.size, 1, none⟩ = some (.int .i64 p) := (hbw.cell (p := ⟨w.heap.size, 1, none⟩) (by simp)).trans (by simp)))
    go_ret
    exact ⟨ret_int H'.out.symm, ((Below.refl _ _).alloc (Nat.le_refl _) _).trans (hbw.mono (by simp))⟩

end Go.Proofs.Ytjmkilmpfaapbaa

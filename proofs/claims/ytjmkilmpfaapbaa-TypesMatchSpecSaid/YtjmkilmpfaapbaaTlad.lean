/- The closed example of the laws on types: what it comes to. -/
import Derived.Test.YtjmkilmpfaapbaaTjoin
import Derived.Test.YtjmkilmpfaapbaaTmems
import Derived.Test.YtjmkilmpfaapbaaTints
import Derived.Test.YtjmkilmpfaapbaaTlsub
namespace Go.Proofs.Ytjmkilmpfaapbaa
open Go.RowKit
set_option linter.unusedSimpArgs false
set_option linter.unusedVariables false
set_option maxRecDepth 100000

def ladL : List Ent := [(⟨#[97]⟩, -1), (⟨#[98]⟩, 0), (⟨#[99]⟩, -1)]
def obL : List Ent := [(⟨#[120]⟩, 1), (⟨#[121]⟩, 2)]
def badL : List Ent := [(⟨#[]⟩, 0)]
theorem lad_f10 : usedF ladL [1, 0] = (0, 0) := by decide +kernel
theorem lad_f01 : usedF ladL [0, 1] = (0, 0) := by decide +kernel
theorem lad_f12 : usedF ladL [1, 2] = (0, 0) := by decide +kernel
theorem lad_s10 : subM ladL 1 0 = true := by decide +kernel
theorem lad_s01 : subM ladL 0 1 = false := by decide +kernel
theorem lad_j12 : joinR ladL 1 2 = -1 := by decide +kernel
theorem lad_mf : memF ladL obL 0 = (0, 0) := by decide +kernel
theorem lad_ml : memL ladL obL 0 = [0] := by decide +kernel
theorem bad_f : tyFault badL = (12, 0) := by decide +kernel

set_option maxHeartbeats 1000000 in
theorem ladder_any (w : World) :
    Calls Try.prog 21 #[] w fun e w' => e = .returned (.slice (some ⟨w.heap.size, 0, none⟩) 3 3) ∧ w' = w.alloc (.cells #[.string ⟨#[97]⟩, .int .i64 (-1), .string ⟨#[98]⟩, .int .i64 0, .string ⟨#[99]⟩, .int .i64 (-1)] 47) := by
  go_enter Try.func21, Try.ntmps21
  go_wp2
  go_ret
  exact ⟨rfl, rfl⟩

theorem ents_lad (w : World) (t : TypeId) : Ents (w.alloc (.cells #[.string ⟨#[97]⟩, .int .i64 (-1), .string ⟨#[98]⟩, .int .i64 0, .string ⟨#[99]⟩, .int .i64 (-1)] t)) (w.heap.size + 1) (some ⟨w.heap.size, 0, none⟩) ladL := by
  refine ⟨fun k => ?_, fun _ => ⟨w.heap.size, 0, rfl, by omega, fun k hk => ?_⟩⟩
  · match k with
    | 0 => simp [nm, ladL, maxLen, ByteArray.size]
    | 1 => simp [nm, ladL, maxLen, ByteArray.size]
    | 2 => simp [nm, ladL, maxLen, ByteArray.size]
    | k + 3 => simp [nm, ladL, maxLen]
  · match k, hk with
    | 0, _ => simp [nm, pr, ladL]
    | 1, _ => simp [nm, pr, ladL]
    | 2, _ => simp [nm, pr, ladL]
theorem ents_ob (w : World) (t : TypeId) : Ents (w.alloc (.cells #[.string ⟨#[120]⟩, .int .i64 1, .string ⟨#[121]⟩, .int .i64 2] t)) (w.heap.size + 1) (some ⟨w.heap.size, 0, none⟩) obL := by
  refine ⟨fun k => ?_, fun _ => ⟨w.heap.size, 0, rfl, by omega, fun k hk => ?_⟩⟩
  · match k with
    | 0 => simp [nm, obL, maxLen, ByteArray.size]
    | 1 => simp [nm, obL, maxLen, ByteArray.size]
    | k + 2 => simp [nm, obL, maxLen]
  · match k, hk with
    | 0, _ => simp [nm, pr, obL]
    | 1, _ => simp [nm, pr, obL]
theorem ents_bad (w : World) (t : TypeId) : Ents (w.alloc (.cells #[.string ⟨#[]⟩, .int .i64 0] t)) (w.heap.size + 1) (some ⟨w.heap.size, 0, none⟩) badL := by
  refine ⟨fun k => ?_, fun _ => ⟨w.heap.size, 0, rfl, by omega, fun k hk => ?_⟩⟩
  · match k with
    | 0 => simp [nm, badL, maxLen, ByteArray.size]
    | k + 1 => simp [nm, badL, maxLen]
  · match k, hk with
    | 0, _ => simp [nm, pr, badL]

theorem lad_at (w : World) (g : Nat) (hg : w.heap.size = g) (t : TypeId) : Ents (w.alloc (.cells #[.string ⟨#[97]⟩, .int .i64 (-1), .string ⟨#[98]⟩, .int .i64 0, .string ⟨#[99]⟩, .int .i64 (-1)] t)) (w.alloc (.cells #[.string ⟨#[97]⟩, .int .i64 (-1), .string ⟨#[98]⟩, .int .i64 0, .string ⟨#[99]⟩, .int .i64 (-1)] t)).heap.size (some ⟨g, 0, none⟩) ladL := by
  subst hg
  exact (ents_lad w t).more (by simp)
theorem ob_at (w : World) (g : Nat) (hg : w.heap.size = g) (t : TypeId) : Ents (w.alloc (.cells #[.string ⟨#[120]⟩, .int .i64 1, .string ⟨#[121]⟩, .int .i64 2] t)) (w.alloc (.cells #[.string ⟨#[120]⟩, .int .i64 1, .string ⟨#[121]⟩, .int .i64 2] t)).heap.size (some ⟨g, 0, none⟩) obL := by
  subst hg
  exact (ents_ob w t).more (by simp)
theorem bad_at (w : World) (g : Nat) (hg : w.heap.size = g) (t : TypeId) : Ents (w.alloc (.cells #[.string ⟨#[]⟩, .int .i64 0] t)) (w.alloc (.cells #[.string ⟨#[]⟩, .int .i64 0] t)).heap.size (some ⟨g, 0, none⟩) badL := by
  subst hg
  exact (ents_bad w t).more (by simp)
theorem zero_at (w : World) (g : Nat) (hg : w.heap.size = g) (t : TypeId) : Nums (w.alloc (.cells #[.int .i64 0] t)) (w.alloc (.cells #[.int .i64 0] t)).heap.size (some ⟨g, 0, none⟩) [0] := by
  subst hg
  intro _
  refine ⟨w.heap.size, 0, rfl, by simp, fun k hk => ?_⟩
  match k, hk with
  | 0, _ => simp [ix]

end Go.Proofs.Ytjmkilmpfaapbaa

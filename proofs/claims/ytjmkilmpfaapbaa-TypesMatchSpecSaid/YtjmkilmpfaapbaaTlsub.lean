/- The law's own sub. -/
import Derived.Test.YtjmkilmpfaapbaaTsub
namespace Go.Proofs.Ytjmkilmpfaapbaa
open Go.RowKit Go.Shelf
set_option linter.unusedSimpArgs false
set_option linter.unusedVariables false
set_option maxRecDepth 100000

theorem subM_and (ts : List Ent) (a b : Int) : (((usedF ts [a, b]).1 == 0) && subM ts a b) = subM ts a b := by
  unfold subM
  by_cases h : (usedF ts [a, b]).1 = 0 <;> simp [h]

set_option maxHeartbeats 1000000 in
theorem lsub_any (A : Option Addr) (c : Nat) (ts : List Ent) (a b : Int) (w : World) (hE : Ents w w.heap.size A ts) (hn : ts.length ≤ maxLen) (hcap : ts.length ≤ c) (hcm : c ≤ maxLen) :
    Calls Try.prog 19 #[.slice A ts.length c, .int .i64 a, .int .i64 b] w fun e w' => e = .returned (.bool (subM ts a b)) ∧ Below w.heap.size w w' := by
  have hcall := sub_any A c ts a b w hE hn hcap hcm
  clear hE
  have HA := Lib.hid (subM_and ts a b)
  cases h0 : ((usedF ts [a, b]).1 == 0)
  all_goals
    have HA2 := HA.out
    rw [h0] at HA2
    have HA3 := Lib.hid HA2
    clear HA2
    go_enter Try.func19, Try.ntmps19
    go_wp2_with (go_at_call 11; refine hcall.mono ?_; rintro e w' ⟨rfl, hbw⟩)
    go_ret
    exact ⟨ret_bool (by rw [← HA3.out]; try simp), hbw.alloc hbw.size _⟩

end Go.Proofs.Ytjmkilmpfaapbaa

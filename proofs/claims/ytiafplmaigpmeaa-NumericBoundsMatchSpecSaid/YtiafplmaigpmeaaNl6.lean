/- The law NumericSums: the walk. -/
import Derived.Test.YtiafplmaigpmeaaNsu
import Derived.Test.YtiafplmaigpmeaaNl5
import Derived.OwnWalk
namespace Go.Proofs.Ytiafplmaigpmeaa
open Go.RowKit
set_option linter.unusedSimpArgs false
set_option linter.unusedVariables false
set_option maxRecDepth 100000

theorem made_zero (n : Nat) : (madeCells #[Value.int .i64 0] n).toList = (List.replicate n (0 : Int)).map (Value.int .i64) := by
  refine List.ext_getElem? (fun k => ?_)
  simp only [madeCells, List.map_replicate]
  by_cases hk : k < n
  · simp [hk, Nat.mod_one]
  · simp [hk]
theorem su_in {w1 wC : World} {v : List Int} {a : Option Addr} {c X : Nat} {n : Int} (hX : X < v.length) (hO : w1.ownsRow wC.heap.size 3 1 (.slice (some ⟨wC.heap.size, 0, none⟩) v.length v.length) v.length ((List.replicate v.length (0 : Int)).map (Value.int .i64)))
    (hL : Lst ((((w1.setCell ⟨wC.heap.size, X, none⟩ (.int .i64 1)).alloc (.cells #[.int .i64 X, .slice (some ⟨wC.heap.size, 0, none⟩) v.length v.length, .int .i64 n] 55)).alloc (.cells #[.slice none 0 0, .slice none 0 0, .int .i64 0, .slice none 0 0, .slice (some ⟨w1.heap.size, 0, none⟩) 1 1, .int .i64 0] 53)).alloc (.cells #[.slice a v.length c, .slice none 0 0, .slice (some ⟨w1.heap.size + 1, 0, none⟩) 2 2] 26)) (((((w1.setCell ⟨wC.heap.size, X, none⟩ (.int .i64 1)).alloc (.cells #[.int .i64 X, .slice (some ⟨wC.heap.size, 0, none⟩) v.length v.length, .int .i64 n] 55)).alloc (.cells #[.slice none 0 0, .slice none 0 0, .int .i64 0, .slice none 0 0, .slice (some ⟨w1.heap.size, 0, none⟩) 1 1, .int .i64 0] 53)).alloc (.cells #[.slice a v.length c, .slice none 0 0, .slice (some ⟨w1.heap.size + 1, 0, none⟩) 2 2] 26))).heap.size a c v) : NTIn ((((w1.setCell ⟨wC.heap.size, X, none⟩ (.int .i64 1)).alloc (.cells #[.int .i64 X, .slice (some ⟨wC.heap.size, 0, none⟩) v.length v.length, .int .i64 n] 55)).alloc (.cells #[.slice none 0 0, .slice none 0 0, .int .i64 0, .slice none 0 0, .slice (some ⟨w1.heap.size, 0, none⟩) 1 1, .int .i64 0] 53)).alloc (.cells #[.slice a v.length c, .slice none 0 0, .slice (some ⟨w1.heap.size + 1, 0, none⟩) 2 2] 26)) (((((w1.setCell ⟨wC.heap.size, X, none⟩ (.int .i64 1)).alloc (.cells #[.int .i64 X, .slice (some ⟨wC.heap.size, 0, none⟩) v.length v.length, .int .i64 n] 55)).alloc (.cells #[.slice none 0 0, .slice none 0 0, .int .i64 0, .slice none 0 0, .slice (some ⟨w1.heap.size, 0, none⟩) 1 1, .int .i64 0] 53)).alloc (.cells #[.slice a v.length c, .slice none 0 0, .slice (some ⟨w1.heap.size + 1, 0, none⟩) 2 2] 26))).heap.size (suT v X n a (some ⟨w1.heap.size + 1, 0, none⟩) c 2) := by
  have hgw : wC.heap.size < w1.heap.size := (hO.lt _ rfl).2
  have h1 := (hO.stored X (.int .i64 1)).1
  rw [← List.map_set] at h1
  have h2 : (w1.setCell ⟨wC.heap.size, X, none⟩ (.int .i64 1)).ownsRow wC.heap.size 3 1 (.slice (some ⟨wC.heap.size, 0, none⟩) (unit_ v.length X).length v.length) (unit_ v.length X).length ((unit_ v.length X).map (Value.int .i64)) := by rw [unit_len]; exact h1
  have hU := own_l (((h2.alloc (.cells #[.int .i64 X, .slice (some ⟨wC.heap.size, 0, none⟩) v.length v.length, .int .i64 n] 55)).alloc (.cells #[.slice none 0 0, .slice none 0 0, .int .i64 0, .slice none 0 0, .slice (some ⟨w1.heap.size, 0, none⟩) 1 1, .int .i64 0] 53)).alloc (.cells #[.slice a v.length c, .slice none 0 0, .slice (some ⟨w1.heap.size + 1, 0, none⟩) 2 2] 26))
  have hC := ((tri_new (w1.setCell ⟨wC.heap.size, X, none⟩ (.int .i64 1)) (.int .i64 X) (.slice (some ⟨wC.heap.size, 0, none⟩) v.length v.length) (.int .i64 n) 55).alloc (.cells #[.slice none 0 0, .slice none 0 0, .int .i64 0, .slice none 0 0, .slice (some ⟨w1.heap.size, 0, none⟩) 1 1, .int .i64 0] 53)).alloc (.cells #[.slice a v.length c, .slice none 0 0, .slice (some ⟨w1.heap.size + 1, 0, none⟩) 2 2] 26)
  have hz1 : ((w1.setCell ⟨wC.heap.size, X, none⟩ (.int .i64 1))).heap.size = w1.heap.size := by simp
  rw [hz1] at hC
  have hz2 : ((w1.setCell ⟨wC.heap.size, X, none⟩ (.int .i64 1)).alloc (.cells #[.int .i64 X, .slice (some ⟨wC.heap.size, 0, none⟩) v.length v.length, .int .i64 n] 55)).heap.size = w1.heap.size + 1 := by simp
  have hO6 : ∀ j u, (#[Value.slice none 0 0, .slice none 0 0, .int .i64 0, .slice none 0 0, .slice (some ⟨w1.heap.size, 0, none⟩) 1 1, .int .i64 0] : Array Value)[j]? = some u → ((((w1.setCell ⟨wC.heap.size, X, none⟩ (.int .i64 1)).alloc (.cells #[.int .i64 X, .slice (some ⟨wC.heap.size, 0, none⟩) v.length v.length, .int .i64 n] 55)).alloc (.cells #[.slice none 0 0, .slice none 0 0, .int .i64 0, .slice none 0 0, .slice (some ⟨w1.heap.size, 0, none⟩) 1 1, .int .i64 0] 53)).alloc (.cells #[.slice a v.length c, .slice none 0 0, .slice (some ⟨w1.heap.size + 1, 0, none⟩) 2 2] 26)).cell? ⟨w1.heap.size + 1, j, none⟩ = some u := by
    intro j u hj
    refine cell_past _ ?_
    rw [← hz2]
    unfold World.cell?
    simp only [World.alloc_heap_new]
    exact hj
  have hzz : w1.heap.size + 1 < (((((w1.setCell ⟨wC.heap.size, X, none⟩ (.int .i64 1)).alloc (.cells #[.int .i64 X, .slice (some ⟨wC.heap.size, 0, none⟩) v.length v.length, .int .i64 n] 55)).alloc (.cells #[.slice none 0 0, .slice none 0 0, .int .i64 0, .slice none 0 0, .slice (some ⟨w1.heap.size, 0, none⟩) 1 1, .int .i64 0] 53)).alloc (.cells #[.slice a v.length c, .slice none 0 0, .slice (some ⟨w1.heap.size + 1, 0, none⟩) 2 2] 26))).heap.size := by simp
  generalize ((((w1.setCell ⟨wC.heap.size, X, none⟩ (.int .i64 1)).alloc (.cells #[.int .i64 X, .slice (some ⟨wC.heap.size, 0, none⟩) v.length v.length, .int .i64 n] 55)).alloc (.cells #[.slice none 0 0, .slice none 0 0, .int .i64 0, .slice none 0 0, .slice (some ⟨w1.heap.size, 0, none⟩) 1 1, .int .i64 0] 53)).alloc (.cells #[.slice a v.length c, .slice none 0 0, .slice (some ⟨w1.heap.size + 1, 0, none⟩) 2 2] 26)) = W at *
  refine ⟨hL, ⟨fun h => by simp [suT] at h, by simp [suT], by simp [suT, maxLen]⟩, ⟨fun _ => ⟨_, 0, rfl, hzz, fun k hk => ?_⟩, by simp [suT], by simp [suT, maxLen]⟩⟩
  have hk2 : k < 2 := by simpa [suT] using hk
  match k, hk2 with
  | 0, _ => exact ⟨none, none, 0, 0, ⟨hO6 0 _ rfl, hO6 1 _ rfl, hO6 2 _ rfl⟩, ⟨fun h => by simp [suT, nop] at h, by simp [suT, nop], by simp [maxLen]⟩, ⟨fun h => by simp [suT, nop] at h, by simp [suT, nop], by simp [maxLen]⟩⟩
  | 1, _ =>
    refine ⟨none, _, 0, _, ⟨hO6 3 _ rfl, hO6 4 _ rfl, hO6 5 _ rfl⟩, ⟨fun h => by simp [suT, nop] at h, by simp [suT, nop], by simp [maxLen]⟩, ⟨fun _ => ⟨_, 0, rfl, hC.lt, fun j hj => ?_⟩, by simp [suT, nop], by simp [maxLen]⟩⟩
    obtain rfl : j = 0 := by simp [suT, nop] at hj; omega
    refine ⟨_, v.length, ⟨hC.c0, ?_, hC.c2⟩, hU⟩
    show _ = some (Value.slice _ (unit_ v.length X).length _)
    rw [unit_len]
    exact hC.c1
theorem su_call {x : NT} {a : Option Addr} {c : Nat} {v l : List Int} {op : Int} {W : World} {f : Int × Int}
    (h : Calls Try.prog 18 #[.agg #[.slice x.ai x.init.length x.ci, .slice x.ag x.goal.length x.cg, .slice x.ao x.ops.length x.co], .slice a v.length c, .int .i64 op] W (LsF W (napF x v op) (napL x v op))) (h1 : napF x v op = f) (h2 : napL x v op = l) :
    Calls Try.prog 18 #[.agg #[.slice x.ai x.init.length x.ci, .slice x.ag x.goal.length x.cg, .slice x.ao x.ops.length x.co], .slice a v.length c, .int .i64 op] W (LsF W f l) := by
  rw [h1, h2] at h
  exact h
set_option maxHeartbeats 4000000 in
theorem sums_out (hNv : NvC) (hNa : NaC) (hNs : NsC) (hNb : NbC) (a : Option Addr) (c : Nat) (v : List Int) (X n : Int) (w : World) (hL : Lst w w.heap.size a c v)
    (h : inB (v.length : Int) 1 8 = false ∨ inB X 0 ((v.length : Int) - 1) = false ∨ inB n (-1000) 1000 = false ∨ okL 1000000 v.length v = false) :
    Calls Try.prog 7 #[.slice a v.length c, .int .i64 X, .int .i64 n] w fun e w' => e = .returned (.bool true) ∧ Below w.heap.size w w' := by
  have hln := hL.len
  unfold maxLen at hln
  have HL0 := Lib.hid (fun (W : World) (h : Below w.heap.size w W) => hL.to h h.size)
  have HVO := Lib.hid (fun (W : World) (h2 : Lst W W.heap.size a c v) => valuesOk_any v.length a c v W h2)
  have hwl : IntKind.i64.wrap ((v.length : Int) - 1) = (v.length : Int) - 1 := IntWalk.i64_in _ (by omega)
  clear hL
  cases h1 : inB (v.length : Int) 1 8
  · clear h
    go_enter Try.func7, Try.ntmps7
    go_wp2_with (first | (go_at_call 9; (with_reducible refine (counts_any hNv hNa hNs hNb _).mono ?_); rintro e wC ⟨rfl, hb⟩; have hBc := Lib.hid hb; clear hb) | (go_at_call 16; refine (in_any _ _ _ _).mono ?_; rintro e w' ⟨rfl, rfl⟩) | (go_at_call 14; (with_reducible refine (HVO.out _ (HL0.out _ hBc.out)).mono ?_); rintro e w7 ⟨rfl, rfl⟩))
    go_ret
    exact ⟨rfl, hBc.out⟩
  cases h2 : inB X 0 ((v.length : Int) - 1)
  · clear h
    go_enter Try.func7, Try.ntmps7
    go_wp2_with (first | (go_at_call 9; (with_reducible refine (counts_any hNv hNa hNs hNb _).mono ?_); rintro e wC ⟨rfl, hb⟩; have hBc := Lib.hid hb; clear hb) | (go_at_call 16; refine (in_any _ _ _ _).mono ?_; rintro e w' ⟨rfl, rfl⟩) | (go_at_call 14; (with_reducible refine (HVO.out _ (HL0.out _ hBc.out)).mono ?_); rintro e w7 ⟨rfl, rfl⟩))
    go_ret
    exact ⟨rfl, hBc.out⟩
  cases h3 : inB n (-1000) 1000
  · clear h
    go_enter Try.func7, Try.ntmps7
    go_wp2_with (first | (go_at_call 9; (with_reducible refine (counts_any hNv hNa hNs hNb _).mono ?_); rintro e wC ⟨rfl, hb⟩; have hBc := Lib.hid hb; clear hb) | (go_at_call 16; refine (in_any _ _ _ _).mono ?_; rintro e w' ⟨rfl, rfl⟩) | (go_at_call 14; (with_reducible refine (HVO.out _ (HL0.out _ hBc.out)).mono ?_); rintro e w7 ⟨rfl, rfl⟩))
    go_ret
    exact ⟨rfl, hBc.out⟩
  have h4 : okL 1000000 v.length v = false := by
    rcases h with h | h | h | h
    · rw [h1] at h; cases h
    · rw [h2] at h; cases h
    · rw [h3] at h; cases h
    · exact h
  rw [h4] at HVO
  clear h h4
  go_enter Try.func7, Try.ntmps7
  go_wp2_with (first | (go_at_call 9; (with_reducible refine (counts_any hNv hNa hNs hNb _).mono ?_); rintro e wC ⟨rfl, hb⟩; have hBc := Lib.hid hb; clear hb) | (go_at_call 16; refine (in_any _ _ _ _).mono ?_; rintro e w' ⟨rfl, rfl⟩) | (go_at_call 14; (with_reducible refine (HVO.out _ (HL0.out _ hBc.out)).mono ?_); rintro e w7 ⟨rfl, rfl⟩))
  go_ret
  exact ⟨rfl, hBc.out⟩
end Go.Proofs.Ytiafplmaigpmeaa

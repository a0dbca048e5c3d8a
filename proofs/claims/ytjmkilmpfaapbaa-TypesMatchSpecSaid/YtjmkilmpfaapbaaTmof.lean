/- MembersOf of the reference. -/
import Derived.Test.YtjmkilmpfaapbaaTsup
namespace Go.Proofs.Ytjmkilmpfaapbaa
open Go.RowKit
set_option linter.unusedSimpArgs false
set_option linter.unusedVariables false
set_option maxRecDepth 100000

set_option maxRecDepth 100000 in
set_option maxHeartbeats 2000000 in
theorem membersOf_any (A : Option Addr) (c : Nat) (ts : List Ent) (A2 : Option Addr) (c2 : Nat) (os : List Ent) (t : Int) (w : World) (ho : Ordered ts) (h8 : ts.length ≤ 8) (ho8 : os.length ≤ 8) (hf : ∀ i, i < os.length → -1 ≤ pr os i ∧ pr os i < ts.length)
    (hE : Ents w w.heap.size A ts) (hO : Ents w w.heap.size A2 os) :
    Calls Try.prog 18 #[.slice A ts.length c, .slice A2 os.length c2, .int .i64 t] w (SupPost w (mems ts os t os.length)) := by
  have HE2 := Lib.hid (fun (W : World) (h : Below w.heap.size w W) => hE.to (B' := W.heap.size) h h.size)
  have HO2 := Lib.hid (fun (W : World) (h : Below w.heap.size w W) => hO.to (B' := W.heap.size) h h.size)
  clear hE hO
  have HF := Lib.hid hf
  clear hf
  have HOR := Lib.hid ho
  clear ho
  obtain ⟨i0, hi, hz0, hz1, hz2⟩ := info_parts info_int
  go_enter Try.func18, Try.ntmps18
  go_wp2
  go_loopw [7, 8] (fun v i wr => ∃ k : Nat, k ≤ os.length ∧ i = .int .i64 k ∧ wr.ownsRow w.heap.size 3 1 v (mems ts os t k).length ((mems ts os t k).map (Value.int .i64)) ∧ Below w.heap.size w wr) (fun _ i _ => os.length - (intOf i).toNat)
  case atStart => exact ⟨0, by omega, rfl, World.ownsRow_nil _ _ _ _, Below.refl _ _⟩
  case round =>
    obtain ⟨k, hk, rfl, hown, hbr⟩ := hrel
    have HBr := Lib.hid hbr
    clear hbr
    by_cases hlt : k < os.length
    · obtain ⟨b, o, rfl, hbl, hs, hp, hl⟩ := (HO2.out wr HBr.out).at_ hlt
      obtain ⟨hp0, hpn⟩ := HF.out k hlt
      have hx := rsub_any A c ts HOR.out h8 (pr os k) t wr hp0 hpn (HE2.out _ HBr.out)
      cases hm : memB (sup ts (pr os k)) t
      · have HM := Lib.hid (mems_no hm)
        rw [hm] at hx
        go_wp2_with (go_at_call 13; refine hx.mono ?_; rintro e w5 ⟨rfl, hb5⟩)
        go_roundw
        case rel =>
          refine ⟨k + 1, by omega, by go_num, ?_, ?_⟩
          · rw [HM.out]
            exact own_to hown hb5
          · exact HBr.out.trans (hb5.mono HBr.out.size)
        case measure => simp [intOf]; omega
      · have HM := Lib.hid (mems_yes hm)
        have hlen := mems_len ts os t k
        rw [hm] at hx
        go_wp2_with (first
          | (go_at_call 13; refine hx.mono ?_; rintro e w5 ⟨rfl, hb5⟩; have hown5 := own_to hown hb5)
          | (at_builtin; refine wpList_append_own _ rfl _ _ 36 rfl w.heap.size 3 i0 (.int .i64 0) 1 8 Try.underlying36 hi hz0 hz1 hz2 rfl (by decide) _ _ _ rfl (hown5.alloc _) ⟨w5.heap.size, 0, none⟩ 1 1 [.int .i64 k] rfl rfl ?c1 ?c2 ?c3 ?c4 ?c5 ?_))
        case c1 => exact cell_one_new _ _ _
        case c2 => simp [Value.oneCell']
        case c3 => unfold maxLen; omega
        case c4 => omega
        case c5 => have := HBr.out.size; have := hb5.size; simp; omega
        intro v' w6 hown6 hgrow _
        have HG := Lib.hid hgrow
        clear hgrow
        go_wp2
        go_roundw
        case rel =>
          refine ⟨k + 1, by omega, by go_num, ?_, ?_⟩
          · rw [HM.out]
            simpa using hown6
          · have h6 : Below w.heap.size w (w5.alloc (.cells #[.int .i64 k] 3)) := (HBr.out.trans (hb5.mono HBr.out.size)).alloc (by have := HBr.out.size; have := hb5.size; omega) _
            exact h6.grown HG.out h6.size (fun q hq => (hown5.lt q hq).1)
        case measure => simp [intOf]; omega
    · go_wp2
      have hkk : k = os.length := by omega
      rw [hkk] at hown
      go_ret
      exact ⟨_, rfl, sliceOf_own hown, HBr.out⟩

end Go.Proofs.Ytjmkilmpfaapbaa

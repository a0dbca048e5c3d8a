/- holds and step of package multi. -/
import Derived.Test.YthlafcmabeiagaaDoorMza
import Derived.Test.YthlafcmabeiagaaDoorMaf
namespace Go.Proofs.YthlafcmabeiagaaDoor
open Go.RowKit
set_option linter.unusedSimpArgs false
set_option linter.unusedVariables false
set_option maxRecDepth 100000


theorem own_l2 {w : World} {base : Nat} {a : Option Addr} {c : Nat} {l : List Int} (h : w.ownsRow base 3 1 (.slice a l.length c) l.length (l.map (Value.int .i64))) : Lst w w.heap.size a c l := by
  obtain ⟨a', c', e, hl, _⟩ := own_lst h
  cases e
  exact hl
theorem clone_any (A : Option Addr) (c : Nat) (l : List Int) (w : World) (hL : Lst w w.heap.size A c l) (h0 : A = none → c = 0) (hlen : l.length ≤ 200) :
    Calls Tryd.prog 24 #[.slice A l.length c] w (CopyPost w l) := by
  cases A with
  | none =>
    have hl0 : l = [] := by
      refine List.eq_nil_of_length_eq_zero ?_
      by_cases h1 : 0 < l.length
      · obtain ⟨b, o, e, _⟩ := hL.nums h1
        cases e
      · omega
    subst hl0
    clear hL
    have hq : ∀ W : World, (binOp .eql 22 (.slice none 0 c) (.slice none 0 0)).run Tryd.prog W = .ok (.bool true) W := fun W => run_eql_slice_nil W _ _ none 0 c Tryd.underlying22
    obtain rfl := h0 rfl
    go_enter Tryd.func24, Tryd.ntmps24
    go_wp2
    go_ret
    exact ⟨_, rfl, World.ownsRow_nil _ _ _ _, Below.refl _ _⟩
  | some ad =>
    have HB := Lib.hid (show Below w.heap.size w (w.alloc (.cells #[] 3)) by go_grown)
    have HL := Lib.hid (hL.to HB.out HB.out.size)
    have HO := Lib.hid (World.ownsRow_lit (base := w.heap.size) (e := 3) (size := 1) w #[] 0 (Nat.le_refl _) (by simp [maxLen]) rfl)
    clear hL h0
    have hq : ∀ W : World, (binOp .eql 22 (.slice (some ad) l.length c) (.slice none 0 0)).run Tryd.prog W = .ok (.bool false) W := fun W => run_eql_slice_nil W _ _ (some ad) l.length c Tryd.underlying22
    go_enter Tryd.func24, Tryd.ntmps24
    go_wp2_with (at_builtin; refine wpList_append_lst _ rfl _ _ rfl w.heap.size (.slice (some ⟨w.heap.size, 0, none⟩) 0 0) [] rfl HO.out (some ad) c l rfl HL.out (fun h => by cases h) (by simp; omega) (by simp) ?_)
    intro v' w1 hown hg
    have HO2 := Lib.hid hown
    have HG := Lib.hid hg
    clear hown hg
    go_wp2
    go_ret
    exact ⟨_, rfl, by simpa using HO2.out, HB.out.grown HG.out (by simp) (fun q hq => by simp [Value.ownBlock] at hq; omega)⟩
set_option maxHeartbeats 400000 in
theorem differs_any (a : Asg) (A : Option Addr) (c : Nat) (s : List Int) (bx : Nat) (w : World) (hv : 0 ≤ a.v ∧ a.v < s.length) (hS : Lst w w.heap.size A c s) (hb : bx < w.heap.size) (hc : w.cell? ⟨bx, 0, none⟩ = some (.slice A s.length c)) :
    Calls Tryd.prog 40 #[.agg #[.int .i64 a.v, .int .i64 a.x], .pointer (some ⟨bx, 0, none⟩)] w fun e w' => e = .returned (.bool (!decide (ix s a.v.toNat = a.x))) ∧ Below w.heap.size w w' := by
  have hls := hS.len
  unfold maxLen at hls
  obtain ⟨v, x⟩ := a
  obtain ⟨m, rfl⟩ := Int.eq_ofNat_of_zero_le hv.1
  have hm : m < s.length := by have := hv.2; simp only at this; omega
  clear hv
  obtain ⟨b2, o2, rfl, _, hc2⟩ := hS.nums.at_ hm
  have HB := Lib.hid (al_b w (.cells #[.int .i64 (m : Int), .int .i64 x] 47))
  clear hS
  show Calls _ _ _ _ fun e w' => e = .returned (.bool (!decide (ix s m = x))) ∧ _
  by_cases h : ix s m = x
  · have h2 : (ix s m != x) = false := by simpa using h
    have h3 : (ix s m == x) = true := by simpa using h
    have H := Lib.hid (show (!decide (ix s m = x)) = false by simpa using h)
    clear h
    go_enter Tryd.func40, Tryd.ntmps40
    go_wp2
    go_quiet (fail)
    go_wp2
    go_ret
    exact ⟨ret_val (by rw [H.out]; rfl), belowN HB.out _⟩
  · have h2 : (ix s m != x) = true := by simpa using h
    have h3 : (ix s m == x) = false := by simpa using h
    have H := Lib.hid (show (!decide (ix s m = x)) = true by simpa using h)
    clear h
    go_enter Tryd.func40, Tryd.ntmps40
    go_wp2
    go_quiet (fail)
    go_wp2
    go_ret
    exact ⟨ret_val (by rw [H.out]; rfl), belowN HB.out _⟩
theorem holdB_any (s : List Int) (l : List Asg) : holdB s l = !(List.range l.length).any (fun j => !h1B s l j) := by
  unfold holdB allB
  rw [Bool.eq_iff_iff]
  simp
set_option maxHeartbeats 1000000 in
theorem indexA_any (S : List Int) (A A2 : Option Addr) (c c2 : Nat) (s : List Int) (l : List Asg) (hl : AsOk S l) (hs : s.length = S.length) (bx : Nat) (w : World) (hL : AsgL w w.heap.size A2 c2 l) (hS : Lst w w.heap.size A c s) (hb : bx < w.heap.size) (hc : w.cell? ⟨bx, 0, none⟩ = some (.slice A s.length c)) :
    Calls Tryd.prog 44 #[.slice A2 l.length c2, .func (.func 40) #[] #[.pointer (some ⟨bx, 0, none⟩)]] w fun e w' => e = .returned (.int .i64 (idxB (fun j => !h1B s l j) l.length)) ∧ Below w.heap.size w w' := by
  have hln := hL.len
  unfold maxLen at hln
  have HL := Lib.hid (fun (W : World) (h : Below w.heap.size w W) => hL.to h h.size)
  have HS := Lib.hid (fun (W : World) (h : Below w.heap.size w W) => hS.to h h.size)
  have HC := Lib.hid (fun (W : World) (h : Below w.heap.size w W) => (h.cell (p := ⟨bx, 0, none⟩) hb).trans hc)
  have HV := Lib.hid (fun k (hk : k < l.length) => show 0 ≤ (asg l k).v ∧ (asg l k).v < s.length by have h1 := hl.v k hk; have h2 := hl.lt k hk; omega)
  have HBX := Lib.hid hb
  clear hL hS hc hb hs
  go_enter Tryd.func44, Tryd.ntmps44
  go_wp2
  go_loopw [8] (fun i wr => ∃ k : Nat, k ≤ l.length ∧ i = .int .i64 k ∧ (∀ j, j < k → h1B s l j = true) ∧ Below w.heap.size w wr) (fun i _ => l.length - (intOf i).toNat)
  case atStart => exact ⟨0, by omega, rfl, by omega, Below.refl _ _⟩
  case round =>
    obtain ⟨k, hk, rfl, hj, hb⟩ := hrel
    have HJ := Lib.hid hj
    have HB := Lib.hid hb
    clear hj hb
    by_cases hlt : k < l.length
    · obtain ⟨b, o, rfl, _, ⟨q0, q1⟩⟩ := (HL.out _ HB.out).at_ hlt
      have HR := Lib.hid (differs_any (asg l k) A c s bx wr (HV.out k hlt) (HS.out _ HB.out) (by have := HB.out.size; have := HBX.out; omega) (HC.out _ HB.out))
      cases hi : h1B s l k
      · have HI := Lib.hid hi
        have hi2 : decide (ix s (asg l k).v.toNat = (asg l k).x) = false := hi
        rw [hi2] at HR
        clear hi hi2
        go_wp2_with (go_at_call 40; (with_reducible refine HR.out.mono ?_); rintro e w5 ⟨rfl, hb5⟩; have HB5 := Lib.hid (HB.out.trans (hb5.mono HB.out.size)); clear hb5)
        go_ret
        exact ⟨ret_int2 (idxB_hit hlt (by rw [HI.out]; rfl) (fun j h => by rw [HJ.out j h]; rfl)).symm, HB5.out⟩
      · have HI := Lib.hid hi
        have hi2 : decide (ix s (asg l k).v.toNat = (asg l k).x) = true := hi
        rw [hi2] at HR
        clear hi hi2
        go_wp2_with (go_at_call 40; (with_reducible refine HR.out.mono ?_); rintro e w5 ⟨rfl, hb5⟩; have HB5 := Lib.hid (HB.out.trans (hb5.mono HB.out.size)); clear hb5)
        go_roundw
        case rel => exact ⟨k + 1, by omega, by go_num, all_step HJ.out HI.out, HB5.out⟩
        case measure => simp [intOf]; omega
    · have hge : ¬ ((k : Int) < l.length) := by omega
      go_wp2
      go_ret
      exact ⟨ret_int2 (idxB_miss (fun j h => by rw [HJ.out j (by omega)]; rfl)).symm, HB.out⟩
set_option maxHeartbeats 400000 in
theorem containsA_any (S : List Int) (A A2 : Option Addr) (c c2 : Nat) (s : List Int) (l : List Asg) (hl : AsOk S l) (hs : s.length = S.length) (bx : Nat) (w : World) (hL : AsgL w w.heap.size A2 c2 l) (hS : Lst w w.heap.size A c s) (hb : bx < w.heap.size) (hc : w.cell? ⟨bx, 0, none⟩ = some (.slice A s.length c)) :
    Calls Tryd.prog 41 #[.slice A2 l.length c2, .func (.func 40) #[] #[.pointer (some ⟨bx, 0, none⟩)]] w fun e w' => e = .returned (.bool (!holdB s l)) ∧ Below w.heap.size w w' := by
  have HR := Lib.hid (indexA_any S A A2 c c2 s l hl hs bx w hL hS hb hc)
  have hI := idxB_has (fun j => !h1B s l j) l.length
  have HS := Lib.hid (holdB_any s l)
  clear hL hS hc hs
  go_enter Tryd.func41, Tryd.ntmps41
  go_wp2_with (go_at_call 44; (with_reducible refine HR.out.mono ?_); rintro e w5 ⟨rfl, hb5⟩; have HB5 := Lib.hid hb5; clear hb5)
  go_ret
  exact ⟨ret_val (by rw [HS.out, Bool.not_not]; rfl), HB5.out⟩
set_option maxHeartbeats 400000 in
theorem holds_any (S : List Int) (A A2 : Option Addr) (c c2 : Nat) (s : List Int) (l : List Asg) (hl : AsOk S l) (hs : s.length = S.length) (w : World) (hL : AsgL w w.heap.size A2 c2 l) (hS : Lst w w.heap.size A c s) :
    Calls Tryd.prog 31 #[.slice A2 l.length c2, .slice A s.length c] w fun e w' => e = .returned (.bool (holdB s l)) ∧ Below w.heap.size w w' := by
  have HB := Lib.hid (al_b w (.cells #[.slice A s.length c] 22))
  have HR := Lib.hid (containsA_any S A A2 c c2 s l hl hs w.heap.size _ (hL.to HB.out HB.out.size) (hS.to HB.out HB.out.size) (by simp) (cell_new _ _ _).1)
  clear hL hS hs
  cases hh : holdB s l
  · rw [hh] at HR
    clear hh
    go_enter Tryd.func31, Tryd.ntmps31
    go_wp2_with (go_at_call 41; (with_reducible refine HR.out.mono ?_); rintro e w5 ⟨rfl, hb5⟩; have HB5 := Lib.hid (HB.out.trans (hb5.mono HB.out.size)); clear hb5)
    go_ret
    exact ⟨rfl, HB5.out⟩
  · rw [hh] at HR
    clear hh
    go_enter Tryd.func31, Tryd.ntmps31
    go_wp2_with (go_at_call 41; (with_reducible refine HR.out.mono ?_); rintro e w5 ⟨rfl, hb5⟩; have HB5 := Lib.hid (HB.out.trans (hb5.mono HB.out.size)); clear hb5)
    go_ret
    exact ⟨rfl, HB5.out⟩

/-- What step leaves: the state in its row. -/
def StP (w : World) (base g cap : Nat) (s : List Int) (o : MOp) (e : Ending) (w' : World) : Prop :=
  e = .returned (.bool (holdB s o.pre)) ∧ Row w' base g cap (if holdB s o.pre then aft s o.post else s) ∧ Below base w w'
set_option maxHeartbeats 2000000 in
theorem step_any (S : List Int) (a1 a2 : Option Addr) (c1 c2 : Nat) (o : MOp) (h1 : AsOk S o.pre) (h2 : AsOk S o.post) (s : List Int) (hs : s.length = S.length) (base g cap : Nat) (w : World)
    (hb : base ≤ w.heap.size) (hg : base ≤ g) (hR : Row w base g cap s) (hL1 : AsgL w base a1 c1 o.pre) (hL2 : AsgL w base a2 c2 o.post) :
    Calls Tryd.prog 25 #[.agg #[.slice a1 o.pre.length c1, .slice a2 o.post.length c2, .int .i64 o.cost], .slice (some ⟨g, 0, none⟩) s.length cap] w (StP w base g cap s o) := by
  have hlp := hL2.len
  unfold maxLen at hlp
  have HB := Lib.hid (al_b w (.cells #[.slice a1 o.pre.length c1, .slice a2 o.post.length c2, .int .i64 o.cost] 50))
  have hO := Lib.hid (tri_new w (.slice a1 o.pre.length c1) (.slice a2 o.post.length c2) (.int .i64 o.cost) 50)
  have HR1 := Lib.hid (row_to hR HB.out)
  have HHO := Lib.hid (holds_any S (some ⟨g, 0, none⟩) a1 cap c1 s o.pre h1 hs _ ((hL1.to (Below.refl _ _) hb).to HB.out HB.out.size) (own_l2 HR1.out))
  have HPO := Lib.hid (fun (W : World) (h : Below base w W) => hL2.to h (Nat.le_refl base))
  have HR := Lib.hid hR
  have HBM := Lib.hid hb
  have HGB := Lib.hid hg
  have HLN := Lib.hid (aftN_len s o.post)
  have HS := Lib.hid hs
  have HH2 := Lib.hid h2
  clear hR hL1 hL2 hb hg hs h1 h2
  cases hh : holdB s o.pre
  · rw [hh] at HHO
    have H := Lib.hid hh
    clear hh
    go_enter Tryd.func25, Tryd.ntmps25
    go_wp2_with (go_at_call 31; (with_reducible refine HHO.out.mono ?_); rintro e w5 ⟨rfl, hb5⟩; have HB5 := Lib.hid (HB.out.trans (hb5.mono HB.out.size)); have HO5 := Lib.hid (hO.out.to hb5); obtain ⟨_, z0, z1, z2⟩ := HO5.out; clear hb5)
    go_ret
    refine ⟨ret_val (by rw [H.out]; rfl), ?_, HB5.out.mono HBM.out⟩
    rw [H.out]
    exact row_to HR.out HB5.out
  rw [hh] at HHO
  have H := Lib.hid hh
  clear hh
  go_enter Tryd.func25, Tryd.ntmps25
  go_wp2_with (go_at_call 31; (with_reducible refine HHO.out.mono ?_); rintro e w5 ⟨rfl, hb5⟩; have HB5 := Lib.hid (HB.out.trans (hb5.mono HB.out.size)); have HO5 := Lib.hid (hO.out.to hb5); obtain ⟨_, z0, z1, z2⟩ := HO5.out; clear hb5)
  have HR5 := Lib.hid (row_to HR.out HB5.out)
  go_loopw [15] (fun i wr => ∃ k : Nat, k ≤ o.post.length ∧ i = .int .i64 k ∧ Row wr base g cap (aftN s o.post k) ∧ Below base w wr) (fun i _ => o.post.length - (intOf i).toNat)
  case atStart => exact ⟨0, by omega, rfl, HR5.out, HB5.out.mono HBM.out⟩
  case round =>
    clear z0 z1 z2 HB5 HO5 HR5 HHO hO HB HR1
    obtain ⟨k, hk, rfl, hr, hb⟩ := hrel
    have HRR := Lib.hid hr
    have HBB := Lib.hid hb
    clear hr hb
    by_cases hlt : k < o.post.length
    case neg =>
      obtain rfl : k = o.post.length := by omega
      have hge : ¬ ((o.post.length : Int) < o.post.length) := by omega
      go_wp2
      go_ret
      refine ⟨ret_val (by rw [H.out]; rfl), ?_, HBB.out⟩
      rw [H.out]
      exact HRR.out
    obtain ⟨b2, p2, rfl, _, ⟨r0, r1⟩⟩ := (HPO.out _ HBB.out).at_ hlt
    have hv := HH2.out.v k hlt
    have hlt2 : vr o.post k < s.length := by have := HH2.out.lt k hlt; have := HS.out; omega
    rw [hv] at r0
    have hlk := HLN.out k (by omega)
    have hal := al_b wr (.cells #[.int .i64 (vr o.post k : Int), .int .i64 (asg o.post k).x] 47)
    have HR6 := Lib.hid (row_to HRR.out hal)
    obtain ⟨z0, z1⟩ := row_cell HR6.out (m := vr o.post k) (by omega)
    have HST := Lib.hid (aftN_succ (s := s) hlt)
    have hsz := HBB.out.size
    have HB6 := Lib.hid (HBB.out.trans (hal.mono (by have := HBM.out; omega)))
    clear hv hlk hal hsz
    go_wp2
    go_roundw
    case rel =>
      refine ⟨k + 1, by omega, by go_num, ?_, HB6.out.setCell (by exact HGB.out) _⟩
      rw [HST.out]
      exact row_put HR6.out _ _
    case measure => simp [intOf]; omega
end Go.Proofs.YthlafcmabeiagaaDoor

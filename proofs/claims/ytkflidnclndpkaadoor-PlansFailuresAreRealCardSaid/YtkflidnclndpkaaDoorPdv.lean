/- Pdp, Pdi, Pdl, Pdm, Pdv in one text. -/
import Derived.Test.YtkflidnclndpkaaDoorPdr
import Derived.LoopNIn
import Derived.LoopIn
import Derived.TacticsInMore
import Derived.OwnWalkIn
import Derived.RangeFuncFrom
import Derived.RangeFuncNested
import Derived.RangeFuncBound
import Derived.RangeFuncCalls
import Derived.RangeFuncLeaves
import Derived.Laws.BitsLemmas

/- The parts of a plan: pure facts, and the iterator shorterParts$1. -/
section
namespace Go.Proofs.YtkflidnclndpkaaDoor
open Go.RowKit Go.Shelf
set_option linter.unusedSimpArgs false
set_option linter.unusedVariables false
set_option maxRecDepth 100000

attribute [local go_sem] Oper.semAt_some

/-- The steps of the plan among the first k whose bits are in m. -/
def pk (plan : List Int) (m : Nat) : Nat → List Int
  | 0 => []
  | k + 1 => if m.testBit k then pk plan m k ++ [ix plan k] else pk plan m k
theorem pk_len (plan : List Int) (m : Nat) : ∀ k, (pk plan m k).length ≤ k
  | 0 => by simp [pk]
  | k + 1 => by
    have := pk_len plan m k
    rw [pk]
    split
    · simp; omega
    · omega
theorem pk_sub (plan : List Int) (m : Nat) : ∀ k, k ≤ plan.length → (pk plan m k).Sublist (plan.take k)
  | 0, _ => by simp [pk]
  | k + 1, h => by
    have ih := pk_sub plan m k (by omega)
    rw [take_succ_ix (by omega), pk]
    split
    · exact List.Sublist.append ih (List.Sublist.refl _)
    · exact ih.trans (List.sublist_append_left _ _)
theorem pk_full (plan : List Int) (m : Nat) : ∀ k, (pk plan m k).length = k → ∀ j, j < k → m.testBit j = true
  | 0, _, j, h => by omega
  | k + 1, h, j, hj => by
    have h1 := pk_len plan m k
    rw [pk] at h
    cases hb : m.testBit k
    · rw [hb] at h; simp at h; omega
    · rw [hb] at h
      have h2 : (pk plan m k).length = k := by simpa using h
      by_cases e : j = k
      · subst e; exact hb
      · exact pk_full plan m k h2 j (by omega)
theorem bits_full {m : Nat} : ∀ k, (∀ j, j < k → m.testBit j = true) → m % 2 ^ k = 2 ^ k - 1 := by
  intro k h
  refine Nat.eq_of_testBit_eq (fun j => ?_)
  rw [Nat.testBit_mod_two_pow, Nat.testBit_two_pow_sub_one]
  by_cases e : j < k
  · simp [e, h j e]
  · simp [e]
theorem pk_short {plan : List Int} {m k : Nat} (h : m < 2 ^ k - 1) : (pk plan m k).length < k := by
  rcases Nat.lt_or_ge (pk plan m k).length k with h1 | h1
  · exact h1
  · have h2 := bits_full k (pk_full plan m k (by have := pk_len plan m k; omega))
    have h3 : m % 2 ^ k = m := Nat.mod_eq_of_lt (by omega)
    omega
theorem pk_low (plan : List Int) (m m' : Nat) : ∀ k, (∀ j, j < k → m.testBit j = m'.testBit j) → pk plan m k = pk plan m' k
  | 0, _ => rfl
  | k + 1, h => by
    rw [pk, pk, h k (by omega), pk_low plan m m' k (fun j hj => h j (by omega))]
/-- Every part is met. -/
theorem pk_has {plan : List Int} : ∀ (k : Nat), k ≤ plan.length → ∀ sub : List Int, sub.Sublist (plan.take k) → ∃ m, m < 2 ^ k ∧ pk plan m k = sub
  | 0, _, sub, h => ⟨0, by simp, by have h2 : sub = [] := (by simpa using h); subst h2; rfl⟩
  | k + 1, hk, sub, h => by
    rw [take_succ_ix (by omega), List.sublist_append_iff] at h
    obtain ⟨s1, s2, rfl, h1, h2⟩ := h
    obtain ⟨m, hm, he⟩ := pk_has k (by omega) s1 h1
    have hp : 2 ^ (k + 1) = 2 ^ k + 2 ^ k := by rw [Nat.pow_succ]; omega
    have hs2 : s2 = [] ∨ s2 = [ix plan k] := by
      match s2, h2 with
      | [], _ => exact .inl rfl
      | a :: t, h2 =>
        have hl := h2.length_le
        have ht : t = [] := List.eq_nil_of_length_eq_zero (by simp only [List.length_cons, List.length_nil] at hl; omega)
        subst ht
        exact .inr (h2.eq_of_length (by simp))
    rcases hs2 with rfl | rfl
    · refine ⟨m, by omega, ?_⟩
      rw [pk, Nat.testBit_lt_two_pow hm]
      simpa using he
    · refine ⟨2 ^ k + m, by omega, ?_⟩
      have hb : (2 ^ k + m).testBit k = true := by
        rw [Nat.testBit_two_pow_add_eq, Nat.testBit_lt_two_pow hm]; rfl
      rw [pk, hb, if_pos rfl, pk_low plan (2 ^ k + m) m k (fun j hj => Nat.testBit_two_pow_add_gt hj m), he]
theorem min_yes {x : Tsk} {n : Nat} {plan : List Int} (h : ∀ m, m < 2 ^ plan.length - 1 → solB x n x.init (pk plan m plan.length) = false) : minL x n plan = true := by
  unfold minL
  cases hs : shL x n [] plan false
  · rfl
  · obtain ⟨sub, h1, h2, h3⟩ := (sh_iff plan [] false).1 hs
    have h3 : sub.length < plan.length := by simpa using h3
    obtain ⟨m, hm, he⟩ := pk_has (plan := plan) plan.length (Nat.le_refl _) sub (by rwa [List.take_length])
    have hm2 : m ≠ 2 ^ plan.length - 1 := by
      rintro rfl
      have hl : ∀ k, k ≤ plan.length → (pk plan (2 ^ plan.length - 1) k).length = k := by
        intro k
        induction k with
        | zero => intro _; rfl
        | succ k ih =>
          intro hk
          have hb : (2 ^ plan.length - 1).testBit k = true := by rw [Nat.testBit_two_pow_sub_one]; simp; omega
          rw [pk, hb, if_pos rfl, List.length_append, ih (by omega)]; rfl
      have := hl plan.length (Nat.le_refl _)
      rw [he] at this
      omega
    have := h m (by omega)
    rw [he] at this
    have h2 : solB x n x.init sub = true := by simpa using h2
    rw [h2] at this
    cases this
theorem min_not {x : Tsk} {n : Nat} {plan : List Int} {m : Nat} (hm : m < 2 ^ plan.length - 1) (h : solB x n x.init (pk plan m plan.length) = true) : minL x n plan = false := by
  cases hs : minL x n plan
  · rfl
  · have := min_no hs (sub := pk plan m plan.length) (by have := pk_sub plan m plan.length (Nat.le_refl _); rwa [List.take_length] at this) (pk_short hm)
    rw [h] at this
    cases this
end Go.Proofs.YtkflidnclndpkaaDoor
end

/- The iterator over the parts of a plan: shorterParts$1. -/
section
namespace Go.Proofs.YtkflidnclndpkaaDoor
open Go.RowKit Go.Shelf
set_option linter.unusedSimpArgs false
set_option linter.unusedVariables false
set_option maxRecDepth 100000

attribute [local go_sem] Oper.semAt_some

/-- A part that the iterator yields: its slice and what stands in it. -/
structure Pt where
  a : Option Addr
  c : Nat
  l : List Int
def PtM (y : Pt) (W : World) : Prop := Lst W W.heap.size y.a y.c y.l ∧ y.l.length ≤ 12
def ptE (y : Pt) : Array Value := #[.slice y.a y.l.length y.c]
/-- All parts with less than all steps. -/
def prt (plan : List Int) (m : Nat) : List (List Int) := (List.range m).map (fun k => pk plan k plan.length)
theorem wrap64_small {z : Int} (h0 : 0 ≤ z) (h1 : z < 9223372036854775808) : wrap64 z = z := IntWalk.wrap64_in z ⟨by omega, by omega⟩
theorem two63 : (2 : Int) ^ 63 = 9223372036854775808 := by decide
theorem and_one64 (i : Nat) (hi : i < 9223372036854775808) : bits BinOp.and IntKind.i64 (i : Int) 1 = ((i % 2 : Nat) : Int) := by
  have h := bits_mask .i64 63 (by decide) (fun n h0 h1 => by rw [two63] at h1; exact IntWalk.i64_in n ⟨by omega, by omega⟩) 1 (by decide) (i : Int) (by omega) (by rw [two63]; omega)
  rw [show ((2 : Int) ^ 1 - 1) = 1 by decide] at h
  rw [h]
  omega
theorem bit_test {m : Nat} (hm : m < 9223372036854775808) (k : Nat) : (bits BinOp.and IntKind.i64 ((m : Int) / 2 ^ k) 1 == 1) = m.testBit k := by
  have e : (m : Int) / 2 ^ k = ((m / 2 ^ k : Nat) : Int) := by simp
  rw [e, and_one64 _ (Nat.lt_of_le_of_lt (Nat.div_le_self _ _) hm), Nat.testBit_eq_decide_div_mod_eq]
  rcases Nat.mod_two_eq_zero_or_one (m / 2 ^ k) with h | h <;> rw [h] <;> rfl
set_option maxHeartbeats 4000000 in
theorem parts1_in (n : Nat) (hn : 2 ≤ n) (l Bp n₀ : Nat) (a3 : Option Addr) (c3 : Nat) (plan : List Int) (h12 : plan.length ≤ 12) (N : Nat) (hN : 2 ^ plan.length = N + 1)
    (J Jx : List Pt → World → Prop) (B : Nat) (hJ : AbidesFrom B J)
    (hY : ∀ pre y W, PtM y W → J pre W → YieldAt Fence.wide (n - 1) Tryd.prog l (ptE y) W fun e W' =>
      (e = .returned (.bool true) ∧ J (pre ++ [y]) W' ∧ Below n₀ W W') ∨ (e = .returned (.bool false) ∧ Jx (pre ++ [y]) W'))
    (W : World) (hBp : Bp < n₀) (hcp : W.cell? ⟨Bp, 0, none⟩ = some (.slice a3 plan.length c3)) (hP : Lst W n₀ a3 c3 plan) (hn₀ : n₀ ≤ W.heap.size) (h0 : J [] W) :
    CallsIn Fence.wide n Tryd.prog 47 #[.func (.yield l) #[] #[], .pointer (some ⟨Bp, 0, none⟩)] W fun e W' => (∃ v, e = .returned v) ∧
      ((∃ ys : List Pt, ys.map Pt.l = prt plan N ∧ J ys W') ∨ (∃ (pre : List Pt) (m : Nat), m ≤ N ∧ pre.map Pt.l = prt plan m ∧ Jx pre W')) := by
  have h1 : 1 ≤ n := by omega
  have HCP := Lib.hid (fun (V : World) (h : Below n₀ W V) => (h.cell (p := ⟨Bp, 0, none⟩) hBp).trans hcp)
  have HP := Lib.hid (fun (V : World) (h : Below n₀ W V) => hP.to h (Nat.le_refl _))
  have HN0 := Lib.hid hn₀
  clear hP hn₀
  obtain ⟨i0, hi0, hz0, hz1, hz2⟩ := info_parts info_int
  refine callsIn_of_wp Tryd.func47 rfl trivial ?_ rfl
  simp only [Tryd.ntmps47, List.size_toArray, List.length_cons, List.length_nil, Nat.reduceAdd, Nat.reduceSub, Array.replicate_succ, Array.replicate_zero, List.push_toArray, List.append_toArray, List.nil_append, List.cons_append]
  gi_wp2
  have hp12 : 2 ^ plan.length ≤ 2 ^ 12 := Nat.pow_le_pow_right (by omega) h12
  have hN12 : N < 4096 := by omega
  rw [pow_cast, hN, wrap64_small (by omega) (by omega), wrap64_small (by omega) (by omega), show (((N + 1 : Nat) : Int) - 1) = (N : Int) by omega, show ((N + 1 : Nat) : Int) = (N : Int) + 1 by omega]
  clear hp12 hN
  gi_loopw [11] (fun k wr => ∃ (m : Nat) (pre : List Pt), k = .int .i64 m ∧ m ≤ N ∧ pre.map Pt.l = prt plan m ∧ J pre wr ∧ Below n₀ W wr) (fun k _ => N - (intOf k).toNat)
  case atStart => exact ⟨0, [], rfl, by omega, rfl, h0, Below.refl _ _⟩
  case round =>
    obtain ⟨m, pre, rfl, hm, hpre, hj, hbe⟩ := hrel
    have HPRE := Lib.hid hpre
    have HBE := Lib.hid hbe
    clear hpre hbe
    by_cases hlt : m < N
    case neg =>
      obtain rfl : m = N := by omega
      gi_wp2
      go_end0
      exact ⟨⟨_, rfl⟩, .inl ⟨_, HPRE.out, hj⟩⟩
    case pos =>
      have hcp1 := HCP.out _ HBE.out
      gi_wp2
      gi_loopw [4, 16] (fun v i wv => ∃ k : Nat, i = .int .i64 k ∧ k ≤ plan.length ∧ wv.ownsRow wr.heap.size 3 1 v (pk plan m k).length ((pk plan m k).map (Value.int .i64)) ∧ Below wr.heap.size wr wv) (fun _ i _ => plan.length - (intOf i).toNat)
      case atStart => exact ⟨0, rfl, by omega, World.ownsRow_nil _ _ _ _, Below.refl _ _⟩
      case round =>
        obtain ⟨k, rfl, hk, hown, hb2⟩ := hrel
        have HOW := Lib.hid hown
        have HB2 := Lib.hid hb2
        obtain ⟨av, cv, rfl, hlv, _⟩ := own_lst hown
        have HLV := Lib.hid hlv
        clear hown hb2 hlv
        by_cases hlk : k < plan.length
        case neg =>
          obtain rfl : k = plan.length := by omega
          obtain ⟨fn, tmps, assign, body, hy, hRD⟩ := hY pre ⟨av, cv, pk plan m plan.length⟩ _ ⟨HLV.out, Nat.le_trans (pk_len _ _ _) h12⟩ (hJ _ _ _ none hj (grown_of_below HB2.out none) (fun r e => by cases e))
          unfold ptE at hy
          dsimp only at hy
          gi_wp2
          refine hRD.mono ?_
          rintro e W3 (⟨rfl, hJ3, hk3⟩ | ⟨rfl, hJx3⟩)
          · have HK3 := Lib.hid (HBE.out.trans ((HB2.out.mono (Nat.le_trans HN0.out HBE.out.size)).trans hk3))
            clear hk3
            have hwk : IntKind.i64.wrap ((m : Int) + 1) = (m : Int) + 1 := IntWalk.i64_in _ (by omega)
            gi_wp2
            go_roundw
            case rel =>
              refine ⟨m + 1, pre ++ [⟨av, cv, pk plan m plan.length⟩], by go_num, by omega, ?_, hJ3, HK3.out⟩
              rw [List.map_append, HPRE.out]
              unfold prt
              rw [List.range_succ, List.map_append]
              rfl
            case measure => simp [intOf]; omega
          · gi_wp2
            refine bodyPost_ret (results_none rfl _ _ _) rfl ?_
            refine ⟨⟨_, rfl⟩, .inr ⟨_, m + 1, by omega, ?_, hJx3⟩⟩
            rw [List.map_append, HPRE.out]
            unfold prt
            rw [List.range_succ, List.map_append]
            rfl
        case pos =>
          obtain ⟨b, o, rfl, _, hc0⟩ := (HP.out _ (HBE.out.trans (HB2.out.mono (Nat.le_trans HN0.out HBE.out.size)))).nums.at_ hlk
          have hwk : IntKind.i64.wrap ((k : Int) + 1) = (k : Int) + 1 := IntWalk.i64_in _ (by omega)
          have hbt := bit_test (m := m) (by omega) k
          cases hb : m.testBit k
          case false =>
            rw [hb] at hbt
            have HPK := Lib.hid (show pk plan m (k + 1) = pk plan m k by rw [pk, hb]; rfl)
            gi_wp2
            go_roundw
            case rel => exact ⟨k + 1, by go_num, by omega, by rw [HPK.out]; exact HOW.out, HB2.out⟩
            case measure => simp [intOf]; omega
          case true =>
            rw [hb] at hbt
            have HPK := Lib.hid (show pk plan m (k + 1) = pk plan m k ++ [ix plan k] by rw [pk, hb]; rfl)
            have hpl := pk_len plan m k
            gi_wp2_with (gi_at_builtin; refine wpListIn_append_own _ rfl _ _ 22 rfl _ 3 i0 (.int .i64 0) 1 8 Tryd.underlying22 hi0 hz0 hz1 hz2 rfl (by decide) _ _ _ rfl (HOW.out.alloc _) ⟨wr.heap.size, 0, none⟩ 1 1 [.int .i64 (ix plan k)] rfl rfl (news1 (cell_new _ _ _).1) (by simp [Value.oneCell']) (by unfold maxLen; omega) (by omega) (by have := HB2.out.size; simp; omega) ?_)
            intro v6 w6 hown6 hgrow6 _
            have HO6 := Lib.hid hown6
            have HB6 := Lib.hid ((HB2.out.alloc HB2.out.size _).grown hgrow6 (by have := HB2.out.size; simp; omega) (fun q hq => (HOW.out.lt q hq).1))
            clear hown6 hgrow6
            gi_wp2
            go_roundw
            case rel =>
              refine ⟨k + 1, by go_num, by omega, ?_, HB6.out⟩
              rw [HPK.out]; simpa using HO6.out
            case measure => simp [intOf]; omega
end Go.Proofs.YtkflidnclndpkaaDoor
end

/- A range over an iterator whose elements lie in memory: what is yielded is told to the body. -/
section
namespace Go.Proofs.YtkflidnclndpkaaDoor
open Go.RowKit
set_option linter.unusedSimpArgs false
set_option linter.unusedVariables false

section
variable {F : Fence} {n : Nat} {P : Program} {α : Type}
/-- The iterator's word: each element that it yields fulfils M in the world in which it is yielded. -/
def SeqM (F : Fence) (n : Nat) (P : Program) (g : Nat) (lb : Array Value) (encs : α → Array Value) (M : α → World → Prop) (n₀ : Nat) (S Sp : List α → Prop) (w : World) : Prop :=
  ∀ (l : Nat) (J Jx : List α → World → Prop) (W : World), Below w.heap.size w W → AbidesFrom W.heap.size J → AbidesFrom W.heap.size Jx →
    (∀ pre y W1, M y W1 → J pre W1 → YieldAt F (n - 1) P l (encs y) W1 fun e W' => (e = .returned (.bool true) ∧ J (pre ++ [y]) W' ∧ Below n₀ W1 W') ∨ (e = .returned (.bool false) ∧ Jx (pre ++ [y]) W')) →
    J [] W → CallsIn F n P g (#[.func (.yield l) #[] #[]] ++ lb) W fun e W' => (∃ v, e = .returned v) ∧ ((∃ ys, S ys ∧ J ys W') ∨ (∃ pre, Sp pre ∧ Jx pre W'))
theorem put_below {w W : World} {n₀ l : Nat} (hn : n₀ ≤ w.heap.size) (hl : w.heap.size ≤ l) {o : Obj} (o' : Obj) (h : W.heap[l]? = some o) : Below n₀ W (W.putObj l o') :=
  (Below.refl n₀ W).grown (grownBy_putObj' W l o') (by have := (Array.getElem?_eq_some_iff.1 h).1; omega) (fun k e => by cases e; omega)

theorem rangeM {g : Operand} {ps : Array Tmp} {assign body : Code} {Q : Exit → Act → World → Prop} {a : Act} {w : World} (hro : F.round = none) (h1 : 1 ≤ n) {gf : Nat} {lb : Array Value} (hg : a.eval g = .func (.func gf) #[] lb) (hFg : F.fn gf)
    (eg : ∀ args w, (callFunc gf args).run P w = .ok (.enter gf args) w) {encs : α → Array Value} {M : α → World → Prop} {n₀ : Nat} (hn : n₀ ≤ w.heap.size) {S Sp : List α → Prop} (hseq : SeqM F (n - 1) P gf lb encs M n₀ S Sp w)
    (hps : ∀ y, (encs y).size = ps.size) (hM : ∀ y, OwnFrom w.heap.size (fun (_ : Unit) W => M y W)) (I Ix : List α → World → Prop) (hI : OwnFrom w.heap.size I) (hIx : OwnFrom w.heap.size Ix) (h0 : I [] w) (a₁ : α → Act)
    (hassign : ∀ (l : Nat) (y : α) (W : World) (K : Act → World → Prop), K (a₁ y) W → assign.wpIn (F.inRound l) (n - 1 - 1) P (Exit.then K (fun _ _ _ => False)) { tmps := (ps.zip (encs y)).foldl (fun t (p, v) => t.setIfInBounds p v) a.tmps, defers := [] } W)
    (hbody : ∀ (l : Nat) (pre : List α) (y : α) (W : World), M y W → I pre W → body.wpIn (F.inRound l) (n - 1 - 1) P (ownPostK (Below n₀) I (fun c pre W => c = .ret ∧ Ix pre W) (pre ++ [y]) W) (a₁ y) W)
    (hdone : ∀ (D : Nat) (ys : List α) (W : World), w.heap.size ≤ D → S ys → I ys W → W.heap[D]? = some (.deferred (some [])) → Q .normal { a with defers := { target := .collected D, args := #[] } :: a.defers } W)
    (hstop : ∀ (D : Nat) (pre : List α) (W : World), w.heap.size ≤ D → Sp pre → Ix pre W → W.heap[D]? = some (.deferred (some [])) → Code.ret.wpIn F n P Q { a with defers := { target := .collected D, args := #[] } :: a.defers } W) :
    (Code.rangeFunc g ps assign body).wpIn F n P Q a w := by
  refine wpIn_rangeFunc (fun fn hfn => ?_)
  rw [hro]
  -- the loop's record in its states, its number and the block for the rounds' deferred calls
  let rec' : LoopState → Option Code → Loop := fun st pe => { state := st, pending := pe, fn, tmps := a.tmps, params := ps, assign, body, defers := w.heap.size }
  obtain ⟨rec, hrec⟩ : ∃ r, r = rec' := ⟨_, rfl⟩
  obtain ⟨N, hN⟩ : ∃ N, N = w.heap.size + 1 := ⟨_, rfl⟩
  obtain ⟨W1, hW1⟩ : ∃ V, (w.alloc (.deferred (some []))).alloc (.loop (rec .ready none)) = V := ⟨_, rfl⟩
  have hz1 : W1.heap.size = w.heap.size + 2 := by rw [← hW1]; simp
  have hLoop : W1.heap[N]? = some (.loop (rec .ready none)) := by
    rw [← hW1, hN]
    have := World.alloc_heap_new (w.alloc (.deferred (some []))) (.loop (rec .ready none))
    rwa [World.size_alloc] at this
  have hDef : W1.heap[w.heap.size]? = some (.deferred (some [])) := by
    rw [← hW1]; exact (Below.heap_alloc _ _ _ (by simp)).trans (World.alloc_heap_new w _)
  have hbW : Below w.heap.size w W1 := by rw [← hW1]; exact ((Below.refl _ w).alloc (Nat.le_refl _) _).alloc (by simp) _
  -- what is kept beside the caller's own: the record and the block
  let Jk : Loop → World → Prop := fun r W => W.heap[N]? = some (.loop r) ∧ W.heap[w.heap.size]? = some (.deferred (some []))
  have hkeep : ∀ (r : Loop) (A B : World) (row : Option Nat), Jk r A → A.grownBy B row → (∀ q, row = some q → W1.heap.size ≤ q ∧ ∃ o : Obj, A.heap[q]? = some o ∧ o.isWalk = true) → Jk r B := fun r A B row h hgr hq =>
    ⟨(hgr.block N (Array.getElem?_eq_some_iff.1 h.1).1 (fun e => by have := (hq N e.symm).1; omega)).trans h.1, (hgr.block _ (Array.getElem?_eq_some_iff.1 h.2).1 (fun e => by have := (hq _ e.symm).1; omega)).trans h.2⟩
  have hfrom : ∀ {A : World} {row : Option Nat}, (∀ q, row = some q → W1.heap.size ≤ q ∧ ∃ o : Obj, A.heap[q]? = some o ∧ o.isWalk = true) → ∀ q, row = some q → w.heap.size ≤ q ∧ ∃ o : Obj, A.heap[q]? = some o ∧ o.isCells = false := fun hq q e => by
    obtain ⟨h2, o, ho, hw⟩ := hq q e
    exact ⟨by omega, o, ho, Obj.not_cells_of_walk hw⟩
  refine ⟨N, [{ target := .collected w.heap.size, args := #[] }], W1, { target := .fn (.func gf) lb, args := #[.func (.yield N) #[] #[]] }, W1, gf, #[.func (.yield N) #[] #[]] ++ lb, W1, ?_, ?_, ?_, ?_, fun _ => h1, ?_⟩
  · rw [← hW1, hrec, hN]; exact run_enterLoop_outer _ _ _ _ _
  · simp only [resolve, hg]
    simp [go_sem]
  · intro f' hf'
    simp [Target.leads] at hf'
    subst hf'
    exact hFg
  · simp [invoke, go_sem, eg]
  refine (hseq N (fun pre W => I pre W ∧ Jk (rec .ready none) W) (fun pre W => Ix pre W ∧ Jk (rec .done (some .ret)) W) W1 hbW
    (fun s A B row h hgr hq => ⟨hI s A B row h.1 hgr (hfrom hq), hkeep _ A B row h.2 hgr hq⟩) (fun s A B row h hgr hq => ⟨hIx s A B row h.1 hgr (hfrom hq), hkeep _ A B row h.2 hgr hq⟩) ?_ ⟨by rw [← hW1]; exact hI.alloc _ (hI.alloc _ h0), hLoop, hDef⟩).mono ?_
  · -- one round
    rintro pre y W hm ⟨hi, hl, hd⟩
    have hlt : N < W.heap.size := (Array.getElem?_eq_some_iff.1 hl).1
    have hy := run_yield (P := P) (args := encs y) hl (by rw [hrec]; exact hps y)
    rw [hrec] at hy
    refine ⟨fn, _, assign, body, hy, roundIn_of_wpIn hfn (hassign _ y W _ ⟨_, run_beginRound hl (by rw [hrec]), ?_⟩)⟩
    obtain ⟨busy, hbusy⟩ : ∃ b : Obj, b = .loop { rec .ready none with state := .busy } := ⟨_, rfl⟩
    rw [← hbusy]
    have hl2 : (W.putObj N busy).heap[N]? = some busy := World.putObj_heap_same hlt
    have hd2 : (W.putObj N busy).heap[w.heap.size]? = some (.deferred (some [])) := (World.putObj_heap_other (by omega)).trans hd
    have hi2 : I pre (W.putObj N busy) := hI.putObj _ hi (by omega) hl rfl
    have hm2 : M y (W.putObj N busy) := (hM y).putObj (s := ()) _ hm (by omega) hl rfl
    have hb2 : Below n₀ W (W.putObj N busy) := put_below hn (by omega) _ hl
    refine wpIn_mono (hbody _ pre y _ hm2 hi2) ?_
    -- the round's end, for a round that goes on and for one that returns
    have hend : ∀ (jump : Option Code) (W3 : World), KeepsOthers (W.putObj N busy) W3 → (Instr.endRound N jump).run P W3 = .ok (.bool jump.isNone) (W3.putObj N (.loop (rec (if jump.isNone then .ready else .done) jump))) ∧
        W3.heap[N]? = some busy ∧ Jk (rec (if jump.isNone then .ready else .done) jump) (W3.putObj N (.loop (rec (if jump.isNone then .ready else .done) jump))) := fun jump W3 hk => by
      have hl3 := hk.same _ _ hl2 (by rw [hbusy]; rfl)
      have hr := run_endRound (P := P) jump (hbusy ▸ hl3)
      rw [hrec] at hr ⊢
      exact ⟨hr, hl3, World.putObj_heap_same (Array.getElem?_eq_some_iff.1 hl3).1, (World.putObj_heap_other (by omega)).trans (hk.same _ _ hd2 rfl)⟩
    rintro e a3 W3 hp
    cases e with
    | normal =>
      obtain ⟨hk, hbk, hi3⟩ := hp
      obtain ⟨hr, hl3, hj⟩ := hend none W3 hk
      exact ⟨_, _, hr, .inl ⟨rfl, ⟨hI.putObj _ hi3 (by omega) hl3 (by rw [hbusy]; rfl), hj⟩, (hb2.trans hbk).trans (put_below hn (by omega) _ hl3)⟩⟩
    | ret =>
      obtain ⟨hk, _, hi3⟩ := hp
      obtain ⟨hr, hl3, hj⟩ := hend (some .ret) W3 hk
      exact ⟨_, _, hr, .inr ⟨rfl, hIx.putObj _ hi3 (by omega) hl3 (by rw [hbusy]; rfl), hj⟩⟩
    | exit id => obtain ⟨_, h, _⟩ := hp; cases h
    | goto t => obtain ⟨_, h, _⟩ := hp; cases h
    | panic ch => exact hp.elim
    | outgrown => exact hp.elim
  · -- behind the iterator
    rintro e W2 ⟨⟨v, rfl⟩, (⟨ys, hS, hi, hl, hd⟩ | ⟨pre, hSp, hi, hl, hd⟩)⟩
    · have hr := run_endLoop (P := P) hl (by rw [hrec]; simp [rec'])
      rw [hrec] at hr
      exact ⟨none, _, hr, hdone _ ys _ (Nat.le_refl _) hS (hI.putObj _ hi (by omega) hl rfl) ((World.putObj_heap_other (by omega)).trans hd)⟩
    · have hr := run_endLoop (P := P) hl (by rw [hrec]; simp [rec'])
      rw [hrec] at hr
      exact ⟨some .ret, _, hr, hstop _ pre _ (Nat.le_refl _) hSp (hIx.putObj _ hi (by omega) hl rfl) ((World.putObj_heap_other (by omega)).trans hd)⟩
end
end Go.Proofs.YtkflidnclndpkaaDoor
end

/- Minimal of package plans. -/
section
namespace Go.Proofs.YtkflidnclndpkaaDoor
open Go.RowKit Go.Shelf
set_option linter.unusedSimpArgs false
set_option linter.unusedVariables false
set_option maxRecDepth 100000

attribute [local go_sem] Oper.semAt_some

theorem prt_succ (plan : List Int) (m : Nat) : prt plan (m + 1) = prt plan m ++ [pk plan m plan.length] := by
  unfold prt
  rw [List.range_succ, List.map_append]
  rfl
theorem pk_val {x : Tsk} {plan : List Int} (h0 : (plF x plan).1 = 0) (m : Nat) : (plF x (pk plan m plan.length)).1 = 0 := by
  have h := pk_sub plan m plan.length (Nat.le_refl _)
  rw [List.take_length] at h
  rw [plF_sub h0 h]
theorem min_done {x : Tsk} {plan : List Int} (h0 : (plF x plan).1 = 0) {N : Nat} (hN : 2 ^ plan.length = N + 1) {ys : List Pt} (hys : ys.map Pt.l = prt plan N) (h : ∀ y ∈ ys, svB x y.l = false) : minL x x.n.toNat plan = true := by
  refine min_yes (fun m hm => ?_)
  have hmem : pk plan m plan.length ∈ ys.map Pt.l := by
    rw [hys]
    exact List.mem_map.2 ⟨m, List.mem_range.2 (by omega), rfl⟩
  obtain ⟨y, hy, e⟩ := List.mem_map.1 hmem
  have h2 := h y hy
  rw [e, svB_of (pk_val h0 m)] at h2
  exact h2
theorem min_stop {x : Tsk} {plan : List Int} (h0 : (plF x plan).1 = 0) {N : Nat} (hN : 2 ^ plan.length = N + 1) {q : List Pt} {y : Pt} {m : Nat} (hm : m ≤ N) (hp : (q ++ [y]).map Pt.l = prt plan m) (h : svB x y.l = true) : minL x x.n.toNat plan = false := by
  have hlen : q.length + 1 = m := by
    have := congrArg List.length hp
    simpa [prt] using this
  obtain ⟨k, rfl⟩ : ∃ k, m = k + 1 := ⟨q.length, hlen.symm⟩
  rw [List.map_append, prt_succ] at hp
  have e := (List.append_inj' hp rfl).2
  have e2 : y.l = pk plan k plan.length := by simpa using e
  rw [e2, svB_of (pk_val h0 k)] at h
  exact min_not (m := k) (by omega) h

theorem sparts_in (F : Fence) (n : Nat) (h : F.fn 34) (hro : F.round = none) (a3 : Option Addr) (m3 c3 : Nat) (w : World) :
    CallsIn F n Tryd.prog 34 #[.slice a3 m3 c3] w fun e w' => e = .returned (.func (.func 47) #[] #[.pointer (some ⟨w.heap.size, 0, none⟩)]) ∧ w' = w.alloc (.cells #[.slice a3 m3 c3] 22) := by
  refine callsIn_of_wp Tryd.func34 rfl h ?_ hro
  simp only [Tryd.ntmps34, List.size_toArray, List.length_cons, List.length_nil, Nat.reduceAdd, Nat.reduceSub, Array.replicate_succ, Array.replicate_zero, List.push_toArray, List.append_toArray, List.nil_append, List.cons_append]
  gi_wp2
  go_ret
  exact ⟨rfl, rfl⟩
theorem parts_seq (n : Nat) (hn : 2 ≤ n) (Bp n₀ : Nat) (a3 : Option Addr) (c3 : Nat) (plan : List Int) (h12 : plan.length ≤ 12) (N : Nat) (hN : 2 ^ plan.length = N + 1) (w : World) (hBp : Bp < n₀) (hcp : w.cell? ⟨Bp, 0, none⟩ = some (.slice a3 plan.length c3)) (hP : Lst w n₀ a3 c3 plan) (hn₀ : n₀ ≤ w.heap.size) :
    SeqM Fence.wide n Tryd.prog 47 #[.pointer (some ⟨Bp, 0, none⟩)] ptE PtM n₀ (fun ys => ys.map Pt.l = prt plan N) (fun pre => ∃ m, m ≤ N ∧ pre.map Pt.l = prt plan m) w := by
  intro l J Jx W hW hJ _ hY h0
  have hW0 := hW.mono hn₀
  refine (parts1_in n hn l Bp n₀ a3 c3 plan h12 N hN J Jx W.heap.size hJ hY W hBp ((hW0.cell (p := ⟨Bp, 0, none⟩) hBp).trans hcp) (hP.to hW0 (Nat.le_refl _)) (Nat.le_trans hn₀ hW.size) h0).mono ?_
  rintro e V ⟨h1, ⟨ys, h2, h3⟩ | ⟨pre, m, hm, h2, h3⟩⟩
  · exact ⟨h1, .inl ⟨ys, h2, h3⟩⟩
  · exact ⟨h1, .inr ⟨pre, ⟨m, hm, h2⟩, h3⟩⟩
theorem ptM_own (B : Nat) (y : Pt) : OwnFrom B (fun (_ : Unit) W => PtM y W) := by
  intro _ W W' row h hg hr
  refine ⟨⟨fun h0 => ?_, h.1.le, h.1.max⟩, h.2⟩
  obtain ⟨b, o, e, hb, hc⟩ := h.1.nums h0
  exact ⟨b, o, e, Nat.lt_of_lt_of_le hb hg.size, fun k hk => cell_kept (hc k hk) hg (fun r e => (hr r e).2)⟩

/-- What the call of Minimal has laid: the task and its two results. -/
structure FrM (w W : World) (x : Tsk) (z : Bool) (u v : Int) : Prop where
  below : Below w.heap.size w W
  t : TBox W w.heap.size x
  z : One W (w.heap.size + 1) (.bool z)
  f : Two W (w.heap.size + 1 + 1) (.int .i64 u) (.int .i64 v)
theorem FrM.to {w W W' : World} {x : Tsk} {z : Bool} {u v : Int} (h : FrM w W x z u v) (hb : Below W.heap.size W W') : FrM w W' x z u v :=
  ⟨h.below.trans (hb.mono h.below.size), h.t.to hb h.t.lt, one_to h.z hb, two_to h.f hb⟩
theorem FrM.alloc {w W : World} {x : Tsk} {z : Bool} {u v : Int} (h : FrM w W x z u v) (o : Obj) : FrM w (W.alloc o) x z u v := h.to ((Below.refl _ _).alloc (Nat.le_refl _) o)
theorem FrM.kept {w W W' : World} {x : Tsk} {z : Bool} {u v : Int} {row : Option Nat} (h : FrM w W x z u v) (hg : W.grownBy W' row) (hr : ∀ r, row = some r → w.heap.size ≤ r ∧ ∃ o : Obj, W.heap[r]? = some o ∧ o.isCells = false) : FrM w W' x z u v :=
  ⟨h.below.grown hg h.below.size (fun k e => (hr k e).1), h.t.kept hg (fun r e => (hr r e).2), h.z.kept hg (fun r e => (hr r e).2), h.f.kept hg (fun r e => (hr r e).2)⟩
theorem FrM.ret {w W : World} {x : Tsk} {z : Bool} {u v : Int} (h : FrM w W x z u v) (q : Bool) (u' v' : Int) :
    FrM w (((W.setCell ⟨w.heap.size + 1, 0, none⟩ (.bool q)).setCell ⟨w.heap.size + 1 + 1, 0, none⟩ (.int .i64 u')).setCell ⟨w.heap.size + 1 + 1, 1, none⟩ (.int .i64 v')) x q u' v' := by
  refine ⟨((h.below.setCell (by simp) _).setCell (by simp; omega) _).setCell (by simp; omega) _, ?_, ?_, ?_⟩
  · exact ((h.t.far (by simp) _).far (by simp; omega) _).far (by simp; omega) _
  · exact ((h.z.set _).far (by simp) _).far (by simp) _
  · exact (h.f.far (by simp) _).set _ _
theorem frM_new (w : World) (x : Tsk) (t1 t2 t3 : TypeId) : FrM w (((w.alloc (.cells #[.int .i64 x.n, .slice x.ai x.init.length x.ci, .slice x.ag x.goal.length x.cg, .slice x.ao x.ops.length x.co] t1)).alloc (.cells #[.bool false] t2)).alloc (.cells #[.int .i64 0, .int .i64 0] t3)) x false 0 0 := by
  refine ⟨by go_grown, ((tbox_new w x t1).alloc _).alloc _, ?_, ?_⟩
  · have := (one_new (w.alloc (.cells #[.int .i64 x.n, .slice x.ai x.init.length x.ci, .slice x.ag x.goal.length x.cg, .slice x.ao x.ops.length x.co] t1)) (.bool false) t2).alloc (.cells #[.int .i64 0, .int .i64 0] t3)
    simpa using this
  · have := two_new ((w.alloc (.cells #[.int .i64 x.n, .slice x.ai x.init.length x.ci, .slice x.ag x.goal.length x.cg, .slice x.ao x.ops.length x.co] t1)).alloc (.cells #[.bool false] t2)) (.int .i64 0) (.int .i64 0) t3
    simpa using this

set_option maxHeartbeats 4000000 in
theorem minimal_bad (x : Tsk) (a3 : Option Addr) (c3 : Nat) (plan : List Int) (w : World) (hX : TskIn w w.heap.size x) (hP : Lst w w.heap.size a3 c3 plan) (ht : (soF x plan).1 ≠ 0) :
    Calls Tryd.prog 17 #[.agg #[.int .i64 x.n, .slice x.ai x.init.length x.ci, .slice x.ag x.goal.length x.cg, .slice x.ao x.ops.length x.co], .slice a3 plan.length c3] w fun e w' => e = .returned (.tuple #[.bool (mnB x plan), faultV (mnF x plan)]) ∧ Below w.heap.size w w' := by
  have hB2 : Below w.heap.size w (((w.alloc (.cells #[.int .i64 x.n, .slice x.ai x.init.length x.ci, .slice x.ag x.goal.length x.cg, .slice x.ao x.ops.length x.co] 25)).alloc (.cells #[.bool false] 4)).alloc (.cells #[.int .i64 0, .int .i64 0] 27)) := by go_grown
  have HC := Lib.hid (csol_any x a3 c3 plan _ (hX.to hB2 hB2.size) (hP.to hB2 hB2.size))
  have hF0 := Lib.hid (frM_new w x 25 4 27)
  have hm : mnF x plan = soF x plan := by unfold mnF; rw [if_pos ht]
  have HM := Lib.hid hm
  have HB := Lib.hid (show mnB x plan = false by unfold mnB; rw [hm, decide_eq_false ht]; rfl)
  have hne : ((soF x plan).1 != 0) = true := by simpa using ht
  have hne2 : ((soF x plan).1 == 0) = false := by simpa using ht
  clear ht hX hP hB2 hm
  go_enter Tryd.func17, Tryd.ntmps17
  go_wp2_with (go_at_call 30; (with_reducible refine HC.out.mono ?_); rintro e w1 ⟨rfl, hbw⟩; have hF := Lib.hid (hF0.out.to hbw); have hl9 := hF.out.f.lt; have hT2 := Lib.hid (two_new w1 (.int .i64 (soF x plan).1) (.int .i64 (soF x plan).2) 27); obtain ⟨_, ⟨_, t0, t1, t2, t3⟩, ⟨_, z0, zf⟩, ⟨_, k0, k1, f0, f1⟩⟩ := hF.out)
  obtain ⟨_, q0, q1, g0, g1⟩ := hT2.out
  go_region
  all_goals
    go_wp2
    have tz := hF.out.z
    have tw := hF.out.f
    have hbe := hF.out.below
    refine post_bool_fault (g2 := (w.heap.size + 1)) (z := .bool false) (g := (w.heap.size + 1 + 1)) (x := .int .i64 (soF x plan).1) (y := .int .i64 (soF x plan).2) Tryd.results17 rfl rfl ?_ ?_ ?_
    · first
        | exact one1 ((((tz.set _).far (by simp) _).far (by simp) _).alloc _)
        | exact one1 ((((tz.far (by simp) _).far (by simp) _).set _).alloc _)
    · first
        | exact two1 (((tw.far (by simp) _).set _ _).alloc _)
        | exact two1 (((tw.set _ _).far (by simp) _).alloc _)
    · refine ⟨ret_val (by rw [HB.out, HM.out]), ?_⟩
      (repeat' (first | (with_reducible assumption) | (with_reducible exact Below.refl _ _) | (with_reducible refine belowN ?_ _) | (with_reducible refine Below.alloc ?_ ?_ _) | (with_reducible refine Below.drew ?_) | (with_reducible refine Below.setCell ?_ ?_ _) | go_size))
set_option maxHeartbeats 4000000 in
theorem minimal_long (x : Tsk) (a3 : Option Addr) (c3 : Nat) (plan : List Int) (w : World) (hX : TskIn w w.heap.size x) (hP : Lst w w.heap.size a3 c3 plan) (ht : (soF x plan).1 = 0) (h12 : 12 < plan.length) :
    Calls Tryd.prog 17 #[.agg #[.int .i64 x.n, .slice x.ai x.init.length x.ci, .slice x.ag x.goal.length x.cg, .slice x.ao x.ops.length x.co], .slice a3 plan.length c3] w fun e w' => e = .returned (.tuple #[.bool (mnB x plan), faultV (mnF x plan)]) ∧ Below w.heap.size w w' := by
  have hB2 : Below w.heap.size w (((w.alloc (.cells #[.int .i64 x.n, .slice x.ai x.init.length x.ci, .slice x.ag x.goal.length x.cg, .slice x.ao x.ops.length x.co] 25)).alloc (.cells #[.bool false] 4)).alloc (.cells #[.int .i64 0, .int .i64 0] 27)) := by go_grown
  have HC := Lib.hid (csol_any x a3 c3 plan _ (hX.to hB2 hB2.size) (hP.to hB2 hB2.size))
  rw [(soF_zero ht).1] at HC
  have hF0 := Lib.hid (frM_new w x 25 4 27)
  have hm : mnF x plan = (10, -8) := by unfold mnF; rw [if_neg (by simpa using ht), if_pos h12]
  have HM := Lib.hid hm
  have HB := Lib.hid (show mnB x plan = false by unfold mnB; rw [hm]; rfl)
  have hd : decide ((12 : Int) < (plan.length : Int)) = true := by simp; omega
  clear ht hX hP hB2 hm
  go_enter Tryd.func17, Tryd.ntmps17
  go_wp2_with (go_at_call 30; (with_reducible refine HC.out.mono ?_); rintro e w1 ⟨rfl, hbw⟩; have hF := Lib.hid (hF0.out.to hbw); have hl9 := hF.out.f.lt; obtain ⟨_, ⟨_, t0, t1, t2, t3⟩, ⟨_, z0, zf⟩, ⟨_, k0, k1, f0, f1⟩⟩ := hF.out)
  have tz := hF.out.z
  have tw := hF.out.f
  have hbe := hF.out.below
  refine post_bool_fault (g2 := (w.heap.size + 1)) (z := .bool false) (g := (w.heap.size + 1 + 1)) (x := .int .i64 10) (y := .int .i64 (-8)) Tryd.results17 rfl rfl ?_ ?_ ?_
  · exact ((((tz.set _).far (by simp) _).far (by simp) _).alloc _)
  · exact (((tw.far (by simp) _).set _ _).alloc _)
  · refine ⟨ret_val (by rw [HB.out, HM.out]), ?_⟩
    (repeat' (first | (with_reducible assumption) | (with_reducible exact Below.refl _ _) | (with_reducible refine belowN ?_ _) | (with_reducible refine Below.alloc ?_ ?_ _) | (with_reducible refine Below.drew ?_) | (with_reducible refine Below.setCell ?_ ?_ _) | go_size))

set_option maxHeartbeats 4000000 in
theorem minimal_in (n : Nat) (hn3 : 8 ≤ n) (x : Tsk) (a3 : Option Addr) (c3 : Nat) (plan : List Int) (w : World) (hX : TskIn w w.heap.size x) (hP : Lst w w.heap.size a3 c3 plan) (ht : (soF x plan).1 = 0) (h12 : plan.length ≤ 12) :
    CallsIn Fence.wide n Tryd.prog 17 #[.agg #[.int .i64 x.n, .slice x.ai x.init.length x.ci, .slice x.ag x.goal.length x.cg, .slice x.ao x.ops.length x.co], .slice a3 plan.length c3] w fun e w' => e = .returned (.tuple #[.bool (mnB x plan), faultV (mnF x plan)]) ∧ Below w.heap.size w w' := by
  have h1 : 1 ≤ n := by omega
  have hB2 : Below w.heap.size w (((w.alloc (.cells #[.int .i64 x.n, .slice x.ai x.init.length x.ci, .slice x.ag x.goal.length x.cg, .slice x.ao x.ops.length x.co] 25)).alloc (.cells #[.bool false] 4)).alloc (.cells #[.int .i64 0, .int .i64 0] 27)) := by go_grown
  have HC := Lib.hid (csol_any x a3 c3 plan _ (hX.to hB2 hB2.size) (hP.to hB2 hB2.size))
  obtain ⟨hz, hpf, _⟩ := soF_zero ht
  rw [hz] at HC
  have hF0 := Lib.hid (frM_new w x 25 4 27)
  have HX := Lib.hid (fun (W : World) (h : Below w.heap.size w W) => hX.to h h.size)
  have HP := Lib.hid (fun (W : World) (h : Below w.heap.size w W) => hP.to h (Nat.le_refl _))
  have hm : mnF x plan = (0, 0) := by unfold mnF; rw [if_neg (by simpa using ht), if_neg (by omega)]
  have HM := Lib.hid hm
  have HB := Lib.hid (show mnB x plan = minL x x.n.toNat plan by unfold mnB; rw [hm]; rfl)
  have HPF := Lib.hid hpf
  have hd : decide ((12 : Int) < (plan.length : Int)) = false := by simp; omega
  obtain ⟨N, hN⟩ : ∃ N, 2 ^ plan.length = N + 1 := ⟨2 ^ plan.length - 1, by have : 0 < 2 ^ plan.length := Nat.pow_pos (by omega); omega⟩
  have HN := Lib.hid hN
  clear ht hX hP hB2 hm hz hpf hN
  refine callsIn_of_wp_marks Tryd.func17 rfl trivial ?_ rfl
  simp only [Tryd.ntmps17, List.size_toArray, List.length_cons, List.length_nil, Nat.reduceAdd, Nat.reduceSub, Array.replicate_succ, Array.replicate_zero, List.push_toArray, List.append_toArray, List.nil_append, List.cons_append]
  gi_wp2_with (first
    | (refine ⟨trivial, ?_⟩; gi_at_call 34; refine (sparts_in Fence.wide (n - 1) trivial rfl _ _ _ _).mono ?_; rintro e w2 ⟨rfl, rfl⟩)
    | (refine ⟨trivial, ?_⟩; gi_at_call 30; refine (callsIn_wide.2 HC.out).mono ?_; rintro e w1 ⟨rfl, hbw⟩; have hF := Lib.hid (hF0.out.to hbw); have hl9 := hF.out.f.lt; obtain ⟨_, ⟨_, t0, t1, t2, t3⟩, ⟨_, z0, zf⟩, ⟨_, k0, k1, f0, f1⟩⟩ := hF.out))
  have hle := hbw.size
  simp only [World.size_alloc] at hle
  have hBL : Below w1.heap.size w1 ((w1.alloc (.cells #[.int .i64 0, .int .i64 0] 27)).alloc (.cells #[.slice a3 plan.length c3] 22)) := by go_grown
  have HFL := Lib.hid (hF.out.to hBL)
  have c3' := (cell_new (w1.alloc (.cells #[.int .i64 0, .int .i64 0] 27)) (.slice a3 plan.length c3) 22).1
  simp only [World.size_alloc] at c3'
  clear t0 t1 t2 t3 z0 zf k0 k1 f0 f1
  refine rangeM (M := PtM) (encs := ptE) (n₀ := (((w1.alloc (.cells #[.int .i64 0, .int .i64 0] 27)).alloc (.cells #[.slice a3 plan.length c3] 22))).heap.size) rfl h1 (gf := 47) (lb := #[.pointer (some ⟨w1.heap.size + 1, 0, none⟩)]) rfl trivial (enters_of Tryd.func47 (by kernel_rfl) rfl) (Nat.le_refl _)
    (parts_seq (n - 1) (by omega) (w1.heap.size + 1) (((w1.alloc (.cells #[.int .i64 0, .int .i64 0] 27)).alloc (.cells #[.slice a3 plan.length c3] 22))).heap.size a3 c3 plan h12 N HN.out ((w1.alloc (.cells #[.int .i64 0, .int .i64 0] 27)).alloc (.cells #[.slice a3 plan.length c3] 22)) (by simp) c3' ((HP.out _ HFL.out.below).to (Below.refl _ _) HFL.out.below.size) (Nat.le_refl _)) (fun _ => rfl) (ptM_own _)
    (fun pre W => (∀ y ∈ pre, svB x y.l = false) ∧ FrM w W x false 0 0 ∧ (((w1.alloc (.cells #[.int .i64 0, .int .i64 0] 27)).alloc (.cells #[.slice a3 plan.length c3] 22))).heap.size ≤ W.heap.size)
    (fun pre W => (∃ (q : List Pt) (y : Pt), pre = q ++ [y] ∧ svB x y.l = true) ∧ FrM w W x false 0 0)
    (fun s A B row hs hg hr => ⟨hs.1, hs.2.1.kept hg (fun r e => ⟨by have := (hr r e).1; simp at this; omega, (hr r e).2⟩), Nat.le_trans hs.2.2 hg.size⟩)
    (fun s A B row hs hg hr => ⟨hs.1, hs.2.kept hg (fun r e => ⟨by have := (hr r e).1; simp at this; omega, (hr r e).2⟩)⟩)
    ⟨by simp, HFL.out, Nat.le_refl _⟩
    (fun y => { tmps := #[.agg #[.int .i64 x.n, .slice x.ai x.init.length x.ci, .slice x.ag x.goal.length x.cg, .slice x.ao x.ops.length x.co], .slice a3 plan.length c3, .pointer (some ⟨w.heap.size, 0, none⟩), undef, .pointer (some ⟨(w.heap.size + 1), 0, none⟩), .pointer (some ⟨(w.heap.size + 1 + 1), 0, none⟩), .pointer (some ⟨w1.heap.size, 0, none⟩), .slice y.a y.l.length y.c, undef, undef, .agg #[.int .i64 x.n, .slice x.ai x.init.length x.ci, .slice x.ag x.goal.length x.cg, .slice x.ao x.ops.length x.co], .slice a3 plan.length c3, faultV (0, 0), .agg #[.int .i64 0, .int .i64 0], .agg #[.int .i64 0, .int .i64 0], .bool false, undef, .slice a3 plan.length c3, .int .i64 plan.length, .bool false, undef, .slice a3 plan.length c3, .func (.func 47) #[] #[.pointer (some ⟨w1.heap.size + 1, 0, none⟩)], .slice y.a y.l.length y.c, undef, undef, undef, undef, undef, undef, undef, undef, undef], defers := [] }) ?assign ?body ?done ?stop
  case assign =>
    intro l y W K hK
    simp only [ptE]
    gi_wp2
    exact hK
  case body =>
    rintro l pre y W hm ⟨hp, hF9, hsz9⟩
    have hd9 : 1 ≤ n - 1 - 1 := by omega
    have HSZ := Lib.hid hsz9
    clear hsz9
    have HP9 := Lib.hid hp
    have HF9 := Lib.hid hF9
    have HSV := Lib.hid (ssolves_any x y.a y.c y.l W (HX.out _ hF9.below) hm.1)
    clear hm
    obtain ⟨_, ⟨_, t0, t1, t2, t3⟩, ⟨_, z0, zf⟩, ⟨_, k0, k1, f0, f1⟩⟩ := hF9
    cases hs : svB x y.l
    case false =>
      rw [hs] at HSV
      have HS := Lib.hid hs
      gi_wp2_with (refine ⟨trivial, ?_⟩; gi_at_call 19; refine (CallsIn.inRound l (callsIn_wide.2 HSV.out)).mono ?_; rintro e w5 ⟨rfl, hb5⟩)
      have hb : Below W.heap.size W (w5.alloc (.cells #[.int .i64 (plF x y.l).1, .int .i64 (plF x y.l).2] 27)) := hb5.alloc hb5.size _
      exact ⟨keeps_of_below hb, hb.mono HSZ.out, fun z hz => (List.mem_append.1 hz).elim (HP9.out z) (fun e => by obtain rfl := List.mem_singleton.1 e; exact HS.out), HF9.out.to hb, Nat.le_trans HSZ.out hb.size⟩
    case true =>
      rw [hs] at HSV
      have HS := Lib.hid hs
      gi_wp2_with (refine ⟨trivial, ?_⟩; gi_at_call 19; refine (CallsIn.inRound l (callsIn_wide.2 HSV.out)).mono ?_; rintro e w5 ⟨rfl, hb5⟩; have HF5 := Lib.hid (HF9.out.to hb5); clear t0 t1 t2 t3 z0 zf k0 k1 f0 f1; obtain ⟨_, ⟨_, t0, t1, t2, t3⟩, ⟨_, z0, zf⟩, ⟨_, k0, k1, f0, f1⟩⟩ := HF5.out)
      have hK1 := keeps_of_below hb5
      exact ⟨((((hK1.trans (KeepsOthers.setCell _ _ _)).trans (KeepsOthers.setCell _ _ _)).trans (KeepsOthers.setCell _ _ _)).trans (keeps_of_below ((Below.refl _ _).alloc (Nat.le_refl _) _))), rfl, ⟨pre, y, rfl, HS.out⟩, (HF5.out.ret false 0 0).alloc _⟩
  case done =>
    rintro D ys W hD hys ⟨hne, hF9, _⟩ hK
    have HR := Lib.hid (show mnB x plan = true by rw [HB.out, min_done HPF.out HN.out hys hne])
    clear hys hne
    have HF9 := Lib.hid hF9
    obtain ⟨_, ⟨_, t0, t1, t2, t3⟩, ⟨_, z0, zf⟩, ⟨_, k0, k1, f0, f1⟩⟩ := hF9
    gi_wp2
    have hK' := (((KeepsOthers.setCell W ⟨(w.heap.size + 1), 0, none⟩ (.bool true)).trans (KeepsOthers.setCell _ ⟨(w.heap.size + 1 + 1), 0, none⟩ (.int .i64 0))).trans (KeepsOthers.setCell _ ⟨(w.heap.size + 1 + 1), 1, none⟩ (.int .i64 0))).same D _ hK rfl
    have hJF := (HF9.out.ret true 0 0).kept (grownBy_putObj' _ D (.deferred none)) (fun r e => by cases e; exact ⟨by simp at hD; omega, _, hK', rfl⟩)
    refine ⟨by simp, .inl ⟨_, _, rfl, run_takeDeferred hK', ?_⟩⟩
    obtain ⟨_, z1, _⟩ := hJF.z
    obtain ⟨_, y2, y3, _, _⟩ := hJF.f
    refine ⟨.tuple #[.bool true, .agg #[.int .i64 0, .int .i64 0]], ?_, ret_val (by rw [HR.out, HM.out]), hJF.below⟩
    simp [results, Tryd.f17, go_sem, z1, y2, y3]
  case stop =>
    rintro D pre W hD ⟨m, hm, hpre⟩ ⟨⟨q, y, rfl, hy⟩, hF9⟩ hK
    have HR := Lib.hid (show mnB x plan = false by rw [HB.out, min_stop HPF.out HN.out hm hpre hy])
    clear hpre
    gi_wp2
    have hJF := hF9.kept (grownBy_putObj' _ D (.deferred none)) (fun r e => by cases e; exact ⟨by simp at hD; omega, _, hK, rfl⟩)
    refine ⟨by simp, .inl ⟨_, _, rfl, run_takeDeferred hK, ?_⟩⟩
    obtain ⟨_, z0, _⟩ := hJF.z
    obtain ⟨_, y0, y1, _, _⟩ := hJF.f
    refine ⟨.tuple #[.bool false, .agg #[.int .i64 0, .int .i64 0]], ?_, ret_val (by rw [HR.out, HM.out]), hJF.below⟩
    simp [results, Tryd.f17, go_sem, z0, y0, y1]
end Go.Proofs.YtkflidnclndpkaaDoor
end

/- The developers' Failure, Reduce and Minimal fulfil the conditions of the laws. -/
section
namespace Go.Proofs.YtkflidnclndpkaaDoor
open Go.RowKit
set_option linter.unusedSimpArgs false
set_option linter.unusedVariables false

theorem minimal_any : MnC := by
  intro x a c plan w hX hP _ _
  by_cases ht : (soF x plan).1 = 0
  · by_cases h12 : 12 < plan.length
    · exact minimal_long x a c plan w hX hP ht h12
    · exact callsIn_wide.1 (minimal_in 8 (by omega) x a c plan w hX hP ht (by omega))
  · exact minimal_bad x a c plan w hX hP ht
end Go.Proofs.YtkflidnclndpkaaDoor
end

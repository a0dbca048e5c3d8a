/- Gathered out of stages 5 and 7 by pick.py: boxes, appends, copies. -/
import Derived.Test.YtiaobanloakplaaDoorKso
import Derived.Deep.RegionHeld3
import Derived.Deep.CutRange
import Derived.Deep.CutBlock
import Derived.Deep.AppendLies
import Derived.Deep.RegionWith
import Derived.OneCell
import Derived.Laws.AppendOwnNone
import Derived.Lib.LazyBuf
import Derived.RangeFuncNested
namespace Go.Proofs.YtiaobanloakplaaDoor
open Go.RowKit
set_option linter.unusedSimpArgs false
set_option linter.unusedVariables false
set_option maxRecDepth 100000

theorem lst_cell {w : World} {g c : Nat} {op : Int} (hg : g < w.heap.size) (h : w.cell? ⟨g, 0, none⟩ = some (.int .i64 op)) (hc : 1 ≤ c) (hm : c ≤ maxLen) : Lst w w.heap.size (some ⟨g, 0, none⟩) c [op] :=
  ⟨(lst_one hg h).nums, by simpa using hc, hm⟩
/-- A fact on a world that every later world keeps. -/
structure SP where
  p : World → Prop
  st : ∀ W W', Below W.heap.size W W' → p W → p W'
def Alive (l : List SP) (W : World) : Prop := ∀ s, s ∈ l → s.p W
theorem Alive.to {l : List SP} {W W' : World} (h : Alive l W) (hb : Below W.heap.size W W') : Alive l W' := fun s hs => s.st W W' hb (h s hs)
theorem Alive.cons {l : List SP} {W : World} (s : SP) (hs : s.p W) (h : Alive l W) : Alive (s :: l) W := fun q hq => by
  rcases List.mem_cons.1 hq with rfl | hq
  · exact hs
  · exact h q hq
theorem Alive.nil (W : World) : Alive [] W := fun s hs => by simp at hs
def twoS (g : Nat) (u v : Value) : SP := ⟨fun W => Two W g u v, fun _ _ hb h => two_to h hb⟩
def lstS (a : Option Addr) (c : Nat) (xs : List Int) : SP := ⟨fun W => Lst W W.heap.size a c xs, fun _ _ hb h => h.to hb hb.size⟩
def belS (w : World) : SP := ⟨fun W => Below w.heap.size w W, fun _ _ hb h => h.trans (hb.mono h.size)⟩
theorem lst_new2 (w : World) (a b : Int) : Lst (w.alloc (.cells #[.int .i64 a, .int .i64 b] 3)) (w.alloc (.cells #[.int .i64 a, .int .i64 b] 3)).heap.size (some ⟨w.heap.size, 0, none⟩) 2 [a, b] := by
  refine ⟨fun _ => ⟨w.heap.size, 0, rfl, by simp, fun k hk => ?_⟩, by simp, by simp [maxLen]⟩
  match k, hk with
  | 0, _ => simp [ix]
  | 1, _ => simp [ix]
/-- An append of a list of numbers to a row of the call's own. -/
theorem wpList_append_lst {ops : Array Oper} {rest : List Oper} {o : Oper} {a : Act} {Q : Exit → Act → World → Prop} (w : World) (hgd : o.guard = none) (s x : Operand)
    (ho : o.op = .call { callee := .builtin .append, args := #[s, x], argTypes := #[22, 22] }) (base : Nat) (v : Value) (xs : List Int) (hs : a.eval s = v) (hown : w.ownsRow base 3 1 v xs.length (xs.map (Value.int .i64)))
    (A : Option Addr) (c : Nat) (l : List Int) (hx : a.eval x = .slice A l.length c) (hL : Lst w w.heap.size A c l) (h0 : A = none → c = 0) (hlen : xs.length + l.length ≤ 200) (hbase : base ≤ w.heap.size)
    (h : ∀ v' w', w'.ownsRow base 3 1 v' (xs ++ l).length ((xs ++ l).map (Value.int .i64)) → w.grownBy w' v.ownBlock → wpList Tryd.prog ops Q rest (a.put o.dst v') w') : wpList Tryd.prog ops Q (o :: rest) a w := by
  obtain ⟨i0, hi, hz0, hz1, hz2⟩ := info_parts info_int
  cases A with
  | none =>
    have hc := h0 rfl
    have hl0 : l.length = 0 := by
      by_cases h1 : 0 < l.length
      · obtain ⟨b, o, e, _⟩ := hL.nums h1
        cases e
      · omega
    have hl : l = [] := List.eq_nil_of_length_eq_zero hl0
    subst hl hc
    refine wpList_append_own_none hgd s x 22 ho base 3 i0 1 Tryd.underlying22 hi v xs.length _ hs hown hx ?_
    exact h v w (by simpa using hown) ⟨rfl, rfl, rfl, Nat.le_refl _, fun _ _ _ => rfl⟩
  | some ad =>
    refine wpList_append_own _ hgd s x 22 ho base 3 i0 (.int .i64 0) 1 8 Tryd.underlying22 hi hz0 hz1 hz2 rfl (by decide) v xs.length _ hs hown ad l.length c (l.map (Value.int .i64)) hx (by simp) ?_ ?_ ?_ ?_ hbase ?_
    · intro j u hj
      have hjl : j < l.length := by
        have := (List.getElem?_eq_some_iff.1 hj).1
        simpa using this
      obtain ⟨b, o, e, _, hc⟩ := hL.nums (by omega)
      cases e
      have := hc j hjl
      rw [Addr.add_lit, this]
      rw [List.getElem?_map, List.getElem?_eq_getElem hjl] at hj
      simp only [Option.map_some, Option.some.injEq] at hj
      rw [← hj]
      simp [ix, List.getD, hjl]
    · intro u hu
      obtain ⟨z, _, rfl⟩ := List.mem_map.1 hu
      rfl
    · unfold maxLen; omega
    · omega
    · intro v' w' hr hg _
      refine h v' w' ?_ hg
      rw [List.length_append, List.map_append]
      exact hr
def CopyPost (w : World) (l : List Int) (e : Ending) (w' : World) : Prop := ∃ v, e = .returned v ∧ w'.ownsRow w.heap.size 3 1 v l.length (l.map (Value.int .i64)) ∧ Below w.heap.size w w'
theorem drew_more {w wr : World} (h : ∃ n, wr = w.drewN n) (m : Nat) : ∃ n, wr.drewN m = w.drewN n := by
  obtain ⟨n, rfl⟩ := h
  exact ⟨n + m, by rw [World.drewN_drewN]⟩
set_option maxHeartbeats 1000000 in
theorem intsq_any (A A' : Option Addr) (c c' : Nat) (xs ys : List Int) (w : World) (hX : Nums w w.heap.size A xs) (hY : Nums w w.heap.size A' ys) (hx : xs.length ≤ maxLen) (hy : ys.length ≤ maxLen) :
    Calls Tryd.prog 16 #[.slice A xs.length c, .slice A' ys.length c'] w fun e w' => e = .returned (.bool (eqL xs ys)) ∧ ∃ n, w' = w.drewN n := by
  unfold maxLen at hx hy
  have HX := Lib.hid hX
  have HY := Lib.hid hY
  clear hX hY
  by_cases hl : xs.length = ys.length
  · have HL := Lib.hid hl
    have hb : ((xs.length : Int) != ys.length) = false := by simp [hl]
    have hb2 : ((ys.length : Int) != ys.length) = false := by simp
    clear hl
    go_enter Tryd.func16, Tryd.ntmps16
    go_wp2
    go_loopw [5] (fun i wr => ∃ k : Nat, k ≤ xs.length ∧ i = .int .i64 k ∧ (∃ n, wr = w.drewN n) ∧ ∀ j, j < k → ix xs j = ix ys j) (fun i _ => xs.length - (intOf i).toNat)
    case atStart => exact ⟨0, by omega, rfl, ⟨0, rfl⟩, by omega⟩
    case round =>
      obtain ⟨k, hk, rfl, hdn, hj⟩ := hrel
      have HJ := Lib.hid hj
      clear hj
      have HD := Lib.hid hdn
      have HB := Lib.hid (show Below w.heap.size w wr by obtain ⟨n, e⟩ := hdn; rw [e]; exact belowN (Below.refl _ _) n)
      clear hdn
      by_cases hlt : k < xs.length
      · obtain ⟨b1, o1, rfl, _, hs1⟩ := (HX.out.to HB.out (Nat.le_refl _)).at_ hlt
        have hlt2 : k < ys.length := by have := HL.out; omega
        obtain ⟨b2, o2, rfl, _, hs2⟩ := (HY.out.to HB.out (Nat.le_refl _)).at_ hlt2
        have hi2 : (k : Int) < ys.length := by omega
        by_cases he : ix xs k = ix ys k
        · have HQ := Lib.hid he
          have hq : (ix xs k != ix ys k) = false := by simpa using he
          clear he
          go_wp2
          go_quiet (fail)
          go_wp2
          go_roundw
          case rel => exact ⟨k + 1, by omega, by go_num, drew_more HD.out _, ix_step HJ.out HQ.out⟩
          case measure => simp [intOf]; omega
        · have HQ := Lib.hid he
          have hq : (ix xs k != ix ys k) = true := by simpa using he
          clear he
          go_wp2
          go_quiet (fail)
          go_wp2
          go_ret
          exact ⟨ret_bool (eqL_bad HQ.out).symm, drew_more HD.out _⟩
      · have hge : ¬ ((k : Int) < xs.length) := by omega
        go_wp2
        go_ret
        exact ⟨ret_bool (eqL_good HL.out (fun j hj => HJ.out j (by omega))).symm, HD.out⟩
  · have HL := Lib.hid (eqL_len hl)
    have hb : ((xs.length : Int) != ys.length) = true := by simp; omega
    clear hl
    go_enter Tryd.func16, Tryd.ntmps16
    go_wp2
    go_ret
    exact ⟨ret_bool HL.out.symm, 0, rfl⟩
theorem eqL_self (l : List Int) : eqL l l = true := eqL_good rfl (fun _ _ => rfl)
theorem ints_same (a a' : Option Addr) (c c' : Nat) (l l' : List Int) (h : l = l') (w : World) (hL : Lst w w.heap.size a c l) (hL' : Lst w w.heap.size a' c' l') :
    Calls Tryd.prog 16 #[.slice a l.length c, .slice a' l'.length c'] w fun e w' => e = .returned (.bool true) ∧ Below w.heap.size w w' := by
  subst h
  have := ints_any a a' c c' l l w hL.nums hL'.nums hL.len hL'.len
  rw [eqL_self] at this
  exact this
theorem planB_mem {m : Nat} {plan : List Int} : planB m plan = true ↔ ∀ y ∈ plan, 0 ≤ y ∧ y < m := by
  constructor
  · intro h y hy
    obtain ⟨k, hk, rfl⟩ := mem_ix hy
    exact planB_at h hk
  · intro h
    refine planB_good (fun j hj => ?_)
    have := h _ (ix_mem hj)
    unfold stB
    simp [this.1, this.2]
/-- A list comes back. -/
def LsPost (w : World) (l : List Int) (e : Ending) (w' : World) : Prop := ∃ a c, e = .returned (.slice a l.length c) ∧ Lst w' w'.heap.size a c l ∧ (a = none → c = 0) ∧ Below w.heap.size w w'
theorem own_lst {w : World} {base : Nat} {v : Value} {l : List Int} (h : w.ownsRow base 3 1 v l.length (l.map (Value.int .i64))) : ∃ a c, v = .slice a l.length c ∧ Lst w w.heap.size a c l ∧ (a = none → c = 0) := by
  obtain ⟨a, c, rfl, hl⟩ := (sliceOf_own h).set
  refine ⟨a, c, rfl, hl, ?_⟩
  rintro rfl
  rcases h.2 with ⟨e, _⟩ | ⟨g, cap, cur, e, _⟩
  · injection e
  · injection e with e1
    cases e1
theorem have_one {G : Prop} {V wY : World} {g : Nat} {u : Value} (hb : Below V.heap.size V wY) (h : V.cell? ⟨g, 0, none⟩ = some u) (hg : g < V.heap.size) (k : wY.cell? ⟨g, 0, none⟩ = some u → G) : G := k ((hb.cell (p := ⟨g, 0, none⟩) hg).trans h)
theorem news1 {w : World} {g : Nat} {v : Value} (h : w.cell? ⟨g, 0, none⟩ = some v) : ∀ j u, ([v] : List Value)[j]? = some u → w.cell? ((⟨g, 0, none⟩ : Addr).add j) = some u := by
  intro j u hu
  match j with
  | 0 =>
    have : v = u := by simpa using hu
    subst this
    rw [show (⟨g, 0, none⟩ : Addr).add 0 = ⟨g, 0, none⟩ from by unfold Addr.add; split <;> simp_all]
    exact h
  | j + 1 => simp at hu
theorem al6 {U V : World} {o : Obj} (h : Below U.heap.size U V) : Below U.heap.size U (V.alloc o) := h.alloc h.size o
theorem bel_le {U V : World} (h : Below U.heap.size U V) : U.heap.size ≤ V.heap.size := h.size
theorem bel_dn {w U V : World} (h0 : Below w.heap.size w U) (h : Below U.heap.size U V) : Below w.heap.size U V := h.mono h0.size
theorem gr6 {U V V' : World} {v : Value} {n : Nat} {xs : List Value} {W : World} (h : Below U.heap.size U V) (ho : W.ownsRow U.heap.size 3 1 v n xs) (hg : V.grownBy V' v.ownBlock) : Below U.heap.size U V' :=
  h.grown hg h.size (fun k hk => (ho.lt k hk).1)
theorem lst_app {W : World} {base g cap : Nat} {l : List Int} {z : Int} (h : W.ownsRow base 3 1 (.slice (some ⟨g, 0, none⟩) (l.length + 1) cap) (l.length + 1) (l.map (Value.int .i64) ++ [.int .i64 z])) : Lst W W.heap.size (some ⟨g, 0, none⟩) cap (l ++ [z]) := by
  have h2 : W.ownsRow base 3 1 (.slice (some ⟨g, 0, none⟩) (l ++ [z]).length cap) (l ++ [z]).length ((l ++ [z]).map (Value.int .i64)) := by simpa using h
  obtain ⟨a, c, e, hl, _⟩ := own_lst h2
  cases e
  exact hl
theorem lst_new3 (w : World) (a b d : Int) : Lst (w.alloc (.cells #[.int .i64 a, .int .i64 b, .int .i64 d] 3)) (w.alloc (.cells #[.int .i64 a, .int .i64 b, .int .i64 d] 3)).heap.size (some ⟨w.heap.size, 0, none⟩) 3 [a, b, d] := by
  refine ⟨fun _ => ⟨w.heap.size, 0, rfl, by simp, fun k hk => ?_⟩, by simp, by simp [maxLen]⟩
  match k, hk with
  | 0, _ => simp [ix]
  | 1, _ => simp [ix]
  | 2, _ => simp [ix]
/-- A list that does not lie in the block r. -/
structure Apart (W : World) (r : Option Nat) (a : Option Addr) (c : Nat) (s : List Int) : Prop where
  lst : Lst W W.heap.size a c s
  ne : 0 < s.length → ∀ b o, a = some ⟨b, o, none⟩ → some b ≠ r
theorem Apart.to {W W' : World} {r : Option Nat} {a : Option Addr} {c : Nat} {s : List Int} (h : Apart W r a c s) (hb : Below W.heap.size W W') : Apart W' r a c s := ⟨h.lst.to hb hb.size, h.ne⟩
theorem Apart.grown {W W' : World} {r r' : Option Nat} {a : Option Addr} {c : Nat} {s : List Int} (h : Apart W r a c s) (hg : W.grownBy W' r) (hr : r' = r ∨ r' = some W.heap.size) : Apart W' r' a c s := by
  refine ⟨⟨fun h0 => ?_, h.lst.le, h.lst.max⟩, fun h0 b o e => ?_⟩
  · obtain ⟨b, o, e, hb, hc⟩ := h.lst.nums h0
    exact ⟨b, o, e, Nat.lt_of_lt_of_le hb hg.size, fun k hk => hg.cell (hc k hk) (h.ne h0 b o e)⟩
  · rcases hr with rfl | rfl
    · exact h.ne h0 b o e
    · obtain ⟨b', o', e', hb, _⟩ := h.lst.nums h0
      rw [e] at e'
      cases e'
      intro h
      injection h with h
      omega
theorem apart_own {W : World} {base : Nat} {v : Value} {s : List Int} (h : W.ownsRow base 3 1 v s.length (s.map (Value.int .i64))) {r : Option Nat} (hr : ∀ q, r = some q → q < base) : ∃ a c, v = .slice a s.length c ∧ Apart W r a c s := by
  obtain ⟨a, c, e, hl, hn⟩ := own_lst h
  refine ⟨a, c, e, hl, fun h0 b o ea eb => ?_⟩
  subst e ea
  have h1 := (h.lt b rfl).1
  have h2 := hr b eb.symm
  omega
/-- What is left of a list behind s[k:]. -/
theorem lst_drop {W : World} {B : Nat} {b o c : Nat} {l : List Int} (h : Lst W B (some ⟨b, o, none⟩) c l) {k : Nat} (hk : k < l.length) : Lst W B (some ⟨b, o + k, none⟩) (c - k) (l.drop k) := by
  obtain ⟨b', o', e, hb, hc⟩ := h.nums (by omega)
  cases e
  refine ⟨fun h0 => ⟨b, o + k, rfl, hb, fun j hj => ?_⟩, by rw [List.length_drop]; have := h.le; omega, by have := h.max; omega⟩
  rw [List.length_drop] at hj
  have := hc (k + j) (by omega)
  rw [show o + k + j = o + (k + j) by omega, this]
  simp [ix, List.getD]
theorem set_grown (W : World) (p : Addr) (u : Value) : W.grownBy (W.setCell p u) (some p.block) :=
  ⟨rfl, rfl, rfl, by simp [World.setCell], fun k _ hk => Below.heap_setCell _ _ _ _ (fun e => hk (by simp [e]))⟩
theorem post_two {fn : Func} {R : Ending → World → Prop} {tmps : Array Value} {W : World} {s t : Tmp} (hres : fn.results = #[.tmp s, .tmp t]) (hR : R (.returned (.tuple #[tmps.getD s undef, tmps.getD t undef])) W) :
    bodyPost Tryd.prog fn R .ret { tmps := tmps, defers := [] } W := by
  refine bodyPost_ret (v := .tuple #[tmps.getD s undef, tmps.getD t undef]) ?_ rfl hR
  simp only [results, hres]
  simp [go_sem]
end Go.Proofs.YtiaobanloakplaaDoor

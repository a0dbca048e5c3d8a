/- The reader's nodes in memory; its method symbol. -/
import Derived.Test.YtbdollafpjejiaaSrdw
import Derived.StillTailTactics
import Derived.Maps.AppendAt
import Derived.IntWalk
namespace Go.Proofs.Ytbdollafpjejiaa
open Go.RowKit Go.Shelf
set_option linter.unusedSimpArgs false
set_option linter.unusedVariables false
set_option maxRecDepth 100000

/-- The cells of nodes with the given slices of children. -/
def ncells : List Nd → List Value → List Value
  | n :: ns, v :: vs => .string n.1 :: v :: ncells ns vs
  | _, _ => []
theorem ncells_app : ∀ (ns : List Nd) (vs : List Value), ns.length = vs.length → ∀ (n : Nd) (v : Value), ncells (ns ++ [n]) (vs ++ [v]) = ncells ns vs ++ [.string n.1, v]
  | [], [], _, _, _ => rfl
  | n :: ns, v :: vs, h, n', v' => by
    simp only [List.cons_append, ncells]
    rw [ncells_app ns vs (by simpa using h)]
def kd (kv : List Value) (k : Nat) : Value := kv.getD k undef
theorem sy_lt {ns ms : List Nd} {k : Nat} (h : k < ns.length) : sy (ns ++ ms) k = sy ns k := by simp [sy, List.getD, List.getElem?_append_left h]
theorem ch_lt {ns ms : List Nd} {k : Nat} (h : k < ns.length) : ch (ns ++ ms) k = ch ns k := by simp [ch, List.getD, List.getElem?_append_left h]
theorem sy_at {ns : List Nd} {n : Nd} : sy (ns ++ [n]) ns.length = n.1 := by simp [sy, List.getD]
theorem ch_at {ns : List Nd} {n : Nd} : ch (ns ++ [n]) ns.length = n.2 := by simp [ch, List.getD]
/-- The children of the nodes, in rows from block B on, none of them in a block of X. -/
def Kids (w : World) (B : Nat) (kv : List Value) (ns : List Nd) (X : Nat → Prop) : Prop :=
  ∀ k, k < ns.length → w.ownsRow B IT 1 (kd kv k) (ch ns k).length ((ch ns k).map (Value.int .i64)) ∧ ∀ b, (kd kv k).ownBlock = some b → ¬ X b
/-- The nodes that the call owns, from block B on. -/
def NOwn (w : World) (B : Nat) (v : Value) (ns : List Nd) (X : Nat → Prop) : Prop :=
  ∃ kv : List Value, kv.length = ns.length ∧ w.ownsRow B ST 2 v ns.length (ncells ns kv) ∧ Kids w B kv ns X ∧ ∀ n ∈ ns, n.1.size ≤ maxLen
/-- The reader at block g: the text, the offset, the nodes. -/
structure Rdr (w : World) (B g : Nat) (s : ByteArray) (a : Nat) (ns : List Nd) (X : Nat → Prop) : Prop where
  lo : B ≤ g
  nlen : ns.length ≤ a
  ale : a ≤ s.size
  ex : ∃ v, RdB w g s a v ∧ NOwn w B v ns X
/-- What stays as it was: what lies below B, and what is neither block g nor a row of nodes. -/
structure Fr (B g : Nat) (w w' : World) : Prop where
  below : Below B w w'
  others : Lib.OthersKept ST (some g) w w'

theorem own_kind {w : World} {B : Nat} {e : TypeId} {size : Nat} {v : Value} {n : Nat} {xs : List Value} (h : w.ownsRow B e size v n xs) : ∀ g, v.ownBlock = some g → ∃ c fz, w.heap[g]? = some (.cells c e fz) := by
  intro g hg
  rcases h.2 with ⟨rfl, _⟩ | ⟨g', cap, cur, rfl, _, hgg, _⟩
  · simp [Value.ownBlock] at hg
  · simp [Value.ownBlock] at hg
    subst hg
    exact ⟨cur, _, hgg⟩
/-- An owned row of another kind stands. -/
theorem own_others {w w' : World} {B : Nat} {e : TypeId} {size : Nat} {v : Value} {n : Nat} {xs : List Value} {g : Nat} {c0 : Array Value} {T : TypeId} {f0 : Nat × Nat} (h : w.ownsRow B e size v n xs) (ho : Lib.OthersKept ST (some g) w w')
    (he : e ≠ ST) (hT : e ≠ T) (hg : w.heap[g]? = some (.cells c0 T f0)) : w'.ownsRow B e size v n xs := by
  refine ⟨h.1, ?_⟩
  rcases h.2 with hn | ⟨g', cap, cur, rfl, hb, hgg, rest⟩
  · exact .inl hn
  · refine .inr ⟨g', cap, cur, rfl, hb, ?_, rest⟩
    refine ho g' _ hgg ?_ (fun c fz e => ?_)
    · intro e1
      have e2 : g' = g := Option.some.inj e1
      subst e2
      rw [hgg] at hg
      simp at hg
      exact hT hg.2.1
    · simp at e
      exact he e.2.1
section
variable {w w' : World} {B g : Nat} {v : Value} {ns : List Nd} {s : ByteArray} {a : Nat} {X : Nat → Prop}
theorem NOwn.kept {row : Option Nat} (h : NOwn w B v ns X) (hg : w.grownBy w' row) (hr : ∀ k, row = some k → ∃ c T fz, w.heap[k]? = some (.cells c T fz) ∧ T ≠ ST ∧ T ≠ IT) : NOwn w' B v ns X := by
  obtain ⟨kv, hl, ho, hk, hm⟩ := h
  have ne : ∀ {e : TypeId} {size : Nat} {u : Value} {n : Nat} {xs : List Value}, w.ownsRow B e size u n xs → (e = ST ∨ e = IT) → u.ownBlock = none ∨ u.ownBlock ≠ row := by
    intro e size u n xs hu he
    cases hub : u.ownBlock with
    | none => exact .inl rfl
    | some q =>
      right
      intro e1
      obtain ⟨c, T, fz, h1, h2, h3⟩ := hr q e1.symm
      obtain ⟨c', fz', h4⟩ := own_kind hu q hub
      rw [h1] at h4
      simp at h4
      rcases he with he | he
      · exact h2 (h4.2.1.trans he)
      · exact h3 (h4.2.1.trans he)
  exact ⟨kv, hl, ho.kept hg (ne ho (.inl rfl)), fun k hkl => ⟨(hk k hkl).1.kept hg (ne (hk k hkl).1 (.inr rfl)), (hk k hkl).2⟩, hm⟩
theorem NOwn.only (h : NOwn w B v ns X) (ho : Only g w w') {c0 : Array Value} {f0 : Nat × Nat} (hg : w.heap[g]? = some (.cells c0 RT f0)) : NOwn w' B v ns X :=
  h.kept ho.grown (fun k hk => ⟨c0, RT, f0, by rw [← Option.some.inj hk]; exact hg, by decide, by decide⟩)
theorem NOwn.below (h : NOwn w B v ns X) (hb : Below w.heap.size w w') : NOwn w' B v ns X :=
  h.kept (row := none) ⟨hb.os, hb.tape, hb.output, hb.size, fun k hk _ => hb.block k hk⟩ (fun k hk => by cases hk)
/-- The slice of nodes after one more has been appended. -/
theorem NOwn.snoc {v' kvn : Value} {n : Nd} {kv : List Value} (hl : kv.length = ns.length) (hown : w.ownsRow B ST 2 v ns.length (ncells ns kv))
    (hk : Kids w B kv ns X) (hm : ∀ n ∈ ns, n.1.size ≤ maxLen)
    (hg : w.grownBy w' v.ownBlock) (hkv : w.ownsRow B IT 1 kvn n.2.length (n.2.map (Value.int .i64))) (hX : ∀ b, kvn.ownBlock = some b → ¬ X b)
    (hn : n.1.size ≤ maxLen) (ho : w'.ownsRow B ST 2 v' (ns.length + 1) (ncells ns kv ++ [.string n.1, kvn])) : NOwn w' B v' (ns ++ [n]) X := by
  have kid : ∀ {u : Value} {m : Nat} {xs : List Value}, w.ownsRow B IT 1 u m xs → w'.ownsRow B IT 1 u m xs := by
    intro u m xs hu
    refine hu.kept hg ?_
    cases hub : u.ownBlock with
    | none => exact .inl rfl
    | some q =>
      right
      intro e1
      obtain ⟨c, fz, h1⟩ := own_kind hown q e1.symm
      obtain ⟨c', fz', h4⟩ := own_kind hu q hub
      rw [h1] at h4
      simp at h4
      exact absurd h4.2.1 (by decide)
  refine ⟨kv ++ [kvn], by simp [hl], ?_, fun k hkl => ?_, fun m hmm => ?_⟩
  · rw [ncells_app ns kv hl.symm]
    simpa using ho
  · by_cases e : k = ns.length
    · subst e
      rw [ch_at, show kd (kv ++ [kvn]) ns.length = kvn by simp [kd, List.getD, ← hl]]
      exact ⟨kid hkv, hX⟩
    · have hlt : k < ns.length := by simp at hkl; omega
      rw [ch_lt hlt, show kd (kv ++ [kvn]) k = kd kv k by simp [kd, List.getD, List.getElem?_append_left (show k < kv.length by omega)]]
      exact ⟨kid (hk k hlt).1, (hk k hlt).2⟩
  · rcases List.mem_append.1 hmm with h1 | h1
    · exact hm m h1
    · simp at h1; subst h1; exact hn
/-- A store into a block that is neither nodes nor numbers. -/
theorem NOwn.setCell (h : NOwn w B v ns X) {p : Addr} {c0 : Array Value} {T : TypeId} {f0 : Nat × Nat} (hp : w.heap[p.block]? = some (.cells c0 T f0)) (h1 : T ≠ ST) (h2 : T ≠ IT) (u : Value) : NOwn (w.setCell p u) B v ns X :=
  h.kept (row := some p.block) ⟨rfl, rfl, rfl, by simp [World.setCell], fun k _ hk => Below.heap_setCell _ _ _ _ (fun e => hk (by rw [e]))⟩ (fun k hk => ⟨c0, T, f0, by rw [← Option.some.inj hk]; exact hp, h1, h2⟩)
theorem RdB.below (h : RdB w g s a v) (hb : Below w.heap.size w w') : RdB w' g s a v := (hb.block g h.lt).trans h
theorem RdB.grown (h : RdB w g s a v) {u : Value} {n : Nat} {xs : List Value} {e : TypeId} {size : Nat} (hu : w.ownsRow B e size u n xs) (he : e ≠ RT) (hg : w.grownBy w' u.ownBlock) : RdB w' g s a v := by
  refine (hg.block g h.lt (fun e1 => ?_)).trans h
  obtain ⟨c, fz, h1⟩ := own_kind hu g e1.symm
  unfold RdB at h
  rw [h] at h1
  simp at h1
  exact he h1.2.1.symm
theorem RdB.far (h : RdB w g s a v) {p : Addr} (hp : p.block ≠ g) (u : Value) : RdB (w.setCell p u) g s a v := (Below.heap_setCell _ _ _ _ (fun e => hp e.symm)).trans h
/-- A box of the call's own for a fault. -/
def FB (w : World) (q : Nat) (x y : Value) : Prop := w.heap[q]? = some (.cells #[x, y] 25 (0, 0))
theorem FB.lt {q : Nat} {x y : Value} (h : FB w q x y) : q < w.heap.size := (Array.getElem?_eq_some_iff.1 h).1
theorem FB.two {q : Nat} {x y : Value} (h : FB w q x y) : Two w q x y :=
  ⟨h.lt, by rw [Lib.cell_of_heap h]; rfl, by rw [Lib.cell_of_heap h]; rfl, Lib.frozen_of_heap h 0, Lib.frozen_of_heap h 1⟩
theorem FB.below {q : Nat} {x y : Value} (h : FB w q x y) (hb : Below w.heap.size w w') : FB w' q x y := (hb.block q h.lt).trans h
theorem FB.fr {q : Nat} {x y : Value} (h : FB w q x y) (hf : Lib.OthersKept ST (some g) w w') (hq : q ≠ g) : FB w' q x y :=
  hf q _ h (fun e => hq (Option.some.inj e)) (fun c fz e => by simp at e; exact absurd e.2.1 (by decide))
theorem FB.set {q : Nat} {x y : Value} (h : FB w q x y) (x' y' : Value) : FB ((w.setCell ⟨q, 0, none⟩ x').setCell ⟨q, 1, none⟩ y') q x' y' :=
  Lib.heap_setCell_same (i := 1) (Lib.heap_setCell_same (i := 0) h x') y'
theorem FB.far {q : Nat} {x y : Value} (h : FB w q x y) {p : Addr} (hp : p.block ≠ q) (u : Value) : FB (w.setCell p u) q x y := (Below.heap_setCell _ _ _ _ (fun e => hp e.symm)).trans h
theorem FB.set0 {q : Nat} {x y : Value} (h : FB w q x y) (u : Value) : FB (w.setCell ⟨q, 0, none⟩ u) q u y := Lib.heap_setCell_same (i := 0) h u
theorem FB.set1 {q : Nat} {x y : Value} (h : FB w q x y) (u : Value) : FB (w.setCell ⟨q, 1, none⟩ u) q x u := Lib.heap_setCell_same (i := 1) h u
theorem fb_new (w : World) (x y : Value) : FB (w.alloc (.cells #[x, y] 25)) w.heap.size x y := heap_alloc_new w _
theorem Fr.refl (B g : Nat) (w : World) : Fr B g w w := ⟨Below.refl _ _, Lib.OthersKept.refl _ _ _⟩
theorem Fr.trans {w'' : World} (h : Fr B g w w') (k : Fr B g w' w'') : Fr B g w w'' := ⟨h.below.trans k.below, h.others.trans k.others⟩
theorem Fr.drewN (h : Fr B g w w') (n : Nat) : Fr B g w (w'.drewN n) := ⟨belowN h.below n, h.others⟩
theorem Fr.drew (h : Fr B g w w') : Fr B g w w'.drew := ⟨h.below.drew, h.others⟩
theorem Fr.of_below (hb : Below w.heap.size w w') (hB : B ≤ w.heap.size) : Fr B g w w' := ⟨hb.mono hB, fun k o hk _ _ => (hb.block k (Array.getElem?_eq_some_iff.1 hk).1).trans hk⟩
theorem Fr.of_only (h : Only g w w') (hB : B ≤ g) : Fr B g w w' := ⟨h.below hB, h.others⟩
theorem Fr.setCell (h : Fr B g w w') {p : Addr} (hp : p.block = g) (hB : B ≤ g) (u : Value) : Fr B g w (w'.setCell p u) := ⟨h.below.setCell (by rw [hp]; exact hB) u, h.others.setCell p hp u⟩
theorem Fr.setNew (h : Fr B g w w') {p : Addr} (hp : w.heap.size ≤ p.block) (hB : B ≤ w.heap.size) (u : Value) : Fr B g w (w'.setCell p u) :=
  ⟨h.below.setCell (by omega) u, fun k o hk hb ho => by
    have hlt : k < w.heap.size := (Array.getElem?_eq_some_iff.1 hk).1
    rw [Below.heap_setCell _ _ _ _ (by omega)]
    exact h.others k o hk hb ho⟩
theorem Fr.alloc (h : Fr B g w w') (hB : B ≤ w.heap.size) (o : Obj) : Fr B g w (w'.alloc o) := ⟨h.below.alloc (Nat.le_trans hB h.below.size) o, h.others.alloc o⟩
theorem Fr.grown {u : Value} {n : Nat} {xs : List Value} {w'' : World} (h : Fr B g w w') (hB : B ≤ w.heap.size) (hu : w'.ownsRow B ST 2 u n xs) (hg : w'.grownBy w'' u.ownBlock) : Fr B g w w'' :=
  ⟨h.below.grown hg (Nat.le_trans hB h.below.size) (fun k hk => (hu.lt k hk).1), h.others.grown hg (own_kind hu)⟩
theorem Fr.grownNew {row : Option Nat} {w'' : World} (h : Fr B g w w') (hB : B ≤ w.heap.size) (hg : w'.grownBy w'' row) (hr : ∀ k, row = some k → w.heap.size ≤ k) : Fr B g w w'' :=
  ⟨h.below.grown hg (Nat.le_trans hB h.below.size) (fun k hk => Nat.le_trans hB (hr k hk)), fun k o hk hb ho => by
    have hlt : k < w.heap.size := (Array.getElem?_eq_some_iff.1 hk).1
    rw [hg.block k (Nat.lt_of_lt_of_le hlt h.below.size) (fun e => by have := hr k e.symm; omega)]
    exact h.others k o hk hb ho⟩
/-- The nodes while a row that none of their children lies in grows. -/
theorem NOwn.grownX {u : Value} {n : Nat} {xs : List Value} {B' : Nat} (h : NOwn w B v ns X) (hu : w.ownsRow B' IT 1 u n xs) (hg : w.grownBy w' u.ownBlock) (hX : ∀ b, u.ownBlock = some b → X b) : NOwn w' B v ns X := by
  obtain ⟨kv, hl, ho, hk, hm⟩ := h
  refine ⟨kv, hl, ho.kept hg ?_, fun k hkl => ⟨(hk k hkl).1.kept hg ?_, (hk k hkl).2⟩, hm⟩
  · cases hub : v.ownBlock with
    | none => exact .inl rfl
    | some q =>
      right
      intro e1
      obtain ⟨c, fz, h1⟩ := own_kind hu q e1.symm
      obtain ⟨c', fz', h4⟩ := own_kind ho q hub
      rw [h1] at h4
      simp at h4
      exact absurd h4.2.1 (by decide)
  · cases hub : (kd kv k).ownBlock with
    | none => exact .inl rfl
    | some q =>
      right
      intro e1
      exact (hk k hkl).2 q hub (hX q e1.symm)
theorem NOwn.weaken {Y : Nat → Prop} (h : NOwn w B v ns X) (hY : ∀ b, b < w.heap.size → Y b → X b) : NOwn w B v ns Y := by
  obtain ⟨kv, hl, ho, hk, hm⟩ := h
  exact ⟨kv, hl, ho, fun k hkl => ⟨(hk k hkl).1, fun b hb hy => (hk k hkl).2 b hb (hY b ((hk k hkl).1.lt b hb).2 hy)⟩, hm⟩
theorem NOwn.slice (h : NOwn w B v ns X) : ∃ A c, v = .slice A ns.length c := by
  obtain ⟨kv, hl, ho, hk, hm⟩ := h
  rcases ho.2 with ⟨rfl, h0⟩ | ⟨q, cap, cur, rfl, _⟩
  · exact ⟨none, 0, by rw [h0]⟩
  · exact ⟨_, _, rfl⟩
theorem Fr.two {x y : Value} {q : Nat} {c0 : Array Value} {T : TypeId} (h : Fr B g w w') (hq : w.heap[q]? = some (.cells c0 T (0, 0))) (hqg : q ≠ g) (hT : T ≠ ST) : w'.heap[q]? = some (.cells c0 T (0, 0)) :=
  h.others q _ hq (fun e => hqg (Option.some.inj e)) (fun c fz e => by simp at e; exact hT e.2.1)
end
theorem clone_any (s : ByteArray) (w : World) (hlim : s.size ≤ 281474976710656) :
    Calls Try.prog 42 #[.string s] w fun e w' => e = .returned (.string s) ∧ Below w.heap.size w w' := by
  go_enter Try.func42, Try.ntmps42
  go_wp2_with (go_at_call 44; refine (Try.stringslite_Clone s _ hlim).mono ?_; rintro e w' ⟨rfl, hb⟩)
  go_ret
  exact ⟨rfl, hb⟩
/-- What a reading leaves. -/
def RdPost (B g : Nat) (s : ByteArray) (X : Nat → Prop) (r : RdRes) (w : World) (e : Ending) (w' : World) : Prop :=
  Fr B g w w' ∧ match r with
    | .error f => e = .returned (faultV f)
    | .ok (a, ns) => e = .returned (faultV (0, 0)) ∧ Rdr w' B g s a ns X
theorem info_node : (Try.prog.info? ST).map (fun i => (i.zero, i.size, i.bytes)) = some (some (.agg #[.string ⟨#[]⟩, .slice none 0 0]), 2, 40) := by kernel_rfl

set_option maxHeartbeats 1000000 in
theorem symbolR_any (B g : Nat) (s : ByteArray) (a : Nat) (ns : List Nd) (X : Nat → Prop) (w : World) (hs : s.size ≤ 4096) (hpos : 0 < symEnd (s.extract a s.size)) (h : Rdr w B g s a ns X) :
    Calls Try.prog 38 #[.pointer (some ⟨g, 0, none⟩)] w (RdPost B g s X (rdSym s a ns) w) := by
  obtain ⟨hlo, hnl, hal, v, hR, hN⟩ := h
  have HR := Lib.hid hR
  have HN := Lib.hid hN
  clear hR hN
  have c0 := HR.out.c0
  have c1 := HR.out.c1
  have c2 := HR.out.c2
  have hlt := HR.out.lt
  have hsl : (s.extract a s.size).size ≤ maxLen := by simp [maxLen]; omega
  have hsym : ∀ W, Calls Try.prog 35 #[.string (s.extract a s.size)] W fun e w' => e = .returned (.int .i64 (symEnd (s.extract a s.size))) ∧ w' = W :=
    fun W => (symLen_any _ hsl W).mono fun _ _ h => ⟨h.1, h.2.symm⟩
  have hend := symEnd_le (s.extract a s.size)
  have hres : rdSym s a ns = bif decide (12 < symEnd (s.extract a s.size)) then .error (1, a) else .ok (a + symEnd (s.extract a s.size), ns ++ [(s.extract a (a + symEnd (s.extract a s.size)), [])]) := rfl
  rw [show (s.extract a s.size).size = s.size - a by simp] at hend
  generalize symEnd (s.extract a s.size) = n at hsym hend hres hpos
  have HS := Lib.hid hsym
  clear hsl hsym
  by_cases h12 : 12 < n
  · have HE := Lib.hid (show rdSym s a ns = .error (1, a) by rw [hres, decide_eq_true h12]; rfl)
    have hd : decide ((n : Int) > 12) = true := by simp; omega
    clear hres
    go_enter Try.func38, Try.ntmps38
    go_wp2
    go_quiet ((go_at_call 35; exact Calls.quiet_of_same (HS.out _)))
    go_wp2
    refine post_fault (g := w.heap.size) (x := .int .i64 1) (y := .int .i64 a) Try.results38 rfl ?_ ?_
    · (repeat' (first | (with_reducible assumption) | (with_reducible exact two_new _ _ _ _) | (with_reducible exact (two_new _ _ _ _).pair) | (with_reducible exact Two.pair ‹_›) | (with_reducible refine Pair.set ?_ _ _) | (with_reducible refine Two.alloc ?_ _) | (with_reducible refine Pair.alloc ?_ _) | (with_reducible refine two1 ?_) | (with_reducible refine twoN ?_ _) | (with_reducible refine Pair.drew ?_) | (with_reducible refine Pair.drewN ?_ _) | (with_reducible refine Two.far ?_ ?_ _) | (with_reducible refine Pair.far ?_ ?_ _) | (simp; omega)))
    · refine ⟨?_, ?_⟩
      · exact Fr.of_below (by (repeat' (first | (with_reducible assumption) | (with_reducible exact Below.refl _ _) | (with_reducible refine belowN ?_ _) | (with_reducible refine Below.alloc ?_ ?_ _) | (with_reducible refine Below.drew ?_) | (with_reducible refine Below.setCell ?_ ?_ _) | go_size))) (by omega)
      · rw [HE.out]
  · have HE := Lib.hid (show rdSym s a ns = .ok (a + n, ns ++ [(s.extract a (a + n), [])]) by rw [hres, decide_eq_false h12]; rfl)
    have hd : decide ((n : Int) > 12) = false := by simp; omega
    clear hres
    go_enter Try.func38, Try.ntmps38
    go_wp2
    go_quiet ((go_at_call 35; exact Calls.quiet_of_same (HS.out _)))
    go_wp2
    generalize hW : World.drewN (World.alloc w _) _ = w1
    have hB1 : Below w.heap.size w w1 := by rw [← hW]; exact belowN ((Below.refl _ _).alloc (Nat.le_refl _) _) _
    have hT1 : FB w1 w.heap.size (.int .i64 0) (.int .i64 0) := by rw [← hW]; exact fb_new w _ _
    have HR1 := Lib.hid (HR.out.below hB1)
    have HN1 := Lib.hid (HN.out.below hB1)
    have HW := Lib.hid hW
    have hz1 := hT1.lt
    have HB1 := Lib.hid hB1
    have HT1 := Lib.hid hT1
    clear hW hB1 hT1 c0 c1 c2
    have c0 := HR1.out.c0
    have c1 := HR1.out.c1
    have b0 : (0 : Int) ≤ (a : Int) + n := by omega
    have b1 : (a : Int) + n ≤ s.size := by omega
    have b2 : IntKind.i64.wrap ((a : Int) + n) = (a : Int) + n := IntWalk.i64_in _ (by omega)
    have b3 : ((a : Int) + n).toNat = a + n := by omega
    have b4 : (a : Int) ≤ (a : Int) + n := by omega
    refine wp_region_still_tail 15 (by kernel_rfl) (by kernel_rfl) ?_
    simp only [List.take_succ_cons, List.take_zero, List.drop_succ_cons, List.drop_zero]
    change wpStill _ _ w1.drew _ _ _
    repeat still_step
    try refine wpStill_nil ?_
    change wpList _ _ _ _ _ w1.drew
    clear b0 b1 b2 b3 b4 c0 c1
    go_wp2_with (go_at_call 42; refine (clone_any _ _ (by simp; omega)).mono ?_)
    rintro e w2 ⟨rfl, hb2⟩
    have hB2 : Below w1.heap.size w1 w2 := ⟨hb2.os, hb2.tape, hb2.output, hb2.size, hb2.block⟩
    clear hb2
    have hz2 := hB2.size
    have HB2 := Lib.hid hB2
    have HR2 := Lib.hid (HR1.out.below hB2)
    have HN2 := Lib.hid (HN1.out.below hB2)
    have HT2 := Lib.hid (HT1.out.below hB2)
    clear hB2
    have c0 := HR2.out.c0
    have c1 := HR2.out.c1
    have c2 := HR2.out.c2
    obtain ⟨i0, hi, hi0, hi1, hi2⟩ := info_parts info_node
    obtain ⟨kv, hkv, hown, hkid, hsz⟩ := HN2.out
    have HK := Lib.hid hkid
    have HZ := Lib.hid hsz
    have HL := Lib.hid hkv
    clear hkid hsz hkv
    go_wp2_with (at_builtin; refine wpList_append_own _ rfl _ _ 22 rfl B ST i0 (.agg #[.string ⟨#[]⟩, .slice none 0 0]) 2 40 Try.underlying22 hi hi0 hi1 hi2 rfl (by decide) _ _ _ rfl (hown.alloc _) ⟨w2.heap.size, 0, none⟩ 1 1 [.string (s.extract a (a + n)), .slice none 0 0] rfl rfl ?d1 ?d2 ?d3 ?d4 ?d5 ?_)
    case d1 =>
      intro j u hj
      match j, hj with
      | 0, hj => simp at hj; subst hj; simp [Addr.add]
      | 1, hj => simp at hj; subst hj; simp [Addr.add]
    case d2 => intro u hu; simp at hu; rcases hu with rfl | rfl <;> rfl
    case d3 => unfold maxLen; omega
    case d4 => omega
    case d5 => simp; omega
    generalize hA : World.alloc w2 _ = wa
    have hBa : Below w2.heap.size w2 wa := by rw [← hA]; exact (Below.refl _ _).alloc (Nat.le_refl _) _
    have HOa := Lib.hid (show wa.ownsRow B ST 2 v ns.length (ncells ns kv) by rw [← hA]; exact hown.alloc _)
    have hKa : Kids wa B kv ns X := fun k hk => ⟨by rw [← hA]; exact (HK.out k hk).1.alloc _, (HK.out k hk).2⟩
    have HKa := Lib.hid hKa
    have HBa := Lib.hid hBa
    have hza := hBa.size
    clear hA hBa hKa hown c0 c1 c2
    intro v' w3 hown' hgrow _
    have HG := Lib.hid hgrow
    have hN3 := HOa.out
    have HN3 := Lib.hid (NOwn.snoc (n := (s.extract a (a + n), [])) HL.out HOa.out HKa.out HZ.out hgrow (World.ownsRow_nil wa B IT 1) (fun b hb => by simp [Value.ownBlock] at hb) (by simp [maxLen]; omega) hown')
    have HR3 := Lib.hid ((HR2.out.below HBa.out).grown HOa.out (by decide) hgrow)
    have HT3 := Lib.hid (((HT2.out.below HBa.out).fr (g := g) ((Lib.OthersKept.refl _ _ _).grown hgrow (own_kind HOa.out)) (by omega)))
    have HF3 := Lib.hid (((Fr.of_below (g := g) HB1.out (show B ≤ w.heap.size by omega)).trans (Fr.of_below HB2.out (by omega))).trans (Fr.of_below HBa.out (by omega)) |>.grown (by omega) HOa.out hgrow)
    obtain ⟨g', cap, rfl⟩ : ∃ g' cap, v' = .slice (some ⟨g', 0, none⟩) (ns.length + 1) cap := by
      rcases hown'.2 with ⟨_, h0⟩ | ⟨g', cap, cur, hv, _⟩
      · omega
      · exact ⟨g', cap, hv⟩
    clear hgrow hown' hN3
    have c0 := HR3.out.c0
    have c1 := HR3.out.c1
    have c2 := HR3.out.c2
    have f1 := HR3.out.f 1
    have f2 := HR3.out.f 2
    have t0 := HT3.out.two.fst
    have t1 := HT3.out.two.snd
    have tf0 := HT3.out.two.ffst
    have tf1 := HT3.out.two.fsnd
    have hg0 : g ≠ w.heap.size := by omega
    have hg1 : w.heap.size ≠ g := by omega
    go_wp2
    have hRf := ((HR3.out.set2 (.slice (some ⟨g', 0, none⟩) (ns.length + 1) cap)).set1 (a + n)).far (p := ⟨w.heap.size, 0, none⟩) hg1 (.int .i64 0) |>.far (p := ⟨w.heap.size, 1, none⟩) hg1 (.int .i64 0)
    refine post_fault (g := w.heap.size) (x := .int .i64 0) (y := .int .i64 0) Try.results38 rfl ?_ ?_
    · have hT3 := HT3.out.two
      (repeat' (first | (with_reducible assumption) | (with_reducible exact two_new _ _ _ _) | (with_reducible exact (two_new _ _ _ _).pair) | (with_reducible exact Two.pair ‹_›) | (with_reducible refine Pair.set ?_ _ _) | (with_reducible refine Two.alloc ?_ _) | (with_reducible refine Pair.alloc ?_ _) | (with_reducible refine two1 ?_) | (with_reducible refine twoN ?_ _) | (with_reducible refine Pair.drew ?_) | (with_reducible refine Pair.drewN ?_ _) | (with_reducible refine Two.far ?_ ?_ _) | (with_reducible refine Pair.far ?_ ?_ _) | (simp; omega)))
    · refine ⟨?_, ?_⟩
      · exact (((HF3.out.setCell (p := ⟨g, 2, none⟩) rfl hlo _).setCell (p := ⟨g, 1, none⟩) rfl hlo _).setNew (p := ⟨w.heap.size, 0, none⟩) (Nat.le_refl _) (by omega) _).setNew (p := ⟨w.heap.size, 1, none⟩) (Nat.le_refl _) (by omega) _
      · rw [HE.out]
        refine ⟨rfl, hlo, by simp; omega, by omega, _, hRf, ?_⟩
        have hA := HN3.out.only (((Only.refl g _).setCell (p := ⟨g, 2, none⟩) rfl (.slice (some ⟨g', 0, none⟩) (ns.length + 1) cap)).setCell (p := ⟨g, 1, none⟩) rfl (.int .i64 ((a + n : Nat) : Int))) HR3.out
        have hB := (HT3.out.far (p := ⟨g, 2, none⟩) hg0 (.slice (some ⟨g', 0, none⟩) (ns.length + 1) cap)).far (p := ⟨g, 1, none⟩) hg0 (.int .i64 ((a + n : Nat) : Int))
        exact (hA.setCell (p := ⟨w.heap.size, 0, none⟩) hB (by decide) (by decide) _).setCell (p := ⟨w.heap.size, 1, none⟩) (hB.set0 _) (by decide) (by decide) _
end Go.Proofs.Ytbdollafpjejiaa

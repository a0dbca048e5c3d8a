/- Regions that draw their order and end with a store into a cell that they load: S is asked behind every operation but the last. -/
import Derived.Test.YtiaobanloakplaaDoorME
import Derived.Deep.RegionHeld3
import Derived.StillTail
namespace Go.Proofs.YtiaobanloakplaaDoor
open Go.RowKit
set_option linter.unusedSimpArgs false
set_option linter.unusedVariables false
set_option maxRecDepth 100000

section
variable {P : Program} {ops : Array Oper} {Q : Exit → Act → World → Prop} {md : Region.Mode} {S : World → Prop} {m : Nat}
/-- Whatever order is picked from here on, and S holds behind every operation but number m. -/
def wpAnyF (P : Program) (md : Region.Mode) (ops : Array Oper) (Q : Exit → Act → World → Prop) (S : World → Prop) (m : Nat) : Nat → Array Bool → Act → World → Prop
  | 0, listed, a, w => Region.ready md ops listed = [] ∧ Q .normal a w
  | f + 1, listed, a, w => (Region.ready md ops listed = [] → Q .normal a w) ∧
    ∀ i ∈ Region.ready md ops listed, wpOp P ops Q i (fun a' w' => (i ≠ m → S w') ∧ wpAnyF P md ops Q S m f (listed.setIfInBounds i true) a' w') a w
theorem wpAny_of_F : ∀ (f : Nat) (listed : Array Bool) (a : Act) (w : World), wpAnyF P md ops Q S m f listed a w → wpAny P md ops Q f listed a w
  | 0, _, _, _, h => h
  | f + 1, _, _, _, h => ⟨h.1, fun i hi => wpOp_mono (fun a' w' h' => wpAny_of_F f _ a' w' h'.2) (h.2 i hi)⟩
theorem unlisted_waits {listed : Array Bool} {i j : Nat} (hr : i ∈ Region.ready md ops listed) (hj : j ∈ Region.ready md ops listed) {o : Oper} (ho : ops[j]? = some o) : ∀ e ∈ o.after, Region.binds md e = true → e.on ≠ i := by
  obtain ⟨_, o', ho', hall⟩ := mem_ready.1 hj
  rw [ho] at ho'
  cases ho'
  intro e he hb heq
  have h1 := hall e he hb
  have h0 := (mem_ready.1 hr).1
  rw [heq] at h1
  rcases Nat.lt_or_ge i listed.size with h' | h'
  · simp [h'] at h0 h1; rw [h0] at h1; cases h1
  · simp [Array.getElem?_eq_none h'] at h1
theorem wpAnyF_first {i : Nat} {oi : Oper} {v : Value} (hi : ops[i]? = some oi) (him : i < m) (hsz : ops.size = m + 1) (hsk : Region.sinkB md ops m = true) (hch : Region.chainB md ops m = true) (hsel : ∀ (j : Nat) (o : Oper) cs b, ops[j]? = some o → o.op ≠ .select cs b)
    (hQ : ∀ c a w, Q (.panic c) (a.put oi.dst v) w → Q (.panic c) a w) :
    ∀ (f : Nat) (listed : Array Bool) (a : Act) (w : World), HeadInv md ops m listed →
      (∀ j oj, ops[j]? = some oj → j ≠ i → listed.getD j true = false → (∀ e ∈ oj.after, Region.binds md e = true → e.on ≠ i) → oi.apart ops oj = true) →
      i ∈ Region.ready md ops listed → YieldsIf P ops S oi v a → S w →
      wpAnyF P md ops Q S m f (listed.setIfInBounds i true) (a.put oi.dst v) w → wpAnyF P md ops Q S m (f + 1) listed a w := by
  intro f
  induction f with
  | zero =>
    intro listed a w _ _ hr hy hS H
    refine ⟨fun h => (by rw [h] at hr; cases hr), fun j hj => ?_⟩
    by_cases hji : j = i
    · subst hji; exact hy.wpOp hi hS ⟨fun _ => hS, H⟩
    · have := ready_mono hj hji
      rw [H.1] at this
      cases this
  | succ f ih =>
    intro listed a w inv hfree hr hy hS H
    refine ⟨fun h => (by rw [h] at hr; cases hr), fun j hj => ?_⟩
    by_cases hji : j = i
    · subst hji; exact hy.wpOp hi hS ⟨fun _ => hS, H⟩
    · have h1 := H.2 j (ready_mono hj hji)
      obtain ⟨hjun, oj, hoj, _⟩ := mem_ready.1 hj
      have hnot := unlisted_waits hr hj hoj
      have hjm : j ≠ m := by
        rintro rfl
        exact tail_waits hsk hch (by omega) inv (j - i) i rfl him (mem_ready.1 hr).1 j (Nat.le_refl _) hj
      have hjlt : j < m := by
        have := (Array.getElem?_eq_some_iff.1 hoj).1
        omega
      have h2 := wpOp_putIf hoj (hfree j oj hoj hji hjun hnot) (fun cs b => hsel i oi cs b hi) (fun cs b => hsel j oj cs b hoj) hQ hy h1
      have hfree' : ∀ k ok, ops[k]? = some ok → k ≠ i → (listed.setIfInBounds j true).getD k true = false →
          (∀ e ∈ ok.after, Region.binds md e = true → e.on ≠ i) → oi.apart ops ok = true := fun k ok hk hki hun hno => by
        refine hfree k ok hk hki ?_ hno
        by_cases hjk : j = k
        · subst hjk; exact hjun
        · rw [getD_set_ne true hjk] at hun; exact hun
      refine wpOp_mono (fun a' w' h3 => ⟨h3.2.1, ih (listed.setIfInBounds j true) a' w' (inv.set hj hjlt) hfree' (ready_mono hr (Ne.symm hji)) h3.1 (h3.2.1 hjm) ?_⟩) h2
      rw [Array.setIfInBounds_comm _ _ hji]
      exact h3.2.2
def headB (md : Region.Mode) (ops : Array Oper) (m : Nat) (listed : Array Bool) : Bool :=
  decide (listed.size = ops.size) && ((List.range ops.size).all (fun j => !listed.getD j false || (match ops[j]? with
    | some o => o.after.all fun e => !Region.binds md e || listed.getD e.on false
    | none => true)) && (List.range ops.size).all fun t => decide (t < m) || !listed.getD t true)
theorem headB_spec {listed : Array Bool} (h : headB md ops m listed = true) : HeadInv md ops m listed := by
  unfold headB at h
  rw [Bool.and_eq_true, Bool.and_eq_true, decide_eq_true_iff, List.all_eq_true, List.all_eq_true] at h
  obtain ⟨h1, h2, h3⟩ := h
  refine ⟨h1, fun j oj hj hl e he hb => ?_, fun t ht hlt => ?_⟩
  · have q := h2 j (List.mem_range.2 (Array.getElem?_eq_some_iff.1 hj).1)
    rw [hl, hj] at q
    simp only [Bool.not_true, Bool.false_or] at q
    obtain ⟨k, hk, rfl⟩ := Array.mem_iff_getElem.1 he
    have q2 := Array.all_eq_true.1 q k hk
    rw [hb] at q2
    simpa using q2
  · have q := h3 t (List.mem_range.2 hlt)
    rw [decide_eq_false (by omega)] at q
    simpa using q
theorem wpAnyF_take {i : Nat} {oi : Oper} {v : Value} {f : Nat} {listed : Array Bool} {a : Act} {w : World} (hi : ops[i]? = some oi) (him : decide (i < m) = true) (hsz : decide (ops.size = m + 1) = true) (hsk : Region.sinkB md ops m = true) (hch : Region.chainB md ops m = true) (hw : headB md ops m listed = true)
    (hs : Region.noSelect ops = true) (hf : Region.free md ops listed i = true) (hr : (Region.ready md ops listed).contains i = true)
    (hQ : ∀ c a w, Q (.panic c) (a.put oi.dst v) w → Q (.panic c) a w) (hy : YieldsIf P ops S oi v a) (hS : S w)
    (h : wpAnyF P md ops Q S m f (listed.setIfInBounds i true) (a.put oi.dst v) w) : wpAnyF P md ops Q S m (f + 1) listed a w :=
  wpAnyF_first hi (of_decide_eq_true him) (of_decide_eq_true hsz) hsk hch (Region.noSelect_spec hs) hQ f listed a w (headB_spec hw) (Region.free_spec hi hf) (by simpa using hr) hy hS h
/-- One operation alone may come up, and it is not the last. -/
theorem wpAnyF_one {i : Nat} {o : Oper} {f : Nat} {listed : Array Bool} {a : Act} {w : World} (hr : Region.ready md ops listed = [i]) (ho : ops[i]? = some o)
    (h : ∀ K' : Act → World → Prop, Shut (∀ a w, S w → (S w → wpAnyF P md ops Q S m f (listed.setIfInBounds i true) a w) → K' a w) → if Region.wanted o (yielded ops a.tmps) = true then Oper.wp P o a w K' Q else K' (a.put o.dst undef) w) :
    wpAnyF P md ops Q S m (f + 1) listed a w := by
  refine ⟨fun h => (by rw [hr] at h; cases h), fun j hj => ?_⟩
  rw [hr] at hj
  obtain rfl := List.mem_singleton.1 hj
  exact wpOp_step ho (fun K' hK => h K' (fun a w hS hW => hK a w ⟨fun _ => hS, hW hS⟩))
/-- The last. -/
theorem wpAnyF_end {o : Oper} {f : Nat} {listed : Array Bool} {a : Act} {w : World} (hr : Region.ready md ops listed = [m]) (ho : ops[m]? = some o) (hr2 : Region.ready md ops (listed.setIfInBounds m true) = [])
    (h : ∀ K' : Act → World → Prop, Shut (∀ a w, Q .normal a w → K' a w) → if Region.wanted o (yielded ops a.tmps) = true then Oper.wp P o a w K' Q else K' (a.put o.dst undef) w) :
    wpAnyF P md ops Q S m (f + 1) listed a w := by
  refine ⟨fun h => (by rw [hr] at h; cases h), fun j hj => ?_⟩
  rw [hr] at hj
  obtain rfl := List.mem_singleton.1 hj
  refine wpOp_step ho (fun K' hK => h K' (fun a w hq => hK a w ⟨fun h => absurd rfl h, ?_⟩))
  cases f with
  | zero => exact ⟨hr2, hq⟩
  | succ f => exact ⟨fun _ => hq, fun i hi => by rw [hr2] at hi; cases hi⟩
theorem wp_region_F {id : Nat} {a : Act} {w : World} (m : Nat) (hm : P.follows .mixedOrders = true) (hS : S w.drew)
    (h : S w.drew → wpAnyF P .any ops Q S m ops.size (Array.replicate ops.size false) a w.drew) : (Code.region id ops true).wp P Q a w :=
  wp_region_any hm (wpAny_of_F _ _ _ _ (h hS))
end

/-- What the second loop's region keeps: its box, the box of the operator. -/
structure LpQ (w3 : World) (bt : Nat) (n : Int) (gv : Value) (ai : Option Addr) (ci : Nat) (init : List Int) (u v : Value) (os : List Opr) (q : Nat) (u1 u2 u3 : Value) (W : World) : Prop where
  lp : LpO w3 bt n gv ai ci init u v os W
  tr : Tri W q u1 u2 u3
  ne : v.ownBlock ≠ some q
section
variable {w3 W W' : World} {bt ci q : Nat} {n : Int} {gv u v v' u1 u2 u3 : Value} {ai : Option Addr} {init : List Int} {os os' : List Opr}
theorem LpQ.to (h : LpQ w3 bt n gv ai ci init u v os q u1 u2 u3 W) (hb : Below W.heap.size W W') (h3 : w3.heap.size ≤ bt) : LpQ w3 bt n gv ai ci init u v os q u1 u2 u3 W' := ⟨h.lp.to hb h3, h.tr.to hb, h.ne⟩
theorem LpQ.app (h : LpQ w3 bt n gv ai ci init u v os q u1 u2 u3 W) (hg : W.grownBy W' v.ownBlock) (hr : v'.ownBlock = v.ownBlock ∨ v'.ownBlock = some W.heap.size) (h3 : w3.heap.size ≤ bt) (ho : OpsR W' (bt + 1) bt v' os') : LpO w3 bt n gv ai ci init u v' os' W' ∧ Tri W' q u1 u2 u3 := by
  have hn : some q ≠ v.ownBlock := fun e => h.ne e.symm
  exact ⟨h.lp.app (fun q hq => (h.lp.row.own_lt q hq).1) hg hr h3 ho, Nat.lt_of_lt_of_le h.tr.lt hg.size, hg.cell h.tr.c0 hn, hg.cell h.tr.c1 hn, hg.cell h.tr.c2 hn⟩
end
theorem four_news {W : World} {g : Nat} {a b c d : Value} (h0 : W.cell? ⟨g, 0, none⟩ = some a) (h1 : W.cell? ⟨g, 1, none⟩ = some b) (h2 : W.cell? ⟨g, 2, none⟩ = some c) (h3 : W.cell? ⟨g, 3, none⟩ = some d) : ∀ j y, ([a, b, c, d] : List Value)[j]? = some y → W.cell? ((⟨g, 0, none⟩ : Addr).add j) = some y := by
  intro j y hj
  match j, hj with
  | 0, hj => simp at hj; subst hj; simpa [Addr.add] using h0
  | 1, hj => simp at hj; subst hj; simpa [Addr.add] using h1
  | 2, hj => simp at hj; subst hj; simpa [Addr.add] using h2
  | 3, hj => simp at hj; subst hj; simpa [Addr.add] using h3
  | j + 4, hj => simp at hj
theorem info_op : (Tryd.prog.info? 79).map (fun i => (i.zero, i.size, i.bytes)) = some (some (.agg #[.slice none 0 0, .slice none 0 0, .slice none 0 0, .int .i64 0]), 4, 80) := by kernel_rfl
theorem put_apB {W : World} {r : Option Nat} {bt : Nat} {a : Option Addr} {c : Nat} {s : List Int} (h : ApB W r bt a c s) {g : Nat} (hg : g + 2 ≤ bt) (x0 x1 x2 x3 y0 y1 : Value) : ApB ((((((W.setCell ⟨g + 1, 0, none⟩ x0).setCell ⟨g + 1, 1, none⟩ x1).setCell ⟨g + 1, 2, none⟩ x2).setCell ⟨g + 1, 3, none⟩ x3).setCell ⟨g + 2, 0, none⟩ y0).setCell ⟨g + 2, 1, none⟩ y1) r bt a c s :=
  (((((h.setp (by show g + 1 ≤ bt; omega) x0).setp (by show g + 1 ≤ bt; omega) x1).setp (by show g + 1 ≤ bt; omega) x2).setp (by show g + 1 ≤ bt; omega) x3).setp (by show g + 2 ≤ bt; omega) y0).setp (by show g + 2 ≤ bt; omega) y1
theorem put_ops {W : World} {base bt : Nat} {v : Value} {os : List Opr} (h : OpsR W base bt v os) (hb : bt < base) {g : Nat} (hg : g + 2 ≤ bt) (x0 x1 x2 x3 y0 y1 : Value) : OpsR ((((((W.setCell ⟨g + 1, 0, none⟩ x0).setCell ⟨g + 1, 1, none⟩ x1).setCell ⟨g + 1, 2, none⟩ x2).setCell ⟨g + 1, 3, none⟩ x3).setCell ⟨g + 2, 0, none⟩ y0).setCell ⟨g + 2, 1, none⟩ y1) base bt v os :=
  (((((h.setp hb (by show g + 1 ≤ bt; omega) x0).setp hb (by show g + 1 ≤ bt; omega) x1).setp hb (by show g + 1 ≤ bt; omega) x2).setp hb (by show g + 1 ≤ bt; omega) x3).setp hb (by show g + 2 ≤ bt; omega) y0).setp hb (by show g + 2 ≤ bt; omega) y1
end Go.Proofs.YtiaobanloakplaaDoor

/- Numeric tasks: pure facts, and how they lie in memory. -/
import Derived.Test.YtiafplmaigpmeaaNb
namespace Go.Proofs.Ytiafplmaigpmeaa
open Go.RowKit
set_option linter.unusedSimpArgs false
set_option linter.unusedVariables false
set_option maxRecDepth 100000

structure Cmp where
  f : List Int
  k : Int
  b : Int
structure Chg where
  v : Int
  f : List Int
  c : Int
structure NOp where
  pre : List Cmp
  ch : List Chg
  cost : Int
def cmp (l : List Cmp) (k : Nat) : Cmp := l.getD k ⟨[], 0, 0⟩
def chg (l : List Chg) (k : Nat) : Chg := l.getD k ⟨0, [], 0⟩
def nop (l : List NOp) (k : Nat) : NOp := l.getD k ⟨[], [], 0⟩
theorem cmp_mem {l : List Cmp} {k : Nat} (h : k < l.length) : cmp l k ∈ l := by simp [cmp, List.getD, h]
theorem mem_cmp {l : List Cmp} {c : Cmp} (h : c ∈ l) : ∃ k, k < l.length ∧ cmp l k = c := by
  obtain ⟨k, hk, e⟩ := List.mem_iff_getElem.1 h
  exact ⟨k, hk, by simp [cmp, List.getD, hk, e]⟩
/-- A numeric task, and where its slices lie. -/
structure NT where
  init : List Int
  goal : List Cmp
  ops : List NOp
  ai : Option Addr
  ag : Option Addr
  ao : Option Addr
  ci : Nat
  cg : Nat
  co : Nat

def okL (m : Int) (n : Nat) (l : List Int) : Bool := l.all (fun x => inB x (-m) m) && decide (l.length = n)
theorem okL_iff {m : Int} {n : Nat} {l : List Int} : okL m n l = true ↔ l.length = n ∧ ∀ k, k < l.length → -m ≤ ix l k ∧ ix l k ≤ m := by
  unfold okL
  rw [Bool.and_eq_true, List.all_eq_true, decide_eq_true_iff, and_comm]
  constructor
  · rintro ⟨h1, h2⟩
    exact ⟨h1, fun k hk => by simpa [inB] using h2 _ (ix_mem hk)⟩
  · rintro ⟨h1, h2⟩
    exact ⟨h1, fun x hx => by obtain ⟨k, hk, rfl⟩ := mem_ix hx; simpa [inB] using h2 k hk⟩
/-- The first that is not 0. -/
def fz : List Int → Int
  | [] => 0
  | a :: l => if a = 0 then fz l else a
/-- The same, with its position. -/
def ofz : Nat → List Int → Int × Int
  | _, [] => (0, 0)
  | i, a :: l => if a = 0 then ofz (i + 1) l else (a, i)
theorem ix_cons0 (a : Int) (l : List Int) : ix (a :: l) 0 = a := by simp [ix]
theorem ix_consS (a : Int) (l : List Int) (k : Nat) : ix (a :: l) (k + 1) = ix l k := by simp [ix, List.getD]
theorem fz_at : ∀ {l : List Int} {k : Nat}, (∀ j, j < k → ix l j = 0) → ix l k ≠ 0 → fz l = ix l k
  | [], k, _, h => by simp [ix] at h
  | a :: l, 0, _, h => by rw [ix_cons0] at h ⊢; rw [fz, if_neg h]
  | a :: l, k + 1, h0, h => by
    rw [ix_consS] at h ⊢
    rw [fz, if_pos (by have := h0 0 (by omega); rwa [ix_cons0] at this)]
    exact fz_at (fun j hj => by have := h0 (j + 1) (by omega); rwa [ix_consS] at this) h
theorem fz_none : ∀ {l : List Int}, (∀ j, j < l.length → ix l j = 0) → fz l = 0
  | [], _ => rfl
  | a :: l, h0 => by
    rw [fz, if_pos (by have := h0 0 (by simp); rwa [ix_cons0] at this)]
    exact fz_none (fun j hj => by have := h0 (j + 1) (by simpa using hj); rwa [ix_consS] at this)
theorem fz_zero : ∀ {l : List Int}, fz l = 0 → ∀ j, j < l.length → ix l j = 0
  | [], _, j, h => by simp at h
  | a :: l, h, j, hj => by
    rw [fz] at h
    split at h
    · rename_i e
      match j with
      | 0 => rw [ix_cons0]; exact e
      | j + 1 => rw [ix_consS]; exact fz_zero h j (by simpa using hj)
    · rename_i e; exact absurd h e
theorem ofz_at : ∀ {l : List Int} {k i : Nat}, (∀ j, j < k → ix l j = 0) → ix l k ≠ 0 → ofz i l = (ix l k, ((i + k : Nat) : Int))
  | [], k, _, _, h => by simp [ix] at h
  | a :: l, 0, i, _, h => by rw [ix_cons0] at h ⊢; rw [ofz, if_neg h]; rfl
  | a :: l, k + 1, i, h0, h => by
    rw [ix_consS] at h ⊢
    rw [ofz, if_pos (by have := h0 0 (by omega); rwa [ix_cons0] at this)]
    rw [ofz_at (i := i + 1) (fun j hj => by have := h0 (j + 1) (by omega); rwa [ix_consS] at this) h]
    rw [show i + 1 + k = i + (k + 1) by omega]
theorem ofz_none : ∀ {l : List Int} {i : Nat}, (∀ j, j < l.length → ix l j = 0) → ofz i l = (0, 0)
  | [], _, _ => rfl
  | a :: l, i, h0 => by
    rw [ofz, if_pos (by have := h0 0 (by simp); rwa [ix_cons0] at this)]
    exact ofz_none (fun j hj => by have := h0 (j + 1) (by simpa using hj); rwa [ix_consS] at this)
theorem ofz_zero : ∀ {l : List Int} {i : Nat}, (ofz i l).1 = 0 → ∀ j, j < l.length → ix l j = 0
  | [], _, _, j, h => by simp at h
  | a :: l, i, h, j, hj => by
    rw [ofz] at h
    split at h
    · rename_i e
      match j with
      | 0 => rw [ix_cons0]; exact e
      | j + 1 => rw [ix_consS]; exact ofz_zero h j (by simpa using hj)
    · rename_i e; exact absurd h e
theorem ofz_ok {l : List Int} {i : Nat} (h : (ofz i l).1 = 0) : ofz i l = (0, 0) := ofz_none (ofz_zero h)

def cc1 (n : Nat) (c : Cmp) : Int := if inB c.k 1 2 then (if okL 1000 n c.f && inB c.b (-1000000) 1000000 then 0 else 3) else 4
def ccode (n : Nat) (l : List Cmp) : Int := if 8 < l.length then 2 else fz (l.map (cc1 n))
def ch1 (n : Nat) (l : List Chg) (k : Nat) : Int :=
  if inB (chg l k).v 0 ((n : Int) - 1) && okL 1000 n (chg l k).f && inB (chg l k).c (-1000) 1000 then (if 0 < k ∧ (chg l k).v ≤ (chg l (k - 1)).v then 5 else 0) else 3
def hcode (n : Nat) (l : List Chg) : Int := fz ((List.range l.length).map (ch1 n l))
def ocode (n : Nat) (o : NOp) : Int := if ccode n o.pre ≠ 0 then ccode n o.pre else if hcode n o.ch ≠ 0 then hcode n o.ch else if inB o.cost 0 100 then 0 else 3
/-- The fault of a task. -/
def nfF (x : NT) : Int × Int :=
  if ¬ (1 ≤ x.init.length ∧ x.init.length ≤ 8) then (2, -1) else if okL 1000000 x.init.length x.init = false then (5, -2)
  else if ccode x.init.length x.goal ≠ 0 then (ccode x.init.length x.goal, -3) else if 40 < x.ops.length then (2, -1) else ofz 0 (x.ops.map (ocode x.init.length))
theorem ix_mapc {α : Type} (l : List α) (g : α → Int) {k : Nat} (hk : k < l.length) (d : α) : ix (l.map g) k = g (l.getD k d) := by simp [ix, List.getD, hk]
theorem ix_ccode {n : Nat} {l : List Cmp} {k : Nat} (hk : k < l.length) : ix (l.map (cc1 n)) k = cc1 n (cmp l k) := ix_mapc _ _ hk _
theorem ix_ocode {n : Nat} {l : List NOp} {k : Nat} (hk : k < l.length) : ix (l.map (ocode n)) k = ocode n (nop l k) := ix_mapc _ _ hk _
theorem ix_hcode {n : Nat} {l : List Chg} {k : Nat} (hk : k < l.length) : ix ((List.range l.length).map (ch1 n l)) k = ch1 n l k := by simp [ix, List.getD, hk]
/-- A comparison that is in order. -/
structure CmpOk (n : Nat) (c : Cmp) : Prop where
  k : 1 ≤ c.k ∧ c.k ≤ 2
  len : c.f.length = n
  f : ∀ i, i < c.f.length → -1000 ≤ ix c.f i ∧ ix c.f i ≤ 1000
  b : -1000000 ≤ c.b ∧ c.b ≤ 1000000
structure ChgOk (n : Nat) (c : Chg) : Prop where
  v : 0 ≤ c.v ∧ c.v ≤ (n : Int) - 1
  len : c.f.length = n
  f : ∀ i, i < c.f.length → -1000 ≤ ix c.f i ∧ ix c.f i ≤ 1000
  c : -1000 ≤ c.c ∧ c.c ≤ 1000
structure NOpOk (n : Nat) (o : NOp) : Prop where
  pre : o.pre.length ≤ 8 ∧ ∀ k, k < o.pre.length → CmpOk n (cmp o.pre k)
  ch : ∀ k, k < o.ch.length → ChgOk n (chg o.ch k)
structure NVal (x : NT) : Prop where
  n1 : 1 ≤ x.init.length
  n8 : x.init.length ≤ 8
  init : ∀ k, k < x.init.length → -1000000 ≤ ix x.init k ∧ ix x.init k ≤ 1000000
  goal : x.goal.length ≤ 8 ∧ ∀ k, k < x.goal.length → CmpOk x.init.length (cmp x.goal k)
  m : x.ops.length ≤ 40
  ops : ∀ k, k < x.ops.length → NOpOk x.init.length (nop x.ops k)
theorem inB_iff {x a b : Int} : inB x a b = true ↔ a ≤ x ∧ x ≤ b := by simp [inB]
theorem cc1_ok {n : Nat} {c : Cmp} (h : cc1 n c = 0) : CmpOk n c := by
  unfold cc1 at h
  split at h
  · rename_i h1
    split at h
    · rename_i h2
      rw [Bool.and_eq_true, okL_iff] at h2
      exact ⟨inB_iff.1 h1, h2.1.1, h2.1.2, inB_iff.1 h2.2⟩
    · cases h
  · cases h
theorem ccode_ok {n : Nat} {l : List Cmp} (h : ccode n l = 0) : l.length ≤ 8 ∧ ∀ k, k < l.length → CmpOk n (cmp l k) := by
  unfold ccode at h
  split at h
  · cases h
  · refine ⟨by omega, fun k hk => cc1_ok ?_⟩
    rw [← ix_ccode hk]
    exact fz_zero h k (by simpa using hk)
theorem ch1_ok {n : Nat} {l : List Chg} {k : Nat} (h : ch1 n l k = 0) : ChgOk n (chg l k) := by
  unfold ch1 at h
  split at h
  · rename_i h2
    rw [Bool.and_eq_true, Bool.and_eq_true, okL_iff] at h2
    exact ⟨inB_iff.1 h2.1.1, h2.1.2.1, h2.1.2.2, inB_iff.1 h2.2⟩
  · cases h
theorem ocode_ok {n : Nat} {o : NOp} (h : ocode n o = 0) : NOpOk n o := by
  unfold ocode at h
  split at h
  · rename_i h1; exact absurd h h1
  · rename_i h1
    split at h
    · rename_i h2; exact absurd h h2
    · rename_i h2
      refine ⟨ccode_ok (by simpa using h1), fun k hk => ch1_ok ?_⟩
      rw [← ix_hcode hk]
      have h5 : hcode n o.ch = 0 := by simpa using h2
      exact fz_zero h5 k (by simpa using hk)
theorem nf_val {x : NT} (h : (nfF x).1 = 0) : NVal x ∧ nfF x = (0, 0) := by
  have h0 := h
  unfold nfF at h
  split at h
  · cases h
  rename_i h1
  split at h
  · cases h
  rename_i h2
  split at h
  · rename_i h3; exact absurd h h3
  rename_i h3
  split at h
  · cases h
  rename_i h4
  have h1 : 1 ≤ x.init.length ∧ x.init.length ≤ 8 := by omega
  have h2 : okL 1000000 x.init.length x.init = true := by simpa using h2
  refine ⟨⟨h1.1, h1.2, (okL_iff.1 h2).2, ccode_ok (by simpa using h3), by omega, fun k hk => ocode_ok ?_⟩, ?_⟩
  · rw [← ix_ocode hk]
    exact ofz_zero h k (by simpa using hk)
  · unfold nfF
    rw [if_neg (by omega), if_neg (by simp [h2]), if_neg h3, if_neg h4]
    exact ofz_ok h

/-- The three cells of a comparison. -/
structure CmpC (w : World) (b p : Nat) (c : Cmp) (a : Option Addr) (ca : Nat) : Prop where
  c0 : w.cell? ⟨b, p, none⟩ = some (.slice a c.f.length ca)
  c1 : w.cell? ⟨b, p + 1, none⟩ = some (.int .i64 c.k)
  c2 : w.cell? ⟨b, p + 2, none⟩ = some (.int .i64 c.b)
structure ChgC (w : World) (b p : Nat) (c : Chg) (a : Option Addr) (ca : Nat) : Prop where
  c0 : w.cell? ⟨b, p, none⟩ = some (.int .i64 c.v)
  c1 : w.cell? ⟨b, p + 1, none⟩ = some (.slice a c.f.length ca)
  c2 : w.cell? ⟨b, p + 2, none⟩ = some (.int .i64 c.c)
structure NOpC (w : World) (b p : Nat) (o : NOp) (a1 a2 : Option Addr) (c1 c2 : Nat) : Prop where
  c0 : w.cell? ⟨b, p, none⟩ = some (.slice a1 o.pre.length c1)
  c1 : w.cell? ⟨b, p + 1, none⟩ = some (.slice a2 o.ch.length c2)
  c2 : w.cell? ⟨b, p + 2, none⟩ = some (.int .i64 o.cost)
section
variable {w w' : World} {B B' b p : Nat} {a a1 a2 : Option Addr} {ca c1 c2 : Nat}
theorem CmpC.to {c : Cmp} (h : CmpC w b p c a ca) (hb : Below B w w') (hB : b < B) : CmpC w' b p c a ca :=
  ⟨(hb.cell (p := ⟨b, p, none⟩) hB).trans h.c0, (hb.cell (p := ⟨b, p + 1, none⟩) hB).trans h.c1, (hb.cell (p := ⟨b, p + 2, none⟩) hB).trans h.c2⟩
theorem ChgC.to {c : Chg} (h : ChgC w b p c a ca) (hb : Below B w w') (hB : b < B) : ChgC w' b p c a ca :=
  ⟨(hb.cell (p := ⟨b, p, none⟩) hB).trans h.c0, (hb.cell (p := ⟨b, p + 1, none⟩) hB).trans h.c1, (hb.cell (p := ⟨b, p + 2, none⟩) hB).trans h.c2⟩
theorem NOpC.to {o : NOp} (h : NOpC w b p o a1 a2 c1 c2) (hb : Below B w w') (hB : b < B) : NOpC w' b p o a1 a2 c1 c2 :=
  ⟨(hb.cell (p := ⟨b, p, none⟩) hB).trans h.c0, (hb.cell (p := ⟨b, p + 1, none⟩) hB).trans h.c1, (hb.cell (p := ⟨b, p + 2, none⟩) hB).trans h.c2⟩
end
/-- Comparisons in a slice. -/
structure CmpL (w : World) (B : Nat) (A : Option Addr) (C : Nat) (l : List Cmp) : Prop where
  cells : 0 < l.length → ∃ b p, A = some ⟨b, p, none⟩ ∧ b < B ∧ ∀ k, k < l.length → ∃ a ca, CmpC w b (p + k * 3) (cmp l k) a ca ∧ Lst w B a ca (cmp l k).f
  le : l.length ≤ C
  max : C ≤ maxLen
structure ChgL (w : World) (B : Nat) (A : Option Addr) (C : Nat) (l : List Chg) : Prop where
  cells : 0 < l.length → ∃ b p, A = some ⟨b, p, none⟩ ∧ b < B ∧ ∀ k, k < l.length → ∃ a ca, ChgC w b (p + k * 3) (chg l k) a ca ∧ Lst w B a ca (chg l k).f
  le : l.length ≤ C
  max : C ≤ maxLen
structure NOpL (w : World) (B : Nat) (A : Option Addr) (C : Nat) (l : List NOp) : Prop where
  cells : 0 < l.length → ∃ b p, A = some ⟨b, p, none⟩ ∧ b < B ∧ ∀ k, k < l.length → ∃ a1 a2 c1 c2, NOpC w b (p + k * 3) (nop l k) a1 a2 c1 c2 ∧ CmpL w B a1 c1 (nop l k).pre ∧ ChgL w B a2 c2 (nop l k).ch
  le : l.length ≤ C
  max : C ≤ maxLen
section
variable {w w' : World} {B B' : Nat} {A : Option Addr} {C : Nat}
theorem CmpL.to {l : List Cmp} (h : CmpL w B A C l) (hb : Below B w w') (hB : B ≤ B') : CmpL w' B' A C l := by
  refine ⟨fun h0 => ?_, h.le, h.max⟩
  obtain ⟨b, p, e, hlt, hc⟩ := h.cells h0
  exact ⟨b, p, e, by omega, fun k hk => by obtain ⟨a, ca, q1, q2⟩ := hc k hk; exact ⟨a, ca, q1.to hb hlt, q2.to hb hB⟩⟩
theorem ChgL.to {l : List Chg} (h : ChgL w B A C l) (hb : Below B w w') (hB : B ≤ B') : ChgL w' B' A C l := by
  refine ⟨fun h0 => ?_, h.le, h.max⟩
  obtain ⟨b, p, e, hlt, hc⟩ := h.cells h0
  exact ⟨b, p, e, by omega, fun k hk => by obtain ⟨a, ca, q1, q2⟩ := hc k hk; exact ⟨a, ca, q1.to hb hlt, q2.to hb hB⟩⟩
theorem NOpL.to {l : List NOp} (h : NOpL w B A C l) (hb : Below B w w') (hB : B ≤ B') : NOpL w' B' A C l := by
  refine ⟨fun h0 => ?_, h.le, h.max⟩
  obtain ⟨b, p, e, hlt, hc⟩ := h.cells h0
  exact ⟨b, p, e, by omega, fun k hk => by obtain ⟨a1, a2, c1, c2, q1, q2, q3⟩ := hc k hk; exact ⟨a1, a2, c1, c2, q1.to hb hlt, q2.to hb hB, q3.to hb hB⟩⟩
theorem CmpL.at_ {l : List Cmp} (h : CmpL w B A C l) {k : Nat} (hk : k < l.length) : ∃ b p a ca, A = some ⟨b, p, none⟩ ∧ b < B ∧ CmpC w b (p + k * 3) (cmp l k) a ca ∧ Lst w B a ca (cmp l k).f := by
  obtain ⟨b, p, e, hlt, hc⟩ := h.cells (by omega)
  obtain ⟨a, ca, q1, q2⟩ := hc k hk
  exact ⟨b, p, a, ca, e, hlt, q1, q2⟩
theorem ChgL.at_ {l : List Chg} (h : ChgL w B A C l) {k : Nat} (hk : k < l.length) : ∃ b p a ca, A = some ⟨b, p, none⟩ ∧ b < B ∧ ChgC w b (p + k * 3) (chg l k) a ca ∧ Lst w B a ca (chg l k).f := by
  obtain ⟨b, p, e, hlt, hc⟩ := h.cells (by omega)
  obtain ⟨a, ca, q1, q2⟩ := hc k hk
  exact ⟨b, p, a, ca, e, hlt, q1, q2⟩
theorem NOpL.at_ {l : List NOp} (h : NOpL w B A C l) {k : Nat} (hk : k < l.length) : ∃ b p a1 a2 c1 c2, A = some ⟨b, p, none⟩ ∧ b < B ∧ NOpC w b (p + k * 3) (nop l k) a1 a2 c1 c2 ∧ CmpL w B a1 c1 (nop l k).pre ∧ ChgL w B a2 c2 (nop l k).ch := by
  obtain ⟨b, p, e, hlt, hc⟩ := h.cells (by omega)
  obtain ⟨a1, a2, c1, c2, q1, q2, q3⟩ := hc k hk
  exact ⟨b, p, a1, a2, c1, c2, e, hlt, q1, q2, q3⟩
end
/-- A numeric task in memory. -/
structure NTIn (w : World) (B : Nat) (x : NT) : Prop where
  init : Lst w B x.ai x.ci x.init
  goal : CmpL w B x.ag x.cg x.goal
  ops : NOpL w B x.ao x.co x.ops
theorem NTIn.to {w w' : World} {B B' : Nat} {x : NT} (h : NTIn w B x) (hb : Below B w w') (hB : B ≤ B') : NTIn w' B' x := ⟨h.init.to hb hB, h.goal.to hb hB, h.ops.to hb hB⟩
structure NBox (w : World) (g : Nat) (x : NT) : Prop where
  lt : g < w.heap.size
  c0 : w.cell? ⟨g, 0, none⟩ = some (.slice x.ai x.init.length x.ci)
  c1 : w.cell? ⟨g, 1, none⟩ = some (.slice x.ag x.goal.length x.cg)
  c2 : w.cell? ⟨g, 2, none⟩ = some (.slice x.ao x.ops.length x.co)
theorem NBox.to {w w' : World} {B g : Nat} {x : NT} (h : NBox w g x) (hb : Below B w w') (hB : g < B) : NBox w' g x :=
  ⟨Nat.lt_of_lt_of_le h.lt hb.size, (hb.cell (p := ⟨g, 0, none⟩) hB).trans h.c0, (hb.cell (p := ⟨g, 1, none⟩) hB).trans h.c1, (hb.cell (p := ⟨g, 2, none⟩) hB).trans h.c2⟩
theorem nbox_new (w : World) (x : NT) (t : TypeId) : NBox (w.alloc (.cells #[.slice x.ai x.init.length x.ci, .slice x.ag x.goal.length x.cg, .slice x.ao x.ops.length x.co] t)) w.heap.size x := ⟨by simp, by simp, by simp, by simp⟩
end Go.Proofs.Ytiafplmaigpmeaa

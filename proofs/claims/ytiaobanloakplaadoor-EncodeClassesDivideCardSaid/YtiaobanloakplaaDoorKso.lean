/- Solves of package strips. -/
import Derived.Test.YtiaobanloakplaaDoorKE
namespace Go.Proofs.YtiaobanloakplaaDoor
open Go.RowKit Go.Shelf
set_option linter.unusedSimpArgs false
set_option linter.unusedVariables false
set_option maxRecDepth 100000

attribute [local go_sem] Oper.semAt_some

def svB (x : Tsk) (plan : List Int) : Bool := decide ((plF x plan).1 = 0) && solB x x.n.toNat x.init plan

theorem one_box {W : World} {B : Nat} {v : Value} {t : TypeId} (h : W.heap[B]? = some (.cells #[v] t (0, 0))) : W.cell? ⟨B, 0, none⟩ = some v ∧ W.frozen? ⟨B, 0, none⟩ = false := by
  constructor <;> simp [World.cell?, World.frozen?, h]
theorem cell_new (W : World) (v : Value) (t : TypeId) : (W.alloc (.cells #[v] t)).cell? ⟨W.heap.size, 0, none⟩ = some v ∧ (W.alloc (.cells #[v] t)).frozen? ⟨W.heap.size, 0, none⟩ = false :=
  one_box (World.alloc_heap_new W _)
theorem cell_past {W : World} {a : Addr} {v : Value} (o : Obj) (h : W.cell? a = some v) : (W.alloc o).cell? a = some v := cell_kept h (World.grownBy_alloc W o none) (fun r e => by cases e)
theorem One.kept {W W' : World} {g : Nat} {x : Value} {row : Option Nat} (h : One W g x) (hg : W.grownBy W' row) (hr : ∀ r, row = some r → ∃ o : Obj, W.heap[r]? = some o ∧ o.isCells = false) : One W' g x :=
  ⟨Nat.lt_of_lt_of_le h.lt hg.size, cell_kept h.fst hg hr, (frozen_kept h.fst hg hr).trans h.ffst⟩
theorem Two.kept {W W' : World} {g : Nat} {x y : Value} {row : Option Nat} (h : Two W g x y) (hg : W.grownBy W' row) (hr : ∀ r, row = some r → ∃ o : Obj, W.heap[r]? = some o ∧ o.isCells = false) : Two W' g x y :=
  ⟨Nat.lt_of_lt_of_le h.lt hg.size, cell_kept h.fst hg hr, cell_kept h.snd hg hr, (frozen_kept h.fst hg hr).trans h.ffst, (frozen_kept h.snd hg hr).trans h.fsnd⟩
theorem TBox.kept {W W' : World} {g : Nat} {x : Tsk} {row : Option Nat} (h : TBox W g x) (hg : W.grownBy W' row) (hr : ∀ r, row = some r → ∃ o : Obj, W.heap[r]? = some o ∧ o.isCells = false) : TBox W' g x :=
  ⟨Nat.lt_of_lt_of_le h.lt hg.size, cell_kept h.c0 hg hr, cell_kept h.c1 hg hr, cell_kept h.c2 hg hr, cell_kept h.c3 hg hr⟩
theorem keeps_of_below {W W' : World} (h : Below W.heap.size W W') : KeepsOthers W W' :=
  ⟨h.size, fun k _ hk _ => (h.block k (Array.getElem?_eq_some_iff.1 hk).1).trans hk⟩

/-- What the call of Solves has laid: the task, the plan, its two results. -/
structure SBox (W : World) (g : Nat) (x : Tsk) (P : Value) (z : Bool) (u v : Int) : Prop where
  t : TBox W g x
  p : One W (g + 1) P
  z : One W (g + 1 + 1) (.bool z)
  f : Two W (g + 1 + 1 + 1) (.int .i64 u) (.int .i64 v)
theorem SBox.kept {W W' : World} {g : Nat} {x : Tsk} {P : Value} {z : Bool} {u v : Int} {row : Option Nat} (h : SBox W g x P z u v) (hg : W.grownBy W' row) (hr : ∀ r, row = some r → ∃ o : Obj, W.heap[r]? = some o ∧ o.isCells = false) : SBox W' g x P z u v :=
  ⟨h.t.kept hg hr, h.p.kept hg hr, h.z.kept hg hr, h.f.kept hg hr⟩
theorem SBox.to {W W' : World} {g : Nat} {x : Tsk} {P : Value} {z : Bool} {u v : Int} (h : SBox W g x P z u v) (hb : Below W.heap.size W W') : SBox W' g x P z u v :=
  ⟨h.t.to hb h.t.lt, one_to h.p hb, one_to h.z hb, two_to h.f hb⟩
theorem SBox.ret {W : World} {g : Nat} {x : Tsk} {P : Value} {z : Bool} {u v : Int} (h : SBox W g x P z u v) (q : Bool) :
    SBox (((W.setCell ⟨g + 1 + 1, 0, none⟩ (.bool q)).setCell ⟨g + 1 + 1 + 1, 0, none⟩ (.int .i64 0)).setCell ⟨g + 1 + 1 + 1, 1, none⟩ (.int .i64 0)) g x P q 0 0 := by
  refine ⟨?_, ?_, ?_, ?_⟩
  · exact ((h.t.far (by simp; omega) _).far (by simp; omega) _).far (by simp; omega) _
  · exact ((h.p.far (by simp) _).far (by simp; omega) _).far (by simp; omega) _
  · exact ((h.z.set _).far (by simp) _).far (by simp) _
  · exact (h.f.far (by simp) _).set _ _
theorem sbox_new (w : World) (x : Tsk) (P : Value) (t1 t2 t3 t4 : TypeId) :
    SBox ((((w.alloc (.cells #[.int .i64 x.n, .slice x.ai x.init.length x.ci, .slice x.ag x.goal.length x.cg, .slice x.ao x.ops.length x.co] t1)).alloc (.cells #[P] t2)).alloc (.cells #[.bool false] t3)).alloc (.cells #[.int .i64 0, .int .i64 0] t4)) w.heap.size x P false 0 0 := by
  refine ⟨((tbox_new w x t1).alloc _).alloc _ |>.alloc _, ?_, ?_, ?_⟩
  · have := ((one_new (w.alloc (.cells #[.int .i64 x.n, .slice x.ai x.init.length x.ci, .slice x.ag x.goal.length x.cg, .slice x.ao x.ops.length x.co] t1)) P t2).alloc (.cells #[.bool false] t3)).alloc (.cells #[.int .i64 0, .int .i64 0] t4)
    simpa using this
  · have := (one_new ((w.alloc (.cells #[.int .i64 x.n, .slice x.ai x.init.length x.ci, .slice x.ag x.goal.length x.cg, .slice x.ao x.ops.length x.co] t1)).alloc (.cells #[P] t2)) (.bool false) t3).alloc (.cells #[.int .i64 0, .int .i64 0] t4)
    simpa using this
  · have := two_new (((w.alloc (.cells #[.int .i64 x.n, .slice x.ai x.init.length x.ci, .slice x.ag x.goal.length x.cg, .slice x.ao x.ops.length x.co] t1)).alloc (.cells #[P] t2)).alloc (.cells #[.bool false] t3)) (.int .i64 0) (.int .i64 0) t4
    simpa using this

theorem solB_hit {x : Tsk} {n : Nat} {s plan t : List Int} (h : runTo x n s plan plan.length = some t) : solB x n s plan = subB x.goal t := by simp [solB, h]
theorem solB_miss {x : Tsk} {n : Nat} {s plan : List Int} {ys : List StA} (h : ys.map Subtype.val = seqL x n s plan) (hn : ∀ y ∈ ys, y.1.1 ≠ plan.length) : solB x n s plan = false := by
  cases hr : runTo x n s plan plan.length with
  | none => simp [solB, hr]
  | some t =>
    have hm : (plan.length, t) ∈ ys.map Subtype.val := by rw [h]; exact seqN_has hr _ _ (by omega) (by omega)
    rw [List.mem_map] at hm
    obtain ⟨y, hy, e⟩ := hm
    exact absurd (by rw [e]) (hn y hy)
theorem pre_run {x : Tsk} {n : Nat} {s plan : List Int} {q : List StA} {y : StA} (h : (q ++ [y]).map Subtype.val <+: seqL x n s plan) : runTo x n s plan y.1.1 = some y.1.2 :=
  (seqN_mem _ _ _ (h.subset (by simp))).1

set_option maxRecDepth 100000 in
set_option maxHeartbeats 4000000 in
theorem solves_in (n : Nat) (hn3 : 8 ≤ n) (x : Tsk) (a3 : Option Addr) (c3 : Nat) (plan : List Int) (w : World) (hX : TskIn w w.heap.size x) (hP : Lst w w.heap.size a3 c3 plan) (h0 : (plF x plan).1 = 0) :
    CallsIn Fence.wide n Tryd.prog 25 #[.agg #[.int .i64 x.n, .slice x.ai x.init.length x.ci, .slice x.ag x.goal.length x.cg, .slice x.ao x.ops.length x.co], .slice a3 plan.length c3] w fun e w' => e = .returned (.tuple #[.bool (svB x plan), faultV (plF x plan)]) ∧ Below w.heap.size w w' := by
  have h1 : 1 ≤ n := by omega
  have hB1 : Below w.heap.size w ((((w.alloc (.cells #[.int .i64 x.n, .slice x.ai x.init.length x.ci, .slice x.ag x.goal.length x.cg, .slice x.ao x.ops.length x.co] 25)).alloc (.cells #[.slice a3 plan.length c3] 22)).alloc (.cells #[.bool false] 4)).alloc (.cells #[.int .i64 0, .int .i64 0] 28)) := by go_grown
  have HC := check_p x a3 c3 plan _ (hX.to hB1 hB1.size) (hP.to hB1 hB1.size)
  have HX := Lib.hid (fun (W : World) (h : Below w.heap.size w W) => hX.to h (Nat.le_refl _))
  have HP := Lib.hid (fun (W : World) (h : Below w.heap.size w W) => hP.to h (Nat.le_refl _))
  clear hX hP
  obtain ⟨hv, h60, hpl⟩ := plF_val h0
  have HB1 := Lib.hid hB1
  clear hB1
  have HJ := Lib.hid (sbox_new w x (.slice a3 plan.length c3) 25 22 4 28)
  have H1 := Lib.hid (plF_zero h0).1
  have HS := Lib.hid (show svB x plan = solB x x.n.toNat x.init plan by simp [svB, h0])
  rw [(plF_zero h0).1] at HC
  have HV := Lib.hid hv
  have HPL := Lib.hid hpl
  clear h0 hv hpl
  refine callsIn_of_wp_marks Tryd.func25 rfl trivial ?_ rfl
  simp only [Tryd.ntmps25, List.size_toArray, List.length_cons, List.length_nil, Nat.reduceAdd, Nat.reduceSub, Array.replicate_succ, Array.replicate_zero, List.push_toArray, List.append_toArray, List.nil_append, List.cons_append]
  gi_wp2_with (first
    | (refine ⟨trivial, ?_⟩; gi_at_call 64; refine (states_in Fence.wide (n - 1) trivial rfl x _ _ _ _ _ _ _).mono ?_; rintro e w2 ⟨rfl, rfl⟩)
    | (refine ⟨trivial, ?_⟩; gi_at_call 63; refine (callsIn_wide.2 HC).mono ?_; rintro e w' ⟨rfl, hbw⟩; have hJ2 := HJ.out.to hbw; obtain ⟨⟨_, t0, t1, t2, t3⟩, ⟨_, p0, _⟩, _, _⟩ := hJ2))
  have hJW := HJ.out.to hbw
  have hle := hbw.size
  simp only [World.size_alloc] at hle
  have hBw : Below w.heap.size w w' := HB1.out.trans (hbw.mono (by simp; omega))
  have hBL : Below w'.heap.size w' ((((w'.alloc (.cells #[.int .i64 0, .int .i64 0] 28)).alloc (.cells #[.int .i64 x.n, .slice x.ai x.init.length x.ci, .slice x.ag x.goal.length x.cg, .slice x.ao x.ops.length x.co] 25)).alloc (.cells #[.slice x.ai x.init.length x.ci] 22)).alloc (.cells #[.slice a3 plan.length c3] 22)) := by go_grown
  have hBwL : Below w.heap.size w ((((w'.alloc (.cells #[.int .i64 0, .int .i64 0] 28)).alloc (.cells #[.int .i64 x.n, .slice x.ai x.init.length x.ci, .slice x.ag x.goal.length x.cg, .slice x.ao x.ops.length x.co] 25)).alloc (.cells #[.slice x.ai x.init.length x.ci] 22)).alloc (.cells #[.slice a3 plan.length c3] 22)) := hBw.trans (hBL.mono (by omega))
  have c2 := (cell_new ((w'.alloc (.cells #[.int .i64 0, .int .i64 0] 28)).alloc (.cells #[.int .i64 x.n, .slice x.ai x.init.length x.ci, .slice x.ag x.goal.length x.cg, .slice x.ao x.ops.length x.co] 25)) (.slice x.ai x.init.length x.ci) 22).1
  have c3' := (cell_new (((w'.alloc (.cells #[.int .i64 0, .int .i64 0] 28)).alloc (.cells #[.int .i64 x.n, .slice x.ai x.init.length x.ci, .slice x.ag x.goal.length x.cg, .slice x.ao x.ops.length x.co] 25)).alloc (.cells #[.slice x.ai x.init.length x.ci] 22)) (.slice a3 plan.length c3) 22).1
  have c1 := ((tbox_new (w'.alloc (.cells #[.int .i64 0, .int .i64 0] 28)) x 25).alloc (.cells #[.slice x.ai x.init.length x.ci] 22)).alloc (.cells #[.slice a3 plan.length c3] 22)
  simp only [World.size_alloc] at c1 c2 c3'
  have hI : SqIn ((((w'.alloc (.cells #[.int .i64 0, .int .i64 0] 28)).alloc (.cells #[.int .i64 x.n, .slice x.ai x.init.length x.ci, .slice x.ag x.goal.length x.cg, .slice x.ao x.ops.length x.co] 25)).alloc (.cells #[.slice x.ai x.init.length x.ci] 22)).alloc (.cells #[.slice a3 plan.length c3] 22)) w.heap.size w.heap.size (w'.heap.size + 1 + 1 + 1 + 1) (w'.heap.size + 1 + 1 + 1) (w'.heap.size + 1) x a3 c3 plan :=
    ⟨by simp, by omega, Nat.le_refl _, by omega, by omega, by omega, by omega, c3', c1, HX.out _ hBwL, HP.out _ hBwL⟩
  have hSI : Lst ((((w'.alloc (.cells #[.int .i64 0, .int .i64 0] 28)).alloc (.cells #[.int .i64 x.n, .slice x.ai x.init.length x.ci, .slice x.ag x.goal.length x.cg, .slice x.ao x.ops.length x.co] 25)).alloc (.cells #[.slice x.ai x.init.length x.ci] 22)).alloc (.cells #[.slice a3 plan.length c3] 22)) (((((w'.alloc (.cells #[.int .i64 0, .int .i64 0] 28)).alloc (.cells #[.int .i64 x.n, .slice x.ai x.init.length x.ci, .slice x.ag x.goal.length x.cg, .slice x.ao x.ops.length x.co] 25)).alloc (.cells #[.slice x.ai x.init.length x.ci] 22)).alloc (.cells #[.slice a3 plan.length c3] 22))).heap.size x.ai x.ci x.init := (HX.out _ hBwL).init.to (Below.refl _ _) (by simp; omega)
  refine wpIn_rangeFunc_ownF rfl h1 (gf := 83) (lb := #[.pointer (some ⟨w'.heap.size + 1 + 1, 0, none⟩), .pointer (some ⟨w'.heap.size + 1 + 1 + 1, 0, none⟩), .pointer (some ⟨w'.heap.size + 1, 0, none⟩)]) rfl trivial (enters_of Tryd.func83 (by kernel_rfl) rfl)
    (states_stops (n - 1) (by omega) (w'.heap.size + 1 + 1) (w'.heap.size + 1 + 1 + 1) (w'.heap.size + 1) w.heap.size w.heap.size (w'.heap.size + 1 + 1 + 1 + 1) x x.n.toNat HV.out x.ai a3 x.ci c3 x.init plan HV.out.init h60 HPL.out ((((w'.alloc (.cells #[.int .i64 0, .int .i64 0] 28)).alloc (.cells #[.int .i64 x.n, .slice x.ai x.init.length x.ci, .slice x.ag x.goal.length x.cg, .slice x.ao x.ops.length x.co] 25)).alloc (.cells #[.slice x.ai x.init.length x.ci] 22)).alloc (.cells #[.slice a3 plan.length c3] 22)) (by simp) (cell_past _ c2) hSI hI) Kept.trans (kept_b (by simp)) (Below.refl _ _) (fun _ => rfl)
    (fun pre W => ((∀ y ∈ pre, y.1.1 ≠ plan.length) ∧ SBox W w.heap.size x (.slice a3 plan.length c3) false 0 0 ∧ w'.heap.size + 1 + 1 + 1 + 1 ≤ W.heap.size) ∧ Below w.heap.size w W)
    (fun c' pre W => (c' = .ret ∧ (∃ q y, pre = q ++ [y] ∧ y.1.1 = plan.length ∧ SBox W w.heap.size x (.slice a3 plan.length c3) (subB x.goal y.1.2) 0 0)) ∧ Below w.heap.size w W)
    (OwnFrom.and (Own.from (fun s A B row hs hg hr => ⟨hs.1, hs.2.1.kept hg hr, Nat.le_trans hs.2.2 hg.size⟩) _) (ownFrom_below (Nat.le_refl _) (by simp; omega)))
    (fun c => OwnFrom.and (Own.from (fun s A B row hs hg hr => ⟨hs.1, by obtain ⟨_, q, y, e1, e2, e4⟩ := hs; exact ⟨q, y, e1, e2, e4.kept hg hr⟩⟩) _) (ownFrom_below (Nat.le_refl _) (by simp; omega)))
    ⟨⟨by simp, hJW.to hBL, by simp⟩, hBwL⟩
    (fun y => { tmps := #[.agg #[.int .i64 x.n, .slice x.ai x.init.length x.ci, .slice x.ag x.goal.length x.cg, .slice x.ao x.ops.length x.co], .slice a3 plan.length c3, .pointer (some ⟨w.heap.size, 0, none⟩), .pointer (some ⟨w.heap.size + 1, 0, none⟩), .pointer (some ⟨w.heap.size + 1 + 1, 0, none⟩), .pointer (some ⟨w.heap.size + 1 + 1 + 1, 0, none⟩), .pointer (some ⟨w'.heap.size, 0, none⟩), .int .i64 (y.1.1 : Nat), .int .u64 (mask y.1.2), .agg #[.int .i64 x.n, .slice x.ai x.init.length x.ci, .slice x.ag x.goal.length x.cg, .slice x.ao x.ops.length x.co], .slice a3 plan.length c3, faultV (0, 0), .agg #[.int .i64 0, .int .i64 0], .agg #[.int .i64 0, .int .i64 0], .bool false, undef, .agg #[.int .i64 x.n, .slice x.ai x.init.length x.ci, .slice x.ag x.goal.length x.cg, .slice x.ao x.ops.length x.co], .pointer (some ⟨w.heap.size, 1, none⟩), .slice x.ai x.init.length x.ci, .slice a3 plan.length c3,
      .func (.func 83) #[] #[.pointer (some ⟨w'.heap.size + 1 + 1, 0, none⟩), .pointer (some ⟨w'.heap.size + 1 + 1 + 1, 0, none⟩), .pointer (some ⟨w'.heap.size + 1, 0, none⟩)], .int .i64 (y.1.1 : Nat), .int .u64 (mask y.1.2), undef, undef, undef, undef, undef, undef, undef, undef, undef, undef, undef], defers := [] }) ?assign ?body ?done ?stop
  case assign =>
    intro l y W K hK
    gi_wp2
    exact hK
  case body =>
    rintro l pre y W ⟨⟨hp, hSB, hsz⟩, hB⟩ _
    have hd : 1 ≤ n - 1 - 1 := by omega
    have HP1 := Lib.hid hp
    clear hp
    have HSB := Lib.hid hSB
    clear hSB
    obtain ⟨⟨_, t0, t1, t2, t3⟩, ⟨_, p0, _⟩, ⟨_, z0, zf⟩, ⟨_, y0, y1, yf0, yf1⟩⟩ := HSB.out
    by_cases hy : y.1.1 = plan.length
    · have HY := Lib.hid hy
      have hyb : (((y.1.1 : Nat) : Int) == plan.length) = true := by rw [hy]; simp
      have hyb2 : (((plan.length : Nat) : Int) == plan.length) = true := by simp
      clear hy
      have HG := Lib.hid (setOf_any x.ag x.cg x.goal W (HV.out.goal.mono (by have := HV.out.le; omega)) ((HX.out W hB).goal.to (Below.refl _ W) hB.size).nums)
      have HCN := Lib.hid (contains_any y.1.2 x.goal W y.2 (HV.out.goal.mono (by have := HV.out.le; omega)))
      gi_wp2_with (first
        | (refine ⟨trivial, ?_⟩; gi_at_call 40; refine (CallsIn.inRound l (callsIn_wide.2 HG.out)).mono ?_; rintro e w5 ⟨rfl, rfl⟩)
        | (refine ⟨trivial, ?_⟩; gi_at_call 65; refine (CallsIn.inRound l (callsIn_wide.2 HCN.out)).mono ?_; rintro e w5 ⟨rfl, rfl⟩))
      exact ⟨((KeepsOthers.setCell _ _ _).trans (KeepsOthers.setCell _ _ _)).trans (KeepsOthers.setCell _ _ _), ⟨rfl, pre, y, rfl, HY.out, HSB.out.ret _⟩, (((hB.setCell (by simp; omega) _).setCell (by simp; omega) _).setCell (by simp; omega) _)⟩
    · have HY := Lib.hid hy
      have hyb : (((y.1.1 : Nat) : Int) == plan.length) = false := by simp; omega
      clear hy
      gi_wp2
      exact ⟨KeepsOthers.refl _, Kept.of (Below.refl _ _), ⟨fun z hz => (List.mem_append.1 hz).elim (HP1.out z) (fun e => by simp at e; rw [e]; exact HY.out), HSB.out, hsz⟩, hB⟩
  case done =>
    rintro D ys W hD hys ⟨⟨hne, hSB, hsz⟩, hB⟩ hK
    have HM := Lib.hid (solB_miss hys hne)
    clear hys hne
    have HSB := Lib.hid hSB
    clear hSB
    obtain ⟨⟨_, t0, t1, t2, t3⟩, ⟨_, p0, _⟩, ⟨_, z0, zf⟩, ⟨_, y0, y1, yf0, yf1⟩⟩ := HSB.out
    gi_wp2
    have hK' := (((KeepsOthers.setCell W ⟨w.heap.size + 1 + 1, 0, none⟩ (.bool false)).trans (KeepsOthers.setCell _ ⟨w.heap.size + 1 + 1 + 1, 0, none⟩ (.int .i64 0))).trans (KeepsOthers.setCell _ ⟨w.heap.size + 1 + 1 + 1, 1, none⟩ (.int .i64 0))).same D _ hK rfl
    have hJF := (HSB.out.ret false).kept (grownBy_putObj' _ D (.deferred none)) (fun r e => by cases e; exact ⟨_, hK', rfl⟩)
    refine ⟨by simp, .inl ⟨_, _, rfl, run_takeDeferred hK', ?_⟩⟩
    obtain ⟨_, z1, _⟩ := hJF.z
    obtain ⟨_, y2, y3, _, _⟩ := hJF.f
    refine ⟨.tuple #[.bool false, .agg #[.int .i64 0, .int .i64 0]], ?_, ret_val (by rw [HS.out, H1.out, HM.out]), (((hB.setCell (by simp; omega) _).setCell (by simp; omega) _).setCell (by simp; omega) _).trans (belowK_b (w := w) (Nat.le_refl _) _ D _ _ (by simp at hD; omega) hK' rfl rfl)⟩
    simp [results, Tryd.f25, go_sem, z1, y2, y3]
  case stop =>
    rintro D c' pre W hD hpre ⟨⟨rfl, q, y, rfl, hy, hSB⟩, hB⟩ hK
    have HM := Lib.hid (show solB x x.n.toNat x.init plan = subB x.goal y.1.2 from solB_hit (by rw [← hy]; exact pre_run hpre))
    clear hpre
    gi_wp2
    have hJF := hSB.kept (grownBy_putObj' _ D (.deferred none)) (fun r e => by cases e; exact ⟨_, hK, rfl⟩)
    refine ⟨by simp, .inl ⟨_, _, rfl, run_takeDeferred hK, ?_⟩⟩
    obtain ⟨_, z0, _⟩ := hJF.z
    obtain ⟨_, y0, y1, _, _⟩ := hJF.f
    refine ⟨.tuple #[.bool (subB x.goal y.1.2), .agg #[.int .i64 0, .int .i64 0]], ?_, ret_val (by rw [HS.out, H1.out, HM.out]), hB.trans (belowK_b (w := w) (Nat.le_refl _) W D _ _ (by simp at hD; omega) hK rfl rfl)⟩
    simp [results, Tryd.f25, go_sem, z0, y0, y1]

theorem post_bool_fault {fn : Func} {R : Ending → World → Prop} {tmps : Array Value} {W : World} {s t : Tmp} {g g2 : Nat} {x y z : Value} (hres : fn.results = #[.cell t 4, .cell s 28]) (hz : tmps.getD t undef = .pointer (some ⟨g2, 0, none⟩)) (ht : tmps.getD s undef = .pointer (some ⟨g, 0, none⟩)) (hO : One W g2 z) (hT : Two W g x y)
    (hR : R (.returned (.tuple #[z, .agg #[x, y]])) W) : bodyPost Tryd.prog fn R .ret { tmps := tmps, defers := [] } W := by
  refine bodyPost_ret (v := .tuple #[z, .agg #[x, y]]) ?_ rfl hR
  simp only [results, hres]
  rw [Array.getD_eq_getD_getElem?] at ht hz
  simp [go_sem, hz, ht, hT.fst, hT.snd, hO.fst]

set_option maxRecDepth 100000 in
set_option maxHeartbeats 2000000 in
theorem ssolves_any (x : Tsk) (a3 : Option Addr) (c3 : Nat) (plan : List Int) (w : World) (hX : TskIn w w.heap.size x) (hP : Lst w w.heap.size a3 c3 plan) :
    Calls Tryd.prog 25 #[.agg #[.int .i64 x.n, .slice x.ai x.init.length x.ci, .slice x.ag x.goal.length x.cg, .slice x.ao x.ops.length x.co], .slice a3 plan.length c3] w fun e w' => e = .returned (.tuple #[.bool (svB x plan), faultV (plF x plan)]) ∧ Below w.heap.size w w' := by
  by_cases h0 : (plF x plan).1 = 0
  · exact callsIn_wide.1 (solves_in 8 (by omega) x a3 c3 plan w hX hP h0)
  have hB1 : Below w.heap.size w ((((w.alloc (.cells #[.int .i64 x.n, .slice x.ai x.init.length x.ci, .slice x.ag x.goal.length x.cg, .slice x.ao x.ops.length x.co] 25)).alloc (.cells #[.slice a3 plan.length c3] 22)).alloc (.cells #[.bool false] 4)).alloc (.cells #[.int .i64 0, .int .i64 0] 28)) := by go_grown
  have HC := check_p x a3 c3 plan _ (hX.to hB1 hB1.size) (hP.to hB1 hB1.size)
  clear hX hP
  have HB1 := Lib.hid hB1
  clear hB1
  have HJ := Lib.hid (sbox_new w x (.slice a3 plan.length c3) 25 22 4 28)
  have HS := Lib.hid (show svB x plan = false by simp [svB, h0])
  have hne : ((plF x plan).1 != 0) = true := by simpa using h0
  have hne2 : ((plF x plan).1 == 0) = false := by simpa using h0
  clear h0
  go_enter Tryd.func25, Tryd.ntmps25
  go_wp2_with (go_at_call 63; refine HC.mono ?_; rintro e w' ⟨rfl, hbw⟩; have hJ2 := Lib.hid (HJ.out.to hbw); obtain ⟨⟨_, t0, t1, t2, t3⟩, ⟨_, p0, _⟩, ⟨_, z0, zf⟩, ⟨_, y0, y1, yf0, yf1⟩⟩ := hJ2.out)
  go_region
  all_goals
    go_wp2
    have tz := hJ2.out.z
    have tw := hJ2.out.f
    refine post_bool_fault (g2 := w.heap.size + 1 + 1) (z := .bool false) (g := w.heap.size + 1 + 1 + 1) (x := .int .i64 (plF x plan).1) (y := .int .i64 (plF x plan).2) Tryd.results25 rfl rfl ?_ ?_ ?_
    · exact one1 ((((tz.set _).far (by simp) _).far (by simp) _).alloc _)
    · exact two1 (((tw.far (by simp) _).set _ _).alloc _)
    · have hle := hbw.size
      simp only [World.size_alloc] at hle
      have hbase : Below w.heap.size w w' := HB1.out.trans (hbw.mono (by simp; omega))
      exact ⟨ret_val (by rw [HS.out]), by go_grown⟩
end Go.Proofs.YtiaobanloakplaaDoor

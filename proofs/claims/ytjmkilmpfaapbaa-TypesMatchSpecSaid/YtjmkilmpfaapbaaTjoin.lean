/- Join of package types. -/
import Derived.Test.YtjmkilmpfaapbaaTsub
namespace Go.Proofs.Ytjmkilmpfaapbaa
open Go.RowKit Go.Shelf
set_option linter.unusedSimpArgs false
set_option linter.unusedVariables false
set_option maxRecDepth 100000

attribute [local go_sem] Oper.semAt_some

/-- The first supertype of a that is one of b. -/
def joinM (ts : List Ent) (a b : Int) : Int := ((sup ts a).find? (fun s => memB (sup ts b) s)).getD (-1)
def joinR (ts : List Ent) (a b : Int) : Int := if (usedF ts [a, b]).1 = 0 then joinM ts a b else 0

theorem find_at {p : Int → Bool} {x : Int} : ∀ {pre l : List Int}, (pre ++ [x]) <+: l → (∀ y ∈ pre, p y = false) → p x = true → l.find? p = some x
  | [], l, h, _, hx => by
    obtain ⟨r, rfl⟩ := h
    simp [hx]
  | y :: pre, l, h, hp, hx => by
    obtain ⟨r, rfl⟩ := h
    have := find_at (p := p) (x := x) (pre := pre) (l := pre ++ [x] ++ r) ⟨r, rfl⟩ (fun z hz => hp z (by simp [hz])) hx
    simp only [List.cons_append, List.find?_cons, hp y (by simp)]
    exact this
theorem joinM_hit {ts : List Ent} {a b x : Int} {pre : List Int} (h : (pre ++ [x]) <+: sup ts a) (hp : ∀ y ∈ pre, memB (sup ts b) y = false) (hx : memB (sup ts b) x = true) : joinM ts a b = x := by
  unfold joinM
  rw [find_at h hp hx]; rfl
theorem joinM_miss {ts : List Ent} {a b : Int} (hp : ∀ y ∈ sup ts a, memB (sup ts b) y = false) : joinM ts a b = -1 := by
  unfold joinM
  rw [List.find?_eq_none.2 (fun y hy => by simp [hp y hy])]; rfl

theorem One.kept {W W' : World} {g : Nat} {x : Value} {row : Option Nat} (h : One W g x) (hg : W.grownBy W' row) (hr : ∀ r, row = some r → ∃ o : Obj, W.heap[r]? = some o ∧ o.isCells = false) : One W' g x :=
  ⟨Nat.lt_of_lt_of_le h.lt hg.size, cell_kept h.fst hg hr, (frozen_kept h.fst hg hr).trans h.ffst⟩
theorem Two.kept {W W' : World} {g : Nat} {x y : Value} {row : Option Nat} (h : Two W g x y) (hg : W.grownBy W' row) (hr : ∀ r, row = some r → ∃ o : Obj, W.heap[r]? = some o ∧ o.isCells = false) : Two W' g x y :=
  ⟨Nat.lt_of_lt_of_le h.lt hg.size, cell_kept h.fst hg hr, cell_kept h.snd hg hr, (frozen_kept h.fst hg hr).trans h.ffst, (frozen_kept h.snd hg hr).trans h.fsnd⟩
theorem keeps_of_below {W W' : World} (h : Below W.heap.size W W') : KeepsOthers W W' :=
  ⟨h.size, fun k _ hk _ => (h.block k (Array.getElem?_eq_some_iff.1 hk).1).trans hk⟩

/-- What the call of Join has laid: the types, b, its two results. -/
structure JBox (W : World) (g : Nat) (V : Value) (b z : Int) (x y : Int) : Prop where
  v : One W g V
  b : One W (g + 1) (.int .i64 b)
  z : One W (g + 1 + 1) (.int .i64 z)
  f : Two W (g + 1 + 1 + 1) (.int .i64 x) (.int .i64 y)
theorem JBox.kept {W W' : World} {g : Nat} {V : Value} {b z x y : Int} {row : Option Nat} (h : JBox W g V b z x y) (hg : W.grownBy W' row) (hr : ∀ r, row = some r → ∃ o : Obj, W.heap[r]? = some o ∧ o.isCells = false) : JBox W' g V b z x y :=
  ⟨h.v.kept hg hr, h.b.kept hg hr, h.z.kept hg hr, h.f.kept hg hr⟩
theorem JBox.to {W W' : World} {g : Nat} {V : Value} {b z x y : Int} (h : JBox W g V b z x y) (hb : Below W.heap.size W W') : JBox W' g V b z x y :=
  ⟨one_to h.v hb, one_to h.b hb, one_to h.z hb, two_to h.f hb⟩

theorem JBox.ret {W : World} {g : Nat} {V : Value} {b z x y : Int} (h : JBox W g V b z x y) (u : Int) :
    JBox (((W.setCell ⟨g + 1 + 1, 0, none⟩ (.int .i64 u)).setCell ⟨g + 1 + 1 + 1, 0, none⟩ (.int .i64 0)).setCell ⟨g + 1 + 1 + 1, 1, none⟩ (.int .i64 0)) g V b u 0 0 := by
  refine ⟨?_, ?_, ?_, ?_⟩
  · exact ((h.v.far (by simp; omega) _).far (by simp; omega) _).far (by simp; omega) _
  · exact ((h.b.far (by simp) _).far (by simp; omega) _).far (by simp; omega) _
  · exact ((h.z.set _).far (by simp) _).far (by simp) _
  · exact (h.f.far (by simp) _).set _ _

theorem jbox_new (w : World) (V : Value) (a b : Int) (t1 t2 t3 t4 t5 : TypeId) :
    JBox (((((w.alloc (.cells #[V] t1)).alloc (.cells #[.int .i64 b] t2)).alloc (.cells #[.int .i64 0] t3)).alloc (.cells #[.int .i64 0, .int .i64 0] t4)).alloc (.cells #[.int .i64 a, .int .i64 b] t5)) w.heap.size V b 0 0 0 := by
  refine ⟨((((one_new w _ _).alloc _).alloc _).alloc _).alloc _, ?_, ?_, ?_⟩
  · have := ((((one_new (w.alloc (.cells #[V] t1)) (.int .i64 b) t2).alloc (.cells #[.int .i64 0] t3)).alloc (.cells #[.int .i64 0, .int .i64 0] t4))).alloc (.cells #[.int .i64 a, .int .i64 b] t5)
    simpa using this
  · have := ((one_new ((w.alloc (.cells #[V] t1)).alloc (.cells #[.int .i64 b] t2)) (.int .i64 0) t3).alloc (.cells #[.int .i64 0, .int .i64 0] t4)).alloc (.cells #[.int .i64 a, .int .i64 b] t5)
    simpa using this
  · have := (two_new (((w.alloc (.cells #[V] t1)).alloc (.cells #[.int .i64 b] t2)).alloc (.cells #[.int .i64 0] t3)) (.int .i64 0) (.int .i64 0) t4).alloc (.cells #[.int .i64 a, .int .i64 b] t5)
    simpa using this

set_option maxRecDepth 100000 in
set_option maxHeartbeats 4000000 in
theorem join_in (n : Nat) (hn3 : 8 ≤ n) (A : Option Addr) (c : Nat) (ts : List Ent) (a b : Int) (w : World) (hE : Ents w w.heap.size A ts) (hn : ts.length ≤ maxLen) (hcap : ts.length ≤ c) (hcm : c ≤ maxLen) (h0 : (usedF ts [a, b]).1 = 0) :
    CallsIn Fence.wide n Try.prog 12 #[.slice A ts.length c, .int .i64 a, .int .i64 b] w fun e w' => e = .returned (.tuple #[.int .i64 (joinR ts a b), .agg #[.int .i64 (usedF ts [a, b]).1, .int .i64 (usedF ts [a, b]).2]]) ∧ Below w.heap.size w w' := by
  have h1 : 1 ≤ n := by omega
  have hB1 : Below w.heap.size w (((((w.alloc (.cells #[.slice A ts.length c] 22)).alloc (.cells #[.int .i64 b] 3)).alloc (.cells #[.int .i64 0] 3)).alloc (.cells #[.int .i64 0, .int .i64 0] 26)).alloc (.cells #[.int .i64 a, .int .i64 b] 3)) := by go_grown
  have hcall := with_any A c ts (some ⟨w.heap.size + 1 + 1 + 1 + 1, 0, none⟩) 2 [a, b] (((((w.alloc (.cells #[.slice A ts.length c] 22)).alloc (.cells #[.int .i64 b] 3)).alloc (.cells #[.int .i64 0] 3)).alloc (.cells #[.int .i64 0, .int .i64 0] 26)).alloc (.cells #[.int .i64 a, .int .i64 b] 3)) (hE.to hB1 hB1.size) hn hcap hcm (by have := nums_new2 ((((w.alloc (.cells #[.slice A ts.length c] 22)).alloc (.cells #[.int .i64 b] 3)).alloc (.cells #[.int .i64 0] 3)).alloc (.cells #[.int .i64 0, .int .i64 0] 26)) a b 3; simpa using this) (by simp [maxLen])
  have HE2 := Lib.hid (fun (W : World) (h : Below w.heap.size w W) => hE.to (B' := W.heap.size) h h.size)
  clear hE
  have HB1 := Lib.hid hB1
  clear hB1
  have hJ := jbox_new w (.slice A ts.length c) a b 22 3 3 26 3
  have HJ := Lib.hid hJ
  clear hJ
  obtain ⟨h1', h2, h3⟩ := usedF_zero h0
  have H1 := Lib.hid h1'
  have HO := Lib.hid (ordered_of h2)
  have ⟨ha0, han⟩ : -1 ≤ a ∧ a < ts.length := (istB_iff _ _).1 (by simp at h3; exact h3.1)
  have ⟨hb0, hbn⟩ : -1 ≤ b ∧ b < ts.length := (istB_iff _ _).1 (by simp at h3; exact h3.2)
  have HS := Lib.hid (show joinR ts a b = joinM ts a b by simp [joinR, h0])
  rw [h1'] at hcall
  clear h0 h1' h2 h3
  refine callsIn_of_wp_marks Try.func12 rfl trivial ?_ rfl
  simp only [Try.ntmps12, List.size_toArray, List.length_cons, List.length_nil, Nat.reduceAdd, Nat.reduceSub, Array.replicate_succ, Array.replicate_zero, List.push_toArray, List.append_toArray, List.nil_append, List.cons_append]
  gi_wp2_with (first
    | (refine ⟨trivial, ?_⟩; gi_at_call 28; refine (supers_in Fence.wide (n - 1) trivial rfl _ _ _ _ _).mono ?_; rintro e w2 ⟨rfl, rfl⟩)
    | (refine ⟨trivial, ?_⟩; gi_at_call 26; refine (callsIn_wide.2 hcall).mono ?_; rintro e w' ⟨rfl, hbw⟩; have hJ2 := HJ.out.to hbw; obtain ⟨_, c0, _⟩ := hJ2.v; obtain ⟨_, c1, _⟩ := hJ2.b; clear hJ2))
  have hJW := HJ.out.to hbw
  have hle := hbw.size
  simp only [World.size_alloc] at hle
  have hBw : Below w.heap.size w w' := HB1.out.trans (hbw.mono (by simp; omega))
  have hBL : Below w'.heap.size w' (((w'.alloc (.cells #[.int .i64 0, .int .i64 0] 26)).alloc (.cells #[.slice A ts.length c] 22)).alloc (.cells #[.int .i64 a] 3)) := by go_grown
  have hBwL : Below w.heap.size w (((w'.alloc (.cells #[.int .i64 0, .int .i64 0] 26)).alloc (.cells #[.slice A ts.length c] 22)).alloc (.cells #[.int .i64 a] 3)) := hBw.trans (hBL.mono (by omega))
  have c2 := (cell_new (w'.alloc (.cells #[.int .i64 0, .int .i64 0] 26)) (.slice A ts.length c) 22).1
  have c3 := (cell_new ((w'.alloc (.cells #[.int .i64 0, .int .i64 0] 26)).alloc (.cells #[.slice A ts.length c] 22)) (.int .i64 a) 3).1
  simp only [World.size_alloc] at c2 c3
  refine wpIn_rangeFunc_ownF rfl h1 (gf := 36) (lb := #[.pointer (some ⟨w'.heap.size + 1 + 1, 0, none⟩), .pointer (some ⟨w'.heap.size + 1, 0, none⟩)]) rfl trivial (enters_of Try.func36 (by kernel_rfl) rfl)
    (supers_stops Fence.wide (n - 1) trivial rfl (by omega) (w'.heap.size + 1 + 1) (w'.heap.size + 1) (w'.heap.size + 1 + 1) c A ts a HO.out hn ha0 han (((w'.alloc (.cells #[.int .i64 0, .int .i64 0] 26)).alloc (.cells #[.slice A ts.length c] 22)).alloc (.cells #[.int .i64 a] 3)) (by simp) (by simp) c3 (cell_past _ c2) (by omega) ((HE2.out w' hBw).to hBL (by omega))) belowK_t (belowK_b (by simp)) (Below.refl _ _) (fun _ => rfl)
    (fun pre W => ((∀ y ∈ pre, memB (sup ts b) y = false) ∧ JBox W w.heap.size (.slice A ts.length c) b 0 0 0 ∧ w'.heap.size + 1 + 1 + 1 ≤ W.heap.size) ∧ Below w.heap.size w W)
    (fun c' pre W => (c' = .ret ∧ (∃ q x, pre = q ++ [x] ∧ (∀ y ∈ q, memB (sup ts b) y = false) ∧ memB (sup ts b) x = true ∧ JBox W w.heap.size (.slice A ts.length c) b x 0 0)) ∧ Below w.heap.size w W)
    (OwnFrom.and (Own.from (fun s A B row hs hg hr => ⟨hs.1, hs.2.1.kept hg hr, Nat.le_trans hs.2.2 hg.size⟩) _) (ownFrom_below (Nat.le_refl _) (by simp; omega)))
    (fun c => OwnFrom.and (Own.from (fun s A B row hs hg hr => ⟨hs.1, by obtain ⟨_, q, x, e1, e2, e3, e4⟩ := hs; exact ⟨q, x, e1, e2, e3, e4.kept hg hr⟩⟩) _) (ownFrom_below (Nat.le_refl _) (by simp; omega)))
    ⟨⟨by simp, hJW.to hBL, by simp⟩, hBwL⟩
    (fun x => { tmps := #[(.slice A ts.length c), (.int .i64 a), (.int .i64 b), (.pointer (some ⟨w.heap.size, 0, none⟩)), undef, (.pointer (some ⟨w.heap.size + 1, 0, none⟩)), (.pointer (some ⟨w.heap.size + 1 + 1, 0, none⟩)), (.pointer (some ⟨w.heap.size + 1 + 1 + 1, 0, none⟩)), (.pointer (some ⟨w'.heap.size, 0, none⟩)), (.int .i64 x), (.slice A ts.length c), (.int .i64 a), (.int .i64 b), (.slice (some ⟨w.heap.size + 1 + 1 + 1 + 1, 0, none⟩) 2 2), (.agg #[.int .i64 0, .int .i64 0]), (.agg #[.int .i64 0, .int .i64 0]), (.agg #[.int .i64 0, .int .i64 0]), (.bool false), undef, (.slice A ts.length c), (.int .i64 a), (.func (.func 36) #[] #[.pointer (some ⟨w'.heap.size + 1 + 1, 0, none⟩), .pointer (some ⟨w'.heap.size + 1, 0, none⟩)]), (.int .i64 x), undef, undef, undef, undef, undef, undef, undef], defers := [] }) ?assign ?body ?done ?stop
  case assign =>
    intro l x W K hK
    gi_wp2
    exact hK
  case body =>
    rintro l pre x W ⟨⟨hp, hJB, hsz⟩, hB⟩ _
    have hd : 1 ≤ n - 1 - 1 := by omega
    have HP := Lib.hid hp
    clear hp
    obtain ⟨_, j0, _⟩ := hJB.v
    obtain ⟨_, j1, _⟩ := hJB.b
    have HJB := Lib.hid hJB
    clear hJB
    have hcall2 := has_any A c ts b x HO.out hn hb0 hbn W (HE2.out W hB)
    cases hm : memB (sup ts b) x
    · have HM := Lib.hid hm
      gi_wp2_with (refine ⟨trivial, ?_⟩; gi_at_call 27; refine (CallsIn.inRound l (callsIn_wide.2 hcall2)).mono ?_; rintro e w5 ⟨rfl, hb5⟩)
      exact ⟨keeps_of_below hb5, hb5.mono (by omega), ⟨fun y hy => (List.mem_append.1 hy).elim (HP.out y) (fun e => by simp at e; rw [e]; exact HM.out), HJB.out.to hb5, Nat.le_trans hsz hb5.size⟩, hB.trans (hb5.mono hB.size)⟩
    · have HM := Lib.hid hm
      gi_wp2_with (refine ⟨trivial, ?_⟩; gi_at_call 27; refine (CallsIn.inRound l (callsIn_wide.2 hcall2)).mono ?_; rintro e w5 ⟨rfl, hb5⟩; have hJ5 := HJB.out.to hb5; obtain ⟨_, z0, zf⟩ := hJ5.z; obtain ⟨_, y0, y1, yf0, yf1⟩ := hJ5.f; clear hJ5)
      exact ⟨(keeps_of_below hb5).trans (((KeepsOthers.setCell _ _ _).trans (KeepsOthers.setCell _ _ _)).trans (KeepsOthers.setCell _ _ _)), ⟨rfl, pre, x, rfl, HP.out, HM.out, (HJB.out.to hb5).ret x⟩, ((((hB.trans (hb5.mono hB.size)).setCell (by simp; omega) _).setCell (by simp; omega) _).setCell (by simp; omega) _)⟩
  case done =>
    rintro D ys W hD rfl ⟨⟨hne, hJB, hsz⟩, hB⟩ hK
    obtain ⟨_, z0, zf⟩ := hJB.z
    obtain ⟨_, y0, y1, yf0, yf1⟩ := hJB.f
    have HNE := Lib.hid hne
    clear hne
    gi_wp2
    have hK' := (((KeepsOthers.setCell W ⟨w.heap.size + 1 + 1, 0, none⟩ (.int .i64 (-1))).trans (KeepsOthers.setCell _ ⟨w.heap.size + 1 + 1 + 1, 0, none⟩ (.int .i64 0))).trans (KeepsOthers.setCell _ ⟨w.heap.size + 1 + 1 + 1, 1, none⟩ (.int .i64 0))).same D _ hK rfl
    have hJF := (hJB.ret (-1)).kept (grownBy_putObj' _ D (.deferred none)) (fun r e => by cases e; exact ⟨_, hK', rfl⟩)
    refine ⟨by simp, .inl ⟨_, _, rfl, run_takeDeferred hK', ?_⟩⟩
    obtain ⟨_, z1, _⟩ := hJF.z
    obtain ⟨_, y2, y3, _, _⟩ := hJF.f
    refine ⟨.tuple #[.int .i64 (-1), .agg #[.int .i64 0, .int .i64 0]], ?_, ret_val (by rw [HS.out, H1.out, joinM_miss HNE.out]), (((hB.setCell (by simp; omega) _).setCell (by simp; omega) _).setCell (by simp; omega) _).trans (belowK_b (w := w) (Nat.le_refl _) _ D _ _ (by simp at hD; omega) hK' rfl rfl)⟩
    simp [results, Try.f12, go_sem, z1, y2, y3]
  case stop =>
    rintro D c' pre W hD hpre ⟨⟨rfl, q, x, rfl, hq, hx, hJB⟩, hB⟩ hK
    gi_wp2
    have hK' := hK
    have hJF := hJB.kept (grownBy_putObj' _ D (.deferred none)) (fun r e => by cases e; exact ⟨_, hK', rfl⟩)
    refine ⟨by simp, .inl ⟨_, _, rfl, run_takeDeferred hK, ?_⟩⟩
    obtain ⟨_, z0, _⟩ := hJF.z
    obtain ⟨_, y0, y1, _, _⟩ := hJF.f
    refine ⟨.tuple #[.int .i64 x, .agg #[.int .i64 0, .int .i64 0]], ?_, ret_val (by rw [HS.out, H1.out, joinM_hit hpre hq hx]), hB.trans (belowK_b (w := w) (Nat.le_refl _) W D _ _ (by simp at hD; omega) hK rfl rfl)⟩
    simp [results, Try.f12, go_sem, z0, y0, y1]

set_option maxRecDepth 100000 in
set_option maxHeartbeats 2000000 in
theorem join_any (A : Option Addr) (c : Nat) (ts : List Ent) (a b : Int) (w : World) (hE : Ents w w.heap.size A ts) (hn : ts.length ≤ maxLen) (hcap : ts.length ≤ c) (hcm : c ≤ maxLen) :
    Calls Try.prog 12 #[.slice A ts.length c, .int .i64 a, .int .i64 b] w fun e w' => e = .returned (.tuple #[.int .i64 (joinR ts a b), .agg #[.int .i64 (usedF ts [a, b]).1, .int .i64 (usedF ts [a, b]).2]]) ∧ Below w.heap.size w w' := by
  by_cases h0 : (usedF ts [a, b]).1 = 0
  · exact callsIn_wide.1 (join_in 8 (by omega) A c ts a b w hE hn hcap hcm h0)
  have hB1 : Below w.heap.size w (((((w.alloc (.cells #[.slice A ts.length c] 22)).alloc (.cells #[.int .i64 b] 3)).alloc (.cells #[.int .i64 0] 3)).alloc (.cells #[.int .i64 0, .int .i64 0] 26)).alloc (.cells #[.int .i64 a, .int .i64 b] 3)) := by go_grown
  have hcall := with_any A c ts (some ⟨w.heap.size + 1 + 1 + 1 + 1, 0, none⟩) 2 [a, b] (((((w.alloc (.cells #[.slice A ts.length c] 22)).alloc (.cells #[.int .i64 b] 3)).alloc (.cells #[.int .i64 0] 3)).alloc (.cells #[.int .i64 0, .int .i64 0] 26)).alloc (.cells #[.int .i64 a, .int .i64 b] 3)) (hE.to hB1 hB1.size) hn hcap hcm (by have := nums_new2 ((((w.alloc (.cells #[.slice A ts.length c] 22)).alloc (.cells #[.int .i64 b] 3)).alloc (.cells #[.int .i64 0] 3)).alloc (.cells #[.int .i64 0, .int .i64 0] 26)) a b 3; simpa using this) (by simp [maxLen])
  clear hE
  have HB1 := Lib.hid hB1
  clear hB1
  have HJ := Lib.hid (jbox_new w (.slice A ts.length c) a b 22 3 3 26 3)
  have HS := Lib.hid (show joinR ts a b = 0 by simp [joinR, h0])
  have hne : ((usedF ts [a, b]).1 != 0) = true := by simpa using h0
  have hne2 : ((usedF ts [a, b]).1 == 0) = false := by simpa using h0
  clear h0
  go_enter Try.func12, Try.ntmps12
  go_wp2_with (go_at_call 26; refine hcall.mono ?_; rintro e w' ⟨rfl, hbw⟩; have hJ2 := HJ.out.to hbw; obtain ⟨_, z0, zf⟩ := hJ2.z; obtain ⟨_, y0, y1, yf0, yf1⟩ := hJ2.f; clear hJ2)
  go_region
  all_goals
    go_wp2
    have tz : One w' (w.heap.size + 1 + 1) _ := ⟨‹_›, z0, zf⟩
    have tw : Two w' (w.heap.size + 1 + 1 + 1) _ _ := ⟨‹_›, y0, y1, yf0, yf1⟩
    refine post_int_fault (g2 := w.heap.size + 1 + 1) (z := .int .i64 0) (g := w.heap.size + 1 + 1 + 1) (x := .int .i64 (usedF ts [a, b]).1) (y := .int .i64 (usedF ts [a, b]).2) Try.results12 rfl rfl ?_ ?_ ?_
    · exact one1 ((((tz.set _).far (by simp) _).far (by simp) _).alloc _)
    · exact two1 (((tw.far (by simp) _).set _ _).alloc _)
    · have hle := hbw.size
      simp only [World.size_alloc] at hle
      have hbase : Below w.heap.size w w' := HB1.out.trans (hbw.mono (by simp; omega))
      exact ⟨ret_val (by rw [HS.out]), by go_grown⟩

end Go.Proofs.Ytjmkilmpfaapbaa

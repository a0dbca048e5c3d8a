/- Validate of package sexpr. -/
import Derived.Test.YtbdollafpjejiaaSsbt
import Derived.Deep.OwnRows
import Derived.RegionTactic
namespace Go.Proofs.Ytbdollafpjejiaa
open Go.RowKit
set_option linter.unusedSimpArgs false
set_option linter.unusedVariables false
set_option maxRecDepth 100000

def depOf (D C : List Int) : Int := C.foldl (fun d c => max d (ix D c.toNat + 1)) 1
def tabS (ns : List Nd) : Nat → List Int
  | 0 => []
  | k + 1 => tabS ns k ++ [(startOf (tabS ns k) (ch ns k)).getD 0]
def tabD (ns : List Nd) : Nat → List Int
  | 0 => []
  | k + 1 => tabD ns k ++ [depOf (tabD ns k) (ch ns k)]
theorem tabS_len (ns : List Nd) : ∀ k, (tabS ns k).length = k
  | 0 => rfl
  | k + 1 => by simp [tabS, tabS_len ns k]
theorem tabD_len (ns : List Nd) : ∀ k, (tabD ns k).length = k
  | 0 => rfl
  | k + 1 => by simp [tabD, tabD_len ns k]
theorem ix_app_lt {xs ys : List Int} {j : Nat} (h : j < xs.length) : ix (xs ++ ys) j = ix xs j := by
  simp [ix, List.getD, List.getElem?_append_left h]
theorem ix_app_at {xs : List Int} {y : Int} : ix (xs ++ [y]) xs.length = y := by
  simp [ix, List.getD]
theorem tabS_at (ns : List Nd) (k : Nat) : ix (tabS ns (k + 1)) k = (startOf (tabS ns k) (ch ns k)).getD 0 := by
  have h := ix_app_at (xs := tabS ns k) (y := (startOf (tabS ns k) (ch ns k)).getD 0)
  rw [tabS_len] at h
  exact h
theorem tabS_lt (ns : List Nd) : ∀ (k j : Nat), j < k → ix (tabS ns k) j = ix (tabS ns (j + 1)) j := by
  intro k
  induction k with
  | zero => intro j h; omega
  | succ k ih =>
    intro j h
    by_cases e : j = k
    · subst e; rfl
    · rw [← ih j (by omega)]
      exact ix_app_lt (by rw [tabS_len]; omega)
theorem starts_tab (ns : List Nd) : ∀ k, Starts (tabS ns k)
  | 0 => fun j hj => by simp [tabS] at hj
  | k + 1 => fun j hj => by
    have hS := starts_tab ns k
    rw [tabS_len] at hj
    by_cases e : j = k
    · subst e
      rw [tabS_at]
      cases hs : startOf (tabS ns j) (ch ns j) with
      | none => simp
      | some r =>
        have := wb_range hS _ _ r (by omega) (by omega) hs
        rw [tabS_len] at this
        simpa using this
    · have hl : j < (tabS ns k).length := by rw [tabS_len]; omega
      have := hS j hl
      rw [show ix (tabS ns (k + 1)) j = ix (tabS ns k) j from ix_app_lt hl]
      exact this
theorem wb_mem {S : List Int} (hS : Starts S) : ∀ (cs : List Int) (st r : Int), 0 ≤ st → st ≤ S.length → wb S st cs = some r → ∀ c ∈ cs, 0 ≤ c ∧ c < st
  | [], _, _, _, _, _, c, hc => by simp at hc
  | c :: cs, st, r, h0, h1, h, x, hx => by
    unfold wb at h
    split at h
    · cases h
    · rename_i hn
      have hst : st ≠ 0 := fun e => hn (.inl e)
      have hce : c = st - 1 := by
        apply Classical.byContradiction
        exact fun e => hn (.inr e)
      have hj := hS (st - 1).toNat (by omega)
      rcases List.mem_cons.1 hx with rfl | hx
      · omega
      · have := wb_mem hS cs _ r hj.1 (by omega) h x hx
        omega
theorem start_mem {ns : List Nd} {k : Nat} {r : Int} (h : startOf (tabS ns k) (ch ns k) = some r) : ∀ c ∈ ch ns k, 0 ≤ c ∧ c < k := by
  intro c hc
  have := wb_mem (starts_tab ns k) _ _ r (by omega) (by omega) h c (by simpa using hc)
  rw [tabS_len] at this
  exact this

/-- The code of node k, of which all before it are valid. -/
def nodeCode (ns : List Nd) (k : Nat) : Int :=
  if (sy ns k).size ≠ 0 ∧ symbolB (sy ns k) = false then 12
  else if (sy ns k).size ≠ 0 ∧ (ch ns k).length ≠ 0 then 5
  else if (startOf (tabS ns k) (ch ns k)).isNone then 5
  else if 12 < depOf (tabD ns k) (ch ns k) then 10 else 0
def sxFault (ns : List Nd) : Int × Int :=
  if ns.length = 0 ∨ 300 < ns.length then (2, -1)
  else if (firstF (nodeCode ns) natPos ns.length).1 ≠ 0 then firstF (nodeCode ns) natPos ns.length
  else if ix (tabS ns ns.length) (ns.length - 1) ≠ 0 then (5, -1) else (0, 0)

/-- A row that holds the table T, then x, then zeros. -/
def rowF (T : List Int) (x : Int) (j : Nat) : Value := .int .i64 (if j < T.length then ix T j else if j = T.length then x else 0)
theorem rowF_next (T : List Int) (x : Int) (j : Nat) : rowF T x j = rowF (T ++ [x]) 0 j := by
  unfold rowF
  by_cases h : j < T.length
  · simp [h, ix_app_lt h, show j < T.length + 1 by omega]
  · by_cases e : j = T.length
    · subst e; simp [ix_app_at]
    · simp [h, e, show ¬ j < T.length + 1 by omega]
theorem rowF_set (T : List Int) (x y : Int) (k : Nat) (hk : T.length = k) (j : Nat) : (if j = k then Value.int .i64 y else rowF T x j) = rowF T y j := by
  subst hk
  unfold rowF
  by_cases e : j = T.length
  · subst e; simp
  · simp [e]
theorem rowF_lt {T : List Int} {x : Int} {j : Nat} (h : j < T.length) : rowF T x j = .int .i64 (ix T j) := by simp [rowF, h]
theorem rowF_at {T : List Int} {x : Int} {k : Nat} (h : T.length = k) : rowF T x k = .int .i64 x := by subst h; simp [rowF]

theorem make_ints (n : Nat) (hn : n ≤ 300) (w : World) : (Instr.makeSlice 35 (.int .i64 (n : Int)) (.int .i64 (n : Int))).run Try.prog w = .ok (.slice (some ⟨w.heap.size, 0, none⟩) n n) (w.alloc (.cells (madeCells #[.int .i64 0] n) 3)) := by
  obtain ⟨i0, hi, hz0, hz1, hz2⟩ := info_parts info_i
  have h := run_make (P := Try.prog) w 35 3 i0 (.int .i64 0) Try.underlying35 hi hz0 .i64 .i64 n n (by omega) (by omega) (by rw [hz2]; omega) (by omega)
  have e : (Value.int .i64 0).cells = #[.int .i64 0] := rfl
  rw [e] at h
  simpa [hz1] using h
theorem rowF_zero (j : Nat) : rowF [] 0 j = .int .i64 0 := by simp [rowF]

theorem dep_ge (D : List Int) : ∀ (C : List Int) (x : Int), x ≤ C.foldl (fun d c => max d (ix D c.toNat + 1)) x
  | [], x => by simp
  | c :: C, x => by
    rw [List.foldl_cons]
    have := dep_ge D C (max x (ix D c.toNat + 1))
    omega
theorem tabD_at (ns : List Nd) (k : Nat) : ix (tabD ns (k + 1)) k = depOf (tabD ns k) (ch ns k) := by
  have h := ix_app_at (xs := tabD ns k) (y := depOf (tabD ns k) (ch ns k))
  rw [tabD_len] at h
  exact h
theorem tabD_lt (ns : List Nd) : ∀ (k j : Nat), j < k → ix (tabD ns k) j = depOf (tabD ns j) (ch ns j) := by
  intro k
  induction k with
  | zero => intro j h; omega
  | succ k ih =>
    intro j h
    by_cases e : j = k
    · subst e; exact tabD_at ns j
    · rw [← ih j (by omega)]
      exact ix_app_lt (by rw [tabD_len]; omega)
theorem code_dep {ns : List Nd} {j : Nat} (h : nodeCode ns j = 0) : depOf (tabD ns j) (ch ns j) ≤ 12 := by
  unfold nodeCode at h
  split at h
  · cases h
  · split at h
    · cases h
    · split at h
      · cases h
      · split at h
        · cases h
        · omega
theorem dep_bound {ns : List Nd} {k : Nat} (h : ∀ j, j < k → nodeCode ns j = 0) (j : Nat) (hj : j < k) : 1 ≤ ix (tabD ns k) j ∧ ix (tabD ns k) j ≤ 12 := by
  rw [tabD_lt ns k j hj]
  exact ⟨dep_ge _ _ _, code_dep (h j hj)⟩

/-- The start that the last node before k had. -/
def stS (ns : List Nd) : Nat → Int
  | 0 => 0
  | k + 1 => ix (tabS ns (k + 1)) k
theorem stS_at (ns : List Nd) (k : Nat) : stS ns (k + 1) = (startOf (tabS ns k) (ch ns k)).getD 0 := tabS_at ns k
/-- What holds at the head of each round. -/
structure VSt (w : World) (ns : List Nd) (k : Nat) (wr : World) : Prop where
  below : Below w.heap.size w wr
  box : Two wr w.heap.size (.int .i64 0) (.int .i64 0)
  env : SEnv wr (w.heap.size + 1 + 1 + 1) (w.heap.size + 1) (tabS ns k)
  drow : wr.rowIs (w.heap.size + 1 + 1) 3 ns.length (rowF (tabD ns k) 0)
  zero : ∀ j, j < k → nodeCode ns j = 0

theorem sx_hit {ns : List Nd} {k : Nat} (h1 : 1 ≤ ns.length) (h3 : ns.length ≤ 300) (hk : k < ns.length) (hz : ∀ j, j < k → nodeCode ns j = 0) (h : nodeCode ns k ≠ 0) : sxFault ns = (nodeCode ns k, (k : Int)) := by
  have hf := firstF_hit (code := nodeCode ns) (pos := natPos) hk h hz
  unfold sxFault
  rw [if_neg (by omega), hf, if_pos h]
  rfl
/-- The depth after m children. -/
def depM (ns : List Nd) (k m : Nat) : Int := depOf (tabD ns k) ((ch ns k).take m)
theorem depM_succ {ns : List Nd} {k m : Nat} (h : m < (ch ns k).length) : depM ns k (m + 1) = max (depM ns k m) (ix (tabD ns k) (ix (ch ns k) m).toNat + 1) := by
  have e : (ch ns k).take (m + 1) = (ch ns k).take m ++ [ix (ch ns k) m] := by
    rw [List.take_succ_eq_append_getElem h]
    simp [ix, List.getD, h]
  unfold depM
  rw [e]
  unfold depOf
  rw [List.foldl_append]
  simp only [List.foldl_cons, List.foldl_nil]
theorem ix_mem {C : List Int} {m : Nat} (h : m < C.length) : ix C m ∈ C := by
  unfold ix
  simp [List.getD, h]
theorem depM_zero (ns : List Nd) (k : Nat) : depM ns k 0 = 1 := by simp [depM, depOf]
theorem depM_all (ns : List Nd) (k : Nat) : depM ns k (ch ns k).length = depOf (tabD ns k) (ch ns k) := by simp [depM]
/-- What holds at the head of each round over the children. -/
structure DSt (w : World) (ns : List Nd) (k : Nat) (d : Int) (W : World) : Prop where
  below : Below w.heap.size w W
  box : Two W w.heap.size (.int .i64 0) (.int .i64 0)
  env : SEnv W (w.heap.size + 1 + 1 + 1) (w.heap.size + 1) (tabS ns (k + 1))
  drow : W.rowIs (w.heap.size + 1 + 1) 3 ns.length (rowF (tabD ns k) d)
theorem DSt.step {w : World} {ns : List Nd} {k : Nat} {d d' : Int} {W : World} (h : DSt w ns k d W) : DSt w ns k d' (W.setCell ⟨w.heap.size + 1 + 1, k, none⟩ (.int .i64 d')) := by
  refine ⟨h.below.setCell (by show w.heap.size ≤ w.heap.size + 1 + 1; omega) _, h.box.far (by show w.heap.size + 1 + 1 ≠ w.heap.size; omega) _, h.env.set (by show w.heap.size + 1 + 1 ≠ w.heap.size + 1; omega) (by show w.heap.size + 1 + 1 < w.heap.size + 1 + 1 + 1; omega) _, ?_⟩
  exact (h.drow.set k _).congr (fun j _ => rowF_set (tabD ns k) d d' k (tabD_len ns k) j)
theorem DSt.drew {w : World} {ns : List Nd} {k : Nat} {d : Int} {W : World} (h : DSt w ns k d W) : DSt w ns k d W.drew := ⟨h.below.drew, two1 h.box, h.env.drew, h.drow.drew⟩
/-- Behind the closure's call. -/
theorem dst_start {w wr W1 : World} {ns : List Nd} {k : Nat} (h : VSt w ns k wr) (o : Obj) (hE : SEnv W1 (w.heap.size + 1 + 1 + 1) (w.heap.size + 1) (tabS ns (k + 1))) (hB : Below (w.heap.size + 1) (wr.alloc o) W1)
    (hK : ∀ q, w.heap.size + 1 < q → q < w.heap.size + 1 + 1 + 1 → W1.heap[q]? = (wr.alloc o).heap[q]?) : DSt w ns k 0 W1 :=
  ⟨(h.below.alloc h.below.size o).trans (hB.mono (by omega)), (h.box.alloc o).to hB (by omega), hE, (h.drow.alloc o).of_block (hK _ (by omega) (by omega))⟩
theorem vst_next {w W : World} {ns : List Nd} {k : Nat} (hz : ∀ j, j < k → nodeCode ns j = 0) (hc : nodeCode ns k = 0) (h : DSt w ns k (depOf (tabD ns k) (ch ns k)) W) : VSt w ns (k + 1) W := by
  refine ⟨h.below, h.box, h.env, h.drow.congr (fun j _ => ?_), code_step hz hc⟩
  rw [rowF_next]; rfl
theorem code_big {ns : List Nd} {k : Nat} {st : Int} (h1 : (sy ns k).size ≠ 0 → symbolB (sy ns k) = true ∧ (ch ns k).length = 0) (hs : startOf (tabS ns k) (ch ns k) = some st) : nodeCode ns k = if 12 < depOf (tabD ns k) (ch ns k) then 10 else 0 := by
  unfold nodeCode
  rw [if_neg (by intro ⟨a, b⟩; rw [(h1 a).1] at b; cases b), if_neg (by intro ⟨a, b⟩; exact b (h1 a).2), hs, if_neg (by simp)]
theorem start_nil {ns : List Nd} {k : Nat} (h : (ch ns k).length = 0) : startOf (tabS ns k) (ch ns k) = some (k : Int) := by
  rw [List.eq_nil_of_length_eq_zero h]
  simp [startOf, wb, tabS_len]
theorem sx_miss {ns : List Nd} (h1 : 1 ≤ ns.length) (h3 : ns.length ≤ 300) (hz : ∀ j, j < ns.length → nodeCode ns j = 0) : sxFault ns = if ix (tabS ns ns.length) (ns.length - 1) ≠ 0 then (5, -1) else (0, 0) := by
  have hf := firstF_miss (code := nodeCode ns) (pos := natPos) hz
  unfold sxFault
  rw [if_neg (by omega), hf]
  rfl
theorem env_new (w : World) (f : Obj) (o : Obj) : SEnv (((w.alloc f).alloc (.cells #[.slice none 0 0] 35)).alloc o) (w.heap.size + 1 + 1 + 1) (w.heap.size + 1) [] := by
  refine ⟨⟨.slice none 0 0, ?_, World.ownsRow_nil _ _ _ _⟩, by omega, by simp⟩
  have h := (one_new (w.alloc f) (.slice none 0 0) 35).alloc o
  simpa using h
set_option maxRecDepth 100000 in
set_option maxHeartbeats 4000000 in
theorem svalidate_any (A : Option Addr) (c : Nat) (ns : List Nd) (w : World) (hE : Nodes w w.heap.size A ns) (hn : ns.length ≤ maxLen) :
    Calls Try.prog 11 #[.slice A ns.length c] w fun e w' => e = .returned (.agg #[.int .i64 (sxFault ns).1, .int .i64 (sxFault ns).2]) ∧ Below w.heap.size w w' := by
  unfold maxLen at hn
  have HE := Lib.hid hE
  clear hE
  by_cases h0 : ns.length = 0
  · have H := Lib.hid (show sxFault ns = (2, -1) by simp [sxFault, h0])
    have hz : ((ns.length : Int) == 0) = true := by simp; simpa using h0
    clear h0
    go_enter Try.func11, Try.ntmps11
    go_wp2
    go_returns
    exact ⟨ret_val (by rw [H.out]), by go_grown⟩
  have hz : ((ns.length : Int) == 0) = false := by simp; simpa using h0
  by_cases h3 : 300 < ns.length
  · have H := Lib.hid (show sxFault ns = (2, -1) by simp [sxFault, h3])
    have hd : decide ((300 : Int) < ns.length) = true := by simp; omega
    clear h0
    go_enter Try.func11, Try.ntmps11
    go_wp2
    go_returns
    exact ⟨ret_val (by rw [H.out]), by go_grown⟩
  have hd : decide ((300 : Int) < ns.length) = false := by simp; omega
  have h300 : ns.length ≤ 300 := by omega
  have h1n : 1 ≤ ns.length := by omega
  have hmk := make_ints ns.length h300
  have HD := Lib.hid h0
  clear h0 h3
  go_enter Try.func11, Try.ntmps11
  go_wp2_with (go_at_call 26; refine (subs_any _).mono ?_; rintro e w' ⟨rfl, rfl⟩)
  have hst : VSt w ns 0 (((w.alloc (.cells #[.int .i64 0, .int .i64 0] 25)).alloc (.cells #[.slice none 0 0] 35)).alloc (.cells (madeCells #[.int .i64 0] ns.length) 3)) := by
    refine ⟨by go_grown, ((two_new w _ _ _).alloc _).alloc _, env_new _ _ _, ?_, by omega⟩
    have h := (World.rowIs_made ((w.alloc (.cells #[.int .i64 0, .int .i64 0] 25)).alloc (.cells #[.slice none 0 0] 35)) (.int .i64 0) ns.length 3).congr (g := rowF (tabD ns 0) 0) (fun i _ => (rowF_zero i).symm)
    simpa using h
  go_loopw [4, 26] (fun s i wr => ∃ k : Nat, k ≤ ns.length ∧ s = .int .i64 (stS ns k) ∧ i = .int .i64 k ∧ VSt w ns k wr) (fun _ i _ => ns.length - (intOf i).toNat)
  case atStart => exact ⟨0, by omega, rfl, rfl, hst⟩
  case round =>
    obtain ⟨k, hk, rfl, rfl, hV⟩ := hrel
    have HV := Lib.hid hV
    clear hV hst
    by_cases hlt : k < ns.length
    · obtain ⟨b, o, Ak, ck, rfl, hbl, hs0, hc0, hN0, hck, hcm, hsl, hcl⟩ := HE.out.at_ hlt
      have hs := (HV.out.below.cell (p := ⟨b, o + k * 2, none⟩) hbl).trans hs0
      have hc := (HV.out.below.cell (p := ⟨b, o + k * 2 + 1, none⟩) hbl).trans hc0
      have hclo : (ch ns k).length < 9223372036854775808 := by unfold maxLen at hcl; omega
      have HN0 := Lib.hid hN0
      have HN := Lib.hid (hN0.to HV.out.below HV.out.below.size)
      clear hN0 hs0 hc0
      have HC1 := Lib.hid (fun (W : World) (h : Below wr.heap.size wr W) => sub1_any Ak ck (ch ns k) (tabS ns k) (w.heap.size + 1 + 1 + 1) (w.heap.size + 1) W (starts_tab ns k) (HV.out.env.to h) (HN.out.to h h.size) (by rw [tabS_len]; omega) hcl)
      rcases Nat.eq_zero_or_pos (sy ns k).size with hz0 | hz0
      · have hl := toList_nil hz0
        cases hso : startOf (tabS ns k) (ch ns k)
        · have HC := Lib.hid (show nodeCode ns k = 5 by unfold nodeCode; rw [if_neg (by omega), if_neg (by omega), hso]; rfl)
          go_wp2_with (go_at_call 33; refine (HC1.out _ ((Below.refl _ _).alloc (Nat.le_refl _) _)).mono ?_)
          rintro e W1 ⟨rfl, hE1, hB1, hK1, hT1⟩
          have hnb : W1.heap[wr.heap.size]? = some (.cells #[.string (sy ns k), .slice Ak (ch ns k).length ck] 37 (0, 0)) := hT1 _ _ (heap_alloc_new wr _) (by have := HV.out.env.le; omega) (by rintro ⟨cur, e⟩; simp at e)
          have hc1 : W1.cell? ⟨wr.heap.size, 1, none⟩ = some (.slice Ak (ch ns k).length ck) := by rw [Lib.cell_of_heap hnb]; rfl
          have HD1 := Lib.hid (dst_start HV.out _ hE1 hB1 hK1)
          clear hnb hE1 hB1 hK1 hT1
          rw [hso]
          obtain ⟨_, k0, k1, kf0, kf1⟩ := HD1.out.box
          go_wp2
          have tw : Two W1 w.heap.size _ _ := HD1.out.box
          have hlt0 := tw.lt
          refine post_fault (g := w.heap.size) (x := (.int .i64 5)) (y := (.int .i64 k)) Try.results11 rfl ?_ ?_
          · repeat' (first | (with_reducible assumption) | (with_reducible exact Two.pair ‹_›) | (with_reducible refine Pair.set ?_ _ _) | (with_reducible refine Two.alloc ?_ _) | (with_reducible refine Pair.alloc ?_ _) | (with_reducible refine two1 ?_) | (with_reducible refine twoN ?_ _) | (with_reducible refine Pair.drew ?_) | (with_reducible refine Pair.drewN ?_ _) | (with_reducible refine Two.far ?_ ?_ _) | (with_reducible refine Pair.far ?_ ?_ _) | (simp; omega))
          · refine ⟨ret_val (by rw [sx_hit h1n h300 hlt HV.out.zero (by rw [HC.out]; decide), HC.out]), ?_⟩
            have hbase : Below w.heap.size w W1 := HD1.out.below
            repeat' (first | (with_reducible assumption) | (with_reducible refine belowN ?_ _) | (with_reducible refine Below.alloc ?_ ?_ _) | (with_reducible refine Below.drew ?_) | (with_reducible refine Below.setCell ?_ ?_ _) | go_size)
        · rename_i st
          have CB := Lib.hid (show (sy ns k).size ≠ 0 → symbolB (sy ns k) = true ∧ (ch ns k).length = 0 from fun h => absurd hz0 h)
          go_wp2_with (go_at_call 33; refine (HC1.out _ ((Below.refl _ _).alloc (Nat.le_refl _) _)).mono ?_)
          rintro e W1 ⟨rfl, hE1, hB1, hK1, hT1⟩
          have hnb : W1.heap[wr.heap.size]? = some (.cells #[.string (sy ns k), .slice Ak (ch ns k).length ck] 37 (0, 0)) := hT1 _ _ (heap_alloc_new wr _) (by have := HV.out.env.le; omega) (by rintro ⟨cur, e⟩; simp at e)
          have hc1 : W1.cell? ⟨wr.heap.size, 1, none⟩ = some (.slice Ak (ch ns k).length ck) := by rw [Lib.cell_of_heap hnb]; rfl
          have HD1 := Lib.hid (dst_start HV.out _ hE1 hB1 hK1)
          clear hnb hE1 hB1 hK1 hT1
          have e2 : W1.cell? ⟨w.heap.size + 1 + 1, k, none⟩ = some (.int .i64 0) := by rw [HD1.out.drow.cell hlt, rowF_at (tabD_len ns k)]
          have g2 := HD1.out.drow.frozen k
          have l2 := HD1.out.drow.lt
          have hkn : (k : Int) < ns.length := by omega
          have hc2 : (W1.setCell ⟨w.heap.size + 1 + 1, k, none⟩ (.int .i64 1)).cell? ⟨wr.heap.size, 1, none⟩ = some (.slice Ak (ch ns k).length ck) := by
            rw [World.cell?_setCell_other _ _ _ _ (by intro e; have h1 := HV.out.env.le; have h2 := congrArg Addr.block e; simp at h2; omega)]
            exact hc1
          have hne1 : ¬ (w.heap.size + 1 + 1 = wr.heap.size) := by have h1 := HV.out.env.le; omega
          have hne2 : ¬ (wr.heap.size = w.heap.size + 1 + 1) := by have h1 := HV.out.env.le; omega
          rw [hso]
          go_wp2
          generalize hW0 : (World.setCell _ _ _ : World) = W0
          have hD0 : DSt w ns k (depM ns k 0) W0 := by rw [← hW0, depM_zero]; exact HD1.out.step
          clear hW0 e2 g2 l2 hs hc hc1 hc2 hne1 hne2
          go_loopw [70] (fun i W => ∃ m : Nat, m ≤ (ch ns k).length ∧ i = .int .i64 m ∧ DSt w ns k (depM ns k m) W) (fun i _ => (ch ns k).length - (intOf i).toNat)
          case atStart => exact ⟨0, by omega, rfl, hD0⟩
          case round =>
            obtain ⟨m, hm, rfl, hD⟩ := hrel
            have HDm := Lib.hid hD
            clear hD hD0
            by_cases hml : m < (ch ns k).length
            · obtain ⟨b3, o3, rfl, _, hch⟩ := (HN0.out.to HDm.out.below HDm.out.below.size).at_ hml
              have hcm2 := start_mem hso (ix (ch ns k) m) (ix_mem hml)
              obtain ⟨q, hq⟩ : ∃ q : Nat, ix (ch ns k) m = (q : Int) := ⟨(ix (ch ns k) m).toNat, by omega⟩
              have hqk : q < k := by omega
              have hqt : (ix (ch ns k) m).toNat = q := by omega
              have HS := Lib.hid (depM_succ hml)
              rw [hqt] at HS
              rw [hq] at hch
              have e3 : wr.cell? ⟨w.heap.size + 1 + 1, k, none⟩ = some (.int .i64 (depM ns k m)) := by rw [HDm.out.drow.cell hlt, rowF_at (tabD_len ns k)]
              have e4 : wr.cell? ⟨w.heap.size + 1 + 1, q, none⟩ = some (.int .i64 (ix (tabD ns k) q)) := by rw [HDm.out.drow.cell (by omega), rowF_lt (by rw [tabD_len]; exact hqk)]
              have g3 := HDm.out.drow.frozen k
              have hbd := dep_bound HV.out.zero q hqk
              have hkn : (k : Int) < ns.length := by omega
              have hqn : (q : Int) < ns.length := by omega
              have HML := Lib.hid hml
              have hmli : (m : Int) < ((ch ns k).length : Int) := by omega
              clear hcm2 hq hqt hml
              go_wp2
              go_region
              all_goals
                go_wp2
                go_roundw
                case rel => exact ⟨m + 1, HML.out, by go_num, by rw [HS.out]; exact HDm.out.step.drew⟩
                case measure =>
                  have := HML.out
                  simp [intOf]; omega
            · have hmm : m = (ch ns k).length := by omega
              subst hmm
              rw [depM_all] at HDm
              have e3 : wr.cell? ⟨w.heap.size + 1 + 1, k, none⟩ = some (.int .i64 (depOf (tabD ns k) (ch ns k))) := by rw [HDm.out.drow.cell hlt, rowF_at (tabD_len ns k)]
              have hkn : (k : Int) < ns.length := by omega
              obtain ⟨_, k0, k1, kf0, kf1⟩ := HDm.out.box
              by_cases hdd : 12 < depOf (tabD ns k) (ch ns k)
              · have HC := Lib.hid (show nodeCode ns k = 10 by rw [code_big CB.out hso, if_pos hdd])
                have hdb : decide (depOf (tabD ns k) (ch ns k) > 12) = true := by simpa using hdd
                clear hdd
                go_wp2
                have tw : Two wr w.heap.size _ _ := HDm.out.box
                have hlt0 := tw.lt
                refine post_fault (g := w.heap.size) (x := (.int .i64 10)) (y := (.int .i64 k)) Try.results11 rfl ?_ ?_
                · repeat' (first | (with_reducible assumption) | (with_reducible exact Two.pair ‹_›) | (with_reducible refine Pair.set ?_ _ _) | (with_reducible refine Two.alloc ?_ _) | (with_reducible refine Pair.alloc ?_ _) | (with_reducible refine two1 ?_) | (with_reducible refine twoN ?_ _) | (with_reducible refine Pair.drew ?_) | (with_reducible refine Pair.drewN ?_ _) | (with_reducible refine Two.far ?_ ?_ _) | (with_reducible refine Pair.far ?_ ?_ _) | (simp; omega))
                · refine ⟨ret_val (by rw [sx_hit h1n h300 hlt HV.out.zero (by rw [HC.out]; decide), HC.out]), ?_⟩
                  have hbase : Below w.heap.size w wr := HDm.out.below
                  repeat' (first | (with_reducible assumption) | (with_reducible refine belowN ?_ _) | (with_reducible refine Below.alloc ?_ ?_ _) | (with_reducible refine Below.drew ?_) | (with_reducible refine Below.setCell ?_ ?_ _) | go_size)
              · have HC := Lib.hid (show nodeCode ns k = 0 by rw [code_big CB.out hso, if_neg hdd])
                have hdb : decide (depOf (tabD ns k) (ch ns k) > 12) = false := by simpa using hdd
                have hdb2 : ¬ (12 < depOf (tabD ns k) (ch ns k)) := hdd
                have HSt := Lib.hid (show stS ns (k + 1) = st from by rw [stS_at, hso]; rfl)
                clear hdd
                go_wp2
                go_roundw
                case rel => exact ⟨k + 1, by omega, by rw [HSt.out], by go_num, vst_next HV.out.zero HC.out HDm.out⟩
                case measure => simp [intOf]; omega
      · have hl := toList_not hz0
        have hl2 : (!(sy ns k).toList.isEmpty) = true := by rw [hl]; rfl
        cases hsb : symbolB (sy ns k)
        · have HC := Lib.hid (show nodeCode ns k = 12 by unfold nodeCode; rw [if_pos ⟨by omega, hsb⟩])
          obtain ⟨_, k0, k1, kf0, kf1⟩ := HV.out.box
          go_wp2_with (go_at_call 27; refine (isSymbol_any _ hsl _).mono ?_; rintro e w' ⟨rfl, rfl⟩)
          have tw : Two wr w.heap.size _ _ := HV.out.box
          have hlt0 := tw.lt
          refine post_fault (g := w.heap.size) (x := (.int .i64 12)) (y := (.int .i64 k)) Try.results11 rfl ?_ ?_
          · repeat' (first | (with_reducible assumption) | (with_reducible exact Two.pair ‹_›) | (with_reducible refine Pair.set ?_ _ _) | (with_reducible refine Two.alloc ?_ _) | (with_reducible refine Pair.alloc ?_ _) | (with_reducible refine two1 ?_) | (with_reducible refine twoN ?_ _) | (with_reducible refine Pair.drew ?_) | (with_reducible refine Pair.drewN ?_ _) | (with_reducible refine Two.far ?_ ?_ _) | (with_reducible refine Pair.far ?_ ?_ _) | (simp; omega))
          · refine ⟨ret_val (by rw [sx_hit h1n h300 hlt HV.out.zero (by rw [HC.out]; decide), HC.out]), ?_⟩
            have hbase : Below w.heap.size w wr := HV.out.below
            repeat' (first | (with_reducible assumption) | (with_reducible refine belowN ?_ _) | (with_reducible refine Below.alloc ?_ ?_ _) | (with_reducible refine Below.drew ?_) | (with_reducible refine Below.setCell ?_ ?_ _) | go_size)
        · rcases Nat.eq_zero_or_pos (ch ns k).length with hn0 | hn0
          · have hso := start_nil hn0
            obtain ⟨st, hst2⟩ : ∃ st : Int, st = (k : Int) := ⟨_, rfl⟩
            rw [← hst2] at hso
            have hd0 : decide (0 < ((ch ns k).length : Int)) = false := decide_eq_false (by omega)
            have CB : (sy ns k).size ≠ 0 → symbolB (sy ns k) = true ∧ (ch ns k).length = 0 := fun _ => ⟨hsb, hn0⟩
            have HN1 := Lib.hid hn0
            have CB := Lib.hid CB
            clear hn0 hst2
            go_wp2_with (first | (go_at_call 27; refine (isSymbol_any _ hsl _).mono ?_; rintro e w' ⟨rfl, rfl⟩) | (go_at_call 33; refine (HC1.out _ ((Below.refl _ _).alloc (Nat.le_refl _) _)).mono ?_))
            rintro e W1 ⟨rfl, hE1, hB1, hK1, hT1⟩
            have hnb : W1.heap[wr.heap.size]? = some (.cells #[.string (sy ns k), .slice Ak (ch ns k).length ck] 37 (0, 0)) := hT1 _ _ (heap_alloc_new wr _) (by have := HV.out.env.le; omega) (by rintro ⟨cur, e⟩; simp at e)
            have hc1 : W1.cell? ⟨wr.heap.size, 1, none⟩ = some (.slice Ak (ch ns k).length ck) := by rw [Lib.cell_of_heap hnb]; rfl
            have HD1 := Lib.hid (dst_start HV.out _ hE1 hB1 hK1)
            clear hnb hE1 hB1 hK1 hT1
            have e2 : W1.cell? ⟨w.heap.size + 1 + 1, k, none⟩ = some (.int .i64 0) := by rw [HD1.out.drow.cell hlt, rowF_at (tabD_len ns k)]
            have g2 := HD1.out.drow.frozen k
            have l2 := HD1.out.drow.lt
            have hkn : (k : Int) < ns.length := by omega
            have hc2 : (W1.setCell ⟨w.heap.size + 1 + 1, k, none⟩ (.int .i64 1)).cell? ⟨wr.heap.size, 1, none⟩ = some (.slice Ak (ch ns k).length ck) := by
              rw [World.cell?_setCell_other _ _ _ _ (by intro e; have h1 := HV.out.env.le; have h2 := congrArg Addr.block e; simp at h2; omega)]
              exact hc1
            have hne1 : ¬ (w.heap.size + 1 + 1 = wr.heap.size) := by have h1 := HV.out.env.le; omega
            have hne2 : ¬ (wr.heap.size = w.heap.size + 1 + 1) := by have h1 := HV.out.env.le; omega
            rw [hso]
            go_wp2
            generalize hW0 : (World.setCell _ _ _ : World) = W0
            have hD0 : DSt w ns k (depM ns k 0) W0 := by rw [← hW0, depM_zero]; exact HD1.out.step
            clear hW0 e2 g2 l2 hs hc hc1 hc2 hne1 hne2
            go_loopw [70] (fun i W => ∃ m : Nat, m ≤ (ch ns k).length ∧ i = .int .i64 m ∧ DSt w ns k (depM ns k m) W) (fun i _ => (ch ns k).length - (intOf i).toNat)
            case atStart => exact ⟨0, by omega, rfl, hD0⟩
            case round =>
              obtain ⟨m, hm, rfl, hD⟩ := hrel
              have HDm := Lib.hid hD
              clear hD hD0
              by_cases hml : m < (ch ns k).length
              · exfalso; have := HN1.out; omega
              · have hmm : m = (ch ns k).length := by omega
                subst hmm
                rw [depM_all] at HDm
                have e3 : wr.cell? ⟨w.heap.size + 1 + 1, k, none⟩ = some (.int .i64 (depOf (tabD ns k) (ch ns k))) := by rw [HDm.out.drow.cell hlt, rowF_at (tabD_len ns k)]
                have hkn : (k : Int) < ns.length := by omega
                obtain ⟨_, k0, k1, kf0, kf1⟩ := HDm.out.box
                by_cases hdd : 12 < depOf (tabD ns k) (ch ns k)
                · have HC := Lib.hid (show nodeCode ns k = 10 by rw [code_big CB.out hso, if_pos hdd])
                  have hdb : decide (depOf (tabD ns k) (ch ns k) > 12) = true := by simpa using hdd
                  clear hdd
                  go_wp2
                  have tw : Two wr w.heap.size _ _ := HDm.out.box
                  have hlt0 := tw.lt
                  refine post_fault (g := w.heap.size) (x := (.int .i64 10)) (y := (.int .i64 k)) Try.results11 rfl ?_ ?_
                  · repeat' (first | (with_reducible assumption) | (with_reducible exact Two.pair ‹_›) | (with_reducible refine Pair.set ?_ _ _) | (with_reducible refine Two.alloc ?_ _) | (with_reducible refine Pair.alloc ?_ _) | (with_reducible refine two1 ?_) | (with_reducible refine twoN ?_ _) | (with_reducible refine Pair.drew ?_) | (with_reducible refine Pair.drewN ?_ _) | (with_reducible refine Two.far ?_ ?_ _) | (with_reducible refine Pair.far ?_ ?_ _) | (simp; omega))
                  · refine ⟨ret_val (by rw [sx_hit h1n h300 hlt HV.out.zero (by rw [HC.out]; decide), HC.out]), ?_⟩
                    have hbase : Below w.heap.size w wr := HDm.out.below
                    repeat' (first | (with_reducible assumption) | (with_reducible refine belowN ?_ _) | (with_reducible refine Below.alloc ?_ ?_ _) | (with_reducible refine Below.drew ?_) | (with_reducible refine Below.setCell ?_ ?_ _) | go_size)
                · have HC := Lib.hid (show nodeCode ns k = 0 by rw [code_big CB.out hso, if_neg hdd])
                  have hdb : decide (depOf (tabD ns k) (ch ns k) > 12) = false := by simpa using hdd
                  have hdb2 : ¬ (12 < depOf (tabD ns k) (ch ns k)) := hdd
                  have HSt := Lib.hid (show stS ns (k + 1) = st from by rw [stS_at, hso]; rfl)
                  clear hdd
                  go_wp2
                  go_roundw
                  case rel => exact ⟨k + 1, by omega, by rw [HSt.out], by go_num, vst_next HV.out.zero HC.out HDm.out⟩
                  case measure => simp [intOf]; omega
          · have HC := Lib.hid (show nodeCode ns k = 5 by unfold nodeCode; rw [if_neg (by simp [hsb]), if_pos ⟨by omega, by omega⟩])
            have hd1 : decide (0 < ((ch ns k).length : Int)) = true := decide_eq_true (by omega)
            obtain ⟨_, k0, k1, kf0, kf1⟩ := HV.out.box
            go_wp2_with (go_at_call 27; refine (isSymbol_any _ hsl _).mono ?_; rintro e w' ⟨rfl, rfl⟩)
            have tw : Two wr w.heap.size _ _ := HV.out.box
            have hlt0 := tw.lt
            refine post_fault (g := w.heap.size) (x := (.int .i64 5)) (y := (.int .i64 k)) Try.results11 rfl ?_ ?_
            · repeat' (first | (with_reducible assumption) | (with_reducible exact Two.pair ‹_›) | (with_reducible refine Pair.set ?_ _ _) | (with_reducible refine Two.alloc ?_ _) | (with_reducible refine Pair.alloc ?_ _) | (with_reducible refine two1 ?_) | (with_reducible refine twoN ?_ _) | (with_reducible refine Pair.drew ?_) | (with_reducible refine Pair.drewN ?_ _) | (with_reducible refine Two.far ?_ ?_ _) | (with_reducible refine Pair.far ?_ ?_ _) | (simp; omega))
            · refine ⟨ret_val (by rw [sx_hit h1n h300 hlt HV.out.zero (by rw [HC.out]; decide), HC.out]), ?_⟩
              have hbase : Below w.heap.size w wr := HV.out.below
              repeat' (first | (with_reducible assumption) | (with_reducible refine belowN ?_ _) | (with_reducible refine Below.alloc ?_ ?_ _) | (with_reducible refine Below.drew ?_) | (with_reducible refine Below.setCell ?_ ?_ _) | go_size)
    · have hkk : k = ns.length := by omega
      subst hkk
      obtain ⟨L, hL⟩ : ∃ L : Nat, ns.length = L + 1 := ⟨ns.length - 1, by omega⟩
      have HM := Lib.hid (sx_miss h1n h300 HV.out.zero)
      have hL1 : ns.length - 1 = L := by omega
      rw [show ix (tabS ns ns.length) (ns.length - 1) = stS ns ns.length by rw [hL1, hL]; rfl] at HM
      clear hlt hL hL1
      obtain ⟨_, k0, k1, kf0, kf1⟩ := HV.out.box
      generalize stS ns ns.length = x at HM
      by_cases hx : x = 0
      · subst hx
        rw [if_neg (by simp)] at HM
        go_wp2
        have tw : Two wr w.heap.size _ _ := HV.out.box
        have hlt0 := tw.lt
        refine post_fault (g := w.heap.size) (x := (.int .i64 0)) (y := (.int .i64 0)) Try.results11 rfl ?_ ?_
        · repeat' (first | (with_reducible assumption) | (with_reducible exact Two.pair ‹_›) | (with_reducible refine Pair.set ?_ _ _) | (with_reducible refine Two.alloc ?_ _) | (with_reducible refine Pair.alloc ?_ _) | (with_reducible refine two1 ?_) | (with_reducible refine twoN ?_ _) | (with_reducible refine Pair.drew ?_) | (with_reducible refine Pair.drewN ?_ _) | (with_reducible refine Two.far ?_ ?_ _) | (with_reducible refine Pair.far ?_ ?_ _) | (simp; omega))
        · refine ⟨ret_val (by rw [HM.out]), ?_⟩
          have hbase : Below w.heap.size w wr := HV.out.below
          repeat' (first | (with_reducible assumption) | (with_reducible refine belowN ?_ _) | (with_reducible refine Below.alloc ?_ ?_ _) | (with_reducible refine Below.drew ?_) | (with_reducible refine Below.setCell ?_ ?_ _) | go_size)
      · have hxb : (x != 0) = true := by simpa using hx
        have hxc : (x == 0) = false := by simpa using hx
        rw [if_pos hx] at HM
        clear hx
        go_wp2
        have tw : Two wr w.heap.size _ _ := HV.out.box
        have hlt0 := tw.lt
        refine post_fault (g := w.heap.size) (x := (.int .i64 5)) (y := (.int .i64 (-1))) Try.results11 rfl ?_ ?_
        · repeat' (first | (with_reducible assumption) | (with_reducible exact Two.pair ‹_›) | (with_reducible refine Pair.set ?_ _ _) | (with_reducible refine Two.alloc ?_ _) | (with_reducible refine Pair.alloc ?_ _) | (with_reducible refine two1 ?_) | (with_reducible refine twoN ?_ _) | (with_reducible refine Pair.drew ?_) | (with_reducible refine Pair.drewN ?_ _) | (with_reducible refine Two.far ?_ ?_ _) | (with_reducible refine Pair.far ?_ ?_ _) | (simp; omega))
        · refine ⟨ret_val (by rw [HM.out]), ?_⟩
          have hbase : Below w.heap.size w wr := HV.out.below
          repeat' (first | (with_reducible assumption) | (with_reducible refine belowN ?_ _) | (with_reducible refine Below.alloc ?_ ?_ _) | (with_reducible refine Below.drew ?_) | (with_reducible refine Below.setCell ?_ ?_ _) | go_size)

end Go.Proofs.Ytbdollafpjejiaa

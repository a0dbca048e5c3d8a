/- The closure of Print that writes a node. -/
import Derived.Test.YtbdollafpjejiaaSbld
import Derived.Test.YtbdollafpjejiaaSval
import Derived.StillTailTactics
import Derived.RegionTactic
namespace Go.Proofs.Ytbdollafpjejiaa
open Go.RowKit Go.Shelf
set_option linter.unusedSimpArgs false
set_option linter.unusedVariables false
set_option maxRecDepth 100000

def sepT (k : Nat) : List UInt8 := bif k == 0 then [] else [32]
def segN (t : Nat → List UInt8) (cs : List Int) (m : Nat) : List UInt8 := (List.range m).flatMap (fun k => sepT k ++ t (ix cs k).toNat)
/-- The text of node i. -/
def txtN (ns : List Nd) : Nat → Nat → List UInt8
  | 0, _ => []
  | f + 1, i => bif (sy ns i).size == 0 then 40 :: (segN (txtN ns f) (ch ns i) (ch ns i).length ++ [41]) else (sy ns i).data.toList
theorem segN_zero (t : Nat → List UInt8) (cs : List Int) : segN t cs 0 = [] := rfl
theorem segN_succ (t : Nat → List UInt8) (cs : List Int) (m : Nat) : segN t cs (m + 1) = segN t cs m ++ (sepT m ++ t (ix cs m).toNat) := by
  simp [segN, List.range_succ, List.flatMap_append]
theorem segN_le (t : Nat → List UInt8) (cs : List Int) : ∀ (m n : Nat), m ≤ n → (segN t cs m).length ≤ (segN t cs n).length := by
  intro m n h
  induction n with
  | zero =>
    have : m = 0 := by omega
    subst this
    exact Nat.le_refl _
  | succ n ih =>
    by_cases e : m = n + 1
    · subst e; exact Nat.le_refl _
    · have := ih (by omega)
      rw [segN_succ, List.length_append]
      omega
theorem byte_app (l : List UInt8) (c : UInt8) : Lib.byteCells l ++ [Value.int .u8 c.toNat] = Lib.byteCells (l ++ [c]) := by simp [Lib.byteCells]
theorem byte_app2 (l m : List UInt8) : Lib.byteCells l ++ Lib.byteCells m = Lib.byteCells (l ++ m) := by simp [Lib.byteCells]

abbrev fnv (b q r : Nat) : Value := .func (.func 22) #[] #[.pointer (some ⟨b, 0, none⟩), .pointer (some ⟨q, 0, none⟩), .pointer (some ⟨r, 0, none⟩)]
/-- What the closure finds: the builder, itself, the nodes. -/
structure PEnv (w : World) (B b q r : Nat) (A : Option Addr) (c : Nat) (ns : List Nd) (l : List UInt8) : Prop where
  bld : Lib.IsBuilderF BT YT B b (Lib.byteCells l) w
  self : w.heap[q]? = some (.cells #[fnv b q r] 47 (0, 0))
  list : w.heap[r]? = some (.cells #[.slice A ns.length c] 22 (0, 0))
  nodes : Nodes w B A ns
  qb : q ≠ b
  rb : r ≠ b
  le : B ≤ w.heap.size
section
variable {w w' : World} {B b q r : Nat} {A : Option Addr} {c : Nat} {ns : List Nd} {l m : List UInt8}
theorem PEnv.step (h : PEnv w B b q r A c ns l) (hb : Lib.IsBuilderF BT YT B b (Lib.byteCells m) w') (h1 : Below B w w') (h2 : Lib.OthersKept YT (some b) w w') : PEnv w' B b q r A c ns m :=
  ⟨hb, h2 q _ h.self (fun e => h.qb (Option.some.inj e)) (fun c fz e => by simp at e; exact absurd e.2.1 (by decide)), h2 r _ h.list (fun e => h.rb (Option.some.inj e)) (fun c fz e => by simp at e; exact absurd e.2.1 (by decide)),
    h.nodes.to h1 (Nat.le_refl _), h.qb, h.rb, Nat.le_trans h.le h1.size⟩
theorem PEnv.alloc (h : PEnv w B b q r A c ns l) (o : Obj) : PEnv (w.alloc o) B b q r A c ns l :=
  h.step (h.bld.alloc o) ((Below.refl _ _).alloc h.le o) ((Lib.OthersKept.refl _ _ _).alloc o)
theorem PEnv.drewN (h : PEnv w B b q r A c ns l) (n : Nat) : PEnv (w.drewN n) B b q r A c ns l := ⟨h.bld, h.self, h.list, h.nodes, h.qb, h.rb, h.le⟩
end
def PPost (B b : Nat) (l : List UInt8) (w : World) (e : Ending) (w' : World) : Prop :=
  e = .returned (.tuple #[]) ∧ Lib.IsBuilderF BT YT B b (Lib.byteCells l) w' ∧ Below B w w' ∧ Lib.OthersKept YT (some b) w w'
/-- What is written after m children of node i. -/
def LW (ns : List Nd) (f i : Nat) (l : List UInt8) (m : Nat) : List UInt8 := l ++ 40 :: segN (txtN ns f) (ch ns i) m
theorem LW_zero (ns : List Nd) (f i : Nat) (l : List UInt8) : LW ns f i l 0 = l ++ [40] := rfl
theorem LW_succ (ns : List Nd) (f i : Nat) (l : List UInt8) (m : Nat) : LW ns f i l (m + 1) = (LW ns f i l m ++ sepT m) ++ txtN ns f (ix (ch ns i) m).toNat := by
  simp [LW, segN_succ]
theorem LW_end (ns : List Nd) (f i : Nat) (l : List UInt8) : LW ns f i l (ch ns i).length ++ [41] = l ++ 40 :: (segN (txtN ns f) (ch ns i) (ch ns i).length ++ [41]) := by
  simp [LW]
theorem LW_len {ns : List Nd} {f i : Nat} {l : List UInt8} {m : Nat} (hm : m ≤ (ch ns i).length) (h : l.length + (40 :: (segN (txtN ns f) (ch ns i) (ch ns i).length ++ [41])).length ≤ 140737488355328) : (LW ns f i l m).length + 1 ≤ 140737488355328 := by
  have := segN_le (txtN ns f) (ch ns i) m _ hm
  simp [LW] at h ⊢
  omega
structure PSt (w : World) (B b q r : Nat) (A : Option Addr) (c : Nat) (ns : List Nd) (L : List UInt8) (W : World) : Prop where
  env : PEnv W B b q r A c ns L
  below : Below B w W
  others : Lib.OthersKept YT (some b) w W
theorem PSt.next {w : World} {B b q r : Nat} {A : Option Addr} {c : Nat} {ns : List Nd} {L M : List UInt8} {W W' : World} (h : PSt w B b q r A c ns L W) (hb : Lib.IsBuilderF BT YT B b (Lib.byteCells M) W') (h1 : Below B W W') (h2 : Lib.OthersKept YT (some b) W W') : PSt w B b q r A c ns M W' :=
  ⟨h.env.step hb h1 h2, h.below.trans h1, h.others.trans h2⟩
theorem PSt.drew {w : World} {B b q r : Nat} {A : Option Addr} {c : Nat} {ns : List Nd} {L : List UInt8} {W : World} (h : PSt w B b q r A c ns L W) : PSt w B b q r A c ns L W.drew :=
  ⟨⟨h.env.bld, h.env.self, h.env.list, h.env.nodes, h.env.qb, h.env.rb, h.env.le⟩, h.below.drew, h.others⟩

set_option maxHeartbeats 1000000 in
theorem write_any (B b q r : Nat) (A : Option Addr) (c : Nat) (ns : List Nd) (hv : ∀ k, k < ns.length → ∀ x ∈ ch ns k, 0 ≤ x ∧ x < k) (hnl : ns.length ≤ maxLen) :
    ∀ (f i : Nat) (l : List UInt8) (w : World) (Ai : Option Addr) (ci : Nat), i < f → i < ns.length → (ch ns i).length ≤ ci → ci ≤ maxLen → Nums w B Ai (ch ns i) → (l.length + (txtN ns f i).length ≤ 140737488355328) → PEnv w B b q r A c ns l →
      Calls Try.prog 22 #[.agg #[.string (sy ns i), .slice Ai (ch ns i).length ci], .pointer (some ⟨b, 0, none⟩), .pointer (some ⟨q, 0, none⟩), .pointer (some ⟨r, 0, none⟩)] w (PPost B b (l ++ txtN ns f i) w) := by
  intro f
  induction f with
  | zero => intro i l w Ai ci hi; omega
  | succ f ih =>
    intro i l w Ai ci hif hi hci hcm hN hlen hP
    have hci2 : (ch ns i).length ≤ 9223372036854775807 := by unfold maxLen at hcm; omega
    have HIH := Lib.hid ih
    have HV := Lib.hid hv
    have HN := Lib.hid hN
    have HP := Lib.hid hP
    clear ih hv hN hP
    rcases Nat.eq_zero_or_pos (sy ns i).size with h0 | h0
    · have hl := toList_nil h0
      have HT := Lib.hid (show txtN ns (f + 1) i = 40 :: (segN (txtN ns f) (ch ns i) (ch ns i).length ++ [41]) by rw [txtN, h0]; rfl)
      rw [HT.out] at hlen ⊢
      clear h0
      have HM := Lib.hid (LW_end ns f i l)
      go_enter Try.func22, Try.ntmps22
      go_wp2_with (go_at_call 24; refine (writeByte_k B b (Lib.byteCells l) 40 _ (HP.out.alloc _).bld (by rw [Lib.byteCells_length]; simp at hlen; omega) (HP.out.alloc _).le).mono ?_)
      rintro e W1 ⟨rfl, hb1, hB1, hO1⟩
      have hkeep : W1.heap[w.heap.size]? = some (.cells #[.string (sy ns i), .slice Ai (ch ns i).length ci] 37 (0, 0)) :=
        hO1 _ _ (heap_alloc_new w _) (fun e => by have := (hb1.lt); have h2 := Option.some.inj e; have h3 := HP.out.bld.elim (fun h => h.lt) (fun h => h.lt); omega) (fun c fz e => by simp at e; exact absurd e.2.1 (by decide))
      have k0 : W1.cell? ⟨w.heap.size, 0, none⟩ = some (.string (sy ns i)) := by rw [Lib.cell_of_heap hkeep]; rfl
      have k1 : W1.cell? ⟨w.heap.size, 1, none⟩ = some (.slice Ai (ch ns i).length ci) := by rw [Lib.cell_of_heap hkeep]; rfl
      have HS1 := Lib.hid (show PSt w B b q r A c ns (LW ns f i l 0) W1 from ⟨(HP.out.alloc _).step (.inr (by rw [LW_zero, ← byte_app]; exact hb1)) hB1 hO1, ((Below.refl _ _).alloc HP.out.le _).trans hB1, ((Lib.OthersKept.refl _ _ _).alloc _).trans hO1⟩)
      clear hb1 hB1 hO1 hkeep
      go_wp2_with fail
      clear k0 k1
      go_loopw [17] (fun u W => ∃ k : Nat, k ≤ (ch ns i).length ∧ u = .int .i64 k ∧ PSt w B b q r A c ns (LW ns f i l k) W) (fun u _ => (ch ns i).length - (intOf u).toNat)
      case atStart => exact ⟨0, Nat.zero_le _, rfl, HS1.out⟩
      case round =>
        obtain ⟨k, hk, rfl, hS⟩ := hrel
        have HS := Lib.hid hS
        clear hS
        by_cases hkl : k < (ch ns i).length
        · have hkli : (k : Int) < (ch ns i).length := by omega
          obtain ⟨b1, o1, rfl, _, hc1⟩ := (HN.out.to HS.out.below (Nat.le_refl _)).at_ hkl
          have hmem := HV.out i hi _ (ix_mem hkl)
          obtain ⟨j, hj⟩ : ∃ j : Nat, ix (ch ns i) k = (j : Int) := ⟨(ix (ch ns i) k).toNat, by omega⟩
          have hjn : j < ns.length := by omega
          have hjf : j < f := by omega
          have HJ := Lib.hid (show LW ns f i l (k + 1) = (LW ns f i l k ++ sepT k) ++ txtN ns f j by rw [LW_succ, hj]; rfl)
          have hL1 := LW_len (m := k) hk hlen
          have hL2 := LW_len (m := k + 1) hkl hlen
          rw [hj] at hc1
          rw [HJ.out, List.length_append] at hL2
          have HL2 := Lib.hid (show (LW ns f i l k ++ sepT k).length + (txtN ns f j).length ≤ 140737488355328 by omega)
          clear hL2 hj hmem
          have hfin : ∀ W2 W3, PSt w B b q r A c ns (LW ns f i l k ++ sepT k) W2 → PPost B b ((LW ns f i l k ++ sepT k) ++ txtN ns f j) W2 (.returned (.tuple #[])) W3 → PSt w B b q r A c ns (LW ns f i l (k + 1)) W3 := by
            intro W2 W3 h1 h2
            rw [HJ.out]
            exact h1.next h2.2.1 h2.2.2.1 h2.2.2.2
          have HFin := Lib.hid hfin
          clear hfin
          by_cases hk0 : k = 0
          · have hk0i : decide ((k : Int) > 0) = false := by simp; omega
            have hk0j : ¬ ((0 : Int) < k) := by omega
            have HS2 := Lib.hid (show PSt w B b q r A c ns (LW ns f i l k ++ sepT k) wr by rw [hk0, show sepT 0 = [] from rfl, List.append_nil, ← hk0]; exact HS.out)
            clear hk0
            have e0 : wr.cell? ⟨q, 0, none⟩ = some (fnv b q r) := by rw [Lib.cell_of_heap HS2.out.env.self]; rfl
            have e1 : wr.cell? ⟨r, 0, none⟩ = some (.slice A ns.length c) := by rw [Lib.cell_of_heap HS2.out.env.list]; rfl
            obtain ⟨b2, o2, Ak, ck, rfl, _, hd1, hd2, hNk, hck, hcmk, _, _⟩ := HS2.out.env.nodes.at_ hjn
            have hji : (j : Int) < ns.length := by omega
            go_wp2_with fail
            clear hc1
            refine wp_region_still_tail 5 (by kernel_rfl) (by kernel_rfl) ?_
            simp only [List.take_succ_cons, List.take_zero, List.drop_succ_cons, List.drop_zero]
            change wpStill _ _ wr.drew _ _ _
            repeat still_step
            try refine wpStill_nil ?_
            change wpList _ _ _ _ _ wr.drew
            have hP2 := HS2.out.drew.env
            have HP2 := Lib.hid hP2
            have HNk := Lib.hid hNk
            clear hP2 hNk e0 e1 hd1 hd2
            have hcall := HIH.out j (LW ns f i l k ++ sepT k) wr.drew Ak ck hjf hjn hck hcmk HNk.out HL2.out HP2.out
            go_wp2_with (go_at_call 22; refine hcall.mono ?_)
            rintro e W3 hpost
            obtain ⟨rfl, hp3⟩ := hpost
            have HS3 := Lib.hid (HFin.out wr.drew W3 HS2.out.drew ⟨rfl, hp3⟩)
            clear hp3
            go_wp2_with fail
            go_roundw
            case rel => exact ⟨k + 1, by omega, by go_num, HS3.out⟩
            case measure => simp [intOf]; omega
          · have hk0i : (0 : Int) < k := by omega
            have hs1 : sepT k = [32] := by
              have : (k == 0) = false := beq_false_of_ne hk0
              rw [sepT, this]; rfl
            have HSe := Lib.hid hs1
            clear hs1 hk0
            go_wp2_with (go_at_call 24; refine (writeByte_k B b (Lib.byteCells (LW ns f i l k)) 32 _ HS.out.env.bld (by rw [Lib.byteCells_length]; omega) HS.out.env.le).mono ?_)
            rintro e W2 ⟨rfl, hb2, hB2, hO2⟩
            have HS2 := Lib.hid (show PSt w B b q r A c ns (LW ns f i l k ++ sepT k) W2 from HS.out.next (.inr (by rw [HSe.out, ← byte_app]; exact hb2)) hB2 hO2)
            clear hb2 hB2 hO2
            have e0 : W2.cell? ⟨q, 0, none⟩ = some (fnv b q r) := by rw [Lib.cell_of_heap HS2.out.env.self]; rfl
            have e1 : W2.cell? ⟨r, 0, none⟩ = some (.slice A ns.length c) := by rw [Lib.cell_of_heap HS2.out.env.list]; rfl
            obtain ⟨b2, o2, Ak, ck, rfl, _, hd1, hd2, hNk, hck, hcmk, _, _⟩ := HS2.out.env.nodes.at_ hjn
            have hji : (j : Int) < ns.length := by omega
            clear hc1
            go_wp2_with fail
            refine wp_region_still_tail 5 (by kernel_rfl) (by kernel_rfl) ?_
            simp only [List.take_succ_cons, List.take_zero, List.drop_succ_cons, List.drop_zero]
            change wpStill _ _ W2.drew _ _ _
            repeat still_step
            try refine wpStill_nil ?_
            change wpList _ _ _ _ _ W2.drew
            have hP2 := HS2.out.drew.env
            have HP2 := Lib.hid hP2
            have HNk := Lib.hid hNk
            clear hP2 hNk e0 e1 hd1 hd2
            have hcall := HIH.out j (LW ns f i l k ++ sepT k) W2.drew Ak ck hjf hjn hck hcmk HNk.out HL2.out HP2.out
            go_wp2_with (go_at_call 22; refine hcall.mono ?_)
            rintro e W3 hpost
            obtain ⟨rfl, hp3⟩ := hpost
            have HS3 := Lib.hid (HFin.out W2.drew W3 HS2.out.drew ⟨rfl, hp3⟩)
            clear hp3
            go_wp2_with fail
            go_roundw
            case rel => exact ⟨k + 1, by omega, by go_num, HS3.out⟩
            case measure => simp [intOf]; omega
        · obtain rfl : k = (ch ns i).length := by omega
          have hLe := LW_len (Nat.le_refl _) hlen
          clear hkl
          go_wp2_with (go_at_call 24; refine (writeByte_k B b (Lib.byteCells (LW ns f i l (ch ns i).length)) 41 _ HS.out.env.bld (by rw [Lib.byteCells_length]; omega) HS.out.env.le).mono ?_)
          rintro e W2 ⟨rfl, hb2, hB2, hO2⟩
          go_wp2_with fail
          go_end0
          refine ⟨rfl, .inr ?_, HS.out.below.trans hB2, HS.out.others.trans hO2⟩
          rw [← HM.out, ← byte_app]
          exact hb2
    · have hl := toList_not h0
      have hl2 : (!(sy ns i).toList.isEmpty) = true := by rw [hl]; rfl
      have HT := Lib.hid (show txtN ns (f + 1) i = (sy ns i).data.toList by
        have : ((sy ns i).size == 0) = false := beq_false_of_ne (by omega)
        rw [txtN, this]; rfl)
      rw [HT.out] at hlen ⊢
      have hsz : (sy ns i).data.toList.length = (sy ns i).size := by simp
      rw [hsz] at hlen
      clear hsz h0
      go_enter Try.func22, Try.ntmps22
      go_wp2_with (go_at_call 23; refine (writeString_k B b (Lib.byteCells l) (sy ns i) _ (HP.out.alloc _).bld (by rw [Lib.byteCells_length]; omega) (HP.out.alloc _).le).mono ?_)
      rintro e W1 ⟨rfl, hb1, hB1, hO1⟩
      go_wp2
      go_end0
      refine ⟨rfl, .inr ?_, (((Below.refl _ _).alloc HP.out.le _).trans hB1), ((Lib.OthersKept.refl _ _ _).alloc _).trans hO1⟩
      rw [← byte_app2]
      exact hb1
end Go.Proofs.Ytbdollafpjejiaa

/- Nodes of an expression in memory; subtreeStart. -/
import Derived.Test.YtbdollafpjejiaaSsym
namespace Go.Proofs.Ytbdollafpjejiaa
open Go.RowKit
set_option linter.unusedSimpArgs false
set_option linter.unusedVariables false
set_option maxRecDepth 100000

abbrev Nd := ByteArray × List Int
def sy (ns : List Nd) (k : Nat) : ByteArray := (ns.getD k (ByteArray.empty, [])).1
def ch (ns : List Nd) (k : Nat) : List Int := (ns.getD k (ByteArray.empty, [])).2

/-- The slice at A holds the nodes ns, below block B. -/
def Nodes (w : World) (B : Nat) (A : Option Addr) (ns : List Nd) : Prop :=
  (∀ k, (sy ns k).size ≤ maxLen ∧ (ch ns k).length ≤ maxLen) ∧ (0 < ns.length → ∃ b o, A = some ⟨b, o, none⟩ ∧ b < B ∧
    ∀ k, k < ns.length → w.cell? ⟨b, o + k * 2, none⟩ = some (.string (sy ns k)) ∧
      ∃ Ak ck, w.cell? ⟨b, o + k * 2 + 1, none⟩ = some (.slice Ak (ch ns k).length ck) ∧ Nums w B Ak (ch ns k) ∧ (ch ns k).length ≤ ck ∧ ck ≤ maxLen)
section
variable {w w' : World} {B B' : Nat} {A : Option Addr} {ns : List Nd}
theorem Nodes.to (h : Nodes w B A ns) (hb : Below B w w') (hB : B ≤ B') : Nodes w' B' A ns := by
  refine ⟨h.1, fun h0 => ?_⟩
  obtain ⟨b, o, hA, hlt, hc⟩ := h.2 h0
  refine ⟨b, o, hA, by omega, fun k hk => ?_⟩
  obtain ⟨h1, Ak, ck, h2, h3, h4, h5⟩ := hc k hk
  exact ⟨(hb.cell (p := ⟨b, o + k * 2, none⟩) hlt).trans h1, Ak, ck, (hb.cell (p := ⟨b, o + k * 2 + 1, none⟩) hlt).trans h2, h3.to hb hB, h4, h5⟩
theorem Nodes.at_ (h : Nodes w B A ns) {k : Nat} (hk : k < ns.length) : ∃ b o Ak ck, A = some ⟨b, o, none⟩ ∧ b < B ∧ w.cell? ⟨b, o + k * 2, none⟩ = some (.string (sy ns k)) ∧ w.cell? ⟨b, o + k * 2 + 1, none⟩ = some (.slice Ak (ch ns k).length ck) ∧
    Nums w B Ak (ch ns k) ∧ (ch ns k).length ≤ ck ∧ ck ≤ maxLen ∧ (sy ns k).size ≤ maxLen ∧ (ch ns k).length ≤ maxLen := by
  obtain ⟨b, o, hA, hlt, hc⟩ := h.2 (by omega)
  obtain ⟨h1, Ak, ck, h2, h3, h4, h5⟩ := hc k hk
  exact ⟨b, o, Ak, ck, hA, hlt, h1, h2, h3, h4, h5, (h.1 k).1, (h.1 k).2⟩
end

/-- Walking back over the children, the last one first. -/
def wb (S : List Int) : Int → List Int → Option Int
  | st, [] => some st
  | st, c :: cs => if st = 0 ∨ c ≠ st - 1 then none else wb S (ix S (st - 1).toNat) cs
def startOf (S C : List Int) : Option Int := wb S S.length C.reverse
theorem take_rev {C : List Int} {m : Nat} (h : m < C.length) : (C.take (m + 1)).reverse = ix C m :: (C.take m).reverse := by
  rw [List.take_succ_eq_append_getElem h, List.reverse_append]
  simp [ix, List.getD, h]
/-- A table of starts: each is not behind its node. -/
def Starts (S : List Int) : Prop := ∀ j, j < S.length → 0 ≤ ix S j ∧ ix S j ≤ j
theorem wb_range {S : List Int} (hS : Starts S) : ∀ (cs : List Int) (st r : Int), 0 ≤ st → st ≤ S.length → wb S st cs = some r → 0 ≤ r ∧ r ≤ st
  | [], st, r, h0, _, h => by
    simp [wb] at h; omega
  | c :: cs, st, r, h0, h1, h => by
    unfold wb at h
    split at h
    · cases h
    · rename_i hn
      have hst : st ≠ 0 := fun e => hn (.inl e)
      have hj := hS (st - 1).toNat (by omega)
      have := wb_range hS cs _ r hj.1 (by omega) h
      omega

def StartPost (r : Option Int) (w : World) (e : Ending) (w' : World) : Prop := e = .returned (.tuple #[.int .i64 (r.getD 0), .bool r.isSome]) ∧ w = w'

set_option maxHeartbeats 1000000 in
theorem subtree_any (A1 A2 : Option Addr) (c1 c2 : Nat) (S C : List Int) (w : World) (hS : Starts S) (h1 : Nums w w.heap.size A1 S) (h2 : Nums w w.heap.size A2 C) (hs : S.length ≤ maxLen) (hc : C.length ≤ maxLen) :
    Calls Try.prog 34 #[.slice A1 S.length c1, .slice A2 C.length c2] w (StartPost (startOf S C) w) := by
  unfold maxLen at hs hc
  have H1 := Lib.hid h1
  have H2 := Lib.hid h2
  have HS := Lib.hid hS
  clear h1 h2 hS
  go_enter Try.func34, Try.ntmps34
  go_wp2
  go_loop [6, 7] (fun s i => ∃ (st : Int) (m : Nat), s = .int .i64 st ∧ i = .int .i64 ((m : Int) - 1) ∧ m ≤ C.length ∧ 0 ≤ st ∧ st ≤ S.length ∧ startOf S C = wb S st (C.take m).reverse) (fun _ i => (intOf i + 1).toNat)
  case atStart => exact ⟨_, C.length, rfl, rfl, Nat.le_refl _, by omega, by omega, by rw [List.take_length]; rfl⟩
  case round =>
    obtain ⟨st, m, rfl, rfl, hm, hst0, hst1, hw⟩ := hrel
    have HW := Lib.hid hw
    clear hw
    by_cases hm0 : m = 0
    · subst hm0
      have hg : ((0 : Nat) : Int) - 1 = -1 := by omega
      go_wp2
      go_ret2
      refine ⟨ret_val ?_, rfl⟩
      rw [HW.out]; rfl
    · obtain ⟨m, rfl⟩ : ∃ m', m = m' + 1 := ⟨m - 1, by omega⟩
      have hlt : m < C.length := by omega
      have hmm : ((m + 1 : Nat) : Int) - 1 = m := by omega
      obtain ⟨b2, o2, rfl, _, hcc⟩ := H2.out.at_ hlt
      have HT := Lib.hid (take_rev hlt)
      clear hm0
      by_cases hz : st = 0
      · subst hz
        have HF := Lib.hid (show startOf S C = none by rw [HW.out, HT.out, wb, if_pos (.inl rfl)])
        go_wp2
        go_ret2
        exact ⟨ret_val (by rw [HF.out]; rfl), rfl⟩
      · obtain ⟨q, rfl⟩ : ∃ q : Nat, st = (q : Int) + 1 := ⟨(st - 1).toNat, by omega⟩
        have hq : ((q : Int) + 1 - 1).toNat = q := by omega
        have hzb : ((q : Int) + 1 == 0) = false := by simp; omega
        have hqb : (q : Int) + 1 - 1 = q := by omega
        by_cases hne : ix C m = (q : Int)
        · have hneb : (ix C m != (q : Int)) = false := by simpa using hne
          have HR := Lib.hid (show startOf S C = wb S (ix S q) (C.take m).reverse by rw [HW.out, HT.out, wb, if_neg (by rintro (h | h) <;> omega), hq])
          obtain ⟨b1, o1, rfl, _, hss⟩ := H1.out.at_ (show q < S.length by omega)
          have hr := HS.out q (by omega)
          clear hne hz hq
          go_wp2
          go_round
          case rel => exact ⟨_, m, rfl, by simp, by omega, hr.1, by omega, HR.out⟩
          case measure => simp [intOf]
        · have hneb : (ix C m != (q : Int)) = true := by simpa using hne
          have HF := Lib.hid (show startOf S C = none by rw [HW.out, HT.out, wb, if_pos (.inr (by omega))])
          clear hne hz hq
          go_wp2
          go_ret2
          exact ⟨ret_val (by rw [HF.out]; rfl), rfl⟩

end Go.Proofs.Ytbdollafpjejiaa

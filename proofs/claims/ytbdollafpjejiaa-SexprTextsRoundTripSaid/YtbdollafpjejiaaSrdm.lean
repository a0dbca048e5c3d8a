/- Reading an expression, as a function on lists. -/
import Derived.Test.YtbdollafpjejiaaSnode
namespace Go.Proofs.Ytbdollafpjejiaa
open Go.RowKit
set_option linter.unusedSimpArgs false
set_option linter.unusedVariables false
set_option maxRecDepth 100000

def isSp (s : ByteArray) (k : Nat) : Bool := spB ((bt s k : Nat) : Int)
/-- The first offset from a on at which no space stands. -/
def skip (s : ByteArray) : Nat → Nat → Nat
  | 0, a => a
  | f + 1, a => bif (decide (a < s.size) && isSp s a) then skip s f (a + 1) else a
def nx (s : ByteArray) (a : Nat) : Nat := skip s (s.size - a) a
/-- The byte at a, or 0 at the end. -/
def nb (s : ByteArray) (a : Nat) : Nat := bif decide (a < s.size) then bt s a else 0

theorem skip_ge (s : ByteArray) : ∀ f a, a ≤ skip s f a
  | 0, a => Nat.le_refl _
  | f + 1, a => by
    unfold skip
    cases decide (a < s.size) && isSp s a
    · exact Nat.le_refl _
    · exact Nat.le_trans (Nat.le_succ a) (skip_ge s f (a + 1))
theorem skip_le (s : ByteArray) : ∀ f a, a ≤ s.size → skip s f a ≤ s.size
  | 0, a, h => h
  | f + 1, a, h => by
    unfold skip
    cases hc : decide (a < s.size) && isSp s a
    · exact h
    · have : a < s.size := by simp at hc; exact hc.1
      exact skip_le s f (a + 1) this
theorem nx_ge (s : ByteArray) (a : Nat) : a ≤ nx s a := skip_ge s _ a
theorem nx_le {s : ByteArray} {a : Nat} (h : a ≤ s.size) : nx s a ≤ s.size := skip_le s _ a h
theorem skip_fuel (s : ByteArray) : ∀ f g a, s.size - a ≤ f → s.size - a ≤ g → skip s f a = skip s g a
  | 0, g, a, hf, _ => by
    cases g with
    | zero => rfl
    | succ g =>
      have : decide (a < s.size) = false := decide_eq_false (by omega)
      simp [skip, this]
  | f + 1, 0, a, _, hg => by
    have : decide (a < s.size) = false := decide_eq_false (by omega)
    simp [skip, this]
  | f + 1, g + 1, a, hf, hg => by
    unfold skip
    rw [skip_fuel s f g (a + 1) (by omega) (by omega)]
theorem nx_step {s : ByteArray} {a : Nat} (h : a < s.size) (hs : isSp s a = true) : nx s a = nx s (a + 1) := by
  unfold nx
  obtain ⟨f, hf⟩ : ∃ f, s.size - a = f + 1 := ⟨s.size - a - 1, by omega⟩
  rw [hf, skip]
  simp only [decide_eq_true h, hs, Bool.and_self, cond_true]
  exact skip_fuel s _ _ _ (by omega) (by omega)
theorem nx_stop {s : ByteArray} {a : Nat} (hs : a < s.size → isSp s a = false) : nx s a = a := by
  unfold nx
  cases hf : s.size - a with
  | zero => rfl
  | succ f =>
    rw [skip, hs (by omega)]
    simp
theorem nx_nx (s : ByteArray) : ∀ (n a : Nat), s.size - a ≤ n → (nx s a < s.size → isSp s (nx s a) = false)
  | 0, a, hn => by
    intro h
    have := nx_ge s a
    omega
  | n + 1, a, hn => by
    intro h
    by_cases hs : isSp s a = true
    · by_cases hl : a < s.size
      · rw [nx_step hl hs] at h ⊢
        exact nx_nx s n (a + 1) (by omega) h
      · have := nx_ge s a; omega
    · have hs' : isSp s a = false := by simpa using hs
      rw [nx_stop (fun _ => hs')] at h ⊢
      exact hs'
theorem nx_idem (s : ByteArray) (a : Nat) : nx s (nx s a) = nx s a := nx_stop (nx_nx s _ a (Nat.le_refl _))

abbrev RdRes := Except (Int × Int) (Nat × List Nd)
def rdSym (s : ByteArray) (a : Nat) (ns : List Nd) : RdRes :=
  bif decide (12 < symEnd (s.extract a s.size)) then .error (1, a) else .ok (a + symEnd (s.extract a s.size), ns ++ [(s.extract a (a + symEnd (s.extract a s.size)), [])])
def rdLoop (s : ByteArray) (ex : Nat → List Nd → RdRes) : Nat → Nat → List Int → List Nd → RdRes
  | 0, a, _, _ => .error (0, a)
  | f + 1, a, cs, ns => bif nb s (nx s a) == 41 then .ok (nx s a + 1, ns ++ [(⟨#[]⟩, cs)]) else
    match ex (nx s a) ns with
    | .error e => .error e
    | .ok (a', ns') => rdLoop s ex f a' (cs ++ [(ns'.length : Int) - 1]) ns'
/-- Reading an expression at a, inside of which d more lists may nest. -/
def rdExpr (s : ByteArray) : Nat → Nat → List Nd → RdRes
  | d, a, ns => bif (nb s (nx s a) != 40 && !symB (nb s (nx s a))) then .error (1, nx s a) else
    match d with
    | 0 => .error (10, nx s a)
    | d + 1 => bif nb s (nx s a) == 40 then rdLoop s (rdExpr s d) (s.size + 1) (nx s a + 1) [] ns else rdSym s (nx s a) ns

/-- What a successful reading gives. -/
def Adv (s : ByteArray) (a : Nat) (ns : List Nd) (r : RdRes) : Prop :=
  ∀ a' ns', r = .ok (a', ns') → a < a' ∧ a' ≤ s.size ∧ ns.length < ns'.length ∧ ns'.length + a ≤ ns.length + a'
theorem nb_end {s : ByteArray} {a : Nat} (h : ¬ a < s.size) : nb s a = 0 := by simp [nb, h]
theorem nb_in {s : ByteArray} {a : Nat} (h : nb s a ≠ 0) : a < s.size := by
  apply Classical.byContradiction
  exact fun hn => h (nb_end hn)
theorem nb_at {s : ByteArray} {a : Nat} (h : a < s.size) : nb s a = bt s a := by simp [nb, h]
theorem bt_extract (s : ByteArray) (a b k : Nat) (hb : b ≤ s.size) (hk : a + k < b) : bt (s.extract a b) k = bt s (a + k) := by
  have h1 : k < (s.extract a b).size := by simp; omega
  rw [← bt_eq _ _ h1, ← bt_eq _ _ (show a + k < s.size by omega)]
  simp [ByteArray.getElem_extract]
theorem symEnd_pos {s : ByteArray} (h0 : 0 < s.size) (h : sat s 0 = true) : 0 < symEnd s := by
  rcases Nat.eq_zero_or_pos (symEnd s) with h1 | h1
  · exfalso
    unfold symEnd at h1
    cases e : (List.range s.size).find? (fun k => !sat s k) with
    | none => rw [e] at h1; change s.size = 0 at h1; omega
    | some k =>
      rw [e] at h1
      have := List.find?_some e
      simp at h1 this
      subst h1
      rw [h] at this
      cases this
  · exact h1
theorem rdSym_adv {s : ByteArray} {a : Nat} (ns : List Nd) (ha : a < s.size) (hs : symB (bt s a) = true) : Adv s a ns (rdSym s a ns) := by
  intro a' ns' h
  unfold rdSym at h
  have hsz : (s.extract a s.size).size = s.size - a := by simp
  have hpos := symEnd_pos (s := s.extract a s.size) (by omega) (by
    show symB (bt (s.extract a s.size) 0) = true
    rw [bt_extract s a s.size 0 (Nat.le_refl _) (by omega)]
    exact hs)
  have hle := symEnd_le (s.extract a s.size)
  cases hd : decide (12 < symEnd (s.extract a s.size)) <;> simp [hd] at h
  obtain ⟨rfl, rfl⟩ := h
  refine ⟨by omega, by omega, by simp, by simp; omega⟩
theorem rdLoop_adv {s : ByteArray} {ex : Nat → List Nd → RdRes} (hex : ∀ a ns, a ≤ s.size → Adv s a ns (ex a ns)) :
    ∀ f a cs ns, a ≤ s.size → Adv s a ns (rdLoop s ex f a cs ns)
  | 0, a, cs, ns, _ => by intro a' ns' h; cases h
  | f + 1, a, cs, ns, ha => by
    intro a' ns' h
    have hge := nx_ge s a
    have hle := nx_le ha
    unfold rdLoop at h
    cases hb : nb s (nx s a) == 41
    · rw [hb] at h
      simp only [cond_false] at h
      cases he : ex (nx s a) ns with
      | error e => rw [he] at h; cases h
      | ok p =>
        obtain ⟨a1, n1⟩ := p
        rw [he] at h
        have h1 := hex _ _ hle _ _ he
        have h2 := rdLoop_adv hex f a1 _ n1 h1.2.1 _ _ h
        omega
    · rw [hb] at h
      simp only [cond_true] at h
      have hin : nx s a < s.size := nb_in (by simp at hb; omega)
      injection h with h
      injection h with h1 h2
      subst h1; subst h2
      refine ⟨by omega, by omega, by simp, by simp; omega⟩
theorem sym0 : symB 0 = false := by decide +kernel
theorem rdExpr_adv (s : ByteArray) : ∀ d a ns, a ≤ s.size → Adv s a ns (rdExpr s d a ns)
  | d, a, ns, ha => by
    intro a' ns' h
    have hge := nx_ge s a
    have hle := nx_le ha
    unfold rdExpr at h
    cases hb : (nb s (nx s a) != 40 && !symB (nb s (nx s a)))
    · rw [hb] at h
      simp only [cond_false] at h
      match d, h with
      | d + 1, h =>
        cases hq : nb s (nx s a) == 40
        · rw [hq] at h
          simp only [cond_false] at h
          have hs : symB (nb s (nx s a)) = true := by
            have : (nb s (nx s a) != 40) = true := by simpa using hq
            rw [this] at hb
            simpa using hb
          have hin : nx s a < s.size := nb_in (fun e => by rw [e, sym0] at hs; cases hs)
          rw [nb_at hin] at hs
          have := rdSym_adv ns hin hs _ _ h
          omega
        · rw [hq] at h
          simp only [cond_true] at h
          have hin : nx s a < s.size := nb_in (by simp at hq; omega)
          have := rdLoop_adv (rdExpr_adv s d) _ _ _ _ (by omega) _ _ h
          omega
    · rw [hb] at h
      cases h
end Go.Proofs.Ytbdollafpjejiaa

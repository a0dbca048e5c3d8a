/- The reference's reading with a stack, as a function; it agrees with Read. -/
import Derived.Test.YtbdollafpjejiaaSvld
namespace Go.Proofs.Ytbdollafpjejiaa
open Go.RowKit Go.Shelf
set_option linter.unusedSimpArgs false
set_option linter.unusedVariables false
set_option maxRecDepth 100000

/-- The last list, and the lists before it. -/
def topL (op : List (List Int)) : List Int := op.getLastD []
/-- x appended to the last list. -/
def pushL (op : List (List Int)) (x : Int) : List (List Int) := bif op.length == 0 then [] else op.dropLast ++ [topL op ++ [x]]
abbrev RfRes := List Nd × (Int × Int)
def rfEnd (s : ByteArray) (out : List Nd) (dn : Bool) : RfRes := bif !dn then ([], (1, s.size)) else bif decide (300 < out.length) then ([], (10, -1)) else (out, (0, 0))
/-- The rounds of the reference. -/
def rfGo (s : ByteArray) : Nat → Nat → List Nd → List (List Int) → Bool → RfRes
  | 0, _, _, _, _ => ([], (0, 0))
  | f + 1, i, out, op, dn =>
    bif !decide (nx s i < s.size) then rfEnd s out dn else
    bif dn || (bt s (nx s i) == 41 && op.length == 0) || (bt s (nx s i) != 40 && bt s (nx s i) != 41 && !symB (bt s (nx s i))) then ([], (1, nx s i)) else
    bif bt s (nx s i) != 41 && op.length == 12 then ([], (10, nx s i)) else
    bif bt s (nx s i) == 40 then rfGo s f (nx s i + 1) out (op ++ [[]]) dn else
    bif bt s (nx s i) == 41 then rfGo s f (nx s i + 1) (out ++ [(⟨#[]⟩, topL op)]) (pushL op.dropLast out.length) (op.dropLast.length == 0 || dn) else
    bif decide (12 < symEnd (s.extract (nx s i) s.size)) then ([], (1, nx s i)) else
    rfGo s f (nx s i + symEnd (s.extract (nx s i) s.size)) (out ++ [(s.extract (nx s i) (nx s i + symEnd (s.extract (nx s i) s.size)), [])]) (pushL op out.length) (op.length == 0 || dn)
def rfAll (s : ByteArray) : RfRes := bif decide (4096 < s.size) then ([], (2, -1)) else rfGo s (s.size + 1) 0 [] [] false

theorem topL_snoc (op : List (List Int)) (cs : List Int) : topL (op ++ [cs]) = cs := by simp [topL, List.getLastD_eq_getLast?]
theorem pushL_snoc (op : List (List Int)) (cs : List Int) (x : Int) : pushL (op ++ [cs]) x = op ++ [cs ++ [x]] := by
  unfold pushL
  rw [topL_snoc, beq_false_of_ne (by simp)]
  simp
theorem pushL_nil (x : Int) : pushL [] x = [] := rfl
theorem push_len (op : List (List Int)) (x : Int) : (pushL op x).length = op.length := by
  rcases List.eq_nil_or_concat op with rfl | ⟨p, c, rfl⟩
  · rfl
  · rw [List.concat_eq_append, pushL_snoc]; simp
/-- The machine at f, i, out, op comes to what the reading r says. -/
def Sim (s : ByteArray) (f i : Nat) (out : List Nd) (op : List (List Int)) (op' : List (List Int)) (r : RdRes) : Prop :=
  match r with
  | .error e => rfGo s f i out op false = ([], e)
  | .ok (i', out') => ∃ f', s.size < f' + i' ∧ rfGo s f i out op false = rfGo s f' i' out' (pushL op' ((out'.length : Int) - 1)) (op'.length == 0)
theorem rdExpr_nx' (s : ByteArray) (d a : Nat) (X : List Nd) : rdExpr s d (nx s a) X = rdExpr s d a X := by
  rw [rdExpr.eq_def s d (nx s a), rdExpr.eq_def s d a]
  simp only [nx_idem]
theorem sim_loop {s : ByteArray} {ex : Nat → List Nd → RdRes} (hadv : ∀ a ns, a ≤ s.size → Adv s a ns (ex a ns)) {L : Nat} (hL : L ≤ 12)
    (hex : ∀ f a ns op, a ≤ s.size → op.length = L → 0 < L → s.size < f + a → nb s (nx s a) ≠ 41 → Sim s f a ns op op (ex a ns)) (hexn : ∀ a ns, ex (nx s a) ns = ex a ns) :
    ∀ (g f a : Nat) (cs : List Int) (ns : List Nd) (op0 : List (List Int)), a ≤ s.size → (op0 ++ [cs]).length = L → s.size < g + a → s.size < f + a → Sim s f a ns (op0 ++ [cs]) op0 (rdLoop s ex g a cs ns)
  | 0, f, a, cs, ns, op0, ha, _, hg, _ => by omega
  | g + 1, f, a, cs, ns, op0, ha, hl, hg, hf => by
    have hge := nx_ge s a
    have hle := nx_le ha
    unfold rdLoop
    cases hb : nb s (nx s a) == 41
    · simp only [cond_false]
      have hne : nb s (nx s a) ≠ 41 := by simpa using hb
      have h1 := hex f a ns (op0 ++ [cs]) ha hl (by rw [← hl]; simp) hf hne
      rw [hexn]
      cases he : ex a ns with
      | error e => rw [he] at h1; exact h1
      | ok p =>
        obtain ⟨a1, n1⟩ := p
        rw [he] at h1
        obtain ⟨f', hf', e1⟩ := h1
        have h2 := hadv a ns ha _ _ he
        rw [pushL_snoc, beq_false_of_ne (by simp)] at e1
        have h3 := sim_loop hadv hL hex hexn g f' a1 (cs ++ [(n1.length : Int) - 1]) n1 op0 h2.2.1 (by simpa using hl) (by omega) hf'
        simp only
        unfold Sim at h3 ⊢
        rw [e1]
        exact h3
    · simp only [cond_true]
      obtain ⟨f, rfl⟩ : ∃ e, f = e + 1 := ⟨f - 1, by omega⟩
      have h41 : nb s (nx s a) = 41 := by simpa using hb
      have hlt : nx s a < s.size := nb_in (by omega)
      have hbt : bt s (nx s a) = 41 := by rw [← nb_at hlt]; exact h41
      refine ⟨f, by omega, ?_⟩
      rw [rfGo, hbt, topL_snoc]
      simp [hlt, List.dropLast_concat]
theorem sim_expr (s : ByteArray) : ∀ (d L f a : Nat) (ns : List Nd) (op : List (List Int)), d + L = 12 → op.length = L → a ≤ s.size → s.size < f + a → (0 < L → nb s (nx s a) ≠ 41) → Sim s f a ns op op (rdExpr s d a ns) := by
  intro d
  induction d with
  | zero =>
    intro L f a ns op hd hl ha hf h41
    obtain ⟨f, rfl⟩ : ∃ e, f = e + 1 := ⟨f - 1, by omega⟩
    have hle := nx_le ha
    by_cases hlt : nx s a < s.size
    · have hnb := nb_at hlt
      by_cases hq : nb s (nx s a) = 40 ∨ symB (nb s (nx s a)) = true
      · rw [rdExpr_B hq]
        have hne : nb s (nx s a) ≠ 41 := h41 (by omega)
        show rfGo s (f + 1) a ns op false = _
        rw [hnb] at hq hne
        have e41 := beq_false_of_ne hne
        have eL : (L == 12) = true := by simp; omega
        rw [rfGo, hl]
        rcases hq with hq | hq
        · simp [hlt, hq, eL]
        · simp [hlt, hq, bne, e41, eL]
      · have h1 : nb s (nx s a) ≠ 40 := fun e => hq (.inl e)
        have h2 : symB (nb s (nx s a)) = false := by
          cases e : symB (nb s (nx s a)) with
          | false => rfl
          | true => exact absurd (.inr e) hq
        rw [rdExpr_A h1 h2]
        show rfGo s (f + 1) a ns op false = _
        have hne : nb s (nx s a) ≠ 41 := h41 (by omega)
        rw [hnb] at h1 h2 hne
        have e40 := beq_false_of_ne h1
        have e41 := beq_false_of_ne hne
        rw [rfGo]
        simp [hlt, bne, e40, e41, h2]
    · have hz : nb s (nx s a) = 0 := nb_end hlt
      rw [rdExpr_A (by rw [hz]; decide) (by rw [hz]; exact sym0)]
      show rfGo s (f + 1) a ns op false = _
      have : nx s a = s.size := by omega
      rw [rfGo]
      simp [hlt, rfEnd, this]
  | succ d ih =>
    intro L f a ns op hd hl ha hf h41
    obtain ⟨f, rfl⟩ : ∃ e, f = e + 1 := ⟨f - 1, by omega⟩
    have hle := nx_le ha
    have hge := nx_ge s a
    by_cases hlt : nx s a < s.size
    · have hnb := nb_at hlt
      by_cases hq : nb s (nx s a) = 40
      · rw [rdExpr_C hq]
        have h1 := sim_loop (s := s) (rdExpr_adv s d) (L := L + 1) (by omega) (fun f a ns op ha hl _ hf hne => ih (L + 1) f a ns op (by omega) hl ha hf (fun _ => hne)) (fun a ns => rdExpr_nx' s d a ns) (s.size + 1) f (nx s a + 1) [] ns op (by omega) (by simp [hl]) (by omega) (by omega)
        have e : rfGo s (f + 1) a ns op false = rfGo s f (nx s a + 1) ns (op ++ [[]]) false := by
          rw [hnb] at hq
          have eL : (L == 12) = false := beq_false_of_ne (by omega)
          rw [rfGo, hq, hl]
          simp [hlt, eL]
        unfold Sim at h1 ⊢
        rw [e]
        exact h1
      · cases hsy : symB (nb s (nx s a))
        · rw [rdExpr_A hq hsy]
          show rfGo s (f + 1) a ns op false = _
          by_cases hc : nb s (nx s a) = 41
          · have hL : L = 0 := by
              rcases Nat.eq_zero_or_pos L with h | h
              · exact h
              · exact absurd hc (h41 h)
            rw [hnb] at hc
            rw [rfGo, hc, hl]
            simp [hlt, hL]
          · rw [hnb] at hq hsy hc
            have e40 := beq_false_of_ne hq
            have e41 := beq_false_of_ne hc
            rw [rfGo]
            simp [hlt, bne, e40, e41, hsy]
        · rw [rdExpr_D hq hsy]
          have hc : nb s (nx s a) ≠ 41 := by
            intro e
            rw [e] at hsy
            exact absurd hsy (by decide +kernel)
          have hpos := symEnd_pos (s := s.extract (nx s a) s.size) (by simp; omega) (by
            show symB (bt (s.extract (nx s a) s.size) 0) = true
            rw [bt_extract s (nx s a) s.size 0 (Nat.le_refl _) (by omega), Nat.add_zero, ← hnb]
            exact hsy)
          rw [hnb] at hq hsy hc
          have e40 := beq_false_of_ne hq
          have e41 := beq_false_of_ne hc
          have eL : (L == 12) = false := beq_false_of_ne (by omega)
          unfold rdSym
          cases h12 : decide (12 < symEnd (s.extract (nx s a) s.size))
          · refine ⟨f, by omega, ?_⟩
            rw [rfGo, h12, hl]
            have e : (((ns ++ [(s.extract (nx s a) (nx s a + symEnd (s.extract (nx s a) s.size)), ([] : List Int))]).length : Nat) : Int) - 1 = ns.length := by simp
            rw [e]
            simp [hlt, bne, e40, e41, eL, hsy]
          · show rfGo s (f + 1) a ns op false = _
            rw [rfGo, h12, hl]
            simp [hlt, bne, e40, e41, eL, hsy]
    · have hz : nb s (nx s a) = 0 := nb_end hlt
      rw [rdExpr_A (by rw [hz]; decide) (by rw [hz]; exact sym0)]
      show rfGo s (f + 1) a ns op false = _
      have : nx s a = s.size := by omega
      rw [rfGo]
      simp [hlt, rfEnd, this]
theorem rf_all (s : ByteArray) : rfAll s = rdAll s := by
  unfold rfAll rdAll
  cases decide (4096 < s.size)
  · simp only [cond_false]
    have h1 := sim_expr s 12 0 (s.size + 1) 0 [] [] rfl rfl (Nat.zero_le _) (by omega) (fun h => absurd h (Nat.lt_irrefl 0))
    cases hr : rdExpr s 12 0 [] with
    | error e => rw [hr] at h1; exact h1
    | ok p =>
      obtain ⟨a, ns⟩ := p
      rw [hr] at h1
      obtain ⟨f', hf', e1⟩ := h1
      rw [e1]
      have ha := (rdExpr_adv s 12 0 [] (Nat.zero_le _) _ _ hr).2.1
      obtain ⟨f, rfl⟩ : ∃ e, f' = e + 1 := ⟨f' - 1, by omega⟩
      rw [rfGo]
      by_cases h2 : nx s a < s.size
      · simp [h2]
      · simp [h2, rfEnd]
  · rfl
end Go.Proofs.Ytbdollafpjejiaa

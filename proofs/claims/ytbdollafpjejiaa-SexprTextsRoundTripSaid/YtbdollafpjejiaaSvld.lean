/- What is read is valid, and its text is not much longer. -/
import Derived.Test.YtbdollafpjejiaaSrda
import Derived.Test.YtbdollafpjejiaaSprn
namespace Go.Proofs.Ytbdollafpjejiaa
open Go.RowKit Go.Shelf
set_option linter.unusedSimpArgs false
set_option linter.unusedVariables false
set_option maxRecDepth 100000

theorem tabS_app (ns ms : List Nd) : ∀ k, k ≤ ns.length → tabS (ns ++ ms) k = tabS ns k
  | 0, _ => rfl
  | k + 1, h => by
    rw [tabS, tabS, tabS_app ns ms k (by omega), ch_lt (by omega)]
theorem tabD_app (ns ms : List Nd) : ∀ k, k ≤ ns.length → tabD (ns ++ ms) k = tabD ns k
  | 0, _ => rfl
  | k + 1, h => by
    rw [tabD, tabD, tabD_app ns ms k (by omega), ch_lt (by omega)]
theorem code_app {ns ms : List Nd} {k : Nat} (h : k < ns.length) : nodeCode (ns ++ ms) k = nodeCode ns k := by
  unfold nodeCode
  rw [tabS_app ns ms k (by omega), tabD_app ns ms k (by omega), ch_lt h, sy_lt h]
def Good (ns : List Nd) : Prop := ∀ k, k < ns.length → nodeCode ns k = 0
theorem good_snoc {ns : List Nd} {n : Nd} (h : Good ns) (hc : nodeCode (ns ++ [n]) ns.length = 0) : Good (ns ++ [n]) := by
  intro k hk
  by_cases e : k = ns.length
  · subst e; exact hc
  · have hlt : k < ns.length := by simp at hk; omega
    rw [code_app hlt]
    exact h k hlt
theorem good_child {ns : List Nd} (h : Good ns) : ∀ k, k < ns.length → ∀ x ∈ ch ns k, 0 ≤ x ∧ x < k := by
  intro k hk x hx
  obtain ⟨r, hr⟩ := code_start (h k hk)
  exact start_mem hr x hx
theorem wb_app {S S' : List Int} (hS : Starts S) : ∀ (cs : List Int) (st : Int), 0 ≤ st → st ≤ S.length → wb (S ++ S') st cs = wb S st cs
  | [], st, _, _ => rfl
  | c :: cs, st, h0, h1 => by
    unfold wb
    by_cases hc : st = 0 ∨ c ≠ st - 1
    · rw [if_pos hc, if_pos hc]
    · rw [if_neg hc, if_neg hc]
      have hst : st ≠ 0 := fun e => hc (.inl e)
      have hj := hS (st - 1).toNat (by omega)
      rw [ix_app_lt (by omega)]
      exact wb_app hS cs _ hj.1 (by omega)
def stN (ns : List Nd) (k : Nat) : Int := ix (tabS ns (k + 1)) k
def dpN (ns : List Nd) (k : Nat) : Int := depOf (tabD ns k) (ch ns k)
theorem stN_app {ns ms : List Nd} {k : Nat} (h : k < ns.length) : stN (ns ++ ms) k = stN ns k := by
  unfold stN
  rw [tabS_app ns ms (k + 1) (by omega)]
theorem dpN_app {ns ms : List Nd} {k : Nat} (h : k < ns.length) : dpN (ns ++ ms) k = dpN ns k := by
  unfold dpN
  rw [tabD_app ns ms k (by omega), ch_lt h]
theorem fold_le (D : List Int) (b : Int) : ∀ (C : List Int) (x : Int), x ≤ b → (∀ c ∈ C, ix D c.toNat + 1 ≤ b) → C.foldl (fun d c => max d (ix D c.toNat + 1)) x ≤ b
  | [], x, hx, _ => hx
  | c :: C, x, hx, h => by
    rw [List.foldl_cons]
    refine fold_le D b C _ ?_ (fun c' hc => h c' (by simp [hc]))
    have := h c (by simp)
    omega
/-- The text of node i. -/
def txt (ns : List Nd) (i : Nat) : List UInt8 := txtN ns (i + 1) i
theorem segN_congr {t u : Nat → List UInt8} {cs : List Int} : ∀ (m : Nat), m ≤ cs.length → (∀ c ∈ cs, t c.toNat = u c.toNat) → segN t cs m = segN u cs m
  | 0, _, _ => rfl
  | m + 1, hm, h => by
    rw [segN_succ, segN_succ, segN_congr m (by omega) h, h _ (ix_mem hm)]
theorem txtN_fuel {ns : List Nd} (h : Good ns) : ∀ (f g i : Nat), i < ns.length → i < f → i < g → txtN ns f i = txtN ns g i
  | 0, _, _, _, hf, _ => by omega
  | _ + 1, 0, _, _, _, hg => by omega
  | f + 1, g + 1, i, hi, hf, hg => by
    have e : segN (txtN ns f) (ch ns i) (ch ns i).length = segN (txtN ns g) (ch ns i) (ch ns i).length := by
      refine segN_congr _ (Nat.le_refl _) (fun c hc => ?_)
      have := good_child h i hi c hc
      exact txtN_fuel h f g c.toNat (by omega) (by omega) (by omega)
    rw [txtN, txtN, e]
theorem txtN_app {ns ms : List Nd} (h : Good ns) : ∀ (f i : Nat), i < ns.length → txtN (ns ++ ms) f i = txtN ns f i
  | 0, _, _ => rfl
  | f + 1, i, hi => by
    have e : segN (txtN (ns ++ ms) f) (ch ns i) (ch ns i).length = segN (txtN ns f) (ch ns i) (ch ns i).length := by
      refine segN_congr _ (Nat.le_refl _) (fun c hc => ?_)
      have := good_child h i hi c hc
      exact txtN_app h f c.toNat (by omega)
    rw [txtN, txtN, sy_lt hi, ch_lt hi, e]
theorem txt_app {ns ms : List Nd} (h : Good ns) {i : Nat} (hi : i < ns.length) : txt (ns ++ ms) i = txt ns i := txtN_app h _ _ hi
theorem txt_sym {ns : List Nd} {i : Nat} (h : (sy ns i).size ≠ 0) : txt ns i = (sy ns i).data.toList := by
  rw [txt, txtN, beq_false_of_ne h]; rfl
theorem txt_list {ns : List Nd} (hg : Good ns) {i : Nat} (hi : i < ns.length) (h : (sy ns i).size = 0) : txt ns i = 40 :: (segN (txt ns) (ch ns i) (ch ns i).length ++ [41]) := by
  have e : segN (txtN ns i) (ch ns i) (ch ns i).length = segN (txt ns) (ch ns i) (ch ns i).length := by
    refine segN_congr _ (Nat.le_refl _) (fun c hc => ?_)
    have := good_child hg i hi c hc
    exact txtN_fuel hg _ _ c.toNat (by omega) (by omega) (by omega)
  rw [txt, txtN, h, e]; rfl
theorem sep_le (m : Nat) : (sepT m).length ≤ 1 := by
  unfold sepT
  cases m == 0 <;> simp

theorem last_len (ns : List Nd) (n : Nd) : (ns ++ [n]).length - 1 = ns.length := by simp
/-- What a successful reading gives. -/
def VP (ns : List Nd) (a d : Nat) (r : RdRes) : Prop :=
  ∀ a' ns', r = .ok (a', ns') → Good ns → Good ns' ∧ (∃ new, ns' = ns ++ new) ∧ ns.length < ns'.length ∧ stN ns' (ns'.length - 1) = ns.length ∧ dpN ns' (ns'.length - 1) ≤ d ∧ (txt ns' (ns'.length - 1)).length + 1 + 2 * a ≤ 2 * a'
theorem stN_eq (ns : List Nd) (k : Nat) : stN ns k = (startOf (tabS ns k) (ch ns k)).getD 0 := tabS_at ns k
theorem sym_vp {s : ByteArray} {a d : Nat} (ns : List Nd) (hs : s.size ≤ 4096) (ha : a < s.size) (hsy : symB (bt s a) = true) : VP ns a (d + 1) (rdSym s a ns) := by
  intro a' ns' h hg
  have hadv := rdSym_adv ns ha hsy _ _ h
  unfold rdSym at h
  cases hd : decide (12 < symEnd (s.extract a s.size)) <;> simp [hd] at h
  obtain ⟨h1, h2⟩ := h
  have hle := symEnd_le (s.extract a s.size)
  have hsz : (s.extract a s.size).size = s.size - a := by simp
  rw [hsz] at hle
  have h12 : symEnd (s.extract a s.size) ≤ 12 := by simpa using hd
  generalize hn : symEnd (s.extract a s.size) = n at h1 h2 hle h12
  have hpos : 0 < n := by omega
  subst h1; subst h2
  have hsz2 : (s.extract a (a + n)).size = n := by simp; omega
  have hall : ∀ j, j < n → sat (s.extract a (a + n)) j = true := by
    intro j hj
    have h1 : sat (s.extract a s.size) j = true := by
      unfold symEnd at hn
      cases e : (List.range (s.extract a s.size).size).find? (fun k => !sat (s.extract a s.size) k) with
      | none =>
        rw [List.find?_eq_none] at e
        have := e j (by simp; omega)
        simpa using this
      | some k =>
        rw [e] at hn
        have hk : k = n := hn
        subst hk
        have := List.find?_range_eq_some.1 e
        have h3 := this.2.2 j hj
        simpa using h3
    unfold sat at h1 ⊢
    rw [bt_extract _ _ _ _ (Nat.le_refl _) (by omega)] at h1
    rw [bt_extract _ _ _ _ (by omega) (by omega)]
    exact h1
  have hsym : symbolB (s.extract a (a + n)) = true := by
    rw [symbolB_good (fun j hj => hall j (by omega)), hsz2]
    simp; omega
  have hcode : nodeCode (ns ++ [(s.extract a (a + n), [])]) ns.length = 0 := by
    unfold nodeCode
    rw [sy_at, ch_at]
    simp [hsym, startOf, wb, depOf]
  have hch : ch (ns ++ [(s.extract a (a + n), [])]) ns.length = [] := ch_at
  refine ⟨good_snoc hg hcode, ⟨_, rfl⟩, by simp, ?_, ?_, ?_⟩
  · rw [last_len, stN_eq, hch]
    simp [startOf, wb, tabS_len]
  · rw [last_len, dpN, hch]
    simp [depOf]; omega
  · rw [last_len, txt_sym (by rw [sy_at, hsz2]; omega), sy_at]
    simp; omega

theorem segN_pre (t : Nat → List UInt8) (cs ys : List Int) : ∀ m, m ≤ cs.length → segN t (cs ++ ys) m = segN t cs m
  | 0, _ => rfl
  | m + 1, h => by rw [segN_succ, segN_succ, segN_pre t cs ys m (by omega), ix_app_lt (by omega)]
theorem segN_snoc (t : Nat → List UInt8) (cs : List Int) (x : Int) : segN t (cs ++ [x]) (cs ++ [x]).length = segN t cs cs.length ++ (sepT cs.length ++ t x.toNat) := by
  rw [show (cs ++ [x]).length = cs.length + 1 by simp, segN_succ, segN_pre t cs [x] cs.length (Nat.le_refl _), ix_app_at]
theorem segN_snoc_len (t : Nat → List UInt8) (cs : List Int) (x : Int) : (segN t (cs ++ [x]) (cs ++ [x]).length).length = (segN t cs cs.length).length + ((sepT cs.length).length + (t x.toNat).length) := by
  rw [segN_snoc]; simp
theorem ix_get (xs : List Int) (i : Nat) (h : i < xs.length) : xs[i] = ix xs i := by simp [ix, List.getD, h]
theorem startOf_last {ns : List Nd} {cs : List Int} {x : ByteArray} : startOf (tabS (ns ++ [(x, cs)]) ns.length) cs = wb (tabS ns ns.length) ns.length cs.reverse := by
  rw [tabS_app ns _ _ (Nat.le_refl _), startOf, tabS_len]
theorem dep_last {ns : List Nd} {cs : List Int} {x : ByteArray} {d : Int} (hd : 0 ≤ d) (h : ∀ c ∈ cs, 0 ≤ c ∧ c < ns.length ∧ dpN ns c.toNat ≤ d) : dpN (ns ++ [(x, cs)]) ns.length ≤ d + 1 := by
  rw [dpN, ch_at, tabD_app ns _ _ (Nat.le_refl _)]
  refine fold_le _ _ _ _ (by omega) (fun c hc => ?_)
  have h1 := h c hc
  rw [tabD_lt ns ns.length c.toNat (by omega)]
  have : dpN ns c.toNat ≤ d := h1.2.2
  unfold dpN at this
  omega
theorem list_code {ns : List Nd} {cs : List Int} {d : Int} {r : Int} (hd : 0 ≤ d) (hd2 : d ≤ 11) (hw : wb (tabS ns ns.length) ns.length cs.reverse = some r) (h : ∀ c ∈ cs, 0 ≤ c ∧ c < ns.length ∧ dpN ns c.toNat ≤ d) :
    nodeCode (ns ++ [((⟨#[]⟩ : ByteArray), cs)]) ns.length = 0 := by
  have h1 := dep_last (x := ⟨#[]⟩) hd h
  unfold dpN at h1
  rw [ch_at] at h1
  unfold nodeCode
  have e : (sy (ns ++ [((⟨#[]⟩ : ByteArray), cs)]) ns.length).size = 0 := by rw [sy_at]; rfl
  rw [if_neg (by rw [e]; simp), if_neg (by rw [e]; simp), ch_at, startOf_last, hw, if_neg (by simp), if_neg (by omega)]
theorem rdLoop_vp {s : ByteArray} {ex : Nat → List Nd → RdRes} {d b : Nat} {ns0 : List Nd} (hd2 : d ≤ 11) (hadv : ∀ a ns, a ≤ s.size → Adv s a ns (ex a ns)) (hvp : ∀ a ns, a ≤ s.size → VP ns a d (ex a ns)) :
    ∀ (f a : Nat) (cs : List Int) (ns : List Nd), a ≤ s.size → Good ns → (∃ new, ns = ns0 ++ new) → wb (tabS ns ns.length) ns.length cs.reverse = some (ns0.length : Int) → (∀ c ∈ cs, 0 ≤ c ∧ c < ns.length ∧ dpN ns c.toNat ≤ d) →
      (segN (txt ns) cs cs.length).length + 2 * (b + 1) ≤ 2 * a → ∀ a' ns', rdLoop s ex f a cs ns = .ok (a', ns') →
      Good ns' ∧ (∃ new, ns' = ns0 ++ new) ∧ ns0.length < ns'.length ∧ stN ns' (ns'.length - 1) = ns0.length ∧ dpN ns' (ns'.length - 1) ≤ ((d + 1 : Nat) : Int) ∧ (txt ns' (ns'.length - 1)).length + 1 + 2 * b ≤ 2 * a'
  | 0, a, cs, ns, _, _, _, _, _, _, a', ns', h => by cases h
  | f + 1, a, cs, ns, ha, hg, hnew, hw, hc, hs, a', ns', h => by
    have hge := nx_ge s a
    have hle := nx_le ha
    unfold rdLoop at h
    cases hb : nb s (nx s a) == 41
    · rw [hb] at h
      simp only [cond_false] at h
      cases he : ex (nx s a) ns with
      | error e => rw [he] at h; cases h
      | ok p =>
        obtain ⟨a1, n1⟩ := p
        rw [he] at h
        have h1 := hadv _ _ hle _ _ he
        obtain ⟨g1, ⟨new1, rfl⟩, g3, g4, g5, g6⟩ := hvp _ _ hle _ _ he hg
        obtain ⟨new0, hn0⟩ := hnew
        have hL : ((ns ++ new1).length : Int) - 1 = (((ns ++ new1).length - 1 : Nat) : Int) := by omega
        have hw2 : wb (tabS (ns ++ new1) (ns ++ new1).length) (ns ++ new1).length (cs ++ [((ns ++ new1).length : Int) - 1]).reverse = some (ns0.length : Int) := by
          rw [List.reverse_append]
          show wb _ _ ((((ns ++ new1).length : Int) - 1) :: cs.reverse) = _
          unfold wb
          rw [if_neg (by omega)]
          have e1 : ix (tabS (ns ++ new1) (ns ++ new1).length) (((ns ++ new1).length : Int) - 1).toNat = ns.length := by
            rw [show (((ns ++ new1).length : Int) - 1).toNat = (ns ++ new1).length - 1 by omega, tabS_lt _ _ _ (by omega)]
            exact g4
          rw [e1]
          have e2 : tabS (ns ++ new1) (ns ++ new1).length = tabS ns ns.length ++ (tabS (ns ++ new1) (ns ++ new1).length).drop ns.length := by
            have e3 : (tabS (ns ++ new1) (ns ++ new1).length).take ns.length = tabS ns ns.length := by
              refine List.ext_getElem ?_ (fun i hi1 hi2 => ?_)
              · rw [List.length_take, tabS_len, tabS_len]; omega
              · have hi : i < ns.length := by rw [tabS_len] at hi2; exact hi2
                have e4 := tabS_lt (ns ++ new1) (ns ++ new1).length i (by omega)
                have e5 := tabS_lt ns ns.length i hi
                have e6 := stN_app (ms := new1) hi
                unfold stN at e6
                rw [e6, ← e5] at e4
                rw [List.getElem_take, ix_get, ix_get]
                exact e4
            rw [← e3, List.take_append_drop]
          rw [e2, wb_app (starts_tab ns ns.length) _ _ (by omega) (by rw [tabS_len]; omega)]
          exact hw
        refine rdLoop_vp hd2 hadv hvp f a1 _ (ns ++ new1) h1.2.1 g1 ⟨new0 ++ new1, by rw [hn0, List.append_assoc]⟩ hw2 ?_ ?_ a' ns' h
        · intro c hcm
          rcases List.mem_append.1 hcm with h2 | h2
          · have h3 := hc c h2
            have hlt : c.toNat < ns.length := by omega
            refine ⟨h3.1, by omega, ?_⟩
            rw [dpN_app hlt]
            exact h3.2.2
          · simp only [List.mem_singleton] at h2
            subst h2
            refine ⟨by omega, by omega, ?_⟩
            rw [show (((ns ++ new1).length : Int) - 1).toNat = (ns ++ new1).length - 1 by omega]
            exact g5
        · rw [segN_snoc_len]
          have e1 : segN (txt (ns ++ new1)) cs cs.length = segN (txt ns) cs cs.length := by
            refine segN_congr _ (Nat.le_refl _) (fun c hcm => ?_)
            have h3 := hc c hcm
            exact txt_app hg (by omega)
          rw [e1, show (((ns ++ new1).length : Int) - 1).toNat = (ns ++ new1).length - 1 by omega]
          have := sep_le cs.length
          omega
    · rw [hb] at h
      simp only [cond_true] at h
      injection h with h
      injection h with h1 h2
      subst h1; subst h2
      have hcode := list_code (d := d) (by omega) (by omega) hw hc
      have hgn := good_snoc hg hcode
      obtain ⟨new0, hn0⟩ := hnew
      refine ⟨hgn, ⟨new0 ++ [(⟨#[]⟩, cs)], by rw [hn0, List.append_assoc]⟩, by rw [hn0]; simp, ?_, ?_, ?_⟩
      · rw [last_len, stN_eq, ch_at, startOf_last, hw]; rfl
      · rw [last_len]
        have := dep_last (x := ⟨#[]⟩) (d := d) (by omega) hc
        omega
      · rw [last_len, txt_list hgn (by simp) (by rw [sy_at]; rfl), ch_at]
        have e1 : segN (txt (ns ++ [((⟨#[]⟩ : ByteArray), cs)])) cs cs.length = segN (txt ns) cs cs.length := by
          refine segN_congr _ (Nat.le_refl _) (fun c hcm => ?_)
          have h3 := hc c hcm
          exact txt_app hg (by omega)
        rw [e1]
        simp
        omega

theorem rdExpr_vp {s : ByteArray} (hs : s.size ≤ 4096) : ∀ d a ns, d ≤ 12 → a ≤ s.size → VP ns a d (rdExpr s d a ns)
  | 0, a, ns, _, ha => by
    intro a' ns' h
    unfold rdExpr at h
    cases hb : (nb s (nx s a) != 40 && !symB (nb s (nx s a))) <;> rw [hb] at h <;> cases h
  | d + 1, a, ns, hd, ha => by
    intro a' ns' h hg
    have hge := nx_ge s a
    have hle := nx_le ha
    by_cases hq : nb s (nx s a) = 40
    · rw [rdExpr_C hq] at h
      have hin : nx s a < s.size := nb_in (by omega)
      have h1 := rdLoop_vp (b := nx s a) (ns0 := ns) (d := d) (by omega) (rdExpr_adv s d) (fun a ns ha => rdExpr_vp hs d a ns (by omega) ha) _ _ [] ns (by omega) hg ⟨[], by simp⟩ rfl (fun c hc => by cases hc) (by simp [segN]) a' ns' h
      obtain ⟨g1, g2, g3, g4, g5, g6⟩ := h1
      exact ⟨g1, g2, g3, g4, g5, by omega⟩
    · cases hsy : symB (nb s (nx s a))
      · rw [rdExpr_A hq hsy] at h
        cases h
      · rw [rdExpr_D hq hsy] at h
        have hin : nx s a < s.size := nb_in (fun e => by rw [e, sym0] at hsy; cases hsy)
        have h1 := sym_vp (d := d) ns hs hin (by rw [← nb_at hin]; exact hsy) a' ns' h hg
        obtain ⟨g1, g2, g3, g4, g5, g6⟩ := h1
        exact ⟨g1, g2, g3, g4, g5, by omega⟩
theorem rdAll_cases (s : ByteArray) : ((rdAll s).1 = [] ∧ (rdAll s).2.1 ≠ 0) ∨
    (s.size ≤ 4096 ∧ ∃ a ns, rdExpr s 12 0 [] = .ok (a, ns) ∧ ¬ nx s a < s.size ∧ ns.length ≤ 300 ∧ rdAll s = (ns, (0, 0))) := by
  by_cases h1 : 4096 < s.size
  · left
    rw [rdAll, decide_eq_true h1]
    exact ⟨rfl, show (2 : Int) ≠ 0 by decide⟩
  · cases hr : rdExpr s 12 0 [] with
    | error e =>
      left
      obtain ⟨c, i⟩ := e
      have hc := rdExpr_err s 12 0 [] c i (Nat.zero_le _) hr
      rw [rdAll, decide_eq_false h1, hr]
      exact ⟨rfl, hc⟩
    | ok p =>
      obtain ⟨a, ns⟩ := p
      by_cases h2 : nx s a < s.size
      · left
        rw [rdAll, decide_eq_false h1, hr]
        simp only [cond_false, decide_eq_true h2, cond_true]
        exact ⟨trivial, by decide⟩
      · by_cases h3 : 300 < ns.length
        · left
          rw [rdAll, decide_eq_false h1, hr]
          simp only [cond_false, decide_eq_false h2, decide_eq_true h3, cond_true]
          exact ⟨trivial, by decide⟩
        · right
          refine ⟨by omega, a, ns, rfl, h2, by omega, ?_⟩
          rw [rdAll, decide_eq_false h1, hr]
          simp only [cond_false, decide_eq_false h2, decide_eq_false h3]
theorem rd_valid {s : ByteArray} {a : Nat} {ns : List Nd} (hs : s.size ≤ 4096) (hr : rdExpr s 12 0 [] = .ok (a, ns)) (h3 : ns.length ≤ 300) :
    sxFault ns = (0, 0) ∧ (prBytes ns).length + 1 ≤ 2 * s.size := by
  obtain ⟨g1, _, g3, g4, g5, g6⟩ := rdExpr_vp hs 12 0 [] (Nat.le_refl _) (Nat.zero_le _) a ns hr (fun k hk => by cases hk)
  have ha := rdExpr_adv s 12 0 [] (Nat.zero_le _) a ns hr
  have h1 : 1 ≤ ns.length := g3
  refine ⟨?_, ?_⟩
  · rw [sx_miss h1 h3 g1, tabS_lt ns ns.length (ns.length - 1) (by omega)]
    have : ix (tabS ns (ns.length - 1 + 1)) (ns.length - 1) = 0 := g4
    rw [this]; rfl
  · have e : prBytes ns = txt ns (ns.length - 1) := txtN_fuel g1 _ _ _ (by omega) (by omega) (by omega)
    rw [e]
    omega
end Go.Proofs.Ytbdollafpjejiaa

/- A text inside another one is read as its nodes, moved on. -/
import Derived.Test.YtbdollafpjejiaaSrt
namespace Go.Proofs.Ytbdollafpjejiaa
open Go.RowKit Go.Shelf
set_option linter.unusedSimpArgs false
set_option linter.unusedVariables false
set_option maxRecDepth 100000

def shK (b : Int) (cs : List Int) : List Int := cs.map (· + b)
def shN (b : Int) (ns : List Nd) : List Nd := ns.map fun n => (n.1, shK b n.2)
theorem shN_app (b : Int) (ns ms : List Nd) : shN b (ns ++ ms) = shN b ns ++ shN b ms := by simp [shN]
theorem shN_len (b : Int) (ns : List Nd) : (shN b ns).length = ns.length := by simp [shN]
/-- s lies in t at o, and no symbol byte follows it. -/
structure In_ (s t : ByteArray) (o : Nat) : Prop where
  le : o + s.size ≤ t.size
  eq : ∀ j, j < s.size → bt t (o + j) = bt s j
  dl : Dl t (o + s.size)
section
variable {s t : ByteArray} {o : Nat}
theorem in_nx (h : In_ s t o) : ∀ (n a : Nat), s.size - a ≤ n → nx s a < s.size → nx t (o + a) = o + nx s a
  | 0, a, hn, hl => by
    have := nx_ge s a
    omega
  | n + 1, a, hn, hl => by
    have hge := nx_ge s a
    have hlt : a < s.size := by omega
    have e := h.eq a hlt
    have hle := h.le
    cases hs : isSp s a
    · rw [nx_stop (fun _ => hs), nx_stop (fun _ => by unfold isSp at hs ⊢; rw [e]; exact hs)]
    · rw [nx_step hlt hs] at hl ⊢
      rw [nx_step (show o + a < t.size by omega) (by unfold isSp at hs ⊢; rw [e]; exact hs)]
      exact in_nx h n (a + 1) (by omega) hl
theorem in_nx_end (h : In_ s t o) : ∀ (n a : Nat), s.size - a ≤ n → a ≤ s.size → ¬ nx s a < s.size → nx t (o + a) = nx t (o + s.size)
  | 0, a, hn, ha, hl => by
    have : a = s.size := by omega
    rw [this]
  | n + 1, a, hn, ha, hl => by
    by_cases he : a = s.size
    · rw [he]
    · have hlt : a < s.size := by omega
      have e := h.eq a hlt
      have hle := h.le
      cases hs : isSp s a
      · rw [nx_stop (fun _ => hs)] at hl
        omega
      · rw [nx_step hlt hs] at hl
        rw [nx_step (show o + a < t.size by omega) (by unfold isSp at hs ⊢; rw [e]; exact hs)]
        exact in_nx_end h n (a + 1) (by omega) (by omega) hl
theorem in_nb (h : In_ s t o) {a : Nat} (ha : a < s.size) : nb t (o + a) = nb s a := by
  have := h.le
  rw [nb_at ha, nb_at (by omega), h.eq a ha]
/-- What reading inside of t gives: the same, moved on, or too deep. -/
def Moved (o : Nat) (base : List Nd) (a' : Nat) (X' : List Nd) (r : RdRes) : Prop := r = .ok (o + a', base ++ shN base.length X') ∨ ∃ i, r = .error (10, i)
theorem in_sym (h : In_ s t o) {a : Nat} {X X' : List Nd} {a' : Nat} (base : List Nd) (ha : a ≤ s.size) (hr : rdSym s a X = .ok (a', X')) : rdSym t (o + a) (base ++ shN base.length X) = .ok (o + a', base ++ shN base.length X') := by
  have hle := h.le
  have hsz : (s.extract a s.size).size = s.size - a := by simp
  have hse := symEnd_le (s.extract a s.size)
  unfold rdSym at hr
  cases hd : decide (12 < symEnd (s.extract a s.size)) <;> rw [hd] at hr
  · have h12 : ¬ 12 < symEnd (s.extract a s.size) := of_decide_eq_false hd
    simp only [cond_false] at hr
    injection hr with hr
    injection hr with h1 h2
    subst h1; subst h2
    have e1 : symEnd (t.extract (o + a) t.size) = symEnd (s.extract a s.size) := by
      refine symEnd_at (by omega) (fun j hj => ?_) (fun hlt => ?_)
      · have h1 : sat (s.extract a s.size) j = true := by
          cases e : sat (s.extract a s.size) j with
          | true => rfl
          | false =>
            exfalso
            unfold symEnd at hj
            cases e2 : (List.range (s.extract a s.size).size).find? (fun k => !sat (s.extract a s.size) k) with
            | none =>
              rw [e2] at hj
              rw [List.find?_eq_none] at e2
              have := e2 j (by simp; have : j < (s.extract a s.size).size := hj; omega)
              rw [e] at this
              simp at this
            | some k =>
              rw [e2] at hj
              have hk : j < k := hj
              have := (List.find?_range_eq_some.1 e2).2.2 j hk
              rw [e] at this
              simp at this
        unfold sat at h1
        rw [bt_extract _ _ _ _ (Nat.le_refl _) (by omega)] at h1
        rw [Nat.add_assoc, h.eq (a + j) (by omega)]
        exact h1
      · by_cases he : a + symEnd (s.extract a s.size) = s.size
        · have := h.dl
          rw [← he, ← Nat.add_assoc] at this
          exact this hlt
        · have hk : symEnd (s.extract a s.size) < (s.extract a s.size).size := by omega
          have h1 : sat (s.extract a s.size) (symEnd (s.extract a s.size)) = false := by
            cases e2 : (List.range (s.extract a s.size).size).find? (fun k => !sat (s.extract a s.size) k) with
            | none =>
              exfalso
              have : symEnd (s.extract a s.size) = (s.extract a s.size).size := by unfold symEnd; rw [e2]; rfl
              omega
            | some k =>
              have e3 : symEnd (s.extract a s.size) = k := by unfold symEnd; rw [e2]; rfl
              rw [e3]
              have := List.find?_some e2
              simpa using this
          unfold sat at h1
          rw [bt_extract _ _ _ _ (Nat.le_refl _) (by omega)] at h1
          rw [Nat.add_assoc, h.eq _ (by omega)]
          exact h1
    have e2 : t.extract (o + a) (o + a + symEnd (s.extract a s.size)) = s.extract a (a + symEnd (s.extract a s.size)) := by
      refine ba_ext (by simp; omega) (fun k hk => ?_)
      have hk' : k < symEnd (s.extract a s.size) := by simp at hk; omega
      rw [bt_extract _ _ _ _ (by omega) (by omega), bt_extract _ _ _ _ (by omega) (by omega), Nat.add_assoc, h.eq _ (by omega)]
    unfold rdSym
    rw [e1, hd, e2]
    simp [shN_app, shN, shK, Nat.add_assoc]
  · cases hr
theorem in_loop (h : In_ s t o) {ex1 ex2 : Nat → List Nd → RdRes} {base : List Nd} (hadv : ∀ a ns, a ≤ s.size → Adv s a ns (ex1 a ns))
    (hex : ∀ a X a' X', a ≤ s.size → ex1 a X = .ok (a', X') → Moved o base a' X' (ex2 (o + a) (base ++ shN base.length X)))
    (hne : ∀ a X a' X', a ≤ s.size → ex1 (nx s a) X = .ok (a', X') → nx s a < s.size) :
    ∀ (f a : Nat) (cs : List Int) (X : List Nd) (a' : Nat) (X' : List Nd) (f2 : Nat), a ≤ s.size → rdLoop s ex1 f a cs X = .ok (a', X') → t.size < f2 + (o + a) →
      Moved o base a' X' (rdLoop t ex2 f2 (o + a) (shK base.length cs) (base ++ shN base.length X))
  | 0, a, cs, X, a', X', f2, ha, hr, hf => by cases hr
  | f + 1, a, cs, X, a', X', 0, ha, hr, hf => by
    have := h.le
    omega
  | f + 1, a, cs, X, a', X', f2 + 1, ha, hr, hf => by
    have hle := h.le
    have hge := nx_ge s a
    have hnl := nx_le ha
    unfold rdLoop at hr
    cases hb : nb s (nx s a) == 41
    · rw [hb] at hr
      simp only [cond_false] at hr
      cases he : ex1 (nx s a) X with
      | error e => rw [he] at hr; cases hr
      | ok p =>
        obtain ⟨a1, X1⟩ := p
        rw [he] at hr
        have hlt := hne a X a1 X1 ha he
        have h1 := hadv _ _ hnl _ _ he
        have hm := hex _ _ _ _ hnl he
        rw [rdLoop, in_nx h _ a (Nat.le_refl _) hlt, in_nb h hlt, hb]
        simp only [cond_false]
        rcases hm with hm | ⟨i, hm⟩
        · rw [hm]
          have hlen : ((base ++ shN base.length X1).length : Int) - 1 = ((X1.length : Int) - 1) + base.length := by
            rw [List.length_append, shN_len]; omega
          have hsh : shK base.length cs ++ [((base ++ shN base.length X1).length : Int) - 1] = shK base.length (cs ++ [(X1.length : Int) - 1]) := by
            rw [hlen]; simp [shK]
          simp only [hsh]
          exact in_loop h hadv hex hne f a1 _ X1 a' X' f2 h1.2.1 hr (by omega)
        · rw [hm]
          exact .inr ⟨i, rfl⟩
    · rw [hb] at hr
      simp only [cond_true] at hr
      injection hr with hr
      injection hr with h1 h2
      subst h1; subst h2
      have hlt : nx s a < s.size := nb_in (by simp at hb; omega)
      rw [rdLoop, in_nx h _ a (Nat.le_refl _) hlt, in_nb h hlt, hb]
      left
      simp [shN_app, shN, Nat.add_assoc]
theorem ok_in (s : ByteArray) (d a : Nat) (X : List Nd) (p : Nat × List Nd) (h : rdExpr s d a X = .ok p) : nx s a < s.size ∧ (nb s (nx s a) = 40 ∨ symB (nb s (nx s a)) = true) := by
  by_cases hq : nb s (nx s a) = 40
  · exact ⟨nb_in (by omega), .inl hq⟩
  · cases hsy : symB (nb s (nx s a))
    · rw [rdExpr_A hq hsy] at h
      cases h
    · exact ⟨nb_in (fun e => by rw [e, sym0] at hsy; cases hsy), .inr rfl⟩
theorem in_expr (h : In_ s t o) (base : List Nd) : ∀ (d d2 a : Nat) (X : List Nd) (a' : Nat) (X' : List Nd), a ≤ s.size → rdExpr s d a X = .ok (a', X') → Moved o base a' X' (rdExpr t d2 (o + a) (base ++ shN base.length X))
  | 0, d2, a, X, a', X', ha, hr => by
    unfold rdExpr at hr
    cases hb : (nb s (nx s a) != 40 && !symB (nb s (nx s a))) <;> rw [hb] at hr <;> cases hr
  | d + 1, 0, a, X, a', X', ha, hr => by
    obtain ⟨h1, h2⟩ := ok_in s _ _ _ _ hr
    right
    refine ⟨_, rdExpr_B ?_⟩
    rw [in_nx h _ a (Nat.le_refl _) h1, in_nb h h1]
    exact h2
  | d + 1, d2 + 1, a, X, a', X', ha, hr => by
    obtain ⟨h1, h2⟩ := ok_in s _ _ _ _ hr
    have hnl := nx_le ha
    by_cases hq : nb s (nx s a) = 40
    · rw [rdExpr_C hq] at hr
      rw [rdExpr_C (by rw [in_nx h _ a (Nat.le_refl _) h1, in_nb h h1]; exact hq), in_nx h _ a (Nat.le_refl _) h1, Nat.add_assoc]
      have hle := h.le
      exact in_loop h (rdExpr_adv s d) (fun a X a' X' ha hx => in_expr h base d d2 a X a' X' ha hx) (fun a X a' X' ha hx => by
        have := (ok_in s _ _ _ _ hx).1
        rw [nx_idem] at this
        exact this) _ (nx s a + 1) [] X a' X' _ (by omega) hr (by omega)
    · cases hsy : symB (nb s (nx s a))
      · rw [rdExpr_A hq hsy] at hr
        cases hr
      · rw [rdExpr_D hq hsy] at hr
        rw [rdExpr_D (by rw [in_nx h _ a (Nat.le_refl _) h1, in_nb h h1]; exact hq) (by rw [in_nx h _ a (Nat.le_refl _) h1, in_nb h h1]; exact hsy), in_nx h _ a (Nat.le_refl _) h1]
        left
        exact in_sym h base hnl hr
end
theorem rdExpr_nx (s : ByteArray) (d a : Nat) (X : List Nd) : rdExpr s d (nx s a) X = rdExpr s d a X := by
  rw [rdExpr.eq_def s d (nx s a), rdExpr.eq_def s d a]
  simp only [nx_idem]
theorem shN_zero (ns : List Nd) : shN 0 ns = ns := by
  have e : ∀ cs : List Int, shK 0 cs = cs := fun cs => by simp [shK]
  simp [shN, e]

theorem nb_head (s : ByteArray) (d a : Nat) (X : List Nd) (p : Nat × List Nd) (h : rdExpr s d a X = .ok p) : (nb s (nx s a) == 41) = false := by
  have h1 := (ok_in s d a X p h).2
  cases e : nb s (nx s a) == 41
  · rfl
  · exfalso
    have e2 : nb s (nx s a) = 41 := by simpa using e
    rw [e2] at h1
    rcases h1 with h1 | h1
    · cases h1
    · exact absurd h1 (by decide +kernel)
/-- The nodes of a list of two expressions. -/
def pairN (x y : List Nd) : List Nd := (x ++ shN x.length y) ++ [((⟨#[]⟩ : ByteArray), [(x.length : Int) - 1, ((x ++ shN x.length y).length : Int) - 1])]
theorem nest_expr {a b t : ByteArray} {x y : List Nd} {ea eb : Nat} (ha : rdExpr a 12 0 [] = .ok (ea, x)) (hea : ¬ nx a ea < a.size) (hb : rdExpr b 12 0 [] = .ok (eb, y)) (heb : ¬ nx b eb < b.size)
    (hz : t.size = a.size + b.size + 3) (h0 : bt t 0 = 40) (hA : ∀ j, j < a.size → bt t (1 + j) = bt a j) (h1 : bt t (1 + a.size) = 32) (hB : ∀ j, j < b.size → bt t (a.size + 2 + j) = bt b j) (h2 : bt t (a.size + 2 + b.size) = 41) :
    rdExpr t 12 0 [] = .ok (t.size, pairN x y) ∨ ∃ i, rdExpr t 12 0 [] = .error (10, i) := by
  have IA : In_ a t 1 := ⟨by omega, hA, fun _ => by rw [h1]; decide +kernel⟩
  have IB : In_ b t (a.size + 2) := ⟨by omega, hB, fun _ => by rw [h2]; decide +kernel⟩
  have oa := ok_in a _ _ _ _ ha
  have ob := ok_in b _ _ _ _ hb
  have va := rdExpr_adv a 12 0 [] (Nat.zero_le _) _ _ ha
  have vb := rdExpr_adv b 12 0 [] (Nat.zero_le _) _ _ hb
  have n0 : nx t 0 = 0 := nx_at (by rw [h0]; decide)
  have b0 : nb t (nx t 0) = 40 := by rw [n0, nb_at (by omega), h0]
  rw [rdExpr_C b0, n0]
  have na : nx t (0 + 1) = 1 + nx a 0 := in_nx IA _ 0 (Nat.le_refl _) oa.1
  have ma := in_expr IA [] 12 11 (nx a 0) [] ea x (nx_le (Nat.zero_le _)) (by rw [rdExpr_nx]; exact ha)
  have nb2 : nx t (1 + ea) = a.size + 2 + nx b 0 := by
    rw [in_nx_end IA _ ea (Nat.le_refl _) va.2.1 hea, nx_step (show 1 + a.size < t.size by omega) (by unfold isSp; rw [h1]; decide), show 1 + a.size + 1 = a.size + 2 + 0 by omega]
    exact in_nx IB _ 0 (Nat.le_refl _) ob.1
  have mb := in_expr IB x 12 11 (nx b 0) [] eb y (nx_le (Nat.zero_le _)) (by rw [rdExpr_nx]; exact hb)
  have n3 : nx t (a.size + 2 + eb) = a.size + 2 + b.size := by
    rw [in_nx_end IB _ eb (Nat.le_refl _) vb.2.1 heb]
    exact nx_at (by rw [h2]; decide)
  rw [show t.size + 1 = (a.size + b.size + 1) + 1 + 1 + 1 by omega, rdLoop, na, in_nb IA oa.1, nb_head a 12 0 [] _ ha]
  simp only [cond_false]
  rcases ma with ma | ⟨i, ma⟩
  · have ma2 : rdExpr t 11 (1 + nx a 0) [] = .ok (1 + ea, x) := by
      simp only [List.length_nil, Int.natCast_zero, shN_zero, List.nil_append] at ma
      exact ma
    rw [ma2]
    simp only [List.nil_append]
    rw [rdLoop, nb2, in_nb IB ob.1, nb_head b 12 0 [] _ hb]
    simp only [cond_false]
    rcases mb with mb | ⟨i, mb⟩
    · have mb2 : rdExpr t 11 (a.size + 2 + nx b 0) x = .ok (a.size + 2 + eb, x ++ shN x.length y) := by simpa [shN] using mb
      rw [mb2]
      simp only []
      rw [rdLoop, n3, nb_at (show a.size + 2 + b.size < t.size by omega), h2]
      left
      rw [hz, show a.size + b.size + 3 = a.size + 2 + b.size + 1 by omega]
      rfl
    · have mb2 : rdExpr t 11 (a.size + 2 + nx b 0) x = .error (10, i) := by simpa [shN] using mb
      rw [mb2]
      exact .inr ⟨i, rfl⟩
  · have ma2 : rdExpr t 11 (1 + nx a 0) [] = .error (10, i) := by simpa [shN] using ma
    rw [ma2]
    exact .inr ⟨i, rfl⟩
theorem nest_all {a b t : ByteArray} {x y : List Nd} (ha : (rdAll a).2.1 = 0) (hb : (rdAll b).2.1 = 0) (hx : (rdAll a).1 = x) (hy : (rdAll b).1 = y)
    (hz : t.size = a.size + b.size + 3) (h0 : bt t 0 = 40) (hA : ∀ j, j < a.size → bt t (1 + j) = bt a j) (h1 : bt t (1 + a.size) = 32) (hB : ∀ j, j < b.size → bt t (a.size + 2 + j) = bt b j) (h2 : bt t (a.size + 2 + b.size) = 41) :
    rdAll t = (pairN x y, (0, 0)) ∨ ((rdAll t).2.1 ≠ 0 ∧ (rdAll t).1 = [] ∧ (4093 < a.size + b.size ∨ (rdAll t).2.1 = 10)) := by
  rcases rdAll_cases a with ⟨_, h⟩ | ⟨_, ea, x', ra, na, _, qa⟩
  · exact absurd ha h
  rcases rdAll_cases b with ⟨_, h⟩ | ⟨_, eb, y', rb, nb', _, qb⟩
  · exact absurd hb h
  rw [qa] at hx
  rw [qb] at hy
  obtain rfl : x' = x := hx
  obtain rfl : y' = y := hy
  by_cases hl : 4096 < t.size
  · right
    rw [rdAll, decide_eq_true hl]
    exact ⟨show (2 : Int) ≠ 0 by decide, rfl, .inl (by omega)⟩
  · rcases nest_expr ra na rb nb' hz h0 hA h1 hB h2 with hr | ⟨i, hr⟩
    · have hn : ¬ nx t t.size < t.size := by
        have := nx_ge t t.size
        omega
      by_cases h3 : 300 < (pairN x' y').length
      · right
        rw [rdAll, decide_eq_false hl, hr]
        simp only [cond_false, decide_eq_false hn, decide_eq_true h3, cond_true]
        exact ⟨by decide, trivial, .inr trivial⟩
      · left
        rw [rdAll, decide_eq_false hl, hr]
        simp only [cond_false, decide_eq_false hn, decide_eq_false h3]
    · right
      rw [rdAll, decide_eq_false hl, hr]
      exact ⟨show (10 : Int) ≠ 0 by decide, rfl, .inr rfl⟩
theorem bt_left (s u : ByteArray) (k : Nat) (h : k < s.size) : bt (s ++ u) k = bt s k := by
  unfold bt
  rw [ByteArray.data_append]
  simp [List.getD, List.getElem?_append_left (show k < s.data.toList.length by simpa using h)]
theorem bt_right (s u : ByteArray) (k j : Nat) (h : k = s.size + j) : bt (s ++ u) k = bt u j := by
  subst h
  unfold bt
  rw [ByteArray.data_append]
  have : s.data.toList.length ≤ s.size + j := by simp
  simp [List.getD, List.getElem?_append_right this]
/-- The text of a list of two expressions. -/
def nestT (a b : ByteArray) : ByteArray := ((⟨#[40]⟩ ++ a) ++ ⟨#[32]⟩ ++ b) ++ ⟨#[41]⟩
theorem nestT_size (a b : ByteArray) : (nestT a b).size = a.size + b.size + 3 := by
  simp [nestT, ByteArray.size_append]
  show (1 : Nat) + a.size + 1 + b.size + 1 = _
  omega
theorem nest_any (a b : ByteArray) (ha : (rdAll a).2.1 = 0) (hb : (rdAll b).2.1 = 0) :
    rdAll (nestT a b) = (pairN (rdAll a).1 (rdAll b).1, (0, 0)) ∨ ((rdAll (nestT a b)).2.1 ≠ 0 ∧ (rdAll (nestT a b)).1 = [] ∧ (4093 < a.size + b.size ∨ (rdAll (nestT a b)).2.1 = 10)) := by
  have z1 : (⟨#[40]⟩ : ByteArray).size = 1 := rfl
  have z2 : (⟨#[32]⟩ : ByteArray).size = 1 := rfl
  have z3 : (⟨#[41]⟩ : ByteArray).size = 1 := rfl
  have s1 : ((⟨#[40]⟩ : ByteArray) ++ a).size = 1 + a.size := by rw [ByteArray.size_append, z1]
  have s2 : ((⟨#[40]⟩ : ByteArray) ++ a ++ ⟨#[32]⟩).size = a.size + 2 := by rw [ByteArray.size_append, s1, z2]; omega
  have s3 : ((⟨#[40]⟩ : ByteArray) ++ a ++ ⟨#[32]⟩ ++ b).size = a.size + 2 + b.size := by rw [ByteArray.size_append, s2]
  refine nest_all ha hb rfl rfl (nestT_size a b) ?_ (fun j hj => ?_) ?_ (fun j hj => ?_) ?_
  · rw [nestT, bt_left _ _ _ (by omega), bt_left _ _ _ (by omega), bt_left _ _ _ (by omega), bt_left _ _ _ (by omega)]; rfl
  · rw [nestT, bt_left _ _ _ (by omega), bt_left _ _ _ (by omega), bt_left _ _ _ (by omega), bt_right _ _ _ j (by omega)]
  · rw [nestT, bt_left _ _ _ (by omega), bt_left _ _ _ (by omega), bt_right _ _ _ 0 (by omega)]; rfl
  · rw [nestT, bt_left _ _ _ (by omega), bt_right _ _ _ j (by omega)]
  · rw [nestT, bt_right _ _ _ 0 (by omega)]; rfl
end Go.Proofs.Ytbdollafpjejiaa

/- The text of an expression is read as the expression. -/
import Derived.Test.YtbdollafpjejiaaSvld
namespace Go.Proofs.Ytbdollafpjejiaa
open Go.RowKit Go.Shelf
set_option linter.unusedSimpArgs false
set_option linter.unusedVariables false
set_option maxRecDepth 100000

/-- The children of a node: subtrees that follow each other from lo to hi. -/
def Chn (ns : List Nd) : Int → List Int → Int → Prop
  | lo, [], hi => lo = hi
  | lo, c :: cs, hi => stN ns c.toNat = lo ∧ lo ≤ c ∧ 0 ≤ lo ∧ Chn ns (c + 1) cs hi
theorem chn_wb {ns : List Nd} {k : Nat} : ∀ (rs : List Int) (st r hi : Int) (tail : List Int), 0 ≤ st → st ≤ k → wb (tabS ns k) st rs = some r → Chn ns st tail hi → Chn ns r (rs.reverse ++ tail) hi
  | [], st, r, hi, tail, _, _, hw, hc => by
    simp [wb] at hw
    subst hw
    exact hc
  | c :: rs, st, r, hi, tail, h0, h1, hw, hc => by
    unfold wb at hw
    split at hw
    · cases hw
    · rename_i hn
      have hst : st ≠ 0 := fun e => hn (.inl e)
      have hce : c = st - 1 := Classical.byContradiction (fun e => hn (.inr e))
      have hj := starts_tab ns k (st - 1).toNat (by rw [tabS_len]; omega)
      have hS : ix (tabS ns k) (st - 1).toNat = stN ns c.toNat := by
        rw [tabS_lt ns k _ (by omega), hce]
        rfl
      rw [List.reverse_cons, List.append_assoc]
      refine chn_wb rs _ r hi ([c] ++ tail) hj.1 (by omega) hw ?_
      refine ⟨hS.symm, by omega, hj.1, ?_⟩
      rw [show c + 1 = st by omega]
      exact hc
theorem good_chain {ns : List Nd} (h : Good ns) {k : Nat} (hk : k < ns.length) : Chn ns (stN ns k) (ch ns k) k := by
  obtain ⟨r, hr⟩ := code_start (h k hk)
  have e : stN ns k = r := by rw [stN_eq, hr]; rfl
  rw [e]
  have := chn_wb (ch ns k).reverse k r k [] (by omega) (Int.le_refl _) (by unfold startOf at hr; rw [tabS_len] at hr; exact hr) rfl
  simpa using this
theorem code_sym {ns : List Nd} {k : Nat} (h : nodeCode ns k = 0) (hs : (sy ns k).size ≠ 0) : symbolB (sy ns k) = true ∧ (ch ns k).length = 0 := by
  unfold nodeCode at h
  split at h
  · cases h
  · rename_i h1
    split at h
    · cases h
    · rename_i h2
      refine ⟨?_, Classical.byContradiction (fun e => h2 ⟨hs, e⟩)⟩
      cases e : symbolB (sy ns k) with
      | true => rfl
      | false => exact absurd ⟨hs, e⟩ h1
/-- The text of the children cs, m before them. -/
def segT (t : Nat → List UInt8) : Nat → List Int → List UInt8
  | _, [] => []
  | m, c :: cs => (sepT m ++ t c.toNat) ++ segT t (m + 1) cs
theorem segN_T (t : Nat → List UInt8) : ∀ (rest done : List Int), segN t (done ++ rest) (done ++ rest).length = segN t done done.length ++ segT t done.length rest
  | [], done => by simp [segT]
  | c :: rest, done => by
    have := segN_T t rest (done ++ [c])
    rw [List.append_assoc, List.singleton_append] at this
    rw [this, segN_snoc, segT]
    simp
theorem sym_len {s : ByteArray} (h : symbolB s = true) : 1 ≤ s.size ∧ s.size ≤ 12 ∧ ∀ k, k < s.size → sat s k = true := by
  unfold symbolB at h
  simp at h
  exact ⟨by omega, h.1.2, fun k hk => h.2 k hk⟩
theorem segT_len {ns : List Nd} {t : Nat → List UInt8} : ∀ (cs : List Int) (m : Nat) (lo hi : Int), Chn ns lo cs hi → (∀ c ∈ cs, ((t c.toNat).length : Int) + 1 ≤ 15 * (c + 1 - stN ns c.toNat)) → ((segT t m cs).length : Int) ≤ 15 * (hi - lo)
  | [], m, lo, hi, hc, _ => by
    have : lo = hi := hc
    subst this
    simp [segT]
  | c :: cs, m, lo, hi, hc, h => by
    obtain ⟨h1, h2, _, h3⟩ := hc
    have h4 := segT_len (ns := ns) (t := t) cs (m + 1) (c + 1) hi h3 (fun x hx => h x (by simp [hx]))
    have h5 := h c (by simp)
    have h6 := sep_le m
    rw [h1] at h5
    simp only [segT, List.length_append]
    omega
theorem txt_len {ns : List Nd} (hg : Good ns) : ∀ (n k : Nat), k < n → k < ns.length → ((txt ns k).length : Int) + 1 ≤ 15 * (k + 1 - stN ns k)
  | 0, k, h, _ => by omega
  | n + 1, k, h, hk => by
    have hst : stN ns k ≤ k := by
      have := starts_tab ns (k + 1) k (by rw [tabS_len]; omega)
      exact this.2
    by_cases hs : (sy ns k).size = 0
    · rw [txt_list hg hk hs]
      have h1 := segN_T (txt ns) (ch ns k) []
      simp only [List.nil_append] at h1
      rw [h1]
      have h2 := segT_len (t := txt ns) (ch ns k) 0 _ _ (good_chain hg hk) (fun c hc => by
        have h3 := good_child hg k hk c hc
        have h4 := txt_len hg n c.toNat (by omega) (by omega)
        rw [show ((c.toNat : Nat) : Int) = c by omega] at h4
        exact h4)
      simp [segN]
      omega
    · rw [txt_sym hs]
      have := (sym_len (code_sym (hg k hk) hs).1).2.1
      have e : (sy ns k).data.toList.length = (sy ns k).size := by simp
      rw [e]
      omega
theorem ok_bytes {ns : List Nd} (h : (sxFault ns).1 = 0) : (prBytes ns).length ≤ 4500 := by
  obtain ⟨hS, _⟩ := sx_ok h
  have h1 := hS.ge
  have h2 := hS.le
  have e : prBytes ns = txt ns (ns.length - 1) := txtN_fuel hS.code _ _ _ (by omega) (by omega) (by omega)
  rw [e]
  have h3 := txt_len hS.code ns.length (ns.length - 1) (by omega) (by omega)
  have h4 : stN ns (ns.length - 1) = 0 := by
    have := hS.root
    rw [tabS_lt ns ns.length (ns.length - 1) (by omega)] at this
    exact this
  rw [h4] at h3
  omega

/-- The bytes l stand in s from a on. -/
def At (s : ByteArray) (a : Nat) (l : List UInt8) : Prop := a + l.length ≤ s.size ∧ ∀ j, j < l.length → bt s (a + j) = (l.getD j 0).toNat
/-- No symbol byte stands at p. -/
def Dl (s : ByteArray) (p : Nat) : Prop := p < s.size → symB (bt s p) = false
theorem At.left {s : ByteArray} {a : Nat} {l m : List UInt8} (h : At s a (l ++ m)) : At s a l := by
  obtain ⟨h1, h2⟩ := h
  rw [List.length_append] at h1
  refine ⟨by omega, fun j hj => ?_⟩
  rw [h2 j (by rw [List.length_append]; omega)]
  simp [List.getD, List.getElem?_append_left hj]
theorem At.right {s : ByteArray} {a : Nat} {l m : List UInt8} (h : At s a (l ++ m)) : At s (a + l.length) m := by
  obtain ⟨h1, h2⟩ := h
  rw [List.length_append] at h1
  refine ⟨by omega, fun j hj => ?_⟩
  rw [Nat.add_assoc, h2 (l.length + j) (by rw [List.length_append]; omega)]
  simp [List.getD, List.getElem?_append_right (Nat.le_add_right l.length j)]
theorem At.head {s : ByteArray} {a : Nat} {x : UInt8} {l : List UInt8} (h : At s a (x :: l)) : a < s.size ∧ bt s a = x.toNat := by
  obtain ⟨h1, h2⟩ := h
  have := h2 0 (by simp)
  simp at h1
  exact ⟨by omega, by simpa using this⟩
theorem At.tail {s : ByteArray} {a : Nat} {x : UInt8} {l : List UInt8} (h : At s a (x :: l)) : At s (a + 1) l := by
  have : At s a ([x] ++ l) := h
  exact this.right
theorem ba_ext {s t : ByteArray} (h : s.size = t.size) (h2 : ∀ k, k < s.size → bt s k = bt t k) : s = t := by
  have e : s.data.toList = t.data.toList := by
    refine List.ext_getElem (by simpa using h) (fun i h1 h3 => ?_)
    have := h2 i (by simpa using h1)
    have a1 : i < s.data.size := by simpa using h1
    have a2 : i < t.data.size := by simpa using h3
    unfold bt at this
    simp only [List.getD, Array.getElem?_toList, Array.getElem?_eq_getElem a1, Array.getElem?_eq_getElem a2, Option.getD_some] at this
    have h4 := UInt8.toNat_inj.1 this
    simpa using h4
  have e2 : s.data = t.data := by
    have := congrArg List.toArray e
    simpa using this
  cases s; cases t
  simp at e2
  simp [e2]
theorem sym_space : ∀ b, b < 256 → symB b = true → spB ((b : Nat) : Int) = false := by decide +kernel
theorem nx_at {s : ByteArray} {a : Nat} (h : spB ((bt s a : Nat) : Int) = false) : nx s a = a := nx_stop (fun _ => h)
theorem symEnd_at {s : ByteArray} {a n : Nat} (hn : a + n ≤ s.size) (hall : ∀ j, j < n → symB (bt s (a + j)) = true) (hd : Dl s (a + n)) : symEnd (s.extract a s.size) = n := by
  have hsz : (s.extract a s.size).size = s.size - a := by simp
  by_cases he : a + n = s.size
  · have : symEnd (s.extract a s.size) = (s.extract a s.size).size := symEnd_all (fun j hj => by
      unfold sat
      rw [bt_extract _ _ _ _ (Nat.le_refl _) (by omega)]
      exact hall j (by omega))
    omega
  · refine symEnd_hit (by omega) (fun j hj => ?_) ?_
    · unfold sat
      rw [bt_extract _ _ _ _ (Nat.le_refl _) (by omega)]
      exact hall j hj
    · unfold sat
      rw [bt_extract _ _ _ _ (Nat.le_refl _) (by omega)]
      exact hd (by omega)
theorem bt_get (t : ByteArray) (j : Nat) : (t.data.toList.getD j 0).toNat = bt t j := rfl
theorem rt_sym {s t : ByteArray} {a : Nat} (ns : List Nd) (hat : At s a t.data.toList) (hs : symbolB t = true) (hd : Dl s (a + t.size)) : rdSym s a ns = .ok (a + t.size, ns ++ [(t, [])]) := by
  obtain ⟨h1, h2, h3⟩ := sym_len hs
  obtain ⟨g1, g2⟩ := hat
  have e : t.data.toList.length = t.size := by simp
  rw [e] at g1 g2
  have hse := symEnd_at (n := t.size) g1 (fun j hj => by rw [g2 j hj, bt_get]; exact h3 j hj) hd
  have hx : s.extract a (a + t.size) = t := by
    refine ba_ext (by simp; omega) (fun k hk => ?_)
    have hk' : k < t.size := by simp at hk; omega
    rw [bt_extract _ _ _ _ g1 (by omega), g2 k hk', bt_get]
  unfold rdSym
  rw [hse, decide_eq_false (by omega), hx]
  rfl
theorem txt_head {ns : List Nd} (hg : Good ns) {k : Nat} (hk : k < ns.length) : ∃ x l, txt ns k = x :: l ∧ (x = 40 ∨ symB x.toNat = true) := by
  by_cases hs : (sy ns k).size = 0
  · exact ⟨40, _, txt_list hg hk hs, .inl rfl⟩
  · have h1 := sym_len (code_sym (hg k hk) hs).1
    rw [txt_sym hs]
    cases e : (sy ns k).data.toList with
    | nil =>
      exfalso
      have e2 : (sy ns k).data.toList.length = (sy ns k).size := by simp
      rw [e] at e2
      simp at e2
      omega
    | cons x l =>
      refine ⟨x, l, rfl, .inr ?_⟩
      have := h1.2.2 0 (by omega)
      unfold sat bt at this
      rw [e] at this
      exact this
theorem head_facts {s : ByteArray} {a : Nat} {x : UInt8} {l : List UInt8} (h : At s a (x :: l)) (hx : x = 40 ∨ symB x.toNat = true) : nx s a = a ∧ nb s a = x.toNat ∧ nb s a ≠ 41 := by
  obtain ⟨h1, h2⟩ := h.head
  have h3 : nb s a = x.toNat := by rw [nb_at h1, h2]
  refine ⟨nx_at ?_, h3, ?_⟩
  · rw [h2]
    rcases hx with rfl | hx
    · decide
    · exact sym_space _ (UInt8.toNat_lt x) hx
  · rw [h3]
    rcases hx with rfl | hx
    · decide
    · intro e
      rw [e] at hx
      exact absurd hx (by decide +kernel)
theorem sepT_zero : sepT 0 = [] := rfl
theorem sepT_succ (m : Nat) : sepT (m + 1) = [32] := rfl
theorem rt_loop {s : ByteArray} {ns : List Nd} {k : Nat} {ex : Nat → List Nd → RdRes} {M : Int → Prop} (hg : Good ns) (hk : k ≤ ns.length)
    (hex : ∀ c : Int, M c → 0 ≤ c → c < k → ∀ a, At s a (txt ns c.toNat) → Dl s (a + (txt ns c.toNat).length) → ex a (ns.take (stN ns c.toNat).toNat) = .ok (a + (txt ns c.toNat).length, ns.take (c.toNat + 1))) :
    ∀ (rest done : List Int) (lo : Int) (p fuel : Nat), Chn ns lo rest k → (∀ c ∈ rest, M c ∧ 0 ≤ c ∧ c < k) → At s p (segT (txt ns) done.length rest ++ [41]) → s.size < fuel + p →
      rdLoop s ex fuel p done (ns.take lo.toNat) = .ok (p + (segT (txt ns) done.length rest).length + 1, ns.take k ++ [((⟨#[]⟩ : ByteArray), done ++ rest)])
  | [], done, lo, p, 0, _, _, hat, hf => by
    have := hat.1
    omega
  | _ :: _, done, lo, p, 0, _, _, hat, hf => by
    have := hat.1
    omega
  | [], done, lo, p, f + 1, hc, _, hat, hf => by
    have hlo : lo = (k : Int) := hc
    subst hlo
    have h1 : At s p (41 :: []) := hat
    obtain ⟨h2, h3⟩ := h1.head
    have h4 : nx s p = p := nx_at (by rw [h3]; decide)
    have h5 : nb s p = 41 := by rw [nb_at h2, h3]; rfl
    rw [rdLoop, h4, h5]
    simp [segT]
  | c :: rest, done, lo, p, f + 1, hc, hm, hat, hf => by
    obtain ⟨c1, c2, c3, c4⟩ := hc
    obtain ⟨hM, hcm⟩ := hm c (by simp)
    have hcl : c.toNat < ns.length := by omega
    have hat2 : At s p (sepT done.length ++ (txt ns c.toNat ++ (segT (txt ns) (done.length + 1) rest ++ [41]))) := by
      have : segT (txt ns) done.length (c :: rest) ++ [41] = sepT done.length ++ (txt ns c.toNat ++ (segT (txt ns) (done.length + 1) rest ++ [41])) := by simp [segT]
      rw [← this]; exact hat
    have hq := hat2.right
    obtain ⟨x, l, hxl, hx⟩ := txt_head hg hcl
    have hqh : At s (p + (sepT done.length).length) (x :: l) := by rw [← hxl]; exact hq.left
    obtain ⟨n1, n2, n3⟩ := head_facts hqh hx
    have hnx : nx s p = p + (sepT done.length).length := by
      cases hd : done.length with
      | zero => rw [hd, sepT_zero] at n1; exact n1
      | succ m =>
        rw [hd, sepT_succ] at n1 hat2
        have h1 : At s p (32 :: (txt ns c.toNat ++ (segT (txt ns) (m + 1 + 1) rest ++ [41]))) := hat2
        obtain ⟨h2, h3⟩ := h1.head
        rw [nx_step h2 (by unfold isSp; rw [h3]; decide)]
        exact n1
    have hdl : Dl s (p + (sepT done.length).length + (txt ns c.toNat).length) := by
      have h1 := hq.right
      intro hlt
      cases rest with
      | nil =>
        have h2 : At s _ (41 :: []) := h1
        rw [h2.head.2]
        decide +kernel
      | cons c' rest' =>
        have h2 : At s (p + (sepT done.length).length + (txt ns c.toNat).length) (32 :: ((txt ns c'.toNat ++ segT (txt ns) (done.length + 1 + 1) rest') ++ [41])) := by
          have : segT (txt ns) (done.length + 1) (c' :: rest') ++ [41] = 32 :: ((txt ns c'.toNat ++ segT (txt ns) (done.length + 1 + 1) rest') ++ [41]) := by simp [segT, sepT_succ]
          rw [← this]; exact h1
        rw [h2.head.2]
        decide +kernel
    have he := hex c hM hcm.1 hcm.2 _ hq.left hdl
    rw [c1] at he
    rw [rdLoop, hnx, beq_false_of_ne n3]
    simp only [cond_false]
    rw [he]
    have hlen : (ns.take (c.toNat + 1)).length = c.toNat + 1 := by rw [List.length_take]; omega
    have hcx : ((ns.take (c.toNat + 1)).length : Int) - 1 = c := by omega
    simp only [hcx]
    have hih := rt_loop hg hk hex rest (done ++ [c]) (c + 1) (p + (sepT done.length).length + (txt ns c.toNat).length) f c4 (fun y hy => hm y (by simp [hy])) (by
      rw [List.length_append, List.length_singleton]; exact hq.right) (by
        have : 1 ≤ (txt ns c.toNat).length := by rw [hxl]; simp
        omega)
    rw [show (c + 1).toNat = c.toNat + 1 by omega] at hih
    rw [hih]
    simp [segT]
    omega

theorem fold_ge (D : List Int) : ∀ (C : List Int) (x : Int) (c : Int), c ∈ C → ix D c.toNat + 1 ≤ C.foldl (fun d c => max d (ix D c.toNat + 1)) x
  | [], _, _, h => by cases h
  | c' :: C, x, c, h => by
    rw [List.foldl_cons]
    rcases List.mem_cons.1 h with rfl | h
    · have := dep_ge D C (max x (ix D c.toNat + 1))
      omega
    · exact fold_ge D C _ c h
theorem dpN_child {ns : List Nd} (hg : Good ns) {k : Nat} (hk : k < ns.length) {c : Int} (hc : c ∈ ch ns k) : dpN ns c.toNat + 1 ≤ dpN ns k := by
  have h1 := good_child hg k hk c hc
  have h2 := fold_ge (tabD ns k) (ch ns k) 1 c hc
  rw [tabD_lt ns k c.toNat (by omega)] at h2
  exact h2
theorem dpN_pos {ns : List Nd} (k : Nat) : 1 ≤ dpN ns k := dep_ge _ _ _
theorem take_last {ns : List Nd} {k : Nat} (hk : k < ns.length) : ns.take (k + 1) = ns.take k ++ [(sy ns k, ch ns k)] := by
  have : (sy ns k, ch ns k) = ns[k] := by simp [sy, ch, List.getD, hk]
  rw [List.take_succ_eq_append_getElem hk, this]
theorem size_zero {s : ByteArray} (h : s.size = 0) : s = ⟨#[]⟩ := ba_ext h (fun k hk => by omega)
theorem rt_any {s : ByteArray} {ns : List Nd} (hg : Good ns) : ∀ (n k : Nat), k < n → k < ns.length → ∀ (d a : Nat), dpN ns k ≤ (d : Int) → At s a (txt ns k) → Dl s (a + (txt ns k).length) →
    rdExpr s d a (ns.take (stN ns k).toNat) = .ok (a + (txt ns k).length, ns.take (k + 1))
  | 0, k, h, _, _, _, _, _, _ => by omega
  | n + 1, k, h, hk, d, a, hd, hat, hdl => by
    have hd1 := dpN_pos (ns := ns) k
    obtain ⟨d, rfl⟩ : ∃ e, d = e + 1 := ⟨d - 1, by omega⟩
    obtain ⟨x, l, hxl, hx⟩ := txt_head hg hk
    obtain ⟨n1, n2, n3⟩ := head_facts (by rw [← hxl]; exact hat) hx
    by_cases hs : (sy ns k).size = 0
    · have ht := txt_list hg hk hs
      have h40 : nb s (nx s a) = 40 := by
        rw [n1, n2]
        rw [ht] at hxl
        have := (List.cons.inj hxl).1
        rw [← this]; rfl
      rw [rdExpr_C h40, n1]
      have h1 := segN_T (txt ns) (ch ns k) []
      simp only [List.nil_append] at h1
      have hz : segN (txt ns) [] ([] : List Int).length = [] := rfl
      rw [hz, List.nil_append] at h1
      rw [h1] at ht
      rw [ht] at hat ⊢
      have h2 := rt_loop (s := s) (k := k) (ex := rdExpr s d) (M := fun c => c ∈ ch ns k) hg (by omega) (fun c hM hc0 hck a' ha' hd' => by
        have h3 := dpN_child hg hk hM
        exact rt_any hg n c.toNat (by omega) (by omega) d a' (by omega) ha' hd') (ch ns k) [] (stN ns k) (a + 1) (s.size + 1) (good_chain hg hk) (fun c hc => ⟨hc, good_child hg k hk c hc⟩) hat.tail (by omega)
      rw [h2, take_last hk, size_zero hs]
      simp
      omega
    · obtain ⟨hsy, hch⟩ := code_sym (hg k hk) hs
      have ht := txt_sym hs
      rw [ht] at hat hdl hxl ⊢
      have hl : (sy ns k).data.toList.length = (sy ns k).size := by simp
      rw [hl] at hdl ⊢
      have hx2 : symB x.toNat = true := by
        have h1 := sym_len hsy
        have h2 := h1.2.2 0 (by omega)
        unfold sat bt at h2
        rw [hxl] at h2
        exact h2
      have hne : nb s (nx s a) ≠ 40 := by
        rw [n1, n2]
        intro e
        rw [e] at hx2
        exact absurd hx2 (by decide +kernel)
      rw [rdExpr_D hne (by rw [n1, n2]; exact hx2), n1, rt_sym _ hat hsy hdl, take_last hk, List.eq_nil_of_length_eq_zero hch]
      have hst : (stN ns k).toNat = k := by
        rw [stN_eq, start_nil hch]; simp
      rw [hst]
theorem rt_all {ns : List Nd} (h : (sxFault ns).1 = 0) (hs : (prText ns).size ≤ 4096) : rdAll (prText ns) = (ns, (0, 0)) := by
  obtain ⟨hS, _⟩ := sx_ok h
  have h1 := hS.ge
  have h2 := hS.le
  have e : prBytes ns = txt ns (ns.length - 1) := txtN_fuel hS.code _ _ _ (by omega) (by omega) (by omega)
  have e2 : prText ns = ⟨(txt ns (ns.length - 1)).toArray⟩ := by rw [prText, h, ← e]; rfl
  have h4 : stN ns (ns.length - 1) = 0 := by
    have := hS.root
    rw [tabS_lt ns ns.length (ns.length - 1) (by omega)] at this
    exact this
  have hsz : (prText ns).size = (txt ns (ns.length - 1)).length := by rw [e2]; simp [ByteArray.size]
  have hat : At (prText ns) 0 (txt ns (ns.length - 1)) := ⟨by omega, fun j hj => by rw [e2]; simp [bt]⟩
  have hr := rt_any (s := prText ns) hS.code ns.length (ns.length - 1) (by omega) (by omega) 12 0 (code_dep (hS.code _ (by omega))) hat (fun hlt => by omega)
  rw [h4] at hr
  have hr2 : rdExpr (prText ns) 12 0 [] = .ok ((txt ns (ns.length - 1)).length, ns) := by
    rw [show ns.length - 1 + 1 = ns.length by omega, List.take_length] at hr
    simpa using hr
  rw [rdAll, decide_eq_false (by omega), hr2]
  have hn : ¬ nx (prText ns) (txt ns (ns.length - 1)).length < (prText ns).size := by
    have := nx_ge (prText ns) (txt ns (ns.length - 1)).length
    omega
  simp only [cond_false, decide_eq_false hn, decide_eq_false (show ¬ 300 < ns.length by omega)]
end Go.Proofs.Ytbdollafpjejiaa

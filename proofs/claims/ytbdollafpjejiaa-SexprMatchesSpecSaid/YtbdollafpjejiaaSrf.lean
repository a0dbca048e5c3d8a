/- The reference's size, depth and fault. -/
import Derived.Test.YtbdollafpjejiaaSrt
namespace Go.Proofs.Ytbdollafpjejiaa
open Go.RowKit Go.Shelf
set_option linter.unusedSimpArgs false
set_option linter.unusedVariables false
set_option maxRecDepth 100000

/-- The nodes before k are valid. -/
def GoodTo (ns : List Nd) (k : Nat) : Prop := ∀ j, j < k → nodeCode ns j = 0
theorem goodTo_take {ns : List Nd} {k : Nat} (h : GoodTo ns k) (hk : k ≤ ns.length) : Good (ns.take k) := by
  intro j hj
  have hj' : j < k := by rw [List.length_take] at hj; omega
  have := h j hj'
  rw [← List.take_append_drop k ns, code_app hj] at this
  exact this
theorem take_ch {ns : List Nd} {k j : Nat} (hk : k ≤ ns.length) (hj : j < k) : ch (ns.take k) j = ch ns j := by
  have h : j < (ns.take k).length := by rw [List.length_take]; omega
  have := ch_lt (ms := ns.drop k) h
  rw [List.take_append_drop] at this
  exact this.symm
theorem take_st {ns : List Nd} {k j : Nat} (hk : k ≤ ns.length) (hj : j < k) : stN (ns.take k) j = stN ns j := by
  have h : j < (ns.take k).length := by rw [List.length_take]; omega
  have := stN_app (ms := ns.drop k) h
  rw [List.take_append_drop] at this
  exact this.symm
theorem to_child {ns : List Nd} {k : Nat} (h : GoodTo ns k) (hk : k ≤ ns.length) : ∀ j, j < k → ∀ x ∈ ch ns j, 0 ≤ x ∧ x < j := by
  intro j hj x hx
  have hl : j < (ns.take k).length := by rw [List.length_take]; omega
  exact good_child (goodTo_take h hk) j hl x (by rw [take_ch hk hj]; exact hx)
theorem chn_take {ns : List Nd} {k : Nat} (hk : k ≤ ns.length) : ∀ (cs : List Int) (lo hi : Int), (∀ c ∈ cs, 0 ≤ c ∧ c < k) → Chn (ns.take k) lo cs hi → Chn ns lo cs hi
  | [], _, _, _, h => h
  | c :: cs, lo, hi, hm, h => by
    obtain ⟨h1, h2, h3, h4⟩ := h
    have hc := hm c (by simp)
    rw [take_st hk (by omega)] at h1
    exact ⟨h1, h2, h3, chn_take hk cs _ _ (fun x hx => hm x (by simp [hx])) h4⟩
theorem to_chain {ns : List Nd} {k : Nat} (h : GoodTo ns k) (hk : k ≤ ns.length) {j : Nat} (hj : j < k) : Chn ns (stN ns j) (ch ns j) j := by
  have hl : j < (ns.take k).length := by rw [List.length_take]; omega
  have h1 := good_chain (goodTo_take h hk) hl
  rw [take_st hk hj, take_ch hk hj] at h1
  exact chn_take hk _ _ _ (fun c hc => by have := to_child h hk j hj c hc; omega) h1
theorem drop_at {C : List Int} {m : Nat} (h : m < C.length) : C.drop m = ix C m :: C.drop (m + 1) := by
  rw [List.drop_eq_getElem_cons h]
  simp [ix, List.getD, h]
theorem chn_le {ns : List Nd} : ∀ (cs : List Int) (lo hi : Int), Chn ns lo cs hi → lo ≤ hi
  | [], _, _, h => Int.le_of_eq h
  | c :: cs, lo, hi, h => by
    have := chn_le cs _ _ h.2.2.2
    have := h.2.1
    omega

set_option maxHeartbeats 1000000 in
theorem size_any (A : Option Addr) (c : Nat) (ns : List Nd) (k : Nat) (w : World) (hE : Nodes w w.heap.size A ns) (hk : k ≤ ns.length) (hn : ns.length ≤ maxLen) (hz : GoodTo ns k) :
    ∀ (n i : Nat), i < n → i < k → Calls Try.prog 20 #[.slice A ns.length c, .int .i64 i] w fun e w' => e = .returned (.int .i64 ((i : Int) + 1 - stN ns i)) ∧ w = w' := by
  intro n
  induction n with
  | zero => intro i h; omega
  | succ n ih =>
    intro i hin hik
    have HI := Lib.hid ih
    have HC := Lib.hid (to_child hz hk i hik)
    have hch := to_chain hz hk hik
    have hst : 0 ≤ stN ns i := (starts_tab ns (i + 1) i (by rw [tabS_len]; omega)).1
    have hil : i < ns.length := by omega
    obtain ⟨b, o, Ak, ck, rfl, _, hs1, hs2, hN, hl, hcm, _, hm⟩ := hE.at_ hil
    have HN := Lib.hid hN
    have hii : (i : Int) < ns.length := by omega
    unfold maxLen at hm hcm hn
    clear ih hE hN hz
    go_enter Try.func20, Try.ntmps20
    go_wp2_with fail
    go_loop [5, 6] (fun s u => ∃ (m : Nat) (lo : Int), m ≤ (ch ns i).length ∧ u = .int .i64 m ∧ s = .int .i64 (1 + (lo - stN ns i)) ∧ stN ns i ≤ lo ∧ Chn ns lo ((ch ns i).drop m) i) (fun _ u => (ch ns i).length - (intOf u).toNat)
    case atStart => exact ⟨0, stN ns i, Nat.zero_le _, rfl, by simp, Int.le_refl _, by rw [List.drop_zero]; exact hch⟩
    case round =>
      obtain ⟨m, lo, hml, rfl, rfl, hlo, hcn⟩ := hrel
      have hlo2 := chn_le _ _ _ hcn
      have HCN := Lib.hid hcn
      clear hcn hch
      by_cases hlt : m < (ch ns i).length
      · have hcn := HCN.out
        rw [drop_at hlt] at hcn
        obtain ⟨h1, h2, h3, h4⟩ := hcn
        have hlo3 := chn_le _ _ _ h4
        have hcm2 := HC.out _ (ix_mem hlt)
        obtain ⟨b2, o2, rfl, _, hc2⟩ := HN.out.at_ hlt
        obtain ⟨q, hq⟩ : ∃ q : Nat, ix (ch ns i) m = (q : Int) := ⟨(ix (ch ns i) m).toNat, by omega⟩
        have hqn : (ix (ch ns i) m).toNat = q := by omega
        have h1' : stN ns q = lo := by rw [← hqn]; exact h1
        have hcall := HI.out q (by omega) (by omega)
        rw [h1'] at hcall
        rw [hq] at hc2
        have H4 := Lib.hid (show Chn ns ((q : Int) + 1) ((ch ns i).drop (m + 1)) i by rw [← hq]; exact h4)
        have hmi : (m : Int) < (ch ns i).length := by omega
        have hqi : lo ≤ (q : Int) ∧ (q : Int) < i := by omega
        obtain ⟨hq1, hq2⟩ := hqi
        clear h1 h1' h4 hq hqn hcm2 h2 hlo3
        go_wp2_with (go_at_call 20; refine hcall.mono ?_; rintro e w' ⟨rfl, rfl⟩)
        go_round
        case rel => exact ⟨m + 1, (q : Int) + 1, by omega, by go_num, by congr 1; omega, by omega, H4.out⟩
        case measure => simp [intOf]; omega
      · have hmm : m = (ch ns i).length := by omega
        have HD := Lib.hid (show lo = (i : Int) by
          have := HCN.out
          rw [List.drop_eq_nil_of_le (by omega)] at this
          exact this)
        have hmi : ¬ ((m : Int) < (ch ns i).length) := by omega
        clear hmm
        go_wp2_with fail
        go_ret
        exact ⟨ret_int (by have := HD.out; omega), rfl⟩

set_option maxHeartbeats 1000000 in
theorem depth_any (A : Option Addr) (c : Nat) (ns : List Nd) (k : Nat) (w : World) (hE : Nodes w w.heap.size A ns) (hk : k ≤ ns.length) (hn : ns.length ≤ maxLen) (hz : ∀ j, j < k → ∀ x ∈ ch ns j, 0 ≤ x ∧ x < j) :
    ∀ (n i : Nat), i < n → i < k → dpN ns i ≤ 1000 → (∀ j, j < i → dpN ns j ≤ 12) → Calls Try.prog 21 #[.slice A ns.length c, .int .i64 i] w fun e w' => e = .returned (.int .i64 (dpN ns i)) ∧ w = w' := by
  intro n
  induction n with
  | zero => intro i h; omega
  | succ n ih =>
    intro i hin hik hdi hdj
    have HI := Lib.hid ih
    have HC := Lib.hid (hz i hik)
    have HJ := Lib.hid hdj
    have HD := Lib.hid (show depM ns i (ch ns i).length = dpN ns i from depM_all ns i)
    have hil : i < ns.length := by omega
    obtain ⟨b, o, Ak, ck, rfl, _, hs1, hs2, hN, hl, hcm, _, hm⟩ := hE.at_ hil
    have HN := Lib.hid hN
    have hii : (i : Int) < ns.length := by omega
    have hdm : ∀ m, m ≤ (ch ns i).length → 1 ≤ depM ns i m ∧ depM ns i m ≤ 13 := by
      intro m hml
      refine ⟨dep_ge _ _ _, fold_le _ _ _ _ (by omega) (fun x hx => ?_)⟩
      have h1 := hz i hik x (List.mem_of_mem_take hx)
      rw [tabD_lt ns i x.toNat (by omega)]
      have h2 := hdj x.toNat (by omega)
      unfold dpN at h2
      omega
    have HM := Lib.hid hdm
    unfold maxLen at hm hcm hn
    clear ih hE hN hz hdj hdm
    go_enter Try.func21, Try.ntmps21
    go_wp2_with fail
    go_loop [5, 6] (fun s u => ∃ (m : Nat), m ≤ (ch ns i).length ∧ u = .int .i64 m ∧ s = .int .i64 (depM ns i m - 1)) (fun _ u => (ch ns i).length - (intOf u).toNat)
    case atStart => exact ⟨0, Nat.zero_le _, rfl, by rw [depM_zero]; rfl⟩
    case round =>
      obtain ⟨m, hml, rfl, rfl⟩ := hrel
      have hdm := HM.out m hml
      by_cases hlt : m < (ch ns i).length
      · have hcm2 := HC.out _ (ix_mem hlt)
        obtain ⟨b2, o2, rfl, _, hc2⟩ := HN.out.at_ hlt
        have hds := depM_succ hlt
        obtain ⟨q, hq⟩ : ∃ q : Nat, ix (ch ns i) m = (q : Int) := ⟨(ix (ch ns i) m).toNat, by omega⟩
        have hqn : (ix (ch ns i) m).toNat = q := by omega
        rw [hqn, tabD_lt ns i q (by omega)] at hds
        have HS := Lib.hid (show depM ns i (m + 1) = max (depM ns i m) (dpN ns q + 1) from hds)
        have hdq := HJ.out q (by omega)
        have hdp := dpN_pos (ns := ns) q
        have hcall := HI.out q (by omega) (by omega) (by omega) (fun j hj => HJ.out j (by omega))
        rw [hq] at hc2
        have hmi : (m : Int) < (ch ns i).length := by omega
        clear hq hqn hcm2 hds
        by_cases hgt : dpN ns q > depM ns i m - 1
        · have HE := Lib.hid (show depM ns i (m + 1) - 1 = dpN ns q by have := HS.out; omega)
          have hgb : decide (dpN ns q > depM ns i m - 1) = true := by simpa using hgt
          go_wp2_with (go_at_call 21; refine hcall.mono ?_; rintro e w' ⟨rfl, rfl⟩)
          all_goals
            go_round
            case rel => exact ⟨m + 1, by omega, by go_num, by rw [HE.out]⟩
            case measure => simp [intOf]; omega
        · have HE := Lib.hid (show depM ns i (m + 1) = depM ns i m by have := HS.out; omega)
          have hgb : decide (dpN ns q > depM ns i m - 1) = false := by simpa using hgt
          go_wp2_with (go_at_call 21; refine hcall.mono ?_; rintro e w' ⟨rfl, rfl⟩)
          all_goals
            go_round
            case rel => exact ⟨m + 1, by omega, by go_num, by rw [HE.out]⟩
            case measure => simp [intOf]; omega
      · obtain rfl : m = (ch ns i).length := by omega
        clear hlt
        go_wp2_with fail
        go_ret
        exact ⟨ret_int (by have := HD.out; omega), rfl⟩
end Go.Proofs.Ytbdollafpjejiaa

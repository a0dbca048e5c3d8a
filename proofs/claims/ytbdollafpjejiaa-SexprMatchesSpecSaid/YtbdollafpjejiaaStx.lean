/- The reference's text. -/
import Derived.Test.YtbdollafpjejiaaSrt
namespace Go.Proofs.Ytbdollafpjejiaa
open Go.RowKit Go.Shelf
set_option linter.unusedSimpArgs false
set_option linter.unusedVariables false
set_option maxRecDepth 100000

def bs (l : List UInt8) : ByteArray := ⟨l.toArray⟩
theorem bs_app (l m : List UInt8) : bs l ++ bs m = bs (l ++ m) := by
  have h : (bs l ++ bs m).data = (bs (l ++ m)).data := by
    rw [ByteArray.data_append]
    simp [bs]
  cases h1 : bs l ++ bs m
  rw [h1] at h
  simp at h
  simp [h, bs]
theorem bs_of (s : ByteArray) : bs s.data.toList = s := by
  cases s
  simp [bs]
theorem bs_size (l : List UInt8) : (bs l).size = l.length := by simp [bs, ByteArray.size]

set_option maxHeartbeats 1000000 in
theorem stext_any (A : Option Addr) (c : Nat) (ns : List Nd) (w : World) (hE : Nodes w w.heap.size A ns) (hn : ns.length ≤ 300) (hg : Good ns) :
    ∀ (n i : Nat), i < n → i < ns.length → Calls Try.prog 12 #[.slice A ns.length c, .int .i64 i] w fun e w' => e = .returned (.string (bs (txt ns i))) ∧ w = w' := by
  intro n
  induction n with
  | zero => intro i h; omega
  | succ n ih =>
    intro i hin hil
    have HI := Lib.hid ih
    have HC := Lib.hid (good_child hg i hil)
    have hla : ∀ j, j < ns.length → (txt ns j).length ≤ 4500 := by
      intro j hj
      have h1 := txt_len hg (j + 1) j (by omega) hj
      have h2 : 0 ≤ stN ns j := (starts_tab ns (j + 1) j (by rw [tabS_len]; omega)).1
      omega
    have HL := Lib.hid (hla i hil)
    have HLA := Lib.hid hla
    clear hla
    obtain ⟨b, o, Ak, ck, rfl, _, hs1, hs2, hN, hl, hcm, _, hm⟩ := hE.at_ hil
    have HN := Lib.hid hN
    have hii : (i : Int) < ns.length := by omega
    have hm9 : (ch ns i).length ≤ 9223372036854775807 := by unfold maxLen at hm; omega
    rcases Nat.eq_zero_or_pos (sy ns i).size with h0 | h0
    · have hl0 := toList_nil h0
      have HT := Lib.hid (txt_list hg hil h0)
      clear ih hE hN hg h0 hm hcm
      go_enter Try.func12, Try.ntmps12
      go_wp2_with fail
      go_loop [5, 6] (fun s u => ∃ (m : Nat), m ≤ (ch ns i).length ∧ u = .int .i64 m ∧ s = .string (bs (40 :: segN (txt ns) (ch ns i) m))) (fun _ u => (ch ns i).length - (intOf u).toNat)
      case atStart => exact ⟨0, Nat.zero_le _, rfl, rfl⟩
      case round =>
        obtain ⟨m, hml, rfl, rfl⟩ := hrel
        by_cases hlt : m < (ch ns i).length
        · have hcm2 := HC.out _ (ix_mem hlt)
          obtain ⟨b2, o2, rfl, _, hc2⟩ := HN.out.at_ hlt
          have HS := Lib.hid (segN_succ (txt ns) (ch ns i) m)
          obtain ⟨q, hq⟩ : ∃ q : Nat, ix (ch ns i) m = (q : Int) := ⟨(ix (ch ns i) m).toNat, by omega⟩
          have hqn : (ix (ch ns i) m).toNat = q := by omega
          rw [hqn] at HS
          have hcall := HI.out q (by omega) (by omega)
          rw [hq] at hc2
          have hmi : (m : Int) < (ch ns i).length := by omega
          have hqi : q < ns.length := by omega
          clear hq hqn hcm2
          have z1 : (bs (40 :: segN (txt ns) (ch ns i) m)).size ≤ 5000 := by
            rw [bs_size]
            have := segN_le (txt ns) (ch ns i) m _ (by omega : m ≤ (ch ns i).length)
            have h2 := HL.out
            rw [HT.out] at h2
            simp at h2 ⊢
            omega
          have z2 : (bs (txt ns q)).size ≤ 5000 := by
            rw [bs_size]
            have := HLA.out q (by omega)
            omega
          by_cases hm0 : 0 < m
          · have HE := Lib.hid (show bs (40 :: segN (txt ns) (ch ns i) m) ++ ⟨#[32]⟩ ++ bs (txt ns q) = bs (40 :: segN (txt ns) (ch ns i) (m + 1)) by
              obtain ⟨j, rfl⟩ : ∃ j, m = j + 1 := ⟨m - 1, by omega⟩
              rw [HS.out, show (⟨#[32]⟩ : ByteArray) = bs [32] from rfl, bs_app, bs_app, sepT_succ]
              simp)
            have hm0i : decide ((m : Int) > 0) = true := decide_eq_true (by omega)
            go_wp2_with (go_at_call 12; refine hcall.mono ?_; rintro e w' ⟨rfl, rfl⟩)
            go_round
            case rel => exact ⟨m + 1, by omega, by go_num, by rw [← HE.out]⟩
            case measure => simp [intOf]; omega
          · have HE := Lib.hid (show bs (40 :: segN (txt ns) (ch ns i) m) ++ bs (txt ns q) = bs (40 :: segN (txt ns) (ch ns i) (m + 1)) by
              obtain rfl : m = 0 := by omega
              rw [HS.out, bs_app, sepT_zero]
              simp)
            have hm0i : decide ((m : Int) > 0) = false := decide_eq_false (by omega)
            go_wp2_with (go_at_call 12; refine hcall.mono ?_; rintro e w' ⟨rfl, rfl⟩)
            go_round
            case rel => exact ⟨m + 1, by omega, by go_num, by rw [← HE.out]⟩
            case measure => simp [intOf]; omega
        · obtain rfl : m = (ch ns i).length := by omega
          have z1 : (bs (40 :: segN (txt ns) (ch ns i) (ch ns i).length)).size ≤ 5000 := by
            rw [bs_size]
            have h2 := HL.out
            rw [HT.out] at h2
            simp at h2 ⊢
            omega
          have HE := Lib.hid (show bs (40 :: segN (txt ns) (ch ns i) (ch ns i).length) ++ ⟨#[41]⟩ = bs (txt ns i) by
            rw [HT.out, show (⟨#[41]⟩ : ByteArray) = bs [41] from rfl, bs_app]
            simp)
          clear hlt
          go_wp2_with fail
          go_ret
          exact ⟨ret_val (by rw [← HE.out]; rfl), rfl⟩
    · have hl0 := toList_not h0
      have hl2 : (!(sy ns i).toList.isEmpty) = true := by rw [hl0]; rfl
      have HT := Lib.hid (show sy ns i = bs (txt ns i) by rw [txt_sym (by omega), bs_of])
      clear ih hE hN hg h0 hm hcm
      go_enter Try.func12, Try.ntmps12
      go_wp2_with fail
      go_ret
      exact ⟨ret_val (by rw [← HT.out]; rfl), rfl⟩
end Go.Proofs.Ytbdollafpjejiaa

/- For all pairs of texts, the law SexprListsNest returns true: a list of two expressions is read as the nodes of both, and the list.
Conditions: none (every input). -/
import Derived.Test.YtbdollafpjejiaaRows
import Derived.Test.YtbdollafpjejiaaSnsd
import Derived.Test.YtbdollafpjejiaaSopn
import Derived.HandedShaped
namespace Go.Proofs.Ytbdollafpjejiaa.sexprListsNest
open Go.ChangeShapes Go.WideShapes Go.ChangeAt Go.RowKit

set_option maxRecDepth 100000 in
theorem lifted (os : Os) (started : os.Started) (H : Type) (enc : TypeId × Value → H) :
    ReturnsInHanded {} Try.checked os 7 .any (Rows.sexprListsNestSpec.pre6 enc Try.prog Try.f7 Rows.sexprListsNestRow.domain false) (Rows.sexprListsNestSpec.post enc Try.prog Try.f7 false true false false) := by
  refine returnsInHanded_of_change_shaped (C := Try.checked) own_ started (by kernel_rfl) Try.func7
    (ChangeSpec.witness6 (enc := enc) (C := Try.checked) false ⟨#[], #[.string ⟨#[]⟩, .string ⟨#[]⟩], []⟩ 8 (by kernel_rfl) (by kernel_rfl) (by kernel_rfl) (by kernel_rfl)) ?_
  intro W base args ds gs before hval0 hW hcnd hsz0 _ _
  have hval : ∀ (j : Nat) t v, Try.f7.params[j]? = some t → args[j]? = some v → Value.okWide Try.prog W .any base t v := hval0
  have hW' := hW
  obtain ⟨p, q, hA0, hV, rfl, hfz, hnd⟩ := hW
  have hA : DataW.TrodAll enc Try.prog W 0 (fun _ => true) true Try.f7.params.toList args.toList ds p := hA0
  rw [Try.params7] at hA hval
  obtain ⟨v0, vs0, d0, ds0, p0, q0, hargs, rfl, rfl, h0, r0⟩ := trodAll_cons hA
  obtain ⟨v1, vs1, d1, ds1, p1, q1, rfl, rfl, rfl, h1, r1⟩ := trodAll_cons r0
  obtain ⟨rfl, rfl, rfl⟩ := trodAll_nil r1
  obtain rfl : args = #[v0, v1] := by cases args; simp_all
  obtain ⟨rfl, rfl⟩ := trodVars_none hV
  obtain ⟨a0, rfl, rfl, rfl, w0⟩ := Go.ChangeMaps.open_string Try.underlying9 (hval 0 9 v0 rfl rfl) h0
  obtain ⟨a1, rfl, rfl, rfl, w1⟩ := Go.ChangeMaps.open_string Try.underlying9 (hval 1 9 v1 rfl rfl) h1
  have hsz : (DataW.weightsEach Try.prog ([9, 9] ++ Rows.sexprListsNestSpec.plain.varTypes Try.prog) ([.lit (.string a0.data.toList), .lit (.string a1.data.toList)] ++ [])).all (· ≤ reachBytes) = true := hsz0
  have s0 : a0.data.toList.length ≤ reachBytes := of_decide_eq_true (List.all_eq_true.1 hsz a0.data.toList.length (by simp [DataW.weights, DataW.weightsEach]))
  have s1 : a1.data.toList.length ≤ reachBytes := of_decide_eq_true (List.all_eq_true.1 hsz a1.data.toList.length (by simp [DataW.weights, DataW.weightsEach]))
  have s0' : a0.size ≤ 140737488351232 := by simpa [reachBytes] using s0
  have s1' : a1.size ≤ 140737488351232 := by simpa [reachBytes] using s1
  clear hA0 hval0 hsz0 hsz s0 s1
  refine (nst_any a0 a1 s0' s1' W).mono fun e W' ⟨he, bel⟩ => ?_
  subst he
  exact ⟨_, rfl, _, _, _, [], _, [], hW', trodAll_mk1 (shut_bool Try.underlying4 _), (trodAll_cons_mk (Go.ChangeMaps.shut_string Try.underlying9 w0) (trodAll_cons_mk (Go.ChangeMaps.shut_string Try.underlying9 w1) trodAll_mk0)), rfl, bel.frame _, fun h => by cases h⟩

theorem over : Rows.sexprListsNestRow.holds Try.pinned (OpenSpec.ofChange Rows.sexprListsNestSpec) :=
  OpenClaim.holds_of_wide 7 Try.f7 rfl rfl rfl rfl rfl rfl rfl ⟨rfl, rfl, rfl, rfl, rfl⟩ rfl rfl rfl rfl rfl (by kernel_rfl) Try.func7 (by kernel_rfl)
    (of_decide_eq_true (by kernel_rfl)) (by unfold Func.isWrapper; first | (rw [if_pos (by decide +kernel)]; kernel_rfl) | (rw [if_neg (by decide +kernel)]; exact ⟨rfl, rfl⟩))
    (fun os started H enc _ => lifted os started H enc)

theorem proved : Rows.SexprListsNestSaid := over
#print axioms proved
end Go.Proofs.Ytbdollafpjejiaa.sexprListsNest

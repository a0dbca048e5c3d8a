/- slices.SortFunc over lists, laid over this program. -/
import Derived.Test.YtenmegkokclolaaDoorVsm
import Derived.Test.YtenmegkokclolaaDoorVfd
import Derived.Shelf.SlSortCmp.NoneTotal
import Derived.Shelf.Lay
import Derived.Ground.SlsfProg
namespace Go.Proofs
shelf_lay_g SlLaysF.n6 Slsf 6 at Tryd 32 as Tryd.sortL
shelf_lay_g SlLaysF0.n6 Slsf 6 at Tryd 32 as Tryd.sortL0
end Go.Proofs
namespace Go.Proofs.YtenmegkokclolaaDoor
open Go.RowKit
set_option linter.unusedSimpArgs false
set_option linter.unusedVariables false
set_option maxRecDepth 100000
theorem own_cap {W : World} {base e g n cap : Nat} {xs : List Value} (h : W.ownsRow base e 1 (.slice (some ⟨g, 0, none⟩) n cap) n xs) : n ≤ cap ∧ cap ≤ maxLen := by
  rcases h.2 with ⟨e, _⟩ | ⟨g', cap', cur, e, hg, hh, hn, hcap, hcs, hx⟩
  · cases e
  · injection e with e1 e2 e3
    subst e3
    exact ⟨hn, hcap⟩
theorem sort_any : SortC := by
  intro W base v ls hown hb h2000
  by_cases h0 : 0 < ls.length
  · obtain ⟨g, cap, vals, rfl, hR⟩ := own2_row hown h0
    have hc := own_cap hR.own
    have eg : ∀ args w, (callFunc 33 args).run Tryd.prog w = .ok (.enter 33 args) w := enters_of Tryd.func33 (by kernel_rfl) rfl
    have h := Any.slices_SortFunc Tryd.sortL (encV vals) (fun j => by obtain ⟨a, c, e, _⟩ := hR.rows j; rw [e]; rfl) (cfL ls) (swo_cf ls) 33 #[] g 0 cap (Array.range ls.length) W eg hR.lays hR.holds hR.lt.2 (by simp; omega)
    change Calls Tryd.prog 32 _ _ _ at h
    have hz : (Array.range ls.length).size = ls.length := by simp
    rw [hz] at h
    refine h.mono ?_
    rintro e w' ⟨he, d', n, os, hp, hs, rfl⟩
    obtain ⟨ls', hl, hpm, hso, hfr⟩ := sorted_row (n := n) (os := os) hR (by rw [hz]; exact hp) (by rw [hz]; exact hs)
    exact ⟨he, ls', hpm, hso, hfr, below_sort _ _ _ _ _ _ hR.lt.1 hb⟩
  · have he : ls = [] := List.eq_nil_of_length_eq_zero (by omega)
    subst he
    have hfr := hown.fresh (Nat.le_refl _)
    obtain ⟨a, c, rfl, _⟩ := hfr.slice
    have h := AnyF.slices_SortFunc_none Tryd.sortL0 a c (.func (.func 33) #[] #[]) W
    change Calls Tryd.prog 32 _ _ _ at h
    refine h.mono ?_
    rintro e w' ⟨he, rfl⟩
    exact ⟨he, [], List.Perm.refl _, List.Pairwise.nil, hfr, Below.refl _ _⟩
end Go.Proofs.YtenmegkokclolaaDoor

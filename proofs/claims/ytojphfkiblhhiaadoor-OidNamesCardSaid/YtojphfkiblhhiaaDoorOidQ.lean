/-
  OID: THE LAW's twin.
-/
import Derived.Test.YtojphfkiblhhiaaDoorOidA
namespace Go.Proofs.YtojphfkiblhhiaaDoor
open Go.RowKit
set_option maxRecDepth 100000

set_option maxHeartbeats 1000000 in
theorem twinO_any (a : Option Addr) (n cap : Nat) (l : List Nat) (w : World) (h : Reads .u64 w a n cap l) (hn : n ≤ 1000000) :
    Calls Tryd.prog 7 #[.slice a n cap] w fun e w' => (∃ g c, e = .returned (.slice (some ⟨g, 0, none⟩) (n + 1) c) ∧ OwnQ .u64 36 w.heap.size w' (.slice (some ⟨g, 0, none⟩) (n + 1) c) (l ++ [77])) ∧ Below w.heap.size w w' := by
  obtain ⟨i0, hi, hz0, hz1, hz2⟩ := info_parts infoU64
  have HR := Lib.hid h
  have HN := Lib.hid h.length
  clear h
  go_enter Tryd.func7, Tryd.ntmps7
  go_wp2_with (at_builtin; first | (refine wpList_append_q .u64 _ rfl _ _ 22 rfl w.heap.size 36 8 i0 Tryd.underlying22 hi hz0 hz1 hz2 (by decide) _ [] rfl (OwnQ.empty _ _ _ _ (Nat.le_refl _)) _ _ _ l rfl (HR.out.below ((Below.refl _ _).alloc (Nat.le_refl _) _)) (by simp; omega) (by simp) ?_; intro v2 w2 hown2 hgrow2; rw [List.nil_append] at hown2; have HO2 := Lib.hid hown2; have HB2 := Lib.hid (hgrow2 _ ((Below.refl _ _).alloc (Nat.le_refl _) _)); clear hown2 hgrow2) | go_loud (refine wpList_append_q .u64 _ rfl _ _ 22 rfl w.heap.size 36 8 i0 Tryd.underlying22 hi hz0 hz1 hz2 (by decide) _ l rfl (HO2.out.alloc _) _ _ _ [77] rfl (Reads.one .u64 _ _ _ _ rfl) (by have := HN.out; omega) (by have := HB2.out.size; simp; omega) ?_; intro v' w3 hown3 hgrow3; obtain ⟨g, c3, e3⟩ := hown3.succ (by simp); have e4 : List.length (l ++ [77] : List Nat) = n + 1 := (by have := HN.out; simp; omega); rw [e4] at e3; clear e4; subst e3; have HO3 := Lib.hid hown3; have HB3 := Lib.hid (hgrow3 _ (HB2.out.alloc HB2.out.size _)); clear hown3 hgrow3))
  go_ret
  exact ⟨⟨g, c3, rfl, HO3.out⟩, HB3.out⟩
end Go.Proofs.YtojphfkiblhhiaaDoor

/-
  THE LAW NatBack, AT EVERY INPUT.
-/
import Derived.Test.YtanimenpkinapaaNatK
namespace Go.Proofs.Ytanimenpkinapaa
open Go.RowKit

set_option maxRecDepth 100000 in
set_option maxHeartbeats 400000 in
theorem back_walk (a : Option Addr) (nx cx : Nat) (a' : Option Addr) (ny cy : Nat) (b : Option Addr) (lb cb : Nat) (n m : Nat) (B : List Nat) (w : World) (hx : NatAt w (.slice a nx cx) n) (hy : NatAt w (.slice a' ny cy) m) (hb : Reads .u8 w b lb cb B) (hBy : Byt B) :
    Calls Try.prog 8 #[.slice a nx cx, .slice a' ny cy, .slice b lb cb] w fun e w' => e = .returned (.bool true) ∧ Below w.heap.size w w' := by
  have g1 := hx.len2
  have g2 := hy.len2
  have g3 := hb.len_le
  unfold maxLen at g3
  by_cases h1 : nx ≤ 250
  · by_cases h2 : ny ≤ 250
    · by_cases h3 : lb ≤ 1000
      · exact back_main a nx cx a' ny cy b lb cb n m B w hx hy hb h1 h2 h3 hBy
      · have h4 : 1000 < lb := by omega
        clear hx hy hb h3
        go_enter Try.func8, Try.ntmps8
        go_wp2_with fail
        refine (alive_any _).mono ?_
        rintro e w1 ⟨rfl, hb⟩
        go_wp2_with fail
        go_ret
        exact ⟨rfl, hb⟩
    · have h4 : 250 < ny := by omega
      clear hx hy hb h2
      go_enter Try.func8, Try.ntmps8
      go_wp2_with fail
      refine (alive_any _).mono ?_
      rintro e w1 ⟨rfl, hb⟩
      go_wp2_with fail
      go_ret
      exact ⟨rfl, hb⟩
  · have h4 : 250 < nx := by omega
    clear hx hy hb h1
    go_enter Try.func8, Try.ntmps8
    go_wp2_with fail
    refine (alive_any _).mono ?_
    rintro e w1 ⟨rfl, hb⟩
    go_wp2_with fail
    go_ret
    exact ⟨rfl, hb⟩

theorem reads8_of_row {w : World} {a : Option Addr} {len cap : Nat} {zs : List Int}
    (h : (a = .none ∧ len = 0 ∧ cap = 0 ∧ zs = []) ∨ ∃ x, a = some x ∧ len ≤ cap ∧ cap ≤ maxLen ∧ zs.length = cap ∧ (∀ i, i < zs.length → w.cell? (x.add i) = some (.int .u8 (zs.getD i 0))) ∧ ∀ n ∈ zs, (Lit.int .u8 n).wf = true) :
    ∃ l : List Nat, Reads .u8 w a len cap l ∧ Byt l := by
  obtain ⟨l, hl⟩ := bts_of_row h
  refine ⟨l.map fun c => c.toNat, ⟨by rw [List.length_map, hl.length], hl.le, hl.max, hl.nil, fun hp => ?_⟩, fun x hx => ?_⟩
  · obtain ⟨b, off, ha, hb, hc⟩ := hl.cells hp
    refine ⟨b, off, ha, hb, fun i hi => ?_⟩
    rw [hc i hi]
    have hlt : i < l.length := by rw [hl.length]; exact hi
    simp [hlt]
  · obtain ⟨c, _, rfl⟩ := List.mem_map.1 hx
    exact UInt8.toNat_lt c

end Go.Proofs.Ytanimenpkinapaa

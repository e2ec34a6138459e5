/-
  SHA-512: two states side by side.
-/
import Derived.Test.YtpfdehjllnhllaaShb3
import Derived.Deep.RegionHeld3
namespace Go.Proofs.Ytpfdehjllnhllaa
open Go.RowKit Go.Shelf

def btOf (long : Bool) : Nat := if long then 512 else 384
theorem btOf_or (long : Bool) : btOf long = 384 ∨ btOf long = 512 := by cases long <;> decide
theorem btOf_ne (long : Bool) : btOf long ≠ 0 := by cases long <;> decide
theorem state_any (long ask : Bool) (a a2 : Option Addr) (n c n2 c2 : Nat) (l l2 : List Nat) (w : World) (hr : Reads .u8 w a n c l) (hl : Byt l) (hn : n ≤ 10000) (hr2 : Reads .u8 w a2 n2 c2 l2) (hl2 : Byt l2) :
    Calls Try.prog 17 #[.bool long, .slice a n c, .slice a2 n2 c2, .bool ask] w fun e w' => e = .returned (.pointer (some ⟨w.heap.size, 0, none⟩)) ∧ StateOf w' w.heap.size (btOf long) l ∧ Below w.heap.size w w' := by
  cases long
  · exact state384_any ask a a2 n c n2 c2 l l2 w hr hl hn hr2 hl2
  · exact state512_any ask a a2 n c n2 c2 l l2 w hr hl hn hr2 hl2
/-- Two states, in one world. -/
structure Two (w0 W : World) (g1 g2 bt : Nat) (l m : List Nat) : Prop where
  one : StateOf W g1 bt l
  two : StateOf W g2 bt m
  below : Below w0.heap.size w0 W
theorem Two.on {w0 W W' : World} {g1 g2 bt : Nat} {l m : List Nat} (h : Two w0 W g1 g2 bt l m) (hb : Below W.heap.size W W') : Two w0 W' g1 g2 bt l m :=
  ⟨h.one.below hb h.one.lt, h.two.below hb h.two.lt, below_on h.below hb⟩
theorem Two.drew {w0 W : World} {g1 g2 bt : Nat} {l m : List Nat} (h : Two w0 W g1 g2 bt l m) : Two w0 W.drew g1 g2 bt l m := h.on (Below.refl _ _).drew
theorem StateOf.kept {W W' : World} {g1 g2 bt : Nat} {l : List Nat} (h : StateOf W g1 bt l) (hg : W.grownBy W' (some g2)) (hne : g1 ≠ g2) : StateOf W' g1 bt l := by
  obtain ⟨ws, tail, h, k⟩ := h
  exact ⟨ws, tail, h.block (hg.block g1 h.lt (fun e => hne (Option.some.inj e))), k⟩
theorem Two.write2 {w0 W : World} {g1 g2 bt : Nat} {l m : List Nat} (h : Two w0 W g1 g2 bt l m) (hne : g1 ≠ g2) (hg : w0.heap.size ≤ g2) (hbt : bt ≠ 0) (a : Option Addr) (n c : Nat) (bl : List Nat) (hr : Reads .u8 W a n c bl) (hb : Byt bl) (hln : m.length + n < 1152921504606846976) (hn : 0 < n → ∀ ad, a = some ad → ad.block ≠ g2) :
    Calls Try.prog 11 #[.pointer (some ⟨g2, 0, none⟩), .slice a n c] W fun e W' => e = .returned (.tuple #[]) ∧ Two w0 W' g1 g2 bt l (m ++ bl) ∧ W.grownBy W' (some g2) :=
  (write_any g2 bt m bl a n c W h.two hbt hr hb hln hn).mono fun _ _ ⟨h1, h2, h3⟩ => ⟨h1, ⟨h.one.kept h3 hne, h2, h.below.grown h3 h.below.size (fun _ e => by cases e; exact hg)⟩, h3⟩
theorem Two.write1 {w0 W : World} {g1 g2 bt : Nat} {l m : List Nat} (h : Two w0 W g1 g2 bt l m) (hne : g1 ≠ g2) (hg : w0.heap.size ≤ g1) (hbt : bt ≠ 0) (a : Option Addr) (n c : Nat) (bl : List Nat) (hr : Reads .u8 W a n c bl) (hb : Byt bl) (hln : l.length + n < 1152921504606846976) (hn : 0 < n → ∀ ad, a = some ad → ad.block ≠ g1) :
    Calls Try.prog 11 #[.pointer (some ⟨g1, 0, none⟩), .slice a n c] W fun e W' => e = .returned (.tuple #[]) ∧ Two w0 W' g1 g2 bt (l ++ bl) m ∧ W.grownBy W' (some g1) :=
  (write_any g1 bt l bl a n c W h.one hbt hr hb hln hn).mono fun _ _ ⟨h1, h2, h3⟩ => ⟨h1, ⟨h2, h.two.kept h3 (Ne.symm hne), h.below.grown h3 h.below.size (fun _ e => by cases e; exact hg)⟩, h3⟩
/-- A hash that Sum told: it stays, and reads as text. -/
def SumAt (w0 W : World) (ad : Addr × Nat) (bt : Nat) (l : List Nat) : Prop := Reads .u8 W (some ad.1) (bt / 8) ad.2 (hashN bt l) ∧ w0.heap.size ≤ ad.1.block
theorem SumAt.on {w0 W W' : World} {ad : Addr × Nat} {bt : Nat} {l : List Nat} (h : SumAt w0 W ad bt l) (hb : Below W.heap.size W W') : SumAt w0 W' ad bt l := ⟨h.1.below hb, h.2⟩
theorem SumAt.conv {w0 W : World} {ad : Addr × Nat} {bt : Nat} {l : List Nat} (h : SumAt w0 W ad bt l) : (convert 23 9 (.slice (some ad.1) (bt / 8) ad.2)).run Try.prog W = .ok (.string (strOf (u8s (hashN bt l)))) W := convB (h.1.bts (hashN_lt bt l))
theorem Two.sum1 {w0 W : World} {g1 g2 bt : Nat} {l m : List Nat} (h : Two w0 W g1 g2 bt l m) (hbt : bt = 384 ∨ bt = 512) :
    Calls Try.prog 12 #[.pointer (some ⟨g1, 0, none⟩)] W fun e W' => (∃ ad : Addr × Nat, e = .returned (.slice (some ad.1) (bt / 8) ad.2) ∧ SumAt w0 W' ad bt l) ∧ Two w0 W' g1 g2 bt l m ∧ Below W.heap.size W W' :=
  (sum_any g1 bt l W h.one hbt).mono fun _ _ ⟨⟨ad, h1, h2, h3⟩, h4⟩ => ⟨⟨ad, h1, h2, Nat.le_trans h.below.size h3⟩, h.on h4, h4⟩
theorem Two.sum2 {w0 W : World} {g1 g2 bt : Nat} {l m : List Nat} (h : Two w0 W g1 g2 bt l m) (hbt : bt = 384 ∨ bt = 512) :
    Calls Try.prog 12 #[.pointer (some ⟨g2, 0, none⟩)] W fun e W' => (∃ ad : Addr × Nat, e = .returned (.slice (some ad.1) (bt / 8) ad.2) ∧ SumAt w0 W' ad bt m) ∧ Two w0 W' g1 g2 bt l m ∧ Below W.heap.size W W' :=
  (sum_any g2 bt m W h.two hbt).mono fun _ _ ⟨⟨ad, h1, h2, h3⟩, h4⟩ => ⟨⟨ad, h1, h2, Nat.le_trans h.below.size h3⟩, h.on h4, h4⟩
theorem Two.len1 {w0 W : World} {g1 g2 bt : Nat} {l m : List Nat} (h : Two w0 W g1 g2 bt l m) (hbt : bt ≠ 0) : Calls Try.prog 13 #[.pointer (some ⟨g1, 0, none⟩)] W fun e W' => e = .returned (.int .u64 (l.length : Int)) ∧ W = W' := by
  obtain ⟨ws, tail, h, -⟩ := h.one
  exact len_any g1 bt ws tail _ W h hbt
theorem Two.len2 {w0 W : World} {g1 g2 bt : Nat} {l m : List Nat} (h : Two w0 W g1 g2 bt l m) (hbt : bt ≠ 0) : Calls Try.prog 13 #[.pointer (some ⟨g2, 0, none⟩)] W fun e W' => e = .returned (.int .u64 (m.length : Int)) ∧ W = W' := by
  obtain ⟨ws, tail, h, -⟩ := h.two
  exact len_any g2 bt ws tail _ W h hbt
theorem reads_of_bytes {w : World} {a : Option Addr} {len cap : Nat} {zs : List Int}
    (h : (a = .none ∧ len = 0 ∧ cap = 0 ∧ zs = []) ∨ ∃ x, a = some x ∧ len ≤ cap ∧ cap ≤ maxLen ∧ zs.length = cap ∧ (∀ i, i < zs.length → w.cell? (x.add i) = some (.int .u8 (zs.getD i 0))) ∧ ∀ n ∈ zs, (Lit.int .u8 n).wf = true) :
    ∃ l : List Nat, Reads .u8 w a len cap l ∧ ∀ x ∈ l, x < 256 := by
  rcases h with ⟨rfl, rfl, rfl, rfl⟩ | ⟨x, rfl, hl, hm, hz, hc, hw⟩
  · exact ⟨[], Reads.none _ w, fun _ h => by cases h⟩
  · have hbd : ∀ n ∈ zs, 0 ≤ n ∧ n < 256 := fun n hn => by
      have := hw n hn
      simp [Lit.wf, IntKind.min, IntKind.max, IntKind.signed, IntKind.bits] at this
      omega
    refine ⟨(zs.take len).map fun n => n.toNat, ⟨by simp; omega, hl, hm, (fun h => by cases h), fun hp => ?_⟩, fun y hy => ?_⟩
    · obtain ⟨b, off, spot⟩ := x
      have h0 := hc 0 (by omega)
      have hs : spot = .none := by simpa [Addr.add] using World.cell?_spot h0
      subst hs
      refine ⟨b, off, rfl, World.block_lt_of_cell? w _ (by simpa [Addr.add] using h0), fun i hi => ?_⟩
      have hci := hc i (by omega)
      have e : (⟨b, off, .none⟩ : Addr).add i = ⟨b, off + i, .none⟩ := by unfold Addr.add; split <;> simp_all
      rw [e] at hci
      rw [hci]
      have hlt : i < zs.length := by omega
      have hb := hbd zs[i] (List.getElem_mem _)
      have h1 : zs.getD i 0 = zs[i] := by simp [List.getD, hlt]
      rw [h1]
      simp [hi, hlt]
      omega
    · obtain ⟨n, hn, rfl⟩ := List.mem_map.1 hy
      have := hbd n (List.mem_of_mem_take hn)
      omega

end Go.Proofs.Ytpfdehjllnhllaa

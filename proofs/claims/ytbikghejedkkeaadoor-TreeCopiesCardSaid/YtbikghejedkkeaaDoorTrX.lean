/-
  THE i-TH NODE OF A TREE, LOOKED FOR: the law's pick, walked by induction on the tree.
-/
import Derived.Test.YtbikghejedkkeaaDoorTrW
namespace Go.Proofs.YtbikghejedkkeaaDoor
open Go.RowKit

def PickOk (T : Tr) : Prop := ∀ (V : NV) (w0 : World) (rb ro : Nat), NodeAt w0 V T → CellsAt w0 rb ro V → ∀ (w : World) (nb m k0 : Nat), w0.heap.size ≤ nb → Below w0.heap.size w0 w → Boxed w nb 3 (.int .i64 (m : Nat)) → m ≤ k0 → m + T.cnt ≤ 1000000 → k0 ≤ 1000000 →
  Calls Tryd.prog 31 #[.pointer (some ⟨rb, ro, none⟩), .pointer (some ⟨nb, 0, none⟩), .int .i64 (k0 : Nat)] w fun e w' => Below w0.heap.size w0 w' ∧
    ((∃ i pb po, k0 = m + i ∧ i < T.cnt ∧ e = .returned (.pointer (some ⟨pb, po, none⟩)) ∧ AtN w0 rb ro V T i pb po) ∨ (m + T.cnt ≤ k0 ∧ e = .returned (.pointer none) ∧ Boxed w' nb 3 (.int .i64 ((m + T.cnt : Nat) : Int))))

structure PckI (w0 : World) (nb m k0 : Nat) (ks : List Tr) (k : Nat) (wr : World) : Prop where
  below : Below w0.heap.size w0 wr
  box : Boxed wr nb 3 (.int .i64 ((m + 1 + cntL (ks.take k) : Nat) : Int))
  le : m + 1 + cntL (ks.take k) ≤ k0

set_option maxRecDepth 100000 in
set_option maxHeartbeats 8000000 in
theorem pick_of (c t : Int) (kk : Bool) (l : List Nat) (ks : List Tr) (hI : ∀ T ∈ ks, PickOk T) : PickOk (.mk c t kk l ks) := by
  intro V w0 rb ro hn hca w nb m k0 hnb hb hbox hmk hsz hk0
  have hkd := hn.kids
  obtain ⟨vc, vt, vk, ba, bl, bc, ka, kl, kc⟩ := V
  dsimp only at hkd
  simp only [Tr.kids] at hkd
  simp only [Tr.cnt] at hsz ⊢
  have hkl := Lib.hid hkd.length
  have hkle := hkd.le
  have hkm := hkd.max
  unfold maxLen at hkm
  have hlt := hca.lt
  have CA := Lib.hid hca
  have HB := Lib.hid hb
  have HKD := Lib.hid hkd
  have HI := Lib.hid hI
  have HBX := Lib.hid hbox
  have HNB := Lib.hid (And.intro hnb hlt)
  have HSZ := Lib.hid hsz
  have c0 := hbox.cell
  have f0 := hbox.frozen
  clear hn hb hkd hI hbox hca
  by_cases he : m = k0
  · subst he
    go_enter Tryd.func31, Tryd.ntmps31
    go_wp2_with fail
    go_ret
    exact ⟨HB.out, .inl ⟨0, rb, ro, rfl, by omega, rfl, .here _ _ _ _ CA.out⟩⟩
  · have hlt2 : m < k0 := by omega
    have hneq : ((m : Int) == (k0 : Int)) = false := by simp; omega
    have p4 := (CA.out.below HB.out HNB.out.2).c4
    dsimp only at p4
    have q4 : (w.setCell ⟨nb, 0, none⟩ (.int .i64 ((m : Int) + 1))).cell? ⟨rb, ro + 4, none⟩ = some (.slice ka kl kc) := (World.cell?_setCell_other w ⟨nb, 0, none⟩ ⟨rb, ro + 4, none⟩ _ (fun e => by have h9 := congrArg Addr.block e; dsimp only at h9; have := HNB.out; omega)).trans p4
    have HW1 := Lib.hid (show PckI w0 nb m k0 ks 0 (w.setCell ⟨nb, 0, none⟩ (.int .i64 ((m : Int) + 1))) from ⟨HB.out.setCell (p := ⟨nb, 0, none⟩) HNB.out.1 _, by have := HBX.out.set (.int .i64 ((m : Int) + 1)); simpa [cntL] using this, by simp [cntL]; omega⟩)
    clear he
    go_enter Tryd.func31, Tryd.ntmps31
    go_wp2_with fail
    go_loopw [26] (fun i wr => ∃ k : Nat, k ≤ kl ∧ i = .int .i64 (k : Int) ∧ PckI w0 nb m k0 ks k wr) (fun i _ => kl - (intOf i).toNat)
    case atStart => exact ⟨0, Nat.zero_le _, rfl, HW1.out⟩
    case round =>
      obtain ⟨k, hk, rfl, hr⟩ := hrel
      have HRL := Lib.hid hr
      have p4 := (CA.out.below hr.below HNB.out.2).c4
      dsimp only at p4
      clear hr c0 f0 q4 HW1 hneq
      by_cases hlt3 : k < kl
      · have hk1 : k < ks.length := by rw [hkl.out]; exact hlt3
        obtain ⟨U, hc, hnu⟩ := HKD.out.cells
        obtain ⟨b1, o1, rfl, hb1, hcell⟩ := hc (by omega)
        have HCK := Lib.hid (hcell k hlt3)
        have HTK := Lib.hid (cntL_take ks k hk1)
        have HLE := Lib.hid (cntL_take_le ks (k + 1))
        have HOK := Lib.hid (HI.out ks[k] (List.getElem_mem hk1) (U k) w0 b1 (o1 + k * 5) (hnu k hk1) (hcell k hlt3) wr nb (m + 1 + cntL (ks.take k)) k0 HNB.out.1 HRL.out.below HRL.out.box HRL.out.le (by have := HTK.out; have := HLE.out; have := HSZ.out; omega) hk0)
        clear hc hnu hcell hb1
        go_wp2_with fail
        refine HOK.out.mono ?_
        rintro e w4 ⟨hb4, hf⟩
        have HB4 := Lib.hid hb4
        clear HOK hb4 p4
        rcases hf with ⟨i, pb, po, h1, h2, rfl, h4⟩ | ⟨h1, rfl, h3⟩
        · have HF := Lib.hid (And.intro h1 (And.intro h2 h4))
          clear h1 h2 h4
          go_wp2_with fail
          go_ret
          exact ⟨HB4.out, .inl ⟨cntL (ks.take k) + i + 1, pb, po, by have := HF.out.1; omega, by have := HF.out.2.1; have := HTK.out; have := HLE.out; omega, rfl, .kid _ _ _ (.mk c t kk l ks) b1 o1 k (U k) i pb po CA.out rfl hk1 HF.out.2.1 HF.out.2.2⟩⟩
        · have HF := Lib.hid (And.intro h1 h3)
          clear h1 h3
          go_wp2_with fail
          go_roundw
          case rel => exact ⟨k + 1, by omega, by go_num, HB4.out, by rw [HTK.out, ← Nat.add_assoc]; exact HF.out.2, by rw [HTK.out, ← Nat.add_assoc]; exact HF.out.1⟩
          case measure => simp [intOf]; omega
      · obtain rfl : k = kl := by omega
        have HE := Lib.hid (show ks.take k = ks by rw [List.take_of_length_le (by rw [hkl.out]; exact Nat.le_refl _)])
        clear hlt3
        go_wp2_with fail
        go_ret
        exact ⟨HRL.out.below, .inr ⟨by have := HRL.out.le; rw [HE.out] at this; omega, rfl, by have := HRL.out.box; rw [HE.out] at this; rw [show m + (cntL ks + 1) = m + 1 + cntL ks from by omega]; exact this⟩⟩

theorem pick_ok : ∀ (n : Nat) (T : Tr), T.wt ≤ n → PickOk T
  | 0, T, h => by have := T.wt_pos; omega
  | n + 1, .mk c t k l ks, h => by
    simp only [Tr.wt] at h
    exact pick_of c t k l ks (fun T hT => pick_ok n T (by have := wtL_mem hT; omega))

end Go.Proofs.YtbikghejedkkeaaDoor

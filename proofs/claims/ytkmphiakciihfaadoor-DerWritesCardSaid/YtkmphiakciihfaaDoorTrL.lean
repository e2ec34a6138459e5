/-
  COPIES OF TREES: tree.Copy and tree.copies, by induction on the tree; tree.Cons.
-/
import Derived.Test.YtkmphiakciihfaaDoorTrJ
namespace Go.Proofs.YtkmphiakciihfaaDoor
open Go.RowKit

/-- A row of nodes is handed back, in memory of the call's own. -/
def RetsKids (B : Nat) (w' : World) (ks : List Tr) (e : Ending) : Prop := ∃ v, e = .returned v ∧ MineK 5 25 w' (fun g => B ≤ g) v ks

/-- What Copy does with this tree. -/
def CopyOk (T : Tr) : Prop := ∀ (V : NV) (w : World), NodeAt w V T → Calls Tryd.prog 42 #[V.agg] w fun e w' => RetsNode w.heap.size w' T e ∧ Below w.heap.size w w'

def CopI (w : World) (ks : List Tr) (v : Value) (wr : World) : Prop := MineK 5 25 wr (fun g => w.heap.size ≤ g) v ks ∧ Below w.heap.size w wr

set_option maxRecDepth 100000 in
set_option maxHeartbeats 2000000 in
theorem copies_of (ks : List Tr) (hI : ∀ T ∈ ks, CopyOk T) (a : Option Addr) (len cap : Nat) (w : World) (h : NodesAt w a len cap ks) (hm : len ≤ 1000000) :
    Calls Tryd.prog 47 #[.slice a len cap] w fun e w' => RetsKids w.heap.size w' ks e ∧ Below w.heap.size w w' := by
  obtain ⟨i0, hi, hz0, hz1, hz2⟩ := info_parts Tryd.infoNode
  have hl := Lib.hid h.length
  have H := Lib.hid h
  have HI := Lib.hid hI
  clear h hI
  go_enter Tryd.func47, Tryd.ntmps47
  go_wp2_with fail
  go_loopw [3, 8] (fun v i wr => ∃ k : Nat, k ≤ len ∧ i = .int .i64 (k : Int) ∧ CopI w (ks.take k) v wr) (fun _ i _ => len - (intOf i).toNat)
  case atStart => exact ⟨0, Nat.zero_le _, rfl, MineK.nil _ _ _ _, Below.refl _ _⟩
  case round =>
    obtain ⟨k, hk, rfl, hr⟩ := hrel
    have HR := Lib.hid hr
    clear hr
    by_cases hlt : k < len
    · obtain ⟨U, hc, hn⟩ := H.out.cells
      obtain ⟨b, off, rfl, hb, hcell⟩ := hc (by omega)
      have hkl : k < ks.length := by rw [hl.out]; exact hlt
      have hck := (hcell k hlt).below HR.out.2 hb
      have hnk := (hn k hkl).under HR.out.2
      obtain ⟨V, hV⟩ : ∃ V, U k = V := ⟨_, rfl⟩
      rw [hV] at hck hnk
      obtain ⟨c, t, kk, ba, bl, bc, ka, kl, kc⟩ := V
      have q0 := hck.c0
      have q1 := hck.c1
      have q2 := hck.c2
      have q3 := hck.c3
      have q4 := hck.c4
      dsimp only at q0 q1 q2 q3 q4
      obtain ⟨T, hT⟩ : ∃ T, ks[k] = T := ⟨_, rfl⟩
      have htk : ks.take (k + 1) = ks.take k ++ [T] := by rw [List.take_succ_eq_append_getElem hkl, hT]
      rw [hT] at hnk
      have HTK := Lib.hid htk
      have hok := HI.out T (hT ▸ List.getElem_mem hkl)
      have hb1 : Below wr.heap.size wr (wr.alloc (.cells #[.int .i64 c, .int .i64 t, .bool kk, .slice ba bl bc, .slice ka kl kc] 25)) := (Below.refl _ _).alloc (Nat.le_refl _) _
      have HC := Lib.hid (hok _ _ (hnk.under hb1))
      have HB1 := Lib.hid hb1
      have hlk : (ks.take k).length = k := by rw [List.length_take, hl.out]; omega
      have HLK := Lib.hid hlk
      clear hc hn hcell hV hb htk hok hb1 hnk hT hkl hck hlk
      go_wp2_with fail
      refine HC.out.mono ?_
      rintro e w2 ⟨⟨V2, rfl, hm2⟩, hb2⟩
      obtain ⟨c2, t2, kk2, ba2, bl2, bc2, ka2, kl2, kc2⟩ := V2
      unfold NV.agg
      dsimp only
      have hz2' : wr.heap.size + 1 ≤ w2.heap.size := by have := hb2.size; simpa using this
      have HM2 := Lib.hid hm2
      have HB2 := Lib.hid hb2
      have HZ2 := Lib.hid hz2'
      clear hm2 hb2 hz2' q0 q1 q2 q3 q4
      have hbw : Below wr.heap.size wr (w2.alloc (.cells #[.int .i64 c2, .int .i64 t2, .bool kk2, .slice ba2 bl2 bc2, .slice ka2 kl2 kc2] 25)) := (HB1.out.trans (HB2.out.mono (by simp))).alloc (by have := HZ2.out; omega) _
      have hmk := (HR.out.1.narrow.under hbw).wide (S' := fun g => w.heap.size ≤ g ∧ g < wr.heap.size) (fun g hg => hg)
      have hmt := (HM2.out.narrow.under ((Below.refl w2.heap.size w2).alloc (Nat.le_refl _) (.cells #[.int .i64 c2, .int .i64 t2, .bool kk2, .slice ba2 bl2 bc2, .slice ka2 kl2 kc2] 25)))
      have hcs : CellsAt (w2.alloc (.cells #[.int .i64 c2, .int .i64 t2, .bool kk2, .slice ba2 bl2 bc2, .slice ka2 kl2 kc2] 25)) w2.heap.size 0 ⟨c2, t2, kk2, ba2, bl2, bc2, ka2, kl2, kc2⟩ := by
        constructor <;> simp
      have HMK := Lib.hid hmk
      have HMT := Lib.hid hmt
      have HCS := Lib.hid hcs
      have HBW := Lib.hid hbw
      clear hmk hmt hcs hbw
      go_wp2_with (at_builtin; refine wpList_append_node _ rfl _ _ 23 rfl 5 25 i0 Tryd.underlying23 hi hz0 hz1 hz2 _ rfl _ (ks.take k) HMK.out (fun g hg => by have := hg.2; have := HBW.out.size; omega) w2.heap.size rfl _ HCS.out T _ HMT.out (fun g hg => ⟨by have := hg.2; simp; omega, fun h => by have := hg.1; have := h.2; simp at *; omega⟩) (by rw [HLK.out]; omega) ?_; intro v' w3 hm3 hg3 hs3)
      have HM3 := Lib.hid hm3
      have HG3 := Lib.hid hg3
      clear hm3 hg3 hs3
      go_roundw
      case rel =>
        refine ⟨k + 1, by omega, by go_num, ?_, ?_⟩
        · rw [HTK.out]
          exact HM3.out.wide fun g hg => by
            have hsz := HR.out.2.size
            rcases hg with h | h | h
            · exact h.1
            · have := h.1; simp at this; omega
            · have := HZ2.out; simp at h; omega
        · exact HG3.out _ _ (fun g hg => hg.1) (by have := HR.out.2.size; have := HBW.out.size; omega) (HR.out.2.trans (HBW.out.mono HR.out.2.size))
      case measure => simp [intOf]; omega
    · obtain rfl : k = len := by omega
      go_wp2_with fail
      go_ret
      rw [show ks.take k = ks from List.take_of_length_le (by rw [hl.out]; exact Nat.le_refl _)] at HR
      exact ⟨⟨_, rfl, HR.out.1⟩, HR.out.2⟩

end Go.Proofs.YtkmphiakciihfaaDoor

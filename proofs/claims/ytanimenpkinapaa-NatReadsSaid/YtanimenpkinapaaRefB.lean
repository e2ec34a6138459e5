/-
  THE REFERENCE's Read.
-/
import Derived.Test.YtanimenpkinapaaRefA
namespace Go.Proofs.Ytanimenpkinapaa
open Go.RowKit
namespace rf

set_option maxRecDepth 100000 in
set_option maxHeartbeats 1000000 in
theorem read_any (a : Option Addr) (len cap : Nat) (l : List Nat) (w : World) (h : Reads .u8 w a len cap l) (hL : Byt l) (hm : len ≤ 1000000000000) :
    Calls Try.prog 16 #[.slice a len cap] w fun e w' => RetsQ2 .u32 54 w.heap.size w' (cutR32 (valB 256 l.reverse)) e ∧ Below w.heap.size w w' := by
  obtain ⟨i0, hi, hz0, hz1, hz2⟩ := info_parts infoI
  have HN := Lib.hid h.length
  have HRD := Lib.hid h
  have HBT := Lib.hid hL
  have HBR := Lib.hid (show Byt l.reverse from fun x hx => hL x (List.mem_reverse.1 hx))
  clear h hL
  go_enter Try.func16, Try.ntmps16
  go_wp2
  go_loopw [4, 5] (fun v i wr => ∃ k : Nat, ((∃ j : Nat, i = .int .i64 j ∧ j + k + 1 = len) ∨ (i = .int .i64 (-1) ∧ k = len)) ∧ OwnQ .i64 3 w.heap.size wr v (l.reverse.take k) ∧ Hid (Below w.heap.size w wr)) (fun _ i _ => (intOf i + 1).toNat)
  case atStart => exact ⟨0, down_start len, by simpa using OwnQ.nil _ _ _ _, Below.refl _ _⟩
  case round =>
    obtain ⟨k, hj, hown, hbel⟩ := hrel
    obtain ⟨wo, rfl⟩ : ∃ wo : World, wo = wr := ⟨_, rfl⟩
    obtain ⟨v2, n2, c2, rfl, -, hown⟩ := own_slice hown
    rcases hj with ⟨j, rfl, hjk⟩ | ⟨rfl, hkn⟩
    · obtain ⟨b, off, rfl, hbk, hc⟩ := (HRD.out.below hbel.out).cells (by omega)
      have hck := hc j (by omega)
      have hd := get_lt (by decide) HBT.out j
      have hrs := Lib.hid (rev_succ l j k (by rw [HN.out]; exact hjk))
      have hsz := hbel.out.size
      have HO := Lib.hid hown
      have HJK := Lib.hid hjk
      have hjn : j < len := by omega
      have hlen := Lib.hid (show (l.reverse.take k).length ≤ len by rw [List.length_take, List.length_reverse, HN.out]; omega)
      clear hc hown hjk
      generalize l[j]?.getD 0 = d at *
      go_wp2_with (at_builtin; refine wpList_append_q .i64 _ rfl _ _ 33 rfl w.heap.size 3 8 i0 Try.underlying33 hi hz0 hz1 hz2 (by decide) _ (l.reverse.take k) rfl (HO.out.alloc _) _ _ _ [d] rfl (Reads.one .i64 _ _ _ _ (by omega)) (by have := hlen.out; omega) (by simp; omega) ?_; intro v' w2 hown2 hgrow)
      go_roundw
      case rel => exact ⟨k + 1, down_next HJK.out, by rw [hrs.out]; exact hown2, hgrow _ (hbel.out.alloc hsz _)⟩
      case measure => simp [intOf] <;> omega
    · have hfin := Lib.hid (show l.reverse.take k = l.reverse by rw [List.take_of_length_le]; rw [List.length_reverse, HN.out]; omega)
      rw [hfin.out] at hown
      have HC := Lib.hid (cut_any _ _ _ l.reverse _ hown.reads HBR.out)
      have hsz := hbel.out.size
      clear hkn hown
      go_wp2_with fail
      refine HC.out.mono ?_
      rintro e w3 ⟨⟨v3, rfl, ho3⟩, hb3⟩
      have HBZ := Lib.hid (hbel.out.trans (hb3.mono hsz))
      go_wp2
      go_ret2
      exact ⟨⟨_, rfl, ho3.mono hsz⟩, HBZ.out⟩

end rf

end Go.Proofs.Ytanimenpkinapaa
